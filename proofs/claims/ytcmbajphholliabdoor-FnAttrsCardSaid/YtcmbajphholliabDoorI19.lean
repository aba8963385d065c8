/-
  The library's Clone, Grow and Concat, and the program's set with one element more. Conditions: those in each contract.
-/
import Derived.Test.YtcmbajphholliabDoorI18
import Derived.Shelf.SlicesG.Clone
import Derived.Shelf.Spec.SlicesGrow
namespace Go.Proofs.YtcmbajphholliabDoor
open Go.ChangeShapes Go.WideShapes Go.ChangeAt Go.RowKit Go.BigFrame Go.Joins
set_option linter.unusedVariables false
set_option maxRecDepth 100000

def cloneRen : Go.Shelf.Ren := ⟨fun | 41 => 78 | n => n, fun | 4 => 4 | 22 => 88 | 23 => 3 | n => n, fun | n => n⟩
theorem cloneLays : Go.Proofs.SlLaysN.n41 Tryd.prog cloneRen := {
  mixed := by kernel_rfl
  f41 := ⟨"slices.Clone[loop.example/g00557/impl.set[int],int]", (by kernel_rfl), Tryd.func78.trans (congrArg some (by kernel_rfl))⟩
  t4 := Tryd.underlying4
  a4 := Tryd.isAgg4
  z4 := Tryd.sizeOf4
  v4 := Tryd.zeroValue4
  t22 := Tryd.underlying88
  a22 := Tryd.isAgg88
  z22 := Tryd.sizeOf88
  v22 := Tryd.zeroValue88
  t23 := Tryd.underlying3
  a23 := Tryd.isAgg3
  z23 := Tryd.sizeOf3
  v23 := Tryd.zeroValue3
  i23 := infoB_I }
def growRen : Go.Shelf.Ren := ⟨fun | 4 => 105 | n => n, fun | 0 => 0 | 3 => 3 | 4 => 4 | 9 => 9 | 20 => 20 | 22 => 88 | 25 => 3 | n => n, fun | n => n⟩
theorem growLays : Go.Proofs.Lays8.n4 Tryd.prog growRen := {
  mixed := by kernel_rfl
  f4 := ⟨"slices.Grow[loop.example/g00557/impl.set[int],int]", (by kernel_rfl), Tryd.func105.trans (congrArg some (by kernel_rfl))⟩
  t0 := Tryd.underlying0
  a0 := Tryd.isAgg0
  z0 := Tryd.sizeOf0
  v0 := Tryd.zeroValue0
  t3 := Tryd.underlying3
  a3 := Tryd.isAgg3
  z3 := Tryd.sizeOf3
  v3 := Tryd.zeroValue3
  t4 := Tryd.underlying4
  a4 := Tryd.isAgg4
  z4 := Tryd.sizeOf4
  v4 := Tryd.zeroValue4
  t9 := Tryd.underlying9
  a9 := Tryd.isAgg9
  z9 := Tryd.sizeOf9
  v9 := Tryd.zeroValue9
  t20 := Tryd.underlying20
  a20 := Tryd.isAgg20
  z20 := Tryd.sizeOf20
  v20 := Tryd.zeroValue20
  t22 := Tryd.underlying88
  a22 := Tryd.isAgg88
  z22 := Tryd.sizeOf88
  v22 := Tryd.zeroValue88
}
theorem clone_set (v : Value) (l : List Int) (w : World) (h : RdI w v l) (hpos : 0 < l.length) (hn : l.length ≤ 1048576) : Calls Tryd.prog 78 #[v] w (NewI w l) := by
  rcases h.2.2 with ⟨a, c, rfl, rfl, hac⟩ | ⟨b, o, c, rfl, hp, hc⟩
  · simp at hpos
  · refine (Go.Proofs.AnyG.slices_Clone_int cloneLays b o l.length c l w (Nat.le_refl _) (by omega) hc).mono ?_
    rintro e w' ⟨v', rfl, ho, -, hb⟩
    rw [List.take_length] at ho
    have ho' : OwnI w' w.heap.size v' l := ho
    obtain ⟨x, y, rfl⟩ := ho'.len
    exact ⟨x, y, rfl, ho', hb⟩
theorem grow_any (n : Nat) (w : World) (h0 : 0 < n) (hn : n ≤ 8) :
    Calls Tryd.prog 105 #[.slice none 0 0, .int .i64 n] w (NewI w []) := by
  obtain ⟨i0, hi, hz0, hz1, hz2⟩ := info_parts infoB_I
  refine (Go.Proofs.Any8.slices_Grow_grow growLays i0 (.int .i64 0) hi hz0 (by omega) none 0 0 n [] w (Nat.le_refl _) (by omega) (by rw [hz2]; omega) (by omega) (by simp) (fun _ => rfl) (by simp)).mono ?_
  rintro e w' ⟨rfl, rfl⟩
  have hge := grownCap_ge w (0 + n) 0 IT
  have hcm := grownCap_le_maxLen w (0 + n) 0 IT (by unfold maxLen; omega)
  refine ⟨_, _, rfl, ?_, ?_⟩
  · exact new_row w.drew _ 0 (grownCap w (0 + n) 0 IT) w.heap.size [] (Nat.le_refl _) (by
      rw [Array.size_append, Array.size_append, size_zeros, size_zeros]
      have e : growRen.t 25 = IT := rfl
      rw [e]
      simp
      simp at hge
      omega) (Nat.zero_le _) hcm rfl rfl
  · exact ((Below.refl _ _).drew).alloc (Nat.le_refl _) _
theorem wp_appS {ops : Array Oper} {rest : List Oper} {o : Oper} {a : Act} {Q : Exit → Act → World → Prop} {w : World} (hgd : o.guard = none) (s x : Operand)
    (ho : o.op = .call { callee := .builtin .append, args := #[s, x], argTypes := #[88, 88] })
    (base : Nat) (v u : Value) (l m : List Int) (hs : a.eval s = v) (hx : a.eval x = u) (hown : OwnI w base v l) (hu : RdI w u m) (hlen : l.length + m.length ≤ 4294967296) (hbase : base ≤ w.heap.size)
    (h : ∀ v' w', OwnI w' base v' (l ++ m) → w.grownBy w' v.ownBlock → wpList Tryd.prog ops Q rest (a.put o.dst v') w') : wpList Tryd.prog ops Q (o :: rest) a w := by
  obtain ⟨i0, hi, hz0, hz1, hz2⟩ := info_parts infoB_I
  have hmap : l.map (Value.int .i64) ++ m.map (Value.int .i64) = (l ++ m).map (Value.int .i64) := by simp
  have hl2 : (l ++ m).length = l.length + m.length := by simp
  have done : ∀ (ad : Addr) (c : Nat), u = .slice (some ad) m.length c → (∀ j y, (m.map (Value.int .i64))[j]? = some y → w.cell? (ad.add j) = some y) → wpList Tryd.prog ops Q (o :: rest) a w := by
    intro ad c hv hc
    refine wpList_append_own w hgd s x 88 ho base IT i0 (.int .i64 0) 1 8 Tryd.underlying88 hi hz0 hz1 hz2 rfl (by decide) v l.length (l.map (Value.int .i64)) hs hown ad m.length c (m.map (Value.int .i64)) (hx.trans hv) (by simp) hc (by simp [Value.oneCell']) (by unfold maxLen; omega) (by omega) hbase ?_
    intro v' w' ho' hg' _
    refine h v' w' ?_ hg'
    unfold OwnI
    rw [hl2, ← hmap]
    exact ho'
  obtain ⟨hb, hm, ⟨p, c, hv, rfl, hac⟩ | ⟨b, off, c, hv, hp, hc⟩⟩ := hu
  · cases p with
    | none =>
      have hc0 := hac rfl
      subst hc0
      refine wpList_append_own_none hgd s x 88 ho base IT i0 1 Tryd.underlying88 hi v l.length (l.map (Value.int .i64)) hs hown (hx.trans hv) ?_
      exact h v w (by simpa using hown) ⟨rfl, rfl, rfl, Nat.le_refl _, fun _ _ _ => rfl⟩
    | some ad => exact done ad c hv (by simp)
  · refine done ⟨b, off, none⟩ c hv (fun j y hy => ?_)
    have hj : j < m.length := by
      have := (List.getElem?_eq_some_iff.1 hy).1
      simpa using this
    have hadd : (⟨b, off, none⟩ : Addr).add j = ⟨b, off + j, none⟩ := by unfold Addr.add; split <;> simp_all
    rw [hadd, hc j hj]
    simpa [List.getD, hj] using hy

theorem concat_any (a b c : Value) (l m k : List Int) (g : Nat) (w : World) (ha : RdI w a l) (hb : RdI w b m) (hc : RdI w c k) (hn : l.length + m.length + k.length ≤ 8) (hpos : 0 < l.length + m.length + k.length)
    (c0 : w.cell? ⟨g, 0, none⟩ = some a) (c1 : w.cell? ⟨g, 1, none⟩ = some b) (c2 : w.cell? ⟨g, 2, none⟩ = some c) :
    Calls Tryd.prog 79 #[.slice (some ⟨g, 0, none⟩) 3 3] w (NewI w (l ++ m ++ k)) := by
  obtain ⟨aa, ac, rfl⟩ := ha.len
  obtain ⟨ba, bc, rfl⟩ := hb.len
  obtain ⟨ca, cc, rfl⟩ := hc.len
  obtain ⟨N, hN⟩ : ∃ N, N = l.length + m.length + k.length := ⟨_, rfl⟩
  have HS := Lib.hid (show (l.length : Int) + (m.length : Int) + (k.length : Int) = (N : Int) by omega)
  have hN0 : 0 < N := by omega
  have hN8 : N ≤ 8 := by omega
  have hN9 := Lib.hid hN
  clear hN hpos
  go_enter Tryd.func79, Tryd.ntmps79
  go_wp2_with fail
  refine wp_loop_rounds 4 ?_
  rw [rounds_succ]
  go_wp2_with fail
  rw [rounds_succ]
  go_wp2_with fail
  rw [rounds_succ]
  go_wp2_with fail
  rw [rounds_succ]
  go_wp2_with fail
  rw [HS.out]
  refine (grow_any N w hN0 hN8).mono ?_
  rintro e w1 ⟨x0, y0, rfl, ho, hB⟩
  have d0 := cell_keep hB (World.block_lt_of_cell? w _ c0) c0
  have d1 := cell_keep hB (World.block_lt_of_cell? w _ c1) c1
  have d2 := cell_keep hB (World.block_lt_of_cell? w _ c2) c2
  have z0 := c0
  have z1 := c1
  have z2 := c2
  clear c0 c1 c2
  have Z0 := Lib.hid z0
  have Z1 := Lib.hid z1
  have Z2 := Lib.hid z2
  clear z0 z1 z2
  go_wp2_with fail
  refine wp_loop_rounds 4 ?_
  rw [rounds_succ]
  go_wp2_with (at_builtin; refine Hid.out ?_)
  refine Lib.hid ?_
  refine wp_appS rfl (.tmp 31) (.tmp 32) rfl w.heap.size (.slice x0 (0) y0) (.slice aa l.length ac) ([]) l rfl rfl ho (ha.keep hB) (by simp; omega) hB.size ?_
  intro v1 w2 ho1 hg1
  obtain ⟨x1, y1, hv1⟩ := ho1.len
  simp only [List.nil_append] at hv1
  subst hv1
  have hB1 := Below.grown hB hg1 hB.size (fun k hk => (World.ownsRow.lt ho k hk).1)
  clear hg1
  replace d1 := cell_keep hB1 (World.block_lt_of_cell? w _ Z1.out) Z1.out
  go_wp2_with fail
  rw [rounds_succ]
  go_wp2_with (at_builtin; refine Hid.out ?_)
  refine Lib.hid ?_
  refine wp_appS rfl (.tmp 31) (.tmp 32) rfl w.heap.size (.slice x1 (l.length) y1) (.slice ba m.length bc) ([] ++ l) m rfl rfl ho1 (hb.keep hB1) (by simp; omega) hB1.size ?_
  intro v2 w3 ho2 hg2
  obtain ⟨x2, y2, hv2⟩ := ho2.len
  simp only [List.length_append, List.nil_append] at hv2
  subst hv2
  have hB2 := Below.grown hB1 hg2 hB1.size (fun k hk => (World.ownsRow.lt ho1 k hk).1)
  clear hg2
  replace d2 := cell_keep hB2 (World.block_lt_of_cell? w _ Z2.out) Z2.out
  go_wp2_with fail
  rw [rounds_succ]
  go_wp2_with (at_builtin; refine Hid.out ?_)
  refine Lib.hid ?_
  refine wp_appS rfl (.tmp 31) (.tmp 32) rfl w.heap.size (.slice x2 (l.length + m.length) y2) (.slice ca k.length cc) ([] ++ l ++ m) k rfl rfl ho2 (hc.keep hB2) (by simp; omega) hB2.size ?_
  intro v3 w4 ho3 hg3
  obtain ⟨x3, y3, hv3⟩ := ho3.len
  simp only [List.length_append, List.nil_append] at hv3
  subst hv3
  have hB3 := Below.grown hB2 hg3 hB2.size (fun k hk => (World.ownsRow.lt ho2 k hk).1)
  clear hg3
  go_wp2_with fail
  rw [rounds_succ]
  go_wp2
  go_ret
  refine ⟨x3, y3, ?_, ?_, hB3⟩
  · rw [List.length_append, List.length_append]; rfl
  · rw [List.length_append, List.length_append]; simpa using ho3
end Go.Proofs.YtcmbajphholliabDoor
