/-
  Copies of groups and Lookup of the model. Conditions: those in each contract.
-/
import Derived.Test.YtbcmoofpgffbhaaLB
import Derived.Maps.AppendAt
import Derived.Deep.RegionHeld
import Derived.Deep.MidRow
namespace Go.Proofs.Ytbcmoofpgffbhaa
open Go.ChangeShapes Go.WideShapes Go.ChangeAt Go.RowKit Go.BigFrame Go.Joins
set_option linter.unusedVariables false
set_option maxRecDepth 100000
set_option linter.unusedSimpArgs false
set_option maxRecDepth 100000

theorem run_appH (w : World) (ty : TypeId) (base : Nat) (v u : Value) (l m : List (Int × Int)) (hown : OwnHp w base v l) (hu : RdP w u m) (hlen : l.length + m.length ≤ 4294967296) (hbase : base ≤ w.heap.size) :
    ∃ v' w', (Builtin.append_ #[68, 68] ty #[v, u]).run Try.prog w = .ok v' w' ∧ OwnHp w' base v' (l ++ m) ∧ w.grownBy w' v.ownBlock := by
  obtain ⟨i0, hi, hz0, hz1, hz2⟩ := info_parts infoHp
  have hmap : (flat l).map (Value.int .i64) ++ (flat m).map (Value.int .i64) = (flat (l ++ m)).map (Value.int .i64) := by rw [flat_append, List.map_append]
  have hl2 : (l ++ m).length = l.length + m.length := by simp
  have done : ∀ (ad : Addr) (c : Nat), u = .slice (some ad) m.length c → (∀ j y, ((flat m).map (Value.int .i64))[j]? = some y → w.cell? (ad.add j) = some y) → ∃ v' w', (Builtin.append_ #[68, 68] ty #[v, u]).run Try.prog w = .ok v' w' ∧ OwnHp w' base v' (l ++ m) ∧ w.grownBy w' v.ownBlock := by
    rintro ad c rfl hc
    obtain ⟨v', w', hr, h2, h3, -, h5⟩ := run_append_own_at (P := Try.prog) (w := w) base 68 ty HpT i0 (.agg #[.int .i64 0, .int .i64 0]) 2 16 Try.underlying68 hi hz0 hz1 hz2 rfl (by decide) v l.length ((flat l).map (Value.int .i64)) hown ad m.length c ((flat m).map (Value.int .i64)) (by simp [flat_len]) hc (by simp [Value.oneCell']) (by unfold maxLen; omega) (by omega) hbase
    refine ⟨v', w', hr, ?_, h3⟩
    unfold OwnHp
    rw [hl2, ← hmap]
    exact h2
  obtain ⟨hm, ⟨p, c, hv, rfl, hac⟩ | ⟨b, off, c, hv, hp, hc⟩⟩ := hu
  · cases p with
    | none =>
      have hc0 := hac rfl
      subst hc0 hv
      exact ⟨v, w, run_append_owned_none (P := Try.prog) (w := w) base 68 ty HpT i0 2 Try.underlying68 hi v l.length ((flat l).map (Value.int .i64)) hown, by simpa using hown, ⟨rfl, rfl, rfl, Nat.le_refl _, fun _ _ _ => rfl⟩⟩
    | some ad => exact done ad c hv (by simp [flat])
  · refine done ⟨b, off, none⟩ c hv (fun j y hy => ?_)
    have hj : j < m.length * 2 := by
      have := (List.getElem?_eq_some_iff.1 hy).1
      rw [List.length_map, flat_len] at this
      exact this
    have hadd : (⟨b, off, none⟩ : Addr).add j = ⟨b, off + j, none⟩ := by unfold Addr.add; split <;> simp_all
    rw [hadd]
    obtain ⟨i, hi' | hi'⟩ : ∃ i, j = i * 2 ∨ j = i * 2 + 1 := ⟨j / 2, by omega⟩
    · have e := flat_get m i (by omega)
      subst hi'
      rw [List.getElem?_map, e.1] at hy
      rw [(hc i (by omega)).1]
      simpa using hy
    · have e := flat_get m i (by omega)
      subst hi'
      rw [List.getElem?_map, e.2] at hy
      rw [show off + (i * 2 + 1) = off + i * 2 + 1 by omega, (hc i (by omega)).2]
      simpa using hy
theorem step_appH {ops : Array Oper} {o : Oper} {a : Act} {K : Act → World → Prop} {Q : Exit → Act → World → Prop} {E : Prop} {w : World} (hgd : o.guard = none) (s x : Operand)
    (ho : o.op = .call { callee := .builtin .append, args := #[s, x], argTypes := #[68, 68] })
    (base : Nat) (v u : Value) (l m : List (Int × Int)) (hs : a.eval s = v) (hx : a.eval x = u) (hown : OwnHp w base v l) (hu : RdP w u m) (hlen : l.length + m.length ≤ 4294967296) (hbase : base ≤ w.heap.size)
    (h : ∀ v' w', OwnHp w' base v' (l ++ m) → w.grownBy w' v.ownBlock → K (a.put o.dst v') w') : if Region.wanted o (yielded ops a.tmps) = true then Oper.wp Try.prog o a w K Q else E := by
  have hw : Region.wanted o (yielded ops a.tmps) = true := by simp [Region.wanted, hgd]
  rw [if_pos hw]
  obtain ⟨v', w', hr, h2, h3⟩ := run_appH w o.type base v u l m hown hu hlen hbase
  unfold Oper.wp execOp
  simp only [ho, resolve, invoke, builtin, Sem.run_bind, Sem.run_pure, Result.andThen_ok, List.map_toArray, List.map_cons, List.map_nil, hs, hx, hr]
  exact h v' w' h2 h3
theorem own_emptyH (w : World) : OwnHp (w.alloc (.cells #[] HpT)) w.heap.size (.slice (some ⟨w.heap.size, 0, none⟩) 0 0) [] :=
  World.ownsRow_lit (e := HpT) (size := 2) w #[] 0 (Nat.le_refl _) (by simp) (by simp)
set_option maxHeartbeats 1000000 in
theorem sown7_any (hv : Value) (l : List (Int × Int)) (a n : Int) (w : World) (hp : RdP w hv l) (h2 : l.length ≤ 1048576) :
    Calls Try.prog 88 #[.agg #[.int .i64 a, .int .i64 n, hv]] w (NewGrp w l a n) := by
  obtain ⟨pa, px, rfl⟩ := hp.len
  obtain ⟨bA, bR, B1, z⟩ := two w [.int .i64 a, .int .i64 n, .slice pa l.length px] [.int .i64 0, .int .i64 0, .slice none 0 0] GI GI
  have hp1 := hp.keep B1
  obtain ⟨V, hV⟩ : ∃ V, V = (w.alloc (.cells #[.int .i64 a, .int .i64 n, .slice pa l.length px] GI)).alloc (.cells #[.int .i64 0, .int .i64 0, .slice none 0 0] GI) := ⟨_, rfl⟩
  go_enter Try.func88, Try.ntmps88
  go_wp2_with fail
  rw [← hV] at bA bR B1 z hp1 ⊢
  obtain ⟨A, hA⟩ : ∃ A, A = w.heap.size := ⟨_, rfl⟩
  obtain ⟨R, hR⟩ : ∃ R, R = w.heap.size + 1 := ⟨_, rfl⟩
  rw [← hA] at bA
  rw [← hR] at bR
  rw [← hR]
  try rw [← hA]
  have hAR : A ≠ R := by omega
  have hwR : w.heap.size ≤ R := by omega
  have hRV : R < V.heap.size := by rw [z]; omega
  have hwV : w.heap.size ≤ V.heap.size := by rw [z]; omega
  clear hA hR hV z
  refine wp_region_held_drew (S := fun w' => Bl w' A [.int .i64 a, .int .i64 n, .slice pa l.length px]) (by kernel_rfl) (bA.keep (over_drew _)) (fun hHeld => ?_)
  clear hHeld
  refine wpAnyH_take (i := 0) (v := ?_) rfl (by kernel_rfl) (by kernel_rfl) (by kernel_rfl) (fun _ _ _ h => h) (Or.inl ⟨by rfl, ?_⟩) (bA.keep (over_drew _)) ?_
  rotate_left
  · intro wq hSq
    (try dsimp only at hSq)

    go_simp
    try rfl
  change wpAnyH _ _ _ _ _ _ _ (Act.put _ (some 3) _) _
  simp only [Act.put, List.setIfInBounds_toArray, List.set_cons_succ, List.set_cons_zero]
  refine wpAnyH_take (i := 1) (v := ?_) rfl (by kernel_rfl) (by kernel_rfl) (by kernel_rfl) (fun _ _ _ h => h) (Or.inl ⟨by rfl, ?_⟩) (bA.keep (over_drew _)) ?_
  rotate_left
  · intro wq hSq
    (try dsimp only at hSq)
    have q0 := hSq.c 0 rfl
    have q1 := hSq.c 1 rfl
    go_simp
    try rfl
  change wpAnyH _ _ _ _ _ _ _ (Act.put _ (some 4) _) _
  simp only [Act.put, List.setIfInBounds_toArray, List.set_cons_succ, List.set_cons_zero]
  refine wpAnyH_take (i := 3) (v := ?_) rfl (by kernel_rfl) (by kernel_rfl) (by kernel_rfl) (fun _ _ _ h => h) (Or.inl ⟨by rfl, ?_⟩) (bA.keep (over_drew _)) ?_
  rotate_left
  · intro wq hSq
    (try dsimp only at hSq)

    go_simp
    try rfl
  change wpAnyH _ _ _ _ _ _ _ (Act.put _ (some 6) _) _
  simp only [Act.put, List.setIfInBounds_toArray, List.set_cons_succ, List.set_cons_zero]
  refine wpAnyH_take (i := 4) (v := ?_) rfl (by kernel_rfl) (by kernel_rfl) (by kernel_rfl) (fun _ _ _ h => h) (Or.inl ⟨by rfl, ?_⟩) (bA.keep (over_drew _)) ?_
  rotate_left
  · intro wq hSq
    (try dsimp only at hSq)
    have q2 := hSq.c 2 rfl
    go_simp
    try rfl
  change wpAnyH _ _ _ _ _ _ _ (Act.put _ (some 7) _) _
  simp only [Act.put, List.setIfInBounds_toArray, List.set_cons_succ, List.set_cons_zero]
  obtain ⟨D, hD⟩ : ∃ D, D = V.drew := ⟨_, rfl⟩
  have OD : Over V D := by rw [hD]; exact over_drew _
  rw [← hD]
  clear hD
  refine wpAnyH_ready (rs := [2]) (by kernel_rfl) (by simp) ?_
  refine (AllReadyH.cons rfl (fun K hK => ?_) AllReadyH.nil)
  go_simp
  have hE := own_emptyH D
  refine hK.out _ _ ((bA.keep OD).alloc _) (fun hHeld => ?_)
  clear hK K hHeld
  try simp only [Act.put, List.setIfInBounds_toArray, List.set_cons_zero, List.set_cons_succ]
  refine wpAnyH_ready (rs := [5]) (by kernel_rfl) (by simp) ?_
  refine (AllReadyH.cons rfl (fun K hK => ?_) AllReadyH.nil)
  refine step_appH rfl (.tmp 5) (.tmp 7) rfl D.heap.size (.slice (some ⟨D.heap.size, 0, none⟩) 0 0) (.slice pa l.length px) [] l rfl rfl hE ((hp1.keep OD).alloc _) (by simp; omega) (by simp) ?_
  intro v1 w1 ho1 hg1
  rw [List.nil_append] at ho1
  obtain ⟨x1, y1, rfl⟩ := ho1.lenS
  have hVD := OD.size
  have hAD : A < D.heap.size := Nat.lt_of_lt_of_le (bA.lt) hVD
  have bA1 := ((bA.keep OD).alloc (.cells #[] HpT)).grown hg1 (by simp [Value.ownBlock]; omega)
  have bR1 := ((bR.keep OD).alloc (.cells #[] HpT)).grown hg1 (by simp [Value.ownBlock]; omega)
  have B2 : Below w.heap.size w w1 := Below.grown ((below_step B1 OD).alloc (Nat.le_trans hwV hVD) (.cells #[] HpT)) hg1 (by simp; omega) (fun k hk => by simp [Value.ownBlock] at hk; omega)
  clear hg1 hE
  refine hK.out _ _ bA1 (fun hHeld => ?_)
  clear hK K hHeld
  try simp only [Act.put, List.setIfInBounds_toArray, List.set_cons_zero, List.set_cons_succ]
  refine wpAnyH_ready (rs := [6]) (by kernel_rfl) (by simp) ?_
  refine (AllReadyH.cons rfl (fun K hK => ?_) AllReadyH.nil)
  go_simp
  refine hK.out _ _ bA1 (fun hHeld => ?_)
  clear hK K hHeld
  try simp only [Act.put, List.setIfInBounds_toArray, List.set_cons_zero, List.set_cons_succ]
  refine wpAnyH_ready (rs := [7]) (by kernel_rfl) (by simp) ?_
  refine (AllReadyH.cons rfl (fun K hK => ?_) AllReadyH.nil)
  have r0 := bR1.c 0 rfl
  have r1 := bR1.c 1 rfl
  have r2 := bR1.c 2 rfl
  have rf0 := bR1.f 0 rfl
  have rf1 := bR1.f 1 rfl
  have rf2 := bR1.f 2 rfl
  go_simp
  refine hK.out _ _ (((bA1.far (C := R) (o := 0) hAR).far (C := R) (o := 1) hAR).far (C := R) (o := 2) hAR) (fun hHeld => ?_)
  clear hK K hHeld r0 r1 r2 rf0 rf1 rf2
  try simp only [Act.put, List.setIfInBounds_toArray, List.set_cons_zero, List.set_cons_succ]
  refine wpAnyH_done (by kernel_rfl) ?_ _
  have bE := ((bR1.set 0 (.int .i64 a)).set 1 (.int .i64 n)).set 2 (.slice x1 l.length y1)
  have e0 := bE.c 0 rfl
  have e1 := bE.c 1 rfl
  have e2 := bE.c 2 rfl
  go_wp2
  exact bodyPost_ret (v := .agg #[.int .i64 a, .int .i64 n, .slice x1 l.length y1]) (by simp [results, Try.results88, go_sem, e0, e1, e2]) rfl
    ⟨x1, y1, rfl, (((ho1.far (o := 0) (by omega)).far (o := 1) (by omega)).far (o := 2) (by omega)).mono (by omega), ((B2.setCell (p := ⟨R, 0, none⟩) hwR _).setCell (p := ⟨R, 1, none⟩) hwR _).setCell (p := ⟨R, 2, none⟩) hwR _⟩
end Go.Proofs.Ytbcmoofpgffbhaa
