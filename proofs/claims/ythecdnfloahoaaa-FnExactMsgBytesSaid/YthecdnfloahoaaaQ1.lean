/-
  Bytes of a message: what the program and the model append for a number, a list of numbers, a list of prefixes. Conditions: those in each contract.
-/
import Derived.Test.YthecdnfloahoaaaN1
import Derived.Test.YthecdnfloahoaaaW7
import Derived.Test.YthecdnfloahoaaaI5
namespace Go.Proofs.Ythecdnfloahoaaa
open Go.ChangeShapes Go.WideShapes Go.ChangeAt Go.RowKit Go.BigFrame
set_option linter.unusedVariables false
set_option maxRecDepth 100000
set_option linter.unusedSimpArgs false

def two2 (n : Int) : List Int := [n / 256, n % 256]
/-- v2 lies where v lies, or in a block that w has not -/
def Rw (w : World) (v v2 : Value) : Prop := v2.ownBlock = v.ownBlock ∨ ∀ k, v2.ownBlock = some k → w.heap.size ≤ k
theorem Rw.refl (w : World) (v : Value) : Rw w v v := .inl rfl
theorem row_step {w w1 w2 : World} {v v1 v2 : Value} (h1 : w.grownBy w1 v.ownBlock) (r1 : Rw w v v1) (h2 : w1.grownBy w2 v1.ownBlock) (r2 : Rw w1 v1 v2) : w.grownBy w2 v.ownBlock ∧ Rw w v v2 := by
  refine ⟨⟨h2.os.trans h1.os, h2.tape.trans h1.tape, h2.output.trans h1.output, Nat.le_trans h1.size h2.size, fun i hi hne => ?_⟩, ?_⟩
  · refine (h2.block i (Nat.lt_of_lt_of_le hi h1.size) ?_).trans (h1.block i hi hne)
    rcases r1 with r1 | r1
    · rw [r1]; exact hne
    · intro e
      have := r1 i e.symm
      omega
  · rcases r2 with r2 | r2
    · rcases r1 with r1 | r1
      · exact .inl (r2.trans r1)
      · exact .inr fun k hk => r1 k (r2 ▸ hk)
    · exact .inr fun k hk => Nat.le_trans h1.size (r2 k hk)
theorem Rw.later {w w1 : World} {v v2 : Value} (hs : w.heap.size ≤ w1.heap.size) (r : Rw w1 v v2) : Rw w v v2 := by
  rcases r with r | r
  · exact .inl r
  · exact .inr fun k hk => Nat.le_trans hs (r k hk)
/-- the row v of the call's own holds l now -/
def AppR (w : World) (v : Value) (base : Nat) (l : List Int) (e : Ending) (w' : World) : Prop := ∃ v', e = .returned v' ∧ Own w' base v' l ∧ w.grownBy w' v.ownBlock ∧ Rw w v v'
/-- append's own law, and where the row lies behind it -/
theorem run_app2 (w : World) (ty : TypeId) (base : Nat) (v : Value) (l m : List Int) (ad : Addr) (c : Nat) (hown : Own w base v l) (hc : ∀ j y, (m.map (Value.int .u8))[j]? = some y → w.cell? (ad.add j) = some y) (hlen : l.length + m.length ≤ 4294967296) (hbase : base ≤ w.heap.size) :
    ∃ v' w', (Builtin.append_ #[22, 22] ty #[v, .slice (some ad) m.length c]).run Try.prog w = .ok v' w' ∧ Own w' base v' (l ++ m) ∧ w.grownBy w' v.ownBlock ∧ Rw w v v' := by
  obtain ⟨i0, hi, hz0, hz1, hz2⟩ := info_parts infoB
  have hmap : l.map (Value.int .u8) ++ m.map (Value.int .u8) = (l ++ m).map (Value.int .u8) := by simp
  have hl2 : (l ++ m).length = l.length + m.length := by simp
  have hrun := fun (b : Nat) (hb : b ≤ w.heap.size) (hown : Own w b v l) => run_append_own (P := Try.prog) w b 22 ty BT i0 (.int .u8 0) 1 1 Try.underlying22 hi hz0 hz1 hz2 rfl (by decide) v l.length (l.map (Value.int .u8)) hown ad m.length c (m.map (Value.int .u8)) (by simp) hc (by simp [Value.oneCell']) (by unfold maxLen; omega) (by omega) hb
  obtain ⟨v', w', hr, h2, h3, h4⟩ := hrun base hbase hown
  refine ⟨v', w', hr, ?_, h3, ?_⟩
  · unfold Own
    rw [hl2, ← hmap]
    exact h2
  · rcases hown.2 with ⟨hv0, hn⟩ | ⟨g, cap, cur, hv0, hbg, hg, hnc, hcm, hcs, htake⟩
    · have hl : l = [] := List.eq_nil_of_length_eq_zero hn
      subst hl
      obtain ⟨v2, w2, hr2, k2, -, -⟩ := hrun w.heap.size (Nat.le_refl _) (by subst hv0; exact World.ownsRow_nil w _ _ _)
      rw [hr] at hr2
      injection hr2 with e1 e2
      subst e1 e2
      exact .inr fun k hk => (World.ownsRow.lt k2 k hk).1
    · have holds : ∀ j u, (l.map (Value.int .u8))[j]? = some u → w.cell? ((⟨g, 0, none⟩ : Addr).add j) = some u := hown.cells (g := g) (by rw [hv0]; rfl)
      subst hv0
      by_cases hroom : l.length + m.length ≤ cap
      · have hr2 := run_append_room (P := Try.prog) w 22 ty BT i0 Try.underlying22 hi g l.length cap cur hg ad m.length c (m.map (Value.int .u8)) (by simp [hz1]) hc (by simp [Value.oneCell']) hroom (by rw [hcs, List.length_map, hz1]; omega)
        rw [hr] at hr2
        injection hr2 with e1 e2
        subst e1
        exact .inl rfl
      · have hr2 := run_append_grow (P := Try.prog) w 22 ty BT i0 (.int .u8 0) Try.underlying22 hi hz0 ⟨g, 0, none⟩ l.length cap (l.map (Value.int .u8)) (by simp [hz1]) holds ad m.length c (m.map (Value.int .u8)) (by simp [hz1]) hc (by omega) (by omega) (growslice_fits (by omega) (by rw [hz2]; omega))
        rw [hr] at hr2
        injection hr2 with e1 e2
        subst e1
        exact .inr fun k hk => by simp [Value.ownBlock] at hk; omega
theorem rd_cells {w : World} {b off : Nat} {m : List Int} (hc : ∀ i, i < m.length → w.cell? ⟨b, off + i, none⟩ = some (.int .u8 (m.getD i 0))) : ∀ j y, (m.map (Value.int .u8))[j]? = some y → w.cell? ((⟨b, off, none⟩ : Addr).add j) = some y := by
  intro j y hy
  have hj : j < m.length := by
    have := (List.getElem?_eq_some_iff.1 hy).1
    simpa using this
  have hadd : (⟨b, off, none⟩ : Addr).add j = ⟨b, off + j, none⟩ := by unfold Addr.add; split <;> simp_all
  rw [hadd, hc j hj]
  simpa [List.getD, hj] using hy
/-- append(s, x...): s is the call's own, x reads as m; it goes on where it lay, or in a new block -/
theorem wp_app2 {ops : Array Oper} {rest : List Oper} {o : Oper} {a : Act} {Q : Exit → Act → World → Prop} {w : World} (hgd : o.guard = none) (s x : Operand)
    (ho : o.op = .call { callee := .builtin .append, args := #[s, x], argTypes := #[22, 22] })
    (base : Nat) (v u : Value) (l m : List Int) (hs : a.eval s = v) (hx : a.eval x = u) (hown : Own w base v l) (hu : Rd w u m) (hlen : l.length + m.length ≤ 4294967296) (hbase : base ≤ w.heap.size)
    (h : ∀ v' w', Own w' base v' (l ++ m) → w.grownBy w' v.ownBlock → Rw w v v' → wpList Try.prog ops Q rest (a.put o.dst v') w') : wpList Try.prog ops Q (o :: rest) a w := by
  obtain ⟨i0, hi, hz0, hz1, hz2⟩ := info_parts infoB
  have done : ∀ (ad : Addr) (c : Nat), u = .slice (some ad) m.length c → (∀ j y, (m.map (Value.int .u8))[j]? = some y → w.cell? (ad.add j) = some y) → wpList Try.prog ops Q (o :: rest) a w := by
    intro ad c hv hc
    obtain ⟨v', w', hr, h2, h3, h4⟩ := run_app2 w o.type base v l m ad c hown hc hlen hbase
    refine wpList_plain hgd fun K hK => ?_
    unfold Oper.wp execOp
    simp only [ho, resolve, invoke, builtin, Sem.run_bind, Sem.run_pure, Result.andThen_ok, List.map_toArray, List.map_cons, List.map_nil, hs, hx.trans hv, hr]
    exact hK _ _ (h v' w' h2 h3 h4)
  obtain ⟨hb, hm, ⟨p, c, hv, rfl, hac⟩ | ⟨b, off, c, hv, hp, hc⟩⟩ := hu
  · cases p with
    | none =>
      have hc0 := hac rfl
      subst hc0
      refine wpList_append_own_none hgd s x 22 ho base BT i0 1 Try.underlying22 hi v l.length (l.map (Value.int .u8)) hs hown (hx.trans hv) ?_
      exact h v w (by simpa using hown) ⟨rfl, rfl, rfl, Nat.le_refl _, fun _ _ _ => rfl⟩ (Rw.refl _ _)
    | some ad => exact done ad c hv (by simp)
  · exact done ⟨b, off, none⟩ c hv (rd_cells hc)
theorem step_app2 {ops : Array Oper} {o : Oper} {a : Act} {K : Act → World → Prop} {Q : Exit → Act → World → Prop} {E : Prop} {w : World} (hgd : o.guard = none) (s x : Operand)
    (ho : o.op = .call { callee := .builtin .append, args := #[s, x], argTypes := #[22, 22] })
    (base : Nat) (v u : Value) (l m : List Int) (hs : a.eval s = v) (hx : a.eval x = u) (hown : Own w base v l) (hu : Rd w u m) (hm : 0 < m.length) (hlen : l.length + m.length ≤ 4294967296) (hbase : base ≤ w.heap.size)
    (h : ∀ v' w', Own w' base v' (l ++ m) → w.grownBy w' v.ownBlock → Rw w v v' → K (a.put o.dst v') w') : if Region.wanted o (yielded ops a.tmps) = true then Oper.wp Try.prog o a w K Q else E := by
  have hw : Region.wanted o (yielded ops a.tmps) = true := by simp [Region.wanted, hgd]
  rw [if_pos hw]
  obtain ⟨hb, _, ⟨p, c, hv, rfl, hac⟩ | ⟨b, off, c, hv, hp, hc⟩⟩ := hu
  · simp at hm
  · obtain ⟨v', w', hr, h2, h3, h4⟩ := run_app2 w o.type base v l m ⟨b, off, none⟩ c hown (rd_cells hc) hlen hbase
    unfold Oper.wp execOp
    simp only [ho, resolve, invoke, builtin, Sem.run_bind, Sem.run_pure, Result.andThen_ok, List.map_toArray, List.map_cons, List.map_nil, hs, hx.trans hv, hr]
    exact h v' w' h2 h3 h4
theorem Rd.lit_grown {w w' : World} {g : Nat} {z : Int} {row : Option Nat} (h : Rd w (.slice (some ⟨g, 0, none⟩) 1 1) [z]) (hg : w.grownBy w' row) (hne : row ≠ some g) : Rd w' (.slice (some ⟨g, 0, none⟩) 1 1) [z] := by
  obtain ⟨h1, h2, ⟨a, c, hv, hl, -⟩ | ⟨b, o, c, hv, hp, hc⟩⟩ := h
  · cases hl
  · refine ⟨h1, h2, .inr ⟨b, o, c, hv, hp, fun i hi => ?_⟩⟩
    obtain ⟨rfl, rfl⟩ : g = b ∧ 0 = o := by simp at hv; exact ⟨hv.1.1, hv.1.2⟩
    exact (hg.cell_far _ (World.block_lt_of_cell? w _ (hc i hi)) (Ne.symm hne)).trans (hc i hi)
theorem rd_lit1_in (w : World) (g : Nat) (z : Int) (hg : w.heap.size = g) (h : 0 ≤ z ∧ z ≤ 255) : Rd (w.alloc (.cells #[.int .u8 z] BT)) (.slice (some ⟨g, 0, none⟩) 1 1) [z] := hg ▸ rd_lit1 w z h
theorem rd_lit2 (w : World) (y z : Int) (h : 0 ≤ y ∧ y ≤ 255) (h2 : 0 ≤ z ∧ z ≤ 255) : Rd (w.alloc (.cells #[.int .u8 y, .int .u8 z] BT)) (.slice (some ⟨w.heap.size, 0, none⟩) 2 2) [y, z] :=
  ⟨by intro x hx; simp at hx; rcases hx with rfl | rfl <;> assumption, by simp [maxLen], .inr ⟨w.heap.size, 0, 2, rfl, by simp, fun i hi => by
    have : i = 0 ∨ i = 1 := by simp at hi; omega
    rcases this with rfl | rfl <;> simp⟩⟩
theorem two_bd {n : Int} (h0 : 0 ≤ n) (h : n ≤ 65535) : ∀ x ∈ two2 n, 0 ≤ x ∧ x ≤ 255 := by
  intro x hx
  simp [two2] at hx
  rcases hx with rfl | rfl <;> omega
/-- the bytes of a list of numbers, of a list of prefixes -/
def numL (l : List Int) : List Int := (l.length : Int) :: l.flatMap two2
def pfxL (l : List (Int × Int)) : List Int := (l.length : Int) :: l.flatMap fun p => putL p.1 p.2
theorem flatTwo_len (l : List Int) : (l.flatMap two2).length = l.length * 2 := by
  induction l with
  | nil => rfl
  | cons p l ih => rw [List.flatMap_cons, List.length_append, ih]; simp [two2]; omega
theorem flatPut_len (l : List (Int × Int)) : (l.flatMap fun p => putL p.1 p.2).length ≤ l.length * 3 := by
  induction l with
  | nil => simp
  | cons p l ih => rw [List.flatMap_cons, List.length_append]; have := putL_len p.1 p.2; simp only [List.length_cons]; omega
theorem numL_len (l : List Int) : (numL l).length = l.length * 2 + 1 := by simp only [numL, List.length_cons, flatTwo_len]
theorem pfxL_len (l : List (Int × Int)) : (pfxL l).length ≤ l.length * 3 + 1 := by have := flatPut_len l; simp only [pfxL, List.length_cons]; omega
theorem numL_bd {l : List Int} (hl : l.length ≤ 255) (h : ∀ x ∈ l, 0 ≤ x ∧ x ≤ 65535) : ∀ x ∈ numL l, 0 ≤ x ∧ x ≤ 255 := by
  intro x hx
  rcases List.mem_cons.mp hx with rfl | hx
  · omega
  · obtain ⟨q, hq, hx⟩ := List.mem_flatMap.mp hx
    exact two_bd (h q hq).1 (h q hq).2 x hx
theorem pfxL_bd {l : List (Int × Int)} (hl : l.length ≤ 255) : ∀ x ∈ pfxL l, 0 ≤ x ∧ x ≤ 255 := by
  intro x hx
  rcases List.mem_cons.mp hx with rfl | hx
  · omega
  · obtain ⟨q, _, hx⟩ := List.mem_flatMap.mp hx
    exact putL_bd _ _ x hx
theorem grown_pre {w : World} {o : Obj} {w2 : World} {row : Option Nat} (h : (w.alloc o).grownBy w2 row) : w.grownBy w2 row := grown_trans (grown_alloc (World.grownBy.refl w row) o) h
theorem itwo_any (v : Value) (l : List Int) (n : Int) (base : Nat) (w : World) (ho : Own w base v l) (hn0 : 0 ≤ n) (hn : n ≤ 65535) (hbw : base ≤ w.heap.size) (hl : l.length ≤ 1048576) :
    Calls Try.prog 155 #[v, .int .i64 n] w (AppR w v base (l ++ two2 n)) := by
  have h1 : 0 ≤ n / 256 ∧ n / 256 ≤ 255 := by omega
  have h2 : 0 ≤ n % 256 ∧ n % 256 ≤ 255 := by omega
  go_enter Try.func155, Try.ntmps155
  go_wp2_with (at_builtin; refine Hid.out ?_)
  refine Lib.hid ?_
  refine wp_app2 rfl _ _ rfl base _ _ l (two2 n) rfl rfl (ho.alloc _) (rd_lit2 _ _ _ h1 h2) (by simp [two2]; omega) (by simp; omega) ?_
  intro v2 w2 ho2 hg2 hr2
  have hg3 := grown_pre hg2
  have hr3 : Rw w v v2 := Rw.later (by simp) hr2
  clear hg2 hr2
  go_wp2
  go_ret
  exact ⟨_, rfl, ho2, hg3, hr3⟩
theorem stwo_any (v : Value) (l : List Int) (n : Int) (base : Nat) (w : World) (ho : Own w base v l) (hn0 : 0 ≤ n) (hn : n ≤ 65535) (hbw : base ≤ w.heap.size) (hl : l.length ≤ 1048576) :
    Calls Try.prog 104 #[v, .int .i64 n] w (AppR w v base (l ++ two2 n)) := by
  have h1 : 0 ≤ n / 256 ∧ n / 256 ≤ 255 := by omega
  have h2 : 0 ≤ n % 256 ∧ n % 256 ≤ 255 := by omega
  go_enter Try.func104, Try.ntmps104
  go_wp2_with (at_builtin; refine Hid.out ?_)
  refine Lib.hid ?_
  refine wp_app2 rfl _ _ rfl base _ _ l (two2 n) rfl rfl (ho.alloc _) (rd_lit2 _ _ _ h1 h2) (by simp [two2]; omega) (by simp; omega) ?_
  intro v2 w2 ho2 hg2 hr2
  have hg3 := grown_pre hg2
  have hr3 : Rw w v v2 := Rw.later (by simp) hr2
  clear hg2 hr2
  go_wp2
  go_ret
  exact ⟨_, rfl, ho2, hg3, hr3⟩
theorem inums_any (V : World) (v u : Value) (l : List Int) (m : List Int) (base : Nat) (w : World) (ho : Own w base v l) (h : RdI V u m) (hb : ∀ x ∈ m, 0 ≤ x ∧ x ≤ 65535) (hm : m.length ≤ 255) (hov : Over V w) (hVb : V.heap.size ≤ base) (hbw : base ≤ w.heap.size) (hl : l.length ≤ 10000) (hlb : ∀ x ∈ l, 0 ≤ x ∧ x ≤ 255) :
    Calls Try.prog 182 #[v, u] w (AppR w v base (l ++ numL m)) := by
  obtain ⟨ad, c, rfl, hc⟩ := h.el
  obtain ⟨n, hn⟩ : ∃ n, n = m.length := ⟨_, rfl⟩
  have HN := Lib.hid hn
  rw [← hn] at hc hm ⊢
  clear hn h
  have h1 : 0 ≤ (n : Int) ∧ (n : Int) ≤ 255 := by omega
  have HB := Lib.hid hlb
  clear hlb
  go_enter Try.func182, Try.ntmps182
  go_wp2_with (at_builtin; refine Hid.out ?_)
  refine Lib.hid ?_
  refine wp_app2 rfl _ _ rfl base _ _ l [(n : Int)] rfl rfl (ho.alloc _) (rd_lit1 _ _ h1) (by simp; omega) (by simp; omega) ?_
  intro v2 w2 ho2 hg2 hr2
  have hg3 := grown_pre hg2
  have hr3 : Rw w v v2 := Rw.later (by simp) hr2
  clear hg2 hr2
  go_wp2
  go_loopw [0, 15] (fun wv i wr => ∃ k : Nat, k ≤ n ∧ i = .int .i64 (k : Int) ∧ Own wr base wv (l ++ [(n : Int)] ++ (m.take k).flatMap (two2)) ∧ w.grownBy wr v.ownBlock ∧ Rw w v wv) (fun _ i _ => n - (intOf i).toNat)
  case atStart => exact ⟨0, Nat.zero_le _, rfl, by simpa using ho2, hg3, hr3⟩
  case round =>
    obtain ⟨k, hk, rfl, hok, hgr, hrr⟩ := hrel
    have hovr : Over V wr := over_grown hov ho hVb hgr
    have hbr : base ≤ wr.heap.size := Nat.le_trans hbw hgr.size
    by_cases hlt : k < n
    · have hltI : (k : Int) < (n : Int) := by omega
      have hlt2 : k < m.length := by have := HN.out; omega
      obtain ⟨b, o, rfl, d0⟩ := hc k hlt
      have e1 := over_cell hovr (World.block_lt_of_cell? V _ d0) d0
      obtain ⟨x, hx1⟩ : ∃ x, m.getD k 0 = x := ⟨_, rfl⟩
      rw [hx1] at e1
      have hxm : x ∈ m := by rw [← hx1]; simp [List.getD, hlt2]
      obtain ⟨x0, x9⟩ := hb x hxm
      have htk : (m.take (k + 1)).flatMap two2 = (m.take k).flatMap two2 ++ two2 x := by
        rw [List.take_succ_eq_append_getElem hlt2, List.flatMap_append]
        congr 1
        rw [← hx1]; simp [List.getD, hlt2]
      have HT := Lib.hid htk
      have hln : (l ++ [(n : Int)] ++ (m.take k).flatMap two2).length ≤ 1048576 := by rw [List.length_append, List.length_append, flatTwo_len, List.length_take]; simp; omega
      have HLN := Lib.hid hln
      clear htk hx1 hc hxm hlt2 hb hln d0
      go_wp2_with fail
      refine (itwo_any _ _ x base _ hok x0 x9 hbr HLN.out).mono ?_
      rintro e w3 ⟨v3, rfl, ho3, hg3', hr3'⟩
      rw [List.append_assoc, ← HT.out] at ho3
      obtain ⟨hg4, hr4⟩ := row_step hgr hrr hg3' hr3'
      clear hg3' hr3' hok hrr
      go_wp2
      go_roundw
      case rel => exact ⟨k + 1, by omega, by simp, ho3, hg4, hr4⟩
      case measure => simp [intOf]; omega
    · have hltI : ¬ (k : Int) < (n : Int) := by omega
      have hkn : m.take k = m := List.take_of_length_le (by have := HN.out; omega)
      rw [hkn] at hok
      rw [show l ++ [(n : Int)] ++ m.flatMap (two2) = l ++ numL m from by unfold numL; rw [← HN.out]; simp] at hok
      have HK := Lib.hid hok
      clear hkn hok hc
      go_wp2
      go_ret
      exact ⟨_, rfl, HK.out, hgr, hrr⟩
theorem ipfxs_any (V : World) (v u : Value) (l : List Int) (m : List (Int × Int)) (base : Nat) (w : World) (ho : Own w base v l) (h : RdP V u m) (hm : m.length ≤ 255) (hov : Over V w) (hVb : V.heap.size ≤ base) (hbw : base ≤ w.heap.size) (hl : l.length ≤ 10000) (hlb : ∀ x ∈ l, 0 ≤ x ∧ x ≤ 255) :
    Calls Try.prog 175 #[v, u] w (AppR w v base (l ++ pfxL m)) := by
  obtain ⟨ad, c, rfl, hc⟩ := h.el
  obtain ⟨n, hn⟩ : ∃ n, n = m.length := ⟨_, rfl⟩
  have HN := Lib.hid hn
  rw [← hn] at hc hm ⊢
  clear hn h
  have h1 : 0 ≤ (n : Int) ∧ (n : Int) ≤ 255 := by omega
  have HB := Lib.hid hlb
  clear hlb
  go_enter Try.func175, Try.ntmps175
  go_wp2_with (at_builtin; refine Hid.out ?_)
  refine Lib.hid ?_
  refine wp_app2 rfl _ _ rfl base _ _ l [(n : Int)] rfl rfl (ho.alloc _) (rd_lit1 _ _ h1) (by simp; omega) (by simp; omega) ?_
  intro v2 w2 ho2 hg2 hr2
  have hg3 := grown_pre hg2
  have hr3 : Rw w v v2 := Rw.later (by simp) hr2
  clear hg2 hr2
  go_wp2
  go_loopw [0, 15] (fun wv i wr => ∃ k : Nat, k ≤ n ∧ i = .int .i64 (k : Int) ∧ Own wr base wv (l ++ [(n : Int)] ++ (m.take k).flatMap (fun p => putL p.1 p.2)) ∧ w.grownBy wr v.ownBlock ∧ Rw w v wv) (fun _ i _ => n - (intOf i).toNat)
  case atStart => exact ⟨0, Nat.zero_le _, rfl, by simpa using ho2, hg3, hr3⟩
  case round =>
    obtain ⟨k, hk, rfl, hok, hgr, hrr⟩ := hrel
    have hovr : Over V wr := over_grown hov ho hVb hgr
    have hbr : base ≤ wr.heap.size := Nat.le_trans hbw hgr.size
    by_cases hlt : k < n
    · have hltI : (k : Int) < (n : Int) := by omega
      have hlt2 : k < m.length := by have := HN.out; omega
      obtain ⟨b, o, rfl, d0, d1⟩ := hc k hlt
      have e0 := over_cell hovr (World.block_lt_of_cell? V _ d0) d0
      have e1 := over_cell hovr (World.block_lt_of_cell? V _ d1) d1
      obtain ⟨⟨x, y⟩, hx1⟩ : ∃ q, m.getD k (0, 0) = q := ⟨_, rfl⟩
      rw [hx1] at e0 e1
      have htk : (m.take (k + 1)).flatMap (fun p => putL p.1 p.2) = (m.take k).flatMap (fun p => putL p.1 p.2) ++ putL x y := by
        rw [List.take_succ_eq_append_getElem hlt2, List.flatMap_append]
        congr 1
        have : m[k] = (x, y) := by rw [← hx1]; simp [List.getD, hlt2]
        simp [this]
      have HT := Lib.hid htk
      have hln : (l ++ [(n : Int)] ++ (m.take k).flatMap (fun p => putL p.1 p.2)).length ≤ 1048576 := by have := flatPut_len (m.take k); rw [List.length_append, List.length_append]; rw [List.length_take] at this; simp at this ⊢; omega
      have HLN := Lib.hid hln
      have HBB : Hid (∀ z ∈ (l ++ [(n : Int)] ++ (m.take k).flatMap (fun p => putL p.1 p.2)), 0 ≤ z ∧ z ≤ 255) := Lib.hid (by
        intro z hz
        rw [List.mem_append, List.mem_append] at hz
        rcases hz with (hz | hz) | hz
        · exact HB.out z hz
        · simp at hz; omega
        · obtain ⟨q, _, hq⟩ := List.mem_flatMap.mp hz
          exact putL_bd _ _ z hq)
      clear htk hx1 hc hlt2 hln d0 d1
      go_wp2_with fail
      refine (iput_any _ _ x y _ (Own.rd (Own.alloc hok _) HBB.out) HLN.out).mono ?_
      rintro e w3 ⟨v3, rfl, ho3, hb3⟩
      rw [List.append_assoc, ← HT.out] at ho3
      have hsz : wr.heap.size ≤ w3.heap.size := by have := hb3.size; simp at this; omega
      have ho4 := ho3.mono (Nat.le_trans hbr (by simp))
      have hg4 : w.grownBy w3 v.ownBlock := grown_trans hgr (grown_pre (grown_below hb3 _))
      have hr4 : Rw w v v3 := .inr fun j hj => Nat.le_trans hgr.size (Nat.le_trans (by simp) (World.ownsRow.lt ho3 j hj).1)
      clear ho3 hb3 hok hrr
      go_wp2
      go_roundw
      case rel => exact ⟨k + 1, by omega, by simp, ho4, hg4, hr4⟩
      case measure => simp [intOf]; omega
    · have hltI : ¬ (k : Int) < (n : Int) := by omega
      have hkn : m.take k = m := List.take_of_length_le (by have := HN.out; omega)
      rw [hkn] at hok
      rw [show l ++ [(n : Int)] ++ m.flatMap (fun p => putL p.1 p.2) = l ++ pfxL m from by unfold pfxL; rw [← HN.out]; simp] at hok
      have HK := Lib.hid hok
      clear hkn hok hc
      go_wp2
      go_ret
      exact ⟨_, rfl, HK.out, hgr, hrr⟩
theorem slist_any (V : World) (v u : Value) (l : List Int) (m : List (Int × Int)) (base : Nat) (w : World) (ho : Own w base v l) (h : RdP V u m) (hm : m.length ≤ 255) (hov : Over V w) (hVb : V.heap.size ≤ base) (hbw : base ≤ w.heap.size) (hl : l.length ≤ 10000) (hlb : ∀ x ∈ l, 0 ≤ x ∧ x ≤ 255) :
    Calls Try.prog 105 #[v, u] w (AppR w v base (l ++ pfxL m)) := by
  obtain ⟨ad, c, rfl, hc⟩ := h.el
  obtain ⟨n, hn⟩ : ∃ n, n = m.length := ⟨_, rfl⟩
  have HN := Lib.hid hn
  rw [← hn] at hc hm ⊢
  clear hn h
  have h1 : 0 ≤ (n : Int) ∧ (n : Int) ≤ 255 := by omega
  have HB := Lib.hid hlb
  clear hlb
  go_enter Try.func105, Try.ntmps105
  go_wp2_with (at_builtin; refine Hid.out ?_)
  refine Lib.hid ?_
  refine wp_app2 rfl _ _ rfl base _ _ l [(n : Int)] rfl rfl (ho.alloc _) (rd_lit1 _ _ h1) (by simp; omega) (by simp; omega) ?_
  intro v2 w2 ho2 hg2 hr2
  have hg3 := grown_pre hg2
  have hr3 : Rw w v v2 := Rw.later (by simp) hr2
  clear hg2 hr2
  go_wp2
  go_loopw [0, 5] (fun wv i wr => ∃ k : Nat, k ≤ n ∧ i = .int .i64 (k : Int) ∧ Own wr base wv (l ++ [(n : Int)] ++ (m.take k).flatMap (fun p => putL p.1 p.2)) ∧ w.grownBy wr v.ownBlock ∧ Rw w v wv) (fun _ i _ => n - (intOf i).toNat)
  case atStart => exact ⟨0, Nat.zero_le _, rfl, by simpa using ho2, hg3, hr3⟩
  case round =>
    obtain ⟨k, hk, rfl, hok, hgr, hrr⟩ := hrel
    have hovr : Over V wr := over_grown hov ho hVb hgr
    have hbr : base ≤ wr.heap.size := Nat.le_trans hbw hgr.size
    by_cases hlt : k < n
    · have hltI : (k : Int) < (n : Int) := by omega
      have hlt2 : k < m.length := by have := HN.out; omega
      obtain ⟨b, o, rfl, d0, d1⟩ := hc k hlt
      have e0 := over_cell hovr (World.block_lt_of_cell? V _ d0) d0
      have e1 := over_cell hovr (World.block_lt_of_cell? V _ d1) d1
      obtain ⟨⟨x, y⟩, hx1⟩ : ∃ q, m.getD k (0, 0) = q := ⟨_, rfl⟩
      rw [hx1] at e0 e1
      have htk : (m.take (k + 1)).flatMap (fun p => putL p.1 p.2) = (m.take k).flatMap (fun p => putL p.1 p.2) ++ putL x y := by
        rw [List.take_succ_eq_append_getElem hlt2, List.flatMap_append]
        congr 1
        have : m[k] = (x, y) := by rw [← hx1]; simp [List.getD, hlt2]
        simp [this]
      have HT := Lib.hid htk
      have hln : (l ++ [(n : Int)] ++ (m.take k).flatMap (fun p => putL p.1 p.2)).length ≤ 1048576 := by have := flatPut_len (m.take k); rw [List.length_append, List.length_append]; rw [List.length_take] at this; simp at this ⊢; omega
      have HLN := Lib.hid hln
      have HBB : Hid (∀ z ∈ (l ++ [(n : Int)] ++ (m.take k).flatMap (fun p => putL p.1 p.2)), 0 ≤ z ∧ z ≤ 255) := Lib.hid (by
        intro z hz
        rw [List.mem_append, List.mem_append] at hz
        rcases hz with (hz | hz) | hz
        · exact HB.out z hz
        · simp at hz; omega
        · obtain ⟨q, _, hq⟩ := List.mem_flatMap.mp hz
          exact putL_bd _ _ z hq)
      clear htk hx1 hc hlt2 hln d0 d1
      go_wp2_with fail
      refine (sput_any _ _ x y _ (Own.rd hok HBB.out) HLN.out).mono ?_
      rintro e w3 ⟨v3, rfl, ho3, hb3⟩
      rw [List.append_assoc, ← HT.out] at ho3
      have hsz : wr.heap.size ≤ w3.heap.size := hb3.size
      have ho4 := ho3.mono (Nat.le_trans hbr (Nat.le_refl _))
      have hg4 : w.grownBy w3 v.ownBlock := grown_trans hgr (id (grown_below hb3 _))
      have hr4 : Rw w v v3 := .inr fun j hj => Nat.le_trans hgr.size (Nat.le_trans (Nat.le_refl _) (World.ownsRow.lt ho3 j hj).1)
      clear ho3 hb3 hok hrr
      go_wp2
      go_roundw
      case rel => exact ⟨k + 1, by omega, by simp, ho4, hg4, hr4⟩
      case measure => simp [intOf]; omega
    · have hltI : ¬ (k : Int) < (n : Int) := by omega
      have hkn : m.take k = m := List.take_of_length_le (by have := HN.out; omega)
      rw [hkn] at hok
      rw [show l ++ [(n : Int)] ++ m.flatMap (fun p => putL p.1 p.2) = l ++ pfxL m from by unfold pfxL; rw [← HN.out]; simp] at hok
      have HK := Lib.hid hok
      clear hkn hok hc
      go_wp2
      go_ret
      exact ⟨_, rfl, HK.out, hgr, hrr⟩
end Go.Proofs.Ythecdnfloahoaaa
