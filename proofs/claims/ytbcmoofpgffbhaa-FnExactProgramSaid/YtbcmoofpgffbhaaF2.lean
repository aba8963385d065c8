/-
  Entries: what a slice of them reads as; contracts of the laws' own functions that size, copy and compare them. Conditions: those in each contract.
-/
import Derived.Test.YtbcmoofpgffbhaaN1
namespace Go.Proofs.Ytbcmoofpgffbhaa
open Go.ChangeShapes Go.WideShapes Go.ChangeAt Go.RowKit Go.BigFrame Go.Joins
set_option linter.unusedVariables false
set_option maxRecDepth 100000
set_option linter.unusedSimpArgs false

abbrev EI : TypeId := 104
abbrev EL : TypeId := 161
structure Ent where
  a : Int
  n : Int
  pe : Int
  p : List Int
  pr : Int
  c : List Int
  bw : Int
def e0 : Ent := ⟨0, 0, 0, [], 0, [], 0⟩
instance : Inhabited Ent := ⟨e0⟩
/-- the cells of block b from o on hold the entry -/
def EntAt (w : World) (b o : Nat) (E : Ent) : Prop :=
  ∃ pv cv, RdI w pv E.p ∧ RdI w cv E.c ∧ w.cell? ⟨b, o, none⟩ = some (.int .i64 E.a) ∧ w.cell? ⟨b, o + 1, none⟩ = some (.int .i64 E.n) ∧ w.cell? ⟨b, o + 2, none⟩ = some (.int .i64 E.pe) ∧ w.cell? ⟨b, o + 3, none⟩ = some (pv) ∧ w.cell? ⟨b, o + 4, none⟩ = some (.int .i64 E.pr) ∧ w.cell? ⟨b, o + 5, none⟩ = some (cv) ∧ w.cell? ⟨b, o + 6, none⟩ = some (.int .i64 E.bw)
theorem EntAt.keep {w w' : World} {b o : Nat} {E : Ent} (h : EntAt w b o E) (hb : Below w.heap.size w w') : EntAt w' b o E := by
  obtain ⟨pv, cv, hp, hc, k0, k1, k2, k3, k4, k5, k6⟩ := h
  exact ⟨pv, cv, hp.keep hb, hc.keep hb, cell_keep hb (World.block_lt_of_cell? w _ k0) k0, cell_keep hb (World.block_lt_of_cell? w _ k1) k1, cell_keep hb (World.block_lt_of_cell? w _ k2) k2, cell_keep hb (World.block_lt_of_cell? w _ k3) k3, cell_keep hb (World.block_lt_of_cell? w _ k4) k4, cell_keep hb (World.block_lt_of_cell? w _ k5) k5, cell_keep hb (World.block_lt_of_cell? w _ k6) k6⟩
/-- the slice value v reads as the entries L -/
def RdE (w : World) (v : Value) (L : List Ent) : Prop :=
  L.length ≤ 9223372036854775807 ∧
  ((∃ a c, v = .slice a 0 c ∧ L = [] ∧ (a = none → c = 0)) ∨
   ∃ b o c, v = .slice (some ⟨b, o, none⟩) L.length c ∧ 0 < L.length ∧ ∀ i, i < L.length → EntAt w b (o + i * 7) (L.getD i e0))
theorem RdE.keep {w w' : World} {v : Value} {L : List Ent} (h : RdE w v L) (hb : Below w.heap.size w w') : RdE w' v L := by
  obtain ⟨h2, h3⟩ := h
  refine ⟨h2, ?_⟩
  rcases h3 with h3 | ⟨b, o, c, hv, hp, hc⟩
  · exact .inl h3
  · exact .inr ⟨b, o, c, hv, hp, fun i hi => (hc i hi).keep hb⟩
theorem RdE.len {w : World} {v : Value} {L : List Ent} (h : RdE w v L) : ∃ a c, v = .slice a L.length c := by
  rcases h.2 with ⟨a, c, rfl, rfl, hac⟩ | ⟨b, o, c, rfl, _⟩
  · exact ⟨a, c, rfl⟩
  · exact ⟨_, c, rfl⟩
theorem RdE.el {w : World} {v : Value} {L : List Ent} (h : RdE w v L) : ∃ a c, v = .slice a L.length c ∧ ∀ i, i < L.length → ∃ b o, a = some ⟨b, o, none⟩ ∧ EntAt w b (o + i * 7) (L.getD i e0) := by
  rcases h.2 with ⟨a, c, rfl, rfl, -⟩ | ⟨b, o, c, rfl, -, hc⟩
  · exact ⟨a, c, rfl, fun i hi => absurd hi (by simp)⟩
  · exact ⟨_, c, rfl, fun i hi => ⟨b, o, rfl, hc i hi⟩⟩
theorem RdE.alloc {w : World} {v : Value} {L : List Ent} (h : RdE w v L) (o : Obj) : RdE (w.alloc o) v L := h.keep ((Below.refl _ _).alloc (Nat.le_refl _) _)
theorem RdE.nil (w : World) : RdE w (.slice none 0 0) [] := ⟨by simp, .inl ⟨none, 0, rfl, rfl, fun _ => rfl⟩⟩
/-- the numbers of its slices are numbers -/
def BdE (E : Ent) : Prop := (∀ x ∈ E.p, -9223372036854775808 ≤ x ∧ x ≤ 9223372036854775807) ∧ ∀ x ∈ E.c, -9223372036854775808 ≤ x ∧ x ≤ 9223372036854775807
theorem RdE.bd {w : World} {v : Value} {L : List Ent} (h : RdE w v L) : ∀ i, i < L.length → BdE (L.getD i e0) := by
  obtain ⟨a, c, rfl, hc⟩ := h.el
  intro i hi
  obtain ⟨b, o, -, pv, cv, hp, hq, -⟩ := hc i hi
  exact ⟨hp.1, hq.1⟩

theorem list7 {α : Type} {xs : List α} (h : xs.length = 7) : ∃ c0 c1 c2 c3 c4 c5 c6, xs = [c0, c1, c2, c3, c4, c5, c6] := by
  match xs, h with
  | [c0, c1, c2, c3, c4, c5, c6], _ => exact ⟨c0, c1, c2, c3, c4, c5, c6, rfl⟩
section
variable {H : Type} {enc : TypeId × Value → H} {W : World} {base : Nat} {d : DataW H} {p : List MemPlace} {v : Value}
theorem cellsE7 : Try.prog.cellsOf EL = 7 := by kernel_rfl
theorem cellsI1e : Try.prog.cellsOf 3 = 1 := by kernel_rfl
theorem cellsIS1e : Try.prog.cellsOf 24 = 1 := by kernel_rfl
theorem cellsPx2 : Try.prog.cellsOf 41 = 2 := by kernel_rfl
theorem cellsES1 : Try.prog.cellsOf 37 = 1 := by kernel_rfl
theorem ent_trod {fuel : Nat} {x0 x1 x2 x3 x4 x5 x6 : Value} {y : DataW H × List MemPlace} (h : DataW.trod enc Try.prog W 0 (fun _ => true) true fuel EL [x0, x1, x2, x3, x4, x5, x6] = some y) :
    ∃ E : Ent, x0 = .int .i64 E.a ∧ x1 = .int .i64 E.n ∧ x2 = .int .i64 E.pe ∧ RdI W x3 E.p ∧ x4 = .int .i64 E.pr ∧ RdI W x5 E.c ∧ x6 = .int .i64 E.bw := by
  obtain ⟨ys, n, _, hx, hl, hlen, hf⟩ := DataW.trod_struct Try.underlying161 h
  match ys, hlen with
  | [y0, y1, y2], _ =>
    have h0 := hf 0 _ rfl
    have h1 := hf 1 _ rfl
    have h2 := hf 2 _ rfl
    clear hf
    simp [cellsI1e, cellsPx2, cellsA] at h0 h1 h2
    obtain ⟨z0, z1, n2, -, -, g0, g1⟩ := trod_struct2 Try.underlying41 h0
    obtain ⟨u0, u1, u2, u3, n3, -, -, t0, t1, t2, t3⟩ := trod_struct4 Try.underlying159 h2
    simp [cellsI1e, cellsIS1e] at g0 g1 t0 t1 t2 t3
    obtain ⟨q0, r0, -, -⟩ := DataW.trod_int Try.underlying3 g0
    obtain ⟨q1, r1, -, -⟩ := DataW.trod_int Try.underlying3 g1
    obtain ⟨q2, r2, -, -⟩ := DataW.trod_int Try.underlying3 h1
    obtain ⟨q4, r4, -, -⟩ := DataW.trod_int Try.underlying3 t1
    obtain ⟨q6, r6, -, -⟩ := DataW.trod_int Try.underlying3 t3
    obtain ⟨l0, hl0⟩ := rdI_trod t0
    obtain ⟨l2, hl2⟩ := rdI_trod t2
    simp at r0 r1 r2 r4 r6
    exact ⟨⟨q0, q1, q2, l0, q4, l2, q6⟩, r0, r1, r2, hl0, r4, hl2, r6⟩
theorem rdE_trod {fuel : Nat} {y : DataW H × List MemPlace} (h : DataW.trod enc Try.prog W 0 (fun _ => true) true fuel 37 [v] = some y) : ∃ L, RdE W v L := by
  rcases Deep.open_slice Try.underlying37 h with ⟨hcs, _⟩ | ⟨a, len, cap, m, n, D, Pl, hcs, _, hl, hm, hmm, _, hx⟩
  · obtain ⟨rfl, -⟩ := List.cons.inj hcs
    exact ⟨[], RdE.nil W⟩
  · obtain ⟨rfl, -⟩ := List.cons.inj hcs
    have hlm : len ≤ m := by rw [hmm]; split <;> omega
    obtain ⟨b, off, spot⟩ := a
    by_cases h0 : len = 0
    · subst h0
      exact ⟨[], by simp, .inl ⟨_, cap, rfl, rfl, fun h => by cases h⟩⟩
    · have hspot : spot = none := by
        obtain ⟨cs', h1, _⟩ := hx 0 (by omega)
        rw [cellsE7] at h1
        obtain ⟨_, hlen, hcell⟩ := World.cells?_some h1
        have h2 := hcell 0 (by omega)
        rw [List.getElem?_eq_getElem (by omega)] at h2
        simpa [Addr.add] using World.cell?_spot h2
      subst hspot
      have hadd : ∀ o k, (⟨b, o, none⟩ : Addr).add k = ⟨b, o + k, none⟩ := fun o k => by unfold Addr.add; split <;> simp_all
      have hex : ∀ i, i < len → ∃ E : Ent, EntAt W b (off + i * 7) E := by
        intro i hi
        obtain ⟨cs', h1, h2⟩ := hx i (by omega)
        rw [cellsE7] at h1
        obtain ⟨_, hlen, hcell⟩ := World.cells?_some h1
        obtain ⟨x0, x1, x2, x3, x4, x5, x6, rfl⟩ := list7 hlen
        obtain ⟨E, rfl, rfl, rfl, g3, rfl, g5, rfl⟩ := ent_trod h2
        have e0 := hcell 0 (by omega)
        have e1 := hcell 1 (by omega)
        have e2 := hcell 2 (by omega)
        have e3 := hcell 3 (by omega)
        have e4 := hcell 4 (by omega)
        have e5 := hcell 5 (by omega)
        have e6 := hcell 6 (by omega)
        simp only [hadd] at e0 e1 e2 e3 e4 e5 e6
        exact ⟨E, x3, x5, g3, g5, e0, e1, e2, e3, e4, e5, e6⟩
      obtain ⟨f, hf⟩ := Deep.choose_lt hex
      refine ⟨(List.range len).map f, by simp; unfold maxLen at hm; omega, .inr ⟨b, off, cap, by simp, by simp; omega, fun i hi => ?_⟩⟩
      have hi : i < len := by simpa using hi
      rw [show ((List.range len).map f).getD i e0 = f i by simp [List.getD, hi]]
      exact hf i hi
def Is_Rib (W : World) (v : Value) : Prop := ∃ (u : Value) (L : List Ent), v = .agg #[u] ∧ RdE W u L
theorem cellsRb : Try.prog.cellsOf 39 = 1 := by kernel_rfl
theorem is_Rib (hv : Value.okWide Try.prog W .any base 39 v) (h : DataW.Trod enc Try.prog W 0 (fun _ => true) true 39 v d p) : Is_Rib W v := by
  obtain ⟨cs, rfl, hsz⟩ := okWide_struct Try.underlying39 hv
  rw [cellsRb] at hsz
  obtain ⟨c0, rfl⟩ : ∃ c0, cs = #[c0] := by
    obtain ⟨l⟩ := cs
    match l, hsz with
    | [c0], _ => exact ⟨c0, rfl⟩
  obtain ⟨fuel, hf⟩ := h
  obtain ⟨xs, n, _, hx, hl, hlen, hf⟩ := DataW.trod_struct Try.underlying39 hf
  have h0 := hf 0 _ rfl
  match xs, hlen with
  | [y0], _ =>
    obtain ⟨l, hl⟩ := rdE_trod (W := W) (v := c0) (fuel := n) (y := y0) (by simpa [Value.cells, cellsES1] using h0)
    exact ⟨c0, l, rfl, hl⟩
end
/-- what a table weighs -/
def wtE (L : List Ent) : Nat := (L.map fun E => E.p.length + E.c.length).sum
theorem wt_take {L : List Ent} {k : Nat} (h : k < L.length) : wtE (L.take (k + 1)) = wtE (L.take k) + ((L.getD k e0).p.length + (L.getD k e0).c.length) := by
  unfold wtE
  rw [List.take_succ_eq_append_getElem h, List.map_append, List.sum_append]
  have e : L.getD k e0 = L[k] := by simp [List.getD, h]
  rw [e]
  simp
theorem wt_le (L : List Ent) (k : Nat) : wtE (L.take k) ≤ wtE L := by
  conv => rhs; rw [← List.take_append_drop k L]
  unfold wtE
  rw [List.map_append, List.sum_append]
  omega
theorem wt_at {L : List Ent} {k : Nat} (h : k < L.length) : (L.getD k e0).p.length + (L.getD k e0).c.length ≤ wtE L := by
  have h1 := wt_take h
  have h2 := wt_le L (k + 1)
  omega
theorem szA_eq {left : Int} {p c : List Int} (h : ¬ szA left p c < 0) : szA left p c = left - (p.length + c.length : Nat) := by
  unfold szA szN at h ⊢
  split at h
  · exact absurd (by decide) h
  · split at h
    · exact absurd (by decide) h
    · rename_i h1 h2
      rw [if_neg h1, if_neg h2]
      omega
theorem szA_neg {left : Int} {p c : List Int} (h0 : 0 ≤ left) (h : szA left p c < 0) : szA left p c = -1 := by
  unfold szA szN at h ⊢
  split at h
  · rename_i h1; rw [if_pos h1]
  · split at h
    · rename_i h1 h2; rw [if_neg h1, if_pos h2]
    · omega
theorem szEnt_any (pv cv : Value) (p c : List Int) (a n pe pr bw left : Int) (w : World) (hp : RdI w pv p) (hc : RdI w cv c) (h0 : 0 ≤ left) (h1 : left ≤ 1048576) :
    Calls Try.prog 118 #[.agg #[.int .i64 a, .int .i64 n, .int .i64 pe, pv, .int .i64 pr, cv, .int .i64 bw], .int .i64 left] w fun e w' => e = .returned (.int .i64 (szA left p c)) ∧ Below w.heap.size w w' := by
  obtain ⟨bA, B0, z⟩ := one w [.int .i64 a, .int .i64 n, .int .i64 pe, pv, .int .i64 pr, cv, .int .i64 bw] EL
  replace hp := hp.keep B0
  replace hc := hc.keep B0
  clear z
  have a3 := bA.c 3 rfl
  have a4 := bA.c 4 rfl
  have a5 := bA.c 5 rfl
  have a6 := bA.c 6 rfl
  obtain ⟨r, hr⟩ : ∃ r, szA left p c = r := ⟨_, rfl⟩
  have HR := Lib.hid hr
  by_cases hneg : r < 0
  · have hr1 : r = -1 := by rw [← hr] at hneg ⊢; exact szA_neg h0 hneg
    subst hr1
    rw [hr]
    clear hr
    go_enter Try.func118, Try.ntmps118
    go_wp2_with fail
    refine (szA_any _ _ p c _ _ _ _ hp hc h0 h1).mono ?_
    rw [HR.out]
    rintro e w1 ⟨rfl, hb⟩
    replace B0 := below_step B0 hb
    clear hb
    go_wp2
    go_ret
    exact ⟨rfl, B0⟩
  · rw [hr]
    clear hr
    go_enter Try.func118, Try.ntmps118
    go_wp2_with fail
    refine (szA_any _ _ p c _ _ _ _ hp hc h0 h1).mono ?_
    rw [HR.out]
    rintro e w1 ⟨rfl, hb⟩
    replace B0 := below_step B0 hb
    clear hb
    go_wp2
    go_ret
    exact ⟨rfl, B0⟩
theorem szES_any (v : Value) (L : List Ent) (w : World) (h : RdE w v L) :
    Calls Try.prog 60 #[v, .int .i64 1048576] w fun e w' => ∃ r : Int, e = .returned (.int .i64 r) ∧ (¬ r < 0 → L.length + wtE L ≤ 1048576) ∧ (r < 0 → r = -1) ∧ Below w.heap.size w w' := by
  have hm := h.1
  obtain ⟨a, c, rfl, hc⟩ := h.el
  obtain ⟨n, hn⟩ : ∃ n, n = L.length := ⟨_, rfl⟩
  rw [← hn] at hc hm ⊢
  have HN := Lib.hid hn
  clear h hn
  by_cases hbig : (1048576 : Int) - n < 0
  · go_enter Try.func60, Try.ntmps60
    have hw1 : IntKind.i64.wrap (1048576 - (n : Int)) = 1048576 - (n : Int) := wrap64_in _ (by omega) (by omega)
    go_wp2
    go_ret
    exact ⟨-1, rfl, fun h => by omega, fun _ => rfl, Below.refl _ _⟩
  · have hnn : n ≤ 1048576 := by omega
    have hw1 : IntKind.i64.wrap (1048576 - (n : Int)) = 1048576 - (n : Int) := wrap64_in _ (by omega) (by omega)
    go_enter Try.func60, Try.ntmps60
    go_wp2
    go_loopw [1, 5] (fun q i wr => ∃ k : Nat, k ≤ n ∧ i = .int .i64 k ∧ (∃ l : Int, q = .int .i64 l ∧ 0 ≤ l ∧ l = 1048576 - (n : Int) - (wtE (L.take k) : Nat)) ∧ Below w.heap.size w wr) (fun _ i _ => n - (intOf i).toNat)
    case atStart => exact ⟨0, Nat.zero_le _, rfl, ⟨_, rfl, by omega, by simp [wtE]⟩, Below.refl _ _⟩
    case round =>
      obtain ⟨k, hk, rfl, ⟨l, rfl, hl0, hl⟩, hB⟩ := hrel
      have HL := Lib.hid hl
      have hl1 : l ≤ 1048576 := by omega
      clear hl
      by_cases hlt : k < n
      · have hltI : (k : Int) < (n : Int) := by omega
        obtain ⟨b, o, rfl, hE⟩ := hc k hlt
        obtain ⟨E, hx⟩ : ∃ E, L.getD k e0 = E := ⟨_, rfl⟩
        rw [hx] at hE
        obtain ⟨pv, cv, hp, hq, k0, k1, k2, k3, k4, k5, k6⟩ := hE.keep hB
        have HX := Lib.hid hx
        have HCC := Lib.hid hc
        clear hx hc hE
        obtain ⟨r, hr⟩ : ∃ r, szA l E.p E.c = r := ⟨_, rfl⟩
        have HR := Lib.hid hr
        have hneg1 : r < 0 → r = -1 := fun hneg => by rw [← hr] at hneg ⊢; exact szA_neg hl0 hneg
        have HN1 := Lib.hid hneg1
        clear hr hneg1
        by_cases hneg : r < 0
        · go_wp2_with fail
          refine (szEnt_any pv cv E.p E.c _ _ _ _ _ _ _ hp hq hl0 hl1).mono ?_
          rw [HR.out]
          rintro e w1 ⟨rfl, hb⟩
          have hB2 := below_step hB hb
          clear hb hB k0 k1 k2 k3 k4 k5 k6 hp hq
          go_wp2
          go_ret
          exact ⟨-1, rfl, fun h => by omega, fun _ => rfl, hB2⟩
        · go_wp2_with fail
          refine (szEnt_any pv cv E.p E.c _ _ _ _ _ _ _ hp hq hl0 hl1).mono ?_
          rw [HR.out]
          rintro e w1 ⟨rfl, hb⟩
          have hB2 := below_step hB hb
          clear hb hB k0 k1 k2 k3 k4 k5 k6 hp hq
          go_wp2
          go_roundw
          case rel =>
            refine ⟨k + 1, by omega, by go_num, ⟨r, rfl, by omega, ?_⟩, hB2⟩
            have h1 := wt_take (L := L) (k := k) (by rw [← HN.out]; exact hlt)
            rw [HX.out] at h1
            have h2 := szA_eq (left := l) (p := E.p) (c := E.c) (by rw [HR.out]; omega)
            rw [HR.out] at h2
            have h3 := HL.out
            omega
          case measure => simp [intOf]; omega
      · have hkn : k = n := by omega
        subst hkn
        have hw : wtE (L.take k) = wtE L := by rw [List.take_of_length_le (by rw [HN.out]; exact Nat.le_refl _)]
        clear hc
        go_wp2
        go_ret
        refine ⟨l, rfl, fun _ => ?_, fun h => by omega, hB⟩
        have h3 := HL.out
        omega
theorem szRb_any (v : Value) (L : List Ent) (w : World) (h : RdE w v L) :
    Calls Try.prog 17 #[.agg #[v], .int .i64 1048576] w fun e w' => ∃ r : Int, e = .returned (.int .i64 r) ∧ (¬ r < 0 → L.length + wtE L ≤ 1048576) ∧ Below w.heap.size w w' := by
  obtain ⟨bA, B0, z⟩ := one w [v] 39
  replace h := h.keep B0
  clear z
  go_enter Try.func17, Try.ntmps17
  go_wp2_with fail
  refine (szES_any _ L _ h).mono ?_
  rintro e w1 ⟨r, rfl, h1, h2, hb⟩
  replace B0 := below_step B0 hb
  have H1 := Lib.hid h1
  have H2 := Lib.hid h2
  clear hb h1 h2
  by_cases hneg : r < 0
  · go_wp2
    go_ret
    exact ⟨_, rfl, fun h => by omega, B0⟩
  · go_wp2
    go_ret
    exact ⟨r, rfl, H1.out, B0⟩
/-- a fresh entry -/
def NewEnt (w : World) (p c : List Int) (a n pe pr bw : Int) (e : Ending) (w' : World) : Prop :=
  ∃ pa px ma mx, e = .returned (.agg #[.int .i64 a, .int .i64 n, .int .i64 pe, .slice pa p.length px, .int .i64 pr, .slice ma c.length mx, .int .i64 bw]) ∧ OwnI w' w.heap.size (.slice pa p.length px) p ∧ OwnI w' w.heap.size (.slice ma c.length mx) c ∧ Apart (.slice pa p.length px) (.slice ma c.length mx) ∧ Below w.heap.size w w'
set_option maxHeartbeats 1000000 in
theorem toEnt_any (pv cv : Value) (p c : List Int) (a n pe pr bw : Int) (w : World) (hp : RdI w pv p) (hc : RdI w cv c) (h2 : p.length ≤ 1048576) (h3 : c.length ≤ 1048576) :
    Calls Try.prog 123 #[.agg #[.int .i64 a, .int .i64 n, .int .i64 pe, pv, .int .i64 pr, cv, .int .i64 bw]] w (NewEnt w p c a n pe pr bw) := by
  obtain ⟨bA, bR, bO, B1, z⟩ := three w [.int .i64 a, .int .i64 n, .int .i64 pe, pv, .int .i64 pr, cv, .int .i64 bw] [.int .i64 0, .int .i64 0, .int .i64 0, .slice none 0 0, .int .i64 0, .slice none 0 0, .int .i64 0] [.int .i64 0, .int .i64 0, .int .i64 0, .slice none 0 0, .int .i64 0, .slice none 0 0, .int .i64 0] EL EI EI
  go_enter Try.func123, Try.ntmps123
  go_wp2_with fail
  refine (to_any a n _).mono ?_
  rintro e w1 ⟨rfl, hb⟩
  have hs := hb.size
  rw [z] at hs
  replace bA := bA.keep hb
  replace bR := bR.keep hb
  replace bO := bO.keep hb
  replace B1 := below_step B1 hb
  clear z hb
  obtain ⟨A, hA⟩ : ∃ A, A = w.heap.size := ⟨_, rfl⟩
  obtain ⟨R, hR⟩ : ∃ R, R = w.heap.size + 1 := ⟨_, rfl⟩
  obtain ⟨O, hO⟩ : ∃ O, O = w.heap.size + 1 + 1 := ⟨_, rfl⟩
  rw [← hA] at bA
  rw [← hR] at bR
  rw [← hO] at bO
  rw [← hO, ← hR, ← hA]
  have hO3 : O < w.heap.size + 3 := by omega
  have hRO : R ≠ O := by omega
  have hR3 : R < w.heap.size + 3 := by omega
  have hAO : A ≠ O := by omega
  have hwO : w.heap.size ≤ O := by omega
  have hwR : w.heap.size ≤ R := by omega
  clear hA hR hO
  have a2 := bA.c 2 rfl
  have a3 := bA.c 3 rfl
  have a4 := bA.c 4 rfl
  have a5 := bA.c 5 rfl
  have a6 := bA.c 6 rfl
  have o0 := bO.c 0 rfl
  have of0 := bO.f 0 rfl
  have o1 := bO.c 1 rfl
  have of1 := bO.f 1 rfl
  have o2 := bO.c 2 rfl
  have of2 := bO.f 2 rfl
  go_wp2_with fail
  clear a2 a3 a4 a5 a6 o0 of0 o1 of1 o2 of2
  have hs1 := hs
  replace hs1 := Nat.le_trans hs1 (grown_set (w1) O 0 (.int .i64 a)).size
  replace bA := bA.far (o := 0) (u := .int .i64 a) hAO
  replace bR := bR.far (o := 0) (u := .int .i64 a) hRO
  replace bO := bO.set 0 (.int .i64 a)
  replace B1 := B1.setCell (p := ⟨O, 0, none⟩) hwO (.int .i64 a)
  replace hs1 := Nat.le_trans hs1 (grown_set ((w1).setCell ⟨O, 0, none⟩ (.int .i64 a)) O 1 (.int .i64 n)).size
  replace bA := bA.far (o := 1) (u := .int .i64 n) hAO
  replace bR := bR.far (o := 1) (u := .int .i64 n) hRO
  replace bO := bO.set 1 (.int .i64 n)
  replace B1 := B1.setCell (p := ⟨O, 1, none⟩) hwO (.int .i64 n)
  replace hs1 := Nat.le_trans hs1 (grown_set (((w1).setCell ⟨O, 0, none⟩ (.int .i64 a)).setCell ⟨O, 1, none⟩ (.int .i64 n)) O 2 (.int .i64 pe)).size
  replace bA := bA.far (o := 2) (u := .int .i64 pe) hAO
  replace bR := bR.far (o := 2) (u := .int .i64 pe) hRO
  replace bO := bO.set 2 (.int .i64 pe)
  replace B1 := B1.setCell (p := ⟨O, 2, none⟩) hwO (.int .i64 pe)
  refine (toA_any pv cv p c pr bw _ (hp.keep B1) (hc.keep B1) h2 h3).mono ?_
  rintro e w3 ⟨pa, px, ma, mx, rfl, hP, hM, apPM, hb⟩
  replace hP := hP.mono hs1
  replace hM := hM.mono hs1
  replace bA := bA.keep hb
  replace bR := bR.keep hb
  replace bO := bO.keep hb
  replace B1 := below_step B1 hb
  clear hb hs1 hs
  have o0 := bO.c 0 rfl
  have of0 := bO.f 0 rfl
  have o1 := bO.c 1 rfl
  have of1 := bO.f 1 rfl
  have o2 := bO.c 2 rfl
  have of2 := bO.f 2 rfl
  have o3 := bO.c 3 rfl
  have of3 := bO.f 3 rfl
  have o4 := bO.c 4 rfl
  have of4 := bO.f 4 rfl
  have o5 := bO.c 5 rfl
  have of5 := bO.f 5 rfl
  have o6 := bO.c 6 rfl
  have of6 := bO.f 6 rfl
  have r0 := bR.c 0 rfl
  have rf0 := bR.f 0 rfl
  have r1 := bR.c 1 rfl
  have rf1 := bR.f 1 rfl
  have r2 := bR.c 2 rfl
  have rf2 := bR.f 2 rfl
  have r3 := bR.c 3 rfl
  have rf3 := bR.f 3 rfl
  have r4 := bR.c 4 rfl
  have rf4 := bR.f 4 rfl
  have r5 := bR.c 5 rfl
  have rf5 := bR.f 5 rfl
  have r6 := bR.c 6 rfl
  have rf6 := bR.f 6 rfl
  go_wp2_with fail
  have bE := (((((((((((bR.far (o := 3) (u := .slice pa p.length px) hRO).far (o := 4) (u := .int .i64 pr) hRO).far (o := 5) (u := .slice ma c.length mx) hRO).far (o := 6) (u := .int .i64 bw) hRO).set 0 (.int .i64 a)).set 1 (.int .i64 n)).set 2 (.int .i64 pe)).set 3 (.slice pa p.length px)).set 4 (.int .i64 pr)).set 5 (.slice ma c.length mx)).set 6 (.int .i64 bw))
  have e0 := bE.c 0 rfl
  have e1 := bE.c 1 rfl
  have e2 := bE.c 2 rfl
  have e3 := bE.c 3 rfl
  have e4 := bE.c 4 rfl
  have e5 := bE.c 5 rfl
  have e6 := bE.c 6 rfl
  exact bodyPost_ret (v := .agg #[.int .i64 a, .int .i64 n, .int .i64 pe, .slice pa p.length px, .int .i64 pr, .slice ma c.length mx, .int .i64 bw]) (by simp [results, Try.results123, go_sem, e0, e1, e2, e3, e4, e5, e6]) rfl
    ⟨pa, px, ma, mx, rfl, ((((((((((((hP.far (o := 3) hO3).far (o := 4) hO3).far (o := 5) hO3).far (o := 6) hO3).far (o := 0) hR3).far (o := 1) hR3).far (o := 2) hR3).far (o := 3) hR3).far (o := 4) hR3).far (o := 5) hR3).far (o := 6) hR3).mono (by omega)), ((((((((((((hM.far (o := 3) hO3).far (o := 4) hO3).far (o := 5) hO3).far (o := 6) hO3).far (o := 0) hR3).far (o := 1) hR3).far (o := 2) hR3).far (o := 3) hR3).far (o := 4) hR3).far (o := 5) hR3).far (o := 6) hR3).mono (by omega)), apPM, (((((((((((B1.setCell (p := ⟨O, 3, none⟩) hwO (.slice pa p.length px)).setCell (p := ⟨O, 4, none⟩) hwO (.int .i64 pr)).setCell (p := ⟨O, 5, none⟩) hwO (.slice ma c.length mx)).setCell (p := ⟨O, 6, none⟩) hwO (.int .i64 bw)).setCell (p := ⟨R, 0, none⟩) hwR (.int .i64 a)).setCell (p := ⟨R, 1, none⟩) hwR (.int .i64 n)).setCell (p := ⟨R, 2, none⟩) hwR (.int .i64 pe)).setCell (p := ⟨R, 3, none⟩) hwR (.slice pa p.length px)).setCell (p := ⟨R, 4, none⟩) hwR (.int .i64 pr)).setCell (p := ⟨R, 5, none⟩) hwR (.slice ma c.length mx)).setCell (p := ⟨R, 6, none⟩) hwR (.int .i64 bw))⟩
/-- element i of the cells xs is the entry E, its slices rows of one's own -/
def EntX (xs : List Value) (w : World) (base i : Nat) (E : Ent) : Prop :=
  ∃ u1 u2, OwnI w base u1 E.p ∧ OwnI w base u2 E.c ∧ xs[i * 7]? = some (.int .i64 E.a) ∧ xs[i * 7 + 1]? = some (.int .i64 E.n) ∧ xs[i * 7 + 2]? = some (.int .i64 E.pe) ∧ xs[i * 7 + 3]? = some (u1) ∧ xs[i * 7 + 4]? = some (.int .i64 E.pr) ∧ xs[i * 7 + 5]? = some (u2) ∧ xs[i * 7 + 6]? = some (.int .i64 E.bw)
def MadeE (w : World) (B n k : Nat) (L : List Ent) : Prop := ∃ xs : List Value, xs.length = n * 7 ∧ Bl w B xs ∧ ∀ i, i < k → EntX xs w (B + 1) i (L.getD i e0)
theorem MadeE.keep {w w' : World} {B n k : Nat} {L : List Ent} (h : MadeE w B n k L) (hb : Below w.heap.size w w') : MadeE w' B n k L := by
  obtain ⟨xs, hl, hB, hx⟩ := h
  refine ⟨xs, hl, hB.keep hb, fun i hi => ?_⟩
  obtain ⟨u1, u2, h1, h2, h3⟩ := hx i hi
  exact ⟨u1, u2, h1.keep hb, h2.keep hb, h3⟩
theorem MadeE.cell {w : World} {B n k : Nat} {L : List Ent} (h : MadeE w B n k L) (j : Nat) (hj : j < n * 7) : ∃ x, w.cell? ⟨B, j, none⟩ = some x ∧ w.frozen? ⟨B, j, none⟩ = false := by
  obtain ⟨xs, hl, hB, hx⟩ := h
  exact ⟨_, hB.c j (List.getElem?_eq_getElem (by omega)), hB.f j (List.getElem?_eq_getElem (by omega))⟩
theorem MadeE.step {w : World} {B n k : Nat} {L : List Ent} (h : MadeE w B n k L) (hk : k < n) {u1 u2 : Value} {E : Ent} (hE : L.getD k e0 = E) (h1 : OwnI w (B + 1) u1 E.p) (h2 : OwnI w (B + 1) u2 E.c) :
    MadeE (((((((w.setCell ⟨B, k * 7, none⟩ (.int .i64 E.a)).setCell ⟨B, k * 7 + 1, none⟩ (.int .i64 E.n)).setCell ⟨B, k * 7 + 2, none⟩ (.int .i64 E.pe)).setCell ⟨B, k * 7 + 3, none⟩ (u1)).setCell ⟨B, k * 7 + 4, none⟩ (.int .i64 E.pr)).setCell ⟨B, k * 7 + 5, none⟩ (u2)).setCell ⟨B, k * 7 + 6, none⟩ (.int .i64 E.bw)) B n (k + 1) L := by
  obtain ⟨xs, hl, hB, hx⟩ := h
  refine ⟨(((((((xs.set (k * 7) (.int .i64 E.a)).set (k * 7 + 1) (.int .i64 E.n)).set (k * 7 + 2) (.int .i64 E.pe)).set (k * 7 + 3) (u1)).set (k * 7 + 4) (.int .i64 E.pr)).set (k * 7 + 5) (u2)).set (k * 7 + 6) (.int .i64 E.bw)), by simpa using hl, (((((((hB.set (k * 7) (.int .i64 E.a)).set (k * 7 + 1) (.int .i64 E.n)).set (k * 7 + 2) (.int .i64 E.pe)).set (k * 7 + 3) (u1)).set (k * 7 + 4) (.int .i64 E.pr)).set (k * 7 + 5) (u2)).set (k * 7 + 6) (.int .i64 E.bw)), fun i hi => ?_⟩
  by_cases e : i = k
  · have e' := e.symm
    subst e'
    rw [hE]
    refine ⟨u1, u2, (OwnI.far (o := k * 7 + 6) (u := .int .i64 E.bw) (OwnI.far (o := k * 7 + 5) (u := u2) (OwnI.far (o := k * 7 + 4) (u := .int .i64 E.pr) (OwnI.far (o := k * 7 + 3) (u := u1) (OwnI.far (o := k * 7 + 2) (u := .int .i64 E.pe) (OwnI.far (o := k * 7 + 1) (u := .int .i64 E.n) (OwnI.far (o := k * 7) (u := .int .i64 E.a) h1 (Nat.lt_succ_self B)) (Nat.lt_succ_self B)) (Nat.lt_succ_self B)) (Nat.lt_succ_self B)) (Nat.lt_succ_self B)) (Nat.lt_succ_self B)) (Nat.lt_succ_self B)), (OwnI.far (o := k * 7 + 6) (u := .int .i64 E.bw) (OwnI.far (o := k * 7 + 5) (u := u2) (OwnI.far (o := k * 7 + 4) (u := .int .i64 E.pr) (OwnI.far (o := k * 7 + 3) (u := u1) (OwnI.far (o := k * 7 + 2) (u := .int .i64 E.pe) (OwnI.far (o := k * 7 + 1) (u := .int .i64 E.n) (OwnI.far (o := k * 7) (u := .int .i64 E.a) h2 (Nat.lt_succ_self B)) (Nat.lt_succ_self B)) (Nat.lt_succ_self B)) (Nat.lt_succ_self B)) (Nat.lt_succ_self B)) (Nat.lt_succ_self B)) (Nat.lt_succ_self B)), ?_, ?_, ?_, ?_, ?_, ?_, ?_⟩
    all_goals simp only [List.getElem?_set, List.length_set]
    all_goals simp (disch := omega) [hl]
    all_goals omega
  · obtain ⟨v1, v2, g1, g2, c0, c1, c2, c3, c4, c5, c6⟩ := hx i (by omega)
    refine ⟨v1, v2, (OwnI.far (o := k * 7 + 6) (u := .int .i64 E.bw) (OwnI.far (o := k * 7 + 5) (u := u2) (OwnI.far (o := k * 7 + 4) (u := .int .i64 E.pr) (OwnI.far (o := k * 7 + 3) (u := u1) (OwnI.far (o := k * 7 + 2) (u := .int .i64 E.pe) (OwnI.far (o := k * 7 + 1) (u := .int .i64 E.n) (OwnI.far (o := k * 7) (u := .int .i64 E.a) g1 (Nat.lt_succ_self B)) (Nat.lt_succ_self B)) (Nat.lt_succ_self B)) (Nat.lt_succ_self B)) (Nat.lt_succ_self B)) (Nat.lt_succ_self B)) (Nat.lt_succ_self B)), (OwnI.far (o := k * 7 + 6) (u := .int .i64 E.bw) (OwnI.far (o := k * 7 + 5) (u := u2) (OwnI.far (o := k * 7 + 4) (u := .int .i64 E.pr) (OwnI.far (o := k * 7 + 3) (u := u1) (OwnI.far (o := k * 7 + 2) (u := .int .i64 E.pe) (OwnI.far (o := k * 7 + 1) (u := .int .i64 E.n) (OwnI.far (o := k * 7) (u := .int .i64 E.a) g2 (Nat.lt_succ_self B)) (Nat.lt_succ_self B)) (Nat.lt_succ_self B)) (Nat.lt_succ_self B)) (Nat.lt_succ_self B)) (Nat.lt_succ_self B)) (Nat.lt_succ_self B)), ?_, ?_, ?_, ?_, ?_, ?_, ?_⟩
    all_goals (repeat rw [List.getElem?_set_ne (by omega)])
    all_goals assumption
/-- a row of entries of one's own -/
def OwnE (w : World) (base : Nat) (v : Value) (L : List Ent) : Prop := ∃ B, v = .slice (some ⟨B, 0, none⟩) L.length L.length ∧ base ≤ B ∧ MadeE w B L.length L.length L
theorem OwnE.keep {w w' : World} {base : Nat} {v : Value} {L : List Ent} (h : OwnE w base v L) (hb : Below w.heap.size w w') : OwnE w' base v L := by
  obtain ⟨B, rfl, h1, h2⟩ := h
  exact ⟨B, rfl, h1, h2.keep hb⟩
theorem OwnE.mono {w : World} {base base' : Nat} {v : Value} {L : List Ent} (h : OwnE w base v L) (hb : base' ≤ base) : OwnE w base' v L := by
  obtain ⟨B, rfl, h1, h2⟩ := h
  exact ⟨B, rfl, Nat.le_trans hb h1, h2⟩
theorem OwnE.rd {w : World} {base : Nat} {v : Value} {L : List Ent} (h : OwnE w base v L) (hd : ∀ i, i < L.length → BdE (L.getD i e0)) (hn : L.length ≤ 1048576) : RdE w v L := by
  obtain ⟨B, rfl, h1, xs, hl, hB, hx⟩ := h
  refine ⟨by omega, ?_⟩
  by_cases h0 : L.length = 0
  · refine .inl ⟨some ⟨B, 0, none⟩, 0, by rw [h0], List.eq_nil_of_length_eq_zero h0, fun h => by cases h⟩
  · refine .inr ⟨B, 0, L.length, rfl, by omega, fun i hi => ?_⟩
    obtain ⟨u1, u2, g1, g2, c0, c1, c2, c3, c4, c5, c6⟩ := hx i hi
    refine ⟨u1, u2, g1.rd (hd i hi).1, g2.rd (hd i hi).2, ?_⟩
    simp only [Nat.zero_add]
    exact ⟨hB.c _ c0, hB.c _ c1, hB.c _ c2, hB.c _ c3, hB.c _ c4, hB.c _ c5, hB.c _ c6⟩
theorem infoE : (Try.prog.info? EI).map (fun i => (i.zero, i.size, i.bytes)) = some (some (.agg #[.int .i64 0, .int .i64 0, .int .i64 0, .slice none 0 0, .int .i64 0, .slice none 0 0, .int .i64 0]), 7, 88) := by kernel_rfl
theorem make_E (t : TypeId) (ht : Try.prog.underlying t = some (.slice EI)) (n : Nat) (hn : n ≤ 1048576) (w : World) :
    (Instr.makeSlice t (.int .i64 (n : Int)) (.int .i64 (n : Int))).run Try.prog w = .ok (.slice (some ⟨w.heap.size, 0, none⟩) n n) (w.alloc (.cells (madeCells #[Value.int .i64 0, Value.int .i64 0, Value.int .i64 0, Value.slice none 0 0, Value.int .i64 0, Value.slice none 0 0, Value.int .i64 0] (n * 7)) EI)) := by
  obtain ⟨i, hi, hzz⟩ := Option.map_eq_some_iff.1 infoE
  simp only [Prod.mk.injEq] at hzz
  obtain ⟨hz, hs, hb⟩ := hzz
  have hr := run_make (P := Try.prog) w t EI i _ ht hi hz .i64 .i64 n n (by omega) (Int.le_refl _) (by rw [hb]; omega) (by omega)
  simpa only [Int.toNat_natCast, hs, Value.cells] using hr
theorem made_start (w : World) (n : Nat) (L : List Ent) : MadeE (w.alloc (.cells (madeCells #[Value.int .i64 0, Value.int .i64 0, Value.int .i64 0, Value.slice none 0 0, Value.int .i64 0, Value.slice none 0 0, Value.int .i64 0] (n * 7)) EI)) w.heap.size n 0 L := by
  refine ⟨(madeCells #[Value.int .i64 0, Value.int .i64 0, Value.int .i64 0, Value.slice none 0 0, Value.int .i64 0, Value.slice none 0 0, Value.int .i64 0] (n * 7)).toList, by simp [size_madeCells], ?_, fun i hi => absurd hi (Nat.not_lt_zero _)⟩
  have := Bl.new w (madeCells #[Value.int .i64 0, Value.int .i64 0, Value.int .i64 0, Value.slice none 0 0, Value.int .i64 0, Value.slice none 0 0, Value.int .i64 0] (n * 7)).toList EI w.heap.size rfl
  simpa using this
set_option maxHeartbeats 1000000 in
theorem toES_any (v : Value) (L : List Ent) (w : World) (h : RdE w v L) (hn : L.length + wtE L ≤ 1048576) :
    Calls Try.prog 64 #[v] w fun e w' => ∃ u, e = .returned u ∧ OwnE w' w.heap.size u L ∧ Below w.heap.size w w' := by
  have hmk := fun W => make_E 43 Try.underlying43 L.length (by omega) W
  obtain ⟨a, c, rfl, hc⟩ := h.el
  obtain ⟨n, hn'⟩ : ∃ n, n = L.length := ⟨_, rfl⟩
  rw [← hn'] at hc hn hmk ⊢
  have hnn : n ≤ 1048576 := by omega
  have HN := Lib.hid hn'
  have HW := Lib.hid hn
  clear hn' h hn
  obtain ⟨B, hBB⟩ : ∃ B, B = w.heap.size := ⟨_, rfl⟩
  have hst := made_start w n L
  rw [← hBB] at hst
  have HS := Lib.hid hst
  have HBB := Lib.hid hBB
  have hwB : w.heap.size ≤ B := by omega
  clear hst
  go_enter Try.func64, Try.ntmps64
  go_wp2
  rw [← hBB]
  clear hmk hBB
  go_loopw [4] (fun i wr => ∃ k : Nat, k ≤ n ∧ i = .int .i64 k ∧ MadeE wr B n k L ∧ Below w.heap.size w wr) (fun i _ => n - (intOf i).toNat)
  case atStart => exact ⟨0, Nat.zero_le _, rfl, HS.out, (Below.refl _ _).alloc (Nat.le_refl _) _⟩
  case round =>
    obtain ⟨k, hk, rfl, hM, hB⟩ := hrel
    by_cases hlt : k < n
    · have hltI : (k : Int) < (n : Int) := by omega
      obtain ⟨b, o, rfl, hE⟩ := hc k hlt
      obtain ⟨E, hx⟩ : ∃ E, L.getD k e0 = E := ⟨_, rfl⟩
      rw [hx] at hE
      obtain ⟨pv, cv, hp, hq, k0, k1, k2, k3, k4, k5, k6⟩ := hE.keep hB
      have HX := Lib.hid hx
      have HCC := Lib.hid hc
      clear hx hc hE
      have hpl : E.p.length ≤ 1048576 := by
        have h1 := wt_at (L := L) (k := k) (by rw [← HN.out]; exact hlt)
        rw [HX.out] at h1
        have := HW.out
        omega
      have hcl : E.c.length ≤ 1048576 := by
        have h1 := wt_at (L := L) (k := k) (by rw [← HN.out]; exact hlt)
        rw [HX.out] at h1
        have := HW.out
        omega
      have hBW : B < wr.heap.size := by
        obtain ⟨xs, hl, hBl, -⟩ := hM
        exact hBl.lt
      go_wp2_with fail
      refine (toEnt_any pv cv E.p E.c _ _ _ _ _ _ hp hq hpl hcl).mono ?_
      rintro e w2 ⟨pa, px, ma, mx, rfl, h1, h2, ap, hb⟩
      have hM2 := hM.keep hb
      have hB2 := below_step hB hb
      replace h1 := h1.mono (Nat.succ_le_of_lt hBW)
      replace h2 := h2.mono (Nat.succ_le_of_lt hBW)
      clear hM hB hb k0 k1 k2 k3 k4 k5 k6 hp hq ap hpl hcl hBW
      obtain ⟨p0, g0, f0⟩ := hM2.cell (k * 7) (by omega)
      obtain ⟨p1, g1, f1⟩ := hM2.cell (k * 7 + 1) (by omega)
      obtain ⟨p2, g2, f2⟩ := hM2.cell (k * 7 + 2) (by omega)
      obtain ⟨p3, g3, f3⟩ := hM2.cell (k * 7 + 3) (by omega)
      obtain ⟨p4, g4, f4⟩ := hM2.cell (k * 7 + 4) (by omega)
      obtain ⟨p5, g5, f5⟩ := hM2.cell (k * 7 + 5) (by omega)
      obtain ⟨p6, g6, f6⟩ := hM2.cell (k * 7 + 6) (by omega)
      have HM := Lib.hid (hM2.step hlt HX.out h1 h2)
      have hB3 := (((((((hB2.setCell (p := ⟨B, k * 7, none⟩) hwB (.int .i64 E.a)).setCell (p := ⟨B, k * 7 + 1, none⟩) hwB (.int .i64 E.n)).setCell (p := ⟨B, k * 7 + 2, none⟩) hwB (.int .i64 E.pe)).setCell (p := ⟨B, k * 7 + 3, none⟩) hwB ((.slice pa E.p.length px))).setCell (p := ⟨B, k * 7 + 4, none⟩) hwB (.int .i64 E.pr)).setCell (p := ⟨B, k * 7 + 5, none⟩) hwB ((.slice ma E.c.length mx))).setCell (p := ⟨B, k * 7 + 6, none⟩) hwB (.int .i64 E.bw))
      clear hM2 hB2 h1 h2
      go_wp2
      go_roundw
      case rel => exact ⟨k + 1, by omega, by go_num, HM.out, hB3⟩
      case measure => simp [intOf]; omega
    · have hkn : k = n := by omega
      subst hkn
      clear hc
      go_wp2
      go_ret
      exact ⟨.slice (some ⟨B, 0, none⟩) k k, rfl, ⟨B, by rw [← HN.out], hwB, by rw [← HN.out]; exact hM⟩, hB⟩
theorem toRb_any (v : Value) (L : List Ent) (w : World) (h : RdE w v L) (hn : L.length + wtE L ≤ 1048576) :
    Calls Try.prog 19 #[.agg #[v]] w fun e w' => ∃ u, e = .returned (.agg #[u]) ∧ OwnE w' w.heap.size u L ∧ Below w.heap.size w w' := by
  obtain ⟨bA, bR, bO, B1, z⟩ := three w [v] [.slice none 0 0] [.slice none 0 0] 39 46 46
  have h1 := h.keep B1
  go_enter Try.func19, Try.ntmps19
  go_wp2_with fail
  refine (toES_any _ L _ h1 hn).mono ?_
  rintro e w1 ⟨u, rfl, ho, hb⟩
  replace bA := bA.keep hb
  replace bR := bR.keep hb
  replace bO := bO.keep hb
  have hs := hb.size
  replace B1 := below_step B1 hb
  rw [z] at ho hs
  clear z hb h1
  obtain ⟨A, hA⟩ : ∃ A, A = w.heap.size := ⟨_, rfl⟩
  obtain ⟨R, hR⟩ : ∃ R, R = w.heap.size + 1 := ⟨_, rfl⟩
  obtain ⟨O, hO⟩ : ∃ O, O = w.heap.size + 1 + 1 := ⟨_, rfl⟩
  rw [← hA] at bA
  rw [← hR] at bR
  rw [← hO] at bO
  rw [← hO, ← hR]
  try rw [← hA]
  have hO3 : O < w.heap.size + 3 := by omega
  have hRO : R ≠ O := by omega
  have hR3 : R < w.heap.size + 3 := by omega
  have hwO : w.heap.size ≤ O := by omega
  have hwR : w.heap.size ≤ R := by omega
  clear hA hR hO
  obtain ⟨B, rfl, hBb, hM⟩ := ho
  have o0 := bO.c 0 rfl
  have of0 := bO.f 0 rfl
  have r0 := bR.c 0 rfl
  have rf0 := bR.f 0 rfl
  go_wp2_with fail
  have bE := (bR.far (o := 0) (u := .slice (some ⟨B, 0, none⟩) L.length L.length) hRO).set 0 (.slice (some ⟨B, 0, none⟩) L.length L.length)
  have e0 := bE.c 0 rfl
  have hM2 : MadeE ((w1.setCell ⟨O, 0, none⟩ (.slice (some ⟨B, 0, none⟩) L.length L.length)).setCell ⟨R, 0, none⟩ (.slice (some ⟨B, 0, none⟩) L.length L.length)) B L.length L.length L := by
    obtain ⟨xs, hl, hBl, hx⟩ := hM
    refine ⟨xs, hl, (hBl.far (by omega)).far (by omega), fun i hi => ?_⟩
    obtain ⟨u1, u2, g1, g2, g3⟩ := hx i hi
    exact ⟨u1, u2, (g1.far (by omega)).far (by omega), (g2.far (by omega)).far (by omega), g3⟩
  exact bodyPost_ret (v := .agg #[.slice (some ⟨B, 0, none⟩) L.length L.length]) (by simp [results, Try.results19, go_sem, e0]) rfl
    ⟨_, rfl, ⟨B, rfl, by omega, hM2⟩, (B1.setCell (p := ⟨O, 0, none⟩) hwO _).setCell (p := ⟨R, 0, none⟩) hwR _⟩
theorem eqPx_same (a n : Int) (w : World) : Calls Try.prog 83 #[.agg #[.int .i64 a, .int .i64 n], .agg #[.int .i64 a, .int .i64 n]] w fun e w' => e = .returned (.bool true) ∧ Below w.heap.size w w' := by
  have := eqPx_any a n a n w
  simpa using this
theorem eqEnt_same (pv cv pv2 cv2 : Value) (p c : List Int) (a n pe pr bw : Int) (w : World) (hp : RdI w pv p) (hc : RdI w cv c) (hp2 : RdI w pv2 p) (hc2 : RdI w cv2 c) :
    Calls Try.prog 69 #[.agg #[.int .i64 a, .int .i64 n, .int .i64 pe, pv, .int .i64 pr, cv, .int .i64 bw], .agg #[.int .i64 a, .int .i64 n, .int .i64 pe, pv2, .int .i64 pr, cv2, .int .i64 bw]] w fun e w' => e = .returned (.bool true) ∧ Below w.heap.size w w' := by
  obtain ⟨bA, bB, B1, z⟩ := two w [.int .i64 a, .int .i64 n, .int .i64 pe, pv, .int .i64 pr, cv, .int .i64 bw] [.int .i64 a, .int .i64 n, .int .i64 pe, pv2, .int .i64 pr, cv2, .int .i64 bw] EI EI
  replace hp := hp.keep B1
  replace hc := hc.keep B1
  replace hp2 := hp2.keep B1
  replace hc2 := hc2.keep B1
  clear z
  have q0 : (pe != pe) = false := by simp
  go_enter Try.func69, Try.ntmps69
  go_wp2_with fail
  refine (eqPx_same a n _).mono ?_
  rintro e w1 ⟨rfl, hb⟩
  replace bA := bA.keep hb
  replace bB := bB.keep hb
  replace hp := hp.keep hb
  replace hc := hc.keep hb
  replace hp2 := hp2.keep hb
  replace hc2 := hc2.keep hb
  replace B1 := below_step B1 hb
  clear hb
  have a2 := bA.c 2 rfl
  have a3 := bA.c 3 rfl
  have a4 := bA.c 4 rfl
  have a5 := bA.c 5 rfl
  have a6 := bA.c 6 rfl
  have b2 := bB.c 2 rfl
  have b3 := bB.c 3 rfl
  have b4 := bB.c 4 rfl
  have b5 := bB.c 5 rfl
  have b6 := bB.c 6 rfl
  go_wp2_with fail
  refine (eqA_same _ _ _ _ p c pr bw _ hp hc hp2 hc2).mono ?_
  rintro e w3 ⟨rfl, hb⟩
  replace B1 := below_step B1 hb
  clear hb
  go_wp2
  go_ret
  exact ⟨rfl, B1⟩
set_option maxHeartbeats 1000000 in
theorem eqES_same (v u : Value) (L : List Ent) (w : World) (h1 : RdE w v L) (h2 : RdE w u L) :
    Calls Try.prog 22 #[v, u] w fun e w' => e = .returned (.bool true) ∧ Below w.heap.size w w' := by
  have hm1 := h1.1
  obtain ⟨a, c, rfl, hc⟩ := h1.el
  obtain ⟨a', c', rfl, hc'⟩ := h2.el
  obtain ⟨n, hn⟩ : ∃ n, n = L.length := ⟨_, rfl⟩
  rw [← hn] at hc hc' hm1 ⊢
  have HN := Lib.hid hn
  clear hn h1 h2
  have hnn : ((n : Int) != (n : Int)) = false := by simp
  go_enter Try.func22, Try.ntmps22
  go_wp2
  go_loopw [5] (fun i wr => ∃ k : Nat, k ≤ n ∧ i = .int .i64 k ∧ Below w.heap.size w wr) (fun i _ => n - (intOf i).toNat)
  case atStart => exact ⟨0, Nat.zero_le _, rfl, Below.refl _ _⟩
  case round =>
    obtain ⟨k, hk, rfl, hB⟩ := hrel
    by_cases hlt : k < n
    · have hltI : (k : Int) < (n : Int) := by omega
      obtain ⟨b, o, rfl, hE⟩ := hc k hlt
      obtain ⟨b', o', rfl, hE'⟩ := hc' k hlt
      obtain ⟨E, hx⟩ : ∃ E, L.getD k e0 = E := ⟨_, rfl⟩
      rw [hx] at hE hE'
      obtain ⟨pv, cv, hp, hq, k0, k1, k2, k3, k4, k5, k6⟩ := hE.keep hB
      obtain ⟨pv2, cv2, hp2, hq2, m0, m1, m2, m3, m4, m5, m6⟩ := hE'.keep hB
      clear hx hc hc' hE hE'
      go_wp2
      go_region_held3 (fun w' => Over wr w' ∧ w'.cell? ⟨b, o + k * 7, none⟩ = some (.int .i64 E.a) ∧ w'.cell? ⟨b, o + k * 7 + 1, none⟩ = some (.int .i64 E.n) ∧ w'.cell? ⟨b, o + k * 7 + 2, none⟩ = some (.int .i64 E.pe) ∧ w'.cell? ⟨b, o + k * 7 + 3, none⟩ = some (pv) ∧ w'.cell? ⟨b, o + k * 7 + 4, none⟩ = some (.int .i64 E.pr) ∧ w'.cell? ⟨b, o + k * 7 + 5, none⟩ = some (cv) ∧ w'.cell? ⟨b, o + k * 7 + 6, none⟩ = some (.int .i64 E.bw) ∧ w'.cell? ⟨b', o' + k * 7, none⟩ = some (.int .i64 E.a) ∧ w'.cell? ⟨b', o' + k * 7 + 1, none⟩ = some (.int .i64 E.n) ∧ w'.cell? ⟨b', o' + k * 7 + 2, none⟩ = some (.int .i64 E.pe) ∧ w'.cell? ⟨b', o' + k * 7 + 3, none⟩ = some (pv2) ∧ w'.cell? ⟨b', o' + k * 7 + 4, none⟩ = some (.int .i64 E.pr) ∧ w'.cell? ⟨b', o' + k * 7 + 5, none⟩ = some (cv2) ∧ w'.cell? ⟨b', o' + k * 7 + 6, none⟩ = some (.int .i64 E.bw))
        ((first | exact ⟨over_drew _, k0, k1, k2, k3, k4, k5, k6, m0, m1, m2, m3, m4, m5, m6⟩ | exact (fun o => ⟨o, over_cell o (World.block_lt_of_cell? wr _ k0) k0, over_cell o (World.block_lt_of_cell? wr _ k1) k1, over_cell o (World.block_lt_of_cell? wr _ k2) k2, over_cell o (World.block_lt_of_cell? wr _ k3) k3, over_cell o (World.block_lt_of_cell? wr _ k4) k4, over_cell o (World.block_lt_of_cell? wr _ k5) k5, over_cell o (World.block_lt_of_cell? wr _ k6) k6, over_cell o (World.block_lt_of_cell? wr _ m0) m0, over_cell o (World.block_lt_of_cell? wr _ m1) m1, over_cell o (World.block_lt_of_cell? wr _ m2) m2, over_cell o (World.block_lt_of_cell? wr _ m3) m3, over_cell o (World.block_lt_of_cell? wr _ m4) m4, over_cell o (World.block_lt_of_cell? wr _ m5) m5, over_cell o (World.block_lt_of_cell? wr _ m6) m6⟩) (over_step (by assumption : Over wr _ ∧ _).1 (by assumption))))
        ((first | (go_at_call 69; refine (eqEnt_same pv cv pv2 cv2 E.p E.c _ _ _ _ _ _ (rdI_over hp (‹Over wr _ ∧ _›).1) (rdI_over hq (‹Over wr _ ∧ _›).1) (rdI_over hp2 (‹Over wr _ ∧ _›).1) (rdI_over hq2 (‹Over wr _ ∧ _›).1)).mono ?_; rintro e w6 ⟨rfl, hbb⟩)))
      rename_i hH
      replace hB := below_step hB hH.1
      clear hH hbb k0 k1 k2 k3 k4 k5 k6 m0 m1 m2 m3 m4 m5 m6 hp hq hp2 hq2
      go_wp2
      go_roundw
      case rel => exact ⟨k + 1, by omega, by go_num, hB⟩
      case measure => simp [intOf]; omega
    · have hkn : k = n := by omega
      clear hc hc'
      go_wp2
      go_ret
      exact ⟨rfl, hB⟩
theorem eqRb_same (v u : Value) (L : List Ent) (w : World) (h1 : RdE w v L) (h2 : RdE w u L) :
    Calls Try.prog 23 #[.agg #[v], .agg #[u]] w fun e w' => e = .returned (.bool true) ∧ Below w.heap.size w w' := by
  obtain ⟨bA, bB, B1, z⟩ := two w [v] [u] 46 46
  replace h1 := h1.keep B1
  replace h2 := h2.keep B1
  clear z
  go_enter Try.func23, Try.ntmps23
  go_wp2_with fail
  refine (eqES_same _ _ L _ h1 h2).mono ?_
  rintro e w1 ⟨rfl, hb⟩
  replace B1 := below_step B1 hb
  clear hb
  go_wp2
  go_ret
  exact ⟨rfl, B1⟩
end Go.Proofs.Ytbcmoofpgffbhaa
