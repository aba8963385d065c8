/-
  Switches: what an argument that is one reads as; contracts of the laws' own functions that size, copy and compare them. Conditions: those in each contract.
-/
import Derived.Test.YtaiffofmhfflkaaGreatF2
namespace Go.Proofs.YtaiffofmhfflkaaGreat
open Go.ChangeShapes Go.WideShapes Go.ChangeAt Go.RowKit Go.BigFrame Go.Joins
set_option linter.unusedVariables false
set_option maxRecDepth 100000
set_option linter.unusedSimpArgs false
set_option maxRecDepth 100000

theorem szES_l (v : Value) (L : List Ent) (left : Int) (w : World) (h : RdE w v L) (hl0 : 0 ≤ left) (hl1 : left ≤ 1048576) :
    Calls Tryz.prog 101 #[v, .int .i64 left] w fun e w' => ∃ r : Int, e = .returned (.int .i64 r) ∧ (¬ r < 0 → r = left - (L.length : Nat) - (wtE L : Nat)) ∧ (r < 0 → r = -1) ∧ Below w.heap.size w w' := by
  have hm := h.1
  obtain ⟨a, c, rfl, hc⟩ := h.el
  obtain ⟨n, hn⟩ : ∃ n, n = L.length := ⟨_, rfl⟩
  rw [← hn] at hc hm ⊢
  have HN := Lib.hid hn
  clear h hn
  by_cases hbig : left - n < 0
  · go_enter Tryz.func101, Tryz.ntmps101
    have hw1 : IntKind.i64.wrap (left - (n : Int)) = left - (n : Int) := wrap64_in _ (by omega) (by omega)
    go_wp2
    go_ret
    exact ⟨-1, rfl, fun h => by omega, fun _ => rfl, Below.refl _ _⟩
  · have hnn : (n : Int) ≤ 1048576 := by omega
    have hw1 : IntKind.i64.wrap (left - (n : Int)) = left - (n : Int) := wrap64_in _ (by omega) (by omega)
    go_enter Tryz.func101, Tryz.ntmps101
    go_wp2
    go_loopw [1, 5] (fun q i wr => ∃ k : Nat, k ≤ n ∧ i = .int .i64 k ∧ (∃ l : Int, q = .int .i64 l ∧ 0 ≤ l ∧ l = left - (n : Int) - (wtE (L.take k) : Nat)) ∧ Below w.heap.size w wr) (fun _ i _ => n - (intOf i).toNat)
    case atStart => exact ⟨0, Nat.zero_le _, rfl, ⟨_, rfl, by omega, by simp [wtE]⟩, Below.refl _ _⟩
    case round =>
      obtain ⟨k, hk, rfl, ⟨l, rfl, hl0, hl⟩, hB⟩ := hrel
      have HL := Lib.hid hl
      have hl1 : l ≤ 1048576 := by omega
      clear hl
      by_cases hlt : k < n
      · have hltI : (k : Int) < (n : Int) := by omega
        obtain ⟨b, o, rfl, hE⟩ := hc k hlt
        obtain ⟨E, hx⟩ : ∃ E, L.getD k e0 = E := ⟨_, rfl⟩
        rw [hx] at hE
        obtain ⟨pv, cv, hp, hq, k0, k1, k2, k3, k4, k5, k6⟩ := hE.keep hB
        have HX := Lib.hid hx
        have HCC := Lib.hid hc
        clear hx hc hE
        obtain ⟨r, hr⟩ : ∃ r, szA l E.p E.c = r := ⟨_, rfl⟩
        have HR := Lib.hid hr
        have hneg1 : r < 0 → r = -1 := fun hneg => by rw [← hr] at hneg ⊢; exact szA_neg hl0 hneg
        have HN1 := Lib.hid hneg1
        clear hr hneg1
        by_cases hneg : r < 0
        · go_wp2_with fail
          refine (szEnt_any pv cv E.p E.c _ _ _ _ _ _ _ hp hq hl0 hl1).mono ?_
          rw [HR.out]
          rintro e w1 ⟨rfl, hb⟩
          have hB2 := below_step hB hb
          clear hb hB k0 k1 k2 k3 k4 k5 k6 hp hq
          go_wp2
          go_ret
          exact ⟨-1, rfl, fun h => by omega, fun _ => rfl, hB2⟩
        · go_wp2_with fail
          refine (szEnt_any pv cv E.p E.c _ _ _ _ _ _ _ hp hq hl0 hl1).mono ?_
          rw [HR.out]
          rintro e w1 ⟨rfl, hb⟩
          have hB2 := below_step hB hb
          clear hb hB k0 k1 k2 k3 k4 k5 k6 hp hq
          go_wp2
          go_roundw
          case rel =>
            refine ⟨k + 1, by omega, by go_num, ⟨r, rfl, by omega, ?_⟩, hB2⟩
            have h1 := wt_take (L := L) (k := k) (by rw [← HN.out]; exact hlt)
            rw [HX.out] at h1
            have h2 := szA_eq (left := l) (p := E.p) (c := E.c) (by rw [HR.out]; omega)
            rw [HR.out] at h2
            have h3 := HL.out
            omega
          case measure => simp [intOf]; omega
      · have hkn : k = n := by omega
        subst hkn
        have hw : wtE (L.take k) = wtE L := by rw [List.take_of_length_le (by rw [HN.out]; exact Nat.le_refl _)]
        clear hc
        go_wp2
        go_ret
        refine ⟨l, rfl, fun _ => ?_, fun h => by omega, hB⟩
        have h3 := HL.out
        rw [hw] at h3
        exact h3
theorem szRb_l (v : Value) (L : List Ent) (left : Int) (w : World) (h : RdE w v L) (hl0 : 0 ≤ left) (hl1 : left ≤ 1048576) :
    Calls Tryz.prog 43 #[.agg #[v], .int .i64 left] w fun e w' => ∃ r : Int, e = .returned (.int .i64 r) ∧ (¬ r < 0 → r = left - (L.length : Nat) - (wtE L : Nat)) ∧ Below w.heap.size w w' := by
  obtain ⟨bA, B0, z⟩ := one w [v] 25
  replace h := h.keep B0
  clear z
  go_enter Tryz.func43, Tryz.ntmps43
  go_wp2_with fail
  refine (szES_l _ L left _ h hl0 hl1).mono ?_
  rintro e w1 ⟨r, rfl, h1, h2, hb⟩
  replace B0 := below_step B0 hb
  have H1 := Lib.hid h1
  have H2 := Lib.hid h2
  clear hb h1 h2
  by_cases hneg : r < 0
  · go_wp2
    go_ret
    exact ⟨_, rfl, fun h => by omega, B0⟩
  · go_wp2
    go_ret
    exact ⟨r, rfl, H1.out, B0⟩
structure Nd where
  an : Int
  own : List (Int × Int)
  bw : Int
  dr : Bool
  rib : List Ent
  sent : List Ent
/-- the values of the slices of a switch read as they should -/
def RdN (w : World) (ov rv sv : Value) (N : Nd) : Prop := RdP w ov N.own ∧ RdE w rv N.rib ∧ RdE w sv N.sent
theorem RdN.keep {w w' : World} {ov rv sv : Value} {N : Nd} (h : RdN w ov rv sv N) (hb : Below w.heap.size w w') : RdN w' ov rv sv N := ⟨h.1.keep hb, h.2.1.keep hb, h.2.2.keep hb⟩
def Is_Node (W : World) (v : Value) : Prop := ∃ (N : Nd) (ov rv sv : Value), v = .agg #[.int .i64 N.an, ov, .int .i64 N.bw, .bool N.dr, rv, sv] ∧ RdN W ov rv sv N
def wtN (N : Nd) : Nat := N.own.length + (N.rib.length + wtE N.rib) + (N.sent.length + wtE N.sent)
theorem array6 {α : Type} {xs : Array α} (h : xs.size = 6) : ∃ c0 c1 c2 c3 c4 c5, xs = #[c0, c1, c2, c3, c4, c5] := by
  obtain ⟨l⟩ := xs
  match l, h with
  | [c0, c1, c2, c3, c4, c5], _ => exact ⟨c0, c1, c2, c3, c4, c5, rfl⟩
theorem list6 {α : Type} {xs : List α} (h : xs.length = 6) : ∃ c0 c1 c2 c3 c4 c5, xs = [c0, c1, c2, c3, c4, c5] := by
  match xs, h with
  | [c0, c1, c2, c3, c4, c5], _ => exact ⟨c0, c1, c2, c3, c4, c5, rfl⟩
section
variable {H : Type} {enc : TypeId × Value → H} {W : World} {base : Nat} {d : DataW H} {p : List MemPlace} {v : Value}
theorem cellsN6 : Tryz.prog.cellsOf 27 = 6 := by kernel_rfl
theorem cellsB1n : Tryz.prog.cellsOf 4 = 1 := by kernel_rfl
theorem cellsPS1n : Tryz.prog.cellsOf 22 = 1 := by kernel_rfl
theorem rib_trod {fuel : Nat} {x : Value} {y : DataW H × List MemPlace} (h : DataW.trod enc Tryz.prog W 0 (fun _ => true) true fuel 25 [x] = some y) : ∃ L, RdE W x L := by
  obtain ⟨xs, n, _, hx, hl, hlen, hf⟩ := DataW.trod_struct Tryz.underlying25 h
  have h0 := hf 0 _ rfl
  match xs, hlen with
  | [y0], _ => exact rdE_trod (W := W) (v := x) (fuel := n) (y := y0) (by simpa [Value.cells, cellsES1] using h0)
theorem is_Node (hv : Value.okWide Tryz.prog W .any base 27 v) (h : DataW.Trod enc Tryz.prog W 0 (fun _ => true) true 27 v d p) : Is_Node W v := by
  obtain ⟨cs, rfl, hsz⟩ := okWide_struct Tryz.underlying27 hv
  rw [cellsN6] at hsz
  obtain ⟨c0, c1, c2, c3, c4, c5, rfl⟩ := array6 hsz
  obtain ⟨fuel, hf⟩ := h
  obtain ⟨ys, n, _, hx, hl, hlen, hf⟩ := DataW.trod_struct Tryz.underlying27 hf
  obtain ⟨y0, y1, y2, y3, y4, y5, rfl⟩ := list6 hlen
  have h0 := hf 0 _ rfl
  have h1 := hf 1 _ rfl
  have h2 := hf 2 _ rfl
  have h3 := hf 3 _ rfl
  have h4 := hf 4 _ rfl
  have h5 := hf 5 _ rfl
  clear hf
  simp [Value.cells, cellsI1e, cellsPS1n, cellsB1n, cellsRb] at h0 h1 h2 h3 h4 h5
  obtain ⟨x0, e0, -, -⟩ := DataW.trod_int Tryz.underlying3 h0
  obtain ⟨x2, e2, -, -⟩ := DataW.trod_int Tryz.underlying3 h2
  obtain ⟨x3, e3, -⟩ := DataW.trod_bool Tryz.underlying4 h3
  obtain ⟨l1, g1⟩ := rdP_trod h1
  obtain ⟨l4, g4⟩ := rib_trod h4
  obtain ⟨l5, g5⟩ := rib_trod h5
  simp at e0 e2 e3
  subst e0 e2 e3
  exact ⟨⟨x0, l1, x2, x3, l4, l5⟩, c1, c4, c5, rfl, g1, g4, g5⟩
end
theorem szNd_any (ov rv sv : Value) (N : Nd) (w : World) (h : RdN w ov rv sv N) :
    Calls Tryz.prog 10 #[.agg #[.int .i64 N.an, ov, .int .i64 N.bw, .bool N.dr, rv, sv], .int .i64 1048576] w fun e w' => ∃ r : Int, e = .returned (.int .i64 r) ∧ (¬ r < 0 → wtN N ≤ 1048576) ∧ Below w.heap.size w w' := by
  obtain ⟨bA, B0, z⟩ := one w [.int .i64 N.an, ov, .int .i64 N.bw, .bool N.dr, rv, sv] 27
  replace h := h.keep B0
  clear z
  have a1 := bA.c 1 rfl
  by_cases hlt : (1048576 : Int) < (N.own.length : Int)
  · have e := szN_lt hlt
    have HE := Lib.hid e
    clear e
    go_enter Tryz.func10, Tryz.ntmps10
    go_wp2_with fail
    refine (szP_any ov N.own _ _ h.1 (by omega) (by omega)).mono ?_
    rw [HE.out]
    rintro e w1 ⟨rfl, rfl⟩
    go_wp2
    go_ret
    exact ⟨-1, rfl, fun q => by omega, B0⟩
  · have e := szN_ge hlt
    obtain ⟨r, hr⟩ : ∃ r : Int, r = 1048576 - (N.own.length : Int) := ⟨_, rfl⟩
    have hr0 : 0 ≤ r := by omega
    have hr1 : r ≤ 1048576 := by omega
    have hrn : ¬ r < 0 := by omega
    rw [← hr] at e
    have HE := Lib.hid e
    have HR := Lib.hid hr
    clear e hr hlt
    go_enter Tryz.func10, Tryz.ntmps10
    go_wp2_with fail
    refine (szP_any ov N.own _ _ h.1 (by omega) (by omega)).mono ?_
    rw [HE.out]
    rintro e w1 ⟨rfl, rfl⟩
    have a4 := bA.c 4 rfl
    go_wp2_with fail
    refine (szRb_l rv N.rib r _ h.2.1 hr0 hr1).mono ?_
    rintro e w2 ⟨q, rfl, hq, hb⟩
    replace bA := bA.keep hb
    replace h := h.keep hb
    replace B0 := below_step B0 hb
    have HQ := Lib.hid hq
    clear hb hq a4
    by_cases hqn : q < 0
    · go_wp2_with fail
      go_ret
      exact ⟨-1, rfl, fun q => by omega, B0⟩
    · have hq1 : q ≤ 1048576 := by have := HQ.out hqn; omega
      have hq0 : 0 ≤ q := by omega
      have a5 := bA.c 5 rfl
      go_wp2_with fail
      refine (szRb_l sv N.sent q _ h.2.2 hq0 hq1).mono ?_
      rintro e w3 ⟨s, rfl, hs, hb⟩
      replace B0 := below_step B0 hb
      have HS := Lib.hid hs
      clear hb hs a5
      by_cases hsn : s < 0
      · go_wp2_with fail
        go_ret
        exact ⟨-1, rfl, fun q => by omega, B0⟩
      · go_wp2_with fail
        go_ret
        refine ⟨s, rfl, fun _ => ?_, B0⟩
        have e1 := HS.out hsn
        have e2 := HQ.out hqn
        have e3 := HR.out
        unfold wtN
        omega
end Go.Proofs.YtaiffofmhfflkaaGreat
