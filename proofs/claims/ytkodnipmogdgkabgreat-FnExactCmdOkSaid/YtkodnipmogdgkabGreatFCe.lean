/-
  Membership: the model's own loop and the library's search, of the program and of the model. Conditions: those in each contract.
  PathHas and Shut, of the program and of the model. Conditions: those in each contract.
  Entries and tables: contracts of the tests that they are valid and of their order, of the program and of the model. Conditions: those in each contract.
  The prefixes of a table: contracts of the model's functions that list them. Conditions: those in each contract.
  Lists of prefixes: contracts of the model's test that they are valid and ascending, and of the library's comparison of two lists. Conditions: those in each contract.
  Messages: contracts of the program's comparisons. Conditions: those in each contract.
-/
import Derived.Test.YtkodnipmogdgkabGreatFCd
import Derived.Test.YtkodnipmogdgkabGreatShelf
import Derived.Shelf.SlicesG.SearchI
import Derived.Test.YtkodnipmogdgkabGreatFCb
import Derived.Deep.CutRange
import Derived.Laws.StructEq
namespace Go.Proofs.YtkodnipmogdgkabGreat
open Go.ChangeShapes Go.WideShapes Go.ChangeAt Go.RowKit Go.BigFrame Go.Joins
set_option linter.unusedVariables false
set_option maxRecDepth 100000
set_option maxRecDepth 100000

theorem contains_any (v : Value) (l : List Int) (x : Int) (w : World) (h : RdI w v l) :
    Calls Tryz.prog 186 #[v, .int .i64 x] w fun e w' => e = .returned (.bool (decide (x ∈ l))) ∧ Below w.heap.size w w' := by
  have hm := h.2.1; unfold maxLen at hm
  rcases h.2.2 with ⟨a, c, rfl, rfl, hac⟩ | ⟨b, o, c, rfl, hp, hc⟩
  · exact (Tryz.slices_Contains_int_empty a c x w).mono fun e w' ⟨he, hw⟩ => ⟨he, hw ▸ Below.refl _ _⟩
  · have := Tryz.slices_Contains_int b o l.length c l x w (Nat.le_refl _) (by omega) hc
    rw [List.take_length, List.contains_eq_mem] at this
    exact this.mono fun e w' ⟨he, hw⟩ => ⟨he, hw ▸ Below.refl _ _⟩
theorem contains_yes {l : List Int} {k : Nat} {x : Int} (hk : k < l.length) (hx : l.getD k 0 = x) : decide (x ∈ l) = true := by
  have e : l.getD k 0 = l[k] := by simp [List.getD, hk]
  rw [e] at hx; simp only [decide_eq_true_eq]; rw [← hx]
  exact List.getElem_mem hk
theorem contains_no {l : List Int} {n : Nat} {x : Int} (hn : n = l.length) (h : ∀ i, i < n → l.getD i 0 ≠ x) : decide (x ∈ l) = false := by
  cases hc : decide (x ∈ l)
  · rfl
  · simp only [decide_eq_true_eq] at hc
    obtain ⟨i, hi, e⟩ := List.mem_iff_getElem.1 hc; have := h i (by omega); have e2 : l.getD i 0 = l[i] := by simp [List.getD, hi]
    rw [e2, e] at this
    exact absurd rfl this
theorem shas_any (v : Value) (l : List Int) (x : Int) (w : World) (h : RdI w v l) :
    Calls Tryz.prog 48 #[v, .int .i64 x] w fun e w' => e = .returned (.bool (decide (x ∈ l))) ∧ Below w.heap.size w w' := by
  have hm := h.2.1; unfold maxLen at hm; obtain ⟨a, c, rfl, hc⟩ := h.el; obtain ⟨n, hn⟩ : ∃ n, n = l.length := ⟨_, rfl⟩; rw [← hn] at hc hm ⊢; have HN := Lib.hid hn; clear h hn
  go_enter Tryz.func48, Tryz.ntmps48
  go_wp2
  go_loopw [5] (fun q wr => ∃ k : Nat, k ≤ n ∧ q = .int .i64 k ∧ (∀ i, i < k → l.getD i 0 ≠ x) ∧ Below w.heap.size w wr) (fun q _ => n - (intOf q).toNat)
  case atStart => exact ⟨0, Nat.zero_le _, rfl, fun i hi => by omega, Below.refl _ _⟩
  case round =>
    obtain ⟨k, hk, rfl, hall, hB⟩ := hrel; have HA := Lib.hid hall; clear hall
    by_cases hlt : k < n
    · have hltI : (k : Int) < (n : Int) := by omega
      obtain ⟨b, o, rfl, e1⟩ := hc k hlt; replace e1 := cell_keep hB (World.block_lt_of_cell? w _ e1) e1; obtain ⟨y, hy⟩ : ∃ y, l.getD k 0 = y := ⟨_, rfl⟩; rw [hy] at e1; have HX := Lib.hid hy; clear hy hc
      by_cases hyx : y = x
      · have HF := Lib.hid (contains_yes (by rw [← HN.out]; exact hlt) (HX.out.trans hyx))
        have hq : (y == x) = true := by simp [hyx]
        clear hyx; go_wp2
        first | (go_quiet (fail); go_wp2) | skip
        go_ret
        exact ⟨ret_bool HF.out.symm, by first | exact hB | exact below_drewN hB _⟩
      · have hq : (y == x) = false := by simp [hyx]
        have HL := Lib.hid hyx; clear hyx; go_wp2
        first | (go_quiet (fail); go_wp2) | skip
        go_roundw
        case rel => exact ⟨k + 1, by omega, by go_num, fun i hi => by
            by_cases e : i = k
            · rw [e, HX.out]; exact HL.out
            · exact HA.out i (by omega), by first | exact hB | exact below_drewN hB _⟩
        case measure => simp [intOf]; omega
    · have hkn : k = n := by omega
      have HF := Lib.hid (contains_no HN.out (by rw [← hkn]; exact HA.out)); clear hkn hc; go_wp2
      go_ret
      exact ⟨ret_bool HF.out.symm, hB⟩
end Go.Proofs.YtkodnipmogdgkabGreat
namespace Go.Proofs.YtkodnipmogdgkabGreat
open Go.ChangeShapes Go.WideShapes Go.ChangeAt Go.RowKit Go.BigFrame Go.Joins
set_option linter.unusedVariables false
set_option maxRecDepth 100000

theorem iaok_t {pv cv : Value} {p c : List Int} {pr bw : Int} {b : Bool} (w : World) (hp : RdI w pv p) (hc : RdI w cv c) (H : Hid (aokB p pr c bw = b)) :
    Calls Tryz.prog 183 #[.agg #[pv, .int .i64 pr, cv, .int .i64 bw]] w fun e w' => e = .returned (.bool b) ∧ Below w.heap.size w w' := H.out ▸ iaok_any pv cv p c pr bw w hp hc
theorem saok_t {pv cv : Value} {p c : List Int} {pr bw : Int} {b : Bool} (w : World) (hp : RdI w pv p) (hc : RdI w cv c) (H : Hid (aokB p pr c bw = b)) :
    Calls Tryz.prog 80 #[.agg #[pv, .int .i64 pr, cv, .int .i64 bw]] w fun e w' => e = .returned (.bool b) ∧ Below w.heap.size w w' := H.out ▸ saok_any pv cv p c pr bw w hp hc
theorem ipath_any (pv cv : Value) (p c : List Int) (pr bw an : Int) (w : World) (hp : RdI w pv p) (hc : RdI w cv c) :
    Calls Tryz.prog 152 #[.agg #[pv, .int .i64 pr, cv, .int .i64 bw], .int .i64 an] w fun e w' => e = .returned (.bool (aokB p pr c bw && decide (an ∈ p))) ∧ Below w.heap.size w w' := by
  obtain ⟨c0, c1, c2, c3, lt, B0⟩ := box4 w pv (.int .i64 pr) cv (.int .i64 bw) 93; have hp1 := hp.alloc (.cells #[pv, .int .i64 pr, cv, .int .i64 bw] 93); have hc1 := hc.alloc (.cells #[pv, .int .i64 pr, cv, .int .i64 bw] 93); cases hA : aokB p pr c bw
  · rw [Bool.false_and]
    have HA := Lib.hid hA; clear hA
    go_enter Tryz.func152, Tryz.ntmps152
    go_wp2_with fail; refine (iaok_t _ hp1 hc1 HA).mono ?_; rintro e w1 ⟨rfl, hb⟩; replace c0 := cell_keep hb lt c0; replace c1 := cell_keep hb lt c1; replace c2 := cell_keep hb lt c2; replace c3 := cell_keep hb lt c3; replace lt := Nat.lt_of_lt_of_le lt hb.size; replace hp1 := hp1.keep hb; replace hc1 := hc1.keep hb; replace B0 := below_step B0 hb; clear hb; go_wp2
    go_ret
    exact ⟨rfl, B0⟩
  · rw [Bool.true_and]
    have HA := Lib.hid hA; clear hA
    go_enter Tryz.func152, Tryz.ntmps152
    go_wp2_with fail; refine (iaok_t _ hp1 hc1 HA).mono ?_; rintro e w1 ⟨rfl, hb⟩; replace c0 := cell_keep hb lt c0; replace c1 := cell_keep hb lt c1; replace c2 := cell_keep hb lt c2; replace c3 := cell_keep hb lt c3; replace lt := Nat.lt_of_lt_of_le lt hb.size; replace hp1 := hp1.keep hb; replace hc1 := hc1.keep hb; replace B0 := below_step B0 hb; clear hb; go_wp2_with fail; refine (contains_any _ p an _ hp1).mono ?_; rintro e w2 ⟨rfl, hb⟩; replace c0 := cell_keep hb lt c0; replace c1 := cell_keep hb lt c1; replace c2 := cell_keep hb lt c2; replace c3 := cell_keep hb lt c3; replace lt := Nat.lt_of_lt_of_le lt hb.size; replace hp1 := hp1.keep hb; replace hc1 := hc1.keep hb; replace B0 := below_step B0 hb; clear hb; go_wp2
    go_ret
    exact ⟨rfl, B0⟩
end Go.Proofs.YtkodnipmogdgkabGreat
namespace Go.Proofs.YtkodnipmogdgkabGreat
open Go.ChangeShapes Go.WideShapes Go.ChangeAt Go.RowKit Go.BigFrame Go.Joins
set_option linter.unusedVariables false
set_option maxRecDepth 100000
set_option linter.unusedSimpArgs false
set_option maxRecDepth 100000

theorem within_7 {n : Int} {b : Bool} (w : World) (H : Hid (inB n (-1) 7 = b)) : Calls Tryz.prog 38 #[.int .i64 n, .int .i64 (-1), .int .i64 7] w fun e w' => e = .returned (.bool b) ∧ w = w' := within_t w H
/-- an entry is valid -/
def entB (a n pe : Int) (p : List Int) (pr : Int) (c : List Int) (bw : Int) : Bool := pokB a n && (inB pe (-1) 7 && aokB p pr c bw)
/-- the order of entries -/
def ecmp (a n pe b m qe : Int) : Int := orv (cmp2 a n b m) (cmp1 pe qe)
theorem snum6 (a b : Int) (w : World) : Calls Tryz.prog 78 #[.int .i64 a, .int .i64 b] w fun e w' => e = .returned (.int .i64 (cmp1 a b)) ∧ w = w' := by
  by_cases h1 : a < b
  · rw [cmp1_lt h1]
    go_enter Tryz.func78, Tryz.ntmps78
    go_wp2
    go_ret
    exact ⟨rfl, rfl⟩
  · by_cases h2 : b < a
    · rw [cmp1_gt h2]
      go_enter Tryz.func78, Tryz.ntmps78
      go_wp2
      go_ret
      exact ⟨rfl, rfl⟩
    · obtain rfl : a = b := by omega
      rw [cmp1_eq]; clear h1 h2; have h3 : ¬ a < a := by omega
      go_enter Tryz.func78, Tryz.ntmps78
      go_wp2
      go_ret
      exact ⟨rfl, rfl⟩
theorem sent_any (pv cv : Value) (p c : List Int) (a n pe pr bw : Int) (w : World) (hp : RdI w pv p) (hc : RdI w cv c) :
    Calls Tryz.prog 74 #[.agg #[.int .i64 a, .int .i64 n, .int .i64 pe, pv, .int .i64 pr, cv, .int .i64 bw]] w fun e w' => e = .returned (.bool (entB a n pe p pr c bw)) ∧ Below w.heap.size w w' := by
  obtain ⟨bA, B0, z⟩ := one w [.int .i64 a, .int .i64 n, .int .i64 pe, pv, .int .i64 pr, cv, .int .i64 bw] EI; replace hp := hp.keep B0; replace hc := hc.keep B0; clear z; unfold entB; cases hP : pokB a n
  · rw [Bool.false_and]
    have HP := Lib.hid hP; clear hP
    go_enter Tryz.func74, Tryz.ntmps74
    go_wp2_with fail; refine (spok_t _ HP).mono ?_; rintro e w1 ⟨rfl, hb⟩; replace bA := bA.keep hb; replace hp := hp.keep hb; replace hc := hc.keep hb; replace B0 := below_step B0 hb; clear hb; have a1 := bA.c 1 rfl; have a2 := bA.c 2 rfl; have a3 := bA.c 3 rfl; have a4 := bA.c 4 rfl; have a5 := bA.c 5 rfl; have a6 := bA.c 6 rfl; go_wp2
    go_ret
    exact ⟨rfl, B0⟩
  · rw [Bool.true_and]
    have HP := Lib.hid hP; clear hP; cases hI : inB pe (-1) 7
    · rw [Bool.false_and]
      simp only [inB, decide_eq_false_iff_not] at hI
      by_cases h1 : -1 ≤ pe
      · have h2 : ¬ pe < 8 := by omega
        clear hI
        go_enter Tryz.func74, Tryz.ntmps74
        go_wp2_with fail; refine (spok_t _ HP).mono ?_; rintro e w1 ⟨rfl, hb⟩; replace bA := bA.keep hb; replace hp := hp.keep hb; replace hc := hc.keep hb; replace B0 := below_step B0 hb; clear hb; have a1 := bA.c 1 rfl; have a2 := bA.c 2 rfl; have a3 := bA.c 3 rfl; have a4 := bA.c 4 rfl; have a5 := bA.c 5 rfl; have a6 := bA.c 6 rfl; go_wp2
        go_ret
        exact ⟨rfl, B0⟩
      · clear hI
        go_enter Tryz.func74, Tryz.ntmps74
        go_wp2_with fail; refine (spok_t _ HP).mono ?_; rintro e w1 ⟨rfl, hb⟩; replace bA := bA.keep hb; replace hp := hp.keep hb; replace hc := hc.keep hb; replace B0 := below_step B0 hb; clear hb; have a1 := bA.c 1 rfl; have a2 := bA.c 2 rfl; have a3 := bA.c 3 rfl; have a4 := bA.c 4 rfl; have a5 := bA.c 5 rfl; have a6 := bA.c 6 rfl; go_wp2
        go_ret
        exact ⟨rfl, B0⟩
    · rw [Bool.true_and]
      simp only [inB, decide_eq_true_eq] at hI; have h1 : -1 ≤ pe := hI.1; have h2 : pe < 8 := by omega
      clear hI; obtain ⟨r, hA⟩ : ∃ r, aokB p pr c bw = r := ⟨_, rfl⟩; rw [hA]; have HA := Lib.hid hA; clear hA
      go_enter Tryz.func74, Tryz.ntmps74
      go_wp2_with fail; refine (spok_t _ HP).mono ?_; rintro e w1 ⟨rfl, hb⟩; replace bA := bA.keep hb; replace hp := hp.keep hb; replace hc := hc.keep hb; replace B0 := below_step B0 hb; clear hb; have a1 := bA.c 1 rfl; have a2 := bA.c 2 rfl; have a3 := bA.c 3 rfl; have a4 := bA.c 4 rfl; have a5 := bA.c 5 rfl; have a6 := bA.c 6 rfl; go_wp2_with fail; refine (saok_t _ hp hc HA).mono ?_; rintro e w2 ⟨rfl, hb⟩; replace B0 := below_step B0 hb; clear hb; go_wp2
      go_ret
      exact ⟨rfl, B0⟩
theorem sent_t {pv cv : Value} {p c : List Int} {a n pe pr bw : Int} {b : Bool} (w : World) (hp : RdI w pv p) (hc : RdI w cv c) (H : Hid (entB a n pe p pr c bw = b)) :
    Calls Tryz.prog 74 #[.agg #[.int .i64 a, .int .i64 n, .int .i64 pe, pv, .int .i64 pr, cv, .int .i64 bw]] w fun e w' => e = .returned (.bool b) ∧ Below w.heap.size w w' := H.out ▸ sent_any pv cv p c a n pe pr bw w hp hc
theorem ient_any (pv cv : Value) (p c : List Int) (a n pe pr bw : Int) (w : World) (hp : RdI w pv p) (hc : RdI w cv c) :
    Calls Tryz.prog 145 #[.agg #[.int .i64 a, .int .i64 n, .int .i64 pe, pv, .int .i64 pr, cv, .int .i64 bw]] w fun e w' => e = .returned (.bool (entB a n pe p pr c bw)) ∧ Below w.heap.size w w' := by
  obtain ⟨bA, B0, z⟩ := one w [.int .i64 a, .int .i64 n, .int .i64 pe, pv, .int .i64 pr, cv, .int .i64 bw] EI; replace hp := hp.keep B0; replace hc := hc.keep B0; clear z; unfold entB; cases hP : pokB a n
  · rw [Bool.false_and]
    have HP := Lib.hid hP; clear hP
    go_enter Tryz.func145, Tryz.ntmps145
    go_wp2_with fail; refine (ipok_t _ HP).mono ?_; rintro e w1 ⟨rfl, hb⟩; replace bA := bA.keep hb; replace hp := hp.keep hb; replace hc := hc.keep hb; replace B0 := below_step B0 hb; clear hb; have a1 := bA.c 1 rfl; have a2 := bA.c 2 rfl; have a3 := bA.c 3 rfl; have a4 := bA.c 4 rfl; have a5 := bA.c 5 rfl; have a6 := bA.c 6 rfl; go_wp2
    go_ret
    exact ⟨rfl, B0⟩
  · rw [Bool.true_and]
    have HP := Lib.hid hP; clear hP; cases hI : inB pe (-1) 7
    · rw [Bool.false_and]
      have HI := Lib.hid hI; clear hI
      go_enter Tryz.func145, Tryz.ntmps145
      go_wp2_with fail; refine (ipok_t _ HP).mono ?_; rintro e w1 ⟨rfl, hb⟩; replace bA := bA.keep hb; replace hp := hp.keep hb; replace hc := hc.keep hb; replace B0 := below_step B0 hb; clear hb; have a1 := bA.c 1 rfl; have a2 := bA.c 2 rfl; have a3 := bA.c 3 rfl; have a4 := bA.c 4 rfl; have a5 := bA.c 5 rfl; have a6 := bA.c 6 rfl; go_wp2_with fail; refine (within_7 _ HI).mono ?_; rintro e w2 ⟨rfl, rfl⟩; go_wp2
      go_ret
      exact ⟨rfl, B0⟩
    · rw [Bool.true_and]
      have HI := Lib.hid hI; clear hI; obtain ⟨r, hA⟩ : ∃ r, aokB p pr c bw = r := ⟨_, rfl⟩; rw [hA]; have HA := Lib.hid hA; clear hA
      go_enter Tryz.func145, Tryz.ntmps145
      go_wp2_with fail; refine (ipok_t _ HP).mono ?_; rintro e w1 ⟨rfl, hb⟩; replace bA := bA.keep hb; replace hp := hp.keep hb; replace hc := hc.keep hb; replace B0 := below_step B0 hb; clear hb; have a1 := bA.c 1 rfl; have a2 := bA.c 2 rfl; have a3 := bA.c 3 rfl; have a4 := bA.c 4 rfl; have a5 := bA.c 5 rfl; have a6 := bA.c 6 rfl; go_wp2_with fail; refine (within_7 _ HI).mono ?_; rintro e w2 ⟨rfl, rfl⟩; go_wp2_with fail; refine (iaok_t _ hp hc HA).mono ?_; rintro e w2 ⟨rfl, hb⟩; replace B0 := below_step B0 hb; clear hb; go_wp2
      go_ret
      exact ⟨rfl, B0⟩
theorem ient_t {pv cv : Value} {p c : List Int} {a n pe pr bw : Int} {b : Bool} (w : World) (hp : RdI w pv p) (hc : RdI w cv c) (H : Hid (entB a n pe p pr c bw = b)) :
    Calls Tryz.prog 145 #[.agg #[.int .i64 a, .int .i64 n, .int .i64 pe, pv, .int .i64 pr, cv, .int .i64 bw]] w fun e w' => e = .returned (.bool b) ∧ Below w.heap.size w w' := H.out ▸ ient_any pv cv p c a n pe pr bw w hp hc
theorem scmp6_any (pv cv pv2 cv2 : Value) (a n pe pr bw b m qe pr2 bw2 : Int) (w : World) :
    Calls Tryz.prog 75 #[.agg #[.int .i64 a, .int .i64 n, .int .i64 pe, pv, .int .i64 pr, cv, .int .i64 bw], .agg #[.int .i64 b, .int .i64 m, .int .i64 qe, pv2, .int .i64 pr2, cv2, .int .i64 bw2]] w fun e w' => e = .returned (.int .i64 (ecmp a n pe b m qe)) ∧ Below w.heap.size w w' := by
  obtain ⟨bA, bB, B0, z⟩ := two w [.int .i64 a, .int .i64 n, .int .i64 pe, pv, .int .i64 pr, cv, .int .i64 bw] [.int .i64 b, .int .i64 m, .int .i64 qe, pv2, .int .i64 pr2, cv2, .int .i64 bw2] EI EI; clear z; unfold ecmp; obtain ⟨r, hr⟩ : ∃ r, cmp2 a n b m = r := ⟨_, rfl⟩; rw [hr]; have HR := Lib.hid hr; clear hr
  by_cases h0 : r = 0
  · subst h0
    rw [show orv 0 (cmp1 pe qe) = cmp1 pe qe by simp [orv]]
    go_enter Tryz.func75, Tryz.ntmps75
    go_wp2_with fail; refine (scmp_t _ HR).mono ?_; rintro e w1 ⟨rfl, hb⟩; replace bA := bA.keep hb; replace bB := bB.keep hb; replace B0 := below_step B0 hb; clear hb; have a0 := bA.c 0 rfl; have a1 := bA.c 1 rfl; have a2 := bA.c 2 rfl; have b0 := bB.c 0 rfl; have b1 := bB.c 1 rfl; have b2 := bB.c 2 rfl; go_wp2_with fail; refine (snum6 pe qe _).mono ?_; rintro e w2 ⟨rfl, rfl⟩; go_wp2
    go_ret
    exact ⟨rfl, B0⟩
  · rw [show orv r (cmp1 pe qe) = r by simp [orv, h0]]
    have hne : (r != 0) = true := by simp [h0]
    go_enter Tryz.func75, Tryz.ntmps75
    go_wp2_with fail; refine (scmp_t _ HR).mono ?_; rintro e w1 ⟨rfl, hb⟩; replace B0 := below_step B0 hb; clear hb; go_wp2
    go_ret
    exact ⟨rfl, B0⟩
theorem icmp6_any (pv cv pv2 cv2 : Value) (a n pe pr bw b m qe pr2 bw2 : Int) (w : World) (r : Int) (HP : Hid (pcmp a n b m = r)) :
    Calls Tryz.prog 146 #[.agg #[.int .i64 a, .int .i64 n, .int .i64 pe, pv, .int .i64 pr, cv, .int .i64 bw], .agg #[.int .i64 b, .int .i64 m, .int .i64 qe, pv2, .int .i64 pr2, cv2, .int .i64 bw2]] w fun e w' => e = .returned (.int .i64 (orv r (cmp1 pe qe))) ∧ Below w.heap.size w w' := by
  obtain ⟨bA, bB, B0, z⟩ := two w [.int .i64 a, .int .i64 n, .int .i64 pe, pv, .int .i64 pr, cv, .int .i64 bw] [.int .i64 b, .int .i64 m, .int .i64 qe, pv2, .int .i64 pr2, cv2, .int .i64 bw2] EI EI; clear z; obtain ⟨V, hV⟩ : ∃ V, V = ((w.alloc (.cells #[.int .i64 a, .int .i64 n, .int .i64 pe, pv, .int .i64 pr, cv, .int .i64 bw] EI)).alloc (.cells #[.int .i64 b, .int .i64 m, .int .i64 qe, pv2, .int .i64 pr2, cv2, .int .i64 bw2] EI)) := ⟨_, rfl⟩; rw [← hV] at bA bB B0
  go_enter Tryz.func146, Tryz.ntmps146
  go_wp2_with fail; rw [← hV]; clear hV; have k0 := bA.c 0 rfl; have m0 := bB.c 0 rfl; have k1 := bA.c 1 rfl; have m1 := bB.c 1 rfl; have k2 := bA.c 2 rfl; have m2 := bB.c 2 rfl; have lA := bA.lt; have lB := bB.lt
  go_region_held3 (fun w' => Over V w' ∧ w'.cell? ⟨w.heap.size, 0, none⟩ = some (.int .i64 a) ∧ w'.cell? ⟨w.heap.size, 1, none⟩ = some (.int .i64 n) ∧ w'.cell? ⟨w.heap.size, 2, none⟩ = some (.int .i64 pe) ∧ w'.cell? ⟨w.heap.size + 1, 0, none⟩ = some (.int .i64 b) ∧ w'.cell? ⟨w.heap.size + 1, 1, none⟩ = some (.int .i64 m) ∧ w'.cell? ⟨w.heap.size + 1, 2, none⟩ = some (.int .i64 qe))
    ((first | assumption | exact ⟨over_drew _, k0, k1, k2, m0, m1, m2⟩ | exact (fun o => ⟨o, over_cell o lA k0, over_cell o lA k1, over_cell o lA k2, over_cell o lB m0, over_cell o lB m1, over_cell o lB m2⟩) (over_step (by assumption : Over V _ ∧ _).1 (by assumption)) | exact (fun o => ⟨o, over_cell o lA k0, over_cell o lA k1, over_cell o lA k2, over_cell o lB m0, over_cell o lB m1, over_cell o lB m2⟩) (over_step (by assumption : Over V _ ∧ _).1 ((Below.refl _ _).alloc (Nat.le_refl _) _))))
    ((first | (go_at_call 144; refine (icmp_t _ HP).mono ?_; rintro e w3 ⟨rfl, hb3⟩) | (go_at_call 182; refine (compare_any pe qe _).mono ?_; rintro e w4 ⟨rfl, rfl⟩) | (go_at_call 181; refine (or_any r (cmp1 pe qe) _ _ (by simp) (by simp)).mono ?_; rintro e w5 ⟨rfl, rfl⟩)))
  rename_i hH
  replace B0 := below_step B0 hH.1; go_wp2
  go_ret
  exact ⟨rfl, B0⟩
theorem scmp6_t {pv cv pv2 cv2 : Value} {a n pe pr bw b m qe pr2 bw2 r : Int} (w : World) (H : Hid (ecmp a n pe b m qe = r)) :
    Calls Tryz.prog 75 #[.agg #[.int .i64 a, .int .i64 n, .int .i64 pe, pv, .int .i64 pr, cv, .int .i64 bw], .agg #[.int .i64 b, .int .i64 m, .int .i64 qe, pv2, .int .i64 pr2, cv2, .int .i64 bw2]] w fun e w' => e = .returned (.int .i64 r) ∧ Below w.heap.size w w' := H.out ▸ scmp6_any pv cv pv2 cv2 a n pe pr bw b m qe pr2 bw2 w
theorem icmp6_t {pv cv pv2 cv2 : Value} {a n pe pr bw b m qe pr2 bw2 r : Int} (w : World) (H : Hid (pcmp a n b m = cmp2 a n b m ∧ ecmp a n pe b m qe = r)) :
    Calls Tryz.prog 146 #[.agg #[.int .i64 a, .int .i64 n, .int .i64 pe, pv, .int .i64 pr, cv, .int .i64 bw], .agg #[.int .i64 b, .int .i64 m, .int .i64 qe, pv2, .int .i64 pr2, cv2, .int .i64 bw2]] w fun e w' => e = .returned (.int .i64 r) ∧ Below w.heap.size w w' := by
  have h := icmp6_any pv cv pv2 cv2 a n pe pr bw b m qe pr2 bw2 w (cmp2 a n b m) (Lib.hid H.out.1); have e := H.out.2; unfold ecmp at e; rw [e] at h
  exact h
/-- entry i is valid -/
def okE (L : List Ent) (i : Nat) : Prop := entB (L.getD i e0).a (L.getD i e0).n (L.getD i e0).pe (L.getD i e0).p (L.getD i e0).pr (L.getD i e0).c (L.getD i e0).bw = true
/-- it lies ahead of the next one -/
def upE (L : List Ent) (i : Nat) : Prop := ecmp (L.getD i e0).a (L.getD i e0).n (L.getD i e0).pe (L.getD (i + 1) e0).a (L.getD (i + 1) e0).n (L.getD (i + 1) e0).pe < 0
instance (L : List Ent) (i : Nat) : Decidable (okE L i) := by unfold okE; infer_instance
instance (L : List Ent) (i : Nat) : Decidable (upE L i) := by unfold upE; infer_instance
def tabB (L : List Ent) : Bool := decide ((∀ i, i < L.length → okE L i) ∧ ∀ i, i < L.length - 1 → upE L i)
/-- a table is valid -/
def ribB (L : List Ent) : Bool := decide ((L.length : Int) ≤ 60) && tabB L
theorem tabB_yes {L : List Ent} {n : Nat} (hn : n = L.length) (h : ∀ i, i < n → okE L i) (h2 : ∀ i, i + 1 < n → upE L i) : tabB L = true := by
  subst hn; simp only [tabB, decide_eq_true_eq]
  exact ⟨h, fun i hi => h2 i (by omega)⟩
theorem tabB_ok {L : List Ent} {k : Nat} {E : Ent} (hk : k < L.length) (hx : L.getD k e0 = E) (h : entB E.a E.n E.pe E.p E.pr E.c E.bw = false) : tabB L = false := by
  simp only [tabB, decide_eq_false_iff_not]; rintro ⟨h1, -⟩; have := h1 k hk; unfold okE at this; rw [hx] at this; rw [this] at h; cases h
theorem tabB_up {L : List Ent} {k : Nat} {F E : Ent} (hk : k + 1 < L.length) (ha : L.getD k e0 = F) (hx : L.getD (k + 1) e0 = E) (h : ¬ ecmp F.a F.n F.pe E.a E.n E.pe < 0) : tabB L = false := by
  simp only [tabB, decide_eq_false_iff_not]; rintro ⟨-, h1⟩; have := h1 k (by omega); unfold upE at this; rw [ha, hx] at this
  exact h this
theorem entB_p {a n pe pr bw : Int} {p c : List Int} (h : entB a n pe p pr c bw = true) : pokB a n = true := by
  unfold entB at h; simp only [Bool.and_eq_true] at h
  exact h.1
set_option maxHeartbeats 1000000 in
theorem srib_any (v : Value) (L : List Ent) (w : World) (h : RdE w v L) :
    Calls Tryz.prog 47 #[.agg #[v]] w fun e w' => e = .returned (.bool (ribB L)) ∧ Below w.heap.size w w' := by
  unfold ribB; have hm := h.1; obtain ⟨a, c, rfl, hc⟩ := h.el; obtain ⟨n, hn⟩ : ∃ n, n = L.length := ⟨_, rfl⟩; rw [← hn] at hc hm ⊢; have HN := Lib.hid hn; clear h hn; obtain ⟨bR, B0, z⟩ := one w [.slice a n c] 69; clear z
  by_cases hbig : (n : Int) ≤ 60
  · rw [show decide ((n : Int) ≤ 60) = true by simp [hbig]]
    have hbig2 : ¬ (60 : Int) < (n : Int) := by omega
    obtain ⟨W1, hW⟩ : ∃ W1, W1 = w.alloc (.cells #[.slice a n c] 69) := ⟨_, rfl⟩; obtain ⟨R, hR⟩ : ∃ R, R = w.heap.size := ⟨_, rfl⟩; have hW2 := hW
    go_enter Tryz.func47, Tryz.ntmps47
    go_wp2; rw [← hW2]
    try simp only [← hR]
    rw [← hR] at bR; rw [← hW2] at bR B0; clear hW hW2 hR
    go_loopw [3] (fun q wr => ∃ k : Nat, k ≤ n ∧ q = .int .i64 k ∧ (∀ i, i < k → okE L i) ∧ (∀ i, i + 1 < k → upE L i) ∧ Over W1 wr) (fun q _ => n - (intOf q).toNat)
    case atStart => exact ⟨0, Nat.zero_le _, rfl, fun i hi => by omega, fun i hi => by omega, over_refl _⟩
    case round =>
      obtain ⟨k, hk, rfl, hok, hup, hB⟩ := hrel; have HO := Lib.hid hok; have HU := Lib.hid hup; clear hok hup; replace bR := bR.keep hB; have r0 := bR.c 0 rfl
      by_cases hlt : k < n
      · have hltI : (k : Int) < (n : Int) := by omega
        obtain ⟨b, o, rfl, hE⟩ := hc k hlt; obtain ⟨E, hx⟩ : ∃ E, L.getD k e0 = E := ⟨_, rfl⟩; rw [hx] at hE; obtain ⟨pv, cv, hp, hq, g0, g1, g2, g3, g4, g5, g6⟩ := hE.keep (below_step B0 hB); have HX := Lib.hid hx; have HCC := Lib.hid hc; clear hx hc hE; cases hpk : entB E.a E.n E.pe E.p E.pr E.c E.bw
        · have HP := Lib.hid hpk
          have HF := Lib.hid (tabB_ok (by rw [← HN.out]; exact hlt) HX.out hpk); clear hpk; go_wp2; refine wp_region_class (C := Over (wr)) (by kernel_rfl) (by kernel_rfl) (over_drew _) ?_
          repeat (first | go_big_quiet_skip | (go_big_quiet_want; go_big_quiet_op; go_big_quiet_on) | (go_big_quiet_want; go_big_quiet_op; apply Exists.intro; refine ⟨fun w' hC => ?_, ?_⟩; ((first | (go_at_call 74; refine (sent_t _ (rdI_over hp hC) (rdI_over hq hC) HP).mono ?_; rintro e w1 ⟨rfl, hb1⟩; exact ⟨rfl, over_step hC hb1⟩))); go_big_quiet_on) | (go_big_quiet_want; apply Exists.intro; refine ⟨fun w' hC => ?_, ?_⟩; (have k0 := over_cell hC bR.lt (bR.c 0 rfl); have k1 := over_cell hC (World.block_lt_of_cell? _ _ g0) g0; have k2 := over_cell hC (World.block_lt_of_cell? _ _ g1) g1; have k3 := over_cell hC (World.block_lt_of_cell? _ _ g2) g2; have k4 := over_cell hC (World.block_lt_of_cell? _ _ g3) g3; have k5 := over_cell hC (World.block_lt_of_cell? _ _ g4) g4; have k6 := over_cell hC (World.block_lt_of_cell? _ _ g5) g5; have k7 := over_cell hC (World.block_lt_of_cell? _ _ g6) g6; simp [Oper.quietAt, Oper.quietUpon, go_sem, k0, k1, k2, k3, k4, k5, k6, k7, hltI, hlt]; first | done | rfl); go_big_quiet_on; simp only [Act.put, List.setIfInBounds_toArray, List.set_cons_zero, List.set_cons_succ]))
          refine wpQuiet_nil ?_; intro ws hC; have k0 := over_cell hC bR.lt (bR.c 0 rfl); have k1 := over_cell hC (World.block_lt_of_cell? _ _ g0) g0; have k2 := over_cell hC (World.block_lt_of_cell? _ _ g1) g1; have k3 := over_cell hC (World.block_lt_of_cell? _ _ g2) g2; have k4 := over_cell hC (World.block_lt_of_cell? _ _ g3) g3; have k5 := over_cell hC (World.block_lt_of_cell? _ _ g4) g4; have k6 := over_cell hC (World.block_lt_of_cell? _ _ g5) g5; have k7 := over_cell hC (World.block_lt_of_cell? _ _ g6) g6; go_wp2
          go_ret
          exact ⟨ret_bool (by first | rw [HF.out, Bool.and_false] | rw [HF.out] | simp [HF.out]), below_step B0 (over_step hB hC)⟩
        · have HP := Lib.hid hpk
          have HOK : Hid (∀ i, i < k + 1 → okE L i) := Lib.hid fun i hi => by
            by_cases e : i = k
            · unfold okE; rw [e, HX.out]; exact hpk
            · exact HO.out i (by omega)
          clear hpk
          rcases Nat.eq_zero_or_pos k with rfl | hpos
          · simp only [Nat.zero_mul, Nat.add_zero] at g0 g1 g2 g3 g4 g5 g6
            go_wp2; refine wp_region_class (C := Over (wr)) (by kernel_rfl) (by kernel_rfl) (over_drew _) ?_
            repeat (first | go_big_quiet_skip | (go_big_quiet_want; go_big_quiet_op; go_big_quiet_on) | (go_big_quiet_want; go_big_quiet_op; apply Exists.intro; refine ⟨fun w' hC => ?_, ?_⟩; ((first | (go_at_call 74; refine (sent_t _ (rdI_over hp hC) (rdI_over hq hC) HP).mono ?_; rintro e w1 ⟨rfl, hb1⟩; exact ⟨rfl, over_step hC hb1⟩))); go_big_quiet_on) | (go_big_quiet_want; apply Exists.intro; refine ⟨fun w' hC => ?_, ?_⟩; (have k0 := over_cell hC bR.lt (bR.c 0 rfl); have k1 := over_cell hC (World.block_lt_of_cell? _ _ g0) g0; have k2 := over_cell hC (World.block_lt_of_cell? _ _ g1) g1; have k3 := over_cell hC (World.block_lt_of_cell? _ _ g2) g2; have k4 := over_cell hC (World.block_lt_of_cell? _ _ g3) g3; have k5 := over_cell hC (World.block_lt_of_cell? _ _ g4) g4; have k6 := over_cell hC (World.block_lt_of_cell? _ _ g5) g5; have k7 := over_cell hC (World.block_lt_of_cell? _ _ g6) g6; simp [Oper.quietAt, Oper.quietUpon, go_sem, k0, k1, k2, k3, k4, k5, k6, k7, hltI, hlt]; first | done | rfl); go_big_quiet_on; simp only [Act.put, List.setIfInBounds_toArray, List.set_cons_zero, List.set_cons_succ]))
            refine wpQuiet_nil ?_; intro ws hC; have k0 := over_cell hC bR.lt (bR.c 0 rfl); have k1 := over_cell hC (World.block_lt_of_cell? _ _ g0) g0; have k2 := over_cell hC (World.block_lt_of_cell? _ _ g1) g1; have k3 := over_cell hC (World.block_lt_of_cell? _ _ g2) g2; have k4 := over_cell hC (World.block_lt_of_cell? _ _ g3) g3; have k5 := over_cell hC (World.block_lt_of_cell? _ _ g4) g4; have k6 := over_cell hC (World.block_lt_of_cell? _ _ g5) g5; have k7 := over_cell hC (World.block_lt_of_cell? _ _ g6) g6; go_wp2
            go_roundw
            case rel => exact ⟨0 + 1, by omega, by go_num, HOK.out, fun i hi => by omega, over_step hB hC⟩
            case measure => simp [intOf]; omega
          · obtain ⟨j, rfl⟩ : ∃ j, k = j + 1 := ⟨k - 1, by omega⟩
            obtain ⟨b', o', hbo, hE'⟩ := HCC.out j (by omega); obtain ⟨rfl, rfl⟩ : b = b' ∧ o = o' := by simpa using hbo
            clear hbo; obtain ⟨F, hs⟩ : ∃ F, L.getD j e0 = F := ⟨_, rfl⟩; rw [hs] at hE'; obtain ⟨pu, cu, -, -, m0, m1, m2, m3, m4, m5, m6⟩ := hE'.keep (below_step B0 hB); have HS := Lib.hid hs; clear hE'; obtain ⟨r, hr⟩ : ∃ r, ecmp F.a F.n F.pe E.a E.n E.pe = r := ⟨_, rfl⟩; have HR := Lib.hid hr; clear hs hr
            by_cases hneg : r < 0
            · have HUP : Hid (∀ i, i + 1 < j + 1 + 1 → upE L i) := Lib.hid fun i hi => by
                by_cases e : i = j
                · unfold upE; rw [e, HS.out, HX.out, HR.out]; exact hneg
                · exact HU.out i (by omega)
              have hwj : IntKind.i64.wrap (j : Int) = j := wrap64_in _ (by omega) (by omega); have hjI : (j : Int) < (n : Int) := by omega
              have hjN : j < n := by omega
              have hkJ : (j : Int) + 1 < (n : Int) := by omega
              have hkT : ((j : Int) + 1).toNat = j + 1 := by omega
              have hk0 : (0 : Int) ≤ (j : Int) + 1 := by omega
              go_wp2; refine wp_region_class (C := Over (wr)) (by kernel_rfl) (by kernel_rfl) (over_drew _) ?_
              repeat (first | go_big_quiet_skip | (go_big_quiet_want; go_big_quiet_op; go_big_quiet_on) | (go_big_quiet_want; go_big_quiet_op; apply Exists.intro; refine ⟨fun w' hC => ?_, ?_⟩; ((first | (go_at_call 74; refine (sent_t _ (rdI_over hp hC) (rdI_over hq hC) HP).mono ?_; rintro e w1 ⟨rfl, hb1⟩; exact ⟨rfl, over_step hC hb1⟩) | (go_at_call 75; refine (scmp6_t _ HR).mono ?_; rintro e w1 ⟨rfl, hb1⟩; exact ⟨rfl, over_step hC hb1⟩))); go_big_quiet_on) | (go_big_quiet_want; apply Exists.intro; refine ⟨fun w' hC => ?_, ?_⟩; (have k0 := over_cell hC bR.lt (bR.c 0 rfl); have k1 := over_cell hC (World.block_lt_of_cell? _ _ g0) g0; have k2 := over_cell hC (World.block_lt_of_cell? _ _ g1) g1; have k3 := over_cell hC (World.block_lt_of_cell? _ _ g2) g2; have k4 := over_cell hC (World.block_lt_of_cell? _ _ g3) g3; have k5 := over_cell hC (World.block_lt_of_cell? _ _ g4) g4; have k6 := over_cell hC (World.block_lt_of_cell? _ _ g5) g5; have k7 := over_cell hC (World.block_lt_of_cell? _ _ g6) g6; have k8 := over_cell hC (World.block_lt_of_cell? _ _ m0) m0; have k9 := over_cell hC (World.block_lt_of_cell? _ _ m1) m1; have k10 := over_cell hC (World.block_lt_of_cell? _ _ m2) m2; have k11 := over_cell hC (World.block_lt_of_cell? _ _ m3) m3; have k12 := over_cell hC (World.block_lt_of_cell? _ _ m4) m4; have k13 := over_cell hC (World.block_lt_of_cell? _ _ m5) m5; have k14 := over_cell hC (World.block_lt_of_cell? _ _ m6) m6; simp [Oper.quietAt, Oper.quietUpon, go_sem, k0, k1, k2, k3, k4, k5, k6, k7, k8, k9, k10, k11, k12, k13, k14, hltI, hlt, hwj, hjI, hjN, hkJ, hkT, hk0]; first | done | rfl); go_big_quiet_on; simp only [Act.put, List.setIfInBounds_toArray, List.set_cons_zero, List.set_cons_succ]))
              refine wpQuiet_nil ?_; intro ws hC; have k0 := over_cell hC bR.lt (bR.c 0 rfl); have k1 := over_cell hC (World.block_lt_of_cell? _ _ g0) g0; have k2 := over_cell hC (World.block_lt_of_cell? _ _ g1) g1; have k3 := over_cell hC (World.block_lt_of_cell? _ _ g2) g2; have k4 := over_cell hC (World.block_lt_of_cell? _ _ g3) g3; have k5 := over_cell hC (World.block_lt_of_cell? _ _ g4) g4; have k6 := over_cell hC (World.block_lt_of_cell? _ _ g5) g5; have k7 := over_cell hC (World.block_lt_of_cell? _ _ g6) g6; have k8 := over_cell hC (World.block_lt_of_cell? _ _ m0) m0; have k9 := over_cell hC (World.block_lt_of_cell? _ _ m1) m1; have k10 := over_cell hC (World.block_lt_of_cell? _ _ m2) m2; have k11 := over_cell hC (World.block_lt_of_cell? _ _ m3) m3; have k12 := over_cell hC (World.block_lt_of_cell? _ _ m4) m4; have k13 := over_cell hC (World.block_lt_of_cell? _ _ m5) m5; have k14 := over_cell hC (World.block_lt_of_cell? _ _ m6) m6; go_wp2
              go_roundw
              case rel => exact ⟨j + 1 + 1, by omega, by go_num, HOK.out, HUP.out, over_step hB hC⟩
              case measure => simp [intOf]; omega
            · have HF := Lib.hid (tabB_up (by rw [← HN.out]; exact hlt) HS.out HX.out (by rw [HR.out]; exact hneg))
              have hwj : IntKind.i64.wrap (j : Int) = j := wrap64_in _ (by omega) (by omega); have hjI : (j : Int) < (n : Int) := by omega
              have hjN : j < n := by omega
              have hkJ : (j : Int) + 1 < (n : Int) := by omega
              have hkT : ((j : Int) + 1).toNat = j + 1 := by omega
              have hk0 : (0 : Int) ≤ (j : Int) + 1 := by omega
              go_wp2; refine wp_region_class (C := Over (wr)) (by kernel_rfl) (by kernel_rfl) (over_drew _) ?_
              repeat (first | go_big_quiet_skip | (go_big_quiet_want; go_big_quiet_op; go_big_quiet_on) | (go_big_quiet_want; go_big_quiet_op; apply Exists.intro; refine ⟨fun w' hC => ?_, ?_⟩; ((first | (go_at_call 74; refine (sent_t _ (rdI_over hp hC) (rdI_over hq hC) HP).mono ?_; rintro e w1 ⟨rfl, hb1⟩; exact ⟨rfl, over_step hC hb1⟩) | (go_at_call 75; refine (scmp6_t _ HR).mono ?_; rintro e w1 ⟨rfl, hb1⟩; exact ⟨rfl, over_step hC hb1⟩))); go_big_quiet_on) | (go_big_quiet_want; apply Exists.intro; refine ⟨fun w' hC => ?_, ?_⟩; (have k0 := over_cell hC bR.lt (bR.c 0 rfl); have k1 := over_cell hC (World.block_lt_of_cell? _ _ g0) g0; have k2 := over_cell hC (World.block_lt_of_cell? _ _ g1) g1; have k3 := over_cell hC (World.block_lt_of_cell? _ _ g2) g2; have k4 := over_cell hC (World.block_lt_of_cell? _ _ g3) g3; have k5 := over_cell hC (World.block_lt_of_cell? _ _ g4) g4; have k6 := over_cell hC (World.block_lt_of_cell? _ _ g5) g5; have k7 := over_cell hC (World.block_lt_of_cell? _ _ g6) g6; have k8 := over_cell hC (World.block_lt_of_cell? _ _ m0) m0; have k9 := over_cell hC (World.block_lt_of_cell? _ _ m1) m1; have k10 := over_cell hC (World.block_lt_of_cell? _ _ m2) m2; have k11 := over_cell hC (World.block_lt_of_cell? _ _ m3) m3; have k12 := over_cell hC (World.block_lt_of_cell? _ _ m4) m4; have k13 := over_cell hC (World.block_lt_of_cell? _ _ m5) m5; have k14 := over_cell hC (World.block_lt_of_cell? _ _ m6) m6; simp [Oper.quietAt, Oper.quietUpon, go_sem, k0, k1, k2, k3, k4, k5, k6, k7, k8, k9, k10, k11, k12, k13, k14, hltI, hlt, hwj, hjI, hjN, hkJ, hkT, hk0]; first | done | rfl); go_big_quiet_on; simp only [Act.put, List.setIfInBounds_toArray, List.set_cons_zero, List.set_cons_succ]))
              refine wpQuiet_nil ?_; intro ws hC; have k0 := over_cell hC bR.lt (bR.c 0 rfl); have k1 := over_cell hC (World.block_lt_of_cell? _ _ g0) g0; have k2 := over_cell hC (World.block_lt_of_cell? _ _ g1) g1; have k3 := over_cell hC (World.block_lt_of_cell? _ _ g2) g2; have k4 := over_cell hC (World.block_lt_of_cell? _ _ g3) g3; have k5 := over_cell hC (World.block_lt_of_cell? _ _ g4) g4; have k6 := over_cell hC (World.block_lt_of_cell? _ _ g5) g5; have k7 := over_cell hC (World.block_lt_of_cell? _ _ g6) g6; have k8 := over_cell hC (World.block_lt_of_cell? _ _ m0) m0; have k9 := over_cell hC (World.block_lt_of_cell? _ _ m1) m1; have k10 := over_cell hC (World.block_lt_of_cell? _ _ m2) m2; have k11 := over_cell hC (World.block_lt_of_cell? _ _ m3) m3; have k12 := over_cell hC (World.block_lt_of_cell? _ _ m4) m4; have k13 := over_cell hC (World.block_lt_of_cell? _ _ m5) m5; have k14 := over_cell hC (World.block_lt_of_cell? _ _ m6) m6; go_wp2
              go_ret
              exact ⟨ret_bool (by first | rw [HF.out, Bool.and_false] | rw [HF.out] | simp [HF.out]), below_step B0 (over_step hB hC)⟩
      · have hkn : k = n := by omega
        subst hkn; have HF := Lib.hid (tabB_yes HN.out HO.out HU.out); clear hc; have r0 := bR.c 0 rfl; go_wp2
        go_ret
        exact ⟨ret_bool (by first | rw [HF.out, Bool.and_true] | rw [HF.out] | simp [HF.out]), below_step B0 hB⟩
  · have e : (decide ((n : Int) ≤ 60) && tabB L) = false := by simp [hbig]
    have hbig2 : (60 : Int) < (n : Int) := by omega
    rw [e]; clear e
    go_enter Tryz.func47, Tryz.ntmps47
    go_wp2
    go_ret
    exact ⟨rfl, B0⟩
set_option maxHeartbeats 1000000 in
theorem irib_any (v : Value) (L : List Ent) (w : World) (h : RdE w v L) :
    Calls Tryz.prog 114 #[.agg #[v]] w fun e w' => e = .returned (.bool (ribB L)) ∧ Below w.heap.size w w' := by
  unfold ribB; have hm := h.1; obtain ⟨a, c, rfl, hc⟩ := h.el; obtain ⟨n, hn⟩ : ∃ n, n = L.length := ⟨_, rfl⟩; rw [← hn] at hc hm ⊢; have HN := Lib.hid hn; clear h hn; obtain ⟨bR, B0, z⟩ := one w [.slice a n c] 69; clear z
  by_cases hbig : (n : Int) ≤ 60
  · rw [show decide ((n : Int) ≤ 60) = true by simp [hbig]]
    have hbig2 : ¬ (60 : Int) < (n : Int) := by omega
    obtain ⟨W1, hW⟩ : ∃ W1, W1 = w.alloc (.cells #[.slice a n c] 69) := ⟨_, rfl⟩; obtain ⟨R, hR⟩ : ∃ R, R = w.heap.size := ⟨_, rfl⟩; have hW2 := hW
    go_enter Tryz.func114, Tryz.ntmps114
    go_wp2; rw [← hW2]
    try simp only [← hR]
    rw [← hR] at bR; rw [← hW2] at bR B0; clear hW hW2 hR
    go_loopw [12] (fun q wr => ∃ k : Nat, k ≤ n ∧ q = .int .i64 k ∧ (∀ i, i < k → okE L i) ∧ (∀ i, i + 1 < k → upE L i) ∧ Over W1 wr) (fun q _ => n - (intOf q).toNat)
    case atStart => exact ⟨0, Nat.zero_le _, rfl, fun i hi => by omega, fun i hi => by omega, over_refl _⟩
    case round =>
      obtain ⟨k, hk, rfl, hok, hup, hB⟩ := hrel; have HO := Lib.hid hok; have HU := Lib.hid hup; clear hok hup; replace bR := bR.keep hB; have r0 := bR.c 0 rfl
      by_cases hlt : k < n
      · have hltI : (k : Int) < (n : Int) := by omega
        obtain ⟨b, o, rfl, hE⟩ := hc k hlt; obtain ⟨E, hx⟩ : ∃ E, L.getD k e0 = E := ⟨_, rfl⟩; rw [hx] at hE; obtain ⟨pv, cv, hp, hq, g0, g1, g2, g3, g4, g5, g6⟩ := hE.keep (below_step B0 hB); have HX := Lib.hid hx; have HCC := Lib.hid hc; clear hx hc hE; obtain ⟨pa, px, rfl⟩ := hp.len; obtain ⟨qa, qx, rfl⟩ := hq.len; cases hpk : entB E.a E.n E.pe E.p E.pr E.c E.bw
        · have HP := Lib.hid hpk
          have HF := Lib.hid (tabB_ok (by rw [← HN.out]; exact hlt) HX.out hpk); clear hpk; have bP := Bl.new wr [.int .i64 E.a, .int .i64 E.n, .int .i64 E.pe, .slice pa E.p.length px, .int .i64 E.pr, .slice qa E.c.length qx, .int .i64 E.bw] EI wr.heap.size rfl; have hB2 : Over W1 (wr.alloc (.cells #[.int .i64 E.a, .int .i64 E.n, .int .i64 E.pe, .slice pa E.p.length px, .int .i64 E.pr, .slice qa E.c.length qx, .int .i64 E.bw] EI)) := over_alloc hB _; replace bR := bR.alloc (.cells #[.int .i64 E.a, .int .i64 E.n, .int .i64 E.pe, .slice pa E.p.length px, .int .i64 E.pr, .slice qa E.c.length qx, .int .i64 E.bw] EI); replace hp := hp.alloc (.cells #[.int .i64 E.a, .int .i64 E.n, .int .i64 E.pe, .slice pa E.p.length px, .int .i64 E.pr, .slice qa E.c.length qx, .int .i64 E.bw] EI); replace hq := hq.alloc (.cells #[.int .i64 E.a, .int .i64 E.n, .int .i64 E.pe, .slice pa E.p.length px, .int .i64 E.pr, .slice qa E.c.length qx, .int .i64 E.bw] EI); go_wp2; refine wp_region_class (C := Over ((wr.alloc (.cells #[.int .i64 E.a, .int .i64 E.n, .int .i64 E.pe, .slice pa E.p.length px, .int .i64 E.pr, .slice qa E.c.length qx, .int .i64 E.bw] EI)))) (by kernel_rfl) (by kernel_rfl) (over_drew _) ?_
          repeat (first | go_big_quiet_skip | (go_big_quiet_want; go_big_quiet_op; go_big_quiet_on) | (go_big_quiet_want; go_big_quiet_op; apply Exists.intro; refine ⟨fun w' hC => ?_, ?_⟩; ((first | (go_at_call 145; refine (ient_t _ (rdI_over hp hC) (rdI_over hq hC) HP).mono ?_; rintro e w1 ⟨rfl, hb1⟩; exact ⟨rfl, over_step hC hb1⟩))); go_big_quiet_on) | (go_big_quiet_want; apply Exists.intro; refine ⟨fun w' hC => ?_, ?_⟩; (have k0 := over_cell hC bP.lt (bP.c 0 rfl); have k1 := over_cell hC bP.lt (bP.c 1 rfl); have k2 := over_cell hC bP.lt (bP.c 2 rfl); have k3 := over_cell hC bP.lt (bP.c 3 rfl); have k4 := over_cell hC bP.lt (bP.c 4 rfl); have k5 := over_cell hC bP.lt (bP.c 5 rfl); have k6 := over_cell hC bP.lt (bP.c 6 rfl); have k7 := over_cell hC bR.lt (bR.c 0 rfl); simp [Oper.quietAt, Oper.quietUpon, go_sem, k0, k1, k2, k3, k4, k5, k6, k7]; first | done | rfl); go_big_quiet_on; simp only [Act.put, List.setIfInBounds_toArray, List.set_cons_zero, List.set_cons_succ]))
          refine wpQuiet_nil ?_; intro ws hC; have k0 := over_cell hC bP.lt (bP.c 0 rfl); have k1 := over_cell hC bP.lt (bP.c 1 rfl); have k2 := over_cell hC bP.lt (bP.c 2 rfl); have k3 := over_cell hC bP.lt (bP.c 3 rfl); have k4 := over_cell hC bP.lt (bP.c 4 rfl); have k5 := over_cell hC bP.lt (bP.c 5 rfl); have k6 := over_cell hC bP.lt (bP.c 6 rfl); have k7 := over_cell hC bR.lt (bR.c 0 rfl); go_wp2
          go_ret
          exact ⟨ret_bool (by first | rw [HF.out, Bool.and_false] | rw [HF.out] | simp [HF.out]), below_step B0 (over_step hB2 hC)⟩
        · have HP := Lib.hid hpk
          have HOK : Hid (∀ i, i < k + 1 → okE L i) := Lib.hid fun i hi => by
            by_cases e : i = k
            · unfold okE; rw [e, HX.out]; exact hpk
            · exact HO.out i (by omega)
          clear hpk
          rcases Nat.eq_zero_or_pos k with rfl | hpos
          · simp only [Nat.zero_mul, Nat.add_zero] at g0 g1 g2 g3 g4 g5 g6
            have bP := Bl.new wr [.int .i64 E.a, .int .i64 E.n, .int .i64 E.pe, .slice pa E.p.length px, .int .i64 E.pr, .slice qa E.c.length qx, .int .i64 E.bw] EI wr.heap.size rfl; have hB2 : Over W1 (wr.alloc (.cells #[.int .i64 E.a, .int .i64 E.n, .int .i64 E.pe, .slice pa E.p.length px, .int .i64 E.pr, .slice qa E.c.length qx, .int .i64 E.bw] EI)) := over_alloc hB _; replace bR := bR.alloc (.cells #[.int .i64 E.a, .int .i64 E.n, .int .i64 E.pe, .slice pa E.p.length px, .int .i64 E.pr, .slice qa E.c.length qx, .int .i64 E.bw] EI); replace hp := hp.alloc (.cells #[.int .i64 E.a, .int .i64 E.n, .int .i64 E.pe, .slice pa E.p.length px, .int .i64 E.pr, .slice qa E.c.length qx, .int .i64 E.bw] EI); replace hq := hq.alloc (.cells #[.int .i64 E.a, .int .i64 E.n, .int .i64 E.pe, .slice pa E.p.length px, .int .i64 E.pr, .slice qa E.c.length qx, .int .i64 E.bw] EI); go_wp2; refine wp_region_class (C := Over ((wr.alloc (.cells #[.int .i64 E.a, .int .i64 E.n, .int .i64 E.pe, .slice pa E.p.length px, .int .i64 E.pr, .slice qa E.c.length qx, .int .i64 E.bw] EI)))) (by kernel_rfl) (by kernel_rfl) (over_drew _) ?_
            repeat (first | go_big_quiet_skip | (go_big_quiet_want; go_big_quiet_op; go_big_quiet_on) | (go_big_quiet_want; go_big_quiet_op; apply Exists.intro; refine ⟨fun w' hC => ?_, ?_⟩; ((first | (go_at_call 145; refine (ient_t _ (rdI_over hp hC) (rdI_over hq hC) HP).mono ?_; rintro e w1 ⟨rfl, hb1⟩; exact ⟨rfl, over_step hC hb1⟩))); go_big_quiet_on) | (go_big_quiet_want; apply Exists.intro; refine ⟨fun w' hC => ?_, ?_⟩; (have k0 := over_cell hC bP.lt (bP.c 0 rfl); have k1 := over_cell hC bP.lt (bP.c 1 rfl); have k2 := over_cell hC bP.lt (bP.c 2 rfl); have k3 := over_cell hC bP.lt (bP.c 3 rfl); have k4 := over_cell hC bP.lt (bP.c 4 rfl); have k5 := over_cell hC bP.lt (bP.c 5 rfl); have k6 := over_cell hC bP.lt (bP.c 6 rfl); have k7 := over_cell hC bR.lt (bR.c 0 rfl); simp [Oper.quietAt, Oper.quietUpon, go_sem, k0, k1, k2, k3, k4, k5, k6, k7]; first | done | rfl); go_big_quiet_on; simp only [Act.put, List.setIfInBounds_toArray, List.set_cons_zero, List.set_cons_succ]))
            refine wpQuiet_nil ?_; intro ws hC; have k0 := over_cell hC bP.lt (bP.c 0 rfl); have k1 := over_cell hC bP.lt (bP.c 1 rfl); have k2 := over_cell hC bP.lt (bP.c 2 rfl); have k3 := over_cell hC bP.lt (bP.c 3 rfl); have k4 := over_cell hC bP.lt (bP.c 4 rfl); have k5 := over_cell hC bP.lt (bP.c 5 rfl); have k6 := over_cell hC bP.lt (bP.c 6 rfl); have k7 := over_cell hC bR.lt (bR.c 0 rfl); go_wp2
            go_roundw
            case rel => exact ⟨0 + 1, by omega, by go_num, HOK.out, fun i hi => by omega, over_step hB2 hC⟩
            case measure => simp [intOf]; omega
          · obtain ⟨j, rfl⟩ : ∃ j, k = j + 1 := ⟨k - 1, by omega⟩
            obtain ⟨b', o', hbo, hE'⟩ := HCC.out j (by omega); obtain ⟨rfl, rfl⟩ : b = b' ∧ o = o' := by simpa using hbo
            clear hbo; obtain ⟨F, hs⟩ : ∃ F, L.getD j e0 = F := ⟨_, rfl⟩; rw [hs] at hE'; obtain ⟨pu, cu, -, -, m0, m1, m2, m3, m4, m5, m6⟩ := hE'.keep (below_step B0 hB); have HS := Lib.hid hs; clear hE' hs; have h1 := HO.out j (by omega); unfold okE at h1; rw [HS.out] at h1; have h2 := HP.out
            have hr0 : pcmp F.a F.n E.a E.n = cmp2 F.a F.n E.a E.n := by
              unfold pcmp; rw [entB_p h1, entB_p h2]
              rfl
            obtain ⟨r, hr⟩ : ∃ r, ecmp F.a F.n F.pe E.a E.n E.pe = r := ⟨_, rfl⟩; have HR := Lib.hid (And.intro hr0 hr); clear hr hr0 h1 h2
            by_cases hneg : r < 0
            · have HUP : Hid (∀ i, i + 1 < j + 1 + 1 → upE L i) := Lib.hid fun i hi => by
                by_cases e : i = j
                · unfold upE; rw [e, HS.out, HX.out, HR.out.2]; exact hneg
                · exact HU.out i (by omega)
              have bP := Bl.new wr [.int .i64 E.a, .int .i64 E.n, .int .i64 E.pe, .slice pa E.p.length px, .int .i64 E.pr, .slice qa E.c.length qx, .int .i64 E.bw] EI wr.heap.size rfl; have hB2 : Over W1 (wr.alloc (.cells #[.int .i64 E.a, .int .i64 E.n, .int .i64 E.pe, .slice pa E.p.length px, .int .i64 E.pr, .slice qa E.c.length qx, .int .i64 E.bw] EI)) := over_alloc hB _; replace bR := bR.alloc (.cells #[.int .i64 E.a, .int .i64 E.n, .int .i64 E.pe, .slice pa E.p.length px, .int .i64 E.pr, .slice qa E.c.length qx, .int .i64 E.bw] EI); replace hp := hp.alloc (.cells #[.int .i64 E.a, .int .i64 E.n, .int .i64 E.pe, .slice pa E.p.length px, .int .i64 E.pr, .slice qa E.c.length qx, .int .i64 E.bw] EI); replace hq := hq.alloc (.cells #[.int .i64 E.a, .int .i64 E.n, .int .i64 E.pe, .slice pa E.p.length px, .int .i64 E.pr, .slice qa E.c.length qx, .int .i64 E.bw] EI); replace m0 := cell_keep ((Below.refl _ _).alloc (Nat.le_refl _) (.cells #[.int .i64 E.a, .int .i64 E.n, .int .i64 E.pe, .slice pa E.p.length px, .int .i64 E.pr, .slice qa E.c.length qx, .int .i64 E.bw] EI)) (World.block_lt_of_cell? wr _ m0) m0; replace m1 := cell_keep ((Below.refl _ _).alloc (Nat.le_refl _) (.cells #[.int .i64 E.a, .int .i64 E.n, .int .i64 E.pe, .slice pa E.p.length px, .int .i64 E.pr, .slice qa E.c.length qx, .int .i64 E.bw] EI)) (World.block_lt_of_cell? wr _ m1) m1; replace m2 := cell_keep ((Below.refl _ _).alloc (Nat.le_refl _) (.cells #[.int .i64 E.a, .int .i64 E.n, .int .i64 E.pe, .slice pa E.p.length px, .int .i64 E.pr, .slice qa E.c.length qx, .int .i64 E.bw] EI)) (World.block_lt_of_cell? wr _ m2) m2; replace m3 := cell_keep ((Below.refl _ _).alloc (Nat.le_refl _) (.cells #[.int .i64 E.a, .int .i64 E.n, .int .i64 E.pe, .slice pa E.p.length px, .int .i64 E.pr, .slice qa E.c.length qx, .int .i64 E.bw] EI)) (World.block_lt_of_cell? wr _ m3) m3; replace m4 := cell_keep ((Below.refl _ _).alloc (Nat.le_refl _) (.cells #[.int .i64 E.a, .int .i64 E.n, .int .i64 E.pe, .slice pa E.p.length px, .int .i64 E.pr, .slice qa E.c.length qx, .int .i64 E.bw] EI)) (World.block_lt_of_cell? wr _ m4) m4; replace m5 := cell_keep ((Below.refl _ _).alloc (Nat.le_refl _) (.cells #[.int .i64 E.a, .int .i64 E.n, .int .i64 E.pe, .slice pa E.p.length px, .int .i64 E.pr, .slice qa E.c.length qx, .int .i64 E.bw] EI)) (World.block_lt_of_cell? wr _ m5) m5; replace m6 := cell_keep ((Below.refl _ _).alloc (Nat.le_refl _) (.cells #[.int .i64 E.a, .int .i64 E.n, .int .i64 E.pe, .slice pa E.p.length px, .int .i64 E.pr, .slice qa E.c.length qx, .int .i64 E.bw] EI)) (World.block_lt_of_cell? wr _ m6) m6; have hwj : IntKind.i64.wrap (j : Int) = j := wrap64_in _ (by omega) (by omega); have hjI : (j : Int) < (n : Int) := by omega
              have hjN : j < n := by omega
              go_wp2; refine wp_region_class (C := Over ((wr.alloc (.cells #[.int .i64 E.a, .int .i64 E.n, .int .i64 E.pe, .slice pa E.p.length px, .int .i64 E.pr, .slice qa E.c.length qx, .int .i64 E.bw] EI)))) (by kernel_rfl) (by kernel_rfl) (over_drew _) ?_
              repeat (first | go_big_quiet_skip | (go_big_quiet_want; go_big_quiet_op; go_big_quiet_on) | (go_big_quiet_want; go_big_quiet_op; apply Exists.intro; refine ⟨fun w' hC => ?_, ?_⟩; ((first | (go_at_call 145; refine (ient_t _ (rdI_over hp hC) (rdI_over hq hC) HP).mono ?_; rintro e w1 ⟨rfl, hb1⟩; exact ⟨rfl, over_step hC hb1⟩) | (go_at_call 146; refine (icmp6_t _ HR).mono ?_; rintro e w1 ⟨rfl, hb1⟩; exact ⟨rfl, over_step hC hb1⟩))); go_big_quiet_on) | (go_big_quiet_want; apply Exists.intro; refine ⟨fun w' hC => ?_, ?_⟩; (have k0 := over_cell hC bP.lt (bP.c 0 rfl); have k1 := over_cell hC bP.lt (bP.c 1 rfl); have k2 := over_cell hC bP.lt (bP.c 2 rfl); have k3 := over_cell hC bP.lt (bP.c 3 rfl); have k4 := over_cell hC bP.lt (bP.c 4 rfl); have k5 := over_cell hC bP.lt (bP.c 5 rfl); have k6 := over_cell hC bP.lt (bP.c 6 rfl); have k7 := over_cell hC bR.lt (bR.c 0 rfl); have k8 := over_cell hC (World.block_lt_of_cell? _ _ m0) m0; have k9 := over_cell hC (World.block_lt_of_cell? _ _ m1) m1; have k10 := over_cell hC (World.block_lt_of_cell? _ _ m2) m2; have k11 := over_cell hC (World.block_lt_of_cell? _ _ m3) m3; have k12 := over_cell hC (World.block_lt_of_cell? _ _ m4) m4; have k13 := over_cell hC (World.block_lt_of_cell? _ _ m5) m5; have k14 := over_cell hC (World.block_lt_of_cell? _ _ m6) m6; simp [Oper.quietAt, Oper.quietUpon, go_sem, k0, k1, k2, k3, k4, k5, k6, k7, k8, k9, k10, k11, k12, k13, k14, hwj, hjI, hjN]; first | done | rfl); go_big_quiet_on; simp only [Act.put, List.setIfInBounds_toArray, List.set_cons_zero, List.set_cons_succ]))
              refine wpQuiet_nil ?_; intro ws hC; have k0 := over_cell hC bP.lt (bP.c 0 rfl); have k1 := over_cell hC bP.lt (bP.c 1 rfl); have k2 := over_cell hC bP.lt (bP.c 2 rfl); have k3 := over_cell hC bP.lt (bP.c 3 rfl); have k4 := over_cell hC bP.lt (bP.c 4 rfl); have k5 := over_cell hC bP.lt (bP.c 5 rfl); have k6 := over_cell hC bP.lt (bP.c 6 rfl); have k7 := over_cell hC bR.lt (bR.c 0 rfl); have k8 := over_cell hC (World.block_lt_of_cell? _ _ m0) m0; have k9 := over_cell hC (World.block_lt_of_cell? _ _ m1) m1; have k10 := over_cell hC (World.block_lt_of_cell? _ _ m2) m2; have k11 := over_cell hC (World.block_lt_of_cell? _ _ m3) m3; have k12 := over_cell hC (World.block_lt_of_cell? _ _ m4) m4; have k13 := over_cell hC (World.block_lt_of_cell? _ _ m5) m5; have k14 := over_cell hC (World.block_lt_of_cell? _ _ m6) m6; go_wp2
              go_roundw
              case rel => exact ⟨j + 1 + 1, by omega, by go_num, HOK.out, HUP.out, over_step hB2 hC⟩
              case measure => simp [intOf]; omega
            · have HF := Lib.hid (tabB_up (by rw [← HN.out]; exact hlt) HS.out HX.out (by rw [HR.out.2]; exact hneg))
              have bP := Bl.new wr [.int .i64 E.a, .int .i64 E.n, .int .i64 E.pe, .slice pa E.p.length px, .int .i64 E.pr, .slice qa E.c.length qx, .int .i64 E.bw] EI wr.heap.size rfl; have hB2 : Over W1 (wr.alloc (.cells #[.int .i64 E.a, .int .i64 E.n, .int .i64 E.pe, .slice pa E.p.length px, .int .i64 E.pr, .slice qa E.c.length qx, .int .i64 E.bw] EI)) := over_alloc hB _; replace bR := bR.alloc (.cells #[.int .i64 E.a, .int .i64 E.n, .int .i64 E.pe, .slice pa E.p.length px, .int .i64 E.pr, .slice qa E.c.length qx, .int .i64 E.bw] EI); replace hp := hp.alloc (.cells #[.int .i64 E.a, .int .i64 E.n, .int .i64 E.pe, .slice pa E.p.length px, .int .i64 E.pr, .slice qa E.c.length qx, .int .i64 E.bw] EI); replace hq := hq.alloc (.cells #[.int .i64 E.a, .int .i64 E.n, .int .i64 E.pe, .slice pa E.p.length px, .int .i64 E.pr, .slice qa E.c.length qx, .int .i64 E.bw] EI); replace m0 := cell_keep ((Below.refl _ _).alloc (Nat.le_refl _) (.cells #[.int .i64 E.a, .int .i64 E.n, .int .i64 E.pe, .slice pa E.p.length px, .int .i64 E.pr, .slice qa E.c.length qx, .int .i64 E.bw] EI)) (World.block_lt_of_cell? wr _ m0) m0; replace m1 := cell_keep ((Below.refl _ _).alloc (Nat.le_refl _) (.cells #[.int .i64 E.a, .int .i64 E.n, .int .i64 E.pe, .slice pa E.p.length px, .int .i64 E.pr, .slice qa E.c.length qx, .int .i64 E.bw] EI)) (World.block_lt_of_cell? wr _ m1) m1; replace m2 := cell_keep ((Below.refl _ _).alloc (Nat.le_refl _) (.cells #[.int .i64 E.a, .int .i64 E.n, .int .i64 E.pe, .slice pa E.p.length px, .int .i64 E.pr, .slice qa E.c.length qx, .int .i64 E.bw] EI)) (World.block_lt_of_cell? wr _ m2) m2; replace m3 := cell_keep ((Below.refl _ _).alloc (Nat.le_refl _) (.cells #[.int .i64 E.a, .int .i64 E.n, .int .i64 E.pe, .slice pa E.p.length px, .int .i64 E.pr, .slice qa E.c.length qx, .int .i64 E.bw] EI)) (World.block_lt_of_cell? wr _ m3) m3; replace m4 := cell_keep ((Below.refl _ _).alloc (Nat.le_refl _) (.cells #[.int .i64 E.a, .int .i64 E.n, .int .i64 E.pe, .slice pa E.p.length px, .int .i64 E.pr, .slice qa E.c.length qx, .int .i64 E.bw] EI)) (World.block_lt_of_cell? wr _ m4) m4; replace m5 := cell_keep ((Below.refl _ _).alloc (Nat.le_refl _) (.cells #[.int .i64 E.a, .int .i64 E.n, .int .i64 E.pe, .slice pa E.p.length px, .int .i64 E.pr, .slice qa E.c.length qx, .int .i64 E.bw] EI)) (World.block_lt_of_cell? wr _ m5) m5; replace m6 := cell_keep ((Below.refl _ _).alloc (Nat.le_refl _) (.cells #[.int .i64 E.a, .int .i64 E.n, .int .i64 E.pe, .slice pa E.p.length px, .int .i64 E.pr, .slice qa E.c.length qx, .int .i64 E.bw] EI)) (World.block_lt_of_cell? wr _ m6) m6; have hwj : IntKind.i64.wrap (j : Int) = j := wrap64_in _ (by omega) (by omega); have hjI : (j : Int) < (n : Int) := by omega
              have hjN : j < n := by omega
              go_wp2; refine wp_region_class (C := Over ((wr.alloc (.cells #[.int .i64 E.a, .int .i64 E.n, .int .i64 E.pe, .slice pa E.p.length px, .int .i64 E.pr, .slice qa E.c.length qx, .int .i64 E.bw] EI)))) (by kernel_rfl) (by kernel_rfl) (over_drew _) ?_
              repeat (first | go_big_quiet_skip | (go_big_quiet_want; go_big_quiet_op; go_big_quiet_on) | (go_big_quiet_want; go_big_quiet_op; apply Exists.intro; refine ⟨fun w' hC => ?_, ?_⟩; ((first | (go_at_call 145; refine (ient_t _ (rdI_over hp hC) (rdI_over hq hC) HP).mono ?_; rintro e w1 ⟨rfl, hb1⟩; exact ⟨rfl, over_step hC hb1⟩) | (go_at_call 146; refine (icmp6_t _ HR).mono ?_; rintro e w1 ⟨rfl, hb1⟩; exact ⟨rfl, over_step hC hb1⟩))); go_big_quiet_on) | (go_big_quiet_want; apply Exists.intro; refine ⟨fun w' hC => ?_, ?_⟩; (have k0 := over_cell hC bP.lt (bP.c 0 rfl); have k1 := over_cell hC bP.lt (bP.c 1 rfl); have k2 := over_cell hC bP.lt (bP.c 2 rfl); have k3 := over_cell hC bP.lt (bP.c 3 rfl); have k4 := over_cell hC bP.lt (bP.c 4 rfl); have k5 := over_cell hC bP.lt (bP.c 5 rfl); have k6 := over_cell hC bP.lt (bP.c 6 rfl); have k7 := over_cell hC bR.lt (bR.c 0 rfl); have k8 := over_cell hC (World.block_lt_of_cell? _ _ m0) m0; have k9 := over_cell hC (World.block_lt_of_cell? _ _ m1) m1; have k10 := over_cell hC (World.block_lt_of_cell? _ _ m2) m2; have k11 := over_cell hC (World.block_lt_of_cell? _ _ m3) m3; have k12 := over_cell hC (World.block_lt_of_cell? _ _ m4) m4; have k13 := over_cell hC (World.block_lt_of_cell? _ _ m5) m5; have k14 := over_cell hC (World.block_lt_of_cell? _ _ m6) m6; simp [Oper.quietAt, Oper.quietUpon, go_sem, k0, k1, k2, k3, k4, k5, k6, k7, k8, k9, k10, k11, k12, k13, k14, hwj, hjI, hjN]; first | done | rfl); go_big_quiet_on; simp only [Act.put, List.setIfInBounds_toArray, List.set_cons_zero, List.set_cons_succ]))
              refine wpQuiet_nil ?_; intro ws hC; have k0 := over_cell hC bP.lt (bP.c 0 rfl); have k1 := over_cell hC bP.lt (bP.c 1 rfl); have k2 := over_cell hC bP.lt (bP.c 2 rfl); have k3 := over_cell hC bP.lt (bP.c 3 rfl); have k4 := over_cell hC bP.lt (bP.c 4 rfl); have k5 := over_cell hC bP.lt (bP.c 5 rfl); have k6 := over_cell hC bP.lt (bP.c 6 rfl); have k7 := over_cell hC bR.lt (bR.c 0 rfl); have k8 := over_cell hC (World.block_lt_of_cell? _ _ m0) m0; have k9 := over_cell hC (World.block_lt_of_cell? _ _ m1) m1; have k10 := over_cell hC (World.block_lt_of_cell? _ _ m2) m2; have k11 := over_cell hC (World.block_lt_of_cell? _ _ m3) m3; have k12 := over_cell hC (World.block_lt_of_cell? _ _ m4) m4; have k13 := over_cell hC (World.block_lt_of_cell? _ _ m5) m5; have k14 := over_cell hC (World.block_lt_of_cell? _ _ m6) m6; go_wp2
              go_ret
              exact ⟨ret_bool (by first | rw [HF.out, Bool.and_false] | rw [HF.out] | simp [HF.out]), below_step B0 (over_step hB2 hC)⟩
      · have hkn : k = n := by omega
        subst hkn; have HF := Lib.hid (tabB_yes HN.out HO.out HU.out); clear hc; have r0 := bR.c 0 rfl; go_wp2
        go_ret
        exact ⟨ret_bool (by first | rw [HF.out, Bool.and_true] | rw [HF.out] | simp [HF.out]), below_step B0 hB⟩
  · have e : (decide ((n : Int) ≤ 60) && tabB L) = false := by simp [hbig]
    have hbig2 : (60 : Int) < (n : Int) := by omega
    rw [e]; clear e
    go_enter Tryz.func114, Tryz.ntmps114
    go_wp2
    go_ret
    exact ⟨rfl, B0⟩
theorem srib_t {v : Value} {L : List Ent} {b : Bool} (w : World) (h : RdE w v L) (H : Hid (ribB L = b)) :
    Calls Tryz.prog 47 #[.agg #[v]] w fun e w' => e = .returned (.bool b) ∧ Below w.heap.size w w' := H.out ▸ srib_any v L w h
theorem irib_t {v : Value} {L : List Ent} {b : Bool} (w : World) (h : RdE w v L) (H : Hid (ribB L = b)) :
    Calls Tryz.prog 114 #[.agg #[v]] w fun e w' => e = .returned (.bool b) ∧ Below w.heap.size w w' := H.out ▸ irib_any v L w h
end Go.Proofs.YtkodnipmogdgkabGreat
namespace Go.Proofs.YtkodnipmogdgkabGreat
open Go.ChangeShapes Go.WideShapes Go.ChangeAt Go.RowKit Go.BigFrame Go.Joins
set_option linter.unusedVariables false
set_option maxRecDepth 100000
set_option linter.unusedSimpArgs false
set_option maxRecDepth 100000

theorem over_grownP {V w w' : World} {v : Value} {l : List (Int × Int)} {base : Nat} (h : Over V w) (ho : OwnP w base v l) (hb : V.heap.size ≤ base) (hg : w.grownBy w' v.ownBlock) : Over V w' :=
  Below.grown h hg h.size (fun k hk => Nat.le_trans hb (World.ownsRow.lt ho k hk).1)
/-- the prefixes of a table, one for each entry -/
def pfx (L : List Ent) : List (Int × Int) := L.map fun E => (E.a, E.n)
theorem pfx_len (L : List Ent) : (pfx L).length = L.length := by simp [pfx]
end Go.Proofs.YtkodnipmogdgkabGreat
namespace Go.Proofs.YtkodnipmogdgkabGreat
open Go.ChangeShapes Go.WideShapes Go.ChangeAt Go.RowKit Go.BigFrame
set_option linter.unusedVariables false
set_option maxRecDepth 100000
set_option linter.unusedSimpArgs false

theorem spfx_any (v : Value) (l : List (Int × Int)) (w : World) (h : RdP w v l) :
    Calls Tryz.prog 46 #[v] w fun e w' => e = .returned (.bool (decide ((l.length : Int) ≤ 8) && pfxB l)) ∧ Below w.heap.size w w' := by
  have hm := h.1; obtain ⟨a, c, rfl, hc⟩ := h.el; obtain ⟨n, hn⟩ : ∃ n, n = l.length := ⟨_, rfl⟩; rw [← hn] at hc hm ⊢; have HN := Lib.hid hn; clear h hn
  go_enter Tryz.func46, Tryz.ntmps46
  go_wp2
  go_loopw [3] (fun q wr => ∃ k : Nat, k ≤ n ∧ q = .int .i64 k ∧ (∀ i, i < k → okAt l i) ∧ (∀ i, i + 1 < k → upAt l i) ∧ Below w.heap.size w wr) (fun q _ => n - (intOf q).toNat)
  case atStart => exact ⟨0, Nat.zero_le _, rfl, fun i hi => by omega, fun i hi => by omega, Below.refl _ _⟩
  case round =>
    obtain ⟨k, hk, rfl, hok, hup, hB⟩ := hrel; have HO := Lib.hid hok; have HU := Lib.hid hup; clear hok hup
    by_cases hlt : k < n
    · have hltI : (k : Int) < (n : Int) := by omega
      obtain ⟨b, o, rfl, d0, d1⟩ := hc k hlt; have e0 := cell_keep hB (World.block_lt_of_cell? w _ d0) d0; have e1 := cell_keep hB (World.block_lt_of_cell? w _ d1) d1; obtain ⟨⟨x, y⟩, hx⟩ : ∃ q, l.getD k (0, 0) = q := ⟨_, rfl⟩; rw [hx] at e0 e1; have HX := Lib.hid hx; have HCC := Lib.hid hc; clear hx hc d0 d1; cases hp : pokB x y
      · have HP := Lib.hid hp
        have HF := Lib.hid (pfxB_ok (by rw [← HN.out]; exact hlt) HX.out hp); clear hp; go_wp2; refine wp_region_class (C := Over (wr)) (by kernel_rfl) (by kernel_rfl) (over_drew _) ?_
        repeat (first | go_big_quiet_skip | (go_big_quiet_want; go_big_quiet_op; go_big_quiet_on) | (go_big_quiet_want; go_big_quiet_op; apply Exists.intro; refine ⟨fun w' hC => ?_, ?_⟩; ((first | (go_at_call 72; refine (spok_t _ HP).mono ?_; rintro e w1 ⟨rfl, hb1⟩; exact ⟨rfl, over_step hC hb1⟩))); go_big_quiet_on) | (go_big_quiet_want; apply Exists.intro; refine ⟨fun w' hC => ?_, ?_⟩; (have k0 := over_cell hC (World.block_lt_of_cell? _ _ e0) e0; have k1 := over_cell hC (World.block_lt_of_cell? _ _ e1) e1; simp [Oper.quietAt, Oper.quietUpon, go_sem, k0, k1, hltI, hlt]; first | done | rfl); go_big_quiet_on; simp only [Act.put, List.setIfInBounds_toArray, List.set_cons_zero, List.set_cons_succ]))
        refine wpQuiet_nil ?_; intro wr hC; have k0 := over_cell hC (World.block_lt_of_cell? _ _ e0) e0; have k1 := over_cell hC (World.block_lt_of_cell? _ _ e1) e1; go_wp2
        go_ret
        exact ⟨ret_bool (by rw [HF.out, Bool.and_false]), below_step hB hC⟩
      · have HP := Lib.hid hp
        have HOK : Hid (∀ i, i < k + 1 → okAt l i) := Lib.hid fun i hi => by
          by_cases e : i = k
          · unfold okAt; rw [e, HX.out]; exact hp
          · exact HO.out i (by omega)
        clear hp
        rcases Nat.eq_zero_or_pos k with rfl | hpos
        · simp only [Nat.zero_mul, Nat.add_zero] at e0 e1
          go_wp2; refine wp_region_class (C := Over (wr)) (by kernel_rfl) (by kernel_rfl) (over_drew _) ?_
          repeat (first | go_big_quiet_skip | (go_big_quiet_want; go_big_quiet_op; go_big_quiet_on) | (go_big_quiet_want; go_big_quiet_op; apply Exists.intro; refine ⟨fun w' hC => ?_, ?_⟩; ((first | (go_at_call 72; refine (spok_t _ HP).mono ?_; rintro e w1 ⟨rfl, hb1⟩; exact ⟨rfl, over_step hC hb1⟩))); go_big_quiet_on) | (go_big_quiet_want; apply Exists.intro; refine ⟨fun w' hC => ?_, ?_⟩; (have k0 := over_cell hC (World.block_lt_of_cell? _ _ e0) e0; have k1 := over_cell hC (World.block_lt_of_cell? _ _ e1) e1; simp [Oper.quietAt, Oper.quietUpon, go_sem, k0, k1, hltI, hlt]; first | done | rfl); go_big_quiet_on; simp only [Act.put, List.setIfInBounds_toArray, List.set_cons_zero, List.set_cons_succ]))
          refine wpQuiet_nil ?_; intro wr hC; have k0 := over_cell hC (World.block_lt_of_cell? _ _ e0) e0; have k1 := over_cell hC (World.block_lt_of_cell? _ _ e1) e1; go_wp2
          go_roundw
          case rel => exact ⟨0 + 1, by omega, by go_num, HOK.out, fun i hi => by omega, below_step hB hC⟩
          case measure => simp [intOf]; omega
        · obtain ⟨j, rfl⟩ : ∃ j, k = j + 1 := ⟨k - 1, by omega⟩
          obtain ⟨b', o', hbo, d2, d3⟩ := HCC.out j (by omega); obtain ⟨rfl, rfl⟩ : b = b' ∧ o = o' := by simpa using hbo
          clear hbo; obtain ⟨⟨s, t⟩, hs⟩ : ∃ q, l.getD j (0, 0) = q := ⟨_, rfl⟩; rw [hs] at d2 d3; have HS := Lib.hid hs; obtain ⟨r, hr⟩ : ∃ r, cmp2 s t x y = r := ⟨_, rfl⟩; have HR := Lib.hid hr; clear hs hr
          by_cases hneg : r < 0
          · have HUP : Hid (∀ i, i + 1 < j + 1 + 1 → upAt l i) := Lib.hid fun i hi => by
              by_cases e : i = j
              · unfold upAt; rw [e, HS.out, HX.out, HR.out]; exact hneg
              · exact HU.out i (by omega)
            have f0 := cell_keep hB (World.block_lt_of_cell? w _ d2) d2; have f1 := cell_keep hB (World.block_lt_of_cell? w _ d3) d3; clear d2 d3; have hwj : IntKind.i64.wrap (j : Int) = j := wrap64_in _ (by omega) (by omega); have hjI : (j : Int) < (n : Int) := by omega
            have hjN : j < n := by omega
            have hkJ : (j : Int) + 1 < (n : Int) := by omega
            have hkT : ((j : Int) + 1).toNat = j + 1 := by omega
            have hk0 : (0 : Int) ≤ (j : Int) + 1 := by omega
            go_wp2; refine wp_region_class (C := Over (wr)) (by kernel_rfl) (by kernel_rfl) (over_drew _) ?_
            repeat (first | go_big_quiet_skip | (go_big_quiet_want; go_big_quiet_op; go_big_quiet_on) | (go_big_quiet_want; go_big_quiet_op; apply Exists.intro; refine ⟨fun w' hC => ?_, ?_⟩; ((first | (go_at_call 72; refine (spok_t _ HP).mono ?_; rintro e w1 ⟨rfl, hb1⟩; exact ⟨rfl, over_step hC hb1⟩) | (go_at_call 73; refine (scmp_t _ HR).mono ?_; rintro e w1 ⟨rfl, hb1⟩; exact ⟨rfl, over_step hC hb1⟩))); go_big_quiet_on) | (go_big_quiet_want; apply Exists.intro; refine ⟨fun w' hC => ?_, ?_⟩; (have k0 := over_cell hC (World.block_lt_of_cell? _ _ e0) e0; have k1 := over_cell hC (World.block_lt_of_cell? _ _ e1) e1; have k2 := over_cell hC (World.block_lt_of_cell? _ _ f0) f0; have k3 := over_cell hC (World.block_lt_of_cell? _ _ f1) f1; simp [Oper.quietAt, Oper.quietUpon, go_sem, k0, k1, k2, k3, hltI, hlt, hwj, hjI, hjN, hkJ, hkT, hk0]; first | done | rfl); go_big_quiet_on; simp only [Act.put, List.setIfInBounds_toArray, List.set_cons_zero, List.set_cons_succ]))
            refine wpQuiet_nil ?_; intro wr hC; have k0 := over_cell hC (World.block_lt_of_cell? _ _ e0) e0; have k1 := over_cell hC (World.block_lt_of_cell? _ _ e1) e1; have k2 := over_cell hC (World.block_lt_of_cell? _ _ f0) f0; have k3 := over_cell hC (World.block_lt_of_cell? _ _ f1) f1; go_wp2
            go_roundw
            case rel => exact ⟨j + 1 + 1, by omega, by go_num, HOK.out, HUP.out, below_step hB hC⟩
            case measure => simp [intOf]; omega
          · have HF := Lib.hid (pfxB_up (by rw [← HN.out]; exact hlt) HS.out HX.out (by rw [HR.out]; exact hneg))
            have f0 := cell_keep hB (World.block_lt_of_cell? w _ d2) d2; have f1 := cell_keep hB (World.block_lt_of_cell? w _ d3) d3; clear d2 d3; have hwj : IntKind.i64.wrap (j : Int) = j := wrap64_in _ (by omega) (by omega); have hjI : (j : Int) < (n : Int) := by omega
            have hjN : j < n := by omega
            have hkJ : (j : Int) + 1 < (n : Int) := by omega
            have hkT : ((j : Int) + 1).toNat = j + 1 := by omega
            have hk0 : (0 : Int) ≤ (j : Int) + 1 := by omega
            go_wp2; refine wp_region_class (C := Over (wr)) (by kernel_rfl) (by kernel_rfl) (over_drew _) ?_
            repeat (first | go_big_quiet_skip | (go_big_quiet_want; go_big_quiet_op; go_big_quiet_on) | (go_big_quiet_want; go_big_quiet_op; apply Exists.intro; refine ⟨fun w' hC => ?_, ?_⟩; ((first | (go_at_call 72; refine (spok_t _ HP).mono ?_; rintro e w1 ⟨rfl, hb1⟩; exact ⟨rfl, over_step hC hb1⟩) | (go_at_call 73; refine (scmp_t _ HR).mono ?_; rintro e w1 ⟨rfl, hb1⟩; exact ⟨rfl, over_step hC hb1⟩))); go_big_quiet_on) | (go_big_quiet_want; apply Exists.intro; refine ⟨fun w' hC => ?_, ?_⟩; (have k0 := over_cell hC (World.block_lt_of_cell? _ _ e0) e0; have k1 := over_cell hC (World.block_lt_of_cell? _ _ e1) e1; have k2 := over_cell hC (World.block_lt_of_cell? _ _ f0) f0; have k3 := over_cell hC (World.block_lt_of_cell? _ _ f1) f1; simp [Oper.quietAt, Oper.quietUpon, go_sem, k0, k1, k2, k3, hltI, hlt, hwj, hjI, hjN, hkJ, hkT, hk0]; first | done | rfl); go_big_quiet_on; simp only [Act.put, List.setIfInBounds_toArray, List.set_cons_zero, List.set_cons_succ]))
            refine wpQuiet_nil ?_; intro wr hC; have k0 := over_cell hC (World.block_lt_of_cell? _ _ e0) e0; have k1 := over_cell hC (World.block_lt_of_cell? _ _ e1) e1; have k2 := over_cell hC (World.block_lt_of_cell? _ _ f0) f0; have k3 := over_cell hC (World.block_lt_of_cell? _ _ f1) f1; go_wp2
            go_ret
            exact ⟨ret_bool (by rw [HF.out, Bool.and_false]), below_step hB hC⟩
    · have hkn : k = n := by omega
      subst hkn; have HF := Lib.hid (pfxB_yes HN.out HO.out HU.out); clear hc; go_wp2
      all_goals
        go_ret
        exact ⟨ret_bool (by rw [HF.out, Bool.and_true]), hB⟩
/-- the library's comparison of two lists of prefixes -/
theorem slP_any (v u : Value) (l m : List (Int × Int)) (w : World) (h1 : RdP w v l) (h2 : RdP w u m) :
    Calls Tryz.prog 234 #[v, u] w fun e w' => e = .returned (.bool (decide (l = m))) ∧ Below w.heap.size w w' := by
  by_cases hlen : l.length = m.length
  · have hm1 := h1.1
    obtain ⟨a, c, rfl, hc⟩ := h1.el; obtain ⟨a', c', rfl, hc'⟩ := h2.el; obtain ⟨n, hn⟩ : ∃ n, n = l.length := ⟨_, rfl⟩; have hn' : n = m.length := hn.trans hlen; rw [← hn'] at hc' ⊢; rw [← hn] at hc hm1 ⊢; have HN := Lib.hid hn; have HN' := Lib.hid hn'; clear hn hn' hlen h1 h2
    go_enter Tryz.func234, Tryz.ntmps234
    go_wp2
    go_loopw [13] (fun i wr => ∃ k : Nat, k ≤ n ∧ i = .int .i64 k ∧ l.take k = m.take k ∧ Below w.heap.size w wr) (fun i _ => n - (intOf i).toNat)
    case atStart => exact ⟨0, Nat.zero_le _, rfl, rfl, Below.refl _ _⟩
    case round =>
      obtain ⟨k, hk, rfl, ht, hB⟩ := hrel; have HT := Lib.hid ht; clear ht
      by_cases hlt : k < n
      · have hltI : (k : Int) < (n : Int) := by omega
        obtain ⟨b, o, rfl, d0, d1⟩ := hc k hlt; obtain ⟨b', o', rfl, d0', d1'⟩ := hc' k hlt; have e0 := cell_keep hB (World.block_lt_of_cell? w _ d0) d0; have e1 := cell_keep hB (World.block_lt_of_cell? w _ d1) d1; have e2 := cell_keep hB (World.block_lt_of_cell? w _ d0') d0'; have e3 := cell_keep hB (World.block_lt_of_cell? w _ d1') d1'; obtain ⟨⟨x, y⟩, hx⟩ : ∃ q, l.getD k (0, 0) = q := ⟨_, rfl⟩; obtain ⟨⟨x', y'⟩, hx'⟩ : ∃ q, m.getD k (0, 0) = q := ⟨_, rfl⟩; rw [hx] at e0 e1; rw [hx'] at e2 e3; have HX := Lib.hid hx; have HY := Lib.hid hx'; clear hx hx' hc hc' d0 d1 d0' d1'
        by_cases hxy : x = x' ∧ y = y'
        · obtain ⟨rfl, rfl⟩ := hxy
          go_wp2
          go_region
          go_wp2
          go_roundw
          case rel => exact ⟨k + 1, by omega, by go_num, takeP_succ HT.out (by rw [← HN.out]; exact hlt) (by rw [← HN'.out]; exact hlt) (by rw [HX.out, HY.out]), hB.drew⟩
          case measure => simp [intOf]; omega
        · have hlm : decide (l = m) = false := by
            simp only [decide_eq_false_iff_not]; rintro rfl; have := HX.out.symm.trans HY.out; cases this
            exact hxy ⟨rfl, rfl⟩
          have HL := Lib.hid hlm; clear hlm
          by_cases hx : x = x'
          · have hy : ¬ y = y' := fun e => hxy ⟨hx, e⟩
            subst hx; clear hxy; go_wp2
            go_region
            go_wp2
            go_ret
            exact ⟨ret_bool HL.out.symm, hB.drew⟩
          · clear hxy
            go_wp2
            go_region
            go_wp2
            go_ret
            exact ⟨ret_bool HL.out.symm, hB.drew⟩
      · have hkn : k = n := by omega
        have hlm : decide (l = m) = true := by
          have h := HT.out; rw [hkn, List.take_of_length_le (by rw [HN.out]; exact Nat.le_refl _), List.take_of_length_le (by rw [HN'.out]; exact Nat.le_refl _)] at h
          simp [h]
        have HL := Lib.hid hlm; clear hlm hkn hc hc'; go_wp2
        go_ret
        exact ⟨ret_bool HL.out.symm, hB⟩
  · have hd : decide (l = m) = false := by
      simp only [decide_eq_false_iff_not]; rintro rfl
      exact hlen rfl
    rw [hd]; clear hd; obtain ⟨a, c, rfl⟩ := h1.len; obtain ⟨a', c', rfl⟩ := h2.len; have hne : ((l.length : Int) != (m.length : Int)) = true := by simp; omega
    clear h1 h2
    go_enter Tryz.func234, Tryz.ntmps234
    go_wp2
    go_ret
    exact ⟨rfl, Below.refl _ _⟩
end Go.Proofs.YtkodnipmogdgkabGreat
namespace Go.Proofs.YtkodnipmogdgkabGreat
open Go.ChangeShapes Go.WideShapes Go.ChangeAt Go.RowKit Go.BigFrame
set_option linter.unusedVariables false
set_option maxRecDepth 100000
set_option linter.unusedSimpArgs false

/-- the library's comparison of two lists of numbers -/
theorem slI_any (v u : Value) (l m : List Int) (w : World) (h1 : RdI w v l) (h2 : RdI w u m) :
    Calls Tryz.prog 185 #[v, u] w fun e w' => e = .returned (.bool (decide (l = m))) ∧ Below w.heap.size w w' := by
  by_cases hlen : l.length = m.length
  · have hm1 : l.length ≤ 9223372036854775807 := by have := h1.2.1; unfold maxLen at this; omega
    obtain ⟨a, c, rfl, hc⟩ := h1.el; obtain ⟨a', c', rfl, hc'⟩ := h2.el; obtain ⟨n, hn⟩ : ∃ n, n = l.length := ⟨_, rfl⟩; have hn' : n = m.length := hn.trans hlen; rw [← hn'] at hc' ⊢; rw [← hn] at hc hm1 ⊢; have HN := Lib.hid hn; have HN' := Lib.hid hn'; clear hn hn' hlen h1 h2
    go_enter Tryz.func185, Tryz.ntmps185
    go_wp2
    go_loopw [13] (fun i wr => ∃ k : Nat, k ≤ n ∧ i = .int .i64 k ∧ l.take k = m.take k ∧ Below w.heap.size w wr) (fun i _ => n - (intOf i).toNat)
    case atStart => exact ⟨0, Nat.zero_le _, rfl, rfl, Below.refl _ _⟩
    case round =>
      obtain ⟨k, hk, rfl, ht, hB⟩ := hrel; have HT := Lib.hid ht; clear ht
      by_cases hlt : k < n
      · have hltI : (k : Int) < (n : Int) := by omega
        obtain ⟨b, o, rfl, d0⟩ := hc k hlt; obtain ⟨b', o', rfl, d0'⟩ := hc' k hlt; have e0 := cell_keep hB (World.block_lt_of_cell? w _ d0) d0; have e2 := cell_keep hB (World.block_lt_of_cell? w _ d0') d0'; obtain ⟨x, hx⟩ : ∃ q, l.getD k 0 = q := ⟨_, rfl⟩; obtain ⟨x', hx'⟩ : ∃ q, m.getD k 0 = q := ⟨_, rfl⟩; rw [hx] at e0; rw [hx'] at e2; have HX := Lib.hid hx; have HY := Lib.hid hx'; clear hx hx' hc hc' d0 d0'
        by_cases hxy : x = x'
        · subst hxy
          go_wp2
          go_region
          go_wp2
          go_roundw
          case rel => exact ⟨k + 1, by omega, by go_num, take_eq_succ_I HT.out (by rw [← HN.out]; exact hlt) (by rw [← HN'.out]; exact hlt) (by rw [HX.out, HY.out]), hB.drew⟩
          case measure => simp [intOf]; omega
        · have hlm : decide (l = m) = false := by
            simp only [decide_eq_false_iff_not]; rintro rfl
            exact hxy (HX.out.symm.trans HY.out)
          have HL := Lib.hid hlm; have hne : (x != x') = true := by simp [hxy]
          clear hlm; go_wp2
          go_region
          go_wp2
          go_ret
          exact ⟨ret_bool HL.out.symm, hB.drew⟩
      · have hkn : k = n := by omega
        have hlm : decide (l = m) = true := by
          have h := HT.out; rw [hkn, List.take_of_length_le (by rw [HN.out]; exact Nat.le_refl _), List.take_of_length_le (by rw [HN'.out]; exact Nat.le_refl _)] at h
          simp [h]
        have HL := Lib.hid hlm; clear hlm hkn hc hc'; go_wp2
        go_ret
        exact ⟨ret_bool HL.out.symm, hB⟩
  · have hd : decide (l = m) = false := by
      simp only [decide_eq_false_iff_not]; rintro rfl
      exact hlen rfl
    rw [hd]; clear hd; obtain ⟨a, c, rfl⟩ := h1.len; obtain ⟨a', c', rfl⟩ := h2.len; have hne : ((l.length : Int) != (m.length : Int)) = true := by simp; omega
    clear h1 h2
    go_enter Tryz.func185, Tryz.ntmps185
    go_wp2
    go_ret
    exact ⟨rfl, Below.refl _ _⟩
theorem slI_t {v u : Value} {l m : List Int} {b : Bool} (w : World) (h1 : RdI w v l) (h2 : RdI w u m) (H : Hid (decide (l = m) = b)) :
    Calls Tryz.prog 185 #[v, u] w fun e w' => e = .returned (.bool b) ∧ Below w.heap.size w w' := H.out ▸ slI_any v u l m w h1 h2
theorem slP_t {v u : Value} {l m : List (Int × Int)} {b : Bool} (w : World) (h1 : RdP w v l) (h2 : RdP w u m) (H : Hid (decide (l = m) = b)) :
    Calls Tryz.prog 234 #[v, u] w fun e w' => e = .returned (.bool b) ∧ Below w.heap.size w w' := H.out ▸ slP_any v u l m w h1 h2
set_option maxHeartbeats 1000000 in
theorem isameA_any (pv mv pv2 mv2 : Value) (ps ms ps2 ms2 : List Int) (pr bw pr2 bw2 : Int) (w : World) (hp : RdI w pv ps) (hm : RdI w mv ms) (hp2 : RdI w pv2 ps2) (hm2 : RdI w mv2 ms2) :
    Calls Tryz.prog 150 #[.agg #[pv, .int .i64 pr, mv, .int .i64 bw], .agg #[pv2, .int .i64 pr2, mv2, .int .i64 bw2]] w fun e w' => e = .returned (.bool (decide (ps = ps2 ∧ pr = pr2 ∧ ms = ms2 ∧ bw = bw2))) ∧ Below w.heap.size w w' := by
  obtain ⟨bA, bB, B0, z⟩ := two w [pv, .int .i64 pr, mv, .int .i64 bw] [pv2, .int .i64 pr2, mv2, .int .i64 bw2] 93 93; replace hp := hp.keep B0; replace hm := hm.keep B0; replace hp2 := hp2.keep B0; replace hm2 := hm2.keep B0; clear z
  by_cases h0 : ps = ps2
  · subst h0
    by_cases h1 : pr = pr2
    · subst h1
      have e1 : (pr == pr) = true := by simp
      by_cases h2 : ms = ms2
      · subst h2
        by_cases h3 : bw = bw2
        · subst h3
          have e3 : (bw == bw) = true := by simp
          go_enter Tryz.func150, Tryz.ntmps150
          go_wp2_with fail; refine (slI_t (b := true) _ hp hp2 (Lib.hid (decide_eq_true rfl))).mono ?_; rintro e w1 ⟨rfl, hb⟩; replace bA := bA.keep hb; replace bB := bB.keep hb; replace hp := hp.keep hb; replace hm := hm.keep hb; replace hp2 := hp2.keep hb; replace hm2 := hm2.keep hb; replace B0 := below_step B0 hb; clear hb; have fa0 := bA.c 0 rfl; have fb0 := bB.c 0 rfl; have fa1 := bA.c 1 rfl; have fb1 := bB.c 1 rfl; have fa2 := bA.c 2 rfl; have fb2 := bB.c 2 rfl; have fa3 := bA.c 3 rfl; have fb3 := bB.c 3 rfl; go_wp2_with fail; clear fa0 fb0 fa1 fb1 fa2 fb2 fa3 fb3; refine (slI_t (b := true) _ hm hm2 (Lib.hid (decide_eq_true rfl))).mono ?_; rintro e w1 ⟨rfl, hb⟩; replace bA := bA.keep hb; replace bB := bB.keep hb; replace hp := hp.keep hb; replace hm := hm.keep hb; replace hp2 := hp2.keep hb; replace hm2 := hm2.keep hb; replace B0 := below_step B0 hb; clear hb; have fa0 := bA.c 0 rfl; have fb0 := bB.c 0 rfl; have fa1 := bA.c 1 rfl; have fb1 := bB.c 1 rfl; have fa2 := bA.c 2 rfl; have fb2 := bB.c 2 rfl; have fa3 := bA.c 3 rfl; have fb3 := bB.c 3 rfl; go_wp2_with fail
          go_ret
          exact ⟨ret_bool ((decide_eq_true (by simp)).symm), B0⟩
        · have e3 : (bw == bw2) = false := beq_eq_false_iff_ne.mpr h3
          have H3 := Lib.hid h3; clear h3
          go_enter Tryz.func150, Tryz.ntmps150
          go_wp2_with fail; refine (slI_t (b := true) _ hp hp2 (Lib.hid (decide_eq_true rfl))).mono ?_; rintro e w1 ⟨rfl, hb⟩; replace bA := bA.keep hb; replace bB := bB.keep hb; replace hp := hp.keep hb; replace hm := hm.keep hb; replace hp2 := hp2.keep hb; replace hm2 := hm2.keep hb; replace B0 := below_step B0 hb; clear hb; have fa0 := bA.c 0 rfl; have fb0 := bB.c 0 rfl; have fa1 := bA.c 1 rfl; have fb1 := bB.c 1 rfl; have fa2 := bA.c 2 rfl; have fb2 := bB.c 2 rfl; have fa3 := bA.c 3 rfl; have fb3 := bB.c 3 rfl; go_wp2_with fail; clear fa0 fb0 fa1 fb1 fa2 fb2 fa3 fb3; refine (slI_t (b := true) _ hm hm2 (Lib.hid (decide_eq_true rfl))).mono ?_; rintro e w1 ⟨rfl, hb⟩; replace bA := bA.keep hb; replace bB := bB.keep hb; replace hp := hp.keep hb; replace hm := hm.keep hb; replace hp2 := hp2.keep hb; replace hm2 := hm2.keep hb; replace B0 := below_step B0 hb; clear hb; have fa0 := bA.c 0 rfl; have fb0 := bB.c 0 rfl; have fa1 := bA.c 1 rfl; have fb1 := bB.c 1 rfl; have fa2 := bA.c 2 rfl; have fb2 := bB.c 2 rfl; have fa3 := bA.c 3 rfl; have fb3 := bB.c 3 rfl; go_wp2_with fail
          go_ret
          exact ⟨ret_bool ((decide_eq_false (fun g => H3.out g.2.2.2)).symm), B0⟩
      · have HM : Hid (decide (ms = ms2) = false) := Lib.hid (by simp [h2])
        have H2 := Lib.hid h2; clear h2
        go_enter Tryz.func150, Tryz.ntmps150
        go_wp2_with fail; refine (slI_t (b := true) _ hp hp2 (Lib.hid (decide_eq_true rfl))).mono ?_; rintro e w1 ⟨rfl, hb⟩; replace bA := bA.keep hb; replace bB := bB.keep hb; replace hp := hp.keep hb; replace hm := hm.keep hb; replace hp2 := hp2.keep hb; replace hm2 := hm2.keep hb; replace B0 := below_step B0 hb; clear hb; have fa0 := bA.c 0 rfl; have fb0 := bB.c 0 rfl; have fa1 := bA.c 1 rfl; have fb1 := bB.c 1 rfl; have fa2 := bA.c 2 rfl; have fb2 := bB.c 2 rfl; have fa3 := bA.c 3 rfl; have fb3 := bB.c 3 rfl; go_wp2_with fail; clear fa0 fb0 fa1 fb1 fa2 fb2 fa3 fb3; refine (slI_t _ hm hm2 HM).mono ?_; rintro e w1 ⟨rfl, hb⟩; replace bA := bA.keep hb; replace bB := bB.keep hb; replace hp := hp.keep hb; replace hm := hm.keep hb; replace hp2 := hp2.keep hb; replace hm2 := hm2.keep hb; replace B0 := below_step B0 hb; clear hb; have fa0 := bA.c 0 rfl; have fb0 := bB.c 0 rfl; have fa1 := bA.c 1 rfl; have fb1 := bB.c 1 rfl; have fa2 := bA.c 2 rfl; have fb2 := bB.c 2 rfl; have fa3 := bA.c 3 rfl; have fb3 := bB.c 3 rfl; go_wp2_with fail
        go_ret
        exact ⟨ret_bool ((decide_eq_false (fun g => H2.out g.2.2.1)).symm), B0⟩
    · have e1 : (pr == pr2) = false := beq_eq_false_iff_ne.mpr h1
      have H1 := Lib.hid h1; clear h1
      go_enter Tryz.func150, Tryz.ntmps150
      go_wp2_with fail; refine (slI_t (b := true) _ hp hp2 (Lib.hid (decide_eq_true rfl))).mono ?_; rintro e w1 ⟨rfl, hb⟩; replace bA := bA.keep hb; replace bB := bB.keep hb; replace hp := hp.keep hb; replace hm := hm.keep hb; replace hp2 := hp2.keep hb; replace hm2 := hm2.keep hb; replace B0 := below_step B0 hb; clear hb; have fa0 := bA.c 0 rfl; have fb0 := bB.c 0 rfl; have fa1 := bA.c 1 rfl; have fb1 := bB.c 1 rfl; have fa2 := bA.c 2 rfl; have fb2 := bB.c 2 rfl; have fa3 := bA.c 3 rfl; have fb3 := bB.c 3 rfl; go_wp2_with fail
      go_ret
      exact ⟨ret_bool ((decide_eq_false (fun g => H1.out g.2.1)).symm), B0⟩
  · have HP : Hid (decide (ps = ps2) = false) := Lib.hid (by simp [h0])
    have H0 := Lib.hid h0; clear h0
    go_enter Tryz.func150, Tryz.ntmps150
    go_wp2_with fail; refine (slI_t _ hp hp2 HP).mono ?_; rintro e w1 ⟨rfl, hb⟩; replace bA := bA.keep hb; replace bB := bB.keep hb; replace hp := hp.keep hb; replace hm := hm.keep hb; replace hp2 := hp2.keep hb; replace hm2 := hm2.keep hb; replace B0 := below_step B0 hb; clear hb; have fa0 := bA.c 0 rfl; have fb0 := bB.c 0 rfl; have fa1 := bA.c 1 rfl; have fb1 := bB.c 1 rfl; have fa2 := bA.c 2 rfl; have fb2 := bB.c 2 rfl; have fa3 := bA.c 3 rfl; have fb3 := bB.c 3 rfl; go_wp2_with fail
    go_ret
    exact ⟨ret_bool ((decide_eq_false (fun g => H0.out g.1)).symm), B0⟩
theorem isameA_t {pv mv pv2 mv2 : Value} {ps ms ps2 ms2 : List Int} {pr bw pr2 bw2 : Int} {b : Bool} (w : World) (hp : RdI w pv ps) (hm : RdI w mv ms) (hp2 : RdI w pv2 ps2) (hm2 : RdI w mv2 ms2) (H : Hid (decide (ps = ps2 ∧ pr = pr2 ∧ ms = ms2 ∧ bw = bw2) = b)) :
    Calls Tryz.prog 150 #[.agg #[pv, .int .i64 pr, mv, .int .i64 bw], .agg #[pv2, .int .i64 pr2, mv2, .int .i64 bw2]] w fun e w' => e = .returned (.bool b) ∧ Below w.heap.size w w' := H.out ▸ isameA_any pv mv pv2 mv2 ps ms ps2 ms2 pr bw pr2 bw2 w hp hm hp2 hm2
set_option maxHeartbeats 4000000 in
theorem isameM_any (gv cv pv mv gv2 cv2 pv2 mv2 : Value) (gs cs gs2 cs2 : List (Int × Int)) (ps ms ps2 ms2 : List Int) (kn sa ho ix pr bw er kn2 sa2 ho2 ix2 pr2 bw2 er2 : Int) (w : World) (hg : RdP w gv gs) (hc : RdP w cv cs) (hp : RdI w pv ps) (hm : RdI w mv ms)
    (hg2 : RdP w gv2 gs2) (hc2 : RdP w cv2 cs2) (hp2 : RdI w pv2 ps2) (hm2 : RdI w mv2 ms2) :
    Calls Tryz.prog 224 #[.agg #[.int .i64 kn, .int .i64 sa, .int .i64 ho, .int .i64 ix, gv, cv, pv, .int .i64 pr, mv, .int .i64 bw, .int .i64 er], .agg #[.int .i64 kn2, .int .i64 sa2, .int .i64 ho2, .int .i64 ix2, gv2, cv2, pv2, .int .i64 pr2, mv2, .int .i64 bw2, .int .i64 er2]] w fun e w' => e = .returned (.bool (decide (kn = kn2 ∧ sa = sa2 ∧ ho = ho2 ∧ ix = ix2 ∧ er = er2 ∧ gs = gs2 ∧ cs = cs2 ∧ ps = ps2 ∧ pr = pr2 ∧ ms = ms2 ∧ bw = bw2))) ∧ Below w.heap.size w w' := by
  obtain ⟨bA, bB, B0, z⟩ := two w [.int .i64 kn, .int .i64 sa, .int .i64 ho, .int .i64 ix, gv, cv, pv, .int .i64 pr, mv, .int .i64 bw, .int .i64 er] [.int .i64 kn2, .int .i64 sa2, .int .i64 ho2, .int .i64 ix2, gv2, cv2, pv2, .int .i64 pr2, mv2, .int .i64 bw2, .int .i64 er2] 102 102; replace hg := hg.keep B0; replace hc := hc.keep B0; replace hp := hp.keep B0; replace hm := hm.keep B0; replace hg2 := hg2.keep B0; replace hc2 := hc2.keep B0; replace hp2 := hp2.keep B0; replace hm2 := hm2.keep B0; clear z
  by_cases h0 : kn = kn2
  · subst h0
    have e0 : (kn == kn) = true := by simp
    by_cases h1 : sa = sa2
    · subst h1
      have e1 : (sa == sa) = true := by simp
      by_cases h2 : ho = ho2
      · subst h2
        have e2 : (ho == ho) = true := by simp
        by_cases h3 : ix = ix2
        · subst h3
          have e3 : (ix == ix) = true := by simp
          by_cases h4 : er = er2
          · subst h4
            have e4 : (er == er) = true := by simp
            by_cases h5 : gs = gs2
            · subst h5
              by_cases h6 : cs = cs2
              · subst h6
                by_cases h7 : ps = ps2 ∧ pr = pr2 ∧ ms = ms2 ∧ bw = bw2
                · have HA : Hid (decide (ps = ps2 ∧ pr = pr2 ∧ ms = ms2 ∧ bw = bw2) = true) := Lib.hid (decide_eq_true h7)
                  have H7 := Lib.hid h7; clear h7
                  go_enter Tryz.func224, Tryz.ntmps224
                  go_wp2_with fail; refine (slP_t (b := true) _ hg hg2 (Lib.hid (decide_eq_true rfl))).mono ?_; rintro e w1 ⟨rfl, hb⟩; replace bA := bA.keep hb; replace bB := bB.keep hb; replace hg := hg.keep hb; replace hc := hc.keep hb; replace hp := hp.keep hb; replace hm := hm.keep hb; replace hg2 := hg2.keep hb; replace hc2 := hc2.keep hb; replace hp2 := hp2.keep hb; replace hm2 := hm2.keep hb; replace B0 := below_step B0 hb; clear hb; have fa0 := bA.c 0 rfl; have fb0 := bB.c 0 rfl; have fa1 := bA.c 1 rfl; have fb1 := bB.c 1 rfl; have fa2 := bA.c 2 rfl; have fb2 := bB.c 2 rfl; have fa3 := bA.c 3 rfl; have fb3 := bB.c 3 rfl; have fa4 := bA.c 4 rfl; have fb4 := bB.c 4 rfl; have fa5 := bA.c 5 rfl; have fb5 := bB.c 5 rfl; have fa6 := bA.c 6 rfl; have fb6 := bB.c 6 rfl; have fa7 := bA.c 7 rfl; have fb7 := bB.c 7 rfl; have fa8 := bA.c 8 rfl; have fb8 := bB.c 8 rfl; have fa9 := bA.c 9 rfl; have fb9 := bB.c 9 rfl; have fa10 := bA.c 10 rfl; have fb10 := bB.c 10 rfl; go_wp2_with fail; clear fa0 fb0 fa1 fb1 fa2 fb2 fa3 fb3 fa4 fb4 fa5 fb5 fa6 fb6 fa7 fb7 fa8 fb8 fa9 fb9 fa10 fb10; refine (slP_t (b := true) _ hc hc2 (Lib.hid (decide_eq_true rfl))).mono ?_; rintro e w1 ⟨rfl, hb⟩; replace bA := bA.keep hb; replace bB := bB.keep hb; replace hg := hg.keep hb; replace hc := hc.keep hb; replace hp := hp.keep hb; replace hm := hm.keep hb; replace hg2 := hg2.keep hb; replace hc2 := hc2.keep hb; replace hp2 := hp2.keep hb; replace hm2 := hm2.keep hb; replace B0 := below_step B0 hb; clear hb; have fa0 := bA.c 0 rfl; have fb0 := bB.c 0 rfl; have fa1 := bA.c 1 rfl; have fb1 := bB.c 1 rfl; have fa2 := bA.c 2 rfl; have fb2 := bB.c 2 rfl; have fa3 := bA.c 3 rfl; have fb3 := bB.c 3 rfl; have fa4 := bA.c 4 rfl; have fb4 := bB.c 4 rfl; have fa5 := bA.c 5 rfl; have fb5 := bB.c 5 rfl; have fa6 := bA.c 6 rfl; have fb6 := bB.c 6 rfl; have fa7 := bA.c 7 rfl; have fb7 := bB.c 7 rfl; have fa8 := bA.c 8 rfl; have fb8 := bB.c 8 rfl; have fa9 := bA.c 9 rfl; have fb9 := bB.c 9 rfl; have fa10 := bA.c 10 rfl; have fb10 := bB.c 10 rfl; go_wp2_with fail; clear fa0 fb0 fa1 fb1 fa2 fb2 fa3 fb3 fa4 fb4 fa5 fb5 fa6 fb6 fa7 fb7 fa8 fb8 fa9 fb9 fa10 fb10; refine (isameA_t _ hp hm hp2 hm2 HA).mono ?_; rintro e w1 ⟨rfl, hb⟩; replace bA := bA.keep hb; replace bB := bB.keep hb; replace hg := hg.keep hb; replace hc := hc.keep hb; replace hp := hp.keep hb; replace hm := hm.keep hb; replace hg2 := hg2.keep hb; replace hc2 := hc2.keep hb; replace hp2 := hp2.keep hb; replace hm2 := hm2.keep hb; replace B0 := below_step B0 hb; clear hb; have fa0 := bA.c 0 rfl; have fb0 := bB.c 0 rfl; have fa1 := bA.c 1 rfl; have fb1 := bB.c 1 rfl; have fa2 := bA.c 2 rfl; have fb2 := bB.c 2 rfl; have fa3 := bA.c 3 rfl; have fb3 := bB.c 3 rfl; have fa4 := bA.c 4 rfl; have fb4 := bB.c 4 rfl; have fa5 := bA.c 5 rfl; have fb5 := bB.c 5 rfl; have fa6 := bA.c 6 rfl; have fb6 := bB.c 6 rfl; have fa7 := bA.c 7 rfl; have fb7 := bB.c 7 rfl; have fa8 := bA.c 8 rfl; have fb8 := bB.c 8 rfl; have fa9 := bA.c 9 rfl; have fb9 := bB.c 9 rfl; have fa10 := bA.c 10 rfl; have fb10 := bB.c 10 rfl; go_wp2_with fail
                  go_ret
                  exact ⟨ret_bool ((decide_eq_true (by have h := H7.out; simpa using h)).symm), B0⟩
                · have HA : Hid (decide (ps = ps2 ∧ pr = pr2 ∧ ms = ms2 ∧ bw = bw2) = false) := Lib.hid (decide_eq_false h7)
                  have H7 := Lib.hid h7; clear h7
                  go_enter Tryz.func224, Tryz.ntmps224
                  go_wp2_with fail; refine (slP_t (b := true) _ hg hg2 (Lib.hid (decide_eq_true rfl))).mono ?_; rintro e w1 ⟨rfl, hb⟩; replace bA := bA.keep hb; replace bB := bB.keep hb; replace hg := hg.keep hb; replace hc := hc.keep hb; replace hp := hp.keep hb; replace hm := hm.keep hb; replace hg2 := hg2.keep hb; replace hc2 := hc2.keep hb; replace hp2 := hp2.keep hb; replace hm2 := hm2.keep hb; replace B0 := below_step B0 hb; clear hb; have fa0 := bA.c 0 rfl; have fb0 := bB.c 0 rfl; have fa1 := bA.c 1 rfl; have fb1 := bB.c 1 rfl; have fa2 := bA.c 2 rfl; have fb2 := bB.c 2 rfl; have fa3 := bA.c 3 rfl; have fb3 := bB.c 3 rfl; have fa4 := bA.c 4 rfl; have fb4 := bB.c 4 rfl; have fa5 := bA.c 5 rfl; have fb5 := bB.c 5 rfl; have fa6 := bA.c 6 rfl; have fb6 := bB.c 6 rfl; have fa7 := bA.c 7 rfl; have fb7 := bB.c 7 rfl; have fa8 := bA.c 8 rfl; have fb8 := bB.c 8 rfl; have fa9 := bA.c 9 rfl; have fb9 := bB.c 9 rfl; have fa10 := bA.c 10 rfl; have fb10 := bB.c 10 rfl; go_wp2_with fail; clear fa0 fb0 fa1 fb1 fa2 fb2 fa3 fb3 fa4 fb4 fa5 fb5 fa6 fb6 fa7 fb7 fa8 fb8 fa9 fb9 fa10 fb10; refine (slP_t (b := true) _ hc hc2 (Lib.hid (decide_eq_true rfl))).mono ?_; rintro e w1 ⟨rfl, hb⟩; replace bA := bA.keep hb; replace bB := bB.keep hb; replace hg := hg.keep hb; replace hc := hc.keep hb; replace hp := hp.keep hb; replace hm := hm.keep hb; replace hg2 := hg2.keep hb; replace hc2 := hc2.keep hb; replace hp2 := hp2.keep hb; replace hm2 := hm2.keep hb; replace B0 := below_step B0 hb; clear hb; have fa0 := bA.c 0 rfl; have fb0 := bB.c 0 rfl; have fa1 := bA.c 1 rfl; have fb1 := bB.c 1 rfl; have fa2 := bA.c 2 rfl; have fb2 := bB.c 2 rfl; have fa3 := bA.c 3 rfl; have fb3 := bB.c 3 rfl; have fa4 := bA.c 4 rfl; have fb4 := bB.c 4 rfl; have fa5 := bA.c 5 rfl; have fb5 := bB.c 5 rfl; have fa6 := bA.c 6 rfl; have fb6 := bB.c 6 rfl; have fa7 := bA.c 7 rfl; have fb7 := bB.c 7 rfl; have fa8 := bA.c 8 rfl; have fb8 := bB.c 8 rfl; have fa9 := bA.c 9 rfl; have fb9 := bB.c 9 rfl; have fa10 := bA.c 10 rfl; have fb10 := bB.c 10 rfl; go_wp2_with fail; clear fa0 fb0 fa1 fb1 fa2 fb2 fa3 fb3 fa4 fb4 fa5 fb5 fa6 fb6 fa7 fb7 fa8 fb8 fa9 fb9 fa10 fb10; refine (isameA_t _ hp hm hp2 hm2 HA).mono ?_; rintro e w1 ⟨rfl, hb⟩; replace bA := bA.keep hb; replace bB := bB.keep hb; replace hg := hg.keep hb; replace hc := hc.keep hb; replace hp := hp.keep hb; replace hm := hm.keep hb; replace hg2 := hg2.keep hb; replace hc2 := hc2.keep hb; replace hp2 := hp2.keep hb; replace hm2 := hm2.keep hb; replace B0 := below_step B0 hb; clear hb; have fa0 := bA.c 0 rfl; have fb0 := bB.c 0 rfl; have fa1 := bA.c 1 rfl; have fb1 := bB.c 1 rfl; have fa2 := bA.c 2 rfl; have fb2 := bB.c 2 rfl; have fa3 := bA.c 3 rfl; have fb3 := bB.c 3 rfl; have fa4 := bA.c 4 rfl; have fb4 := bB.c 4 rfl; have fa5 := bA.c 5 rfl; have fb5 := bB.c 5 rfl; have fa6 := bA.c 6 rfl; have fb6 := bB.c 6 rfl; have fa7 := bA.c 7 rfl; have fb7 := bB.c 7 rfl; have fa8 := bA.c 8 rfl; have fb8 := bB.c 8 rfl; have fa9 := bA.c 9 rfl; have fb9 := bB.c 9 rfl; have fa10 := bA.c 10 rfl; have fb10 := bB.c 10 rfl; go_wp2_with fail
                  go_ret
                  exact ⟨ret_bool ((decide_eq_false (fun g => H7.out g.2.2.2.2.2.2.2)).symm), B0⟩
              · have HC : Hid (decide (cs = cs2) = false) := Lib.hid (by simp [h6])
                have H6 := Lib.hid h6; clear h6
                go_enter Tryz.func224, Tryz.ntmps224
                go_wp2_with fail; refine (slP_t (b := true) _ hg hg2 (Lib.hid (decide_eq_true rfl))).mono ?_; rintro e w1 ⟨rfl, hb⟩; replace bA := bA.keep hb; replace bB := bB.keep hb; replace hg := hg.keep hb; replace hc := hc.keep hb; replace hp := hp.keep hb; replace hm := hm.keep hb; replace hg2 := hg2.keep hb; replace hc2 := hc2.keep hb; replace hp2 := hp2.keep hb; replace hm2 := hm2.keep hb; replace B0 := below_step B0 hb; clear hb; have fa0 := bA.c 0 rfl; have fb0 := bB.c 0 rfl; have fa1 := bA.c 1 rfl; have fb1 := bB.c 1 rfl; have fa2 := bA.c 2 rfl; have fb2 := bB.c 2 rfl; have fa3 := bA.c 3 rfl; have fb3 := bB.c 3 rfl; have fa4 := bA.c 4 rfl; have fb4 := bB.c 4 rfl; have fa5 := bA.c 5 rfl; have fb5 := bB.c 5 rfl; have fa6 := bA.c 6 rfl; have fb6 := bB.c 6 rfl; have fa7 := bA.c 7 rfl; have fb7 := bB.c 7 rfl; have fa8 := bA.c 8 rfl; have fb8 := bB.c 8 rfl; have fa9 := bA.c 9 rfl; have fb9 := bB.c 9 rfl; have fa10 := bA.c 10 rfl; have fb10 := bB.c 10 rfl; go_wp2_with fail; clear fa0 fb0 fa1 fb1 fa2 fb2 fa3 fb3 fa4 fb4 fa5 fb5 fa6 fb6 fa7 fb7 fa8 fb8 fa9 fb9 fa10 fb10; refine (slP_t _ hc hc2 HC).mono ?_; rintro e w1 ⟨rfl, hb⟩; replace bA := bA.keep hb; replace bB := bB.keep hb; replace hg := hg.keep hb; replace hc := hc.keep hb; replace hp := hp.keep hb; replace hm := hm.keep hb; replace hg2 := hg2.keep hb; replace hc2 := hc2.keep hb; replace hp2 := hp2.keep hb; replace hm2 := hm2.keep hb; replace B0 := below_step B0 hb; clear hb; have fa0 := bA.c 0 rfl; have fb0 := bB.c 0 rfl; have fa1 := bA.c 1 rfl; have fb1 := bB.c 1 rfl; have fa2 := bA.c 2 rfl; have fb2 := bB.c 2 rfl; have fa3 := bA.c 3 rfl; have fb3 := bB.c 3 rfl; have fa4 := bA.c 4 rfl; have fb4 := bB.c 4 rfl; have fa5 := bA.c 5 rfl; have fb5 := bB.c 5 rfl; have fa6 := bA.c 6 rfl; have fb6 := bB.c 6 rfl; have fa7 := bA.c 7 rfl; have fb7 := bB.c 7 rfl; have fa8 := bA.c 8 rfl; have fb8 := bB.c 8 rfl; have fa9 := bA.c 9 rfl; have fb9 := bB.c 9 rfl; have fa10 := bA.c 10 rfl; have fb10 := bB.c 10 rfl; go_wp2_with fail
                go_ret
                exact ⟨ret_bool ((decide_eq_false (fun g => H6.out g.2.2.2.2.2.2.1)).symm), B0⟩
            · have HG : Hid (decide (gs = gs2) = false) := Lib.hid (by simp [h5])
              have H5 := Lib.hid h5; clear h5
              go_enter Tryz.func224, Tryz.ntmps224
              go_wp2_with fail; refine (slP_t _ hg hg2 HG).mono ?_; rintro e w1 ⟨rfl, hb⟩; replace bA := bA.keep hb; replace bB := bB.keep hb; replace hg := hg.keep hb; replace hc := hc.keep hb; replace hp := hp.keep hb; replace hm := hm.keep hb; replace hg2 := hg2.keep hb; replace hc2 := hc2.keep hb; replace hp2 := hp2.keep hb; replace hm2 := hm2.keep hb; replace B0 := below_step B0 hb; clear hb; have fa0 := bA.c 0 rfl; have fb0 := bB.c 0 rfl; have fa1 := bA.c 1 rfl; have fb1 := bB.c 1 rfl; have fa2 := bA.c 2 rfl; have fb2 := bB.c 2 rfl; have fa3 := bA.c 3 rfl; have fb3 := bB.c 3 rfl; have fa4 := bA.c 4 rfl; have fb4 := bB.c 4 rfl; have fa5 := bA.c 5 rfl; have fb5 := bB.c 5 rfl; have fa6 := bA.c 6 rfl; have fb6 := bB.c 6 rfl; have fa7 := bA.c 7 rfl; have fb7 := bB.c 7 rfl; have fa8 := bA.c 8 rfl; have fb8 := bB.c 8 rfl; have fa9 := bA.c 9 rfl; have fb9 := bB.c 9 rfl; have fa10 := bA.c 10 rfl; have fb10 := bB.c 10 rfl; go_wp2_with fail
              go_ret
              exact ⟨ret_bool ((decide_eq_false (fun g => H5.out g.2.2.2.2.2.1)).symm), B0⟩
          · have e4 : (er == er2) = false := beq_eq_false_iff_ne.mpr h4
            have H4 := Lib.hid h4; clear h4
            go_enter Tryz.func224, Tryz.ntmps224
            go_wp2_with fail
            go_ret
            exact ⟨ret_bool ((decide_eq_false (fun g => H4.out g.2.2.2.2.1)).symm), B0⟩
        · have e3 : (ix == ix2) = false := beq_eq_false_iff_ne.mpr h3
          have H3 := Lib.hid h3; clear h3
          go_enter Tryz.func224, Tryz.ntmps224
          go_wp2_with fail
          go_ret
          exact ⟨ret_bool ((decide_eq_false (fun g => H3.out g.2.2.2.1)).symm), B0⟩
      · have e2 : (ho == ho2) = false := beq_eq_false_iff_ne.mpr h2
        have H2 := Lib.hid h2; clear h2
        go_enter Tryz.func224, Tryz.ntmps224
        go_wp2_with fail
        go_ret
        exact ⟨ret_bool ((decide_eq_false (fun g => H2.out g.2.2.1)).symm), B0⟩
    · have e1 : (sa == sa2) = false := beq_eq_false_iff_ne.mpr h1
      have H1 := Lib.hid h1; clear h1
      go_enter Tryz.func224, Tryz.ntmps224
      go_wp2_with fail
      go_ret
      exact ⟨ret_bool ((decide_eq_false (fun g => H1.out g.2.1)).symm), B0⟩
  · have e0 : (kn == kn2) = false := beq_eq_false_iff_ne.mpr h0
    have H0 := Lib.hid h0; clear h0
    go_enter Tryz.func224, Tryz.ntmps224
    go_wp2_with fail
    go_ret
    exact ⟨ret_bool ((decide_eq_false (fun g => H0.out g.1)).symm), B0⟩
end Go.Proofs.YtkodnipmogdgkabGreat
