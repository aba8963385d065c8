/-
  Entries and tables: contracts of the tests that they are valid and of their order, of the program and of the model. Conditions: those in each contract.
  The prefixes of a table: contracts of the model's functions that list them. Conditions: those in each contract.
  The prefixes of a table: contracts of RibPrefixes of the program and of the model. Conditions: those in each contract.
  The library's slices.Compact at a slice of prefixes; the program's list of a table's prefixes. Conditions: those in each contract.
  Worlds of which only some blocks have turned. No condition beside those in each statement.
  A table's cells and rows are marked: what else lies in memory stays as it was. Conditions: those in each contract.
  A list of prefixes is marked, and its marks are found again. Conditions: those in each contract.
  Sets of blocks; rows of prefixes and of numbers in them; marks on them. Conditions: those in each contract.
  Switches: what an argument that is one reads as; contracts of the laws' own functions that size, copy and compare them. Conditions: those in each contract.
  Copies of switches, of the laws: where their blocks lie; comparison of switches. Conditions: those in each contract.
  Rows of entries that the call made and that grow: what they hold, append, copies of entries. Conditions: those in each statement.
  Copies of entries and of whole tables, of the program. Conditions: those in each contract.
  Copies of tables, of the program and of the model. Conditions: those in each contract.
  Copies of tables, of the model. Conditions: those in each contract.
  Tables without some of their entries, of the model. Conditions: those in each contract.
  The library's IndexFunc and DeleteFunc at rows of entries. Conditions: those in each contract.
  The library's IndexFunc and DeleteFunc at rows of entries, for the closure of RibDropPeer. Conditions: those in each contract.
  RibDropPeer of the program and of the model. Conditions: those in each contract.
  Marks on a table that was made by the call; they are found again. Conditions: those in each contract.
  Marks on a table that was made by the call, and how they are found again: contracts. Conditions: those in each contract.
  Words for the law on RibDropPeer. Conditions: those in each statement.
  Marks on switches: on a copy of an argument, on an answer; the latter are found again. Conditions: those in each contract.
-/
import Derived.Test.YtbcmoofpgffbhabGreatHPb
import Derived.Deep.CutRange
import Derived.Test.YtbcmoofpgffbhabGreatHPa
import Derived.Maps.AppendAt
import Derived.Deep.RegionHeld
import Derived.Deep.MidRow
namespace Go.Proofs.YtbcmoofpgffbhabGreat
open Go.ChangeShapes Go.WideShapes Go.ChangeAt Go.RowKit Go.BigFrame Go.Joins
open List (setIfInBounds_toArray set_cons_succ set_cons_zero)
set_option linter.unusedVariables false
set_option maxRecDepth 100000
set_option maxRecDepth 100000
set_option linter.unusedSimpArgs false
set_option maxRecDepth 100000

theorem within_7 {n : Int} {b : Bool} (w : World) (H : Hid (inB n (-1) 7 = b)) : Calls Tryz.prog 75 #[.int .i64 n, .int .i64 (-1), .int .i64 7] w fun e w' => e = .returned (.bool b) ∧ w = w' := within_t w H
/-- an entry is valid -/
def entB (a n pe : Int) (p : List Int) (pr : Int) (c : List Int) (bw : Int) : Bool := pokB a n && (inB pe (-1) 7 && aokB p pr c bw)
/-- the order of entries -/
def ecmp (a n pe b m qe : Int) : Int := orv (cmp2 a n b m) (cmp1 pe qe)
theorem snum6 (a b : Int) (w : World) : Calls Tryz.prog 196 #[.int .i64 a, .int .i64 b] w fun e w' => e = .returned (.int .i64 (cmp1 a b)) ∧ w = w' := by
 by_cases h1 : a < b
 ·rw [cmp1_lt h1]
  go_enter Tryz.func196, Tryz.ntmps196
  go_wp2
  go_ret
  exact ⟨rfl, rfl⟩
 ·by_cases h2 : b < a
  ·rw [cmp1_gt h2]
   go_enter Tryz.func196, Tryz.ntmps196
   go_wp2
   go_ret
   exact ⟨rfl, rfl⟩
  ·obtain rfl : a = b := by omega
   rw [cmp1_eq]; clear h1 h2; have h3 : ¬ a < a := by omega
   go_enter Tryz.func196, Tryz.ntmps196
   go_wp2
   go_ret
   exact ⟨rfl, rfl⟩
theorem sent_any (pv cv : Value) (p c : List Int) (a n pe pr bw : Int) (w : World) (hp : RdI w pv p) (hc : RdI w cv c) :
  Calls Tryz.prog 192 #[.agg #[.int .i64 a, .int .i64 n, .int .i64 pe, pv, .int .i64 pr, cv, .int .i64 bw]] w fun e w' => e = .returned (.bool (entB a n pe p pr c bw)) ∧ Below w.heap.size w w' := by
 obtain ⟨bA, B0, z⟩ := one w [.int .i64 a, .int .i64 n, .int .i64 pe, pv, .int .i64 pr, cv, .int .i64 bw] EI; replace hp := hp.keep B0; replace hc := hc.keep B0; clear z; unfold entB; cases hP : pokB a n
 ·rw [Bool.false_and]
  have HP := Lib.hid hP; clear hP
  go_enter Tryz.func192, Tryz.ntmps192
  go_wp2_with fail; refine (spok_t _ HP).mono ?_; rintro e w1 ⟨rfl, hb⟩; replace bA := bA.keep hb; replace hp := hp.keep hb; replace hc := hc.keep hb; replace B0 := below_step B0 hb; clear hb; have a1 := bA.c 1 rfl; have a2 := bA.c 2 rfl; have a3 := bA.c 3 rfl; have a4 := bA.c 4 rfl; have a5 := bA.c 5 rfl; have a6 := bA.c 6 rfl; go_wp2
  go_ret
  exact ⟨rfl, B0⟩
 ·rw [Bool.true_and]
  have HP := Lib.hid hP; clear hP; cases hI : inB pe (-1) 7
  ·rw [Bool.false_and]
   simp only [inB, decide_eq_false_iff_not] at hI
   by_cases h1 : -1 ≤ pe
   ·have h2 : ¬ pe < 8 := by omega
    clear hI
    go_enter Tryz.func192, Tryz.ntmps192
    go_wp2_with fail; refine (spok_t _ HP).mono ?_; rintro e w1 ⟨rfl, hb⟩; replace bA := bA.keep hb; replace hp := hp.keep hb; replace hc := hc.keep hb; replace B0 := below_step B0 hb; clear hb; have a1 := bA.c 1 rfl; have a2 := bA.c 2 rfl; have a3 := bA.c 3 rfl; have a4 := bA.c 4 rfl; have a5 := bA.c 5 rfl; have a6 := bA.c 6 rfl; go_wp2
    go_ret
    exact ⟨rfl, B0⟩
   ·clear hI
    go_enter Tryz.func192, Tryz.ntmps192
    go_wp2_with fail; refine (spok_t _ HP).mono ?_; rintro e w1 ⟨rfl, hb⟩; replace bA := bA.keep hb; replace hp := hp.keep hb; replace hc := hc.keep hb; replace B0 := below_step B0 hb; clear hb; have a1 := bA.c 1 rfl; have a2 := bA.c 2 rfl; have a3 := bA.c 3 rfl; have a4 := bA.c 4 rfl; have a5 := bA.c 5 rfl; have a6 := bA.c 6 rfl; go_wp2
    go_ret
    exact ⟨rfl, B0⟩
  ·rw [Bool.true_and]
   simp only [inB, decide_eq_true_eq] at hI; have h1 : -1 ≤ pe := hI.1; have h2 : pe < 8 := by omega
   clear hI; obtain ⟨r, hA⟩ : ∃ r, aokB p pr c bw = r := ⟨_, rfl⟩; rw [hA]; have HA := Lib.hid hA; clear hA
   go_enter Tryz.func192, Tryz.ntmps192
   go_wp2_with fail; refine (spok_t _ HP).mono ?_; rintro e w1 ⟨rfl, hb⟩; replace bA := bA.keep hb; replace hp := hp.keep hb; replace hc := hc.keep hb; replace B0 := below_step B0 hb; clear hb; have a1 := bA.c 1 rfl; have a2 := bA.c 2 rfl; have a3 := bA.c 3 rfl; have a4 := bA.c 4 rfl; have a5 := bA.c 5 rfl; have a6 := bA.c 6 rfl; go_wp2_with fail; refine (saok_t _ hp hc HA).mono ?_; rintro e w2 ⟨rfl, hb⟩; replace B0 := below_step B0 hb; clear hb; go_wp2
   go_ret
   exact ⟨rfl, B0⟩
theorem sent_t {pv cv : Value} {p c : List Int} {a n pe pr bw : Int} {b : Bool} (w : World) (hp : RdI w pv p) (hc : RdI w cv c) (H : Hid (entB a n pe p pr c bw = b)) :
  Calls Tryz.prog 192 #[.agg #[.int .i64 a, .int .i64 n, .int .i64 pe, pv, .int .i64 pr, cv, .int .i64 bw]] w fun e w' => e = .returned (.bool b) ∧ Below w.heap.size w w' := H.out ▸ sent_any pv cv p c a n pe pr bw w hp hc
theorem ient_any (pv cv : Value) (p c : List Int) (a n pe pr bw : Int) (w : World) (hp : RdI w pv p) (hc : RdI w cv c) :
  Calls Tryz.prog 199 #[.agg #[.int .i64 a, .int .i64 n, .int .i64 pe, pv, .int .i64 pr, cv, .int .i64 bw]] w fun e w' => e = .returned (.bool (entB a n pe p pr c bw)) ∧ Below w.heap.size w w' := by
 obtain ⟨bA, B0, z⟩ := one w [.int .i64 a, .int .i64 n, .int .i64 pe, pv, .int .i64 pr, cv, .int .i64 bw] EI; replace hp := hp.keep B0; replace hc := hc.keep B0; clear z; unfold entB; cases hP : pokB a n
 ·rw [Bool.false_and]
  have HP := Lib.hid hP; clear hP
  go_enter Tryz.func199, Tryz.ntmps199
  go_wp2_with fail; refine (ipok_t _ HP).mono ?_; rintro e w1 ⟨rfl, hb⟩; replace bA := bA.keep hb; replace hp := hp.keep hb; replace hc := hc.keep hb; replace B0 := below_step B0 hb; clear hb; have a1 := bA.c 1 rfl; have a2 := bA.c 2 rfl; have a3 := bA.c 3 rfl; have a4 := bA.c 4 rfl; have a5 := bA.c 5 rfl; have a6 := bA.c 6 rfl; go_wp2
  go_ret
  exact ⟨rfl, B0⟩
 ·rw [Bool.true_and]
  have HP := Lib.hid hP; clear hP; cases hI : inB pe (-1) 7
  ·rw [Bool.false_and]
   have HI := Lib.hid hI; clear hI
   go_enter Tryz.func199, Tryz.ntmps199
   go_wp2_with fail; refine (ipok_t _ HP).mono ?_; rintro e w1 ⟨rfl, hb⟩; replace bA := bA.keep hb; replace hp := hp.keep hb; replace hc := hc.keep hb; replace B0 := below_step B0 hb; clear hb; have a1 := bA.c 1 rfl; have a2 := bA.c 2 rfl; have a3 := bA.c 3 rfl; have a4 := bA.c 4 rfl; have a5 := bA.c 5 rfl; have a6 := bA.c 6 rfl; go_wp2_with fail; refine (within_7 _ HI).mono ?_; rintro e w2 ⟨rfl, rfl⟩; go_wp2
   go_ret
   exact ⟨rfl, B0⟩
  ·rw [Bool.true_and]
   have HI := Lib.hid hI; clear hI; obtain ⟨r, hA⟩ : ∃ r, aokB p pr c bw = r := ⟨_, rfl⟩; rw [hA]; have HA := Lib.hid hA; clear hA
   go_enter Tryz.func199, Tryz.ntmps199
   go_wp2_with fail; refine (ipok_t _ HP).mono ?_; rintro e w1 ⟨rfl, hb⟩; replace bA := bA.keep hb; replace hp := hp.keep hb; replace hc := hc.keep hb; replace B0 := below_step B0 hb; clear hb; have a1 := bA.c 1 rfl; have a2 := bA.c 2 rfl; have a3 := bA.c 3 rfl; have a4 := bA.c 4 rfl; have a5 := bA.c 5 rfl; have a6 := bA.c 6 rfl; go_wp2_with fail; refine (within_7 _ HI).mono ?_; rintro e w2 ⟨rfl, rfl⟩; go_wp2_with fail; refine (iaok_t _ hp hc HA).mono ?_; rintro e w2 ⟨rfl, hb⟩; replace B0 := below_step B0 hb; clear hb; go_wp2
   go_ret
   exact ⟨rfl, B0⟩
theorem ient_t {pv cv : Value} {p c : List Int} {a n pe pr bw : Int} {b : Bool} (w : World) (hp : RdI w pv p) (hc : RdI w cv c) (H : Hid (entB a n pe p pr c bw = b)) :
  Calls Tryz.prog 199 #[.agg #[.int .i64 a, .int .i64 n, .int .i64 pe, pv, .int .i64 pr, cv, .int .i64 bw]] w fun e w' => e = .returned (.bool b) ∧ Below w.heap.size w w' := H.out ▸ ient_any pv cv p c a n pe pr bw w hp hc
theorem scmp6_any (pv cv pv2 cv2 : Value) (a n pe pr bw b m qe pr2 bw2 : Int) (w : World) :
  Calls Tryz.prog 193 #[.agg #[.int .i64 a, .int .i64 n, .int .i64 pe, pv, .int .i64 pr, cv, .int .i64 bw], .agg #[.int .i64 b, .int .i64 m, .int .i64 qe, pv2, .int .i64 pr2, cv2, .int .i64 bw2]] w fun e w' => e = .returned (.int .i64 (ecmp a n pe b m qe)) ∧ Below w.heap.size w w' := by
 obtain ⟨bA, bB, B0, z⟩ := two w [.int .i64 a, .int .i64 n, .int .i64 pe, pv, .int .i64 pr, cv, .int .i64 bw] [.int .i64 b, .int .i64 m, .int .i64 qe, pv2, .int .i64 pr2, cv2, .int .i64 bw2] EI EI; clear z; unfold ecmp; obtain ⟨r, hr⟩ : ∃ r, cmp2 a n b m = r := ⟨_, rfl⟩; rw [hr]; have HR := Lib.hid hr; clear hr
 by_cases h0 : r = 0
 ·subst h0
  rw [show orv 0 (cmp1 pe qe) = cmp1 pe qe by simp [orv]]
  go_enter Tryz.func193, Tryz.ntmps193
  go_wp2_with fail; refine (scmp_t _ HR).mono ?_; rintro e w1 ⟨rfl, hb⟩; replace bA := bA.keep hb; replace bB := bB.keep hb; replace B0 := below_step B0 hb; clear hb; have a0 := bA.c 0 rfl; have a1 := bA.c 1 rfl; have a2 := bA.c 2 rfl; have b0 := bB.c 0 rfl; have b1 := bB.c 1 rfl; have b2 := bB.c 2 rfl; go_wp2_with fail; refine (snum6 pe qe _).mono ?_; rintro e w2 ⟨rfl, rfl⟩; go_wp2
  go_ret
  exact ⟨rfl, B0⟩
 ·rw [show orv r (cmp1 pe qe) = r by simp [orv, h0]]
  have hne : (r != 0) = true := by simp [h0]
  go_enter Tryz.func193, Tryz.ntmps193
  go_wp2_with fail; refine (scmp_t _ HR).mono ?_; rintro e w1 ⟨rfl, hb⟩; replace B0 := below_step B0 hb; clear hb; go_wp2
  go_ret
  exact ⟨rfl, B0⟩
theorem icmp6_any (pv cv pv2 cv2 : Value) (a n pe pr bw b m qe pr2 bw2 : Int) (w : World) (r : Int) (HP : Hid (pcmp a n b m = r)) :
  Calls Tryz.prog 200 #[.agg #[.int .i64 a, .int .i64 n, .int .i64 pe, pv, .int .i64 pr, cv, .int .i64 bw], .agg #[.int .i64 b, .int .i64 m, .int .i64 qe, pv2, .int .i64 pr2, cv2, .int .i64 bw2]] w fun e w' => e = .returned (.int .i64 (orv r (cmp1 pe qe))) ∧ Below w.heap.size w w' := by
 obtain ⟨bA, bB, B0, z⟩ := two w [.int .i64 a, .int .i64 n, .int .i64 pe, pv, .int .i64 pr, cv, .int .i64 bw] [.int .i64 b, .int .i64 m, .int .i64 qe, pv2, .int .i64 pr2, cv2, .int .i64 bw2] EI EI; clear z; obtain ⟨V, hV⟩ : ∃ V, V = ((w.alloc (.cells #[.int .i64 a, .int .i64 n, .int .i64 pe, pv, .int .i64 pr, cv, .int .i64 bw] EI)).alloc (.cells #[.int .i64 b, .int .i64 m, .int .i64 qe, pv2, .int .i64 pr2, cv2, .int .i64 bw2] EI)) := ⟨_, rfl⟩; rw [← hV] at bA bB B0
 go_enter Tryz.func200, Tryz.ntmps200
 go_wp2_with fail; rw [← hV]; clear hV; have k0 := bA.c 0 rfl; have m0 := bB.c 0 rfl; have k1 := bA.c 1 rfl; have m1 := bB.c 1 rfl; have k2 := bA.c 2 rfl; have m2 := bB.c 2 rfl; have lA := bA.lt; have lB := bB.lt
 go_region_held3 (fun w' => Over V w' ∧ w'.cell? ⟨w.heap.size, 0, none⟩ = some (.int .i64 a) ∧ w'.cell? ⟨w.heap.size, 1, none⟩ = some (.int .i64 n) ∧ w'.cell? ⟨w.heap.size, 2, none⟩ = some (.int .i64 pe) ∧ w'.cell? ⟨w.heap.size + 1, 0, none⟩ = some (.int .i64 b) ∧ w'.cell? ⟨w.heap.size + 1, 1, none⟩ = some (.int .i64 m) ∧ w'.cell? ⟨w.heap.size + 1, 2, none⟩ = some (.int .i64 qe))
  ((first | assumption | exact ⟨over_drew _, k0, k1, k2, m0, m1, m2⟩ | exact (fun o => ⟨o, over_cell o lA k0, over_cell o lA k1, over_cell o lA k2, over_cell o lB m0, over_cell o lB m1, over_cell o lB m2⟩) (over_step (by assumption : Over V _ ∧ _).1 (by assumption)) | exact (fun o => ⟨o, over_cell o lA k0, over_cell o lA k1, over_cell o lA k2, over_cell o lB m0, over_cell o lB m1, over_cell o lB m2⟩) (over_step (by assumption : Over V _ ∧ _).1 ((Below.refl _ _).alloc (Nat.le_refl _) _))))
  ((first | (go_at_call 210; refine (icmp_t _ HP).mono ?_; rintro e w3 ⟨rfl, hb3⟩) | (go_at_call 242; refine (compare_any pe qe _).mono ?_; rintro e w4 ⟨rfl, rfl⟩) | (go_at_call 241; refine (or_any r (cmp1 pe qe) _ _ (by simp) (by simp)).mono ?_; rintro e w5 ⟨rfl, rfl⟩)))
 rename_i hH
 replace B0 := below_step B0 hH.1; go_wp2
 go_ret
 exact ⟨rfl, B0⟩
theorem scmp6_t {pv cv pv2 cv2 : Value} {a n pe pr bw b m qe pr2 bw2 r : Int} (w : World) (H : Hid (ecmp a n pe b m qe = r)) :
  Calls Tryz.prog 193 #[.agg #[.int .i64 a, .int .i64 n, .int .i64 pe, pv, .int .i64 pr, cv, .int .i64 bw], .agg #[.int .i64 b, .int .i64 m, .int .i64 qe, pv2, .int .i64 pr2, cv2, .int .i64 bw2]] w fun e w' => e = .returned (.int .i64 r) ∧ Below w.heap.size w w' := H.out ▸ scmp6_any pv cv pv2 cv2 a n pe pr bw b m qe pr2 bw2 w
theorem icmp6_t {pv cv pv2 cv2 : Value} {a n pe pr bw b m qe pr2 bw2 r : Int} (w : World) (H : Hid (pcmp a n b m = cmp2 a n b m ∧ ecmp a n pe b m qe = r)) :
  Calls Tryz.prog 200 #[.agg #[.int .i64 a, .int .i64 n, .int .i64 pe, pv, .int .i64 pr, cv, .int .i64 bw], .agg #[.int .i64 b, .int .i64 m, .int .i64 qe, pv2, .int .i64 pr2, cv2, .int .i64 bw2]] w fun e w' => e = .returned (.int .i64 r) ∧ Below w.heap.size w w' := by
 have h := icmp6_any pv cv pv2 cv2 a n pe pr bw b m qe pr2 bw2 w (cmp2 a n b m) (Lib.hid H.out.1); have e := H.out.2; unfold ecmp at e; rw [e] at h
 exact h
/-- entry i is valid -/
def okE (L : List Ent) (i : Nat) : Prop := entB (L.getD i e0).a (L.getD i e0).n (L.getD i e0).pe (L.getD i e0).p (L.getD i e0).pr (L.getD i e0).c (L.getD i e0).bw = true
/-- it lies ahead of the next one -/
def upE (L : List Ent) (i : Nat) : Prop := ecmp (L.getD i e0).a (L.getD i e0).n (L.getD i e0).pe (L.getD (i + 1) e0).a (L.getD (i + 1) e0).n (L.getD (i + 1) e0).pe < 0
instance (L : List Ent) (i : Nat) : Decidable (okE L i) := by unfold okE; infer_instance
instance (L : List Ent) (i : Nat) : Decidable (upE L i) := by unfold upE; infer_instance
def tabB (L : List Ent) : Bool := decide ((∀ i, i < L.length → okE L i) ∧ ∀ i, i < L.length - 1 → upE L i)
/-- a table is valid -/
def ribB (L : List Ent) : Bool := decide ((L.length : Int) ≤ 60) && tabB L
theorem tabB_yes {L : List Ent} {n : Nat} (hn : n = L.length) (h : ∀ i, i < n → okE L i) (h2 : ∀ i, i + 1 < n → upE L i) : tabB L = true := by
 subst hn; simp only [tabB, decide_eq_true_eq]
 exact ⟨h, fun i hi => h2 i (by omega)⟩
theorem tabB_ok {L : List Ent} {k : Nat} {E : Ent} (hk : k < L.length) (hx : L.getD k e0 = E) (h : entB E.a E.n E.pe E.p E.pr E.c E.bw = false) : tabB L = false := by
 simp only [tabB, decide_eq_false_iff_not]; rintro ⟨h1, -⟩; have := h1 k hk; unfold okE at this; rw [hx] at this; rw [this] at h; cases h
theorem tabB_up {L : List Ent} {k : Nat} {F E : Ent} (hk : k + 1 < L.length) (ha : L.getD k e0 = F) (hx : L.getD (k + 1) e0 = E) (h : ¬ ecmp F.a F.n F.pe E.a E.n E.pe < 0) : tabB L = false := by
 simp only [tabB, decide_eq_false_iff_not]; rintro ⟨-, h1⟩; have := h1 k (by omega); unfold upE at this; rw [ha, hx] at this
 exact h this
theorem entB_p {a n pe pr bw : Int} {p c : List Int} (h : entB a n pe p pr c bw = true) : pokB a n = true := by
 unfold entB at h; simp only [Bool.and_eq_true] at h
 exact h.1
set_option maxHeartbeats 1000000 in
theorem srib_any (v : Value) (L : List Ent) (w : World) (h : RdE w v L) :
  Calls Tryz.prog 114 #[.agg #[v]] w fun e w' => e = .returned (.bool (ribB L)) ∧ Below w.heap.size w w' := by
 unfold ribB; have hm := h.1; obtain ⟨a, c, rfl, hc⟩ := h.el; obtain ⟨n, hn⟩ : ∃ n, n = L.length := ⟨_, rfl⟩; rw [← hn] at hc hm ⊢; have HN := Lib.hid hn; clear h hn; obtain ⟨bR, B0, z⟩ := one w [.slice a n c] 33; clear z
 by_cases hbig : (n : Int) ≤ 60
 ·rw [show decide ((n : Int) ≤ 60) = true by simp [hbig]]
  have hbig2 : ¬ (60 : Int) < (n : Int) := by omega
  obtain ⟨W1, hW⟩ : ∃ W1, W1 = w.alloc (.cells #[.slice a n c] 33) := ⟨_, rfl⟩; obtain ⟨R, hR⟩ : ∃ R, R = w.heap.size := ⟨_, rfl⟩; have hW2 := hW
  go_enter Tryz.func114, Tryz.ntmps114
  go_wp2; rw [← hW2]
  try simp only [← hR]
  rw [← hR] at bR; rw [← hW2] at bR B0; clear hW hW2 hR
  go_loopw [3] (fun q wr => ∃ k : Nat, k ≤ n ∧ q = .int .i64 k ∧ (∀ i, i < k → okE L i) ∧ (∀ i, i + 1 < k → upE L i) ∧ Over W1 wr) (fun q _ => n - (intOf q).toNat)
  case atStart => exact ⟨0, Nat.zero_le _, rfl, fun i hi => by omega, fun i hi => by omega, over_refl _⟩
  case round =>
   obtain ⟨k, hk, rfl, hok, hup, hB⟩ := hrel; have HO := Lib.hid hok; have HU := Lib.hid hup; clear hok hup; replace bR := bR.keep hB; have r0 := bR.c 0 rfl
   by_cases hlt : k < n
   ·have hltI : (k : Int) < (n : Int) := by omega
    obtain ⟨b, o, rfl, hE⟩ := hc k hlt; obtain ⟨E, hx⟩ : ∃ E, L.getD k e0 = E := ⟨_, rfl⟩; rw [hx] at hE; obtain ⟨pv, cv, hp, hq, g0, g1, g2, g3, g4, g5, g6⟩ := hE.keep (below_step B0 hB); have HX := Lib.hid hx; have HCC := Lib.hid hc; clear hx hc hE; cases hpk : entB E.a E.n E.pe E.p E.pr E.c E.bw
    ·have HP := Lib.hid hpk
     have HF := Lib.hid (tabB_ok (by rw [← HN.out]; exact hlt) HX.out hpk); clear hpk; go_wp2; refine wp_region_class (C := Over (wr)) (by kernel_rfl) (by kernel_rfl) (over_drew _) ?_
     repeat (first | go_big_quiet_skip | (go_big_quiet_want; go_big_quiet_op; go_big_quiet_on) | (go_big_quiet_want; go_big_quiet_op; apply Exists.intro; refine ⟨fun w' hC => ?_, ?_⟩; ((first | (go_at_call 192; refine (sent_t _ (rdI_over hp hC) (rdI_over hq hC) HP).mono ?_; rintro e w1 ⟨rfl, hb1⟩; exact ⟨rfl, over_step hC hb1⟩))); go_big_quiet_on) | (go_big_quiet_want; apply Exists.intro; refine ⟨fun w' hC => ?_, ?_⟩; (have k0 := over_cell hC bR.lt (bR.c 0 rfl); have k1 := over_cell hC (World.block_lt_of_cell? _ _ g0) g0; have k2 := over_cell hC (World.block_lt_of_cell? _ _ g1) g1; have k3 := over_cell hC (World.block_lt_of_cell? _ _ g2) g2; have k4 := over_cell hC (World.block_lt_of_cell? _ _ g3) g3; have k5 := over_cell hC (World.block_lt_of_cell? _ _ g4) g4; have k6 := over_cell hC (World.block_lt_of_cell? _ _ g5) g5; have k7 := over_cell hC (World.block_lt_of_cell? _ _ g6) g6; simp [Oper.quietAt, Oper.quietUpon, go_sem, k0, k1, k2, k3, k4, k5, k6, k7, hltI, hlt]; first | done | rfl); go_big_quiet_on; simp only [Act.put, setIfInBounds_toArray, set_cons_succ, set_cons_zero]))
     refine wpQuiet_nil ?_; intro ws hC; have k0 := over_cell hC bR.lt (bR.c 0 rfl); have k1 := over_cell hC (World.block_lt_of_cell? _ _ g0) g0; have k2 := over_cell hC (World.block_lt_of_cell? _ _ g1) g1; have k3 := over_cell hC (World.block_lt_of_cell? _ _ g2) g2; have k4 := over_cell hC (World.block_lt_of_cell? _ _ g3) g3; have k5 := over_cell hC (World.block_lt_of_cell? _ _ g4) g4; have k6 := over_cell hC (World.block_lt_of_cell? _ _ g5) g5; have k7 := over_cell hC (World.block_lt_of_cell? _ _ g6) g6; go_wp2
     go_ret
     exact ⟨ret_bool (by first | rw [HF.out, Bool.and_false] | rw [HF.out] | simp [HF.out]), below_step B0 (over_step hB hC)⟩
    ·have HP := Lib.hid hpk
     have HOK : Hid (∀ i, i < k + 1 → okE L i) := Lib.hid fun i hi => by
      by_cases e : i = k
      ·unfold okE; rw [e, HX.out]; exact hpk
      ·exact HO.out i (by omega)
     clear hpk
     rcases Nat.eq_zero_or_pos k with rfl | hpos
     ·simp only [Nat.zero_mul, Nat.add_zero] at g0 g1 g2 g3 g4 g5 g6
      go_wp2; refine wp_region_class (C := Over (wr)) (by kernel_rfl) (by kernel_rfl) (over_drew _) ?_
      repeat (first | go_big_quiet_skip | (go_big_quiet_want; go_big_quiet_op; go_big_quiet_on) | (go_big_quiet_want; go_big_quiet_op; apply Exists.intro; refine ⟨fun w' hC => ?_, ?_⟩; ((first | (go_at_call 192; refine (sent_t _ (rdI_over hp hC) (rdI_over hq hC) HP).mono ?_; rintro e w1 ⟨rfl, hb1⟩; exact ⟨rfl, over_step hC hb1⟩))); go_big_quiet_on) | (go_big_quiet_want; apply Exists.intro; refine ⟨fun w' hC => ?_, ?_⟩; (have k0 := over_cell hC bR.lt (bR.c 0 rfl); have k1 := over_cell hC (World.block_lt_of_cell? _ _ g0) g0; have k2 := over_cell hC (World.block_lt_of_cell? _ _ g1) g1; have k3 := over_cell hC (World.block_lt_of_cell? _ _ g2) g2; have k4 := over_cell hC (World.block_lt_of_cell? _ _ g3) g3; have k5 := over_cell hC (World.block_lt_of_cell? _ _ g4) g4; have k6 := over_cell hC (World.block_lt_of_cell? _ _ g5) g5; have k7 := over_cell hC (World.block_lt_of_cell? _ _ g6) g6; simp [Oper.quietAt, Oper.quietUpon, go_sem, k0, k1, k2, k3, k4, k5, k6, k7, hltI, hlt]; first | done | rfl); go_big_quiet_on; simp only [Act.put, setIfInBounds_toArray, set_cons_succ, set_cons_zero]))
      refine wpQuiet_nil ?_; intro ws hC; have k0 := over_cell hC bR.lt (bR.c 0 rfl); have k1 := over_cell hC (World.block_lt_of_cell? _ _ g0) g0; have k2 := over_cell hC (World.block_lt_of_cell? _ _ g1) g1; have k3 := over_cell hC (World.block_lt_of_cell? _ _ g2) g2; have k4 := over_cell hC (World.block_lt_of_cell? _ _ g3) g3; have k5 := over_cell hC (World.block_lt_of_cell? _ _ g4) g4; have k6 := over_cell hC (World.block_lt_of_cell? _ _ g5) g5; have k7 := over_cell hC (World.block_lt_of_cell? _ _ g6) g6; go_wp2
      go_roundw
      case rel => exact ⟨0 + 1, by omega, by go_num, HOK.out, fun i hi => by omega, over_step hB hC⟩
      case measure => simp [intOf]; omega
     ·obtain ⟨j, rfl⟩ : ∃ j, k = j + 1 := ⟨k - 1, by omega⟩
      obtain ⟨b', o', hbo, hE'⟩ := HCC.out j (by omega); obtain ⟨rfl, rfl⟩ : b = b' ∧ o = o' := by simpa using hbo
      clear hbo; obtain ⟨F, hs⟩ : ∃ F, L.getD j e0 = F := ⟨_, rfl⟩; rw [hs] at hE'; obtain ⟨pu, cu, -, -, m0, m1, m2, m3, m4, m5, m6⟩ := hE'.keep (below_step B0 hB); have HS := Lib.hid hs; clear hE'; obtain ⟨r, hr⟩ : ∃ r, ecmp F.a F.n F.pe E.a E.n E.pe = r := ⟨_, rfl⟩; have HR := Lib.hid hr; clear hs hr
      by_cases hneg : r < 0
      ·have HUP : Hid (∀ i, i + 1 < j + 1 + 1 → upE L i) := Lib.hid fun i hi => by
        by_cases e : i = j
        ·unfold upE; rw [e, HS.out, HX.out, HR.out]; exact hneg
        ·exact HU.out i (by omega)
       have hwj : IntKind.i64.wrap (j : Int) = j := wrap64_in _ (by omega) (by omega); have hjI : (j : Int) < (n : Int) := by omega
       have hjN : j < n := by omega
       have hkJ : (j : Int) + 1 < (n : Int) := by omega
       have hkT : ((j : Int) + 1).toNat = j + 1 := by omega
       have hk0 : (0 : Int) ≤ (j : Int) + 1 := by omega
       go_wp2; refine wp_region_class (C := Over (wr)) (by kernel_rfl) (by kernel_rfl) (over_drew _) ?_
       repeat (first | go_big_quiet_skip | (go_big_quiet_want; go_big_quiet_op; go_big_quiet_on) | (go_big_quiet_want; go_big_quiet_op; apply Exists.intro; refine ⟨fun w' hC => ?_, ?_⟩; ((first | (go_at_call 192; refine (sent_t _ (rdI_over hp hC) (rdI_over hq hC) HP).mono ?_; rintro e w1 ⟨rfl, hb1⟩; exact ⟨rfl, over_step hC hb1⟩) | (go_at_call 193; refine (scmp6_t _ HR).mono ?_; rintro e w1 ⟨rfl, hb1⟩; exact ⟨rfl, over_step hC hb1⟩))); go_big_quiet_on) | (go_big_quiet_want; apply Exists.intro; refine ⟨fun w' hC => ?_, ?_⟩; (have k0 := over_cell hC bR.lt (bR.c 0 rfl); have k1 := over_cell hC (World.block_lt_of_cell? _ _ g0) g0; have k2 := over_cell hC (World.block_lt_of_cell? _ _ g1) g1; have k3 := over_cell hC (World.block_lt_of_cell? _ _ g2) g2; have k4 := over_cell hC (World.block_lt_of_cell? _ _ g3) g3; have k5 := over_cell hC (World.block_lt_of_cell? _ _ g4) g4; have k6 := over_cell hC (World.block_lt_of_cell? _ _ g5) g5; have k7 := over_cell hC (World.block_lt_of_cell? _ _ g6) g6; have k8 := over_cell hC (World.block_lt_of_cell? _ _ m0) m0; have k9 := over_cell hC (World.block_lt_of_cell? _ _ m1) m1; have k10 := over_cell hC (World.block_lt_of_cell? _ _ m2) m2; have k11 := over_cell hC (World.block_lt_of_cell? _ _ m3) m3; have k12 := over_cell hC (World.block_lt_of_cell? _ _ m4) m4; have k13 := over_cell hC (World.block_lt_of_cell? _ _ m5) m5; have k14 := over_cell hC (World.block_lt_of_cell? _ _ m6) m6; simp [Oper.quietAt, Oper.quietUpon, go_sem, k0, k1, k2, k3, k4, k5, k6, k7, k8, k9, k10, k11, k12, k13, k14, hltI, hlt, hwj, hjI, hjN, hkJ, hkT, hk0]; first | done | rfl); go_big_quiet_on; simp only [Act.put, setIfInBounds_toArray, set_cons_succ, set_cons_zero]))
       refine wpQuiet_nil ?_; intro ws hC; have k0 := over_cell hC bR.lt (bR.c 0 rfl); have k1 := over_cell hC (World.block_lt_of_cell? _ _ g0) g0; have k2 := over_cell hC (World.block_lt_of_cell? _ _ g1) g1; have k3 := over_cell hC (World.block_lt_of_cell? _ _ g2) g2; have k4 := over_cell hC (World.block_lt_of_cell? _ _ g3) g3; have k5 := over_cell hC (World.block_lt_of_cell? _ _ g4) g4; have k6 := over_cell hC (World.block_lt_of_cell? _ _ g5) g5; have k7 := over_cell hC (World.block_lt_of_cell? _ _ g6) g6; have k8 := over_cell hC (World.block_lt_of_cell? _ _ m0) m0; have k9 := over_cell hC (World.block_lt_of_cell? _ _ m1) m1; have k10 := over_cell hC (World.block_lt_of_cell? _ _ m2) m2; have k11 := over_cell hC (World.block_lt_of_cell? _ _ m3) m3; have k12 := over_cell hC (World.block_lt_of_cell? _ _ m4) m4; have k13 := over_cell hC (World.block_lt_of_cell? _ _ m5) m5; have k14 := over_cell hC (World.block_lt_of_cell? _ _ m6) m6; go_wp2
       go_roundw
       case rel => exact ⟨j + 1 + 1, by omega, by go_num, HOK.out, HUP.out, over_step hB hC⟩
       case measure => simp [intOf]; omega
      ·have HF := Lib.hid (tabB_up (by rw [← HN.out]; exact hlt) HS.out HX.out (by rw [HR.out]; exact hneg))
       have hwj : IntKind.i64.wrap (j : Int) = j := wrap64_in _ (by omega) (by omega); have hjI : (j : Int) < (n : Int) := by omega
       have hjN : j < n := by omega
       have hkJ : (j : Int) + 1 < (n : Int) := by omega
       have hkT : ((j : Int) + 1).toNat = j + 1 := by omega
       have hk0 : (0 : Int) ≤ (j : Int) + 1 := by omega
       go_wp2; refine wp_region_class (C := Over (wr)) (by kernel_rfl) (by kernel_rfl) (over_drew _) ?_
       repeat (first | go_big_quiet_skip | (go_big_quiet_want; go_big_quiet_op; go_big_quiet_on) | (go_big_quiet_want; go_big_quiet_op; apply Exists.intro; refine ⟨fun w' hC => ?_, ?_⟩; ((first | (go_at_call 192; refine (sent_t _ (rdI_over hp hC) (rdI_over hq hC) HP).mono ?_; rintro e w1 ⟨rfl, hb1⟩; exact ⟨rfl, over_step hC hb1⟩) | (go_at_call 193; refine (scmp6_t _ HR).mono ?_; rintro e w1 ⟨rfl, hb1⟩; exact ⟨rfl, over_step hC hb1⟩))); go_big_quiet_on) | (go_big_quiet_want; apply Exists.intro; refine ⟨fun w' hC => ?_, ?_⟩; (have k0 := over_cell hC bR.lt (bR.c 0 rfl); have k1 := over_cell hC (World.block_lt_of_cell? _ _ g0) g0; have k2 := over_cell hC (World.block_lt_of_cell? _ _ g1) g1; have k3 := over_cell hC (World.block_lt_of_cell? _ _ g2) g2; have k4 := over_cell hC (World.block_lt_of_cell? _ _ g3) g3; have k5 := over_cell hC (World.block_lt_of_cell? _ _ g4) g4; have k6 := over_cell hC (World.block_lt_of_cell? _ _ g5) g5; have k7 := over_cell hC (World.block_lt_of_cell? _ _ g6) g6; have k8 := over_cell hC (World.block_lt_of_cell? _ _ m0) m0; have k9 := over_cell hC (World.block_lt_of_cell? _ _ m1) m1; have k10 := over_cell hC (World.block_lt_of_cell? _ _ m2) m2; have k11 := over_cell hC (World.block_lt_of_cell? _ _ m3) m3; have k12 := over_cell hC (World.block_lt_of_cell? _ _ m4) m4; have k13 := over_cell hC (World.block_lt_of_cell? _ _ m5) m5; have k14 := over_cell hC (World.block_lt_of_cell? _ _ m6) m6; simp [Oper.quietAt, Oper.quietUpon, go_sem, k0, k1, k2, k3, k4, k5, k6, k7, k8, k9, k10, k11, k12, k13, k14, hltI, hlt, hwj, hjI, hjN, hkJ, hkT, hk0]; first | done | rfl); go_big_quiet_on; simp only [Act.put, setIfInBounds_toArray, set_cons_succ, set_cons_zero]))
       refine wpQuiet_nil ?_; intro ws hC; have k0 := over_cell hC bR.lt (bR.c 0 rfl); have k1 := over_cell hC (World.block_lt_of_cell? _ _ g0) g0; have k2 := over_cell hC (World.block_lt_of_cell? _ _ g1) g1; have k3 := over_cell hC (World.block_lt_of_cell? _ _ g2) g2; have k4 := over_cell hC (World.block_lt_of_cell? _ _ g3) g3; have k5 := over_cell hC (World.block_lt_of_cell? _ _ g4) g4; have k6 := over_cell hC (World.block_lt_of_cell? _ _ g5) g5; have k7 := over_cell hC (World.block_lt_of_cell? _ _ g6) g6; have k8 := over_cell hC (World.block_lt_of_cell? _ _ m0) m0; have k9 := over_cell hC (World.block_lt_of_cell? _ _ m1) m1; have k10 := over_cell hC (World.block_lt_of_cell? _ _ m2) m2; have k11 := over_cell hC (World.block_lt_of_cell? _ _ m3) m3; have k12 := over_cell hC (World.block_lt_of_cell? _ _ m4) m4; have k13 := over_cell hC (World.block_lt_of_cell? _ _ m5) m5; have k14 := over_cell hC (World.block_lt_of_cell? _ _ m6) m6; go_wp2
       go_ret
       exact ⟨ret_bool (by first | rw [HF.out, Bool.and_false] | rw [HF.out] | simp [HF.out]), below_step B0 (over_step hB hC)⟩
   ·have hkn : k = n := by omega
    subst hkn; have HF := Lib.hid (tabB_yes HN.out HO.out HU.out); clear hc; have r0 := bR.c 0 rfl; go_wp2
    go_ret
    exact ⟨ret_bool (by first | rw [HF.out, Bool.and_true] | rw [HF.out] | simp [HF.out]), below_step B0 hB⟩
 ·have e : (decide ((n : Int) ≤ 60) && tabB L) = false := by simp [hbig]
  have hbig2 : (60 : Int) < (n : Int) := by omega
  rw [e]; clear e
  go_enter Tryz.func114, Tryz.ntmps114
  go_wp2
  go_ret
  exact ⟨rfl, B0⟩
set_option maxHeartbeats 1000000 in
theorem irib_any (v : Value) (L : List Ent) (w : World) (h : RdE w v L) :
  Calls Tryz.prog 126 #[.agg #[v]] w fun e w' => e = .returned (.bool (ribB L)) ∧ Below w.heap.size w w' := by
 unfold ribB; have hm := h.1; obtain ⟨a, c, rfl, hc⟩ := h.el; obtain ⟨n, hn⟩ : ∃ n, n = L.length := ⟨_, rfl⟩; rw [← hn] at hc hm ⊢; have HN := Lib.hid hn; clear h hn; obtain ⟨bR, B0, z⟩ := one w [.slice a n c] 33; clear z
 by_cases hbig : (n : Int) ≤ 60
 ·rw [show decide ((n : Int) ≤ 60) = true by simp [hbig]]
  have hbig2 : ¬ (60 : Int) < (n : Int) := by omega
  obtain ⟨W1, hW⟩ : ∃ W1, W1 = w.alloc (.cells #[.slice a n c] 33) := ⟨_, rfl⟩; obtain ⟨R, hR⟩ : ∃ R, R = w.heap.size := ⟨_, rfl⟩; have hW2 := hW
  go_enter Tryz.func126, Tryz.ntmps126
  go_wp2; rw [← hW2]
  try simp only [← hR]
  rw [← hR] at bR; rw [← hW2] at bR B0; clear hW hW2 hR
  go_loopw [12] (fun q wr => ∃ k : Nat, k ≤ n ∧ q = .int .i64 k ∧ (∀ i, i < k → okE L i) ∧ (∀ i, i + 1 < k → upE L i) ∧ Over W1 wr) (fun q _ => n - (intOf q).toNat)
  case atStart => exact ⟨0, Nat.zero_le _, rfl, fun i hi => by omega, fun i hi => by omega, over_refl _⟩
  case round =>
   obtain ⟨k, hk, rfl, hok, hup, hB⟩ := hrel; have HO := Lib.hid hok; have HU := Lib.hid hup; clear hok hup; replace bR := bR.keep hB; have r0 := bR.c 0 rfl
   by_cases hlt : k < n
   ·have hltI : (k : Int) < (n : Int) := by omega
    obtain ⟨b, o, rfl, hE⟩ := hc k hlt; obtain ⟨E, hx⟩ : ∃ E, L.getD k e0 = E := ⟨_, rfl⟩; rw [hx] at hE; obtain ⟨pv, cv, hp, hq, g0, g1, g2, g3, g4, g5, g6⟩ := hE.keep (below_step B0 hB); have HX := Lib.hid hx; have HCC := Lib.hid hc; clear hx hc hE; obtain ⟨pa, px, rfl⟩ := hp.len; obtain ⟨qa, qx, rfl⟩ := hq.len; cases hpk : entB E.a E.n E.pe E.p E.pr E.c E.bw
    ·have HP := Lib.hid hpk
     have HF := Lib.hid (tabB_ok (by rw [← HN.out]; exact hlt) HX.out hpk); clear hpk; have bP := Bl.new wr [.int .i64 E.a, .int .i64 E.n, .int .i64 E.pe, .slice pa E.p.length px, .int .i64 E.pr, .slice qa E.c.length qx, .int .i64 E.bw] EI wr.heap.size rfl; have hB2 : Over W1 (wr.alloc (.cells #[.int .i64 E.a, .int .i64 E.n, .int .i64 E.pe, .slice pa E.p.length px, .int .i64 E.pr, .slice qa E.c.length qx, .int .i64 E.bw] EI)) := over_alloc hB _; replace bR := bR.alloc (.cells #[.int .i64 E.a, .int .i64 E.n, .int .i64 E.pe, .slice pa E.p.length px, .int .i64 E.pr, .slice qa E.c.length qx, .int .i64 E.bw] EI); replace hp := hp.alloc (.cells #[.int .i64 E.a, .int .i64 E.n, .int .i64 E.pe, .slice pa E.p.length px, .int .i64 E.pr, .slice qa E.c.length qx, .int .i64 E.bw] EI); replace hq := hq.alloc (.cells #[.int .i64 E.a, .int .i64 E.n, .int .i64 E.pe, .slice pa E.p.length px, .int .i64 E.pr, .slice qa E.c.length qx, .int .i64 E.bw] EI); go_wp2; refine wp_region_class (C := Over ((wr.alloc (.cells #[.int .i64 E.a, .int .i64 E.n, .int .i64 E.pe, .slice pa E.p.length px, .int .i64 E.pr, .slice qa E.c.length qx, .int .i64 E.bw] EI)))) (by kernel_rfl) (by kernel_rfl) (over_drew _) ?_
     repeat (first | go_big_quiet_skip | (go_big_quiet_want; go_big_quiet_op; go_big_quiet_on) | (go_big_quiet_want; go_big_quiet_op; apply Exists.intro; refine ⟨fun w' hC => ?_, ?_⟩; ((first | (go_at_call 199; refine (ient_t _ (rdI_over hp hC) (rdI_over hq hC) HP).mono ?_; rintro e w1 ⟨rfl, hb1⟩; exact ⟨rfl, over_step hC hb1⟩))); go_big_quiet_on) | (go_big_quiet_want; apply Exists.intro; refine ⟨fun w' hC => ?_, ?_⟩; (have k0 := over_cell hC bP.lt (bP.c 0 rfl); have k1 := over_cell hC bP.lt (bP.c 1 rfl); have k2 := over_cell hC bP.lt (bP.c 2 rfl); have k3 := over_cell hC bP.lt (bP.c 3 rfl); have k4 := over_cell hC bP.lt (bP.c 4 rfl); have k5 := over_cell hC bP.lt (bP.c 5 rfl); have k6 := over_cell hC bP.lt (bP.c 6 rfl); have k7 := over_cell hC bR.lt (bR.c 0 rfl); simp [Oper.quietAt, Oper.quietUpon, go_sem, k0, k1, k2, k3, k4, k5, k6, k7]; first | done | rfl); go_big_quiet_on; simp only [Act.put, setIfInBounds_toArray, set_cons_succ, set_cons_zero]))
     refine wpQuiet_nil ?_; intro ws hC; have k0 := over_cell hC bP.lt (bP.c 0 rfl); have k1 := over_cell hC bP.lt (bP.c 1 rfl); have k2 := over_cell hC bP.lt (bP.c 2 rfl); have k3 := over_cell hC bP.lt (bP.c 3 rfl); have k4 := over_cell hC bP.lt (bP.c 4 rfl); have k5 := over_cell hC bP.lt (bP.c 5 rfl); have k6 := over_cell hC bP.lt (bP.c 6 rfl); have k7 := over_cell hC bR.lt (bR.c 0 rfl); go_wp2
     go_ret
     exact ⟨ret_bool (by first | rw [HF.out, Bool.and_false] | rw [HF.out] | simp [HF.out]), below_step B0 (over_step hB2 hC)⟩
    ·have HP := Lib.hid hpk
     have HOK : Hid (∀ i, i < k + 1 → okE L i) := Lib.hid fun i hi => by
      by_cases e : i = k
      ·unfold okE; rw [e, HX.out]; exact hpk
      ·exact HO.out i (by omega)
     clear hpk
     rcases Nat.eq_zero_or_pos k with rfl | hpos
     ·simp only [Nat.zero_mul, Nat.add_zero] at g0 g1 g2 g3 g4 g5 g6
      have bP := Bl.new wr [.int .i64 E.a, .int .i64 E.n, .int .i64 E.pe, .slice pa E.p.length px, .int .i64 E.pr, .slice qa E.c.length qx, .int .i64 E.bw] EI wr.heap.size rfl; have hB2 : Over W1 (wr.alloc (.cells #[.int .i64 E.a, .int .i64 E.n, .int .i64 E.pe, .slice pa E.p.length px, .int .i64 E.pr, .slice qa E.c.length qx, .int .i64 E.bw] EI)) := over_alloc hB _; replace bR := bR.alloc (.cells #[.int .i64 E.a, .int .i64 E.n, .int .i64 E.pe, .slice pa E.p.length px, .int .i64 E.pr, .slice qa E.c.length qx, .int .i64 E.bw] EI); replace hp := hp.alloc (.cells #[.int .i64 E.a, .int .i64 E.n, .int .i64 E.pe, .slice pa E.p.length px, .int .i64 E.pr, .slice qa E.c.length qx, .int .i64 E.bw] EI); replace hq := hq.alloc (.cells #[.int .i64 E.a, .int .i64 E.n, .int .i64 E.pe, .slice pa E.p.length px, .int .i64 E.pr, .slice qa E.c.length qx, .int .i64 E.bw] EI); go_wp2; refine wp_region_class (C := Over ((wr.alloc (.cells #[.int .i64 E.a, .int .i64 E.n, .int .i64 E.pe, .slice pa E.p.length px, .int .i64 E.pr, .slice qa E.c.length qx, .int .i64 E.bw] EI)))) (by kernel_rfl) (by kernel_rfl) (over_drew _) ?_
      repeat (first | go_big_quiet_skip | (go_big_quiet_want; go_big_quiet_op; go_big_quiet_on) | (go_big_quiet_want; go_big_quiet_op; apply Exists.intro; refine ⟨fun w' hC => ?_, ?_⟩; ((first | (go_at_call 199; refine (ient_t _ (rdI_over hp hC) (rdI_over hq hC) HP).mono ?_; rintro e w1 ⟨rfl, hb1⟩; exact ⟨rfl, over_step hC hb1⟩))); go_big_quiet_on) | (go_big_quiet_want; apply Exists.intro; refine ⟨fun w' hC => ?_, ?_⟩; (have k0 := over_cell hC bP.lt (bP.c 0 rfl); have k1 := over_cell hC bP.lt (bP.c 1 rfl); have k2 := over_cell hC bP.lt (bP.c 2 rfl); have k3 := over_cell hC bP.lt (bP.c 3 rfl); have k4 := over_cell hC bP.lt (bP.c 4 rfl); have k5 := over_cell hC bP.lt (bP.c 5 rfl); have k6 := over_cell hC bP.lt (bP.c 6 rfl); have k7 := over_cell hC bR.lt (bR.c 0 rfl); simp [Oper.quietAt, Oper.quietUpon, go_sem, k0, k1, k2, k3, k4, k5, k6, k7]; first | done | rfl); go_big_quiet_on; simp only [Act.put, setIfInBounds_toArray, set_cons_succ, set_cons_zero]))
      refine wpQuiet_nil ?_; intro ws hC; have k0 := over_cell hC bP.lt (bP.c 0 rfl); have k1 := over_cell hC bP.lt (bP.c 1 rfl); have k2 := over_cell hC bP.lt (bP.c 2 rfl); have k3 := over_cell hC bP.lt (bP.c 3 rfl); have k4 := over_cell hC bP.lt (bP.c 4 rfl); have k5 := over_cell hC bP.lt (bP.c 5 rfl); have k6 := over_cell hC bP.lt (bP.c 6 rfl); have k7 := over_cell hC bR.lt (bR.c 0 rfl); go_wp2
      go_roundw
      case rel => exact ⟨0 + 1, by omega, by go_num, HOK.out, fun i hi => by omega, over_step hB2 hC⟩
      case measure => simp [intOf]; omega
     ·obtain ⟨j, rfl⟩ : ∃ j, k = j + 1 := ⟨k - 1, by omega⟩
      obtain ⟨b', o', hbo, hE'⟩ := HCC.out j (by omega); obtain ⟨rfl, rfl⟩ : b = b' ∧ o = o' := by simpa using hbo
      clear hbo; obtain ⟨F, hs⟩ : ∃ F, L.getD j e0 = F := ⟨_, rfl⟩; rw [hs] at hE'; obtain ⟨pu, cu, -, -, m0, m1, m2, m3, m4, m5, m6⟩ := hE'.keep (below_step B0 hB); have HS := Lib.hid hs; clear hE' hs; have h1 := HO.out j (by omega); unfold okE at h1; rw [HS.out] at h1; have h2 := HP.out
      have hr0 : pcmp F.a F.n E.a E.n = cmp2 F.a F.n E.a E.n := by
       unfold pcmp; rw [entB_p h1, entB_p h2]
       rfl
      obtain ⟨r, hr⟩ : ∃ r, ecmp F.a F.n F.pe E.a E.n E.pe = r := ⟨_, rfl⟩; have HR := Lib.hid (And.intro hr0 hr); clear hr hr0 h1 h2
      by_cases hneg : r < 0
      ·have HUP : Hid (∀ i, i + 1 < j + 1 + 1 → upE L i) := Lib.hid fun i hi => by
        by_cases e : i = j
        ·unfold upE; rw [e, HS.out, HX.out, HR.out.2]; exact hneg
        ·exact HU.out i (by omega)
       have bP := Bl.new wr [.int .i64 E.a, .int .i64 E.n, .int .i64 E.pe, .slice pa E.p.length px, .int .i64 E.pr, .slice qa E.c.length qx, .int .i64 E.bw] EI wr.heap.size rfl; have hB2 : Over W1 (wr.alloc (.cells #[.int .i64 E.a, .int .i64 E.n, .int .i64 E.pe, .slice pa E.p.length px, .int .i64 E.pr, .slice qa E.c.length qx, .int .i64 E.bw] EI)) := over_alloc hB _; replace bR := bR.alloc (.cells #[.int .i64 E.a, .int .i64 E.n, .int .i64 E.pe, .slice pa E.p.length px, .int .i64 E.pr, .slice qa E.c.length qx, .int .i64 E.bw] EI); replace hp := hp.alloc (.cells #[.int .i64 E.a, .int .i64 E.n, .int .i64 E.pe, .slice pa E.p.length px, .int .i64 E.pr, .slice qa E.c.length qx, .int .i64 E.bw] EI); replace hq := hq.alloc (.cells #[.int .i64 E.a, .int .i64 E.n, .int .i64 E.pe, .slice pa E.p.length px, .int .i64 E.pr, .slice qa E.c.length qx, .int .i64 E.bw] EI); replace m0 := cell_keep ((Below.refl _ _).alloc (Nat.le_refl _) (.cells #[.int .i64 E.a, .int .i64 E.n, .int .i64 E.pe, .slice pa E.p.length px, .int .i64 E.pr, .slice qa E.c.length qx, .int .i64 E.bw] EI)) (World.block_lt_of_cell? wr _ m0) m0; replace m1 := cell_keep ((Below.refl _ _).alloc (Nat.le_refl _) (.cells #[.int .i64 E.a, .int .i64 E.n, .int .i64 E.pe, .slice pa E.p.length px, .int .i64 E.pr, .slice qa E.c.length qx, .int .i64 E.bw] EI)) (World.block_lt_of_cell? wr _ m1) m1; replace m2 := cell_keep ((Below.refl _ _).alloc (Nat.le_refl _) (.cells #[.int .i64 E.a, .int .i64 E.n, .int .i64 E.pe, .slice pa E.p.length px, .int .i64 E.pr, .slice qa E.c.length qx, .int .i64 E.bw] EI)) (World.block_lt_of_cell? wr _ m2) m2; replace m3 := cell_keep ((Below.refl _ _).alloc (Nat.le_refl _) (.cells #[.int .i64 E.a, .int .i64 E.n, .int .i64 E.pe, .slice pa E.p.length px, .int .i64 E.pr, .slice qa E.c.length qx, .int .i64 E.bw] EI)) (World.block_lt_of_cell? wr _ m3) m3; replace m4 := cell_keep ((Below.refl _ _).alloc (Nat.le_refl _) (.cells #[.int .i64 E.a, .int .i64 E.n, .int .i64 E.pe, .slice pa E.p.length px, .int .i64 E.pr, .slice qa E.c.length qx, .int .i64 E.bw] EI)) (World.block_lt_of_cell? wr _ m4) m4; replace m5 := cell_keep ((Below.refl _ _).alloc (Nat.le_refl _) (.cells #[.int .i64 E.a, .int .i64 E.n, .int .i64 E.pe, .slice pa E.p.length px, .int .i64 E.pr, .slice qa E.c.length qx, .int .i64 E.bw] EI)) (World.block_lt_of_cell? wr _ m5) m5; replace m6 := cell_keep ((Below.refl _ _).alloc (Nat.le_refl _) (.cells #[.int .i64 E.a, .int .i64 E.n, .int .i64 E.pe, .slice pa E.p.length px, .int .i64 E.pr, .slice qa E.c.length qx, .int .i64 E.bw] EI)) (World.block_lt_of_cell? wr _ m6) m6; have hwj : IntKind.i64.wrap (j : Int) = j := wrap64_in _ (by omega) (by omega); have hjI : (j : Int) < (n : Int) := by omega
       have hjN : j < n := by omega
       go_wp2; refine wp_region_class (C := Over ((wr.alloc (.cells #[.int .i64 E.a, .int .i64 E.n, .int .i64 E.pe, .slice pa E.p.length px, .int .i64 E.pr, .slice qa E.c.length qx, .int .i64 E.bw] EI)))) (by kernel_rfl) (by kernel_rfl) (over_drew _) ?_
       repeat (first | go_big_quiet_skip | (go_big_quiet_want; go_big_quiet_op; go_big_quiet_on) | (go_big_quiet_want; go_big_quiet_op; apply Exists.intro; refine ⟨fun w' hC => ?_, ?_⟩; ((first | (go_at_call 199; refine (ient_t _ (rdI_over hp hC) (rdI_over hq hC) HP).mono ?_; rintro e w1 ⟨rfl, hb1⟩; exact ⟨rfl, over_step hC hb1⟩) | (go_at_call 200; refine (icmp6_t _ HR).mono ?_; rintro e w1 ⟨rfl, hb1⟩; exact ⟨rfl, over_step hC hb1⟩))); go_big_quiet_on) | (go_big_quiet_want; apply Exists.intro; refine ⟨fun w' hC => ?_, ?_⟩; (have k0 := over_cell hC bP.lt (bP.c 0 rfl); have k1 := over_cell hC bP.lt (bP.c 1 rfl); have k2 := over_cell hC bP.lt (bP.c 2 rfl); have k3 := over_cell hC bP.lt (bP.c 3 rfl); have k4 := over_cell hC bP.lt (bP.c 4 rfl); have k5 := over_cell hC bP.lt (bP.c 5 rfl); have k6 := over_cell hC bP.lt (bP.c 6 rfl); have k7 := over_cell hC bR.lt (bR.c 0 rfl); have k8 := over_cell hC (World.block_lt_of_cell? _ _ m0) m0; have k9 := over_cell hC (World.block_lt_of_cell? _ _ m1) m1; have k10 := over_cell hC (World.block_lt_of_cell? _ _ m2) m2; have k11 := over_cell hC (World.block_lt_of_cell? _ _ m3) m3; have k12 := over_cell hC (World.block_lt_of_cell? _ _ m4) m4; have k13 := over_cell hC (World.block_lt_of_cell? _ _ m5) m5; have k14 := over_cell hC (World.block_lt_of_cell? _ _ m6) m6; simp [Oper.quietAt, Oper.quietUpon, go_sem, k0, k1, k2, k3, k4, k5, k6, k7, k8, k9, k10, k11, k12, k13, k14, hwj, hjI, hjN]; first | done | rfl); go_big_quiet_on; simp only [Act.put, setIfInBounds_toArray, set_cons_succ, set_cons_zero]))
       refine wpQuiet_nil ?_; intro ws hC; have k0 := over_cell hC bP.lt (bP.c 0 rfl); have k1 := over_cell hC bP.lt (bP.c 1 rfl); have k2 := over_cell hC bP.lt (bP.c 2 rfl); have k3 := over_cell hC bP.lt (bP.c 3 rfl); have k4 := over_cell hC bP.lt (bP.c 4 rfl); have k5 := over_cell hC bP.lt (bP.c 5 rfl); have k6 := over_cell hC bP.lt (bP.c 6 rfl); have k7 := over_cell hC bR.lt (bR.c 0 rfl); have k8 := over_cell hC (World.block_lt_of_cell? _ _ m0) m0; have k9 := over_cell hC (World.block_lt_of_cell? _ _ m1) m1; have k10 := over_cell hC (World.block_lt_of_cell? _ _ m2) m2; have k11 := over_cell hC (World.block_lt_of_cell? _ _ m3) m3; have k12 := over_cell hC (World.block_lt_of_cell? _ _ m4) m4; have k13 := over_cell hC (World.block_lt_of_cell? _ _ m5) m5; have k14 := over_cell hC (World.block_lt_of_cell? _ _ m6) m6; go_wp2
       go_roundw
       case rel => exact ⟨j + 1 + 1, by omega, by go_num, HOK.out, HUP.out, over_step hB2 hC⟩
       case measure => simp [intOf]; omega
      ·have HF := Lib.hid (tabB_up (by rw [← HN.out]; exact hlt) HS.out HX.out (by rw [HR.out.2]; exact hneg))
       have bP := Bl.new wr [.int .i64 E.a, .int .i64 E.n, .int .i64 E.pe, .slice pa E.p.length px, .int .i64 E.pr, .slice qa E.c.length qx, .int .i64 E.bw] EI wr.heap.size rfl; have hB2 : Over W1 (wr.alloc (.cells #[.int .i64 E.a, .int .i64 E.n, .int .i64 E.pe, .slice pa E.p.length px, .int .i64 E.pr, .slice qa E.c.length qx, .int .i64 E.bw] EI)) := over_alloc hB _; replace bR := bR.alloc (.cells #[.int .i64 E.a, .int .i64 E.n, .int .i64 E.pe, .slice pa E.p.length px, .int .i64 E.pr, .slice qa E.c.length qx, .int .i64 E.bw] EI); replace hp := hp.alloc (.cells #[.int .i64 E.a, .int .i64 E.n, .int .i64 E.pe, .slice pa E.p.length px, .int .i64 E.pr, .slice qa E.c.length qx, .int .i64 E.bw] EI); replace hq := hq.alloc (.cells #[.int .i64 E.a, .int .i64 E.n, .int .i64 E.pe, .slice pa E.p.length px, .int .i64 E.pr, .slice qa E.c.length qx, .int .i64 E.bw] EI); replace m0 := cell_keep ((Below.refl _ _).alloc (Nat.le_refl _) (.cells #[.int .i64 E.a, .int .i64 E.n, .int .i64 E.pe, .slice pa E.p.length px, .int .i64 E.pr, .slice qa E.c.length qx, .int .i64 E.bw] EI)) (World.block_lt_of_cell? wr _ m0) m0; replace m1 := cell_keep ((Below.refl _ _).alloc (Nat.le_refl _) (.cells #[.int .i64 E.a, .int .i64 E.n, .int .i64 E.pe, .slice pa E.p.length px, .int .i64 E.pr, .slice qa E.c.length qx, .int .i64 E.bw] EI)) (World.block_lt_of_cell? wr _ m1) m1; replace m2 := cell_keep ((Below.refl _ _).alloc (Nat.le_refl _) (.cells #[.int .i64 E.a, .int .i64 E.n, .int .i64 E.pe, .slice pa E.p.length px, .int .i64 E.pr, .slice qa E.c.length qx, .int .i64 E.bw] EI)) (World.block_lt_of_cell? wr _ m2) m2; replace m3 := cell_keep ((Below.refl _ _).alloc (Nat.le_refl _) (.cells #[.int .i64 E.a, .int .i64 E.n, .int .i64 E.pe, .slice pa E.p.length px, .int .i64 E.pr, .slice qa E.c.length qx, .int .i64 E.bw] EI)) (World.block_lt_of_cell? wr _ m3) m3; replace m4 := cell_keep ((Below.refl _ _).alloc (Nat.le_refl _) (.cells #[.int .i64 E.a, .int .i64 E.n, .int .i64 E.pe, .slice pa E.p.length px, .int .i64 E.pr, .slice qa E.c.length qx, .int .i64 E.bw] EI)) (World.block_lt_of_cell? wr _ m4) m4; replace m5 := cell_keep ((Below.refl _ _).alloc (Nat.le_refl _) (.cells #[.int .i64 E.a, .int .i64 E.n, .int .i64 E.pe, .slice pa E.p.length px, .int .i64 E.pr, .slice qa E.c.length qx, .int .i64 E.bw] EI)) (World.block_lt_of_cell? wr _ m5) m5; replace m6 := cell_keep ((Below.refl _ _).alloc (Nat.le_refl _) (.cells #[.int .i64 E.a, .int .i64 E.n, .int .i64 E.pe, .slice pa E.p.length px, .int .i64 E.pr, .slice qa E.c.length qx, .int .i64 E.bw] EI)) (World.block_lt_of_cell? wr _ m6) m6; have hwj : IntKind.i64.wrap (j : Int) = j := wrap64_in _ (by omega) (by omega); have hjI : (j : Int) < (n : Int) := by omega
       have hjN : j < n := by omega
       go_wp2; refine wp_region_class (C := Over ((wr.alloc (.cells #[.int .i64 E.a, .int .i64 E.n, .int .i64 E.pe, .slice pa E.p.length px, .int .i64 E.pr, .slice qa E.c.length qx, .int .i64 E.bw] EI)))) (by kernel_rfl) (by kernel_rfl) (over_drew _) ?_
       repeat (first | go_big_quiet_skip | (go_big_quiet_want; go_big_quiet_op; go_big_quiet_on) | (go_big_quiet_want; go_big_quiet_op; apply Exists.intro; refine ⟨fun w' hC => ?_, ?_⟩; ((first | (go_at_call 199; refine (ient_t _ (rdI_over hp hC) (rdI_over hq hC) HP).mono ?_; rintro e w1 ⟨rfl, hb1⟩; exact ⟨rfl, over_step hC hb1⟩) | (go_at_call 200; refine (icmp6_t _ HR).mono ?_; rintro e w1 ⟨rfl, hb1⟩; exact ⟨rfl, over_step hC hb1⟩))); go_big_quiet_on) | (go_big_quiet_want; apply Exists.intro; refine ⟨fun w' hC => ?_, ?_⟩; (have k0 := over_cell hC bP.lt (bP.c 0 rfl); have k1 := over_cell hC bP.lt (bP.c 1 rfl); have k2 := over_cell hC bP.lt (bP.c 2 rfl); have k3 := over_cell hC bP.lt (bP.c 3 rfl); have k4 := over_cell hC bP.lt (bP.c 4 rfl); have k5 := over_cell hC bP.lt (bP.c 5 rfl); have k6 := over_cell hC bP.lt (bP.c 6 rfl); have k7 := over_cell hC bR.lt (bR.c 0 rfl); have k8 := over_cell hC (World.block_lt_of_cell? _ _ m0) m0; have k9 := over_cell hC (World.block_lt_of_cell? _ _ m1) m1; have k10 := over_cell hC (World.block_lt_of_cell? _ _ m2) m2; have k11 := over_cell hC (World.block_lt_of_cell? _ _ m3) m3; have k12 := over_cell hC (World.block_lt_of_cell? _ _ m4) m4; have k13 := over_cell hC (World.block_lt_of_cell? _ _ m5) m5; have k14 := over_cell hC (World.block_lt_of_cell? _ _ m6) m6; simp [Oper.quietAt, Oper.quietUpon, go_sem, k0, k1, k2, k3, k4, k5, k6, k7, k8, k9, k10, k11, k12, k13, k14, hwj, hjI, hjN]; first | done | rfl); go_big_quiet_on; simp only [Act.put, setIfInBounds_toArray, set_cons_succ, set_cons_zero]))
       refine wpQuiet_nil ?_; intro ws hC; have k0 := over_cell hC bP.lt (bP.c 0 rfl); have k1 := over_cell hC bP.lt (bP.c 1 rfl); have k2 := over_cell hC bP.lt (bP.c 2 rfl); have k3 := over_cell hC bP.lt (bP.c 3 rfl); have k4 := over_cell hC bP.lt (bP.c 4 rfl); have k5 := over_cell hC bP.lt (bP.c 5 rfl); have k6 := over_cell hC bP.lt (bP.c 6 rfl); have k7 := over_cell hC bR.lt (bR.c 0 rfl); have k8 := over_cell hC (World.block_lt_of_cell? _ _ m0) m0; have k9 := over_cell hC (World.block_lt_of_cell? _ _ m1) m1; have k10 := over_cell hC (World.block_lt_of_cell? _ _ m2) m2; have k11 := over_cell hC (World.block_lt_of_cell? _ _ m3) m3; have k12 := over_cell hC (World.block_lt_of_cell? _ _ m4) m4; have k13 := over_cell hC (World.block_lt_of_cell? _ _ m5) m5; have k14 := over_cell hC (World.block_lt_of_cell? _ _ m6) m6; go_wp2
       go_ret
       exact ⟨ret_bool (by first | rw [HF.out, Bool.and_false] | rw [HF.out] | simp [HF.out]), below_step B0 (over_step hB2 hC)⟩
   ·have hkn : k = n := by omega
    subst hkn; have HF := Lib.hid (tabB_yes HN.out HO.out HU.out); clear hc; have r0 := bR.c 0 rfl; go_wp2
    go_ret
    exact ⟨ret_bool (by first | rw [HF.out, Bool.and_true] | rw [HF.out] | simp [HF.out]), below_step B0 hB⟩
 ·have e : (decide ((n : Int) ≤ 60) && tabB L) = false := by simp [hbig]
  have hbig2 : (60 : Int) < (n : Int) := by omega
  rw [e]; clear e
  go_enter Tryz.func126, Tryz.ntmps126
  go_wp2
  go_ret
  exact ⟨rfl, B0⟩
theorem srib_t {v : Value} {L : List Ent} {b : Bool} (w : World) (h : RdE w v L) (H : Hid (ribB L = b)) :
  Calls Tryz.prog 114 #[.agg #[v]] w fun e w' => e = .returned (.bool b) ∧ Below w.heap.size w w' := H.out ▸ srib_any v L w h
theorem irib_t {v : Value} {L : List Ent} {b : Bool} (w : World) (h : RdE w v L) (H : Hid (ribB L = b)) :
  Calls Tryz.prog 126 #[.agg #[v]] w fun e w' => e = .returned (.bool b) ∧ Below w.heap.size w w' := H.out ▸ irib_any v L w h
end Go.Proofs.YtbcmoofpgffbhabGreat
namespace Go.Proofs.YtbcmoofpgffbhabGreat
open Go.ChangeShapes Go.WideShapes Go.ChangeAt Go.RowKit Go.BigFrame Go.Joins
set_option linter.unusedVariables false
set_option maxRecDepth 100000
set_option linter.unusedSimpArgs false
set_option maxRecDepth 100000

theorem over_grownP {V w w' : World} {v : Value} {l : List (Int × Int)} {base : Nat} (h : Over V w) (ho : OwnP w base v l) (hb : V.heap.size ≤ base) (hg : w.grownBy w' v.ownBlock) : Over V w' :=
 Below.grown h hg h.size (fun k hk => Nat.le_trans hb (World.ownsRow.lt ho k hk).1)
/-- the prefixes of a table, one for each entry -/
def pfx (L : List Ent) : List (Int × Int) := L.map fun E => (E.a, E.n)
theorem pfx_len (L : List Ent) : (pfx L).length = L.length := by simp [pfx]
end Go.Proofs.YtbcmoofpgffbhabGreat
namespace Go.Proofs.YtbcmoofpgffbhabGreat
open Go.ChangeShapes Go.WideShapes Go.ChangeAt Go.RowKit Go.BigFrame Go.Joins
set_option linter.unusedVariables false
set_option maxRecDepth 100000
set_option linter.unusedSimpArgs false
set_option maxRecDepth 100000

end Go.Proofs.YtbcmoofpgffbhabGreat
namespace Go.Proofs.YtbcmoofpgffbhabGreat
open Go.ChangeShapes Go.WideShapes Go.ChangeAt Go.RowKit Go.BigFrame Go.Joins
set_option linter.unusedVariables false
set_option maxRecDepth 100000
set_option linter.unusedSimpArgs false
set_option maxRecDepth 100000

end Go.Proofs.YtbcmoofpgffbhabGreat
namespace Go.Proofs.YtbcmoofpgffbhabGreat
open Go.ChangeShapes Go.WideShapes Go.ChangeAt Go.RowKit Go.BigFrame Go.Joins
set_option linter.unusedVariables false
set_option maxRecDepth 100000
set_option linter.unusedSimpArgs false
set_option maxRecDepth 100000

/-- blocks from base to hi may have turned, no other; what was there is there, what could be written can be written -/
structure Soft (base hi : Nat) (w w' : World) : Prop where
 os : w'.os = w.os
 tape : w'.tape = w.tape
 output : w'.output = w.output
 size : w.heap.size ≤ w'.heap.size
 block : ∀ i, i < w.heap.size → (i < base ∨ hi ≤ i) → w'.heap[i]? = w.heap[i]?
 ex : ∀ b o : Nat, (w.cell? ⟨b, o, none⟩).isSome = true → (w'.cell? ⟨b, o, none⟩).isSome = true
 fz : ∀ b o : Nat, (w.cell? ⟨b, o, none⟩).isSome = true → w'.frozen? ⟨b, o, none⟩ = w.frozen? ⟨b, o, none⟩
theorem Soft.refl (base hi : Nat) (w : World) : Soft base hi w w := ⟨rfl, rfl, rfl, Nat.le_refl _, fun _ _ _ => rfl, fun _ _ h => h, fun _ _ _ => rfl⟩
theorem Soft.trans {base hi : Nat} {a b c : World} (h : Soft base hi a b) (k : Soft base hi b c) : Soft base hi a c :=
 ⟨k.os.trans h.os, k.tape.trans h.tape, k.output.trans h.output, Nat.le_trans h.size k.size, fun i hi' hc => (k.block i (Nat.lt_of_lt_of_le hi' h.size) hc).trans (h.block i hi' hc), fun b o q => k.ex b o (h.ex b o q), fun b o q => (k.fz b o (h.ex b o q)).trans (h.fz b o q)⟩
theorem Soft.mono {base base' hi : Nat} {w w' : World} (h : Soft base hi w w') (hb : base' ≤ base) : Soft base' hi w w' :=
 ⟨h.os, h.tape, h.output, h.size, fun i hi' hc => h.block i hi' (by omega), h.ex, h.fz⟩
theorem some_setF {w : World} {a b : Addr} {u : Value} (h : (w.cell? b).isSome = true) : ((w.setCell a u).cell? b).isSome = true := by
 by_cases hne : a = b
 ·subst hne
  rw [World.cell?_setCell_same' _ _ _ h]; rfl
 ·rw [World.cell?_setCell_other _ _ _ _ hne]; exact h
theorem Soft.set {base hi : Nat} {w w' : World} (h : Soft base hi w w') {B o : Nat} (u : Value) (h1 : base ≤ B) (h2 : B < hi) : Soft base hi w (w'.setCell ⟨B, o, none⟩ u) := by
 refine h.trans ⟨(grown_set w' B o u).os, (grown_set w' B o u).tape, (grown_set w' B o u).output, (grown_set w' B o u).size, fun i hi' hc => (grown_set w' B o u).block i hi' (fun e => by cases e; omega), fun b o q => some_setF q, fun b o _ => World.frozen?_setCell _ _ _ _⟩
theorem Soft.below {base hi : Nat} {w w' : World} (h : Soft base hi w w') (hb : base ≤ w.heap.size) : Below base w w' :=
 ⟨h.os, h.tape, h.output, h.size, fun i hi' => h.block i (by omega) (.inl hi')⟩
theorem soft1 (w : World) (B o : Nat) (u : Value) : Soft B (B + 1) w (w.setCell ⟨B, o, none⟩ u) := (Soft.refl _ _ _).set u (Nat.le_refl _) (Nat.lt_succ_self B)
theorem Soft.of_below {w w' : World} (base hi : Nat) (B0 : Below w.heap.size w w') : Soft base hi w w' :=
 ⟨B0.os, B0.tape, B0.output, B0.size, fun i hi' _ => B0.block i hi', fun b o ha => by
  obtain ⟨x, hx⟩ := Option.isSome_iff_exists.1 ha; rw [cell_keep B0 (World.block_lt_of_cell? w _ hx) hx]
  rfl, fun b o ha => by
  obtain ⟨x, hx⟩ := Option.isSome_iff_exists.1 ha; have hl := World.block_lt_of_cell? w _ hx
  exact World.frozen?_of_block (B0.block b hl)⟩
theorem Bl.soft {base hi B : Nat} {w w' : World} {xs : List Value} (h : Bl w B xs) (s : Soft base hi w w') (hB : hi ≤ B) : Bl w' B xs :=
 ⟨Nat.lt_of_lt_of_le h.lt s.size, fun i x e => (World.cell?_of_block (s.block B h.lt (.inr hB))).trans (h.cs i x e), fun i hi' => (World.frozen?_of_block (s.block B h.lt (.inr hB))).trans (h.fz i hi')⟩
end Go.Proofs.YtbcmoofpgffbhabGreat
namespace Go.Proofs.YtbcmoofpgffbhabGreat
open Go.ChangeShapes Go.WideShapes Go.ChangeAt Go.RowKit Go.BigFrame Go.Joins
set_option linter.unusedVariables false
set_option maxRecDepth 100000
set_option linter.unusedSimpArgs false
set_option maxRecDepth 100000

/-- blocks from base to hi may have turned, no other; what was there is there, what could be written can be written -/
def Wr (w : World) (base hi : Nat) (v : Value) (n : Nat) : Prop := ∃ a c, v = .slice a n c ∧ ∀ i, i < n → ∃ g, a = some ⟨g, 0, none⟩ ∧ base ≤ g ∧ g < hi ∧ (w.cell? ⟨g, i, none⟩).isSome = true ∧ w.frozen? ⟨g, i, none⟩ = false
theorem Wr.soft {w w' : World} {b1 h1 base hi : Nat} {v : Value} {n : Nat} (h : Wr w base hi v n) (s : Soft b1 h1 w w') : Wr w' base hi v n := by
 obtain ⟨a, c, rfl, hc⟩ := h; refine ⟨a, c, rfl, fun i hi' => ?_⟩; obtain ⟨g, e, h2, h3, h4, h5⟩ := hc i hi'
 exact ⟨g, e, h2, h3, s.ex _ _ h4, (s.fz _ _ h4).trans h5⟩
theorem OwnI.wr {w : World} {base hi : Nat} {v : Value} {l : List Int} (h : OwnI w base v l) (hh : w.heap.size ≤ hi) : Wr w base hi v l.length := by
 have h0 := h; unfold OwnI at h0
 rcases h.2 with ⟨rfl, hn⟩ | ⟨g, cap, cur, rfl, hb, hg, hnc, hcm, hcs, htake⟩
 ·exact ⟨none, 0, by rw [hn], fun i hi' => by omega⟩
 ·refine ⟨_, cap, rfl, fun i hi' => ⟨g, rfl, hb, Nat.lt_of_lt_of_le (World.ownsRow.lt h g rfl).2 hh, ?_, h0.frozenAt i⟩⟩
  rw [h0.cellAt i (by omega)]
  simp [hi']
/-- the rows of element i may be written, and its slices lie where they lay -/
def EW (w : World) (B hi i : Nat) (E : Ent) : Prop := ∃ u1 u2, w.cell? ⟨B, i * 7 + 3, none⟩ = some u1 ∧ w.cell? ⟨B, i * 7 + 5, none⟩ = some u2 ∧ Wr w (B + 1) hi u1 E.p.length ∧ Wr w (B + 1) hi u2 E.c.length
theorem EW.set {w : World} {B hi i o : Nat} {E : Ent} {u : Value} (h : EW w B hi i E) (h1 : o ≠ i * 7 + 3) (h2 : o ≠ i * 7 + 5) : EW (w.setCell ⟨B, o, none⟩ u) B hi i E := by
 obtain ⟨u1, u2, e1, e2, r1, r2⟩ := h
 exact ⟨u1, u2, set_other (fun q => by injection q with q1 q2; exact h1 q2) e1, set_other (fun q => by injection q with q1 q2; exact h2 q2) e2, r1.soft (soft1 w B o u), r2.soft (soft1 w B o u)⟩
theorem EW.soft {w w' : World} {B hi i : Nat} {E : Ent} (h : EW w B hi i E) (s : Soft (B + 1) hi w w') (hB : B + 1 ≤ w.heap.size) : EW w' B hi i E := by
 obtain ⟨u1, u2, e1, e2, r1, r2⟩ := h
 exact ⟨u1, u2, cell_keep (s.below hB) (Nat.lt_succ_self B) e1, cell_keep (s.below hB) (Nat.lt_succ_self B) e2, r1.soft s, r2.soft s⟩
/-- a table that is being marked -/
def MkE (w0 w : World) (base B hi n : Nat) (L : List Ent) : Prop :=
 Soft base hi w0 w ∧ (∀ j, j < n * 7 → (w.cell? ⟨B, j, none⟩).isSome = true ∧ w.frozen? ⟨B, j, none⟩ = false) ∧ (∀ i, i < n → EW w B hi i (L.getD i e0)) ∧ base ≤ B ∧ B < hi ∧ B + 1 ≤ w.heap.size
theorem MkE.set {w0 w : World} {base B hi n : Nat} {L : List Ent} (h : MkE w0 w base B hi n L) (o : Nat) (u : Value) (ho : ∀ i, o ≠ i * 7 + 3 ∧ o ≠ i * 7 + 5) : MkE w0 (w.setCell ⟨B, o, none⟩ u) base B hi n L := by
 obtain ⟨s, c, e, h1, h2, h3⟩ := h
 exact ⟨s.set u h1 h2, fun j hj => ⟨some_setF (c j hj).1, by rw [World.frozen?_setCell]; exact (c j hj).2⟩, fun i hi' => (e i hi').set (ho i).1 (ho i).2, h1, h2, Nat.le_trans h3 (grown_set w B o u).size⟩
theorem MkE.soft {w0 w w' : World} {base B hi n : Nat} {L : List Ent} (h : MkE w0 w base B hi n L) (s : Soft (B + 1) hi w w') : MkE w0 w' base B hi n L := by
 obtain ⟨s0, c, e, h1, h2, h3⟩ := h
 exact ⟨s0.trans (s.mono (by omega)), fun j hj => ⟨s.ex _ _ (c j hj).1, (s.fz _ _ (c j hj).1).trans (c j hj).2⟩, fun i hi' => (e i hi').soft s h3, h1, h2, Nat.le_trans h3 s.size⟩
theorem MkE.cell {w0 w : World} {base B hi n : Nat} {L : List Ent} (h : MkE w0 w base B hi n L) (j : Nat) (hj : j < n * 7) : ∃ x, w.cell? ⟨B, j, none⟩ = some x ∧ w.frozen? ⟨B, j, none⟩ = false := by
 obtain ⟨x, hx⟩ := Option.isSome_iff_exists.1 (h.2.1 j hj).1
 exact ⟨x, hx, (h.2.1 j hj).2⟩
theorem OwnE.mk {w : World} {base : Nat} {v : Value} {L : List Ent} (h : OwnE w base v L) : ∃ B, v = .slice (some ⟨B, 0, none⟩) L.length L.length ∧ MkE w w base B w.heap.size L.length L := by
 obtain ⟨B, rfl, h1, xs, hl, hB, hx⟩ := h; refine ⟨B, rfl, Soft.refl _ _ _, fun j hj => ⟨by rw [hB.c j (List.getElem?_eq_getElem (by omega))]; rfl, hB.f j (List.getElem?_eq_getElem (by omega))⟩, fun i hi' => ?_, h1, hB.lt, hB.lt⟩; obtain ⟨u1, u2, g1, g2, c0, c1, c2, c3, c4, c5, c6⟩ := hx i hi'
 exact ⟨u1, u2, hB.c _ c3, hB.c _ c5, g1.wr (Nat.le_refl _), g2.wr (Nat.le_refl _)⟩
end Go.Proofs.YtbcmoofpgffbhabGreat
namespace Go.Proofs.YtbcmoofpgffbhabGreat
open Go.ChangeShapes Go.WideShapes Go.ChangeAt Go.RowKit Go.BigFrame Go.Joins
set_option linter.unusedVariables false
set_option maxRecDepth 100000
set_option linter.unusedSimpArgs false
set_option maxRecDepth 100000

/-- the first n hold the marks from k on -/
def MarkP (k : Int) (n : Nat) (l : List (Int × Int)) : Prop := ∀ i : Nat, i < n → l.getD i (0, 0) = (k + (i : Int) * 2, k + (i : Int) * 2 + 1)
theorem MarkP.next {k : Int} {n : Nat} {l : List (Int × Int)} (h : MarkP k n l) (hn : n < l.length) : MarkP k (n + 1) (l.set n (k + (n : Int) * 2, k + (n : Int) * 2 + 1)) := by
 intro i hi
 by_cases e : i = n
 ·subst e
  simp [List.getD_eq_getElem?_getD, hn]
 ·rw [← h i (by omega)]
  simp only [List.getD_eq_getElem?_getD, List.getElem?_set]; rw [if_neg (by omega)]
theorem OwnP.soft {base hi b : Nat} {w w' : World} {v : Value} {l : List (Int × Int)} (h : OwnP w b v l) (s : Soft base hi w w') (hv : hi ≤ b) : OwnP w' b v l := by
 unfold OwnP at h ⊢; refine ⟨h.1, ?_⟩
 rcases h.2 with hn | ⟨g, cap, cur, e, hb, hg, rest⟩
 ·exact .inl hn
 ·have hlt : g < w.heap.size := (World.ownsRow.lt h g (by rw [e]; rfl)).2
  exact .inr ⟨g, cap, cur, e, hb, (s.block g hlt (.inr (by omega))).trans hg, rest⟩
end Go.Proofs.YtbcmoofpgffbhabGreat
namespace Go.Proofs.YtbcmoofpgffbhabGreat
open Go.ChangeShapes Go.WideShapes Go.ChangeAt Go.RowKit Go.BigFrame Go.Joins
set_option linter.unusedVariables false
set_option maxRecDepth 100000
set_option linter.unusedSimpArgs false
set_option maxRecDepth 100000

/-- two sets of blocks that have none in common -/
def Dj (S T : Nat → Prop) : Prop := ∀ i, S i → T i → False
theorem Dj.symm {S T : Nat → Prop} (h : Dj S T) : Dj T S := fun i a b => h i b a
/-- w' is a later world in which the blocks of S lie as they lay -/
def AgrS (S : Nat → Prop) (w w' : World) : Prop := w.heap.size ≤ w'.heap.size ∧ ∀ i, S i → i < w.heap.size → w'.heap[i]? = w.heap[i]?
theorem AgrS.sub {S T : Nat → Prop} {w w' : World} (h : AgrS S w w') (hs : ∀ b, T b → S b) : AgrS T w w' := ⟨h.1, fun i a c => h.2 i (hs i a) c⟩
theorem AgrS.of_below {S : Nat → Prop} {w w' : World} (h : Below w.heap.size w w') : AgrS S w w' := ⟨h.size, fun i _ hi => h.block i hi⟩
theorem agr_setS {S : Nat → Prop} {g o : Nat} (w : World) {u : Value} (h : ¬ S g) : AgrS S w (w.setCell ⟨g, o, none⟩ u) := ⟨(grown_set w g o u).size, fun i h1 hl => (grown_set w g o u).block i hl (by intro e; cases e; exact h h1)⟩
theorem bl_agrS {S : Nat → Prop} {B : Nat} {w w' : World} {xs : List Value} (h : Bl w B xs) (k : AgrS S w w') (h1 : S B) : Bl w' B xs :=
 ⟨Nat.lt_of_lt_of_le h.lt k.1, fun i x e => (World.cell?_of_block (k.2 B h1 h.lt)).trans (h.cs i x e), fun i hi => (World.frozen?_of_block (k.2 B h1 h.lt)).trans (h.fz i hi)⟩
/-- only blocks of S have turned -/
structure MidS (S : Nat → Prop) (w w' : World) : Prop where
 os : w'.os = w.os
 tape : w'.tape = w.tape
 output : w'.output = w.output
 size : w.heap.size ≤ w'.heap.size
 block : ∀ i, i < w.heap.size → ¬ S i → w'.heap[i]? = w.heap[i]?
theorem MidS.refl (S : Nat → Prop) (w : World) : MidS S w w := ⟨rfl, rfl, rfl, Nat.le_refl _, fun _ _ _ => rfl⟩
theorem MidS.trans {S : Nat → Prop} {a b c : World} (h : MidS S a b) (k : MidS S b c) : MidS S a c :=
 ⟨k.os.trans h.os, k.tape.trans h.tape, k.output.trans h.output, Nat.le_trans h.size k.size, fun i hi hc => (k.block i (Nat.lt_of_lt_of_le hi h.size) hc).trans (h.block i hi hc)⟩
theorem MidS.agr {S T : Nat → Prop} {w w' : World} (s : MidS S w w') (h : Dj T S) : AgrS T w w' := ⟨s.size, fun i h1 h3 => s.block i h3 (fun q => h i h1 q)⟩
theorem MidS.below {S : Nat → Prop} {B : Nat} {w w' : World} (s : MidS S w w') (hB : B ≤ w.heap.size) (h : ∀ b, S b → B ≤ b) : Below B w w' :=
 ⟨s.os, s.tape, s.output, s.size, fun i hi => s.block i (by omega) (fun q => by have := h i q; omega)⟩
theorem MidS.of_grown {w w' : World} {row : Option Nat} {S : Nat → Prop} (h : w.grownBy w' row) (hs : ∀ k, row = some k → S k) : MidS S w w' := ⟨h.os, h.tape, h.output, h.size, fun i hi hc => h.block i hi (fun e => hc (hs i e.symm))⟩
/-- only block g and the blocks of S have turned -/
structure ButS (g : Nat) (S : Nat → Prop) (w w' : World) : Prop where
 os : w'.os = w.os
 tape : w'.tape = w.tape
 output : w'.output = w.output
 size : w.heap.size ≤ w'.heap.size
 block : ∀ i, i < w.heap.size → i ≠ g → ¬ S i → w'.heap[i]? = w.heap[i]?
theorem ButS.refl (g : Nat) (S : Nat → Prop) (w : World) : ButS g S w w := ⟨rfl, rfl, rfl, Nat.le_refl _, fun _ _ _ _ => rfl⟩
theorem ButS.set {g o : Nat} {S : Nat → Prop} {w w' : World} {u : Value} (h : ButS g S w w') : ButS g S w (w'.setCell ⟨g, o, none⟩ u) :=
 ⟨(grown_set w' g o u).os.trans h.os, (grown_set w' g o u).tape.trans h.tape, (grown_set w' g o u).output.trans h.output, Nat.le_trans h.size (grown_set w' g o u).size, fun i hi hg hc => ((grown_set w' g o u).block i (Nat.lt_of_lt_of_le hi h.size) (by intro e; cases e; exact hg rfl)).trans (h.block i hi hg hc)⟩
theorem ButS.agr {g : Nat} {S T : Nat → Prop} {w w' : World} (h : ButS g S w w') (h1 : ¬ T g) (h2 : Dj T S) : AgrS T w w' := ⟨h.size, fun i a l => h.block i l (fun e => h1 (e ▸ a)) (fun q => h2 i a q)⟩
theorem row_agrS {p e s n : Nat} {S : Nat → Prop} {w w' : World} {v : Value} {xs : List Value} (h : w.ownsRow p e s v n xs) (hq : ∀ k, v.ownBlock = some k → S k) (k : AgrS S w w') : w'.ownsRow p e s v n xs := by
 refine ⟨h.1, ?_⟩
 rcases h.2 with hn | ⟨g, cap, cur, hv, hb, hg, rest⟩
 ·exact .inl hn
 ·exact .inr ⟨g, cap, cur, hv, hb, (k.2 g (hq g (by rw [hv]; rfl)) (Array.getElem?_eq_some_iff.1 hg).1).trans hg, rest⟩
/-- rows of prefixes -/
def OwPr (w : World) (S : Nat → Prop) (v : Value) (l : List (Int × Int)) : Prop := OwnP w 0 v l ∧ (∀ k, v.ownBlock = some k → S k) ∧ l.length ≤ 1048576
theorem OwPr.agr {w w' : World} {S : Nat → Prop} {v : Value} {l : List (Int × Int)} (h : OwPr w S v l) (a : AgrS S w w') : OwPr w' S v l := ⟨row_agrS h.1 h.2.1 a, h.2⟩
theorem OwPr.rd {w : World} {S : Nat → Prop} {v : Value} {l : List (Int × Int)} (h : OwPr w S v l) : RdP w v l := h.1.rd
/-- rows of numbers -/
def OwIr (w : World) (S : Nat → Prop) (v : Value) (l : List Int) : Prop := OwnI w 0 v l ∧ (∀ k, v.ownBlock = some k → S k) ∧ l.length ≤ 1048576 ∧ ∀ x ∈ l, -9223372036854775808 ≤ x ∧ x ≤ 9223372036854775807
theorem OwIr.agr {w w' : World} {S : Nat → Prop} {v : Value} {l : List Int} (h : OwIr w S v l) (a : AgrS S w w') : OwIr w' S v l := ⟨row_agrS h.1 h.2.1 a, h.2⟩
theorem OwIr.rd {w : World} {S : Nat → Prop} {v : Value} {l : List Int} (h : OwIr w S v l) : RdI w v l := OwnI.rd h.1 h.2.2.2
/-- the blocks from a to b -/
def Rg (a b : Nat) : Nat → Prop := fun i => a ≤ i ∧ i < b
theorem AgrS.refl (S : Nat → Prop) (w : World) : AgrS S w w := ⟨Nat.le_refl _, fun _ _ _ => rfl⟩
theorem AgrS.trans {S : Nat → Prop} {a b c : World} (h : AgrS S a b) (k : AgrS S b c) : AgrS S a c := ⟨Nat.le_trans h.1 k.1, fun i hs hi => (k.2 i hs (Nat.lt_of_lt_of_le hi h.1)).trans (h.2 i hs hi)⟩
theorem MidS.up {S T : Nat → Prop} {w w' : World} (h : MidS S w w') (hs : ∀ b, S b → T b) : MidS T w w' := ⟨h.os, h.tape, h.output, h.size, fun i hi hc => h.block i hi (fun q => hc (hs i q))⟩
theorem app_some {xs ys : List Value} {i : Nat} {x : Value} (h : xs[i]? = some x) : (xs ++ ys)[i]? = some x := by
 rw [List.getElem?_append_left (List.getElem?_eq_some_iff.1 h).1]; exact h
end Go.Proofs.YtbcmoofpgffbhabGreat
namespace Go.Proofs.YtbcmoofpgffbhabGreat
open Go.ChangeShapes Go.WideShapes Go.ChangeAt Go.RowKit Go.BigFrame Go.Joins
set_option linter.unusedVariables false
set_option maxRecDepth 100000
set_option linter.unusedSimpArgs false
set_option maxRecDepth 100000

theorem szES_l (v : Value) (L : List Ent) (left : Int) (w : World) (h : RdE w v L) (hl0 : 0 ≤ left) (hl1 : left ≤ 1048576) :
  Calls Tryz.prog 111 #[v, .int .i64 left] w fun e w' => ∃ r : Int, e = .returned (.int .i64 r) ∧ (¬ r < 0 → r = left - (L.length : Nat) - (wtE L : Nat)) ∧ (r < 0 → r = -1) ∧ Below w.heap.size w w' := by
 have hm := h.1; obtain ⟨a, c, rfl, hc⟩ := h.el; obtain ⟨n, hn⟩ : ∃ n, n = L.length := ⟨_, rfl⟩; rw [← hn] at hc hm ⊢; have HN := Lib.hid hn; clear h hn
 by_cases hbig : left - n < 0
 ·go_enter Tryz.func111, Tryz.ntmps111
  have hw1 : IntKind.i64.wrap (left - (n : Int)) = left - (n : Int) := wrap64_in _ (by omega) (by omega); go_wp2
  go_ret
  exact ⟨-1, rfl, fun h => by omega, fun _ => rfl, Below.refl _ _⟩
 ·have hnn : (n : Int) ≤ 1048576 := by omega
  have hw1 : IntKind.i64.wrap (left - (n : Int)) = left - (n : Int) := wrap64_in _ (by omega) (by omega)
  go_enter Tryz.func111, Tryz.ntmps111
  go_wp2
  go_loopw [1, 5] (fun q i wr => ∃ k : Nat, k ≤ n ∧ i = .int .i64 k ∧ (∃ l : Int, q = .int .i64 l ∧ 0 ≤ l ∧ l = left - (n : Int) - (wtE (L.take k) : Nat)) ∧ Below w.heap.size w wr) (fun _ i _ => n - (intOf i).toNat)
  case atStart => exact ⟨0, Nat.zero_le _, rfl, ⟨_, rfl, by omega, by simp [wtE]⟩, Below.refl _ _⟩
  case round =>
   obtain ⟨k, hk, rfl, ⟨l, rfl, hl0, hl⟩, hB⟩ := hrel; have HL := Lib.hid hl; have hl1 : l ≤ 1048576 := by omega
   clear hl
   by_cases hlt : k < n
   ·have hltI : (k : Int) < (n : Int) := by omega
    obtain ⟨b, o, rfl, hE⟩ := hc k hlt; obtain ⟨E, hx⟩ : ∃ E, L.getD k e0 = E := ⟨_, rfl⟩; rw [hx] at hE; obtain ⟨pv, cv, hp, hq, k0, k1, k2, k3, k4, k5, k6⟩ := hE.keep hB; have HX := Lib.hid hx; have HCC := Lib.hid hc; clear hx hc hE; obtain ⟨r, hr⟩ : ∃ r, szA l E.p E.c = r := ⟨_, rfl⟩; have HR := Lib.hid hr; have hneg1 : r < 0 → r = -1 := fun hneg => by rw [← hr] at hneg ⊢; exact szA_neg hl0 hneg
    have HN1 := Lib.hid hneg1; clear hr hneg1
    by_cases hneg : r < 0
    ·go_wp2_with fail
     refine (szEnt_any pv cv E.p E.c _ _ _ _ _ _ _ hp hq hl0 hl1).mono ?_; rw [HR.out]; rintro e w1 ⟨rfl, hb⟩; have hB2 := below_step hB hb; clear hb hB k0 k1 k2 k3 k4 k5 k6 hp hq; go_wp2
     go_ret
     exact ⟨-1, rfl, fun h => by omega, fun _ => rfl, hB2⟩
    ·go_wp2_with fail
     refine (szEnt_any pv cv E.p E.c _ _ _ _ _ _ _ hp hq hl0 hl1).mono ?_; rw [HR.out]; rintro e w1 ⟨rfl, hb⟩; have hB2 := below_step hB hb; clear hb hB k0 k1 k2 k3 k4 k5 k6 hp hq; go_wp2
     go_roundw
     case rel =>
      refine ⟨k + 1, by omega, by go_num, ⟨r, rfl, by omega, ?_⟩, hB2⟩; have h1 := wt_take (L := L) (k := k) (by rw [← HN.out]; exact hlt); rw [HX.out] at h1; have h2 := szA_eq (left := l) (p := E.p) (c := E.c) (by rw [HR.out]; omega); rw [HR.out] at h2; have h3 := HL.out
      omega
     case measure => simp [intOf]; omega
   ·have hkn : k = n := by omega
    subst hkn; have hw : wtE (L.take k) = wtE L := by rw [List.take_of_length_le (by rw [HN.out]; exact Nat.le_refl _)]
    clear hc; go_wp2
    go_ret
    refine ⟨l, rfl, fun _ => ?_, fun h => by omega, hB⟩; have h3 := HL.out; rw [hw] at h3
    exact h3
theorem szRb_l (v : Value) (L : List Ent) (left : Int) (w : World) (h : RdE w v L) (hl0 : 0 ≤ left) (hl1 : left ≤ 1048576) :
  Calls Tryz.prog 42 #[.agg #[v], .int .i64 left] w fun e w' => ∃ r : Int, e = .returned (.int .i64 r) ∧ (¬ r < 0 → r = left - (L.length : Nat) - (wtE L : Nat)) ∧ Below w.heap.size w w' := by
 obtain ⟨bA, B0, z⟩ := one w [v] 25; replace h := h.keep B0; clear z
 go_enter Tryz.func42, Tryz.ntmps42
 go_wp2_with fail; refine (szES_l _ L left _ h hl0 hl1).mono ?_; rintro e w1 ⟨r, rfl, h1, h2, hb⟩; replace B0 := below_step B0 hb; have H1 := Lib.hid h1; have H2 := Lib.hid h2; clear hb h1 h2
 by_cases hneg : r < 0
 ·go_wp2
  go_ret
  exact ⟨_, rfl, fun h => by omega, B0⟩
 ·go_wp2
  go_ret
  exact ⟨r, rfl, H1.out, B0⟩
structure Nd where
 an : Int
 own : List (Int × Int)
 bw : Int
 dr : Bool
 rib : List Ent
 sent : List Ent
/-- the values of the slices of a switch read as they should -/
def RdN (w : World) (ov rv sv : Value) (N : Nd) : Prop := RdP w ov N.own ∧ RdE w rv N.rib ∧ RdE w sv N.sent
theorem RdN.keep {w w' : World} {ov rv sv : Value} {N : Nd} (h : RdN w ov rv sv N) (hb : Below w.heap.size w w') : RdN w' ov rv sv N := ⟨h.1.keep hb, h.2.1.keep hb, h.2.2.keep hb⟩
def wtN (N : Nd) : Nat := N.own.length + (N.rib.length + wtE N.rib) + (N.sent.length + wtE N.sent)
theorem list6 {α : Type} {xs : List α} (h : xs.length = 6) : ∃ c0 c1 c2 c3 c4 c5, xs = [c0, c1, c2, c3, c4, c5] := by
 match xs, h with
 | [c0, c1, c2, c3, c4, c5], _ => exact ⟨c0, c1, c2, c3, c4, c5, rfl⟩
section
variable {H : Type} {enc : TypeId × Value → H} {W : World} {base : Nat} {d : DataW H} {p : List MemPlace} {v : Value}
theorem cellsB1n : Tryz.prog.cellsOf 4 = 1 := by kernel_rfl
theorem cellsPS1n : Tryz.prog.cellsOf 22 = 1 := by kernel_rfl
theorem rib_trod {fuel : Nat} {x : Value} {y : DataW H × List MemPlace} (h : DataW.trod enc Tryz.prog W 0 (fun _ => true) true fuel 25 [x] = some y) : ∃ L, RdE W x L := by
 obtain ⟨xs, n, _, hx, hl, hlen, hf⟩ := DataW.trod_struct Tryz.underlying25 h; have h0 := hf 0 _ rfl
 match xs, hlen with
 | [y0], _ => exact rdE_trod (W := W) (v := x) (fuel := n) (y := y0) (by simpa [Value.cells, cellsES1] using h0)
end
end Go.Proofs.YtbcmoofpgffbhabGreat
namespace Go.Proofs.YtbcmoofpgffbhabGreat
open Go.ChangeShapes Go.WideShapes Go.ChangeAt Go.RowKit Go.BigFrame Go.Joins
set_option linter.unusedVariables false
set_option maxRecDepth 100000
set_option linter.unusedSimpArgs false
set_option maxRecDepth 100000

/-- a table that may be marked: its block and its rows lie in base .. hi -/
def MkR (w : World) (base hi : Nat) (u : Value) (L : List Ent) : Prop := ∃ B, u = .slice (some ⟨B, 0, none⟩) L.length L.length ∧ MkE w w base B hi L.length L
theorem MkR.other {w w' : World} {base hi b0 h0 : Nat} {u : Value} {L : List Ent} (h : MkR w base hi u L) (s : Soft b0 h0 w w') (hd : h0 ≤ base ∨ hi ≤ b0) : MkR w' base hi u L := by
 obtain ⟨B, e, s0, c, ew, h1, h2, h3⟩ := h; have hblk : w'.heap[B]? = w.heap[B]? := s.block B (by omega) (by omega); refine ⟨B, e, Soft.refl _ _ _, fun j hj => ⟨s.ex _ _ (c j hj).1, (s.fz _ _ (c j hj).1).trans (c j hj).2⟩, fun i hi' => ?_, h1, h2, Nat.le_trans h3 s.size⟩; obtain ⟨u1, u2, e1, e2, r1, r2⟩ := ew i hi'
 exact ⟨u1, u2, (World.cell?_of_block hblk).trans e1, (World.cell?_of_block hblk).trans e2, r1.soft s, r2.soft s⟩
theorem MkR.keep {w w' : World} {base hi : Nat} {u : Value} {L : List Ent} (h : MkR w base hi u L) (hb : Below w.heap.size w w') : MkR w' base hi u L := h.other (Soft.of_below hi hi hb) (.inr (Nat.le_refl _))
theorem MkR.far {w : World} {base hi C o : Nat} {u x : Value} {L : List Ent} (h : MkR w base hi u L) (hC : C < base) : MkR (w.setCell ⟨C, o, none⟩ x) base hi u L := h.other (soft1 w C o x) (.inl hC)
theorem OwnE.mkR {w : World} {base : Nat} {u : Value} {L : List Ent} (h : OwnE w base u L) : MkR w base w.heap.size u L := h.mk
theorem OwnE.far {w : World} {base C o : Nat} {v x : Value} {L : List Ent} (h : OwnE w base v L) (hC : C < base) : OwnE (w.setCell ⟨C, o, none⟩ x) base v L := by
 obtain ⟨B, rfl, hb, xs, hl, hBl, hx⟩ := h; refine ⟨B, rfl, hb, xs, hl, hBl.far (by omega), fun i hi => ?_⟩; obtain ⟨u1, u2, g1, g2, g3⟩ := hx i hi
 exact ⟨u1, u2, g1.far (by omega), g2.far (by omega), g3⟩
/-- a fresh switch: its list, its table and what was sent lie behind one another -/
def NewNd (w : World) (N : Nd) (e : Ending) (w' : World) : Prop :=
 ∃ ov ru su h1 h2, e = .returned (.agg #[.int .i64 N.an, ov, .int .i64 N.bw, .bool N.dr, ru, su]) ∧ OwnP w' w.heap.size ov N.own ∧ (∀ k, ov.ownBlock = some k → k < h1) ∧ OwnE w' h1 ru N.rib ∧ MkR w' h1 h2 ru N.rib ∧ OwnE w' h2 su N.sent ∧ MkR w' h2 w'.heap.size su N.sent ∧ w.heap.size ≤ h1 ∧ h1 ≤ h2 ∧ h2 ≤ w'.heap.size ∧ Below w.heap.size w w'
set_option maxHeartbeats 2000000 in
theorem toNd_any (ov rv sv : Value) (N : Nd) (w : World) (h : RdN w ov rv sv N) (hn : wtN N ≤ 1048576) :
  Calls Tryz.prog 11 #[.agg #[.int .i64 N.an, ov, .int .i64 N.bw, .bool N.dr, rv, sv]] w (NewNd w N) := by
 have hl1 : N.own.length ≤ 1048576 := by unfold wtN at hn; omega
 have hl2 : N.rib.length + wtE N.rib ≤ 1048576 := by unfold wtN at hn; omega
 have hl3 : N.sent.length + wtE N.sent ≤ 1048576 := by unfold wtN at hn; omega
 obtain ⟨bA, bR, bO, B1, z⟩ := three w [.int .i64 N.an, ov, .int .i64 N.bw, .bool N.dr, rv, sv] [.int .i64 0, .slice none 0 0, .int .i64 0, .bool false, .slice none 0 0, .slice none 0 0] [.int .i64 N.an, .slice none 0 0, .int .i64 0, .bool false, .slice none 0 0, .slice none 0 0] 27 35 35; clear hn
 go_enter Tryz.func11, Tryz.ntmps11
 go_wp2_with fail; refine (toP_any ov N.own _ (h.keep B1).1 hl1).mono ?_; rintro e w1 ⟨oa, oc, rfl, ho, hb⟩; have hs := hb.size; rw [z] at ho hs; replace bA := bA.keep hb; replace bR := bR.keep hb; replace bO := bO.keep hb; replace B1 := below_step B1 hb; clear z hb; obtain ⟨A, hA⟩ : ∃ A, A = w.heap.size := ⟨_, rfl⟩; obtain ⟨R, hR⟩ : ∃ R, R = w.heap.size + 1 := ⟨_, rfl⟩; obtain ⟨O, hO⟩ : ∃ O, O = w.heap.size + 1 + 1 := ⟨_, rfl⟩; rw [← hA] at bA; rw [← hR] at bR; rw [← hO] at bO; rw [← hO, ← hR, ← hA]; have hO3 : O < w.heap.size + 3 := by omega
 have hR3 : R < w.heap.size + 3 := by omega
 have hRO : R ≠ O := by omega
 have hAO : A ≠ O := by omega
 have hwO : w.heap.size ≤ O := by omega
 have hwR : w.heap.size ≤ R := by omega
 have hw3 : w.heap.size ≤ w.heap.size + 3 := by omega
 clear hA hR hO; obtain ⟨X, hX⟩ : ∃ X, X = w.heap.size + 3 := ⟨_, rfl⟩; rw [← hX] at ho hs hO3 hR3 hw3; clear hX; have a2 := bA.c 2 rfl; have a3 := bA.c 3 rfl; have a4 := bA.c 4 rfl; have o1 := bO.c 1 rfl; have of1 := bO.f 1 rfl; have o2 := bO.c 2 rfl; have of2 := bO.f 2 rfl; have o3 := bO.c 3 rfl; have of3 := bO.f 3 rfl; go_wp2_with fail; clear a2 a3 a4 o1 of1 o2 of2 o3 of3; replace bO := ((bO.set 1 (.slice oa N.own.length oc)).set 2 (.int .i64 N.bw)).set 3 (.bool N.dr); replace bA := ((bA.far (o := 1) (u := .slice oa N.own.length oc) hAO).far (o := 2) (u := .int .i64 N.bw) hAO).far (o := 3) (u := .bool N.dr) hAO; replace bR := ((bR.far (o := 1) (u := .slice oa N.own.length oc) hRO).far (o := 2) (u := .int .i64 N.bw) hRO).far (o := 3) (u := .bool N.dr) hRO; replace ho := ((ho.far (o := 1) (u := .slice oa N.own.length oc) hO3).far (o := 2) (u := .int .i64 N.bw) hO3).far (o := 3) (u := .bool N.dr) hO3; replace B1 := ((B1.setCell (p := ⟨O, 1, none⟩) hwO (.slice oa N.own.length oc)).setCell (p := ⟨O, 2, none⟩) hwO (.int .i64 N.bw)).setCell (p := ⟨O, 3, none⟩) hwO (.bool N.dr); obtain ⟨V, hV⟩ : ∃ V, V = ((w1.setCell ⟨O, 1, none⟩ (.slice oa N.own.length oc)).setCell ⟨O, 2, none⟩ (.int .i64 N.bw)).setCell ⟨O, 3, none⟩ (.bool N.dr) := ⟨_, rfl⟩; have hXV : X ≤ V.heap.size := by rw [hV]; simpa using hs
 rw [← hV] at bO bA bR ho B1 ⊢; clear hV hs; have hok : ∀ k, (Value.slice oa N.own.length oc).ownBlock = some k → k < V.heap.size := fun k hk => (World.ownsRow.lt ho k hk).2
 have HOK := Lib.hid hok; clear hok; simp only [List.set_cons_zero, List.set_cons_succ] at bO; refine (toRb_any rv N.rib V (h.keep B1).2.1 hl2).mono ?_; rintro e w2 ⟨ru, rfl, h1, hb⟩; have hs := hb.size; replace bA := bA.keep hb; replace bR := bR.keep hb; replace bO := bO.keep hb; replace ho := ho.keep hb; replace B1 := below_step B1 hb; have m1 := h1.mkR; clear hb; obtain ⟨B, e1, -⟩ := m1; have m1 := h1.mkR; subst e1; have a5 := bA.c 5 rfl; have o4 := bO.c 4 rfl; have of4 := bO.f 4 rfl; go_wp2_with fail; clear a5 o4 of4; replace bO := bO.set 4 (.slice (some ⟨B, 0, none⟩) N.rib.length N.rib.length); replace bR := bR.far (o := 4) (u := .slice (some ⟨B, 0, none⟩) N.rib.length N.rib.length) hRO; replace ho := ho.far (o := 4) (u := .slice (some ⟨B, 0, none⟩) N.rib.length N.rib.length) hO3; have hOV : O < V.heap.size := by omega
 have hRV : R < V.heap.size := by omega
 replace h1 := h1.far (o := 4) (x := .slice (some ⟨B, 0, none⟩) N.rib.length N.rib.length) hOV; replace m1 := m1.far (o := 4) (x := .slice (some ⟨B, 0, none⟩) N.rib.length N.rib.length) hOV; replace B1 := B1.setCell (p := ⟨O, 4, none⟩) hwO (.slice (some ⟨B, 0, none⟩) N.rib.length N.rib.length); obtain ⟨V2, hV⟩ : ∃ V2, V2 = w2.setCell ⟨O, 4, none⟩ (.slice (some ⟨B, 0, none⟩) N.rib.length N.rib.length) := ⟨_, rfl⟩; have hs2 : w2.heap.size = V2.heap.size := by rw [hV]; simp
 rw [← hV] at bO bR ho h1 m1 B1 ⊢; rw [hs2] at m1 hs; clear hV hs2 bA; simp only [List.set_cons_zero, List.set_cons_succ] at bO; refine (toRb_any sv N.sent V2 (h.keep B1).2.2 hl3).mono ?_; rintro e w3 ⟨su, rfl, h2, hb⟩; have hs2 := hb.size; replace bR := bR.keep hb; replace bO := bO.keep hb; replace ho := ho.keep hb; replace h1 := h1.keep hb; replace m1 := m1.keep hb; replace B1 := below_step B1 hb; have m2 := h2.mkR; clear hb h; obtain ⟨C, e2, -⟩ := m2; have m2 := h2.mkR; subst e2; have o0 := bO.c 0 rfl; have o1 := bO.c 1 rfl; have o2 := bO.c 2 rfl; have o3 := bO.c 3 rfl; have o4 := bO.c 4 rfl; have o5 := bO.c 5 rfl; have of5 := bO.f 5 rfl; have r0 := bR.c 0 rfl; have rf0 := bR.f 0 rfl; have r1 := bR.c 1 rfl; have rf1 := bR.f 1 rfl; have r2 := bR.c 2 rfl; have rf2 := bR.f 2 rfl; have r3 := bR.c 3 rfl; have rf3 := bR.f 3 rfl; have r4 := bR.c 4 rfl; have rf4 := bR.f 4 rfl; have r5 := bR.c 5 rfl; have rf5 := bR.f 5 rfl; go_wp2_with fail; have bE := (((((((bR.far (o := 5) (u := .slice (some ⟨C, 0, none⟩) N.sent.length N.sent.length) hRO).set 0 (.int .i64 N.an)).set 1 (.slice oa N.own.length oc)).set 2 (.int .i64 N.bw)).set 3 (.bool N.dr)).set 4 (.slice (some ⟨B, 0, none⟩) N.rib.length N.rib.length)).set 5 (.slice (some ⟨C, 0, none⟩) N.sent.length N.sent.length)); have e0 := bE.c 0 rfl; have e1 := bE.c 1 rfl; have e2 := bE.c 2 rfl; have e3 := bE.c 3 rfl; have e4 := bE.c 4 rfl; have e5 := bE.c 5 rfl; have hO2 : O < V2.heap.size := by omega
 have hR2 : R < V2.heap.size := by omega
 have hwX : w.heap.size ≤ X := by omega
 exact bodyPost_ret (v := .agg #[.int .i64 N.an, .slice oa N.own.length oc, .int .i64 N.bw, .bool N.dr, .slice (some ⟨B, 0, none⟩) N.rib.length N.rib.length, .slice (some ⟨C, 0, none⟩) N.sent.length N.sent.length]) (by simp [results, Tryz.results11, go_sem, e0, e1, e2, e3, e4, e5]) rfl
  ⟨_, _, _, V.heap.size, V2.heap.size, rfl, (((((((ho.far (o := 5) (u := .slice (some ⟨C, 0, none⟩) N.sent.length N.sent.length) hO3).far (o := 0) (u := .int .i64 N.an) hR3).far (o := 1) (u := .slice oa N.own.length oc) hR3).far (o := 2) (u := .int .i64 N.bw) hR3).far (o := 3) (u := .bool N.dr) hR3).far (o := 4) (u := .slice (some ⟨B, 0, none⟩) N.rib.length N.rib.length) hR3).far (o := 5) (u := .slice (some ⟨C, 0, none⟩) N.sent.length N.sent.length) hR3).mono hwX, HOK.out, (((((((h1.far (o := 5) (x := .slice (some ⟨C, 0, none⟩) N.sent.length N.sent.length) hOV).far (o := 0) (x := .int .i64 N.an) hRV).far (o := 1) (x := .slice oa N.own.length oc) hRV).far (o := 2) (x := .int .i64 N.bw) hRV).far (o := 3) (x := .bool N.dr) hRV).far (o := 4) (x := .slice (some ⟨B, 0, none⟩) N.rib.length N.rib.length) hRV).far (o := 5) (x := .slice (some ⟨C, 0, none⟩) N.sent.length N.sent.length) hRV), (((((((m1.far (o := 5) (x := .slice (some ⟨C, 0, none⟩) N.sent.length N.sent.length) hOV).far (o := 0) (x := .int .i64 N.an) hRV).far (o := 1) (x := .slice oa N.own.length oc) hRV).far (o := 2) (x := .int .i64 N.bw) hRV).far (o := 3) (x := .bool N.dr) hRV).far (o := 4) (x := .slice (some ⟨B, 0, none⟩) N.rib.length N.rib.length) hRV).far (o := 5) (x := .slice (some ⟨C, 0, none⟩) N.sent.length N.sent.length) hRV), (((((((h2.far (o := 5) (x := .slice (some ⟨C, 0, none⟩) N.sent.length N.sent.length) hO2).far (o := 0) (x := .int .i64 N.an) hR2).far (o := 1) (x := .slice oa N.own.length oc) hR2).far (o := 2) (x := .int .i64 N.bw) hR2).far (o := 3) (x := .bool N.dr) hR2).far (o := 4) (x := .slice (some ⟨B, 0, none⟩) N.rib.length N.rib.length) hR2).far (o := 5) (x := .slice (some ⟨C, 0, none⟩) N.sent.length N.sent.length) hR2), by simpa using (((((((m2.far (o := 5) (x := .slice (some ⟨C, 0, none⟩) N.sent.length N.sent.length) hO2).far (o := 0) (x := .int .i64 N.an) hR2).far (o := 1) (x := .slice oa N.own.length oc) hR2).far (o := 2) (x := .int .i64 N.bw) hR2).far (o := 3) (x := .bool N.dr) hR2).far (o := 4) (x := .slice (some ⟨B, 0, none⟩) N.rib.length N.rib.length) hR2).far (o := 5) (x := .slice (some ⟨C, 0, none⟩) N.sent.length N.sent.length) hR2), by omega, by omega, by simpa using hs2, (((((((B1.setCell (p := ⟨O, 5, none⟩) hwO (.slice (some ⟨C, 0, none⟩) N.sent.length N.sent.length)).setCell (p := ⟨R, 0, none⟩) hwR (.int .i64 N.an)).setCell (p := ⟨R, 1, none⟩) hwR (.slice oa N.own.length oc)).setCell (p := ⟨R, 2, none⟩) hwR (.int .i64 N.bw)).setCell (p := ⟨R, 3, none⟩) hwR (.bool N.dr)).setCell (p := ⟨R, 4, none⟩) hwR (.slice (some ⟨B, 0, none⟩) N.rib.length N.rib.length)).setCell (p := ⟨R, 5, none⟩) hwR (.slice (some ⟨C, 0, none⟩) N.sent.length N.sent.length))⟩
theorem eqNd_same (ov rv sv ov2 rv2 sv2 : Value) (N : Nd) (w : World) (h : RdN w ov rv sv N) (h2 : RdN w ov2 rv2 sv2 N) :
  Calls Tryz.prog 14 #[.agg #[.int .i64 N.an, ov, .int .i64 N.bw, .bool N.dr, rv, sv], .agg #[.int .i64 N.an, ov2, .int .i64 N.bw, .bool N.dr, rv2, sv2]] w fun e w' => e = .returned (.bool true) ∧ Below w.heap.size w w' := by
 obtain ⟨bA, bB, B1, z⟩ := two w [.int .i64 N.an, ov, .int .i64 N.bw, .bool N.dr, rv, sv] [.int .i64 N.an, ov2, .int .i64 N.bw, .bool N.dr, rv2, sv2] 35 35; replace h := h.keep B1; replace h2 := h2.keep B1; clear z; have q0 : (N.an != N.an) = false := by simp
 have q2 : (N.bw != N.bw) = false := by simp
 have q3 : (N.dr != N.dr) = false := by simp
 have a1 := bA.c 1 rfl; have b1 := bB.c 1 rfl
 go_enter Tryz.func14, Tryz.ntmps14
 go_wp2_with fail; refine (eqPS_same _ _ N.own _ h.1 h2.1).mono ?_; rintro e w1 ⟨rfl, hb⟩; replace bA := bA.keep hb; replace bB := bB.keep hb; replace h := h.keep hb; replace h2 := h2.keep hb; replace B1 := below_step B1 hb; clear hb a1 b1; have a2 := bA.c 2 rfl; have b2 := bB.c 2 rfl; have a3 := bA.c 3 rfl; have b3 := bB.c 3 rfl; have a4 := bA.c 4 rfl; have b4 := bB.c 4 rfl; go_wp2_with fail; refine (eqRb_same _ _ N.rib _ h.2.1 h2.2.1).mono ?_; rintro e w2 ⟨rfl, hb⟩; replace bA := bA.keep hb; replace bB := bB.keep hb; replace h := h.keep hb; replace h2 := h2.keep hb; replace B1 := below_step B1 hb; clear hb a2 b2 a3 b3 a4 b4; have a5 := bA.c 5 rfl; have b5 := bB.c 5 rfl; go_wp2_with fail; refine (eqRb_same _ _ N.sent _ h.2.2 h2.2.2).mono ?_; rintro e w3 ⟨rfl, hb⟩; replace B1 := below_step B1 hb; clear hb; go_wp2
 go_ret
 exact ⟨rfl, B1⟩
end Go.Proofs.YtbcmoofpgffbhabGreat
namespace Go.Proofs.YtbcmoofpgffbhabGreat
open Go.ChangeShapes Go.WideShapes Go.ChangeAt Go.RowKit Go.BigFrame Go.Joins
set_option linter.unusedVariables false
set_option maxRecDepth 100000
set_option linter.unusedSimpArgs false
set_option maxRecDepth 100000

/-- an entry beside the values of its two slices -/
structure ET where
 E : Ent
 u : Value
 v : Value
def cellsT (t : ET) : List Value := [.int .i64 t.E.a, .int .i64 t.E.n, .int .i64 t.E.pe, t.u, .int .i64 t.E.pr, t.v, .int .i64 t.E.bw]
def flatT (T : List ET) : List Value := T.flatMap cellsT
theorem flatT_append (S T : List ET) : flatT (S ++ T) = flatT S ++ flatT T := by simp [flatT]
theorem flatT_get (T : List ET) (i j : Nat) (hi : i < T.length) (hj : j < 7) : (flatT T)[i * 7 + j]? = (cellsT (T[i]'hi))[j]? := by
 induction T generalizing i with
 | nil => simp at hi
 | cons t T ih =>
  have e : flatT (t :: T) = cellsT t ++ flatT T := by simp [flatT]
  rw [e]; cases i with
  | zero =>
   rw [Nat.zero_mul, Nat.zero_add, List.getElem?_append_left (by simp [cellsT]; omega)]
   rfl
  | succ i =>
   rw [List.getElem?_append_right (by simp [cellsT]; omega), show (i + 1) * 7 + j - (cellsT t).length = i * 7 + j by simp [cellsT]; omega, ih i (by simpa using hi)]
   rfl
/-- all their rows -/
def rowsT (T : List ET) : List Value := T.flatMap fun t => [t.u, t.v]
def entT (T : List ET) : List Ent := T.map (·.E)
theorem entT_len (T : List ET) : (entT T).length = T.length := by simp [entT]
theorem entT_append (S T : List ET) : entT (S ++ T) = entT S ++ entT T := by simp [entT]
theorem entT_get {T : List ET} {i : Nat} (hi : i < T.length) : (entT T).getD i e0 = (T[i]'hi).E := by simp [entT, List.getD, hi]
/-- a row of entries of the call's own; their slices are rows of its own too, all apart -/
structure OwnT (w : World) (base : Nat) (v : Value) (T : List ET) : Prop where
 row : w.ownsRow base EI 7 v T.length (flatT T)
 own : ∀ t ∈ T, OwnI w base t.u t.E.p ∧ OwnI w base t.v t.E.c
 len : ∀ t ∈ T, (∃ a c, t.u = .slice a t.E.p.length c) ∧ ∃ a c, t.v = .slice a t.E.c.length c
 sep : ∀ t ∈ T, (t.u.ownBlock = none ∨ t.u.ownBlock ≠ v.ownBlock) ∧ (t.v.ownBlock = none ∨ t.v.ownBlock ≠ v.ownBlock)
 apart : (rowsT T).Pairwise Apart
theorem OwnT.nil (w : World) (base : Nat) : OwnT w base (.slice none 0 0) [] := ⟨World.ownsRow_nil _ _ _ _, by simp, by simp, by simp, by simp [rowsT]⟩
theorem OwnT.kept {w w' : World} {base : Nat} {v : Value} {T : List ET} {row : Option Nat} (h : OwnT w base v T) (hg : w.grownBy w' row) (h1 : v.ownBlock = none ∨ v.ownBlock ≠ row) (h2 : ∀ t ∈ T, (t.u.ownBlock = none ∨ t.u.ownBlock ≠ row) ∧ (t.v.ownBlock = none ∨ t.v.ownBlock ≠ row)) : OwnT w' base v T :=
 ⟨World.ownsRow.kept h.row hg h1, fun t ht => ⟨(h.own t ht).1.kept hg (h2 t ht).1, (h.own t ht).2.kept hg (h2 t ht).2⟩, h.len, h.sep, h.apart⟩
theorem OwnT.keep {w w' : World} {base : Nat} {v : Value} {T : List ET} (h : OwnT w base v T) (hb : Below w.heap.size w w') : OwnT w' base v T :=
 ⟨World.ownsRow.kept (row := none) h.row ⟨hb.os, hb.tape, hb.output, hb.size, fun k hk _ => hb.block k hk⟩ (by cases v.ownBlock <;> simp), fun t ht => ⟨(h.own t ht).1.keep hb, (h.own t ht).2.keep hb⟩, h.len, h.sep, h.apart⟩
theorem OwnT.lt {w : World} {base : Nat} {v : Value} {T : List ET} (h : OwnT w base v T) : ∀ t ∈ T, (∀ k, t.u.ownBlock = some k → base ≤ k ∧ k < w.heap.size) ∧ ∀ k, t.v.ownBlock = some k → base ≤ k ∧ k < w.heap.size :=
 fun t ht => ⟨fun k hk => World.ownsRow.lt (h.own t ht).1 k hk, fun k hk => World.ownsRow.lt (h.own t ht).2 k hk⟩
theorem OwnT.far {w : World} {base : Nat} {v u : Value} {T : List ET} {B o : Nat} (h : OwnT w base v T) (hB : B < base) : OwnT (w.setCell ⟨B, o, none⟩ u) base v T := by
 have ne : ∀ {x : Value}, (∀ k, x.ownBlock = some k → base ≤ k) → x.ownBlock = none ∨ x.ownBlock ≠ some B := fun {x} hx => by
  cases hv : x.ownBlock with
  | none => exact .inl rfl
  | some k => exact .inr (by have := hx k hv; intro e; cases e; omega)
 exact h.kept (grown_set w B o u) (ne fun k hk => (World.ownsRow.lt h.row k hk).1) fun t ht => ⟨ne fun k hk => ((h.lt t ht).1 k hk).1, ne fun k hk => ((h.lt t ht).2 k hk).1⟩
theorem OwnT.mono {w : World} {base base' : Nat} {v : Value} {T : List ET} (h : OwnT w base v T) (hb : base' ≤ base) : OwnT w base' v T := by
 refine ⟨⟨h.row.1, ?_⟩, fun t ht => ⟨(h.own t ht).1.mono hb, (h.own t ht).2.mono hb⟩, h.len, h.sep, h.apart⟩
 rcases h.row.2 with hn | ⟨g, cap, cur, hv, hg, rest⟩
 ·exact .inl hn
 ·exact .inr ⟨g, cap, cur, hv, by omega, rest⟩
/-- it reads as its entries -/
theorem OwnT.rd {w : World} {base : Nat} {v : Value} {T : List ET} (h : OwnT w base v T) (hd : ∀ t ∈ T, BdE t.E) : RdE w v (entT T) := by
 rcases h.row.2 with ⟨rfl, hn⟩ | ⟨g, cap, cur, rfl, hb, hg, hnc, hcm, hcs, htake⟩
 ·have hT : T = [] := List.eq_nil_of_length_eq_zero hn
  subst hT
  exact RdE.nil w
 ·rw [← entT_len]
  refine ⟨by rw [entT_len]; unfold maxLen at hcm; omega, ?_⟩
  by_cases hz : T.length = 0
  ·exact .inl ⟨some ⟨g, 0, none⟩, cap, by rw [entT_len, hz], List.eq_nil_of_length_eq_zero (by rw [entT_len, hz]), fun h => by cases h⟩
  ·refine .inr ⟨g, 0, cap, rfl, by rw [entT_len]; omega, fun i hi => ?_⟩
   rw [entT_len] at hi; have hm : T[i] ∈ T := List.getElem_mem hi; rw [entT_get hi]
   have hc : ∀ j, j < 7 → w.cell? ⟨g, 0 + i * 7 + j, none⟩ = (cellsT T[i])[j]? := fun j hj => by
    rw [Nat.zero_add, h.row.cellAt (i * 7 + j) (by omega), flatT_get T i j hi hj]
   exact ⟨T[i].u, T[i].v, (h.own _ hm).1.rd (hd _ hm).1, (h.own _ hm).2.rd (hd _ hm).2, hc 0 (by omega), hc 1 (by omega), hc 2 (by omega), hc 3 (by omega), hc 4 (by omega), hc 5 (by omega), hc 6 (by omega)⟩
theorem infoE2 : (Tryz.prog.info? EI).map (fun i => (i.zero, i.size, i.bytes)) = some (some (.agg #[.int .i64 0, .int .i64 0, .int .i64 0, .slice none 0 0, .int .i64 0, .slice none 0 0, .int .i64 0]), 7, 88) := by kernel_rfl
end Go.Proofs.YtbcmoofpgffbhabGreat
namespace Go.Proofs.YtbcmoofpgffbhabGreat
open Go.ChangeShapes Go.WideShapes Go.ChangeAt Go.RowKit Go.BigFrame Go.Joins
set_option linter.unusedVariables false
set_option maxRecDepth 100000
set_option linter.unusedSimpArgs false
set_option maxRecDepth 100000

/-- append(s, E): the slice it is handed over in has been made just now -/
theorem wp_appE {ops : Array Oper} {rest : List Oper} {o : Oper} {a : Act} {Q : Exit → Act → World → Prop} {w : World} (hgd : o.guard = none) (s x : Operand)
  (ho : o.op = .call { callee := .builtin .append, args := #[s, x], argTypes := #[29, 29] })
  (base g c : Nat) (v : Value) (n : Nat) (xs : List Value) (ys : List Value) (hs : a.eval s = v) (hx : a.eval x = .slice (some ⟨g, 0, none⟩) 1 c) (hown : w.ownsRow base EI 7 v n xs)
  (h0 : Bl w g ys) (h7 : ys.length = 7) (h1 : ∀ u ∈ ys, u.oneCell' = true) (hlen : n + 1 ≤ 4294967296) (hbase : base ≤ w.heap.size)
  (h : ∀ v' w', w'.ownsRow base EI 7 v' (n + 1) (xs ++ ys) → w.grownBy w' v.ownBlock → (v'.ownBlock = v.ownBlock ∨ v'.ownBlock = some w.heap.size) → wpList Tryz.prog ops Q rest (a.put o.dst v') w') : wpList Tryz.prog ops Q (o :: rest) a w := by
 obtain ⟨i0, hi, hz0, hz1, hz2⟩ := info_parts infoE2; refine wpList_append_own_at (w := w) hgd s x 29 ho base EI i0 (.agg #[.int .i64 0, .int .i64 0, .int .i64 0, .slice none 0 0, .int .i64 0, .slice none 0 0, .int .i64 0]) 7 88 Tryz.underlying29 hi hz0 hz1 hz2 rfl (by decide) v n xs hs hown ⟨g, 0, none⟩ 1 c ys hx (by omega) (fun j y hy => ?_) h1 (by unfold maxLen; omega) (by omega) hbase fun v' w' ho' hg' _ hor => h v' w' ho' hg' hor
 have hadd : ∀ j, (⟨g, 0, none⟩ : Addr).add j = ⟨g, j, none⟩ := fun j => by unfold Addr.add; split <;> simp_all
 rw [hadd]
 exact h0.c j hy
end Go.Proofs.YtbcmoofpgffbhabGreat
namespace Go.Proofs.YtbcmoofpgffbhabGreat
open Go.ChangeShapes Go.WideShapes Go.ChangeAt Go.RowKit Go.BigFrame Go.Joins
set_option linter.unusedVariables false
set_option maxRecDepth 100000
set_option linter.unusedSimpArgs false
set_option maxRecDepth 100000

theorem below_growT {V w w' : World} {v : Value} {base n : Nat} {xs : List Value} (h : Below V.heap.size V w) (ho : w.ownsRow base EI 7 v n xs) (hb : V.heap.size ≤ base) (hg : w.grownBy w' v.ownBlock) : Below V.heap.size V w' :=
 Below.grown h hg h.size (fun k hk => Nat.le_trans hb (World.ownsRow.lt ho k hk).1)
end Go.Proofs.YtbcmoofpgffbhabGreat
namespace Go.Proofs.YtbcmoofpgffbhabGreat
open Go.ChangeShapes Go.WideShapes Go.ChangeAt Go.RowKit Go.BigFrame Go.Joins
set_option linter.unusedVariables false
set_option maxRecDepth 100000
set_option linter.unusedSimpArgs false
set_option maxRecDepth 100000

end Go.Proofs.YtbcmoofpgffbhabGreat
namespace Go.Proofs.YtbcmoofpgffbhabGreat
open Go.ChangeShapes Go.WideShapes Go.ChangeAt Go.RowKit Go.BigFrame Go.Joins
set_option linter.unusedVariables false
set_option maxRecDepth 100000
set_option linter.unusedSimpArgs false
set_option maxRecDepth 100000

/-- a block holds these cells, and what lay in w lies there -/
def KpA (w : World) (A : Nat) (xs : List Value) (w' : World) : Prop := Bl w' A xs ∧ Below w.heap.size w w'
theorem KpA.next {w w' w2 : World} {A : Nat} {xs : List Value} (h : KpA w A xs w') (hb : Below w'.heap.size w' w2) : KpA w A xs w2 := ⟨h.1.keep hb, below_step h.2 hb⟩
end Go.Proofs.YtbcmoofpgffbhabGreat
namespace Go.Proofs.YtbcmoofpgffbhabGreat
open Go.ChangeShapes Go.WideShapes Go.ChangeAt Go.RowKit Go.BigFrame Go.Joins
set_option linter.unusedVariables false
set_option maxRecDepth 100000
set_option linter.unusedSimpArgs false
set_option maxRecDepth 100000

end Go.Proofs.YtbcmoofpgffbhabGreat
namespace Go.Proofs.YtbcmoofpgffbhabGreat
open Go.ChangeShapes Go.WideShapes Go.ChangeAt Go.RowKit Go.BigFrame Go.Joins
set_option linter.unusedVariables false
set_option maxRecDepth 100000
set_option linter.unusedSimpArgs false
set_option maxRecDepth 100000

end Go.Proofs.YtbcmoofpgffbhabGreat
namespace Go.Proofs.YtbcmoofpgffbhabGreat
open Go.ChangeShapes Go.WideShapes Go.ChangeAt Go.RowKit Go.BigFrame Go.Joins
set_option linter.unusedVariables false
set_option maxRecDepth 100000
set_option linter.unusedSimpArgs false
set_option maxRecDepth 100000

end Go.Proofs.YtbcmoofpgffbhabGreat
namespace Go.Proofs.YtbcmoofpgffbhabGreat
open Go.ChangeShapes Go.WideShapes Go.ChangeAt Go.RowKit Go.BigFrame Go.Joins
set_option linter.unusedVariables false
set_option maxRecDepth 100000
set_option linter.unusedSimpArgs false
set_option maxRecDepth 100000

/-- an entry as marks from k on leave it -/
def markE (k : Int) (p c : Nat) : Ent := ⟨k, k + 1, k + 2, imarks (k + 3) p, k + 3 + p, imarks (k + 3 + p + 1) c, k + 3 + p + 1 + c⟩
def wE (E : Ent) : Nat := 5 + E.p.length + E.c.length
/-- a table's entries bear the marks from k on; W: how many each bears -/
def MarkedW (k : Int) (W : List Nat) (L : List Ent) (j : Nat) : Prop := L.map wE = W ∧ ∀ i, i < j → i < L.length → L.getD i e0 = markE (k + (W.take i).sum) (L.getD i e0).p.length (L.getD i e0).c.length
end Go.Proofs.YtbcmoofpgffbhabGreat
namespace Go.Proofs.YtbcmoofpgffbhabGreat
open Go.ChangeShapes Go.WideShapes Go.ChangeAt Go.RowKit Go.BigFrame Go.Joins
set_option linter.unusedVariables false
set_option maxRecDepth 100000
set_option linter.unusedSimpArgs false
set_option maxRecDepth 100000

/-- no block but those from base to hi has turned -/
structure MidB (base hi : Nat) (w w' : World) : Prop where
 os : w'.os = w.os
 tape : w'.tape = w.tape
 output : w'.output = w.output
 size : w.heap.size ≤ w'.heap.size
 block : ∀ i, i < w.heap.size → (i < base ∨ hi ≤ i) → w'.heap[i]? = w.heap[i]?
theorem MidB.refl (base hi : Nat) (w : World) : MidB base hi w w := ⟨rfl, rfl, rfl, Nat.le_refl _, fun _ _ _ => rfl⟩
theorem MidB.grown {base hi : Nat} {w w' w2 : World} {row : Option Nat} (h : MidB base hi w w') (hg : w'.grownBy w2 row) (hr : ∀ k, row = some k → base ≤ k ∧ k < hi) : MidB base hi w w2 :=
 ⟨hg.os.trans h.os, hg.tape.trans h.tape, hg.output.trans h.output, Nat.le_trans h.size hg.size, fun i hi' hc => (hg.block i (Nat.lt_of_lt_of_le hi' h.size) (fun e => by have := hr i e.symm; omega)).trans (h.block i hi' hc)⟩
theorem MidB.trans {base hi : Nat} {a b c : World} (h : MidB base hi a b) (k : MidB base hi b c) : MidB base hi a c :=
 ⟨k.os.trans h.os, k.tape.trans h.tape, k.output.trans h.output, Nat.le_trans h.size k.size, fun i hi' hc => (k.block i (Nat.lt_of_lt_of_le hi' h.size) hc).trans (h.block i hi' hc)⟩
theorem MidB.below {base hi B : Nat} {w w' : World} (h : MidB base hi w w') (h1 : B ≤ base) (h2 : B ≤ w.heap.size) : Below B w w' :=
 ⟨h.os, h.tape, h.output, h.size, fun i hi' => h.block i (by omega) (.inl (by omega))⟩
/-- all blocks of a table lie below hi -/
def InH (hi : Nat) (v : Value) (T : List ET) : Prop := (∀ k, v.ownBlock = some k → k < hi) ∧ ∀ t ∈ T, (∀ k, t.u.ownBlock = some k → k < hi) ∧ ∀ k, t.v.ownBlock = some k → k < hi
end Go.Proofs.YtbcmoofpgffbhabGreat
namespace Go.Proofs.YtbcmoofpgffbhabGreat
open Go.ChangeShapes Go.WideShapes Go.ChangeAt Go.RowKit Go.BigFrame Go.Joins
set_option linter.unusedVariables false
set_option maxRecDepth 100000
set_option linter.unusedSimpArgs false
set_option maxRecDepth 100000

theorem OwnI.softT {base hi b : Nat} {w w' : World} {v : Value} {l : List Int} (h : OwnI w b v l) (s : Soft base hi w w') (hv : hi ≤ b) : OwnI w' b v l := by
 unfold OwnI at h ⊢; refine ⟨h.1, ?_⟩
 rcases h.2 with hn | ⟨g, cap, cur, e, hb, hg, rest⟩
 ·exact .inl hn
 ·have hlt : g < w.heap.size := (World.ownsRow.lt h g (by rw [e]; rfl)).2
  exact .inr ⟨g, cap, cur, e, hb, (s.block g hlt (.inr (by omega))).trans hg, rest⟩
theorem OwnT.soft {base hi b : Nat} {w w' : World} {v : Value} {T : List ET} (h : OwnT w b v T) (s : Soft base hi w w') (hv : hi ≤ b) : OwnT w' b v T := by
 refine ⟨⟨h.row.1, ?_⟩, fun t ht => ⟨(h.own t ht).1.softT s hv, (h.own t ht).2.softT s hv⟩, h.len, h.sep, h.apart⟩
 rcases h.row.2 with hn | ⟨g, cap, cur, e, hb, hg, rest⟩
 ·exact .inl hn
 ·have hlt : g < w.heap.size := (World.ownsRow.lt h.row g (by rw [e]; rfl)).2
  exact .inr ⟨g, cap, cur, e, hb, (s.block g hlt (.inr (by omega))).trans hg, rest⟩
theorem bd_mem {L : List Ent} (h : ∀ i, i < L.length → BdE (L.getD i e0)) {E : Ent} (hE : E ∈ L) : BdE E := by
 obtain ⟨i, hi, e⟩ := List.mem_iff_getElem.1 hE; have := h i hi; rw [List.getD_eq_getElem?_getD, List.getElem?_eq_getElem hi] at this; rw [← e]
 exact this
theorem entT_mem {T : List ET} {t : ET} (h : t ∈ T) : t.E ∈ entT T := List.mem_map.2 ⟨t, h, rfl⟩
end Go.Proofs.YtbcmoofpgffbhabGreat
namespace Go.Proofs.YtbcmoofpgffbhabGreat
open Go.ChangeShapes Go.WideShapes Go.ChangeAt Go.RowKit Go.BigFrame Go.Joins
set_option linter.unusedVariables false
set_option maxRecDepth 100000
set_option linter.unusedSimpArgs false
set_option maxRecDepth 100000

theorem MidB.of_below {w w' : World} (base hi : Nat) (h : Below w.heap.size w w') : MidB base hi w w' := ⟨h.os, h.tape, h.output, h.size, fun i hi' _ => h.block i hi'⟩
/-- a switch of the call's own: its list, its table and what was sent lie behind one another -/
structure NdT (w : World) (b0 h1 h2 h3 : Nat) (ov ru su : Value) (own : List (Int × Int)) (T1 T2 : List ET) : Prop where
 o : OwnP w b0 ov own
 oh : ∀ k, ov.ownBlock = some k → k < h1
 r : OwnT w h1 ru T1
 ri : InH h2 ru T1
 s : OwnT w h2 su T2
 si : InH h3 su T2
 q1 : b0 ≤ h1
 q2 : h1 ≤ h2
 q3 : h2 ≤ h3
theorem NdT.keep {w w' : World} {b0 h1 h2 h3 : Nat} {ov ru su : Value} {own : List (Int × Int)} {T1 T2 : List ET} (h : NdT w b0 h1 h2 h3 ov ru su own T1 T2) (hb : Below w.heap.size w w') : NdT w' b0 h1 h2 h3 ov ru su own T1 T2 :=
 ⟨h.o.keep hb, h.oh, h.r.keep hb, h.ri, h.s.keep hb, h.si, h.q1, h.q2, h.q3⟩
/-- its slices bear the marks from 1 on -/
def MarkN (w : World) (ov ru su : Value) (n : Nat) (W1 W2 : List Nat) : Prop :=
 ∃ l L1 L2, l.length = n ∧ MarkP 1 n l ∧ RdP w ov l ∧ MarkedW (1 + (n : Int) * 2) W1 L1 L1.length ∧ RdE w ru L1 ∧ MarkedW (1 + (n : Int) * 2 + (W1.sum : Nat)) W2 L2 L2.length ∧ RdE w su L2
theorem MarkN.keep {w w' : World} {ov ru su : Value} {n : Nat} {W1 W2 : List Nat} (h : MarkN w ov ru su n W1 W2) (hb : Below w.heap.size w w') : MarkN w' ov ru su n W1 W2 := by
 obtain ⟨l, L1, L2, a, b, c, d, e, f, g⟩ := h
 exact ⟨l, L1, L2, a, b, c.keep hb, d, e.keep hb, f, g.keep hb⟩
end Go.Proofs.YtbcmoofpgffbhabGreat
