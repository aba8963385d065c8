/-
  Entries and tables: contracts of the tests that they are valid and of their order, of the program and of the model. Conditions: those in each contract.
  RibDropPeer of the program and of the model. Conditions: those in each contract.
  Marks on a table that was made by the call; they are found again. Conditions: those in each contract.
  Marks on a table that was made by the call, and how they are found again: contracts. Conditions: those in each contract.
  Words for the law on RibDropPeer. Conditions: those in each statement.
  The prefixes of a table: contracts of the model's functions that list them. Conditions: those in each contract.
  The prefixes of a table: contracts of RibPrefixes of the program and of the model. Conditions: those in each contract.
  The library's slices.Compact at a slice of prefixes; the program's list of a table's prefixes. Conditions: those in each contract.
  A list of prefixes is marked, and its marks are found again. Conditions: those in each contract.
  Marks on switches: on a copy of an argument, on an answer; the latter are found again. Conditions: those in each contract.
  Messages: what an argument that is one reads as; contracts of the laws' own functions that size, copy and compare them. Conditions: those in each contract.
-/
import Derived.Test.YtkodnipmogdgkaaGreatFTb
import Derived.Test.YtkodnipmogdgkaaGreatFTc
import Derived.Deep.RegionHeld
import Derived.Deep.CutRange
import Derived.Test.YtkodnipmogdgkaaGreatFTa
namespace Go.Proofs.YtkodnipmogdgkaaGreat
open Go.ChangeShapes Go.WideShapes Go.ChangeAt Go.RowKit Go.BigFrame Go.Joins
open List (setIfInBounds_toArray set_cons_succ set_cons_zero)
set_option linter.unusedVariables false
set_option maxRecDepth 100000
set_option maxRecDepth 100000
set_option linter.unusedSimpArgs false
set_option maxRecDepth 100000

theorem within_7 {n : Int} {b : Bool} (w : World) (H : Hid (inB n (-1) 7 = b)) : Calls Tryz.prog 51 #[.int .i64 n, .int .i64 (-1), .int .i64 7] w fun e w' => e = .returned (.bool b) ∧ w = w' := within_t w H
/-- an entry is valid -/
def entB (a n pe : Int) (p : List Int) (pr : Int) (c : List Int) (bw : Int) : Bool := pokB a n && (inB pe (-1) 7 && aokB p pr c bw)
/-- the order of entries -/
def ecmp (a n pe b m qe : Int) : Int := orv (cmp2 a n b m) (cmp1 pe qe)
theorem snum6 (a b : Int) (w : World) : Calls Tryz.prog 157 #[.int .i64 a, .int .i64 b] w fun e w' => e = .returned (.int .i64 (cmp1 a b)) ∧ w = w' := by
 by_cases h1 : a < b
 ·rw [cmp1_lt h1]
  go_enter Tryz.func157, Tryz.ntmps157
  go_wp2
  go_ret
  exact ⟨rfl, rfl⟩
 ·by_cases h2 : b < a
  ·rw [cmp1_gt h2]
   go_enter Tryz.func157, Tryz.ntmps157
   go_wp2
   go_ret
   exact ⟨rfl, rfl⟩
  ·obtain rfl : a = b := by omega
   rw [cmp1_eq]; clear h1 h2; have h3 : ¬ a < a := by omega
   go_enter Tryz.func157, Tryz.ntmps157
   go_wp2
   go_ret
   exact ⟨rfl, rfl⟩
theorem sent_any (pv cv : Value) (p c : List Int) (a n pe pr bw : Int) (w : World) (hp : RdI w pv p) (hc : RdI w cv c) :
  Calls Tryz.prog 173 #[.agg #[.int .i64 a, .int .i64 n, .int .i64 pe, pv, .int .i64 pr, cv, .int .i64 bw]] w fun e w' => e = .returned (.bool (entB a n pe p pr c bw)) ∧ Below w.heap.size w w' := by
 obtain ⟨bA, B0, z⟩ := one w [.int .i64 a, .int .i64 n, .int .i64 pe, pv, .int .i64 pr, cv, .int .i64 bw] EI; replace hp := hp.keep B0; replace hc := hc.keep B0; clear z; unfold entB; cases hP : pokB a n
 ·rw [Bool.false_and]
  have HP := Lib.hid hP; clear hP
  go_enter Tryz.func173, Tryz.ntmps173
  go_wp2_with fail; refine (spok_t _ HP).mono ?_; rintro e w1 ⟨rfl, hb⟩; replace bA := bA.keep hb; replace hp := hp.keep hb; replace hc := hc.keep hb; replace B0 := below_step B0 hb; clear hb; have a1 := bA.c 1 rfl; have a2 := bA.c 2 rfl; have a3 := bA.c 3 rfl; have a4 := bA.c 4 rfl; have a5 := bA.c 5 rfl; have a6 := bA.c 6 rfl; go_wp2
  go_ret
  exact ⟨rfl, B0⟩
 ·rw [Bool.true_and]
  have HP := Lib.hid hP; clear hP; cases hI : inB pe (-1) 7
  ·rw [Bool.false_and]
   simp only [inB, decide_eq_false_iff_not] at hI
   by_cases h1 : -1 ≤ pe
   ·have h2 : ¬ pe < 8 := by omega
    clear hI
    go_enter Tryz.func173, Tryz.ntmps173
    go_wp2_with fail; refine (spok_t _ HP).mono ?_; rintro e w1 ⟨rfl, hb⟩; replace bA := bA.keep hb; replace hp := hp.keep hb; replace hc := hc.keep hb; replace B0 := below_step B0 hb; clear hb; have a1 := bA.c 1 rfl; have a2 := bA.c 2 rfl; have a3 := bA.c 3 rfl; have a4 := bA.c 4 rfl; have a5 := bA.c 5 rfl; have a6 := bA.c 6 rfl; go_wp2
    go_ret
    exact ⟨rfl, B0⟩
   ·clear hI
    go_enter Tryz.func173, Tryz.ntmps173
    go_wp2_with fail; refine (spok_t _ HP).mono ?_; rintro e w1 ⟨rfl, hb⟩; replace bA := bA.keep hb; replace hp := hp.keep hb; replace hc := hc.keep hb; replace B0 := below_step B0 hb; clear hb; have a1 := bA.c 1 rfl; have a2 := bA.c 2 rfl; have a3 := bA.c 3 rfl; have a4 := bA.c 4 rfl; have a5 := bA.c 5 rfl; have a6 := bA.c 6 rfl; go_wp2
    go_ret
    exact ⟨rfl, B0⟩
  ·rw [Bool.true_and]
   simp only [inB, decide_eq_true_eq] at hI; have h1 : -1 ≤ pe := hI.1; have h2 : pe < 8 := by omega
   clear hI; obtain ⟨r, hA⟩ : ∃ r, aokB p pr c bw = r := ⟨_, rfl⟩; rw [hA]; have HA := Lib.hid hA; clear hA
   go_enter Tryz.func173, Tryz.ntmps173
   go_wp2_with fail; refine (spok_t _ HP).mono ?_; rintro e w1 ⟨rfl, hb⟩; replace bA := bA.keep hb; replace hp := hp.keep hb; replace hc := hc.keep hb; replace B0 := below_step B0 hb; clear hb; have a1 := bA.c 1 rfl; have a2 := bA.c 2 rfl; have a3 := bA.c 3 rfl; have a4 := bA.c 4 rfl; have a5 := bA.c 5 rfl; have a6 := bA.c 6 rfl; go_wp2_with fail; refine (saok_t _ hp hc HA).mono ?_; rintro e w2 ⟨rfl, hb⟩; replace B0 := below_step B0 hb; clear hb; go_wp2
   go_ret
   exact ⟨rfl, B0⟩
theorem sent_t {pv cv : Value} {p c : List Int} {a n pe pr bw : Int} {b : Bool} (w : World) (hp : RdI w pv p) (hc : RdI w cv c) (H : Hid (entB a n pe p pr c bw = b)) :
  Calls Tryz.prog 173 #[.agg #[.int .i64 a, .int .i64 n, .int .i64 pe, pv, .int .i64 pr, cv, .int .i64 bw]] w fun e w' => e = .returned (.bool b) ∧ Below w.heap.size w w' := H.out ▸ sent_any pv cv p c a n pe pr bw w hp hc
theorem ient_any (pv cv : Value) (p c : List Int) (a n pe pr bw : Int) (w : World) (hp : RdI w pv p) (hc : RdI w cv c) :
  Calls Tryz.prog 180 #[.agg #[.int .i64 a, .int .i64 n, .int .i64 pe, pv, .int .i64 pr, cv, .int .i64 bw]] w fun e w' => e = .returned (.bool (entB a n pe p pr c bw)) ∧ Below w.heap.size w w' := by
 obtain ⟨bA, B0, z⟩ := one w [.int .i64 a, .int .i64 n, .int .i64 pe, pv, .int .i64 pr, cv, .int .i64 bw] EI; replace hp := hp.keep B0; replace hc := hc.keep B0; clear z; unfold entB; cases hP : pokB a n
 ·rw [Bool.false_and]
  have HP := Lib.hid hP; clear hP
  go_enter Tryz.func180, Tryz.ntmps180
  go_wp2_with fail; refine (ipok_t _ HP).mono ?_; rintro e w1 ⟨rfl, hb⟩; replace bA := bA.keep hb; replace hp := hp.keep hb; replace hc := hc.keep hb; replace B0 := below_step B0 hb; clear hb; have a1 := bA.c 1 rfl; have a2 := bA.c 2 rfl; have a3 := bA.c 3 rfl; have a4 := bA.c 4 rfl; have a5 := bA.c 5 rfl; have a6 := bA.c 6 rfl; go_wp2
  go_ret
  exact ⟨rfl, B0⟩
 ·rw [Bool.true_and]
  have HP := Lib.hid hP; clear hP; cases hI : inB pe (-1) 7
  ·rw [Bool.false_and]
   have HI := Lib.hid hI; clear hI
   go_enter Tryz.func180, Tryz.ntmps180
   go_wp2_with fail; refine (ipok_t _ HP).mono ?_; rintro e w1 ⟨rfl, hb⟩; replace bA := bA.keep hb; replace hp := hp.keep hb; replace hc := hc.keep hb; replace B0 := below_step B0 hb; clear hb; have a1 := bA.c 1 rfl; have a2 := bA.c 2 rfl; have a3 := bA.c 3 rfl; have a4 := bA.c 4 rfl; have a5 := bA.c 5 rfl; have a6 := bA.c 6 rfl; go_wp2_with fail; refine (within_7 _ HI).mono ?_; rintro e w2 ⟨rfl, rfl⟩; go_wp2
   go_ret
   exact ⟨rfl, B0⟩
  ·rw [Bool.true_and]
   have HI := Lib.hid hI; clear hI; obtain ⟨r, hA⟩ : ∃ r, aokB p pr c bw = r := ⟨_, rfl⟩; rw [hA]; have HA := Lib.hid hA; clear hA
   go_enter Tryz.func180, Tryz.ntmps180
   go_wp2_with fail; refine (ipok_t _ HP).mono ?_; rintro e w1 ⟨rfl, hb⟩; replace bA := bA.keep hb; replace hp := hp.keep hb; replace hc := hc.keep hb; replace B0 := below_step B0 hb; clear hb; have a1 := bA.c 1 rfl; have a2 := bA.c 2 rfl; have a3 := bA.c 3 rfl; have a4 := bA.c 4 rfl; have a5 := bA.c 5 rfl; have a6 := bA.c 6 rfl; go_wp2_with fail; refine (within_7 _ HI).mono ?_; rintro e w2 ⟨rfl, rfl⟩; go_wp2_with fail; refine (iaok_t _ hp hc HA).mono ?_; rintro e w2 ⟨rfl, hb⟩; replace B0 := below_step B0 hb; clear hb; go_wp2
   go_ret
   exact ⟨rfl, B0⟩
theorem ient_t {pv cv : Value} {p c : List Int} {a n pe pr bw : Int} {b : Bool} (w : World) (hp : RdI w pv p) (hc : RdI w cv c) (H : Hid (entB a n pe p pr c bw = b)) :
  Calls Tryz.prog 180 #[.agg #[.int .i64 a, .int .i64 n, .int .i64 pe, pv, .int .i64 pr, cv, .int .i64 bw]] w fun e w' => e = .returned (.bool b) ∧ Below w.heap.size w w' := H.out ▸ ient_any pv cv p c a n pe pr bw w hp hc
theorem scmp6_any (pv cv pv2 cv2 : Value) (a n pe pr bw b m qe pr2 bw2 : Int) (w : World) :
  Calls Tryz.prog 174 #[.agg #[.int .i64 a, .int .i64 n, .int .i64 pe, pv, .int .i64 pr, cv, .int .i64 bw], .agg #[.int .i64 b, .int .i64 m, .int .i64 qe, pv2, .int .i64 pr2, cv2, .int .i64 bw2]] w fun e w' => e = .returned (.int .i64 (ecmp a n pe b m qe)) ∧ Below w.heap.size w w' := by
 obtain ⟨bA, bB, B0, z⟩ := two w [.int .i64 a, .int .i64 n, .int .i64 pe, pv, .int .i64 pr, cv, .int .i64 bw] [.int .i64 b, .int .i64 m, .int .i64 qe, pv2, .int .i64 pr2, cv2, .int .i64 bw2] EI EI; clear z; unfold ecmp; obtain ⟨r, hr⟩ : ∃ r, cmp2 a n b m = r := ⟨_, rfl⟩; rw [hr]; have HR := Lib.hid hr; clear hr
 by_cases h0 : r = 0
 ·subst h0
  rw [show orv 0 (cmp1 pe qe) = cmp1 pe qe by simp [orv]]
  go_enter Tryz.func174, Tryz.ntmps174
  go_wp2_with fail; refine (scmp_t _ HR).mono ?_; rintro e w1 ⟨rfl, hb⟩; replace bA := bA.keep hb; replace bB := bB.keep hb; replace B0 := below_step B0 hb; clear hb; have a0 := bA.c 0 rfl; have a1 := bA.c 1 rfl; have a2 := bA.c 2 rfl; have b0 := bB.c 0 rfl; have b1 := bB.c 1 rfl; have b2 := bB.c 2 rfl; go_wp2_with fail; refine (snum6 pe qe _).mono ?_; rintro e w2 ⟨rfl, rfl⟩; go_wp2
  go_ret
  exact ⟨rfl, B0⟩
 ·rw [show orv r (cmp1 pe qe) = r by simp [orv, h0]]
  have hne : (r != 0) = true := by simp [h0]
  go_enter Tryz.func174, Tryz.ntmps174
  go_wp2_with fail; refine (scmp_t _ HR).mono ?_; rintro e w1 ⟨rfl, hb⟩; replace B0 := below_step B0 hb; clear hb; go_wp2
  go_ret
  exact ⟨rfl, B0⟩
theorem icmp6_any (pv cv pv2 cv2 : Value) (a n pe pr bw b m qe pr2 bw2 : Int) (w : World) (r : Int) (HP : Hid (pcmp a n b m = r)) :
  Calls Tryz.prog 181 #[.agg #[.int .i64 a, .int .i64 n, .int .i64 pe, pv, .int .i64 pr, cv, .int .i64 bw], .agg #[.int .i64 b, .int .i64 m, .int .i64 qe, pv2, .int .i64 pr2, cv2, .int .i64 bw2]] w fun e w' => e = .returned (.int .i64 (orv r (cmp1 pe qe))) ∧ Below w.heap.size w w' := by
 obtain ⟨bA, bB, B0, z⟩ := two w [.int .i64 a, .int .i64 n, .int .i64 pe, pv, .int .i64 pr, cv, .int .i64 bw] [.int .i64 b, .int .i64 m, .int .i64 qe, pv2, .int .i64 pr2, cv2, .int .i64 bw2] EI EI; clear z; obtain ⟨V, hV⟩ : ∃ V, V = ((w.alloc (.cells #[.int .i64 a, .int .i64 n, .int .i64 pe, pv, .int .i64 pr, cv, .int .i64 bw] EI)).alloc (.cells #[.int .i64 b, .int .i64 m, .int .i64 qe, pv2, .int .i64 pr2, cv2, .int .i64 bw2] EI)) := ⟨_, rfl⟩; rw [← hV] at bA bB B0
 go_enter Tryz.func181, Tryz.ntmps181
 go_wp2_with fail; rw [← hV]; clear hV; have k0 := bA.c 0 rfl; have m0 := bB.c 0 rfl; have k1 := bA.c 1 rfl; have m1 := bB.c 1 rfl; have k2 := bA.c 2 rfl; have m2 := bB.c 2 rfl; have lA := bA.lt; have lB := bB.lt
 go_region_held3 (fun w' => Over V w' ∧ w'.cell? ⟨w.heap.size, 0, none⟩ = some (.int .i64 a) ∧ w'.cell? ⟨w.heap.size, 1, none⟩ = some (.int .i64 n) ∧ w'.cell? ⟨w.heap.size, 2, none⟩ = some (.int .i64 pe) ∧ w'.cell? ⟨w.heap.size + 1, 0, none⟩ = some (.int .i64 b) ∧ w'.cell? ⟨w.heap.size + 1, 1, none⟩ = some (.int .i64 m) ∧ w'.cell? ⟨w.heap.size + 1, 2, none⟩ = some (.int .i64 qe))
  ((first | assumption | exact ⟨over_drew _, k0, k1, k2, m0, m1, m2⟩ | exact (fun o => ⟨o, over_cell o lA k0, over_cell o lA k1, over_cell o lA k2, over_cell o lB m0, over_cell o lB m1, over_cell o lB m2⟩) (over_step (by assumption : Over V _ ∧ _).1 (by assumption)) | exact (fun o => ⟨o, over_cell o lA k0, over_cell o lA k1, over_cell o lA k2, over_cell o lB m0, over_cell o lB m1, over_cell o lB m2⟩) (over_step (by assumption : Over V _ ∧ _).1 ((Below.refl _ _).alloc (Nat.le_refl _) _))))
  ((first | (go_at_call 179; refine (icmp_t _ HP).mono ?_; rintro e w3 ⟨rfl, hb3⟩) | (go_at_call 200; refine (compare_any pe qe _).mono ?_; rintro e w4 ⟨rfl, rfl⟩) | (go_at_call 199; refine (or_any r (cmp1 pe qe) _ _ (by simp) (by simp)).mono ?_; rintro e w5 ⟨rfl, rfl⟩)))
 rename_i hH
 replace B0 := below_step B0 hH.1; go_wp2
 go_ret
 exact ⟨rfl, B0⟩
theorem scmp6_t {pv cv pv2 cv2 : Value} {a n pe pr bw b m qe pr2 bw2 r : Int} (w : World) (H : Hid (ecmp a n pe b m qe = r)) :
  Calls Tryz.prog 174 #[.agg #[.int .i64 a, .int .i64 n, .int .i64 pe, pv, .int .i64 pr, cv, .int .i64 bw], .agg #[.int .i64 b, .int .i64 m, .int .i64 qe, pv2, .int .i64 pr2, cv2, .int .i64 bw2]] w fun e w' => e = .returned (.int .i64 r) ∧ Below w.heap.size w w' := H.out ▸ scmp6_any pv cv pv2 cv2 a n pe pr bw b m qe pr2 bw2 w
theorem icmp6_t {pv cv pv2 cv2 : Value} {a n pe pr bw b m qe pr2 bw2 r : Int} (w : World) (H : Hid (pcmp a n b m = cmp2 a n b m ∧ ecmp a n pe b m qe = r)) :
  Calls Tryz.prog 181 #[.agg #[.int .i64 a, .int .i64 n, .int .i64 pe, pv, .int .i64 pr, cv, .int .i64 bw], .agg #[.int .i64 b, .int .i64 m, .int .i64 qe, pv2, .int .i64 pr2, cv2, .int .i64 bw2]] w fun e w' => e = .returned (.int .i64 r) ∧ Below w.heap.size w w' := by
 have h := icmp6_any pv cv pv2 cv2 a n pe pr bw b m qe pr2 bw2 w (cmp2 a n b m) (Lib.hid H.out.1); have e := H.out.2; unfold ecmp at e; rw [e] at h
 exact h
/-- entry i is valid -/
def okE (L : List Ent) (i : Nat) : Prop := entB (L.getD i e0).a (L.getD i e0).n (L.getD i e0).pe (L.getD i e0).p (L.getD i e0).pr (L.getD i e0).c (L.getD i e0).bw = true
/-- it lies ahead of the next one -/
def upE (L : List Ent) (i : Nat) : Prop := ecmp (L.getD i e0).a (L.getD i e0).n (L.getD i e0).pe (L.getD (i + 1) e0).a (L.getD (i + 1) e0).n (L.getD (i + 1) e0).pe < 0
instance (L : List Ent) (i : Nat) : Decidable (okE L i) := by unfold okE; infer_instance
instance (L : List Ent) (i : Nat) : Decidable (upE L i) := by unfold upE; infer_instance
def tabB (L : List Ent) : Bool := decide ((∀ i, i < L.length → okE L i) ∧ ∀ i, i < L.length - 1 → upE L i)
/-- a table is valid -/
def ribB (L : List Ent) : Bool := decide ((L.length : Int) ≤ 60) && tabB L
theorem tabB_yes {L : List Ent} {n : Nat} (hn : n = L.length) (h : ∀ i, i < n → okE L i) (h2 : ∀ i, i + 1 < n → upE L i) : tabB L = true := by
 subst hn; simp only [tabB, decide_eq_true_eq]
 exact ⟨h, fun i hi => h2 i (by omega)⟩
theorem tabB_ok {L : List Ent} {k : Nat} {E : Ent} (hk : k < L.length) (hx : L.getD k e0 = E) (h : entB E.a E.n E.pe E.p E.pr E.c E.bw = false) : tabB L = false := by
 simp only [tabB, decide_eq_false_iff_not]; rintro ⟨h1, -⟩; have := h1 k hk; unfold okE at this; rw [hx] at this; rw [this] at h; cases h
theorem tabB_up {L : List Ent} {k : Nat} {F E : Ent} (hk : k + 1 < L.length) (ha : L.getD k e0 = F) (hx : L.getD (k + 1) e0 = E) (h : ¬ ecmp F.a F.n F.pe E.a E.n E.pe < 0) : tabB L = false := by
 simp only [tabB, decide_eq_false_iff_not]; rintro ⟨-, h1⟩; have := h1 k (by omega); unfold upE at this; rw [ha, hx] at this
 exact h this
theorem entB_p {a n pe pr bw : Int} {p c : List Int} (h : entB a n pe p pr c bw = true) : pokB a n = true := by
 unfold entB at h; simp only [Bool.and_eq_true] at h
 exact h.1
set_option maxHeartbeats 1000000 in
theorem srib_any (v : Value) (L : List Ent) (w : World) (h : RdE w v L) :
  Calls Tryz.prog 123 #[.agg #[v]] w fun e w' => e = .returned (.bool (ribB L)) ∧ Below w.heap.size w w' := by
 unfold ribB; have hm := h.1; obtain ⟨a, c, rfl, hc⟩ := h.el; obtain ⟨n, hn⟩ : ∃ n, n = L.length := ⟨_, rfl⟩; rw [← hn] at hc hm ⊢; have HN := Lib.hid hn; clear h hn; obtain ⟨bR, B0, z⟩ := one w [.slice a n c] 56; clear z
 by_cases hbig : (n : Int) ≤ 60
 ·rw [show decide ((n : Int) ≤ 60) = true by simp [hbig]]
  have hbig2 : ¬ (60 : Int) < (n : Int) := by omega
  obtain ⟨W1, hW⟩ : ∃ W1, W1 = w.alloc (.cells #[.slice a n c] 56) := ⟨_, rfl⟩; obtain ⟨R, hR⟩ : ∃ R, R = w.heap.size := ⟨_, rfl⟩; have hW2 := hW
  go_enter Tryz.func123, Tryz.ntmps123
  go_wp2; rw [← hW2]
  try simp only [← hR]
  rw [← hR] at bR; rw [← hW2] at bR B0; clear hW hW2 hR
  go_loopw [3] (fun q wr => ∃ k : Nat, k ≤ n ∧ q = .int .i64 k ∧ (∀ i, i < k → okE L i) ∧ (∀ i, i + 1 < k → upE L i) ∧ Over W1 wr) (fun q _ => n - (intOf q).toNat)
  case atStart => exact ⟨0, Nat.zero_le _, rfl, fun i hi => by omega, fun i hi => by omega, over_refl _⟩
  case round =>
   obtain ⟨k, hk, rfl, hok, hup, hB⟩ := hrel; have HO := Lib.hid hok; have HU := Lib.hid hup; clear hok hup; replace bR := bR.keep hB; have r0 := bR.c 0 rfl
   by_cases hlt : k < n
   ·have hltI : (k : Int) < (n : Int) := by omega
    obtain ⟨b, o, rfl, hE⟩ := hc k hlt; obtain ⟨E, hx⟩ : ∃ E, L.getD k e0 = E := ⟨_, rfl⟩; rw [hx] at hE; obtain ⟨pv, cv, hp, hq, g0, g1, g2, g3, g4, g5, g6⟩ := hE.keep (below_step B0 hB); have HX := Lib.hid hx; have HCC := Lib.hid hc; clear hx hc hE; cases hpk : entB E.a E.n E.pe E.p E.pr E.c E.bw
    ·have HP := Lib.hid hpk
     have HF := Lib.hid (tabB_ok (by rw [← HN.out]; exact hlt) HX.out hpk); clear hpk; go_wp2; refine wp_region_class (C := Over (wr)) (by kernel_rfl) (by kernel_rfl) (over_drew _) ?_
     repeat (first | go_big_quiet_skip | (go_big_quiet_want; go_big_quiet_op; go_big_quiet_on) | (go_big_quiet_want; go_big_quiet_op; apply Exists.intro; refine ⟨fun w' hC => ?_, ?_⟩; ((first | (go_at_call 173; refine (sent_t _ (rdI_over hp hC) (rdI_over hq hC) HP).mono ?_; rintro e w1 ⟨rfl, hb1⟩; exact ⟨rfl, over_step hC hb1⟩))); go_big_quiet_on) | (go_big_quiet_want; apply Exists.intro; refine ⟨fun w' hC => ?_, ?_⟩; (have k0 := over_cell hC bR.lt (bR.c 0 rfl); have k1 := over_cell hC (World.block_lt_of_cell? _ _ g0) g0; have k2 := over_cell hC (World.block_lt_of_cell? _ _ g1) g1; have k3 := over_cell hC (World.block_lt_of_cell? _ _ g2) g2; have k4 := over_cell hC (World.block_lt_of_cell? _ _ g3) g3; have k5 := over_cell hC (World.block_lt_of_cell? _ _ g4) g4; have k6 := over_cell hC (World.block_lt_of_cell? _ _ g5) g5; have k7 := over_cell hC (World.block_lt_of_cell? _ _ g6) g6; simp [Oper.quietAt, Oper.quietUpon, go_sem, k0, k1, k2, k3, k4, k5, k6, k7, hltI, hlt]; first | done | rfl); go_big_quiet_on; simp only [Act.put, setIfInBounds_toArray, set_cons_succ, set_cons_zero]))
     refine wpQuiet_nil ?_; intro ws hC; have k0 := over_cell hC bR.lt (bR.c 0 rfl); have k1 := over_cell hC (World.block_lt_of_cell? _ _ g0) g0; have k2 := over_cell hC (World.block_lt_of_cell? _ _ g1) g1; have k3 := over_cell hC (World.block_lt_of_cell? _ _ g2) g2; have k4 := over_cell hC (World.block_lt_of_cell? _ _ g3) g3; have k5 := over_cell hC (World.block_lt_of_cell? _ _ g4) g4; have k6 := over_cell hC (World.block_lt_of_cell? _ _ g5) g5; have k7 := over_cell hC (World.block_lt_of_cell? _ _ g6) g6; go_wp2
     go_ret
     exact ⟨ret_bool (by first | rw [HF.out, Bool.and_false] | rw [HF.out] | simp [HF.out]), below_step B0 (over_step hB hC)⟩
    ·have HP := Lib.hid hpk
     have HOK : Hid (∀ i, i < k + 1 → okE L i) := Lib.hid fun i hi => by
      by_cases e : i = k
      ·unfold okE; rw [e, HX.out]; exact hpk
      ·exact HO.out i (by omega)
     clear hpk
     rcases Nat.eq_zero_or_pos k with rfl | hpos
     ·simp only [Nat.zero_mul, Nat.add_zero] at g0 g1 g2 g3 g4 g5 g6
      go_wp2; refine wp_region_class (C := Over (wr)) (by kernel_rfl) (by kernel_rfl) (over_drew _) ?_
      repeat (first | go_big_quiet_skip | (go_big_quiet_want; go_big_quiet_op; go_big_quiet_on) | (go_big_quiet_want; go_big_quiet_op; apply Exists.intro; refine ⟨fun w' hC => ?_, ?_⟩; ((first | (go_at_call 173; refine (sent_t _ (rdI_over hp hC) (rdI_over hq hC) HP).mono ?_; rintro e w1 ⟨rfl, hb1⟩; exact ⟨rfl, over_step hC hb1⟩))); go_big_quiet_on) | (go_big_quiet_want; apply Exists.intro; refine ⟨fun w' hC => ?_, ?_⟩; (have k0 := over_cell hC bR.lt (bR.c 0 rfl); have k1 := over_cell hC (World.block_lt_of_cell? _ _ g0) g0; have k2 := over_cell hC (World.block_lt_of_cell? _ _ g1) g1; have k3 := over_cell hC (World.block_lt_of_cell? _ _ g2) g2; have k4 := over_cell hC (World.block_lt_of_cell? _ _ g3) g3; have k5 := over_cell hC (World.block_lt_of_cell? _ _ g4) g4; have k6 := over_cell hC (World.block_lt_of_cell? _ _ g5) g5; have k7 := over_cell hC (World.block_lt_of_cell? _ _ g6) g6; simp [Oper.quietAt, Oper.quietUpon, go_sem, k0, k1, k2, k3, k4, k5, k6, k7, hltI, hlt]; first | done | rfl); go_big_quiet_on; simp only [Act.put, setIfInBounds_toArray, set_cons_succ, set_cons_zero]))
      refine wpQuiet_nil ?_; intro ws hC; have k0 := over_cell hC bR.lt (bR.c 0 rfl); have k1 := over_cell hC (World.block_lt_of_cell? _ _ g0) g0; have k2 := over_cell hC (World.block_lt_of_cell? _ _ g1) g1; have k3 := over_cell hC (World.block_lt_of_cell? _ _ g2) g2; have k4 := over_cell hC (World.block_lt_of_cell? _ _ g3) g3; have k5 := over_cell hC (World.block_lt_of_cell? _ _ g4) g4; have k6 := over_cell hC (World.block_lt_of_cell? _ _ g5) g5; have k7 := over_cell hC (World.block_lt_of_cell? _ _ g6) g6; go_wp2
      go_roundw
      case rel => exact ⟨0 + 1, by omega, by go_num, HOK.out, fun i hi => by omega, over_step hB hC⟩
      case measure => simp [intOf]; omega
     ·obtain ⟨j, rfl⟩ : ∃ j, k = j + 1 := ⟨k - 1, by omega⟩
      obtain ⟨b', o', hbo, hE'⟩ := HCC.out j (by omega); obtain ⟨rfl, rfl⟩ : b = b' ∧ o = o' := by simpa using hbo
      clear hbo; obtain ⟨F, hs⟩ : ∃ F, L.getD j e0 = F := ⟨_, rfl⟩; rw [hs] at hE'; obtain ⟨pu, cu, -, -, m0, m1, m2, m3, m4, m5, m6⟩ := hE'.keep (below_step B0 hB); have HS := Lib.hid hs; clear hE'; obtain ⟨r, hr⟩ : ∃ r, ecmp F.a F.n F.pe E.a E.n E.pe = r := ⟨_, rfl⟩; have HR := Lib.hid hr; clear hs hr
      by_cases hneg : r < 0
      ·have HUP : Hid (∀ i, i + 1 < j + 1 + 1 → upE L i) := Lib.hid fun i hi => by
        by_cases e : i = j
        ·unfold upE; rw [e, HS.out, HX.out, HR.out]; exact hneg
        ·exact HU.out i (by omega)
       have hwj : IntKind.i64.wrap (j : Int) = j := wrap64_in _ (by omega) (by omega); have hjI : (j : Int) < (n : Int) := by omega
       have hjN : j < n := by omega
       have hkJ : (j : Int) + 1 < (n : Int) := by omega
       have hkT : ((j : Int) + 1).toNat = j + 1 := by omega
       have hk0 : (0 : Int) ≤ (j : Int) + 1 := by omega
       go_wp2; refine wp_region_class (C := Over (wr)) (by kernel_rfl) (by kernel_rfl) (over_drew _) ?_
       repeat (first | go_big_quiet_skip | (go_big_quiet_want; go_big_quiet_op; go_big_quiet_on) | (go_big_quiet_want; go_big_quiet_op; apply Exists.intro; refine ⟨fun w' hC => ?_, ?_⟩; ((first | (go_at_call 173; refine (sent_t _ (rdI_over hp hC) (rdI_over hq hC) HP).mono ?_; rintro e w1 ⟨rfl, hb1⟩; exact ⟨rfl, over_step hC hb1⟩) | (go_at_call 174; refine (scmp6_t _ HR).mono ?_; rintro e w1 ⟨rfl, hb1⟩; exact ⟨rfl, over_step hC hb1⟩))); go_big_quiet_on) | (go_big_quiet_want; apply Exists.intro; refine ⟨fun w' hC => ?_, ?_⟩; (have k0 := over_cell hC bR.lt (bR.c 0 rfl); have k1 := over_cell hC (World.block_lt_of_cell? _ _ g0) g0; have k2 := over_cell hC (World.block_lt_of_cell? _ _ g1) g1; have k3 := over_cell hC (World.block_lt_of_cell? _ _ g2) g2; have k4 := over_cell hC (World.block_lt_of_cell? _ _ g3) g3; have k5 := over_cell hC (World.block_lt_of_cell? _ _ g4) g4; have k6 := over_cell hC (World.block_lt_of_cell? _ _ g5) g5; have k7 := over_cell hC (World.block_lt_of_cell? _ _ g6) g6; have k8 := over_cell hC (World.block_lt_of_cell? _ _ m0) m0; have k9 := over_cell hC (World.block_lt_of_cell? _ _ m1) m1; have k10 := over_cell hC (World.block_lt_of_cell? _ _ m2) m2; have k11 := over_cell hC (World.block_lt_of_cell? _ _ m3) m3; have k12 := over_cell hC (World.block_lt_of_cell? _ _ m4) m4; have k13 := over_cell hC (World.block_lt_of_cell? _ _ m5) m5; have k14 := over_cell hC (World.block_lt_of_cell? _ _ m6) m6; simp [Oper.quietAt, Oper.quietUpon, go_sem, k0, k1, k2, k3, k4, k5, k6, k7, k8, k9, k10, k11, k12, k13, k14, hltI, hlt, hwj, hjI, hjN, hkJ, hkT, hk0]; first | done | rfl); go_big_quiet_on; simp only [Act.put, setIfInBounds_toArray, set_cons_succ, set_cons_zero]))
       refine wpQuiet_nil ?_; intro ws hC; have k0 := over_cell hC bR.lt (bR.c 0 rfl); have k1 := over_cell hC (World.block_lt_of_cell? _ _ g0) g0; have k2 := over_cell hC (World.block_lt_of_cell? _ _ g1) g1; have k3 := over_cell hC (World.block_lt_of_cell? _ _ g2) g2; have k4 := over_cell hC (World.block_lt_of_cell? _ _ g3) g3; have k5 := over_cell hC (World.block_lt_of_cell? _ _ g4) g4; have k6 := over_cell hC (World.block_lt_of_cell? _ _ g5) g5; have k7 := over_cell hC (World.block_lt_of_cell? _ _ g6) g6; have k8 := over_cell hC (World.block_lt_of_cell? _ _ m0) m0; have k9 := over_cell hC (World.block_lt_of_cell? _ _ m1) m1; have k10 := over_cell hC (World.block_lt_of_cell? _ _ m2) m2; have k11 := over_cell hC (World.block_lt_of_cell? _ _ m3) m3; have k12 := over_cell hC (World.block_lt_of_cell? _ _ m4) m4; have k13 := over_cell hC (World.block_lt_of_cell? _ _ m5) m5; have k14 := over_cell hC (World.block_lt_of_cell? _ _ m6) m6; go_wp2
       go_roundw
       case rel => exact ⟨j + 1 + 1, by omega, by go_num, HOK.out, HUP.out, over_step hB hC⟩
       case measure => simp [intOf]; omega
      ·have HF := Lib.hid (tabB_up (by rw [← HN.out]; exact hlt) HS.out HX.out (by rw [HR.out]; exact hneg))
       have hwj : IntKind.i64.wrap (j : Int) = j := wrap64_in _ (by omega) (by omega); have hjI : (j : Int) < (n : Int) := by omega
       have hjN : j < n := by omega
       have hkJ : (j : Int) + 1 < (n : Int) := by omega
       have hkT : ((j : Int) + 1).toNat = j + 1 := by omega
       have hk0 : (0 : Int) ≤ (j : Int) + 1 := by omega
       go_wp2; refine wp_region_class (C := Over (wr)) (by kernel_rfl) (by kernel_rfl) (over_drew _) ?_
       repeat (first | go_big_quiet_skip | (go_big_quiet_want; go_big_quiet_op; go_big_quiet_on) | (go_big_quiet_want; go_big_quiet_op; apply Exists.intro; refine ⟨fun w' hC => ?_, ?_⟩; ((first | (go_at_call 173; refine (sent_t _ (rdI_over hp hC) (rdI_over hq hC) HP).mono ?_; rintro e w1 ⟨rfl, hb1⟩; exact ⟨rfl, over_step hC hb1⟩) | (go_at_call 174; refine (scmp6_t _ HR).mono ?_; rintro e w1 ⟨rfl, hb1⟩; exact ⟨rfl, over_step hC hb1⟩))); go_big_quiet_on) | (go_big_quiet_want; apply Exists.intro; refine ⟨fun w' hC => ?_, ?_⟩; (have k0 := over_cell hC bR.lt (bR.c 0 rfl); have k1 := over_cell hC (World.block_lt_of_cell? _ _ g0) g0; have k2 := over_cell hC (World.block_lt_of_cell? _ _ g1) g1; have k3 := over_cell hC (World.block_lt_of_cell? _ _ g2) g2; have k4 := over_cell hC (World.block_lt_of_cell? _ _ g3) g3; have k5 := over_cell hC (World.block_lt_of_cell? _ _ g4) g4; have k6 := over_cell hC (World.block_lt_of_cell? _ _ g5) g5; have k7 := over_cell hC (World.block_lt_of_cell? _ _ g6) g6; have k8 := over_cell hC (World.block_lt_of_cell? _ _ m0) m0; have k9 := over_cell hC (World.block_lt_of_cell? _ _ m1) m1; have k10 := over_cell hC (World.block_lt_of_cell? _ _ m2) m2; have k11 := over_cell hC (World.block_lt_of_cell? _ _ m3) m3; have k12 := over_cell hC (World.block_lt_of_cell? _ _ m4) m4; have k13 := over_cell hC (World.block_lt_of_cell? _ _ m5) m5; have k14 := over_cell hC (World.block_lt_of_cell? _ _ m6) m6; simp [Oper.quietAt, Oper.quietUpon, go_sem, k0, k1, k2, k3, k4, k5, k6, k7, k8, k9, k10, k11, k12, k13, k14, hltI, hlt, hwj, hjI, hjN, hkJ, hkT, hk0]; first | done | rfl); go_big_quiet_on; simp only [Act.put, setIfInBounds_toArray, set_cons_succ, set_cons_zero]))
       refine wpQuiet_nil ?_; intro ws hC; have k0 := over_cell hC bR.lt (bR.c 0 rfl); have k1 := over_cell hC (World.block_lt_of_cell? _ _ g0) g0; have k2 := over_cell hC (World.block_lt_of_cell? _ _ g1) g1; have k3 := over_cell hC (World.block_lt_of_cell? _ _ g2) g2; have k4 := over_cell hC (World.block_lt_of_cell? _ _ g3) g3; have k5 := over_cell hC (World.block_lt_of_cell? _ _ g4) g4; have k6 := over_cell hC (World.block_lt_of_cell? _ _ g5) g5; have k7 := over_cell hC (World.block_lt_of_cell? _ _ g6) g6; have k8 := over_cell hC (World.block_lt_of_cell? _ _ m0) m0; have k9 := over_cell hC (World.block_lt_of_cell? _ _ m1) m1; have k10 := over_cell hC (World.block_lt_of_cell? _ _ m2) m2; have k11 := over_cell hC (World.block_lt_of_cell? _ _ m3) m3; have k12 := over_cell hC (World.block_lt_of_cell? _ _ m4) m4; have k13 := over_cell hC (World.block_lt_of_cell? _ _ m5) m5; have k14 := over_cell hC (World.block_lt_of_cell? _ _ m6) m6; go_wp2
       go_ret
       exact ⟨ret_bool (by first | rw [HF.out, Bool.and_false] | rw [HF.out] | simp [HF.out]), below_step B0 (over_step hB hC)⟩
   ·have hkn : k = n := by omega
    subst hkn; have HF := Lib.hid (tabB_yes HN.out HO.out HU.out); clear hc; have r0 := bR.c 0 rfl; go_wp2
    go_ret
    exact ⟨ret_bool (by first | rw [HF.out, Bool.and_true] | rw [HF.out] | simp [HF.out]), below_step B0 hB⟩
 ·have e : (decide ((n : Int) ≤ 60) && tabB L) = false := by simp [hbig]
  have hbig2 : (60 : Int) < (n : Int) := by omega
  rw [e]; clear e
  go_enter Tryz.func123, Tryz.ntmps123
  go_wp2
  go_ret
  exact ⟨rfl, B0⟩
set_option maxHeartbeats 1000000 in
theorem irib_any (v : Value) (L : List Ent) (w : World) (h : RdE w v L) :
  Calls Tryz.prog 134 #[.agg #[v]] w fun e w' => e = .returned (.bool (ribB L)) ∧ Below w.heap.size w w' := by
 unfold ribB; have hm := h.1; obtain ⟨a, c, rfl, hc⟩ := h.el; obtain ⟨n, hn⟩ : ∃ n, n = L.length := ⟨_, rfl⟩; rw [← hn] at hc hm ⊢; have HN := Lib.hid hn; clear h hn; obtain ⟨bR, B0, z⟩ := one w [.slice a n c] 56; clear z
 by_cases hbig : (n : Int) ≤ 60
 ·rw [show decide ((n : Int) ≤ 60) = true by simp [hbig]]
  have hbig2 : ¬ (60 : Int) < (n : Int) := by omega
  obtain ⟨W1, hW⟩ : ∃ W1, W1 = w.alloc (.cells #[.slice a n c] 56) := ⟨_, rfl⟩; obtain ⟨R, hR⟩ : ∃ R, R = w.heap.size := ⟨_, rfl⟩; have hW2 := hW
  go_enter Tryz.func134, Tryz.ntmps134
  go_wp2; rw [← hW2]
  try simp only [← hR]
  rw [← hR] at bR; rw [← hW2] at bR B0; clear hW hW2 hR
  go_loopw [12] (fun q wr => ∃ k : Nat, k ≤ n ∧ q = .int .i64 k ∧ (∀ i, i < k → okE L i) ∧ (∀ i, i + 1 < k → upE L i) ∧ Over W1 wr) (fun q _ => n - (intOf q).toNat)
  case atStart => exact ⟨0, Nat.zero_le _, rfl, fun i hi => by omega, fun i hi => by omega, over_refl _⟩
  case round =>
   obtain ⟨k, hk, rfl, hok, hup, hB⟩ := hrel; have HO := Lib.hid hok; have HU := Lib.hid hup; clear hok hup; replace bR := bR.keep hB; have r0 := bR.c 0 rfl
   by_cases hlt : k < n
   ·have hltI : (k : Int) < (n : Int) := by omega
    obtain ⟨b, o, rfl, hE⟩ := hc k hlt; obtain ⟨E, hx⟩ : ∃ E, L.getD k e0 = E := ⟨_, rfl⟩; rw [hx] at hE; obtain ⟨pv, cv, hp, hq, g0, g1, g2, g3, g4, g5, g6⟩ := hE.keep (below_step B0 hB); have HX := Lib.hid hx; have HCC := Lib.hid hc; clear hx hc hE; obtain ⟨pa, px, rfl⟩ := hp.len; obtain ⟨qa, qx, rfl⟩ := hq.len; cases hpk : entB E.a E.n E.pe E.p E.pr E.c E.bw
    ·have HP := Lib.hid hpk
     have HF := Lib.hid (tabB_ok (by rw [← HN.out]; exact hlt) HX.out hpk); clear hpk; have bP := Bl.new wr [.int .i64 E.a, .int .i64 E.n, .int .i64 E.pe, .slice pa E.p.length px, .int .i64 E.pr, .slice qa E.c.length qx, .int .i64 E.bw] EI wr.heap.size rfl; have hB2 : Over W1 (wr.alloc (.cells #[.int .i64 E.a, .int .i64 E.n, .int .i64 E.pe, .slice pa E.p.length px, .int .i64 E.pr, .slice qa E.c.length qx, .int .i64 E.bw] EI)) := over_alloc hB _; replace bR := bR.alloc (.cells #[.int .i64 E.a, .int .i64 E.n, .int .i64 E.pe, .slice pa E.p.length px, .int .i64 E.pr, .slice qa E.c.length qx, .int .i64 E.bw] EI); replace hp := hp.alloc (.cells #[.int .i64 E.a, .int .i64 E.n, .int .i64 E.pe, .slice pa E.p.length px, .int .i64 E.pr, .slice qa E.c.length qx, .int .i64 E.bw] EI); replace hq := hq.alloc (.cells #[.int .i64 E.a, .int .i64 E.n, .int .i64 E.pe, .slice pa E.p.length px, .int .i64 E.pr, .slice qa E.c.length qx, .int .i64 E.bw] EI); go_wp2; refine wp_region_class (C := Over ((wr.alloc (.cells #[.int .i64 E.a, .int .i64 E.n, .int .i64 E.pe, .slice pa E.p.length px, .int .i64 E.pr, .slice qa E.c.length qx, .int .i64 E.bw] EI)))) (by kernel_rfl) (by kernel_rfl) (over_drew _) ?_
     repeat (first | go_big_quiet_skip | (go_big_quiet_want; go_big_quiet_op; go_big_quiet_on) | (go_big_quiet_want; go_big_quiet_op; apply Exists.intro; refine ⟨fun w' hC => ?_, ?_⟩; ((first | (go_at_call 180; refine (ient_t _ (rdI_over hp hC) (rdI_over hq hC) HP).mono ?_; rintro e w1 ⟨rfl, hb1⟩; exact ⟨rfl, over_step hC hb1⟩))); go_big_quiet_on) | (go_big_quiet_want; apply Exists.intro; refine ⟨fun w' hC => ?_, ?_⟩; (have k0 := over_cell hC bP.lt (bP.c 0 rfl); have k1 := over_cell hC bP.lt (bP.c 1 rfl); have k2 := over_cell hC bP.lt (bP.c 2 rfl); have k3 := over_cell hC bP.lt (bP.c 3 rfl); have k4 := over_cell hC bP.lt (bP.c 4 rfl); have k5 := over_cell hC bP.lt (bP.c 5 rfl); have k6 := over_cell hC bP.lt (bP.c 6 rfl); have k7 := over_cell hC bR.lt (bR.c 0 rfl); simp [Oper.quietAt, Oper.quietUpon, go_sem, k0, k1, k2, k3, k4, k5, k6, k7]; first | done | rfl); go_big_quiet_on; simp only [Act.put, setIfInBounds_toArray, set_cons_succ, set_cons_zero]))
     refine wpQuiet_nil ?_; intro ws hC; have k0 := over_cell hC bP.lt (bP.c 0 rfl); have k1 := over_cell hC bP.lt (bP.c 1 rfl); have k2 := over_cell hC bP.lt (bP.c 2 rfl); have k3 := over_cell hC bP.lt (bP.c 3 rfl); have k4 := over_cell hC bP.lt (bP.c 4 rfl); have k5 := over_cell hC bP.lt (bP.c 5 rfl); have k6 := over_cell hC bP.lt (bP.c 6 rfl); have k7 := over_cell hC bR.lt (bR.c 0 rfl); go_wp2
     go_ret
     exact ⟨ret_bool (by first | rw [HF.out, Bool.and_false] | rw [HF.out] | simp [HF.out]), below_step B0 (over_step hB2 hC)⟩
    ·have HP := Lib.hid hpk
     have HOK : Hid (∀ i, i < k + 1 → okE L i) := Lib.hid fun i hi => by
      by_cases e : i = k
      ·unfold okE; rw [e, HX.out]; exact hpk
      ·exact HO.out i (by omega)
     clear hpk
     rcases Nat.eq_zero_or_pos k with rfl | hpos
     ·simp only [Nat.zero_mul, Nat.add_zero] at g0 g1 g2 g3 g4 g5 g6
      have bP := Bl.new wr [.int .i64 E.a, .int .i64 E.n, .int .i64 E.pe, .slice pa E.p.length px, .int .i64 E.pr, .slice qa E.c.length qx, .int .i64 E.bw] EI wr.heap.size rfl; have hB2 : Over W1 (wr.alloc (.cells #[.int .i64 E.a, .int .i64 E.n, .int .i64 E.pe, .slice pa E.p.length px, .int .i64 E.pr, .slice qa E.c.length qx, .int .i64 E.bw] EI)) := over_alloc hB _; replace bR := bR.alloc (.cells #[.int .i64 E.a, .int .i64 E.n, .int .i64 E.pe, .slice pa E.p.length px, .int .i64 E.pr, .slice qa E.c.length qx, .int .i64 E.bw] EI); replace hp := hp.alloc (.cells #[.int .i64 E.a, .int .i64 E.n, .int .i64 E.pe, .slice pa E.p.length px, .int .i64 E.pr, .slice qa E.c.length qx, .int .i64 E.bw] EI); replace hq := hq.alloc (.cells #[.int .i64 E.a, .int .i64 E.n, .int .i64 E.pe, .slice pa E.p.length px, .int .i64 E.pr, .slice qa E.c.length qx, .int .i64 E.bw] EI); go_wp2; refine wp_region_class (C := Over ((wr.alloc (.cells #[.int .i64 E.a, .int .i64 E.n, .int .i64 E.pe, .slice pa E.p.length px, .int .i64 E.pr, .slice qa E.c.length qx, .int .i64 E.bw] EI)))) (by kernel_rfl) (by kernel_rfl) (over_drew _) ?_
      repeat (first | go_big_quiet_skip | (go_big_quiet_want; go_big_quiet_op; go_big_quiet_on) | (go_big_quiet_want; go_big_quiet_op; apply Exists.intro; refine ⟨fun w' hC => ?_, ?_⟩; ((first | (go_at_call 180; refine (ient_t _ (rdI_over hp hC) (rdI_over hq hC) HP).mono ?_; rintro e w1 ⟨rfl, hb1⟩; exact ⟨rfl, over_step hC hb1⟩))); go_big_quiet_on) | (go_big_quiet_want; apply Exists.intro; refine ⟨fun w' hC => ?_, ?_⟩; (have k0 := over_cell hC bP.lt (bP.c 0 rfl); have k1 := over_cell hC bP.lt (bP.c 1 rfl); have k2 := over_cell hC bP.lt (bP.c 2 rfl); have k3 := over_cell hC bP.lt (bP.c 3 rfl); have k4 := over_cell hC bP.lt (bP.c 4 rfl); have k5 := over_cell hC bP.lt (bP.c 5 rfl); have k6 := over_cell hC bP.lt (bP.c 6 rfl); have k7 := over_cell hC bR.lt (bR.c 0 rfl); simp [Oper.quietAt, Oper.quietUpon, go_sem, k0, k1, k2, k3, k4, k5, k6, k7]; first | done | rfl); go_big_quiet_on; simp only [Act.put, setIfInBounds_toArray, set_cons_succ, set_cons_zero]))
      refine wpQuiet_nil ?_; intro ws hC; have k0 := over_cell hC bP.lt (bP.c 0 rfl); have k1 := over_cell hC bP.lt (bP.c 1 rfl); have k2 := over_cell hC bP.lt (bP.c 2 rfl); have k3 := over_cell hC bP.lt (bP.c 3 rfl); have k4 := over_cell hC bP.lt (bP.c 4 rfl); have k5 := over_cell hC bP.lt (bP.c 5 rfl); have k6 := over_cell hC bP.lt (bP.c 6 rfl); have k7 := over_cell hC bR.lt (bR.c 0 rfl); go_wp2
      go_roundw
      case rel => exact ⟨0 + 1, by omega, by go_num, HOK.out, fun i hi => by omega, over_step hB2 hC⟩
      case measure => simp [intOf]; omega
     ·obtain ⟨j, rfl⟩ : ∃ j, k = j + 1 := ⟨k - 1, by omega⟩
      obtain ⟨b', o', hbo, hE'⟩ := HCC.out j (by omega); obtain ⟨rfl, rfl⟩ : b = b' ∧ o = o' := by simpa using hbo
      clear hbo; obtain ⟨F, hs⟩ : ∃ F, L.getD j e0 = F := ⟨_, rfl⟩; rw [hs] at hE'; obtain ⟨pu, cu, -, -, m0, m1, m2, m3, m4, m5, m6⟩ := hE'.keep (below_step B0 hB); have HS := Lib.hid hs; clear hE' hs; have h1 := HO.out j (by omega); unfold okE at h1; rw [HS.out] at h1; have h2 := HP.out
      have hr0 : pcmp F.a F.n E.a E.n = cmp2 F.a F.n E.a E.n := by
       unfold pcmp; rw [entB_p h1, entB_p h2]
       rfl
      obtain ⟨r, hr⟩ : ∃ r, ecmp F.a F.n F.pe E.a E.n E.pe = r := ⟨_, rfl⟩; have HR := Lib.hid (And.intro hr0 hr); clear hr hr0 h1 h2
      by_cases hneg : r < 0
      ·have HUP : Hid (∀ i, i + 1 < j + 1 + 1 → upE L i) := Lib.hid fun i hi => by
        by_cases e : i = j
        ·unfold upE; rw [e, HS.out, HX.out, HR.out.2]; exact hneg
        ·exact HU.out i (by omega)
       have bP := Bl.new wr [.int .i64 E.a, .int .i64 E.n, .int .i64 E.pe, .slice pa E.p.length px, .int .i64 E.pr, .slice qa E.c.length qx, .int .i64 E.bw] EI wr.heap.size rfl; have hB2 : Over W1 (wr.alloc (.cells #[.int .i64 E.a, .int .i64 E.n, .int .i64 E.pe, .slice pa E.p.length px, .int .i64 E.pr, .slice qa E.c.length qx, .int .i64 E.bw] EI)) := over_alloc hB _; replace bR := bR.alloc (.cells #[.int .i64 E.a, .int .i64 E.n, .int .i64 E.pe, .slice pa E.p.length px, .int .i64 E.pr, .slice qa E.c.length qx, .int .i64 E.bw] EI); replace hp := hp.alloc (.cells #[.int .i64 E.a, .int .i64 E.n, .int .i64 E.pe, .slice pa E.p.length px, .int .i64 E.pr, .slice qa E.c.length qx, .int .i64 E.bw] EI); replace hq := hq.alloc (.cells #[.int .i64 E.a, .int .i64 E.n, .int .i64 E.pe, .slice pa E.p.length px, .int .i64 E.pr, .slice qa E.c.length qx, .int .i64 E.bw] EI); replace m0 := cell_keep ((Below.refl _ _).alloc (Nat.le_refl _) (.cells #[.int .i64 E.a, .int .i64 E.n, .int .i64 E.pe, .slice pa E.p.length px, .int .i64 E.pr, .slice qa E.c.length qx, .int .i64 E.bw] EI)) (World.block_lt_of_cell? wr _ m0) m0; replace m1 := cell_keep ((Below.refl _ _).alloc (Nat.le_refl _) (.cells #[.int .i64 E.a, .int .i64 E.n, .int .i64 E.pe, .slice pa E.p.length px, .int .i64 E.pr, .slice qa E.c.length qx, .int .i64 E.bw] EI)) (World.block_lt_of_cell? wr _ m1) m1; replace m2 := cell_keep ((Below.refl _ _).alloc (Nat.le_refl _) (.cells #[.int .i64 E.a, .int .i64 E.n, .int .i64 E.pe, .slice pa E.p.length px, .int .i64 E.pr, .slice qa E.c.length qx, .int .i64 E.bw] EI)) (World.block_lt_of_cell? wr _ m2) m2; replace m3 := cell_keep ((Below.refl _ _).alloc (Nat.le_refl _) (.cells #[.int .i64 E.a, .int .i64 E.n, .int .i64 E.pe, .slice pa E.p.length px, .int .i64 E.pr, .slice qa E.c.length qx, .int .i64 E.bw] EI)) (World.block_lt_of_cell? wr _ m3) m3; replace m4 := cell_keep ((Below.refl _ _).alloc (Nat.le_refl _) (.cells #[.int .i64 E.a, .int .i64 E.n, .int .i64 E.pe, .slice pa E.p.length px, .int .i64 E.pr, .slice qa E.c.length qx, .int .i64 E.bw] EI)) (World.block_lt_of_cell? wr _ m4) m4; replace m5 := cell_keep ((Below.refl _ _).alloc (Nat.le_refl _) (.cells #[.int .i64 E.a, .int .i64 E.n, .int .i64 E.pe, .slice pa E.p.length px, .int .i64 E.pr, .slice qa E.c.length qx, .int .i64 E.bw] EI)) (World.block_lt_of_cell? wr _ m5) m5; replace m6 := cell_keep ((Below.refl _ _).alloc (Nat.le_refl _) (.cells #[.int .i64 E.a, .int .i64 E.n, .int .i64 E.pe, .slice pa E.p.length px, .int .i64 E.pr, .slice qa E.c.length qx, .int .i64 E.bw] EI)) (World.block_lt_of_cell? wr _ m6) m6; have hwj : IntKind.i64.wrap (j : Int) = j := wrap64_in _ (by omega) (by omega); have hjI : (j : Int) < (n : Int) := by omega
       have hjN : j < n := by omega
       go_wp2; refine wp_region_class (C := Over ((wr.alloc (.cells #[.int .i64 E.a, .int .i64 E.n, .int .i64 E.pe, .slice pa E.p.length px, .int .i64 E.pr, .slice qa E.c.length qx, .int .i64 E.bw] EI)))) (by kernel_rfl) (by kernel_rfl) (over_drew _) ?_
       repeat (first | go_big_quiet_skip | (go_big_quiet_want; go_big_quiet_op; go_big_quiet_on) | (go_big_quiet_want; go_big_quiet_op; apply Exists.intro; refine ⟨fun w' hC => ?_, ?_⟩; ((first | (go_at_call 180; refine (ient_t _ (rdI_over hp hC) (rdI_over hq hC) HP).mono ?_; rintro e w1 ⟨rfl, hb1⟩; exact ⟨rfl, over_step hC hb1⟩) | (go_at_call 181; refine (icmp6_t _ HR).mono ?_; rintro e w1 ⟨rfl, hb1⟩; exact ⟨rfl, over_step hC hb1⟩))); go_big_quiet_on) | (go_big_quiet_want; apply Exists.intro; refine ⟨fun w' hC => ?_, ?_⟩; (have k0 := over_cell hC bP.lt (bP.c 0 rfl); have k1 := over_cell hC bP.lt (bP.c 1 rfl); have k2 := over_cell hC bP.lt (bP.c 2 rfl); have k3 := over_cell hC bP.lt (bP.c 3 rfl); have k4 := over_cell hC bP.lt (bP.c 4 rfl); have k5 := over_cell hC bP.lt (bP.c 5 rfl); have k6 := over_cell hC bP.lt (bP.c 6 rfl); have k7 := over_cell hC bR.lt (bR.c 0 rfl); have k8 := over_cell hC (World.block_lt_of_cell? _ _ m0) m0; have k9 := over_cell hC (World.block_lt_of_cell? _ _ m1) m1; have k10 := over_cell hC (World.block_lt_of_cell? _ _ m2) m2; have k11 := over_cell hC (World.block_lt_of_cell? _ _ m3) m3; have k12 := over_cell hC (World.block_lt_of_cell? _ _ m4) m4; have k13 := over_cell hC (World.block_lt_of_cell? _ _ m5) m5; have k14 := over_cell hC (World.block_lt_of_cell? _ _ m6) m6; simp [Oper.quietAt, Oper.quietUpon, go_sem, k0, k1, k2, k3, k4, k5, k6, k7, k8, k9, k10, k11, k12, k13, k14, hwj, hjI, hjN]; first | done | rfl); go_big_quiet_on; simp only [Act.put, setIfInBounds_toArray, set_cons_succ, set_cons_zero]))
       refine wpQuiet_nil ?_; intro ws hC; have k0 := over_cell hC bP.lt (bP.c 0 rfl); have k1 := over_cell hC bP.lt (bP.c 1 rfl); have k2 := over_cell hC bP.lt (bP.c 2 rfl); have k3 := over_cell hC bP.lt (bP.c 3 rfl); have k4 := over_cell hC bP.lt (bP.c 4 rfl); have k5 := over_cell hC bP.lt (bP.c 5 rfl); have k6 := over_cell hC bP.lt (bP.c 6 rfl); have k7 := over_cell hC bR.lt (bR.c 0 rfl); have k8 := over_cell hC (World.block_lt_of_cell? _ _ m0) m0; have k9 := over_cell hC (World.block_lt_of_cell? _ _ m1) m1; have k10 := over_cell hC (World.block_lt_of_cell? _ _ m2) m2; have k11 := over_cell hC (World.block_lt_of_cell? _ _ m3) m3; have k12 := over_cell hC (World.block_lt_of_cell? _ _ m4) m4; have k13 := over_cell hC (World.block_lt_of_cell? _ _ m5) m5; have k14 := over_cell hC (World.block_lt_of_cell? _ _ m6) m6; go_wp2
       go_roundw
       case rel => exact ⟨j + 1 + 1, by omega, by go_num, HOK.out, HUP.out, over_step hB2 hC⟩
       case measure => simp [intOf]; omega
      ·have HF := Lib.hid (tabB_up (by rw [← HN.out]; exact hlt) HS.out HX.out (by rw [HR.out.2]; exact hneg))
       have bP := Bl.new wr [.int .i64 E.a, .int .i64 E.n, .int .i64 E.pe, .slice pa E.p.length px, .int .i64 E.pr, .slice qa E.c.length qx, .int .i64 E.bw] EI wr.heap.size rfl; have hB2 : Over W1 (wr.alloc (.cells #[.int .i64 E.a, .int .i64 E.n, .int .i64 E.pe, .slice pa E.p.length px, .int .i64 E.pr, .slice qa E.c.length qx, .int .i64 E.bw] EI)) := over_alloc hB _; replace bR := bR.alloc (.cells #[.int .i64 E.a, .int .i64 E.n, .int .i64 E.pe, .slice pa E.p.length px, .int .i64 E.pr, .slice qa E.c.length qx, .int .i64 E.bw] EI); replace hp := hp.alloc (.cells #[.int .i64 E.a, .int .i64 E.n, .int .i64 E.pe, .slice pa E.p.length px, .int .i64 E.pr, .slice qa E.c.length qx, .int .i64 E.bw] EI); replace hq := hq.alloc (.cells #[.int .i64 E.a, .int .i64 E.n, .int .i64 E.pe, .slice pa E.p.length px, .int .i64 E.pr, .slice qa E.c.length qx, .int .i64 E.bw] EI); replace m0 := cell_keep ((Below.refl _ _).alloc (Nat.le_refl _) (.cells #[.int .i64 E.a, .int .i64 E.n, .int .i64 E.pe, .slice pa E.p.length px, .int .i64 E.pr, .slice qa E.c.length qx, .int .i64 E.bw] EI)) (World.block_lt_of_cell? wr _ m0) m0; replace m1 := cell_keep ((Below.refl _ _).alloc (Nat.le_refl _) (.cells #[.int .i64 E.a, .int .i64 E.n, .int .i64 E.pe, .slice pa E.p.length px, .int .i64 E.pr, .slice qa E.c.length qx, .int .i64 E.bw] EI)) (World.block_lt_of_cell? wr _ m1) m1; replace m2 := cell_keep ((Below.refl _ _).alloc (Nat.le_refl _) (.cells #[.int .i64 E.a, .int .i64 E.n, .int .i64 E.pe, .slice pa E.p.length px, .int .i64 E.pr, .slice qa E.c.length qx, .int .i64 E.bw] EI)) (World.block_lt_of_cell? wr _ m2) m2; replace m3 := cell_keep ((Below.refl _ _).alloc (Nat.le_refl _) (.cells #[.int .i64 E.a, .int .i64 E.n, .int .i64 E.pe, .slice pa E.p.length px, .int .i64 E.pr, .slice qa E.c.length qx, .int .i64 E.bw] EI)) (World.block_lt_of_cell? wr _ m3) m3; replace m4 := cell_keep ((Below.refl _ _).alloc (Nat.le_refl _) (.cells #[.int .i64 E.a, .int .i64 E.n, .int .i64 E.pe, .slice pa E.p.length px, .int .i64 E.pr, .slice qa E.c.length qx, .int .i64 E.bw] EI)) (World.block_lt_of_cell? wr _ m4) m4; replace m5 := cell_keep ((Below.refl _ _).alloc (Nat.le_refl _) (.cells #[.int .i64 E.a, .int .i64 E.n, .int .i64 E.pe, .slice pa E.p.length px, .int .i64 E.pr, .slice qa E.c.length qx, .int .i64 E.bw] EI)) (World.block_lt_of_cell? wr _ m5) m5; replace m6 := cell_keep ((Below.refl _ _).alloc (Nat.le_refl _) (.cells #[.int .i64 E.a, .int .i64 E.n, .int .i64 E.pe, .slice pa E.p.length px, .int .i64 E.pr, .slice qa E.c.length qx, .int .i64 E.bw] EI)) (World.block_lt_of_cell? wr _ m6) m6; have hwj : IntKind.i64.wrap (j : Int) = j := wrap64_in _ (by omega) (by omega); have hjI : (j : Int) < (n : Int) := by omega
       have hjN : j < n := by omega
       go_wp2; refine wp_region_class (C := Over ((wr.alloc (.cells #[.int .i64 E.a, .int .i64 E.n, .int .i64 E.pe, .slice pa E.p.length px, .int .i64 E.pr, .slice qa E.c.length qx, .int .i64 E.bw] EI)))) (by kernel_rfl) (by kernel_rfl) (over_drew _) ?_
       repeat (first | go_big_quiet_skip | (go_big_quiet_want; go_big_quiet_op; go_big_quiet_on) | (go_big_quiet_want; go_big_quiet_op; apply Exists.intro; refine ⟨fun w' hC => ?_, ?_⟩; ((first | (go_at_call 180; refine (ient_t _ (rdI_over hp hC) (rdI_over hq hC) HP).mono ?_; rintro e w1 ⟨rfl, hb1⟩; exact ⟨rfl, over_step hC hb1⟩) | (go_at_call 181; refine (icmp6_t _ HR).mono ?_; rintro e w1 ⟨rfl, hb1⟩; exact ⟨rfl, over_step hC hb1⟩))); go_big_quiet_on) | (go_big_quiet_want; apply Exists.intro; refine ⟨fun w' hC => ?_, ?_⟩; (have k0 := over_cell hC bP.lt (bP.c 0 rfl); have k1 := over_cell hC bP.lt (bP.c 1 rfl); have k2 := over_cell hC bP.lt (bP.c 2 rfl); have k3 := over_cell hC bP.lt (bP.c 3 rfl); have k4 := over_cell hC bP.lt (bP.c 4 rfl); have k5 := over_cell hC bP.lt (bP.c 5 rfl); have k6 := over_cell hC bP.lt (bP.c 6 rfl); have k7 := over_cell hC bR.lt (bR.c 0 rfl); have k8 := over_cell hC (World.block_lt_of_cell? _ _ m0) m0; have k9 := over_cell hC (World.block_lt_of_cell? _ _ m1) m1; have k10 := over_cell hC (World.block_lt_of_cell? _ _ m2) m2; have k11 := over_cell hC (World.block_lt_of_cell? _ _ m3) m3; have k12 := over_cell hC (World.block_lt_of_cell? _ _ m4) m4; have k13 := over_cell hC (World.block_lt_of_cell? _ _ m5) m5; have k14 := over_cell hC (World.block_lt_of_cell? _ _ m6) m6; simp [Oper.quietAt, Oper.quietUpon, go_sem, k0, k1, k2, k3, k4, k5, k6, k7, k8, k9, k10, k11, k12, k13, k14, hwj, hjI, hjN]; first | done | rfl); go_big_quiet_on; simp only [Act.put, setIfInBounds_toArray, set_cons_succ, set_cons_zero]))
       refine wpQuiet_nil ?_; intro ws hC; have k0 := over_cell hC bP.lt (bP.c 0 rfl); have k1 := over_cell hC bP.lt (bP.c 1 rfl); have k2 := over_cell hC bP.lt (bP.c 2 rfl); have k3 := over_cell hC bP.lt (bP.c 3 rfl); have k4 := over_cell hC bP.lt (bP.c 4 rfl); have k5 := over_cell hC bP.lt (bP.c 5 rfl); have k6 := over_cell hC bP.lt (bP.c 6 rfl); have k7 := over_cell hC bR.lt (bR.c 0 rfl); have k8 := over_cell hC (World.block_lt_of_cell? _ _ m0) m0; have k9 := over_cell hC (World.block_lt_of_cell? _ _ m1) m1; have k10 := over_cell hC (World.block_lt_of_cell? _ _ m2) m2; have k11 := over_cell hC (World.block_lt_of_cell? _ _ m3) m3; have k12 := over_cell hC (World.block_lt_of_cell? _ _ m4) m4; have k13 := over_cell hC (World.block_lt_of_cell? _ _ m5) m5; have k14 := over_cell hC (World.block_lt_of_cell? _ _ m6) m6; go_wp2
       go_ret
       exact ⟨ret_bool (by first | rw [HF.out, Bool.and_false] | rw [HF.out] | simp [HF.out]), below_step B0 (over_step hB2 hC)⟩
   ·have hkn : k = n := by omega
    subst hkn; have HF := Lib.hid (tabB_yes HN.out HO.out HU.out); clear hc; have r0 := bR.c 0 rfl; go_wp2
    go_ret
    exact ⟨ret_bool (by first | rw [HF.out, Bool.and_true] | rw [HF.out] | simp [HF.out]), below_step B0 hB⟩
 ·have e : (decide ((n : Int) ≤ 60) && tabB L) = false := by simp [hbig]
  have hbig2 : (60 : Int) < (n : Int) := by omega
  rw [e]; clear e
  go_enter Tryz.func134, Tryz.ntmps134
  go_wp2
  go_ret
  exact ⟨rfl, B0⟩
theorem srib_t {v : Value} {L : List Ent} {b : Bool} (w : World) (h : RdE w v L) (H : Hid (ribB L = b)) :
  Calls Tryz.prog 123 #[.agg #[v]] w fun e w' => e = .returned (.bool b) ∧ Below w.heap.size w w' := H.out ▸ srib_any v L w h
theorem irib_t {v : Value} {L : List Ent} {b : Bool} (w : World) (h : RdE w v L) (H : Hid (ribB L = b)) :
  Calls Tryz.prog 134 #[.agg #[v]] w fun e w' => e = .returned (.bool b) ∧ Below w.heap.size w w' := H.out ▸ irib_any v L w h
end Go.Proofs.YtkodnipmogdgkaaGreat
namespace Go.Proofs.YtkodnipmogdgkaaGreat
open Go.ChangeShapes Go.WideShapes Go.ChangeAt Go.RowKit Go.BigFrame Go.Joins
set_option linter.unusedVariables false
set_option maxRecDepth 100000
set_option linter.unusedSimpArgs false
set_option maxRecDepth 100000

/-- what RibDropPeer answers -/
def dropP (L : List Ent) (pe : Int) : List Ent := if ribB L = true then L.filter (fun E => !(E.pe == pe)) else []
theorem dropP_no {L : List Ent} {pe : Int} (h : ribB L = false) : dropP L pe = [] := by simp [dropP, h]
theorem dropP_yes {L : List Ent} {pe : Int} (h : ribB L = true) : dropP L pe = L.filter (fun E => !(E.pe == pe)) := by simp [dropP, h]
theorem getD_mem {L : List Ent} {j : Nat} (h : j < L.length) : L.getD j e0 ∈ L := by
 rw [List.getD_eq_getElem?_getD, List.getElem?_eq_getElem h]
 exact List.getElem_mem h
theorem ribB_len7 {L : List Ent} (h : ribB L = true) : L.length ≤ 60 := by
 unfold ribB at h
 simp at h
 omega
set_option maxHeartbeats 2000000 in
theorem irdp_any (v : Value) (L : List Ent) (pe : Int) (w : World) (h : RdE w v L) (hln : ∀ j, j < L.length → (L.getD j e0).p.length ≤ 1048576 ∧ (L.getD j e0).c.length ≤ 1048576) :
  Calls Tryz.prog 143 #[.agg #[v], .int .i64 pe] w (NewRib w (dropP L pe)) := by
 obtain ⟨a, c, rfl⟩ := h.len; obtain ⟨bA, bC, bR, B0, z⟩ := three w [.slice a L.length c] [.int .i64 pe] [.slice none 0 0] 56 3 56; obtain ⟨R, hR⟩ : ∃ R, R = w.heap.size + 1 + 1 := ⟨_, rfl⟩; have hwR : w.heap.size ≤ R := by omega
 cases hb : ribB L
 ·rw [dropP_no hb]
  have HB := Lib.hid hb; clear hb
  go_enter Tryz.func143, Tryz.ntmps143
  go_wp2_with fail; refine (irib_t _ (h.keep B0) HB).mono ?_; rintro e w1 ⟨rfl, hb1⟩; replace bR := bR.keep hb1; replace B0 := below_step B0 hb1; rw [← hR] at bR
  try rw [← hR]
  clear hR; have r0 := bR.c 0 rfl; have rf0 := bR.f 0 rfl; go_wp2; have bE := bR.set 0 (.slice none 0 0); have e0 := bE.c 0 rfl
  exact bodyPost_ret (v := .agg #[.slice none 0 0]) (by simp [results, Tryz.results143, go_sem, e0]) rfl
   ⟨_, [], rfl, OwnT.nil _ _, rfl, B0.setCell (p := ⟨R, 0, none⟩) hwR _⟩
 ·rw [dropP_yes hb]
  have HN : Hid (L.length ≤ 1048576) := Lib.hid (by have := ribB_len7 hb; omega); have HB := Lib.hid hb; have HLN := Lib.hid hln; clear hb hln
  go_enter Tryz.func143, Tryz.ntmps143
  go_wp2_with fail; refine (irib_t _ (h.keep B0) HB).mono ?_; rintro e w1 ⟨rfl, hb1⟩; have hw1 : w.heap.size + 3 ≤ w1.heap.size := by rw [← z]; exact hb1.size
  replace bA := bA.keep hb1; replace bC := bC.keep hb1; replace bR := bR.keep hb1; replace B0 := below_step B0 hb1; obtain ⟨A, hA⟩ : ∃ A, A = w.heap.size := ⟨_, rfl⟩; obtain ⟨C, hC⟩ : ∃ C, C = w.heap.size + 1 := ⟨_, rfl⟩; have hC1 : C < w1.heap.size := by omega
  have hR1 : R < w1.heap.size := by omega
  have hwW : w.heap.size ≤ w1.heap.size := by omega
  rw [← hR] at bR
  try rw [← hR]
  rw [← hC] at bC
  try rw [← hC]
  rw [← hA] at bA
  try rw [← hA]
  clear hR hC hA z; have a0 := bA.c 0 rfl; go_wp2_with fail; clear a0 bA; refine (irc_any _ L w1 (h.keep B0) HN.out HLN.out).mono ?_; rintro e w2 ⟨u, T, rfl, hT, hTE, hb2⟩; obtain ⟨x, y, rfl⟩ := hT.lenV; have HT := Lib.hid hTE; have hTn : T.length ≤ 1048576 := by rw [← entT_len, hTE]; exact HN.out
  clear hTE; have bO := Bl.new w2 [.slice x T.length y] 56 w2.heap.size rfl; have N1 : Below w2.heap.size w2 (w2.alloc (.cells #[.slice x T.length y] 56)) := (Below.refl _ _).alloc (Nat.le_refl _) _; have hOR : w2.heap.size ≠ R := by have := hb2.size; omega
  have hO2 : ∀ k, (Value.slice x T.length y).ownBlock = some k → k < w2.heap.size := fun k hk => (World.ownsRow.lt hT.row k hk).2
  have hTl := hT.lt; have o0 := bO.c 0 rfl; go_wp2_with fail; clear o0; obtain ⟨V, hV⟩ : ∃ V, V = w2.alloc (.cells #[.slice x T.length y] 56) := ⟨_, rfl⟩; rw [← hV] at bO N1 ⊢; have B1 := below_step (below_step B0 hb2) N1; have hTV := hT.keep N1; refine (idfP_any _ T pe C w1.heap.size V hTV hTn ((bC.keep hb2).keep N1) hC1).mono ?_; rintro e w3 ⟨r, rfl, hT3, hg, hro⟩; obtain ⟨x3, y3, rfl⟩ := hT3.lenV; obtain ⟨O, hO⟩ : ∃ O, O = w2.heap.size := ⟨_, rfl⟩; rw [← hO] at bO hOR hO2 hTl
  try rw [← hO]
  have hwO : w.heap.size ≤ O := by rw [hO]; exact Nat.le_trans hwW hb2.size
  clear hV hO; have bO3 := bO.grown hg (fun q => by have := hO2 O q.symm; omega); have bR3 := ((bR.keep hb2).keep N1).grown hg (neRow hTV.row hR1); have B3 := below_growT B1 hTV.row hwW hg; obtain ⟨S, hS⟩ : ∃ S, S = T.filter (fun t : ET => !(t.E.pe == pe)) := ⟨_, rfl⟩; rw [← hS] at hT3 hro ⊢; have HS := Lib.hid hS; have bOs := bO3.set 0 (.slice x3 S.length y3); have bRs := bR3.far (o := 0) (u := .slice x3 S.length y3) hOR.symm; have o0 := bO3.c 0 rfl; have of0 := bO3.f 0 rfl; have r0 := bR3.c 0 rfl; have rf0 := bR3.f 0 rfl; have s0 := bOs.c 0 rfl; have t0 := bRs.c 0 rfl; have lO := bO3.lt; have lR := bR3.lt
  have hT4 : OwnT (w3.setCell ⟨O, 0, none⟩ (.slice x3 S.length y3)) w1.heap.size (.slice x3 S.length y3) S := hT3.kept (grown_set w3 O 0 _) (by
   cases hv : (Value.slice x3 S.length y3).ownBlock with
   | none => exact .inl rfl
   | some k => exact .inr (by rw [hro] at hv; have := hO2 k hv; intro q; cases q; omega)) (fun t ht => by
   have hm := (hTl t (by rw [HS.out] at ht; exact (List.mem_filter.1 ht).1))
   constructor
   ·cases hv : t.u.ownBlock with
    | none => exact .inl rfl
    | some k => exact .inr (by have := (hm.1 k hv).2; intro q; cases q; omega)
   ·cases hv : t.v.ownBlock with
    | none => exact .inl rfl
    | some k => exact .inr (by have := (hm.2 k hv).2; intro q; cases q; omega))
  have hT5 := (hT4.far (B := R) (o := 0) (u := .slice x3 S.length y3) hR1).mono hwW; have B5 := (B3.setCell (p := ⟨O, 0, none⟩) hwO (.slice x3 S.length y3)).setCell (p := ⟨R, 0, none⟩) hwR (.slice x3 S.length y3); clear hT4 hT3 hg hro hTl hO2 hS B3; go_wp2; have bE := bRs.set 0 (.slice x3 S.length y3); have e0 := bE.c 0 rfl
  exact bodyPost_ret (v := .agg #[.slice x3 S.length y3]) (by simp [results, Tryz.results143, go_sem, e0]) rfl
   ⟨_, S, rfl, hT5, by rw [HS.out, ← HT.out]; exact entT_filter (fun E => !(E.pe == pe)) T, B5⟩
end Go.Proofs.YtkodnipmogdgkaaGreat
namespace Go.Proofs.YtkodnipmogdgkaaGreat
open Go.ChangeShapes Go.WideShapes Go.ChangeAt Go.RowKit Go.BigFrame Go.Joins
set_option linter.unusedVariables false
set_option maxRecDepth 100000
set_option linter.unusedSimpArgs false
set_option maxRecDepth 100000

/-- an entry as marks from k on leave it -/
def markE (k : Int) (p c : Nat) : Ent := ⟨k, k + 1, k + 2, imarks (k + 3) p, k + 3 + p, imarks (k + 3 + p + 1) c, k + 3 + p + 1 + c⟩
def wE (E : Ent) : Nat := 5 + E.p.length + E.c.length
/-- a table's entries bear the marks from k on; W: how many each bears -/
def MarkedW (k : Int) (W : List Nat) (L : List Ent) (j : Nat) : Prop := L.map wE = W ∧ ∀ i, i < j → i < L.length → L.getD i e0 = markE (k + (W.take i).sum) (L.getD i e0).p.length (L.getD i e0).c.length
end Go.Proofs.YtkodnipmogdgkaaGreat
namespace Go.Proofs.YtkodnipmogdgkaaGreat
open Go.ChangeShapes Go.WideShapes Go.ChangeAt Go.RowKit Go.BigFrame Go.Joins
set_option linter.unusedVariables false
set_option maxRecDepth 100000
set_option linter.unusedSimpArgs false
set_option maxRecDepth 100000

/-- no block but those from base to hi has turned -/
structure MidB (base hi : Nat) (w w' : World) : Prop where
 os : w'.os = w.os
 tape : w'.tape = w.tape
 output : w'.output = w.output
 size : w.heap.size ≤ w'.heap.size
 block : ∀ i, i < w.heap.size → (i < base ∨ hi ≤ i) → w'.heap[i]? = w.heap[i]?
theorem MidB.refl (base hi : Nat) (w : World) : MidB base hi w w := ⟨rfl, rfl, rfl, Nat.le_refl _, fun _ _ _ => rfl⟩
theorem MidB.grown {base hi : Nat} {w w' w2 : World} {row : Option Nat} (h : MidB base hi w w') (hg : w'.grownBy w2 row) (hr : ∀ k, row = some k → base ≤ k ∧ k < hi) : MidB base hi w w2 :=
 ⟨hg.os.trans h.os, hg.tape.trans h.tape, hg.output.trans h.output, Nat.le_trans h.size hg.size, fun i hi' hc => (hg.block i (Nat.lt_of_lt_of_le hi' h.size) (fun e => by have := hr i e.symm; omega)).trans (h.block i hi' hc)⟩
theorem MidB.trans {base hi : Nat} {a b c : World} (h : MidB base hi a b) (k : MidB base hi b c) : MidB base hi a c :=
 ⟨k.os.trans h.os, k.tape.trans h.tape, k.output.trans h.output, Nat.le_trans h.size k.size, fun i hi' hc => (k.block i (Nat.lt_of_lt_of_le hi' h.size) hc).trans (h.block i hi' hc)⟩
theorem MidB.below {base hi B : Nat} {w w' : World} (h : MidB base hi w w') (h1 : B ≤ base) (h2 : B ≤ w.heap.size) : Below B w w' :=
 ⟨h.os, h.tape, h.output, h.size, fun i hi' => h.block i (by omega) (.inl (by omega))⟩
theorem MidB.bl {base hi B : Nat} {w w' : World} {xs : List Value} (h : MidB base hi w w') (b : Bl w B xs) (hB : B < base ∨ hi ≤ B) : Bl w' B xs := by
 have e := h.block B b.lt hB
 exact ⟨Nat.lt_of_lt_of_le b.lt h.size, fun i x q => (World.cell?_of_block (w := w) (a := ⟨B, i, none⟩) e).trans (b.cs i x q), fun i q => (World.frozen?_of_block (w := w) e).trans (b.fz i q)⟩
/-- all blocks of a table lie below hi -/
def InH (hi : Nat) (v : Value) (T : List ET) : Prop := (∀ k, v.ownBlock = some k → k < hi) ∧ ∀ t ∈ T, (∀ k, t.u.ownBlock = some k → k < hi) ∧ ∀ k, t.v.ownBlock = some k → k < hi
theorem OwnT.inH {w : World} {base : Nat} {v : Value} {T : List ET} (h : OwnT w base v T) : InH w.heap.size v T :=
 ⟨fun k hk => (World.ownsRow.lt h.row k hk).2, fun t ht => ⟨fun k hk => ((h.lt t ht).1 k hk).2, fun k hk => ((h.lt t ht).2 k hk).2⟩⟩
end Go.Proofs.YtkodnipmogdgkaaGreat
namespace Go.Proofs.YtkodnipmogdgkaaGreat
open Go.ChangeShapes Go.WideShapes Go.ChangeAt Go.RowKit Go.BigFrame Go.Joins
set_option linter.unusedVariables false
set_option maxRecDepth 100000
set_option linter.unusedSimpArgs false
set_option maxRecDepth 100000

theorem OwnI.softT {base hi b : Nat} {w w' : World} {v : Value} {l : List Int} (h : OwnI w b v l) (s : Soft base hi w w') (hv : hi ≤ b) : OwnI w' b v l := by
 unfold OwnI at h ⊢; refine ⟨h.1, ?_⟩
 rcases h.2 with hn | ⟨g, cap, cur, e, hb, hg, rest⟩
 ·exact .inl hn
 ·have hlt : g < w.heap.size := (World.ownsRow.lt h g (by rw [e]; rfl)).2
  exact .inr ⟨g, cap, cur, e, hb, (s.block g hlt (.inr (by omega))).trans hg, rest⟩
theorem OwnT.soft {base hi b : Nat} {w w' : World} {v : Value} {T : List ET} (h : OwnT w b v T) (s : Soft base hi w w') (hv : hi ≤ b) : OwnT w' b v T := by
 refine ⟨⟨h.row.1, ?_⟩, fun t ht => ⟨(h.own t ht).1.softT s hv, (h.own t ht).2.softT s hv⟩, h.len, h.sep, h.apart⟩
 rcases h.row.2 with hn | ⟨g, cap, cur, e, hb, hg, rest⟩
 ·exact .inl hn
 ·have hlt : g < w.heap.size := (World.ownsRow.lt h.row g (by rw [e]; rfl)).2
  exact .inr ⟨g, cap, cur, e, hb, (s.block g hlt (.inr (by omega))).trans hg, rest⟩
theorem dropP_sub {L : List Ent} {pe : Int} {E : Ent} (h : E ∈ dropP L pe) : E ∈ L := by
 unfold dropP at h
 split at h
 ·exact (List.mem_filter.1 h).1
 ·simp at h
theorem bd_mem {L : List Ent} (h : ∀ i, i < L.length → BdE (L.getD i e0)) {E : Ent} (hE : E ∈ L) : BdE E := by
 obtain ⟨i, hi, e⟩ := List.mem_iff_getElem.1 hE; have := h i hi; rw [List.getD_eq_getElem?_getD, List.getElem?_eq_getElem hi] at this; rw [← e]
 exact this
theorem entT_mem {T : List ET} {t : ET} (h : t ∈ T) : t.E ∈ entT T := List.mem_map.2 ⟨t, h, rfl⟩
theorem lens_of {L : List Ent} (h : L.length + wtE L ≤ 1048576) : ∀ j, j < L.length → (L.getD j e0).p.length ≤ 1048576 ∧ (L.getD j e0).c.length ≤ 1048576 := fun j hj => by
 have := wt_at hj
 omega
end Go.Proofs.YtkodnipmogdgkaaGreat
namespace Go.Proofs.YtkodnipmogdgkaaGreat
open Go.ChangeShapes Go.WideShapes Go.ChangeAt Go.RowKit Go.BigFrame Go.Joins
set_option linter.unusedVariables false
set_option maxRecDepth 100000
set_option linter.unusedSimpArgs false
set_option maxRecDepth 100000

theorem over_grownP {V w w' : World} {v : Value} {l : List (Int × Int)} {base : Nat} (h : Over V w) (ho : OwnP w base v l) (hb : V.heap.size ≤ base) (hg : w.grownBy w' v.ownBlock) : Over V w' :=
 Below.grown h hg h.size (fun k hk => Nat.le_trans hb (World.ownsRow.lt ho k hk).1)
/-- the prefixes of a table, one for each entry -/
def pfx (L : List Ent) : List (Int × Int) := L.map fun E => (E.a, E.n)
theorem pfx_len (L : List Ent) : (pfx L).length = L.length := by simp [pfx]
end Go.Proofs.YtkodnipmogdgkaaGreat
namespace Go.Proofs.YtkodnipmogdgkaaGreat
open Go.ChangeShapes Go.WideShapes Go.ChangeAt Go.RowKit Go.BigFrame Go.Joins
set_option linter.unusedVariables false
set_option maxRecDepth 100000
set_option linter.unusedSimpArgs false
set_option maxRecDepth 100000

end Go.Proofs.YtkodnipmogdgkaaGreat
namespace Go.Proofs.YtkodnipmogdgkaaGreat
open Go.ChangeShapes Go.WideShapes Go.ChangeAt Go.RowKit Go.BigFrame Go.Joins
set_option linter.unusedVariables false
set_option maxRecDepth 100000
set_option linter.unusedSimpArgs false
set_option maxRecDepth 100000

end Go.Proofs.YtkodnipmogdgkaaGreat
namespace Go.Proofs.YtkodnipmogdgkaaGreat
open Go.ChangeShapes Go.WideShapes Go.ChangeAt Go.RowKit Go.BigFrame Go.Joins
set_option linter.unusedVariables false
set_option maxRecDepth 100000
set_option linter.unusedSimpArgs false
set_option maxRecDepth 100000

/-- the first n hold the marks from k on -/
def MarkP (k : Int) (n : Nat) (l : List (Int × Int)) : Prop := ∀ i : Nat, i < n → l.getD i (0, 0) = (k + (i : Int) * 2, k + (i : Int) * 2 + 1)
theorem MarkP.next {k : Int} {n : Nat} {l : List (Int × Int)} (h : MarkP k n l) (hn : n < l.length) : MarkP k (n + 1) (l.set n (k + (n : Int) * 2, k + (n : Int) * 2 + 1)) := by
 intro i hi
 by_cases e : i = n
 ·subst e
  simp [List.getD_eq_getElem?_getD, hn]
 ·rw [← h i (by omega)]
  simp only [List.getD_eq_getElem?_getD, List.getElem?_set]; rw [if_neg (by omega)]
theorem OwnP.soft {base hi b : Nat} {w w' : World} {v : Value} {l : List (Int × Int)} (h : OwnP w b v l) (s : Soft base hi w w') (hv : hi ≤ b) : OwnP w' b v l := by
 unfold OwnP at h ⊢; refine ⟨h.1, ?_⟩
 rcases h.2 with hn | ⟨g, cap, cur, e, hb, hg, rest⟩
 ·exact .inl hn
 ·have hlt : g < w.heap.size := (World.ownsRow.lt h g (by rw [e]; rfl)).2
  exact .inr ⟨g, cap, cur, e, hb, (s.block g hlt (.inr (by omega))).trans hg, rest⟩
theorem markP_is (v : Value) (l : List (Int × Int)) (base : Nat) (k : Int) (w : World) (h : OwnP w base v l) (hk0 : 0 ≤ k) (hk : k + l.length * 2 ≤ 4294967296) :
  Calls Tryz.prog 55 #[v, .int .i64 k] w fun e w' => e = .returned (.int .i64 (k + l.length * 2)) ∧ (∃ l', l'.length = l.length ∧ MarkP k l'.length l' ∧ OwnP w' base v l') ∧ w.grownBy w' v.ownBlock := by
 have h0 := h; unfold OwnP at h0
 rcases h.2 with ⟨rfl, hn⟩ | ⟨g, cap, cur, rfl, hb, hg, hnc, hcm, hcs, htake⟩
 ·have hl : l = [] := List.eq_nil_of_length_eq_zero hn
  subst hl; clear hn h0 hk
  go_enter Tryz.func55, Tryz.ntmps55
  go_wp2; refine wp_loop_rounds 1 ?_; rw [rounds_succ]; go_wp2
  go_ret
  exact ⟨ret_int (by simp), ⟨[], rfl, fun i hi => absurd hi (by simp), h⟩, ⟨rfl, rfl, rfl, Nat.le_refl _, fun _ _ _ => rfl⟩⟩
 ·clear htake hcs hg h
  obtain ⟨n, hn'⟩ : ∃ n, n = l.length := ⟨_, rfl⟩; have h1 : ∃ l' : List (Int × Int), l'.length = n ∧ MarkP k 0 l' ∧ w.ownsRow base PT 2 (.slice (some ⟨g, 0, none⟩) n cap) n ((flat l').map (Value.int .i64)) := ⟨l, hn'.symm, fun i hi => absurd hi (by omega), by rw [hn']; exact h0⟩; rw [← hn'] at hk hnc ⊢; have hm : n ≤ 9223372036854775807 := by unfold maxLen at hcm; omega
  clear hn' hcm cur h0
  go_enter Tryz.func55, Tryz.ntmps55
  go_wp2
  go_loopw [1, 5] (fun q i wr => ∃ j : Nat, j ≤ n ∧ i = .int .i64 j ∧ q = .int .i64 (k + (j : Int) * 2) ∧ (∃ l' : List (Int × Int), l'.length = n ∧ MarkP k j l' ∧ wr.ownsRow base PT 2 (.slice (some ⟨g, 0, none⟩) n cap) n ((flat l').map (Value.int .i64))) ∧ w.grownBy wr (some g)) (fun _ i _ => n - (intOf i).toNat)
  case atStart => exact ⟨0, Nat.zero_le _, rfl, by simp, h1, ⟨rfl, rfl, rfl, Nat.le_refl _, fun _ _ _ => rfl⟩⟩
  case round =>
   obtain ⟨j, hj, rfl, rfl, ⟨l', hl', hmk, hown⟩, hB⟩ := hrel
   by_cases hlt : j < n
   ·have hltI : (j : Int) < (n : Int) := by omega
    have hfl : ((flat l').map (Value.int .i64)).length = n * 2 := by rw [List.length_map, flat_len, hl']
    have f0 := hown.frozenAt (j * 2); have f1 := hown.frozenAt (j * 2 + 1); obtain ⟨p0, e0⟩ : ∃ p0, wr.cell? ⟨g, j * 2, none⟩ = some p0 := ⟨_, (hown.cellAt (j * 2) (by omega)).trans (List.getElem?_eq_getElem (by rw [hfl]; omega))⟩; obtain ⟨p1, e1⟩ : ∃ p1, wr.cell? ⟨g, j * 2 + 1, none⟩ = some p1 := ⟨_, (hown.cellAt (j * 2 + 1) (by omega)).trans (List.getElem?_eq_getElem (by rw [hfl]; omega))⟩; have s1 := hown.stored (j * 2) (.int .i64 (k + (j : Int) * 2)); have s2 := s1.1.stored (j * 2 + 1) (.int .i64 (k + (j : Int) * 2 + 1)); have hB2 := grown_trans (grown_trans hB s1.2) s2.2; have hst := s2.1; rw [map_set_flat _ j (by rw [hl']; exact hlt)] at hst; have HST := Lib.hid hst; have HB := Lib.hid hB2; have HMK := Lib.hid (hmk.next (by rw [hl']; exact hlt)); have HL : Hid ((l'.set j (k + (j : Int) * 2, k + (j : Int) * 2 + 1)).length = n) := Lib.hid (by rw [List.length_set, hl']); clear s1 s2 hst hB2 hown hB hfl hl' hmk; go_wp2
    go_roundw
    case rel => exact ⟨j + 1, by omega, by go_num, by congr 1; omega, ⟨_, HL.out, HMK.out, HST.out⟩, HB.out⟩
    case measure => simp [intOf]; omega
   ·have hjn : j = n := by omega
    subst hjn; go_wp2
    go_ret
    exact ⟨rfl, ⟨l', hl', by rw [hl']; exact hmk, by unfold OwnP; rw [hl']; exact hown⟩, hB⟩
end Go.Proofs.YtkodnipmogdgkaaGreat
namespace Go.Proofs.YtkodnipmogdgkaaGreat
open Go.ChangeShapes Go.WideShapes Go.ChangeAt Go.RowKit Go.BigFrame Go.Joins
set_option linter.unusedVariables false
set_option maxRecDepth 100000
set_option linter.unusedSimpArgs false
set_option maxRecDepth 100000

theorem MidB.of_below {w w' : World} (base hi : Nat) (h : Below w.heap.size w w') : MidB base hi w w' := ⟨h.os, h.tape, h.output, h.size, fun i hi' _ => h.block i hi'⟩
theorem MkR.mid {w w' : World} {base hi b0 h0 : Nat} {u : Value} {L : List Ent} (h : MkR w base hi u L) (s : MidB b0 h0 w w') (hd : h0 ≤ base ∨ hi ≤ b0) : MkR w' base hi u L := by
 obtain ⟨B, e, s0, c, ew, h1, h2, h3⟩ := h; have blk : ∀ i, base ≤ i → i < hi → i < w.heap.size → w'.heap[i]? = w.heap[i]? := fun i a b q => s.block i q (by omega)
 have hb := blk B h1 h2 h3
 have wr : ∀ {v : Value} {n : Nat}, Wr w (B + 1) hi v n → Wr w' (B + 1) hi v n := fun {v n} q => by
  obtain ⟨a, c, rfl, hc⟩ := q; refine ⟨a, c, rfl, fun i hi' => ?_⟩; obtain ⟨g, e, q2, q3, q4, q5⟩ := hc i hi'
  have hg : g < w.heap.size := by
   obtain ⟨x, hx⟩ := Option.isSome_iff_exists.1 q4
   exact World.block_lt_of_cell? w _ hx
  have eg := blk g (by omega) q3 hg
  exact ⟨g, e, q2, q3, by rw [World.cell?_of_block (w := w) (a := ⟨g, i, none⟩) eg]; exact q4, (World.frozen?_of_block (w := w) eg).trans q5⟩
 refine ⟨B, e, Soft.refl _ _ _, fun j hj => ⟨by rw [World.cell?_of_block (w := w) (a := ⟨B, j, none⟩) hb]; exact (c j hj).1, (World.frozen?_of_block (w := w) hb).trans (c j hj).2⟩, fun i hi' => ?_, h1, h2, Nat.le_trans h3 s.size⟩; obtain ⟨u1, u2, e1, e2, r1, r2⟩ := ew i hi'
 exact ⟨u1, u2, (World.cell?_of_block (w := w) hb).trans e1, (World.cell?_of_block (w := w) hb).trans e2, wr r1, wr r2⟩
theorem row_mid {base hi b n z : Nat} {e : TypeId} {w w' : World} {v : Value} {xs : List Value} (h : w.ownsRow b e z v n xs) (s : MidB base hi w w') (hv : ∀ k, v.ownBlock = some k → k < base ∨ hi ≤ k) : w'.ownsRow b e z v n xs := by
 refine ⟨h.1, ?_⟩
 rcases h.2 with hn | ⟨g, cap, cur, e, hb, hg, rest⟩
 ·exact .inl hn
 ·have hlt : g < w.heap.size := (World.ownsRow.lt h g (by rw [e]; rfl)).2
  exact .inr ⟨g, cap, cur, e, hb, (s.block g hlt (hv g (by rw [e]; rfl))).trans hg, rest⟩
theorem OwnP.mid {base hi b : Nat} {w w' : World} {v : Value} {l : List (Int × Int)} (h : OwnP w b v l) (s : MidB base hi w w') (hv : ∀ k, v.ownBlock = some k → k < base ∨ hi ≤ k) : OwnP w' b v l := row_mid h s hv
theorem OwnT.mid {base hi b : Nat} {w w' : World} {v : Value} {T : List ET} (h : OwnT w b v T) (s : MidB base hi w w') (hv : hi ≤ b ∨ InH base v T) : OwnT w' b v T := by
 refine ⟨row_mid h.row s fun k hk => ?_, fun t ht => ⟨row_mid (h.own t ht).1 s fun k hk => ?_, row_mid (h.own t ht).2 s fun k hk => ?_⟩, h.len, h.sep, h.apart⟩
 ·have := (World.ownsRow.lt h.row k hk).1
  rcases hv with q | q
  ·omega
  ·have := q.1 k hk; omega
 ·have := ((h.lt t ht).1 k hk).1
  rcases hv with q | q
  ·omega
  ·have := (q.2 t ht).1 k hk; omega
 ·have := ((h.lt t ht).2 k hk).1
  rcases hv with q | q
  ·omega
  ·have := (q.2 t ht).2 k hk; omega
/-- a switch of the call's own: its list, its table and what was sent lie behind one another -/
structure NdT (w : World) (b0 h1 h2 h3 : Nat) (ov ru su : Value) (own : List (Int × Int)) (T1 T2 : List ET) : Prop where
 o : OwnP w b0 ov own
 oh : ∀ k, ov.ownBlock = some k → k < h1
 r : OwnT w h1 ru T1
 ri : InH h2 ru T1
 s : OwnT w h2 su T2
 si : InH h3 su T2
 q1 : b0 ≤ h1
 q2 : h1 ≤ h2
 q3 : h2 ≤ h3
theorem NdT.keep {w w' : World} {b0 h1 h2 h3 : Nat} {ov ru su : Value} {own : List (Int × Int)} {T1 T2 : List ET} (h : NdT w b0 h1 h2 h3 ov ru su own T1 T2) (hb : Below w.heap.size w w') : NdT w' b0 h1 h2 h3 ov ru su own T1 T2 :=
 ⟨h.o.keep hb, h.oh, h.r.keep hb, h.ri, h.s.keep hb, h.si, h.q1, h.q2, h.q3⟩
theorem NdT.mid {w w' : World} {b0 h1 h2 h3 b h : Nat} {ov ru su : Value} {own : List (Int × Int)} {T1 T2 : List ET} (H : NdT w b0 h1 h2 h3 ov ru su own T1 T2) (s : MidB b h w w') (hb : h ≤ b0) : NdT w' b0 h1 h2 h3 ov ru su own T1 T2 :=
 ⟨H.o.mid s fun k hk => .inr (Nat.le_trans hb (World.ownsRow.lt H.o k hk).1), H.oh, H.r.mid s (.inl (Nat.le_trans hb H.q1)), H.ri, H.s.mid s (.inl (Nat.le_trans hb (Nat.le_trans H.q1 H.q2))), H.si, H.q1, H.q2, H.q3⟩
/-- its slices bear the marks from 1 on -/
def MarkN (w : World) (ov ru su : Value) (n : Nat) (W1 W2 : List Nat) : Prop :=
 ∃ l L1 L2, l.length = n ∧ MarkP 1 n l ∧ RdP w ov l ∧ MarkedW (1 + (n : Int) * 2) W1 L1 L1.length ∧ RdE w ru L1 ∧ MarkedW (1 + (n : Int) * 2 + (W1.sum : Nat)) W2 L2 L2.length ∧ RdE w su L2
theorem MarkN.keep {w w' : World} {ov ru su : Value} {n : Nat} {W1 W2 : List Nat} (h : MarkN w ov ru su n W1 W2) (hb : Below w.heap.size w w') : MarkN w' ov ru su n W1 W2 := by
 obtain ⟨l, L1, L2, a, b, c, d, e, f, g⟩ := h
 exact ⟨l, L1, L2, a, b, c.keep hb, d, e.keep hb, f, g.keep hb⟩
end Go.Proofs.YtkodnipmogdgkaaGreat
namespace Go.Proofs.YtkodnipmogdgkaaGreat
open Go.ChangeShapes Go.WideShapes Go.ChangeAt Go.RowKit Go.BigFrame Go.Joins
set_option linter.unusedVariables false
set_option maxRecDepth 100000
set_option linter.unusedSimpArgs false

theorem list8 {α : Type} {xs : List α} (h : xs.length = 8) : ∃ c0 c1 c2 c3 c4 c5 c6 c7, xs = [c0, c1, c2, c3, c4, c5, c6, c7] := by
 match xs, h with
 | [c0, c1, c2, c3, c4, c5, c6, c7], _ => exact ⟨c0, c1, c2, c3, c4, c5, c6, c7, rfl⟩
section
variable {H : Type} {enc : TypeId × Value → H} {W : World} {base : Nat} {d : DataW H} {p : List MemPlace} {v : Value}
theorem cellsI1 : Tryz.prog.cellsOf 3 = 1 := by kernel_rfl
theorem cellsP1 : Tryz.prog.cellsOf 80 = 1 := by kernel_rfl
theorem cellsIS1 : Tryz.prog.cellsOf 87 = 1 := by kernel_rfl
end
/-- a fresh message: four rows of its own, apart -/
def NewM (w : World) (gs cs : List (Int × Int)) (ps ms : List Int) (kn sa ho ix pr bw er : Int) (e : Ending) (w' : World) : Prop :=
 ∃ ga gx ca cx pa px ma mx, e = .returned (.agg #[.int .i64 kn, .int .i64 sa, .int .i64 ho, .int .i64 ix, .slice ga gs.length gx, .slice ca cs.length cx, .slice pa ps.length px, .int .i64 pr, .slice ma ms.length mx, .int .i64 bw, .int .i64 er]) ∧ OwnP w' w.heap.size (.slice ga gs.length gx) gs ∧ OwnP w' w.heap.size (.slice ca cs.length cx) cs ∧ OwnI w' w.heap.size (.slice pa ps.length px) ps ∧ OwnI w' w.heap.size (.slice ma ms.length mx) ms ∧
  Apart (.slice ga gs.length gx) (.slice ca cs.length cx) ∧ Apart (.slice ga gs.length gx) (.slice pa ps.length px) ∧ Apart (.slice ga gs.length gx) (.slice ma ms.length mx) ∧ Apart (.slice ca cs.length cx) (.slice pa ps.length px) ∧ Apart (.slice ca cs.length cx) (.slice ma ms.length mx) ∧ Apart (.slice pa ps.length px) (.slice ma ms.length mx) ∧ Below w.heap.size w w'
theorem apartL {w w' : World} {b1 b2 n1 n2 : Nat} {t1 t2 : TypeId} {s1 s2 : Nat} {v u : Value} {l m : List Value} (h1 : w.ownsRow b1 t1 n1 v s1 l) (h2 : w'.ownsRow b2 t2 n2 u s2 m) (h : w.heap.size ≤ b2) : Apart v u := by
 have a : v.ownBlock = none ∨ v.ownBlock ≠ u.ownBlock := by
  cases hv : v.ownBlock with
  | none => exact .inl rfl
  | some k =>
   refine .inr (fun e => ?_); have a1 := (World.ownsRow.lt h1 k hv).2; have a2 := (World.ownsRow.lt h2 k e.symm).1
   omega
 refine ⟨a, ?_⟩
 rcases a with h0 | h0
 ·cases hu : u.ownBlock with
  | none => exact .inl rfl
  | some k => exact .inr (by rw [h0]; simp)
 ·exact .inr (Ne.symm h0)
set_option maxHeartbeats 1000000 in
theorem toM_any (gv cv pv mv : Value) (gs cs : List (Int × Int)) (ps ms : List Int) (kn sa ho ix pr bw er : Int) (w : World) (hg : RdP w gv gs) (hc : RdP w cv cs) (hp : RdI w pv ps) (hm : RdI w mv ms) (h0 : gs.length ≤ 1048576) (h1 : cs.length ≤ 1048576) (h2 : ps.length ≤ 1048576) (h3 : ms.length ≤ 1048576) :
  Calls Tryz.prog 177 #[.agg #[.int .i64 kn, .int .i64 sa, .int .i64 ho, .int .i64 ix, gv, cv, pv, .int .i64 pr, mv, .int .i64 bw, .int .i64 er]] w (NewM w gs cs ps ms kn sa ho ix pr bw er) := by
 obtain ⟨bA, bR, bO, B1, z⟩ := three w [.int .i64 kn, .int .i64 sa, .int .i64 ho, .int .i64 ix, gv, cv, pv, .int .i64 pr, mv, .int .i64 bw, .int .i64 er] [.int .i64 0, .int .i64 0, .int .i64 0, .int .i64 0, .slice none 0 0, .slice none 0 0, .slice none 0 0, .int .i64 0, .slice none 0 0, .int .i64 0, .int .i64 0] [.int .i64 kn, .int .i64 sa, .int .i64 ho, .int .i64 ix, .slice none 0 0, .slice none 0 0, .slice none 0 0, .int .i64 0, .slice none 0 0, .int .i64 0, .int .i64 0] 188 157 157
 go_enter Tryz.func177, Tryz.ntmps177
 go_wp2_with fail; refine (toP_any gv gs _ (hg.keep B1) h0).mono ?_; rintro e w1 ⟨ga, gx, rfl, hG, hb⟩; have hs := hb.size; rw [z] at hG hs; replace bA := bA.keep hb; replace bR := bR.keep hb; replace bO := bO.keep hb; replace B1 := below_step B1 hb; clear z hb; obtain ⟨A, hA⟩ : ∃ A, A = w.heap.size := ⟨_, rfl⟩; obtain ⟨R, hR⟩ : ∃ R, R = w.heap.size + 1 := ⟨_, rfl⟩; obtain ⟨O, hO⟩ : ∃ O, O = w.heap.size + 1 + 1 := ⟨_, rfl⟩; rw [← hA] at bA; rw [← hR] at bR; rw [← hO] at bO; rw [← hO, ← hR, ← hA]; have hO3 : O < w.heap.size + 3 := by omega
 have hRO : R ≠ O := by omega
 have hR3 : R < w.heap.size + 3 := by omega
 have hAO : A ≠ O := by omega
 have hwO : w.heap.size ≤ O := by omega
 have hwR : w.heap.size ≤ R := by omega
 clear hA hR hO; have a5 := bA.c 5 rfl; have o4 := bO.c 4 rfl; have of4 := bO.f 4 rfl; go_wp2_with fail; clear a5 o4 of4; have hs' := Nat.le_trans hs (grown_set w1 O 4 (.slice ga gs.length gx)).size; replace bA := bA.far (o := 4) (u := .slice ga gs.length gx) hAO; replace bR := bR.far (o := 4) (u := .slice ga gs.length gx) hRO; replace bO := bO.set 4 (.slice ga gs.length gx); replace hG := hG.far (o := 4) (u := .slice ga gs.length gx) hO3; replace B1 := B1.setCell (p := ⟨O, 4, none⟩) hwO (.slice ga gs.length gx); refine (toP_any cv cs _ (hc.keep B1) h1).mono ?_; rintro e w2 ⟨ca, cx, rfl, hC, hb⟩; have apGC := apartL hG hC (Nat.le_refl _); replace hC := hC.mono hs'; have hs2 := Nat.le_trans hs' hb.size; replace bA := bA.keep hb; replace bR := bR.keep hb; replace bO := bO.keep hb; replace hG := hG.keep hb; replace B1 := below_step B1 hb; clear hb hs hs'; have a6 := bA.c 6 rfl; have a7 := bA.c 7 rfl; have a8 := bA.c 8 rfl; have a9 := bA.c 9 rfl; have o5 := bO.c 5 rfl; have of5 := bO.f 5 rfl; go_wp2_with fail; clear a6 a7 a8 a9 o5 of5; have hs' := Nat.le_trans hs2 (grown_set w2 O 5 (.slice ca cs.length cx)).size; replace bA := bA.far (o := 5) (u := .slice ca cs.length cx) hAO; replace bR := bR.far (o := 5) (u := .slice ca cs.length cx) hRO; replace bO := bO.set 5 (.slice ca cs.length cx); replace hG := hG.far (o := 5) (u := .slice ca cs.length cx) hO3; replace hC := hC.far (o := 5) (u := .slice ca cs.length cx) hO3; replace B1 := B1.setCell (p := ⟨O, 5, none⟩) hwO (.slice ca cs.length cx); refine (toA_any pv mv ps ms pr bw _ (hp.keep B1) (hm.keep B1) h2 h3).mono ?_; rintro e w3 ⟨pa, px, ma, mx, rfl, hP, hM, apPM, hb⟩; have apGP := apartL hG hP (Nat.le_refl _); have apGM := apartL hG hM (Nat.le_refl _); have apCP := apartL hC hP (Nat.le_refl _); have apCM := apartL hC hM (Nat.le_refl _); replace hP := hP.mono hs'; replace hM := hM.mono hs'; replace bA := bA.keep hb; replace bR := bR.keep hb; replace bO := bO.keep hb; replace hG := hG.keep hb; replace hC := hC.keep hb; replace B1 := below_step B1 hb; clear hb hs2 hs'; have a10 := bA.c 10 rfl; have o0 := bO.c 0 rfl; have o1 := bO.c 1 rfl; have o2 := bO.c 2 rfl; have o3 := bO.c 3 rfl; have o4 := bO.c 4 rfl; have o5 := bO.c 5 rfl; have o6 := bO.c 6 rfl; have o7 := bO.c 7 rfl; have o8 := bO.c 8 rfl; have o9 := bO.c 9 rfl; have o10 := bO.c 10 rfl; have of0 := bO.f 0 rfl; have of1 := bO.f 1 rfl; have of2 := bO.f 2 rfl; have of3 := bO.f 3 rfl; have of4 := bO.f 4 rfl; have of5 := bO.f 5 rfl; have of6 := bO.f 6 rfl; have of7 := bO.f 7 rfl; have of8 := bO.f 8 rfl; have of9 := bO.f 9 rfl; have of10 := bO.f 10 rfl; have r0 := bR.c 0 rfl; have r1 := bR.c 1 rfl; have r2 := bR.c 2 rfl; have r3 := bR.c 3 rfl; have r4 := bR.c 4 rfl; have r5 := bR.c 5 rfl; have r6 := bR.c 6 rfl; have r7 := bR.c 7 rfl; have r8 := bR.c 8 rfl; have r9 := bR.c 9 rfl; have r10 := bR.c 10 rfl; have rf0 := bR.f 0 rfl; have rf1 := bR.f 1 rfl; have rf2 := bR.f 2 rfl; have rf3 := bR.f 3 rfl; have rf4 := bR.f 4 rfl; have rf5 := bR.f 5 rfl; have rf6 := bR.f 6 rfl; have rf7 := bR.f 7 rfl; have rf8 := bR.f 8 rfl; have rf9 := bR.f 9 rfl; have rf10 := bR.f 10 rfl; go_wp2_with fail; have bE := ((((((((((((((((bR.far (o := 6) (u := .slice pa ps.length px) hRO).far (o := 7) (u := .int .i64 pr) hRO).far (o := 8) (u := .slice ma ms.length mx) hRO).far (o := 9) (u := .int .i64 bw) hRO).far (o := 10) (u := .int .i64 er) hRO).set 0 (.int .i64 kn)).set 1 (.int .i64 sa)).set 2 (.int .i64 ho)).set 3 (.int .i64 ix)).set 4 (.slice ga gs.length gx)).set 5 (.slice ca cs.length cx)).set 6 (.slice pa ps.length px)).set 7 (.int .i64 pr)).set 8 (.slice ma ms.length mx)).set 9 (.int .i64 bw)).set 10 (.int .i64 er)); have e0 := bE.c 0 rfl; have e1 := bE.c 1 rfl; have e2 := bE.c 2 rfl; have e3 := bE.c 3 rfl; have e4 := bE.c 4 rfl; have e5 := bE.c 5 rfl; have e6 := bE.c 6 rfl; have e7 := bE.c 7 rfl; have e8 := bE.c 8 rfl; have e9 := bE.c 9 rfl; have e10 := bE.c 10 rfl
 exact bodyPost_ret (v := .agg #[.int .i64 kn, .int .i64 sa, .int .i64 ho, .int .i64 ix, .slice ga gs.length gx, .slice ca cs.length cx, .slice pa ps.length px, .int .i64 pr, .slice ma ms.length mx, .int .i64 bw, .int .i64 er]) (by simp [results, Tryz.results177, go_sem, e0, e1, e2, e3, e4, e5, e6, e7, e8, e9, e10]) rfl
  ⟨ga, gx, ca, cx, pa, px, ma, mx, rfl, (((((((((((((((((hG.far (o := 6) hO3).far (o := 7) hO3).far (o := 8) hO3).far (o := 9) hO3).far (o := 10) hO3).far (o := 0) hR3).far (o := 1) hR3).far (o := 2) hR3).far (o := 3) hR3).far (o := 4) hR3).far (o := 5) hR3).far (o := 6) hR3).far (o := 7) hR3).far (o := 8) hR3).far (o := 9) hR3).far (o := 10) hR3)).mono (by omega), (((((((((((((((((hC.far (o := 6) hO3).far (o := 7) hO3).far (o := 8) hO3).far (o := 9) hO3).far (o := 10) hO3).far (o := 0) hR3).far (o := 1) hR3).far (o := 2) hR3).far (o := 3) hR3).far (o := 4) hR3).far (o := 5) hR3).far (o := 6) hR3).far (o := 7) hR3).far (o := 8) hR3).far (o := 9) hR3).far (o := 10) hR3)).mono (by omega), (((((((((((((((((hP.far (o := 6) hO3).far (o := 7) hO3).far (o := 8) hO3).far (o := 9) hO3).far (o := 10) hO3).far (o := 0) hR3).far (o := 1) hR3).far (o := 2) hR3).far (o := 3) hR3).far (o := 4) hR3).far (o := 5) hR3).far (o := 6) hR3).far (o := 7) hR3).far (o := 8) hR3).far (o := 9) hR3).far (o := 10) hR3)).mono (by omega), (((((((((((((((((hM.far (o := 6) hO3).far (o := 7) hO3).far (o := 8) hO3).far (o := 9) hO3).far (o := 10) hO3).far (o := 0) hR3).far (o := 1) hR3).far (o := 2) hR3).far (o := 3) hR3).far (o := 4) hR3).far (o := 5) hR3).far (o := 6) hR3).far (o := 7) hR3).far (o := 8) hR3).far (o := 9) hR3).far (o := 10) hR3)).mono (by omega), apGC, apGP, apGM, apCP, apCM, apPM, ((((((((((((((((B1.setCell (p := ⟨O, 6, none⟩) hwO _).setCell (p := ⟨O, 7, none⟩) hwO _).setCell (p := ⟨O, 8, none⟩) hwO _).setCell (p := ⟨O, 9, none⟩) hwO _).setCell (p := ⟨O, 10, none⟩) hwO _).setCell (p := ⟨R, 0, none⟩) hwR _).setCell (p := ⟨R, 1, none⟩) hwR _).setCell (p := ⟨R, 2, none⟩) hwR _).setCell (p := ⟨R, 3, none⟩) hwR _).setCell (p := ⟨R, 4, none⟩) hwR _).setCell (p := ⟨R, 5, none⟩) hwR _).setCell (p := ⟨R, 6, none⟩) hwR _).setCell (p := ⟨R, 7, none⟩) hwR _).setCell (p := ⟨R, 8, none⟩) hwR _).setCell (p := ⟨R, 9, none⟩) hwR _).setCell (p := ⟨R, 10, none⟩) hwR _)⟩
/-- two messages that read alike -/
theorem eqM_same (gv cv pv mv : Value) (gs cs : List (Int × Int)) (ps ms : List Int) (kn sa ho ix pr bw er : Int) (gv2 cv2 pv2 mv2 : Value) (w : World) (hg : RdP w gv gs) (hc : RdP w cv cs) (hp : RdI w pv ps) (hm : RdI w mv ms) (hg2 : RdP w gv2 gs) (hc2 : RdP w cv2 cs) (hp2 : RdI w pv2 ps) (hm2 : RdI w mv2 ms) :
  Calls Tryz.prog 183 #[.agg #[.int .i64 kn, .int .i64 sa, .int .i64 ho, .int .i64 ix, gv, cv, pv, .int .i64 pr, mv, .int .i64 bw, .int .i64 er], .agg #[.int .i64 kn, .int .i64 sa, .int .i64 ho, .int .i64 ix, gv2, cv2, pv2, .int .i64 pr, mv2, .int .i64 bw, .int .i64 er]] w fun e w' => e = .returned (.bool true) ∧ Below w.heap.size w w' := by
 obtain ⟨bA, bB, B1, z⟩ := two w [.int .i64 kn, .int .i64 sa, .int .i64 ho, .int .i64 ix, gv, cv, pv, .int .i64 pr, mv, .int .i64 bw, .int .i64 er] [.int .i64 kn, .int .i64 sa, .int .i64 ho, .int .i64 ix, gv2, cv2, pv2, .int .i64 pr, mv2, .int .i64 bw, .int .i64 er] 157 157; replace hg := hg.keep B1; replace hc := hc.keep B1; replace hp := hp.keep B1; replace hm := hm.keep B1; replace hg2 := hg2.keep B1; replace hc2 := hc2.keep B1; replace hp2 := hp2.keep B1; replace hm2 := hm2.keep B1; clear z; have q0 : (kn != kn) = false := by simp
 have q1 : (sa != sa) = false := by simp
 have q2 : (ho != ho) = false := by simp
 have q3 : (ix != ix) = false := by simp
 have q4 : (er != er) = false := by simp
 go_enter Tryz.func183, Tryz.ntmps183
 go_wp2_with fail; refine (eqPS_same _ _ gs _ hg hg2).mono ?_; rintro e w1 ⟨rfl, hb⟩; replace bA := bA.keep hb; replace bB := bB.keep hb; replace hg := hg.keep hb; replace hc := hc.keep hb; replace hp := hp.keep hb; replace hm := hm.keep hb; replace hg2 := hg2.keep hb; replace hc2 := hc2.keep hb; replace hp2 := hp2.keep hb; replace hm2 := hm2.keep hb; replace B1 := below_step B1 hb; clear hb; have a5 := bA.c 5 rfl; have b5 := bB.c 5 rfl; go_wp2_with fail; clear a5 b5; refine (eqPS_same _ _ cs _ hc hc2).mono ?_; rintro e w2 ⟨rfl, hb⟩; replace bA := bA.keep hb; replace bB := bB.keep hb; replace hg := hg.keep hb; replace hc := hc.keep hb; replace hp := hp.keep hb; replace hm := hm.keep hb; replace hg2 := hg2.keep hb; replace hc2 := hc2.keep hb; replace hp2 := hp2.keep hb; replace hm2 := hm2.keep hb; replace B1 := below_step B1 hb; clear hb; have a6 := bA.c 6 rfl; have b6 := bB.c 6 rfl; have a7 := bA.c 7 rfl; have b7 := bB.c 7 rfl; have a8 := bA.c 8 rfl; have b8 := bB.c 8 rfl; have a9 := bA.c 9 rfl; have b9 := bB.c 9 rfl; go_wp2_with fail; clear a6 a7 a8 a9 b6 b7 b8 b9; refine (eqA_same _ _ _ _ ps ms pr bw _ hp hm hp2 hm2).mono ?_; rintro e w3 ⟨rfl, hb⟩; replace bA := bA.keep hb; replace bB := bB.keep hb; replace hg := hg.keep hb; replace hc := hc.keep hb; replace hp := hp.keep hb; replace hm := hm.keep hb; replace hg2 := hg2.keep hb; replace hc2 := hc2.keep hb; replace hp2 := hp2.keep hb; replace hm2 := hm2.keep hb; replace B1 := below_step B1 hb; clear hb; have a10 := bA.c 10 rfl; have b10 := bB.c 10 rfl; go_wp2
 go_ret
 exact ⟨rfl, B1⟩
end Go.Proofs.YtkodnipmogdgkaaGreat
