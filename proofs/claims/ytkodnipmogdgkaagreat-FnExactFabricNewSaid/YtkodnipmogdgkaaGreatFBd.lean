/-
  Entries and tables: contracts of the tests that they are valid and of their order, of the program and of the model. Conditions: those in each contract.
  RibDropPeer of the program and of the model. Conditions: those in each contract.
  Marks on a table that was made by the call; they are found again. Conditions: those in each contract.
  Marks on a table that was made by the call, and how they are found again: contracts. Conditions: those in each contract.
  Words for the law on RibDropPeer. Conditions: those in each statement.
  The prefixes of a table: contracts of the model's functions that list them. Conditions: those in each contract.
  The prefixes of a table: contracts of RibPrefixes of the program and of the model. Conditions: those in each contract.
  The library's slices.Compact at a slice of prefixes; the program's list of a table's prefixes. Conditions: those in each contract.
  A list of prefixes is marked, and its marks are found again. Conditions: those in each contract.
  Marks on switches: on a copy of an argument, on an answer; the latter are found again. Conditions: those in each contract.
  Messages: what an argument that is one reads as; contracts of the laws' own functions that size, copy and compare them. Conditions: those in each contract.
  Memory that nobody else has; lists of messages. Conditions: those in each contract.
  Lists of switches. Conditions: those in each contract.
-/
import Derived.Test.YtkodnipmogdgkaaGreatFBb
import Derived.Test.YtkodnipmogdgkaaGreatFBc
import Derived.Deep.RegionHeld
import Derived.Deep.CutRange
import Derived.Test.YtkodnipmogdgkaaGreatFBa
namespace Go.Proofs.YtkodnipmogdgkaaGreat
open Go.ChangeShapes Go.WideShapes Go.ChangeAt Go.RowKit Go.BigFrame Go.Joins
open List (setIfInBounds_toArray set_cons_succ set_cons_zero)
set_option linter.unusedVariables false
set_option maxRecDepth 100000
set_option maxRecDepth 100000
set_option linter.unusedSimpArgs false
set_option maxRecDepth 100000

theorem within_7 {n : Int} {b : Bool} (w : World) (H : Hid (inB n (-1) 7 = b)) : Calls Tryz.prog 51 #[.int .i64 n, .int .i64 (-1), .int .i64 7] w fun e w' => e = .returned (.bool b) ∧ w = w' := within_t w H
/-- an entry is valid -/
def entB (a n pe : Int) (p : List Int) (pr : Int) (c : List Int) (bw : Int) : Bool := pokB a n && (inB pe (-1) 7 && aokB p pr c bw)
/-- the order of entries -/
def ecmp (a n pe b m qe : Int) : Int := orv (cmp2 a n b m) (cmp1 pe qe)
theorem snum6 (a b : Int) (w : World) : Calls Tryz.prog 157 #[.int .i64 a, .int .i64 b] w fun e w' => e = .returned (.int .i64 (cmp1 a b)) ∧ w = w' := by
 by_cases h1 : a < b
 ·rw [cmp1_lt h1]
  go_enter Tryz.func157, Tryz.ntmps157
  go_wp2
  go_ret
  exact ⟨rfl, rfl⟩
 ·by_cases h2 : b < a
  ·rw [cmp1_gt h2]
   go_enter Tryz.func157, Tryz.ntmps157
   go_wp2
   go_ret
   exact ⟨rfl, rfl⟩
  ·obtain rfl : a = b := by omega
   rw [cmp1_eq]; clear h1 h2; have h3 : ¬ a < a := by omega
   go_enter Tryz.func157, Tryz.ntmps157
   go_wp2
   go_ret
   exact ⟨rfl, rfl⟩
theorem sent_any (pv cv : Value) (p c : List Int) (a n pe pr bw : Int) (w : World) (hp : RdI w pv p) (hc : RdI w cv c) :
  Calls Tryz.prog 173 #[.agg #[.int .i64 a, .int .i64 n, .int .i64 pe, pv, .int .i64 pr, cv, .int .i64 bw]] w fun e w' => e = .returned (.bool (entB a n pe p pr c bw)) ∧ Below w.heap.size w w' := by
 obtain ⟨bA, B0, z⟩ := one w [.int .i64 a, .int .i64 n, .int .i64 pe, pv, .int .i64 pr, cv, .int .i64 bw] EI; replace hp := hp.keep B0; replace hc := hc.keep B0; clear z; unfold entB; cases hP : pokB a n
 ·rw [Bool.false_and]
  have HP := Lib.hid hP; clear hP
  go_enter Tryz.func173, Tryz.ntmps173
  go_wp2_with fail; refine (spok_t _ HP).mono ?_; rintro e w1 ⟨rfl, hb⟩; replace bA := bA.keep hb; replace hp := hp.keep hb; replace hc := hc.keep hb; replace B0 := below_step B0 hb; clear hb; have a1 := bA.c 1 rfl; have a2 := bA.c 2 rfl; have a3 := bA.c 3 rfl; have a4 := bA.c 4 rfl; have a5 := bA.c 5 rfl; have a6 := bA.c 6 rfl; go_wp2
  go_ret
  exact ⟨rfl, B0⟩
 ·rw [Bool.true_and]
  have HP := Lib.hid hP; clear hP; cases hI : inB pe (-1) 7
  ·rw [Bool.false_and]
   simp only [inB, decide_eq_false_iff_not] at hI
   by_cases h1 : -1 ≤ pe
   ·have h2 : ¬ pe < 8 := by omega
    clear hI
    go_enter Tryz.func173, Tryz.ntmps173
    go_wp2_with fail; refine (spok_t _ HP).mono ?_; rintro e w1 ⟨rfl, hb⟩; replace bA := bA.keep hb; replace hp := hp.keep hb; replace hc := hc.keep hb; replace B0 := below_step B0 hb; clear hb; have a1 := bA.c 1 rfl; have a2 := bA.c 2 rfl; have a3 := bA.c 3 rfl; have a4 := bA.c 4 rfl; have a5 := bA.c 5 rfl; have a6 := bA.c 6 rfl; go_wp2
    go_ret
    exact ⟨rfl, B0⟩
   ·clear hI
    go_enter Tryz.func173, Tryz.ntmps173
    go_wp2_with fail; refine (spok_t _ HP).mono ?_; rintro e w1 ⟨rfl, hb⟩; replace bA := bA.keep hb; replace hp := hp.keep hb; replace hc := hc.keep hb; replace B0 := below_step B0 hb; clear hb; have a1 := bA.c 1 rfl; have a2 := bA.c 2 rfl; have a3 := bA.c 3 rfl; have a4 := bA.c 4 rfl; have a5 := bA.c 5 rfl; have a6 := bA.c 6 rfl; go_wp2
    go_ret
    exact ⟨rfl, B0⟩
  ·rw [Bool.true_and]
   simp only [inB, decide_eq_true_eq] at hI; have h1 : -1 ≤ pe := hI.1; have h2 : pe < 8 := by omega
   clear hI; obtain ⟨r, hA⟩ : ∃ r, aokB p pr c bw = r := ⟨_, rfl⟩; rw [hA]; have HA := Lib.hid hA; clear hA
   go_enter Tryz.func173, Tryz.ntmps173
   go_wp2_with fail; refine (spok_t _ HP).mono ?_; rintro e w1 ⟨rfl, hb⟩; replace bA := bA.keep hb; replace hp := hp.keep hb; replace hc := hc.keep hb; replace B0 := below_step B0 hb; clear hb; have a1 := bA.c 1 rfl; have a2 := bA.c 2 rfl; have a3 := bA.c 3 rfl; have a4 := bA.c 4 rfl; have a5 := bA.c 5 rfl; have a6 := bA.c 6 rfl; go_wp2_with fail; refine (saok_t _ hp hc HA).mono ?_; rintro e w2 ⟨rfl, hb⟩; replace B0 := below_step B0 hb; clear hb; go_wp2
   go_ret
   exact ⟨rfl, B0⟩
theorem sent_t {pv cv : Value} {p c : List Int} {a n pe pr bw : Int} {b : Bool} (w : World) (hp : RdI w pv p) (hc : RdI w cv c) (H : Hid (entB a n pe p pr c bw = b)) :
  Calls Tryz.prog 173 #[.agg #[.int .i64 a, .int .i64 n, .int .i64 pe, pv, .int .i64 pr, cv, .int .i64 bw]] w fun e w' => e = .returned (.bool b) ∧ Below w.heap.size w w' := H.out ▸ sent_any pv cv p c a n pe pr bw w hp hc
theorem ient_any (pv cv : Value) (p c : List Int) (a n pe pr bw : Int) (w : World) (hp : RdI w pv p) (hc : RdI w cv c) :
  Calls Tryz.prog 180 #[.agg #[.int .i64 a, .int .i64 n, .int .i64 pe, pv, .int .i64 pr, cv, .int .i64 bw]] w fun e w' => e = .returned (.bool (entB a n pe p pr c bw)) ∧ Below w.heap.size w w' := by
 obtain ⟨bA, B0, z⟩ := one w [.int .i64 a, .int .i64 n, .int .i64 pe, pv, .int .i64 pr, cv, .int .i64 bw] EI; replace hp := hp.keep B0; replace hc := hc.keep B0; clear z; unfold entB; cases hP : pokB a n
 ·rw [Bool.false_and]
  have HP := Lib.hid hP; clear hP
  go_enter Tryz.func180, Tryz.ntmps180
  go_wp2_with fail; refine (ipok_t _ HP).mono ?_; rintro e w1 ⟨rfl, hb⟩; replace bA := bA.keep hb; replace hp := hp.keep hb; replace hc := hc.keep hb; replace B0 := below_step B0 hb; clear hb; have a1 := bA.c 1 rfl; have a2 := bA.c 2 rfl; have a3 := bA.c 3 rfl; have a4 := bA.c 4 rfl; have a5 := bA.c 5 rfl; have a6 := bA.c 6 rfl; go_wp2
  go_ret
  exact ⟨rfl, B0⟩
 ·rw [Bool.true_and]
  have HP := Lib.hid hP; clear hP; cases hI : inB pe (-1) 7
  ·rw [Bool.false_and]
   have HI := Lib.hid hI; clear hI
   go_enter Tryz.func180, Tryz.ntmps180
   go_wp2_with fail; refine (ipok_t _ HP).mono ?_; rintro e w1 ⟨rfl, hb⟩; replace bA := bA.keep hb; replace hp := hp.keep hb; replace hc := hc.keep hb; replace B0 := below_step B0 hb; clear hb; have a1 := bA.c 1 rfl; have a2 := bA.c 2 rfl; have a3 := bA.c 3 rfl; have a4 := bA.c 4 rfl; have a5 := bA.c 5 rfl; have a6 := bA.c 6 rfl; go_wp2_with fail; refine (within_7 _ HI).mono ?_; rintro e w2 ⟨rfl, rfl⟩; go_wp2
   go_ret
   exact ⟨rfl, B0⟩
  ·rw [Bool.true_and]
   have HI := Lib.hid hI; clear hI; obtain ⟨r, hA⟩ : ∃ r, aokB p pr c bw = r := ⟨_, rfl⟩; rw [hA]; have HA := Lib.hid hA; clear hA
   go_enter Tryz.func180, Tryz.ntmps180
   go_wp2_with fail; refine (ipok_t _ HP).mono ?_; rintro e w1 ⟨rfl, hb⟩; replace bA := bA.keep hb; replace hp := hp.keep hb; replace hc := hc.keep hb; replace B0 := below_step B0 hb; clear hb; have a1 := bA.c 1 rfl; have a2 := bA.c 2 rfl; have a3 := bA.c 3 rfl; have a4 := bA.c 4 rfl; have a5 := bA.c 5 rfl; have a6 := bA.c 6 rfl; go_wp2_with fail; refine (within_7 _ HI).mono ?_; rintro e w2 ⟨rfl, rfl⟩; go_wp2_with fail; refine (iaok_t _ hp hc HA).mono ?_; rintro e w2 ⟨rfl, hb⟩; replace B0 := below_step B0 hb; clear hb; go_wp2
   go_ret
   exact ⟨rfl, B0⟩
theorem ient_t {pv cv : Value} {p c : List Int} {a n pe pr bw : Int} {b : Bool} (w : World) (hp : RdI w pv p) (hc : RdI w cv c) (H : Hid (entB a n pe p pr c bw = b)) :
  Calls Tryz.prog 180 #[.agg #[.int .i64 a, .int .i64 n, .int .i64 pe, pv, .int .i64 pr, cv, .int .i64 bw]] w fun e w' => e = .returned (.bool b) ∧ Below w.heap.size w w' := H.out ▸ ient_any pv cv p c a n pe pr bw w hp hc
theorem scmp6_any (pv cv pv2 cv2 : Value) (a n pe pr bw b m qe pr2 bw2 : Int) (w : World) :
  Calls Tryz.prog 174 #[.agg #[.int .i64 a, .int .i64 n, .int .i64 pe, pv, .int .i64 pr, cv, .int .i64 bw], .agg #[.int .i64 b, .int .i64 m, .int .i64 qe, pv2, .int .i64 pr2, cv2, .int .i64 bw2]] w fun e w' => e = .returned (.int .i64 (ecmp a n pe b m qe)) ∧ Below w.heap.size w w' := by
 obtain ⟨bA, bB, B0, z⟩ := two w [.int .i64 a, .int .i64 n, .int .i64 pe, pv, .int .i64 pr, cv, .int .i64 bw] [.int .i64 b, .int .i64 m, .int .i64 qe, pv2, .int .i64 pr2, cv2, .int .i64 bw2] EI EI; clear z; unfold ecmp; obtain ⟨r, hr⟩ : ∃ r, cmp2 a n b m = r := ⟨_, rfl⟩; rw [hr]; have HR := Lib.hid hr; clear hr
 by_cases h0 : r = 0
 ·subst h0
  rw [show orv 0 (cmp1 pe qe) = cmp1 pe qe by simp [orv]]
  go_enter Tryz.func174, Tryz.ntmps174
  go_wp2_with fail; refine (scmp_t _ HR).mono ?_; rintro e w1 ⟨rfl, hb⟩; replace bA := bA.keep hb; replace bB := bB.keep hb; replace B0 := below_step B0 hb; clear hb; have a0 := bA.c 0 rfl; have a1 := bA.c 1 rfl; have a2 := bA.c 2 rfl; have b0 := bB.c 0 rfl; have b1 := bB.c 1 rfl; have b2 := bB.c 2 rfl; go_wp2_with fail; refine (snum6 pe qe _).mono ?_; rintro e w2 ⟨rfl, rfl⟩; go_wp2
  go_ret
  exact ⟨rfl, B0⟩
 ·rw [show orv r (cmp1 pe qe) = r by simp [orv, h0]]
  have hne : (r != 0) = true := by simp [h0]
  go_enter Tryz.func174, Tryz.ntmps174
  go_wp2_with fail; refine (scmp_t _ HR).mono ?_; rintro e w1 ⟨rfl, hb⟩; replace B0 := below_step B0 hb; clear hb; go_wp2
  go_ret
  exact ⟨rfl, B0⟩
theorem icmp6_any (pv cv pv2 cv2 : Value) (a n pe pr bw b m qe pr2 bw2 : Int) (w : World) (r : Int) (HP : Hid (pcmp a n b m = r)) :
  Calls Tryz.prog 181 #[.agg #[.int .i64 a, .int .i64 n, .int .i64 pe, pv, .int .i64 pr, cv, .int .i64 bw], .agg #[.int .i64 b, .int .i64 m, .int .i64 qe, pv2, .int .i64 pr2, cv2, .int .i64 bw2]] w fun e w' => e = .returned (.int .i64 (orv r (cmp1 pe qe))) ∧ Below w.heap.size w w' := by
 obtain ⟨bA, bB, B0, z⟩ := two w [.int .i64 a, .int .i64 n, .int .i64 pe, pv, .int .i64 pr, cv, .int .i64 bw] [.int .i64 b, .int .i64 m, .int .i64 qe, pv2, .int .i64 pr2, cv2, .int .i64 bw2] EI EI; clear z; obtain ⟨V, hV⟩ : ∃ V, V = ((w.alloc (.cells #[.int .i64 a, .int .i64 n, .int .i64 pe, pv, .int .i64 pr, cv, .int .i64 bw] EI)).alloc (.cells #[.int .i64 b, .int .i64 m, .int .i64 qe, pv2, .int .i64 pr2, cv2, .int .i64 bw2] EI)) := ⟨_, rfl⟩; rw [← hV] at bA bB B0
 go_enter Tryz.func181, Tryz.ntmps181
 go_wp2_with fail; rw [← hV]; clear hV; have k0 := bA.c 0 rfl; have m0 := bB.c 0 rfl; have k1 := bA.c 1 rfl; have m1 := bB.c 1 rfl; have k2 := bA.c 2 rfl; have m2 := bB.c 2 rfl; have lA := bA.lt; have lB := bB.lt
 go_region_held3 (fun w' => Over V w' ∧ w'.cell? ⟨w.heap.size, 0, none⟩ = some (.int .i64 a) ∧ w'.cell? ⟨w.heap.size, 1, none⟩ = some (.int .i64 n) ∧ w'.cell? ⟨w.heap.size, 2, none⟩ = some (.int .i64 pe) ∧ w'.cell? ⟨w.heap.size + 1, 0, none⟩ = some (.int .i64 b) ∧ w'.cell? ⟨w.heap.size + 1, 1, none⟩ = some (.int .i64 m) ∧ w'.cell? ⟨w.heap.size + 1, 2, none⟩ = some (.int .i64 qe))
  ((first | assumption | exact ⟨over_drew _, k0, k1, k2, m0, m1, m2⟩ | exact (fun o => ⟨o, over_cell o lA k0, over_cell o lA k1, over_cell o lA k2, over_cell o lB m0, over_cell o lB m1, over_cell o lB m2⟩) (over_step (by assumption : Over V _ ∧ _).1 (by assumption)) | exact (fun o => ⟨o, over_cell o lA k0, over_cell o lA k1, over_cell o lA k2, over_cell o lB m0, over_cell o lB m1, over_cell o lB m2⟩) (over_step (by assumption : Over V _ ∧ _).1 ((Below.refl _ _).alloc (Nat.le_refl _) _))))
  ((first | (go_at_call 179; refine (icmp_t _ HP).mono ?_; rintro e w3 ⟨rfl, hb3⟩) | (go_at_call 200; refine (compare_any pe qe _).mono ?_; rintro e w4 ⟨rfl, rfl⟩) | (go_at_call 199; refine (or_any r (cmp1 pe qe) _ _ (by simp) (by simp)).mono ?_; rintro e w5 ⟨rfl, rfl⟩)))
 rename_i hH
 replace B0 := below_step B0 hH.1; go_wp2
 go_ret
 exact ⟨rfl, B0⟩
theorem scmp6_t {pv cv pv2 cv2 : Value} {a n pe pr bw b m qe pr2 bw2 r : Int} (w : World) (H : Hid (ecmp a n pe b m qe = r)) :
  Calls Tryz.prog 174 #[.agg #[.int .i64 a, .int .i64 n, .int .i64 pe, pv, .int .i64 pr, cv, .int .i64 bw], .agg #[.int .i64 b, .int .i64 m, .int .i64 qe, pv2, .int .i64 pr2, cv2, .int .i64 bw2]] w fun e w' => e = .returned (.int .i64 r) ∧ Below w.heap.size w w' := H.out ▸ scmp6_any pv cv pv2 cv2 a n pe pr bw b m qe pr2 bw2 w
theorem icmp6_t {pv cv pv2 cv2 : Value} {a n pe pr bw b m qe pr2 bw2 r : Int} (w : World) (H : Hid (pcmp a n b m = cmp2 a n b m ∧ ecmp a n pe b m qe = r)) :
  Calls Tryz.prog 181 #[.agg #[.int .i64 a, .int .i64 n, .int .i64 pe, pv, .int .i64 pr, cv, .int .i64 bw], .agg #[.int .i64 b, .int .i64 m, .int .i64 qe, pv2, .int .i64 pr2, cv2, .int .i64 bw2]] w fun e w' => e = .returned (.int .i64 r) ∧ Below w.heap.size w w' := by
 have h := icmp6_any pv cv pv2 cv2 a n pe pr bw b m qe pr2 bw2 w (cmp2 a n b m) (Lib.hid H.out.1); have e := H.out.2; unfold ecmp at e; rw [e] at h
 exact h
/-- entry i is valid -/
def okE (L : List Ent) (i : Nat) : Prop := entB (L.getD i e0).a (L.getD i e0).n (L.getD i e0).pe (L.getD i e0).p (L.getD i e0).pr (L.getD i e0).c (L.getD i e0).bw = true
/-- it lies ahead of the next one -/
def upE (L : List Ent) (i : Nat) : Prop := ecmp (L.getD i e0).a (L.getD i e0).n (L.getD i e0).pe (L.getD (i + 1) e0).a (L.getD (i + 1) e0).n (L.getD (i + 1) e0).pe < 0
instance (L : List Ent) (i : Nat) : Decidable (okE L i) := by unfold okE; infer_instance
instance (L : List Ent) (i : Nat) : Decidable (upE L i) := by unfold upE; infer_instance
def tabB (L : List Ent) : Bool := decide ((∀ i, i < L.length → okE L i) ∧ ∀ i, i < L.length - 1 → upE L i)
/-- a table is valid -/
def ribB (L : List Ent) : Bool := decide ((L.length : Int) ≤ 60) && tabB L
theorem tabB_yes {L : List Ent} {n : Nat} (hn : n = L.length) (h : ∀ i, i < n → okE L i) (h2 : ∀ i, i + 1 < n → upE L i) : tabB L = true := by
 subst hn; simp only [tabB, decide_eq_true_eq]
 exact ⟨h, fun i hi => h2 i (by omega)⟩
theorem tabB_ok {L : List Ent} {k : Nat} {E : Ent} (hk : k < L.length) (hx : L.getD k e0 = E) (h : entB E.a E.n E.pe E.p E.pr E.c E.bw = false) : tabB L = false := by
 simp only [tabB, decide_eq_false_iff_not]; rintro ⟨h1, -⟩; have := h1 k hk; unfold okE at this; rw [hx] at this; rw [this] at h; cases h
theorem tabB_up {L : List Ent} {k : Nat} {F E : Ent} (hk : k + 1 < L.length) (ha : L.getD k e0 = F) (hx : L.getD (k + 1) e0 = E) (h : ¬ ecmp F.a F.n F.pe E.a E.n E.pe < 0) : tabB L = false := by
 simp only [tabB, decide_eq_false_iff_not]; rintro ⟨-, h1⟩; have := h1 k (by omega); unfold upE at this; rw [ha, hx] at this
 exact h this
theorem entB_p {a n pe pr bw : Int} {p c : List Int} (h : entB a n pe p pr c bw = true) : pokB a n = true := by
 unfold entB at h; simp only [Bool.and_eq_true] at h
 exact h.1
set_option maxHeartbeats 1000000 in
theorem srib_any (v : Value) (L : List Ent) (w : World) (h : RdE w v L) :
  Calls Tryz.prog 123 #[.agg #[v]] w fun e w' => e = .returned (.bool (ribB L)) ∧ Below w.heap.size w w' := by
 unfold ribB; have hm := h.1; obtain ⟨a, c, rfl, hc⟩ := h.el; obtain ⟨n, hn⟩ : ∃ n, n = L.length := ⟨_, rfl⟩; rw [← hn] at hc hm ⊢; have HN := Lib.hid hn; clear h hn; obtain ⟨bR, B0, z⟩ := one w [.slice a n c] 56; clear z
 by_cases hbig : (n : Int) ≤ 60
 ·rw [show decide ((n : Int) ≤ 60) = true by simp [hbig]]
  have hbig2 : ¬ (60 : Int) < (n : Int) := by omega
  obtain ⟨W1, hW⟩ : ∃ W1, W1 = w.alloc (.cells #[.slice a n c] 56) := ⟨_, rfl⟩; obtain ⟨R, hR⟩ : ∃ R, R = w.heap.size := ⟨_, rfl⟩; have hW2 := hW
  go_enter Tryz.func123, Tryz.ntmps123
  go_wp2; rw [← hW2]
  try simp only [← hR]
  rw [← hR] at bR; rw [← hW2] at bR B0; clear hW hW2 hR
  go_loopw [3] (fun q wr => ∃ k : Nat, k ≤ n ∧ q = .int .i64 k ∧ (∀ i, i < k → okE L i) ∧ (∀ i, i + 1 < k → upE L i) ∧ Over W1 wr) (fun q _ => n - (intOf q).toNat)
  case atStart => exact ⟨0, Nat.zero_le _, rfl, fun i hi => by omega, fun i hi => by omega, over_refl _⟩
  case round =>
   obtain ⟨k, hk, rfl, hok, hup, hB⟩ := hrel; have HO := Lib.hid hok; have HU := Lib.hid hup; clear hok hup; replace bR := bR.keep hB; have r0 := bR.c 0 rfl
   by_cases hlt : k < n
   ·have hltI : (k : Int) < (n : Int) := by omega
    obtain ⟨b, o, rfl, hE⟩ := hc k hlt; obtain ⟨E, hx⟩ : ∃ E, L.getD k e0 = E := ⟨_, rfl⟩; rw [hx] at hE; obtain ⟨pv, cv, hp, hq, g0, g1, g2, g3, g4, g5, g6⟩ := hE.keep (below_step B0 hB); have HX := Lib.hid hx; have HCC := Lib.hid hc; clear hx hc hE; cases hpk : entB E.a E.n E.pe E.p E.pr E.c E.bw
    ·have HP := Lib.hid hpk
     have HF := Lib.hid (tabB_ok (by rw [← HN.out]; exact hlt) HX.out hpk); clear hpk; go_wp2; refine wp_region_class (C := Over (wr)) (by kernel_rfl) (by kernel_rfl) (over_drew _) ?_
     repeat (first | go_big_quiet_skip | (go_big_quiet_want; go_big_quiet_op; go_big_quiet_on) | (go_big_quiet_want; go_big_quiet_op; apply Exists.intro; refine ⟨fun w' hC => ?_, ?_⟩; ((first | (go_at_call 173; refine (sent_t _ (rdI_over hp hC) (rdI_over hq hC) HP).mono ?_; rintro e w1 ⟨rfl, hb1⟩; exact ⟨rfl, over_step hC hb1⟩))); go_big_quiet_on) | (go_big_quiet_want; apply Exists.intro; refine ⟨fun w' hC => ?_, ?_⟩; (have k0 := over_cell hC bR.lt (bR.c 0 rfl); have k1 := over_cell hC (World.block_lt_of_cell? _ _ g0) g0; have k2 := over_cell hC (World.block_lt_of_cell? _ _ g1) g1; have k3 := over_cell hC (World.block_lt_of_cell? _ _ g2) g2; have k4 := over_cell hC (World.block_lt_of_cell? _ _ g3) g3; have k5 := over_cell hC (World.block_lt_of_cell? _ _ g4) g4; have k6 := over_cell hC (World.block_lt_of_cell? _ _ g5) g5; have k7 := over_cell hC (World.block_lt_of_cell? _ _ g6) g6; simp [Oper.quietAt, Oper.quietUpon, go_sem, k0, k1, k2, k3, k4, k5, k6, k7, hltI, hlt]; first | done | rfl); go_big_quiet_on; simp only [Act.put, setIfInBounds_toArray, set_cons_succ, set_cons_zero]))
     refine wpQuiet_nil ?_; intro ws hC; have k0 := over_cell hC bR.lt (bR.c 0 rfl); have k1 := over_cell hC (World.block_lt_of_cell? _ _ g0) g0; have k2 := over_cell hC (World.block_lt_of_cell? _ _ g1) g1; have k3 := over_cell hC (World.block_lt_of_cell? _ _ g2) g2; have k4 := over_cell hC (World.block_lt_of_cell? _ _ g3) g3; have k5 := over_cell hC (World.block_lt_of_cell? _ _ g4) g4; have k6 := over_cell hC (World.block_lt_of_cell? _ _ g5) g5; have k7 := over_cell hC (World.block_lt_of_cell? _ _ g6) g6; go_wp2
     go_ret
     exact ⟨ret_bool (by first | rw [HF.out, Bool.and_false] | rw [HF.out] | simp [HF.out]), below_step B0 (over_step hB hC)⟩
    ·have HP := Lib.hid hpk
     have HOK : Hid (∀ i, i < k + 1 → okE L i) := Lib.hid fun i hi => by
      by_cases e : i = k
      ·unfold okE; rw [e, HX.out]; exact hpk
      ·exact HO.out i (by omega)
     clear hpk
     rcases Nat.eq_zero_or_pos k with rfl | hpos
     ·simp only [Nat.zero_mul, Nat.add_zero] at g0 g1 g2 g3 g4 g5 g6
      go_wp2; refine wp_region_class (C := Over (wr)) (by kernel_rfl) (by kernel_rfl) (over_drew _) ?_
      repeat (first | go_big_quiet_skip | (go_big_quiet_want; go_big_quiet_op; go_big_quiet_on) | (go_big_quiet_want; go_big_quiet_op; apply Exists.intro; refine ⟨fun w' hC => ?_, ?_⟩; ((first | (go_at_call 173; refine (sent_t _ (rdI_over hp hC) (rdI_over hq hC) HP).mono ?_; rintro e w1 ⟨rfl, hb1⟩; exact ⟨rfl, over_step hC hb1⟩))); go_big_quiet_on) | (go_big_quiet_want; apply Exists.intro; refine ⟨fun w' hC => ?_, ?_⟩; (have k0 := over_cell hC bR.lt (bR.c 0 rfl); have k1 := over_cell hC (World.block_lt_of_cell? _ _ g0) g0; have k2 := over_cell hC (World.block_lt_of_cell? _ _ g1) g1; have k3 := over_cell hC (World.block_lt_of_cell? _ _ g2) g2; have k4 := over_cell hC (World.block_lt_of_cell? _ _ g3) g3; have k5 := over_cell hC (World.block_lt_of_cell? _ _ g4) g4; have k6 := over_cell hC (World.block_lt_of_cell? _ _ g5) g5; have k7 := over_cell hC (World.block_lt_of_cell? _ _ g6) g6; simp [Oper.quietAt, Oper.quietUpon, go_sem, k0, k1, k2, k3, k4, k5, k6, k7, hltI, hlt]; first | done | rfl); go_big_quiet_on; simp only [Act.put, setIfInBounds_toArray, set_cons_succ, set_cons_zero]))
      refine wpQuiet_nil ?_; intro ws hC; have k0 := over_cell hC bR.lt (bR.c 0 rfl); have k1 := over_cell hC (World.block_lt_of_cell? _ _ g0) g0; have k2 := over_cell hC (World.block_lt_of_cell? _ _ g1) g1; have k3 := over_cell hC (World.block_lt_of_cell? _ _ g2) g2; have k4 := over_cell hC (World.block_lt_of_cell? _ _ g3) g3; have k5 := over_cell hC (World.block_lt_of_cell? _ _ g4) g4; have k6 := over_cell hC (World.block_lt_of_cell? _ _ g5) g5; have k7 := over_cell hC (World.block_lt_of_cell? _ _ g6) g6; go_wp2
      go_roundw
      case rel => exact ⟨0 + 1, by omega, by go_num, HOK.out, fun i hi => by omega, over_step hB hC⟩
      case measure => simp [intOf]; omega
     ·obtain ⟨j, rfl⟩ : ∃ j, k = j + 1 := ⟨k - 1, by omega⟩
      obtain ⟨b', o', hbo, hE'⟩ := HCC.out j (by omega); obtain ⟨rfl, rfl⟩ : b = b' ∧ o = o' := by simpa using hbo
      clear hbo; obtain ⟨F, hs⟩ : ∃ F, L.getD j e0 = F := ⟨_, rfl⟩; rw [hs] at hE'; obtain ⟨pu, cu, -, -, m0, m1, m2, m3, m4, m5, m6⟩ := hE'.keep (below_step B0 hB); have HS := Lib.hid hs; clear hE'; obtain ⟨r, hr⟩ : ∃ r, ecmp F.a F.n F.pe E.a E.n E.pe = r := ⟨_, rfl⟩; have HR := Lib.hid hr; clear hs hr
      by_cases hneg : r < 0
      ·have HUP : Hid (∀ i, i + 1 < j + 1 + 1 → upE L i) := Lib.hid fun i hi => by
        by_cases e : i = j
        ·unfold upE; rw [e, HS.out, HX.out, HR.out]; exact hneg
        ·exact HU.out i (by omega)
       have hwj : IntKind.i64.wrap (j : Int) = j := wrap64_in _ (by omega) (by omega); have hjI : (j : Int) < (n : Int) := by omega
       have hjN : j < n := by omega
       have hkJ : (j : Int) + 1 < (n : Int) := by omega
       have hkT : ((j : Int) + 1).toNat = j + 1 := by omega
       have hk0 : (0 : Int) ≤ (j : Int) + 1 := by omega
       go_wp2; refine wp_region_class (C := Over (wr)) (by kernel_rfl) (by kernel_rfl) (over_drew _) ?_
       repeat (first | go_big_quiet_skip | (go_big_quiet_want; go_big_quiet_op; go_big_quiet_on) | (go_big_quiet_want; go_big_quiet_op; apply Exists.intro; refine ⟨fun w' hC => ?_, ?_⟩; ((first | (go_at_call 173; refine (sent_t _ (rdI_over hp hC) (rdI_over hq hC) HP).mono ?_; rintro e w1 ⟨rfl, hb1⟩; exact ⟨rfl, over_step hC hb1⟩) | (go_at_call 174; refine (scmp6_t _ HR).mono ?_; rintro e w1 ⟨rfl, hb1⟩; exact ⟨rfl, over_step hC hb1⟩))); go_big_quiet_on) | (go_big_quiet_want; apply Exists.intro; refine ⟨fun w' hC => ?_, ?_⟩; (have k0 := over_cell hC bR.lt (bR.c 0 rfl); have k1 := over_cell hC (World.block_lt_of_cell? _ _ g0) g0; have k2 := over_cell hC (World.block_lt_of_cell? _ _ g1) g1; have k3 := over_cell hC (World.block_lt_of_cell? _ _ g2) g2; have k4 := over_cell hC (World.block_lt_of_cell? _ _ g3) g3; have k5 := over_cell hC (World.block_lt_of_cell? _ _ g4) g4; have k6 := over_cell hC (World.block_lt_of_cell? _ _ g5) g5; have k7 := over_cell hC (World.block_lt_of_cell? _ _ g6) g6; have k8 := over_cell hC (World.block_lt_of_cell? _ _ m0) m0; have k9 := over_cell hC (World.block_lt_of_cell? _ _ m1) m1; have k10 := over_cell hC (World.block_lt_of_cell? _ _ m2) m2; have k11 := over_cell hC (World.block_lt_of_cell? _ _ m3) m3; have k12 := over_cell hC (World.block_lt_of_cell? _ _ m4) m4; have k13 := over_cell hC (World.block_lt_of_cell? _ _ m5) m5; have k14 := over_cell hC (World.block_lt_of_cell? _ _ m6) m6; simp [Oper.quietAt, Oper.quietUpon, go_sem, k0, k1, k2, k3, k4, k5, k6, k7, k8, k9, k10, k11, k12, k13, k14, hltI, hlt, hwj, hjI, hjN, hkJ, hkT, hk0]; first | done | rfl); go_big_quiet_on; simp only [Act.put, setIfInBounds_toArray, set_cons_succ, set_cons_zero]))
       refine wpQuiet_nil ?_; intro ws hC; have k0 := over_cell hC bR.lt (bR.c 0 rfl); have k1 := over_cell hC (World.block_lt_of_cell? _ _ g0) g0; have k2 := over_cell hC (World.block_lt_of_cell? _ _ g1) g1; have k3 := over_cell hC (World.block_lt_of_cell? _ _ g2) g2; have k4 := over_cell hC (World.block_lt_of_cell? _ _ g3) g3; have k5 := over_cell hC (World.block_lt_of_cell? _ _ g4) g4; have k6 := over_cell hC (World.block_lt_of_cell? _ _ g5) g5; have k7 := over_cell hC (World.block_lt_of_cell? _ _ g6) g6; have k8 := over_cell hC (World.block_lt_of_cell? _ _ m0) m0; have k9 := over_cell hC (World.block_lt_of_cell? _ _ m1) m1; have k10 := over_cell hC (World.block_lt_of_cell? _ _ m2) m2; have k11 := over_cell hC (World.block_lt_of_cell? _ _ m3) m3; have k12 := over_cell hC (World.block_lt_of_cell? _ _ m4) m4; have k13 := over_cell hC (World.block_lt_of_cell? _ _ m5) m5; have k14 := over_cell hC (World.block_lt_of_cell? _ _ m6) m6; go_wp2
       go_roundw
       case rel => exact ⟨j + 1 + 1, by omega, by go_num, HOK.out, HUP.out, over_step hB hC⟩
       case measure => simp [intOf]; omega
      ·have HF := Lib.hid (tabB_up (by rw [← HN.out]; exact hlt) HS.out HX.out (by rw [HR.out]; exact hneg))
       have hwj : IntKind.i64.wrap (j : Int) = j := wrap64_in _ (by omega) (by omega); have hjI : (j : Int) < (n : Int) := by omega
       have hjN : j < n := by omega
       have hkJ : (j : Int) + 1 < (n : Int) := by omega
       have hkT : ((j : Int) + 1).toNat = j + 1 := by omega
       have hk0 : (0 : Int) ≤ (j : Int) + 1 := by omega
       go_wp2; refine wp_region_class (C := Over (wr)) (by kernel_rfl) (by kernel_rfl) (over_drew _) ?_
       repeat (first | go_big_quiet_skip | (go_big_quiet_want; go_big_quiet_op; go_big_quiet_on) | (go_big_quiet_want; go_big_quiet_op; apply Exists.intro; refine ⟨fun w' hC => ?_, ?_⟩; ((first | (go_at_call 173; refine (sent_t _ (rdI_over hp hC) (rdI_over hq hC) HP).mono ?_; rintro e w1 ⟨rfl, hb1⟩; exact ⟨rfl, over_step hC hb1⟩) | (go_at_call 174; refine (scmp6_t _ HR).mono ?_; rintro e w1 ⟨rfl, hb1⟩; exact ⟨rfl, over_step hC hb1⟩))); go_big_quiet_on) | (go_big_quiet_want; apply Exists.intro; refine ⟨fun w' hC => ?_, ?_⟩; (have k0 := over_cell hC bR.lt (bR.c 0 rfl); have k1 := over_cell hC (World.block_lt_of_cell? _ _ g0) g0; have k2 := over_cell hC (World.block_lt_of_cell? _ _ g1) g1; have k3 := over_cell hC (World.block_lt_of_cell? _ _ g2) g2; have k4 := over_cell hC (World.block_lt_of_cell? _ _ g3) g3; have k5 := over_cell hC (World.block_lt_of_cell? _ _ g4) g4; have k6 := over_cell hC (World.block_lt_of_cell? _ _ g5) g5; have k7 := over_cell hC (World.block_lt_of_cell? _ _ g6) g6; have k8 := over_cell hC (World.block_lt_of_cell? _ _ m0) m0; have k9 := over_cell hC (World.block_lt_of_cell? _ _ m1) m1; have k10 := over_cell hC (World.block_lt_of_cell? _ _ m2) m2; have k11 := over_cell hC (World.block_lt_of_cell? _ _ m3) m3; have k12 := over_cell hC (World.block_lt_of_cell? _ _ m4) m4; have k13 := over_cell hC (World.block_lt_of_cell? _ _ m5) m5; have k14 := over_cell hC (World.block_lt_of_cell? _ _ m6) m6; simp [Oper.quietAt, Oper.quietUpon, go_sem, k0, k1, k2, k3, k4, k5, k6, k7, k8, k9, k10, k11, k12, k13, k14, hltI, hlt, hwj, hjI, hjN, hkJ, hkT, hk0]; first | done | rfl); go_big_quiet_on; simp only [Act.put, setIfInBounds_toArray, set_cons_succ, set_cons_zero]))
       refine wpQuiet_nil ?_; intro ws hC; have k0 := over_cell hC bR.lt (bR.c 0 rfl); have k1 := over_cell hC (World.block_lt_of_cell? _ _ g0) g0; have k2 := over_cell hC (World.block_lt_of_cell? _ _ g1) g1; have k3 := over_cell hC (World.block_lt_of_cell? _ _ g2) g2; have k4 := over_cell hC (World.block_lt_of_cell? _ _ g3) g3; have k5 := over_cell hC (World.block_lt_of_cell? _ _ g4) g4; have k6 := over_cell hC (World.block_lt_of_cell? _ _ g5) g5; have k7 := over_cell hC (World.block_lt_of_cell? _ _ g6) g6; have k8 := over_cell hC (World.block_lt_of_cell? _ _ m0) m0; have k9 := over_cell hC (World.block_lt_of_cell? _ _ m1) m1; have k10 := over_cell hC (World.block_lt_of_cell? _ _ m2) m2; have k11 := over_cell hC (World.block_lt_of_cell? _ _ m3) m3; have k12 := over_cell hC (World.block_lt_of_cell? _ _ m4) m4; have k13 := over_cell hC (World.block_lt_of_cell? _ _ m5) m5; have k14 := over_cell hC (World.block_lt_of_cell? _ _ m6) m6; go_wp2
       go_ret
       exact ⟨ret_bool (by first | rw [HF.out, Bool.and_false] | rw [HF.out] | simp [HF.out]), below_step B0 (over_step hB hC)⟩
   ·have hkn : k = n := by omega
    subst hkn; have HF := Lib.hid (tabB_yes HN.out HO.out HU.out); clear hc; have r0 := bR.c 0 rfl; go_wp2
    go_ret
    exact ⟨ret_bool (by first | rw [HF.out, Bool.and_true] | rw [HF.out] | simp [HF.out]), below_step B0 hB⟩
 ·have e : (decide ((n : Int) ≤ 60) && tabB L) = false := by simp [hbig]
  have hbig2 : (60 : Int) < (n : Int) := by omega
  rw [e]; clear e
  go_enter Tryz.func123, Tryz.ntmps123
  go_wp2
  go_ret
  exact ⟨rfl, B0⟩
set_option maxHeartbeats 1000000 in
theorem irib_any (v : Value) (L : List Ent) (w : World) (h : RdE w v L) :
  Calls Tryz.prog 134 #[.agg #[v]] w fun e w' => e = .returned (.bool (ribB L)) ∧ Below w.heap.size w w' := by
 unfold ribB; have hm := h.1; obtain ⟨a, c, rfl, hc⟩ := h.el; obtain ⟨n, hn⟩ : ∃ n, n = L.length := ⟨_, rfl⟩; rw [← hn] at hc hm ⊢; have HN := Lib.hid hn; clear h hn; obtain ⟨bR, B0, z⟩ := one w [.slice a n c] 56; clear z
 by_cases hbig : (n : Int) ≤ 60
 ·rw [show decide ((n : Int) ≤ 60) = true by simp [hbig]]
  have hbig2 : ¬ (60 : Int) < (n : Int) := by omega
  obtain ⟨W1, hW⟩ : ∃ W1, W1 = w.alloc (.cells #[.slice a n c] 56) := ⟨_, rfl⟩; obtain ⟨R, hR⟩ : ∃ R, R = w.heap.size := ⟨_, rfl⟩; have hW2 := hW
  go_enter Tryz.func134, Tryz.ntmps134
  go_wp2; rw [← hW2]
  try simp only [← hR]
  rw [← hR] at bR; rw [← hW2] at bR B0; clear hW hW2 hR
  go_loopw [12] (fun q wr => ∃ k : Nat, k ≤ n ∧ q = .int .i64 k ∧ (∀ i, i < k → okE L i) ∧ (∀ i, i + 1 < k → upE L i) ∧ Over W1 wr) (fun q _ => n - (intOf q).toNat)
  case atStart => exact ⟨0, Nat.zero_le _, rfl, fun i hi => by omega, fun i hi => by omega, over_refl _⟩
  case round =>
   obtain ⟨k, hk, rfl, hok, hup, hB⟩ := hrel; have HO := Lib.hid hok; have HU := Lib.hid hup; clear hok hup; replace bR := bR.keep hB; have r0 := bR.c 0 rfl
   by_cases hlt : k < n
   ·have hltI : (k : Int) < (n : Int) := by omega
    obtain ⟨b, o, rfl, hE⟩ := hc k hlt; obtain ⟨E, hx⟩ : ∃ E, L.getD k e0 = E := ⟨_, rfl⟩; rw [hx] at hE; obtain ⟨pv, cv, hp, hq, g0, g1, g2, g3, g4, g5, g6⟩ := hE.keep (below_step B0 hB); have HX := Lib.hid hx; have HCC := Lib.hid hc; clear hx hc hE; obtain ⟨pa, px, rfl⟩ := hp.len; obtain ⟨qa, qx, rfl⟩ := hq.len; cases hpk : entB E.a E.n E.pe E.p E.pr E.c E.bw
    ·have HP := Lib.hid hpk
     have HF := Lib.hid (tabB_ok (by rw [← HN.out]; exact hlt) HX.out hpk); clear hpk; have bP := Bl.new wr [.int .i64 E.a, .int .i64 E.n, .int .i64 E.pe, .slice pa E.p.length px, .int .i64 E.pr, .slice qa E.c.length qx, .int .i64 E.bw] EI wr.heap.size rfl; have hB2 : Over W1 (wr.alloc (.cells #[.int .i64 E.a, .int .i64 E.n, .int .i64 E.pe, .slice pa E.p.length px, .int .i64 E.pr, .slice qa E.c.length qx, .int .i64 E.bw] EI)) := over_alloc hB _; replace bR := bR.alloc (.cells #[.int .i64 E.a, .int .i64 E.n, .int .i64 E.pe, .slice pa E.p.length px, .int .i64 E.pr, .slice qa E.c.length qx, .int .i64 E.bw] EI); replace hp := hp.alloc (.cells #[.int .i64 E.a, .int .i64 E.n, .int .i64 E.pe, .slice pa E.p.length px, .int .i64 E.pr, .slice qa E.c.length qx, .int .i64 E.bw] EI); replace hq := hq.alloc (.cells #[.int .i64 E.a, .int .i64 E.n, .int .i64 E.pe, .slice pa E.p.length px, .int .i64 E.pr, .slice qa E.c.length qx, .int .i64 E.bw] EI); go_wp2; refine wp_region_class (C := Over ((wr.alloc (.cells #[.int .i64 E.a, .int .i64 E.n, .int .i64 E.pe, .slice pa E.p.length px, .int .i64 E.pr, .slice qa E.c.length qx, .int .i64 E.bw] EI)))) (by kernel_rfl) (by kernel_rfl) (over_drew _) ?_
     repeat (first | go_big_quiet_skip | (go_big_quiet_want; go_big_quiet_op; go_big_quiet_on) | (go_big_quiet_want; go_big_quiet_op; apply Exists.intro; refine ⟨fun w' hC => ?_, ?_⟩; ((first | (go_at_call 180; refine (ient_t _ (rdI_over hp hC) (rdI_over hq hC) HP).mono ?_; rintro e w1 ⟨rfl, hb1⟩; exact ⟨rfl, over_step hC hb1⟩))); go_big_quiet_on) | (go_big_quiet_want; apply Exists.intro; refine ⟨fun w' hC => ?_, ?_⟩; (have k0 := over_cell hC bP.lt (bP.c 0 rfl); have k1 := over_cell hC bP.lt (bP.c 1 rfl); have k2 := over_cell hC bP.lt (bP.c 2 rfl); have k3 := over_cell hC bP.lt (bP.c 3 rfl); have k4 := over_cell hC bP.lt (bP.c 4 rfl); have k5 := over_cell hC bP.lt (bP.c 5 rfl); have k6 := over_cell hC bP.lt (bP.c 6 rfl); have k7 := over_cell hC bR.lt (bR.c 0 rfl); simp [Oper.quietAt, Oper.quietUpon, go_sem, k0, k1, k2, k3, k4, k5, k6, k7]; first | done | rfl); go_big_quiet_on; simp only [Act.put, setIfInBounds_toArray, set_cons_succ, set_cons_zero]))
     refine wpQuiet_nil ?_; intro ws hC; have k0 := over_cell hC bP.lt (bP.c 0 rfl); have k1 := over_cell hC bP.lt (bP.c 1 rfl); have k2 := over_cell hC bP.lt (bP.c 2 rfl); have k3 := over_cell hC bP.lt (bP.c 3 rfl); have k4 := over_cell hC bP.lt (bP.c 4 rfl); have k5 := over_cell hC bP.lt (bP.c 5 rfl); have k6 := over_cell hC bP.lt (bP.c 6 rfl); have k7 := over_cell hC bR.lt (bR.c 0 rfl); go_wp2
     go_ret
     exact ⟨ret_bool (by first | rw [HF.out, Bool.and_false] | rw [HF.out] | simp [HF.out]), below_step B0 (over_step hB2 hC)⟩
    ·have HP := Lib.hid hpk
     have HOK : Hid (∀ i, i < k + 1 → okE L i) := Lib.hid fun i hi => by
      by_cases e : i = k
      ·unfold okE; rw [e, HX.out]; exact hpk
      ·exact HO.out i (by omega)
     clear hpk
     rcases Nat.eq_zero_or_pos k with rfl | hpos
     ·simp only [Nat.zero_mul, Nat.add_zero] at g0 g1 g2 g3 g4 g5 g6
      have bP := Bl.new wr [.int .i64 E.a, .int .i64 E.n, .int .i64 E.pe, .slice pa E.p.length px, .int .i64 E.pr, .slice qa E.c.length qx, .int .i64 E.bw] EI wr.heap.size rfl; have hB2 : Over W1 (wr.alloc (.cells #[.int .i64 E.a, .int .i64 E.n, .int .i64 E.pe, .slice pa E.p.length px, .int .i64 E.pr, .slice qa E.c.length qx, .int .i64 E.bw] EI)) := over_alloc hB _; replace bR := bR.alloc (.cells #[.int .i64 E.a, .int .i64 E.n, .int .i64 E.pe, .slice pa E.p.length px, .int .i64 E.pr, .slice qa E.c.length qx, .int .i64 E.bw] EI); replace hp := hp.alloc (.cells #[.int .i64 E.a, .int .i64 E.n, .int .i64 E.pe, .slice pa E.p.length px, .int .i64 E.pr, .slice qa E.c.length qx, .int .i64 E.bw] EI); replace hq := hq.alloc (.cells #[.int .i64 E.a, .int .i64 E.n, .int .i64 E.pe, .slice pa E.p.length px, .int .i64 E.pr, .slice qa E.c.length qx, .int .i64 E.bw] EI); go_wp2; refine wp_region_class (C := Over ((wr.alloc (.cells #[.int .i64 E.a, .int .i64 E.n, .int .i64 E.pe, .slice pa E.p.length px, .int .i64 E.pr, .slice qa E.c.length qx, .int .i64 E.bw] EI)))) (by kernel_rfl) (by kernel_rfl) (over_drew _) ?_
      repeat (first | go_big_quiet_skip | (go_big_quiet_want; go_big_quiet_op; go_big_quiet_on) | (go_big_quiet_want; go_big_quiet_op; apply Exists.intro; refine ⟨fun w' hC => ?_, ?_⟩; ((first | (go_at_call 180; refine (ient_t _ (rdI_over hp hC) (rdI_over hq hC) HP).mono ?_; rintro e w1 ⟨rfl, hb1⟩; exact ⟨rfl, over_step hC hb1⟩))); go_big_quiet_on) | (go_big_quiet_want; apply Exists.intro; refine ⟨fun w' hC => ?_, ?_⟩; (have k0 := over_cell hC bP.lt (bP.c 0 rfl); have k1 := over_cell hC bP.lt (bP.c 1 rfl); have k2 := over_cell hC bP.lt (bP.c 2 rfl); have k3 := over_cell hC bP.lt (bP.c 3 rfl); have k4 := over_cell hC bP.lt (bP.c 4 rfl); have k5 := over_cell hC bP.lt (bP.c 5 rfl); have k6 := over_cell hC bP.lt (bP.c 6 rfl); have k7 := over_cell hC bR.lt (bR.c 0 rfl); simp [Oper.quietAt, Oper.quietUpon, go_sem, k0, k1, k2, k3, k4, k5, k6, k7]; first | done | rfl); go_big_quiet_on; simp only [Act.put, setIfInBounds_toArray, set_cons_succ, set_cons_zero]))
      refine wpQuiet_nil ?_; intro ws hC; have k0 := over_cell hC bP.lt (bP.c 0 rfl); have k1 := over_cell hC bP.lt (bP.c 1 rfl); have k2 := over_cell hC bP.lt (bP.c 2 rfl); have k3 := over_cell hC bP.lt (bP.c 3 rfl); have k4 := over_cell hC bP.lt (bP.c 4 rfl); have k5 := over_cell hC bP.lt (bP.c 5 rfl); have k6 := over_cell hC bP.lt (bP.c 6 rfl); have k7 := over_cell hC bR.lt (bR.c 0 rfl); go_wp2
      go_roundw
      case rel => exact ⟨0 + 1, by omega, by go_num, HOK.out, fun i hi => by omega, over_step hB2 hC⟩
      case measure => simp [intOf]; omega
     ·obtain ⟨j, rfl⟩ : ∃ j, k = j + 1 := ⟨k - 1, by omega⟩
      obtain ⟨b', o', hbo, hE'⟩ := HCC.out j (by omega); obtain ⟨rfl, rfl⟩ : b = b' ∧ o = o' := by simpa using hbo
      clear hbo; obtain ⟨F, hs⟩ : ∃ F, L.getD j e0 = F := ⟨_, rfl⟩; rw [hs] at hE'; obtain ⟨pu, cu, -, -, m0, m1, m2, m3, m4, m5, m6⟩ := hE'.keep (below_step B0 hB); have HS := Lib.hid hs; clear hE' hs; have h1 := HO.out j (by omega); unfold okE at h1; rw [HS.out] at h1; have h2 := HP.out
      have hr0 : pcmp F.a F.n E.a E.n = cmp2 F.a F.n E.a E.n := by
       unfold pcmp; rw [entB_p h1, entB_p h2]
       rfl
      obtain ⟨r, hr⟩ : ∃ r, ecmp F.a F.n F.pe E.a E.n E.pe = r := ⟨_, rfl⟩; have HR := Lib.hid (And.intro hr0 hr); clear hr hr0 h1 h2
      by_cases hneg : r < 0
      ·have HUP : Hid (∀ i, i + 1 < j + 1 + 1 → upE L i) := Lib.hid fun i hi => by
        by_cases e : i = j
        ·unfold upE; rw [e, HS.out, HX.out, HR.out.2]; exact hneg
        ·exact HU.out i (by omega)
       have bP := Bl.new wr [.int .i64 E.a, .int .i64 E.n, .int .i64 E.pe, .slice pa E.p.length px, .int .i64 E.pr, .slice qa E.c.length qx, .int .i64 E.bw] EI wr.heap.size rfl; have hB2 : Over W1 (wr.alloc (.cells #[.int .i64 E.a, .int .i64 E.n, .int .i64 E.pe, .slice pa E.p.length px, .int .i64 E.pr, .slice qa E.c.length qx, .int .i64 E.bw] EI)) := over_alloc hB _; replace bR := bR.alloc (.cells #[.int .i64 E.a, .int .i64 E.n, .int .i64 E.pe, .slice pa E.p.length px, .int .i64 E.pr, .slice qa E.c.length qx, .int .i64 E.bw] EI); replace hp := hp.alloc (.cells #[.int .i64 E.a, .int .i64 E.n, .int .i64 E.pe, .slice pa E.p.length px, .int .i64 E.pr, .slice qa E.c.length qx, .int .i64 E.bw] EI); replace hq := hq.alloc (.cells #[.int .i64 E.a, .int .i64 E.n, .int .i64 E.pe, .slice pa E.p.length px, .int .i64 E.pr, .slice qa E.c.length qx, .int .i64 E.bw] EI); replace m0 := cell_keep ((Below.refl _ _).alloc (Nat.le_refl _) (.cells #[.int .i64 E.a, .int .i64 E.n, .int .i64 E.pe, .slice pa E.p.length px, .int .i64 E.pr, .slice qa E.c.length qx, .int .i64 E.bw] EI)) (World.block_lt_of_cell? wr _ m0) m0; replace m1 := cell_keep ((Below.refl _ _).alloc (Nat.le_refl _) (.cells #[.int .i64 E.a, .int .i64 E.n, .int .i64 E.pe, .slice pa E.p.length px, .int .i64 E.pr, .slice qa E.c.length qx, .int .i64 E.bw] EI)) (World.block_lt_of_cell? wr _ m1) m1; replace m2 := cell_keep ((Below.refl _ _).alloc (Nat.le_refl _) (.cells #[.int .i64 E.a, .int .i64 E.n, .int .i64 E.pe, .slice pa E.p.length px, .int .i64 E.pr, .slice qa E.c.length qx, .int .i64 E.bw] EI)) (World.block_lt_of_cell? wr _ m2) m2; replace m3 := cell_keep ((Below.refl _ _).alloc (Nat.le_refl _) (.cells #[.int .i64 E.a, .int .i64 E.n, .int .i64 E.pe, .slice pa E.p.length px, .int .i64 E.pr, .slice qa E.c.length qx, .int .i64 E.bw] EI)) (World.block_lt_of_cell? wr _ m3) m3; replace m4 := cell_keep ((Below.refl _ _).alloc (Nat.le_refl _) (.cells #[.int .i64 E.a, .int .i64 E.n, .int .i64 E.pe, .slice pa E.p.length px, .int .i64 E.pr, .slice qa E.c.length qx, .int .i64 E.bw] EI)) (World.block_lt_of_cell? wr _ m4) m4; replace m5 := cell_keep ((Below.refl _ _).alloc (Nat.le_refl _) (.cells #[.int .i64 E.a, .int .i64 E.n, .int .i64 E.pe, .slice pa E.p.length px, .int .i64 E.pr, .slice qa E.c.length qx, .int .i64 E.bw] EI)) (World.block_lt_of_cell? wr _ m5) m5; replace m6 := cell_keep ((Below.refl _ _).alloc (Nat.le_refl _) (.cells #[.int .i64 E.a, .int .i64 E.n, .int .i64 E.pe, .slice pa E.p.length px, .int .i64 E.pr, .slice qa E.c.length qx, .int .i64 E.bw] EI)) (World.block_lt_of_cell? wr _ m6) m6; have hwj : IntKind.i64.wrap (j : Int) = j := wrap64_in _ (by omega) (by omega); have hjI : (j : Int) < (n : Int) := by omega
       have hjN : j < n := by omega
       go_wp2; refine wp_region_class (C := Over ((wr.alloc (.cells #[.int .i64 E.a, .int .i64 E.n, .int .i64 E.pe, .slice pa E.p.length px, .int .i64 E.pr, .slice qa E.c.length qx, .int .i64 E.bw] EI)))) (by kernel_rfl) (by kernel_rfl) (over_drew _) ?_
       repeat (first | go_big_quiet_skip | (go_big_quiet_want; go_big_quiet_op; go_big_quiet_on) | (go_big_quiet_want; go_big_quiet_op; apply Exists.intro; refine ⟨fun w' hC => ?_, ?_⟩; ((first | (go_at_call 180; refine (ient_t _ (rdI_over hp hC) (rdI_over hq hC) HP).mono ?_; rintro e w1 ⟨rfl, hb1⟩; exact ⟨rfl, over_step hC hb1⟩) | (go_at_call 181; refine (icmp6_t _ HR).mono ?_; rintro e w1 ⟨rfl, hb1⟩; exact ⟨rfl, over_step hC hb1⟩))); go_big_quiet_on) | (go_big_quiet_want; apply Exists.intro; refine ⟨fun w' hC => ?_, ?_⟩; (have k0 := over_cell hC bP.lt (bP.c 0 rfl); have k1 := over_cell hC bP.lt (bP.c 1 rfl); have k2 := over_cell hC bP.lt (bP.c 2 rfl); have k3 := over_cell hC bP.lt (bP.c 3 rfl); have k4 := over_cell hC bP.lt (bP.c 4 rfl); have k5 := over_cell hC bP.lt (bP.c 5 rfl); have k6 := over_cell hC bP.lt (bP.c 6 rfl); have k7 := over_cell hC bR.lt (bR.c 0 rfl); have k8 := over_cell hC (World.block_lt_of_cell? _ _ m0) m0; have k9 := over_cell hC (World.block_lt_of_cell? _ _ m1) m1; have k10 := over_cell hC (World.block_lt_of_cell? _ _ m2) m2; have k11 := over_cell hC (World.block_lt_of_cell? _ _ m3) m3; have k12 := over_cell hC (World.block_lt_of_cell? _ _ m4) m4; have k13 := over_cell hC (World.block_lt_of_cell? _ _ m5) m5; have k14 := over_cell hC (World.block_lt_of_cell? _ _ m6) m6; simp [Oper.quietAt, Oper.quietUpon, go_sem, k0, k1, k2, k3, k4, k5, k6, k7, k8, k9, k10, k11, k12, k13, k14, hwj, hjI, hjN]; first | done | rfl); go_big_quiet_on; simp only [Act.put, setIfInBounds_toArray, set_cons_succ, set_cons_zero]))
       refine wpQuiet_nil ?_; intro ws hC; have k0 := over_cell hC bP.lt (bP.c 0 rfl); have k1 := over_cell hC bP.lt (bP.c 1 rfl); have k2 := over_cell hC bP.lt (bP.c 2 rfl); have k3 := over_cell hC bP.lt (bP.c 3 rfl); have k4 := over_cell hC bP.lt (bP.c 4 rfl); have k5 := over_cell hC bP.lt (bP.c 5 rfl); have k6 := over_cell hC bP.lt (bP.c 6 rfl); have k7 := over_cell hC bR.lt (bR.c 0 rfl); have k8 := over_cell hC (World.block_lt_of_cell? _ _ m0) m0; have k9 := over_cell hC (World.block_lt_of_cell? _ _ m1) m1; have k10 := over_cell hC (World.block_lt_of_cell? _ _ m2) m2; have k11 := over_cell hC (World.block_lt_of_cell? _ _ m3) m3; have k12 := over_cell hC (World.block_lt_of_cell? _ _ m4) m4; have k13 := over_cell hC (World.block_lt_of_cell? _ _ m5) m5; have k14 := over_cell hC (World.block_lt_of_cell? _ _ m6) m6; go_wp2
       go_roundw
       case rel => exact ⟨j + 1 + 1, by omega, by go_num, HOK.out, HUP.out, over_step hB2 hC⟩
       case measure => simp [intOf]; omega
      ·have HF := Lib.hid (tabB_up (by rw [← HN.out]; exact hlt) HS.out HX.out (by rw [HR.out.2]; exact hneg))
       have bP := Bl.new wr [.int .i64 E.a, .int .i64 E.n, .int .i64 E.pe, .slice pa E.p.length px, .int .i64 E.pr, .slice qa E.c.length qx, .int .i64 E.bw] EI wr.heap.size rfl; have hB2 : Over W1 (wr.alloc (.cells #[.int .i64 E.a, .int .i64 E.n, .int .i64 E.pe, .slice pa E.p.length px, .int .i64 E.pr, .slice qa E.c.length qx, .int .i64 E.bw] EI)) := over_alloc hB _; replace bR := bR.alloc (.cells #[.int .i64 E.a, .int .i64 E.n, .int .i64 E.pe, .slice pa E.p.length px, .int .i64 E.pr, .slice qa E.c.length qx, .int .i64 E.bw] EI); replace hp := hp.alloc (.cells #[.int .i64 E.a, .int .i64 E.n, .int .i64 E.pe, .slice pa E.p.length px, .int .i64 E.pr, .slice qa E.c.length qx, .int .i64 E.bw] EI); replace hq := hq.alloc (.cells #[.int .i64 E.a, .int .i64 E.n, .int .i64 E.pe, .slice pa E.p.length px, .int .i64 E.pr, .slice qa E.c.length qx, .int .i64 E.bw] EI); replace m0 := cell_keep ((Below.refl _ _).alloc (Nat.le_refl _) (.cells #[.int .i64 E.a, .int .i64 E.n, .int .i64 E.pe, .slice pa E.p.length px, .int .i64 E.pr, .slice qa E.c.length qx, .int .i64 E.bw] EI)) (World.block_lt_of_cell? wr _ m0) m0; replace m1 := cell_keep ((Below.refl _ _).alloc (Nat.le_refl _) (.cells #[.int .i64 E.a, .int .i64 E.n, .int .i64 E.pe, .slice pa E.p.length px, .int .i64 E.pr, .slice qa E.c.length qx, .int .i64 E.bw] EI)) (World.block_lt_of_cell? wr _ m1) m1; replace m2 := cell_keep ((Below.refl _ _).alloc (Nat.le_refl _) (.cells #[.int .i64 E.a, .int .i64 E.n, .int .i64 E.pe, .slice pa E.p.length px, .int .i64 E.pr, .slice qa E.c.length qx, .int .i64 E.bw] EI)) (World.block_lt_of_cell? wr _ m2) m2; replace m3 := cell_keep ((Below.refl _ _).alloc (Nat.le_refl _) (.cells #[.int .i64 E.a, .int .i64 E.n, .int .i64 E.pe, .slice pa E.p.length px, .int .i64 E.pr, .slice qa E.c.length qx, .int .i64 E.bw] EI)) (World.block_lt_of_cell? wr _ m3) m3; replace m4 := cell_keep ((Below.refl _ _).alloc (Nat.le_refl _) (.cells #[.int .i64 E.a, .int .i64 E.n, .int .i64 E.pe, .slice pa E.p.length px, .int .i64 E.pr, .slice qa E.c.length qx, .int .i64 E.bw] EI)) (World.block_lt_of_cell? wr _ m4) m4; replace m5 := cell_keep ((Below.refl _ _).alloc (Nat.le_refl _) (.cells #[.int .i64 E.a, .int .i64 E.n, .int .i64 E.pe, .slice pa E.p.length px, .int .i64 E.pr, .slice qa E.c.length qx, .int .i64 E.bw] EI)) (World.block_lt_of_cell? wr _ m5) m5; replace m6 := cell_keep ((Below.refl _ _).alloc (Nat.le_refl _) (.cells #[.int .i64 E.a, .int .i64 E.n, .int .i64 E.pe, .slice pa E.p.length px, .int .i64 E.pr, .slice qa E.c.length qx, .int .i64 E.bw] EI)) (World.block_lt_of_cell? wr _ m6) m6; have hwj : IntKind.i64.wrap (j : Int) = j := wrap64_in _ (by omega) (by omega); have hjI : (j : Int) < (n : Int) := by omega
       have hjN : j < n := by omega
       go_wp2; refine wp_region_class (C := Over ((wr.alloc (.cells #[.int .i64 E.a, .int .i64 E.n, .int .i64 E.pe, .slice pa E.p.length px, .int .i64 E.pr, .slice qa E.c.length qx, .int .i64 E.bw] EI)))) (by kernel_rfl) (by kernel_rfl) (over_drew _) ?_
       repeat (first | go_big_quiet_skip | (go_big_quiet_want; go_big_quiet_op; go_big_quiet_on) | (go_big_quiet_want; go_big_quiet_op; apply Exists.intro; refine ⟨fun w' hC => ?_, ?_⟩; ((first | (go_at_call 180; refine (ient_t _ (rdI_over hp hC) (rdI_over hq hC) HP).mono ?_; rintro e w1 ⟨rfl, hb1⟩; exact ⟨rfl, over_step hC hb1⟩) | (go_at_call 181; refine (icmp6_t _ HR).mono ?_; rintro e w1 ⟨rfl, hb1⟩; exact ⟨rfl, over_step hC hb1⟩))); go_big_quiet_on) | (go_big_quiet_want; apply Exists.intro; refine ⟨fun w' hC => ?_, ?_⟩; (have k0 := over_cell hC bP.lt (bP.c 0 rfl); have k1 := over_cell hC bP.lt (bP.c 1 rfl); have k2 := over_cell hC bP.lt (bP.c 2 rfl); have k3 := over_cell hC bP.lt (bP.c 3 rfl); have k4 := over_cell hC bP.lt (bP.c 4 rfl); have k5 := over_cell hC bP.lt (bP.c 5 rfl); have k6 := over_cell hC bP.lt (bP.c 6 rfl); have k7 := over_cell hC bR.lt (bR.c 0 rfl); have k8 := over_cell hC (World.block_lt_of_cell? _ _ m0) m0; have k9 := over_cell hC (World.block_lt_of_cell? _ _ m1) m1; have k10 := over_cell hC (World.block_lt_of_cell? _ _ m2) m2; have k11 := over_cell hC (World.block_lt_of_cell? _ _ m3) m3; have k12 := over_cell hC (World.block_lt_of_cell? _ _ m4) m4; have k13 := over_cell hC (World.block_lt_of_cell? _ _ m5) m5; have k14 := over_cell hC (World.block_lt_of_cell? _ _ m6) m6; simp [Oper.quietAt, Oper.quietUpon, go_sem, k0, k1, k2, k3, k4, k5, k6, k7, k8, k9, k10, k11, k12, k13, k14, hwj, hjI, hjN]; first | done | rfl); go_big_quiet_on; simp only [Act.put, setIfInBounds_toArray, set_cons_succ, set_cons_zero]))
       refine wpQuiet_nil ?_; intro ws hC; have k0 := over_cell hC bP.lt (bP.c 0 rfl); have k1 := over_cell hC bP.lt (bP.c 1 rfl); have k2 := over_cell hC bP.lt (bP.c 2 rfl); have k3 := over_cell hC bP.lt (bP.c 3 rfl); have k4 := over_cell hC bP.lt (bP.c 4 rfl); have k5 := over_cell hC bP.lt (bP.c 5 rfl); have k6 := over_cell hC bP.lt (bP.c 6 rfl); have k7 := over_cell hC bR.lt (bR.c 0 rfl); have k8 := over_cell hC (World.block_lt_of_cell? _ _ m0) m0; have k9 := over_cell hC (World.block_lt_of_cell? _ _ m1) m1; have k10 := over_cell hC (World.block_lt_of_cell? _ _ m2) m2; have k11 := over_cell hC (World.block_lt_of_cell? _ _ m3) m3; have k12 := over_cell hC (World.block_lt_of_cell? _ _ m4) m4; have k13 := over_cell hC (World.block_lt_of_cell? _ _ m5) m5; have k14 := over_cell hC (World.block_lt_of_cell? _ _ m6) m6; go_wp2
       go_ret
       exact ⟨ret_bool (by first | rw [HF.out, Bool.and_false] | rw [HF.out] | simp [HF.out]), below_step B0 (over_step hB2 hC)⟩
   ·have hkn : k = n := by omega
    subst hkn; have HF := Lib.hid (tabB_yes HN.out HO.out HU.out); clear hc; have r0 := bR.c 0 rfl; go_wp2
    go_ret
    exact ⟨ret_bool (by first | rw [HF.out, Bool.and_true] | rw [HF.out] | simp [HF.out]), below_step B0 hB⟩
 ·have e : (decide ((n : Int) ≤ 60) && tabB L) = false := by simp [hbig]
  have hbig2 : (60 : Int) < (n : Int) := by omega
  rw [e]; clear e
  go_enter Tryz.func134, Tryz.ntmps134
  go_wp2
  go_ret
  exact ⟨rfl, B0⟩
theorem srib_t {v : Value} {L : List Ent} {b : Bool} (w : World) (h : RdE w v L) (H : Hid (ribB L = b)) :
  Calls Tryz.prog 123 #[.agg #[v]] w fun e w' => e = .returned (.bool b) ∧ Below w.heap.size w w' := H.out ▸ srib_any v L w h
theorem irib_t {v : Value} {L : List Ent} {b : Bool} (w : World) (h : RdE w v L) (H : Hid (ribB L = b)) :
  Calls Tryz.prog 134 #[.agg #[v]] w fun e w' => e = .returned (.bool b) ∧ Below w.heap.size w w' := H.out ▸ irib_any v L w h
end Go.Proofs.YtkodnipmogdgkaaGreat
namespace Go.Proofs.YtkodnipmogdgkaaGreat
open Go.ChangeShapes Go.WideShapes Go.ChangeAt Go.RowKit Go.BigFrame Go.Joins
set_option linter.unusedVariables false
set_option maxRecDepth 100000
set_option linter.unusedSimpArgs false
set_option maxRecDepth 100000

end Go.Proofs.YtkodnipmogdgkaaGreat
namespace Go.Proofs.YtkodnipmogdgkaaGreat
open Go.ChangeShapes Go.WideShapes Go.ChangeAt Go.RowKit Go.BigFrame Go.Joins
set_option linter.unusedVariables false
set_option maxRecDepth 100000
set_option linter.unusedSimpArgs false
set_option maxRecDepth 100000

/-- an entry as marks from k on leave it -/
def markE (k : Int) (p c : Nat) : Ent := ⟨k, k + 1, k + 2, imarks (k + 3) p, k + 3 + p, imarks (k + 3 + p + 1) c, k + 3 + p + 1 + c⟩
def wE (E : Ent) : Nat := 5 + E.p.length + E.c.length
/-- a table's entries bear the marks from k on; W: how many each bears -/
def MarkedW (k : Int) (W : List Nat) (L : List Ent) (j : Nat) : Prop := L.map wE = W ∧ ∀ i, i < j → i < L.length → L.getD i e0 = markE (k + (W.take i).sum) (L.getD i e0).p.length (L.getD i e0).c.length
end Go.Proofs.YtkodnipmogdgkaaGreat
namespace Go.Proofs.YtkodnipmogdgkaaGreat
open Go.ChangeShapes Go.WideShapes Go.ChangeAt Go.RowKit Go.BigFrame Go.Joins
set_option linter.unusedVariables false
set_option maxRecDepth 100000
set_option linter.unusedSimpArgs false
set_option maxRecDepth 100000

/-- no block but those from base to hi has turned -/
structure MidB (base hi : Nat) (w w' : World) : Prop where
 os : w'.os = w.os
 tape : w'.tape = w.tape
 output : w'.output = w.output
 size : w.heap.size ≤ w'.heap.size
 block : ∀ i, i < w.heap.size → (i < base ∨ hi ≤ i) → w'.heap[i]? = w.heap[i]?
theorem MidB.refl (base hi : Nat) (w : World) : MidB base hi w w := ⟨rfl, rfl, rfl, Nat.le_refl _, fun _ _ _ => rfl⟩
theorem MidB.grown {base hi : Nat} {w w' w2 : World} {row : Option Nat} (h : MidB base hi w w') (hg : w'.grownBy w2 row) (hr : ∀ k, row = some k → base ≤ k ∧ k < hi) : MidB base hi w w2 :=
 ⟨hg.os.trans h.os, hg.tape.trans h.tape, hg.output.trans h.output, Nat.le_trans h.size hg.size, fun i hi' hc => (hg.block i (Nat.lt_of_lt_of_le hi' h.size) (fun e => by have := hr i e.symm; omega)).trans (h.block i hi' hc)⟩
theorem MidB.trans {base hi : Nat} {a b c : World} (h : MidB base hi a b) (k : MidB base hi b c) : MidB base hi a c :=
 ⟨k.os.trans h.os, k.tape.trans h.tape, k.output.trans h.output, Nat.le_trans h.size k.size, fun i hi' hc => (k.block i (Nat.lt_of_lt_of_le hi' h.size) hc).trans (h.block i hi' hc)⟩
theorem MidB.below {base hi B : Nat} {w w' : World} (h : MidB base hi w w') (h1 : B ≤ base) (h2 : B ≤ w.heap.size) : Below B w w' :=
 ⟨h.os, h.tape, h.output, h.size, fun i hi' => h.block i (by omega) (.inl (by omega))⟩
theorem MidB.bl {base hi B : Nat} {w w' : World} {xs : List Value} (h : MidB base hi w w') (b : Bl w B xs) (hB : B < base ∨ hi ≤ B) : Bl w' B xs := by
 have e := h.block B b.lt hB
 exact ⟨Nat.lt_of_lt_of_le b.lt h.size, fun i x q => (World.cell?_of_block (w := w) (a := ⟨B, i, none⟩) e).trans (b.cs i x q), fun i q => (World.frozen?_of_block (w := w) e).trans (b.fz i q)⟩
/-- all blocks of a table lie below hi -/
def InH (hi : Nat) (v : Value) (T : List ET) : Prop := (∀ k, v.ownBlock = some k → k < hi) ∧ ∀ t ∈ T, (∀ k, t.u.ownBlock = some k → k < hi) ∧ ∀ k, t.v.ownBlock = some k → k < hi
theorem OwnT.inH {w : World} {base : Nat} {v : Value} {T : List ET} (h : OwnT w base v T) : InH w.heap.size v T :=
 ⟨fun k hk => (World.ownsRow.lt h.row k hk).2, fun t ht => ⟨fun k hk => ((h.lt t ht).1 k hk).2, fun k hk => ((h.lt t ht).2 k hk).2⟩⟩
end Go.Proofs.YtkodnipmogdgkaaGreat
namespace Go.Proofs.YtkodnipmogdgkaaGreat
open Go.ChangeShapes Go.WideShapes Go.ChangeAt Go.RowKit Go.BigFrame Go.Joins
set_option linter.unusedVariables false
set_option maxRecDepth 100000
set_option linter.unusedSimpArgs false
set_option maxRecDepth 100000

theorem OwnI.softT {base hi b : Nat} {w w' : World} {v : Value} {l : List Int} (h : OwnI w b v l) (s : Soft base hi w w') (hv : hi ≤ b) : OwnI w' b v l := by
 unfold OwnI at h ⊢; refine ⟨h.1, ?_⟩
 rcases h.2 with hn | ⟨g, cap, cur, e, hb, hg, rest⟩
 ·exact .inl hn
 ·have hlt : g < w.heap.size := (World.ownsRow.lt h g (by rw [e]; rfl)).2
  exact .inr ⟨g, cap, cur, e, hb, (s.block g hlt (.inr (by omega))).trans hg, rest⟩
theorem OwnT.soft {base hi b : Nat} {w w' : World} {v : Value} {T : List ET} (h : OwnT w b v T) (s : Soft base hi w w') (hv : hi ≤ b) : OwnT w' b v T := by
 refine ⟨⟨h.row.1, ?_⟩, fun t ht => ⟨(h.own t ht).1.softT s hv, (h.own t ht).2.softT s hv⟩, h.len, h.sep, h.apart⟩
 rcases h.row.2 with hn | ⟨g, cap, cur, e, hb, hg, rest⟩
 ·exact .inl hn
 ·have hlt : g < w.heap.size := (World.ownsRow.lt h.row g (by rw [e]; rfl)).2
  exact .inr ⟨g, cap, cur, e, hb, (s.block g hlt (.inr (by omega))).trans hg, rest⟩
theorem bd_mem {L : List Ent} (h : ∀ i, i < L.length → BdE (L.getD i e0)) {E : Ent} (hE : E ∈ L) : BdE E := by
 obtain ⟨i, hi, e⟩ := List.mem_iff_getElem.1 hE; have := h i hi; rw [List.getD_eq_getElem?_getD, List.getElem?_eq_getElem hi] at this; rw [← e]
 exact this
theorem entT_mem {T : List ET} {t : ET} (h : t ∈ T) : t.E ∈ entT T := List.mem_map.2 ⟨t, h, rfl⟩
theorem lens_of {L : List Ent} (h : L.length + wtE L ≤ 1048576) : ∀ j, j < L.length → (L.getD j e0).p.length ≤ 1048576 ∧ (L.getD j e0).c.length ≤ 1048576 := fun j hj => by
 have := wt_at hj
 omega
end Go.Proofs.YtkodnipmogdgkaaGreat
namespace Go.Proofs.YtkodnipmogdgkaaGreat
open Go.ChangeShapes Go.WideShapes Go.ChangeAt Go.RowKit Go.BigFrame Go.Joins
set_option linter.unusedVariables false
set_option maxRecDepth 100000
set_option linter.unusedSimpArgs false
set_option maxRecDepth 100000

theorem over_grownP {V w w' : World} {v : Value} {l : List (Int × Int)} {base : Nat} (h : Over V w) (ho : OwnP w base v l) (hb : V.heap.size ≤ base) (hg : w.grownBy w' v.ownBlock) : Over V w' :=
 Below.grown h hg h.size (fun k hk => Nat.le_trans hb (World.ownsRow.lt ho k hk).1)
/-- the prefixes of a table, one for each entry -/
def pfx (L : List Ent) : List (Int × Int) := L.map fun E => (E.a, E.n)
theorem pfx_len (L : List Ent) : (pfx L).length = L.length := by simp [pfx]
end Go.Proofs.YtkodnipmogdgkaaGreat
namespace Go.Proofs.YtkodnipmogdgkaaGreat
open Go.ChangeShapes Go.WideShapes Go.ChangeAt Go.RowKit Go.BigFrame Go.Joins
set_option linter.unusedVariables false
set_option maxRecDepth 100000
set_option linter.unusedSimpArgs false
set_option maxRecDepth 100000

end Go.Proofs.YtkodnipmogdgkaaGreat
namespace Go.Proofs.YtkodnipmogdgkaaGreat
open Go.ChangeShapes Go.WideShapes Go.ChangeAt Go.RowKit Go.BigFrame Go.Joins
set_option linter.unusedVariables false
set_option maxRecDepth 100000
set_option linter.unusedSimpArgs false
set_option maxRecDepth 100000

end Go.Proofs.YtkodnipmogdgkaaGreat
namespace Go.Proofs.YtkodnipmogdgkaaGreat
open Go.ChangeShapes Go.WideShapes Go.ChangeAt Go.RowKit Go.BigFrame Go.Joins
set_option linter.unusedVariables false
set_option maxRecDepth 100000
set_option linter.unusedSimpArgs false
set_option maxRecDepth 100000

/-- the first n hold the marks from k on -/
def MarkP (k : Int) (n : Nat) (l : List (Int × Int)) : Prop := ∀ i : Nat, i < n → l.getD i (0, 0) = (k + (i : Int) * 2, k + (i : Int) * 2 + 1)
theorem MarkP.next {k : Int} {n : Nat} {l : List (Int × Int)} (h : MarkP k n l) (hn : n < l.length) : MarkP k (n + 1) (l.set n (k + (n : Int) * 2, k + (n : Int) * 2 + 1)) := by
 intro i hi
 by_cases e : i = n
 ·subst e
  simp [List.getD_eq_getElem?_getD, hn]
 ·rw [← h i (by omega)]
  simp only [List.getD_eq_getElem?_getD, List.getElem?_set]; rw [if_neg (by omega)]
theorem OwnP.soft {base hi b : Nat} {w w' : World} {v : Value} {l : List (Int × Int)} (h : OwnP w b v l) (s : Soft base hi w w') (hv : hi ≤ b) : OwnP w' b v l := by
 unfold OwnP at h ⊢; refine ⟨h.1, ?_⟩
 rcases h.2 with hn | ⟨g, cap, cur, e, hb, hg, rest⟩
 ·exact .inl hn
 ·have hlt : g < w.heap.size := (World.ownsRow.lt h g (by rw [e]; rfl)).2
  exact .inr ⟨g, cap, cur, e, hb, (s.block g hlt (.inr (by omega))).trans hg, rest⟩
theorem markP_is (v : Value) (l : List (Int × Int)) (base : Nat) (k : Int) (w : World) (h : OwnP w base v l) (hk0 : 0 ≤ k) (hk : k + l.length * 2 ≤ 4294967296) :
  Calls Tryz.prog 55 #[v, .int .i64 k] w fun e w' => e = .returned (.int .i64 (k + l.length * 2)) ∧ (∃ l', l'.length = l.length ∧ MarkP k l'.length l' ∧ OwnP w' base v l') ∧ w.grownBy w' v.ownBlock := by
 have h0 := h; unfold OwnP at h0
 rcases h.2 with ⟨rfl, hn⟩ | ⟨g, cap, cur, rfl, hb, hg, hnc, hcm, hcs, htake⟩
 ·have hl : l = [] := List.eq_nil_of_length_eq_zero hn
  subst hl; clear hn h0 hk
  go_enter Tryz.func55, Tryz.ntmps55
  go_wp2; refine wp_loop_rounds 1 ?_; rw [rounds_succ]; go_wp2
  go_ret
  exact ⟨ret_int (by simp), ⟨[], rfl, fun i hi => absurd hi (by simp), h⟩, ⟨rfl, rfl, rfl, Nat.le_refl _, fun _ _ _ => rfl⟩⟩
 ·clear htake hcs hg h
  obtain ⟨n, hn'⟩ : ∃ n, n = l.length := ⟨_, rfl⟩; have h1 : ∃ l' : List (Int × Int), l'.length = n ∧ MarkP k 0 l' ∧ w.ownsRow base PT 2 (.slice (some ⟨g, 0, none⟩) n cap) n ((flat l').map (Value.int .i64)) := ⟨l, hn'.symm, fun i hi => absurd hi (by omega), by rw [hn']; exact h0⟩; rw [← hn'] at hk hnc ⊢; have hm : n ≤ 9223372036854775807 := by unfold maxLen at hcm; omega
  clear hn' hcm cur h0
  go_enter Tryz.func55, Tryz.ntmps55
  go_wp2
  go_loopw [1, 5] (fun q i wr => ∃ j : Nat, j ≤ n ∧ i = .int .i64 j ∧ q = .int .i64 (k + (j : Int) * 2) ∧ (∃ l' : List (Int × Int), l'.length = n ∧ MarkP k j l' ∧ wr.ownsRow base PT 2 (.slice (some ⟨g, 0, none⟩) n cap) n ((flat l').map (Value.int .i64))) ∧ w.grownBy wr (some g)) (fun _ i _ => n - (intOf i).toNat)
  case atStart => exact ⟨0, Nat.zero_le _, rfl, by simp, h1, ⟨rfl, rfl, rfl, Nat.le_refl _, fun _ _ _ => rfl⟩⟩
  case round =>
   obtain ⟨j, hj, rfl, rfl, ⟨l', hl', hmk, hown⟩, hB⟩ := hrel
   by_cases hlt : j < n
   ·have hltI : (j : Int) < (n : Int) := by omega
    have hfl : ((flat l').map (Value.int .i64)).length = n * 2 := by rw [List.length_map, flat_len, hl']
    have f0 := hown.frozenAt (j * 2); have f1 := hown.frozenAt (j * 2 + 1); obtain ⟨p0, e0⟩ : ∃ p0, wr.cell? ⟨g, j * 2, none⟩ = some p0 := ⟨_, (hown.cellAt (j * 2) (by omega)).trans (List.getElem?_eq_getElem (by rw [hfl]; omega))⟩; obtain ⟨p1, e1⟩ : ∃ p1, wr.cell? ⟨g, j * 2 + 1, none⟩ = some p1 := ⟨_, (hown.cellAt (j * 2 + 1) (by omega)).trans (List.getElem?_eq_getElem (by rw [hfl]; omega))⟩; have s1 := hown.stored (j * 2) (.int .i64 (k + (j : Int) * 2)); have s2 := s1.1.stored (j * 2 + 1) (.int .i64 (k + (j : Int) * 2 + 1)); have hB2 := grown_trans (grown_trans hB s1.2) s2.2; have hst := s2.1; rw [map_set_flat _ j (by rw [hl']; exact hlt)] at hst; have HST := Lib.hid hst; have HB := Lib.hid hB2; have HMK := Lib.hid (hmk.next (by rw [hl']; exact hlt)); have HL : Hid ((l'.set j (k + (j : Int) * 2, k + (j : Int) * 2 + 1)).length = n) := Lib.hid (by rw [List.length_set, hl']); clear s1 s2 hst hB2 hown hB hfl hl' hmk; go_wp2
    go_roundw
    case rel => exact ⟨j + 1, by omega, by go_num, by congr 1; omega, ⟨_, HL.out, HMK.out, HST.out⟩, HB.out⟩
    case measure => simp [intOf]; omega
   ·have hjn : j = n := by omega
    subst hjn; go_wp2
    go_ret
    exact ⟨rfl, ⟨l', hl', by rw [hl']; exact hmk, by unfold OwnP; rw [hl']; exact hown⟩, hB⟩
end Go.Proofs.YtkodnipmogdgkaaGreat
namespace Go.Proofs.YtkodnipmogdgkaaGreat
open Go.ChangeShapes Go.WideShapes Go.ChangeAt Go.RowKit Go.BigFrame Go.Joins
set_option linter.unusedVariables false
set_option maxRecDepth 100000
set_option linter.unusedSimpArgs false
set_option maxRecDepth 100000

theorem MidB.of_below {w w' : World} (base hi : Nat) (h : Below w.heap.size w w') : MidB base hi w w' := ⟨h.os, h.tape, h.output, h.size, fun i hi' _ => h.block i hi'⟩
theorem MkR.mid {w w' : World} {base hi b0 h0 : Nat} {u : Value} {L : List Ent} (h : MkR w base hi u L) (s : MidB b0 h0 w w') (hd : h0 ≤ base ∨ hi ≤ b0) : MkR w' base hi u L := by
 obtain ⟨B, e, s0, c, ew, h1, h2, h3⟩ := h; have blk : ∀ i, base ≤ i → i < hi → i < w.heap.size → w'.heap[i]? = w.heap[i]? := fun i a b q => s.block i q (by omega)
 have hb := blk B h1 h2 h3
 have wr : ∀ {v : Value} {n : Nat}, Wr w (B + 1) hi v n → Wr w' (B + 1) hi v n := fun {v n} q => by
  obtain ⟨a, c, rfl, hc⟩ := q; refine ⟨a, c, rfl, fun i hi' => ?_⟩; obtain ⟨g, e, q2, q3, q4, q5⟩ := hc i hi'
  have hg : g < w.heap.size := by
   obtain ⟨x, hx⟩ := Option.isSome_iff_exists.1 q4
   exact World.block_lt_of_cell? w _ hx
  have eg := blk g (by omega) q3 hg
  exact ⟨g, e, q2, q3, by rw [World.cell?_of_block (w := w) (a := ⟨g, i, none⟩) eg]; exact q4, (World.frozen?_of_block (w := w) eg).trans q5⟩
 refine ⟨B, e, Soft.refl _ _ _, fun j hj => ⟨by rw [World.cell?_of_block (w := w) (a := ⟨B, j, none⟩) hb]; exact (c j hj).1, (World.frozen?_of_block (w := w) hb).trans (c j hj).2⟩, fun i hi' => ?_, h1, h2, Nat.le_trans h3 s.size⟩; obtain ⟨u1, u2, e1, e2, r1, r2⟩ := ew i hi'
 exact ⟨u1, u2, (World.cell?_of_block (w := w) hb).trans e1, (World.cell?_of_block (w := w) hb).trans e2, wr r1, wr r2⟩
theorem row_mid {base hi b n z : Nat} {e : TypeId} {w w' : World} {v : Value} {xs : List Value} (h : w.ownsRow b e z v n xs) (s : MidB base hi w w') (hv : ∀ k, v.ownBlock = some k → k < base ∨ hi ≤ k) : w'.ownsRow b e z v n xs := by
 refine ⟨h.1, ?_⟩
 rcases h.2 with hn | ⟨g, cap, cur, e, hb, hg, rest⟩
 ·exact .inl hn
 ·have hlt : g < w.heap.size := (World.ownsRow.lt h g (by rw [e]; rfl)).2
  exact .inr ⟨g, cap, cur, e, hb, (s.block g hlt (hv g (by rw [e]; rfl))).trans hg, rest⟩
theorem OwnP.mid {base hi b : Nat} {w w' : World} {v : Value} {l : List (Int × Int)} (h : OwnP w b v l) (s : MidB base hi w w') (hv : ∀ k, v.ownBlock = some k → k < base ∨ hi ≤ k) : OwnP w' b v l := row_mid h s hv
theorem OwnT.mid {base hi b : Nat} {w w' : World} {v : Value} {T : List ET} (h : OwnT w b v T) (s : MidB base hi w w') (hv : hi ≤ b ∨ InH base v T) : OwnT w' b v T := by
 refine ⟨row_mid h.row s fun k hk => ?_, fun t ht => ⟨row_mid (h.own t ht).1 s fun k hk => ?_, row_mid (h.own t ht).2 s fun k hk => ?_⟩, h.len, h.sep, h.apart⟩
 ·have := (World.ownsRow.lt h.row k hk).1
  rcases hv with q | q
  ·omega
  ·have := q.1 k hk; omega
 ·have := ((h.lt t ht).1 k hk).1
  rcases hv with q | q
  ·omega
  ·have := (q.2 t ht).1 k hk; omega
 ·have := ((h.lt t ht).2 k hk).1
  rcases hv with q | q
  ·omega
  ·have := (q.2 t ht).2 k hk; omega
/-- a switch of the call's own: its list, its table and what was sent lie behind one another -/
structure NdT (w : World) (b0 h1 h2 h3 : Nat) (ov ru su : Value) (own : List (Int × Int)) (T1 T2 : List ET) : Prop where
 o : OwnP w b0 ov own
 oh : ∀ k, ov.ownBlock = some k → k < h1
 r : OwnT w h1 ru T1
 ri : InH h2 ru T1
 s : OwnT w h2 su T2
 si : InH h3 su T2
 q1 : b0 ≤ h1
 q2 : h1 ≤ h2
 q3 : h2 ≤ h3
theorem NdT.keep {w w' : World} {b0 h1 h2 h3 : Nat} {ov ru su : Value} {own : List (Int × Int)} {T1 T2 : List ET} (h : NdT w b0 h1 h2 h3 ov ru su own T1 T2) (hb : Below w.heap.size w w') : NdT w' b0 h1 h2 h3 ov ru su own T1 T2 :=
 ⟨h.o.keep hb, h.oh, h.r.keep hb, h.ri, h.s.keep hb, h.si, h.q1, h.q2, h.q3⟩
theorem NdT.mid {w w' : World} {b0 h1 h2 h3 b h : Nat} {ov ru su : Value} {own : List (Int × Int)} {T1 T2 : List ET} (H : NdT w b0 h1 h2 h3 ov ru su own T1 T2) (s : MidB b h w w') (hb : h ≤ b0) : NdT w' b0 h1 h2 h3 ov ru su own T1 T2 :=
 ⟨H.o.mid s fun k hk => .inr (Nat.le_trans hb (World.ownsRow.lt H.o k hk).1), H.oh, H.r.mid s (.inl (Nat.le_trans hb H.q1)), H.ri, H.s.mid s (.inl (Nat.le_trans hb (Nat.le_trans H.q1 H.q2))), H.si, H.q1, H.q2, H.q3⟩
/-- its slices bear the marks from 1 on -/
def MarkN (w : World) (ov ru su : Value) (n : Nat) (W1 W2 : List Nat) : Prop :=
 ∃ l L1 L2, l.length = n ∧ MarkP 1 n l ∧ RdP w ov l ∧ MarkedW (1 + (n : Int) * 2) W1 L1 L1.length ∧ RdE w ru L1 ∧ MarkedW (1 + (n : Int) * 2 + (W1.sum : Nat)) W2 L2 L2.length ∧ RdE w su L2
theorem MarkN.keep {w w' : World} {ov ru su : Value} {n : Nat} {W1 W2 : List Nat} (h : MarkN w ov ru su n W1 W2) (hb : Below w.heap.size w w') : MarkN w' ov ru su n W1 W2 := by
 obtain ⟨l, L1, L2, a, b, c, d, e, f, g⟩ := h
 exact ⟨l, L1, L2, a, b, c.keep hb, d, e.keep hb, f, g.keep hb⟩
end Go.Proofs.YtkodnipmogdgkaaGreat
namespace Go.Proofs.YtkodnipmogdgkaaGreat
open Go.ChangeShapes Go.WideShapes Go.ChangeAt Go.RowKit Go.BigFrame Go.Joins
set_option linter.unusedVariables false
set_option maxRecDepth 100000
set_option linter.unusedSimpArgs false

section
variable {H : Type} {enc : TypeId × Value → H} {W : World} {base : Nat} {d : DataW H} {p : List MemPlace} {v : Value}
end
/-- two messages that read alike -/
theorem eqM_same (gv cv pv mv : Value) (gs cs : List (Int × Int)) (ps ms : List Int) (kn sa ho ix pr bw er : Int) (gv2 cv2 pv2 mv2 : Value) (w : World) (hg : RdP w gv gs) (hc : RdP w cv cs) (hp : RdI w pv ps) (hm : RdI w mv ms) (hg2 : RdP w gv2 gs) (hc2 : RdP w cv2 cs) (hp2 : RdI w pv2 ps) (hm2 : RdI w mv2 ms) :
  Calls Tryz.prog 183 #[.agg #[.int .i64 kn, .int .i64 sa, .int .i64 ho, .int .i64 ix, gv, cv, pv, .int .i64 pr, mv, .int .i64 bw, .int .i64 er], .agg #[.int .i64 kn, .int .i64 sa, .int .i64 ho, .int .i64 ix, gv2, cv2, pv2, .int .i64 pr, mv2, .int .i64 bw, .int .i64 er]] w fun e w' => e = .returned (.bool true) ∧ Below w.heap.size w w' := by
 obtain ⟨bA, bB, B1, z⟩ := two w [.int .i64 kn, .int .i64 sa, .int .i64 ho, .int .i64 ix, gv, cv, pv, .int .i64 pr, mv, .int .i64 bw, .int .i64 er] [.int .i64 kn, .int .i64 sa, .int .i64 ho, .int .i64 ix, gv2, cv2, pv2, .int .i64 pr, mv2, .int .i64 bw, .int .i64 er] 157 157; replace hg := hg.keep B1; replace hc := hc.keep B1; replace hp := hp.keep B1; replace hm := hm.keep B1; replace hg2 := hg2.keep B1; replace hc2 := hc2.keep B1; replace hp2 := hp2.keep B1; replace hm2 := hm2.keep B1; clear z; have q0 : (kn != kn) = false := by simp
 have q1 : (sa != sa) = false := by simp
 have q2 : (ho != ho) = false := by simp
 have q3 : (ix != ix) = false := by simp
 have q4 : (er != er) = false := by simp
 go_enter Tryz.func183, Tryz.ntmps183
 go_wp2_with fail; refine (eqPS_same _ _ gs _ hg hg2).mono ?_; rintro e w1 ⟨rfl, hb⟩; replace bA := bA.keep hb; replace bB := bB.keep hb; replace hg := hg.keep hb; replace hc := hc.keep hb; replace hp := hp.keep hb; replace hm := hm.keep hb; replace hg2 := hg2.keep hb; replace hc2 := hc2.keep hb; replace hp2 := hp2.keep hb; replace hm2 := hm2.keep hb; replace B1 := below_step B1 hb; clear hb; have a5 := bA.c 5 rfl; have b5 := bB.c 5 rfl; go_wp2_with fail; clear a5 b5; refine (eqPS_same _ _ cs _ hc hc2).mono ?_; rintro e w2 ⟨rfl, hb⟩; replace bA := bA.keep hb; replace bB := bB.keep hb; replace hg := hg.keep hb; replace hc := hc.keep hb; replace hp := hp.keep hb; replace hm := hm.keep hb; replace hg2 := hg2.keep hb; replace hc2 := hc2.keep hb; replace hp2 := hp2.keep hb; replace hm2 := hm2.keep hb; replace B1 := below_step B1 hb; clear hb; have a6 := bA.c 6 rfl; have b6 := bB.c 6 rfl; have a7 := bA.c 7 rfl; have b7 := bB.c 7 rfl; have a8 := bA.c 8 rfl; have b8 := bB.c 8 rfl; have a9 := bA.c 9 rfl; have b9 := bB.c 9 rfl; go_wp2_with fail; clear a6 a7 a8 a9 b6 b7 b8 b9; refine (eqA_same _ _ _ _ ps ms pr bw _ hp hm hp2 hm2).mono ?_; rintro e w3 ⟨rfl, hb⟩; replace bA := bA.keep hb; replace bB := bB.keep hb; replace hg := hg.keep hb; replace hc := hc.keep hb; replace hp := hp.keep hb; replace hm := hm.keep hb; replace hg2 := hg2.keep hb; replace hc2 := hc2.keep hb; replace hp2 := hp2.keep hb; replace hm2 := hm2.keep hb; replace B1 := below_step B1 hb; clear hb; have a10 := bA.c 10 rfl; have b10 := bB.c 10 rfl; go_wp2
 go_ret
 exact ⟨rfl, B1⟩
end Go.Proofs.YtkodnipmogdgkaaGreat
namespace Go.Proofs.YtkodnipmogdgkaaGreat
open Go.ChangeShapes Go.WideShapes Go.ChangeAt Go.RowKit Go.BigFrame Go.Joins
set_option linter.unusedVariables false
set_option maxRecDepth 100000
set_option linter.unusedSimpArgs false
set_option maxRecDepth 100000

/-- w' is a later world in which the blocks of w from base on lie as they lay -/
def Agr (base : Nat) (w w' : World) : Prop := w.heap.size ≤ w'.heap.size ∧ ∀ i, base ≤ i → i < w.heap.size → w'.heap[i]? = w.heap[i]?
theorem Agr.refl (b : Nat) (w : World) : Agr b w w := ⟨Nat.le_refl _, fun _ _ _ => rfl⟩
theorem Agr.trans {b : Nat} {w w1 w2 : World} (h : Agr b w w1) (k : Agr b w1 w2) : Agr b w w2 := ⟨Nat.le_trans h.1 k.1, fun i h1 h2 => (k.2 i h1 (Nat.lt_of_lt_of_le h2 h.1)).trans (h.2 i h1 h2)⟩
theorem Agr.of_below {b : Nat} {w w' : World} (h : Below w.heap.size w w') : Agr b w w' := ⟨h.size, fun i _ hi => h.block i hi⟩
theorem Agr.up {b b' : Nat} {w w' : World} (h : Agr b w w') (hb : b ≤ b') : Agr b' w w' := ⟨h.1, fun i h1 h2 => h.2 i (Nat.le_trans hb h1) h2⟩
theorem agr_set {b B o : Nat} (w : World) {u : Value} (h : B < b) : Agr b w (w.setCell ⟨B, o, none⟩ u) := ⟨(grown_set w B o u).size, fun i hi hl => (grown_set w B o u).block i hl (by intro e; cases e; omega)⟩
/-- so it is in w, and in every later world in which the blocks from base on lie as they lay -/
def Fresh (b : Nat) (w : World) (P : World → Prop) : Prop := ∀ w', Agr b w w' → P w'
theorem Fresh.agr {b : Nat} {w w' : World} {P : World → Prop} (h : Fresh b w P) (k : Agr b w w') : Fresh b w' P := fun x q => h x (k.trans q)
theorem Fresh.keep {b : Nat} {w w' : World} {P : World → Prop} (h : Fresh b w P) (k : Below w.heap.size w w') : Fresh b w' P := h.agr (.of_below k)
theorem Fresh.mono {b b' : Nat} {w : World} {P : World → Prop} (h : Fresh b w P) (k : b' ≤ b) : Fresh b' w P := fun x q => h x (q.up k)
theorem Fresh.far {b B o : Nat} {w : World} {u : Value} {P : World → Prop} (h : Fresh b w P) (k : B < b) : Fresh b (w.setCell ⟨B, o, none⟩ u) P := h.agr (agr_set w k)
theorem Fresh.imp {b : Nat} {w : World} {P Q : World → Prop} (h : Fresh b w P) (k : ∀ x, P x → Q x) : Fresh b w Q := fun x q => k x (h x q)
/-- a message -/
structure Mg where
 kn : Int
 sa : Int
 ho : Int
 ix : Int
 gs : List (Int × Int)
 cs : List (Int × Int)
 ps : List Int
 pr : Int
 ms : List Int
 bw : Int
 er : Int
def m0 : Mg := ⟨0, 0, 0, 0, [], [], [], 0, [], 0, 0⟩
instance : Inhabited Mg := ⟨m0⟩
def wtM (x : Mg) : Nat := x.gs.length + x.cs.length + x.ps.length + x.ms.length
def RdM (w : World) (gv cv pv mv : Value) (x : Mg) : Prop := RdP w gv x.gs ∧ RdP w cv x.cs ∧ RdI w pv x.ps ∧ RdI w mv x.ms
theorem RdM.keep {w w' : World} {gv cv pv mv : Value} {x : Mg} (h : RdM w gv cv pv mv x) (hb : Below w.heap.size w w') : RdM w' gv cv pv mv x := by
 obtain ⟨h0, h1, h2, h3⟩ := h
 exact ⟨h0.keep hb, h1.keep hb, h2.keep hb, h3.keep hb⟩
/-- the cells of block b from o on hold it -/
def AtM (w : World) (b o : Nat) (x : Mg) : Prop :=
 ∃ gv cv pv mv, RdM w gv cv pv mv x ∧ w.cell? ⟨b, o, none⟩ = some (.int .i64 x.kn) ∧ w.cell? ⟨b, o + 1, none⟩ = some (.int .i64 x.sa) ∧ w.cell? ⟨b, o + 2, none⟩ = some (.int .i64 x.ho) ∧ w.cell? ⟨b, o + 3, none⟩ = some (.int .i64 x.ix) ∧ w.cell? ⟨b, o + 4, none⟩ = some (gv) ∧ w.cell? ⟨b, o + 5, none⟩ = some (cv) ∧ w.cell? ⟨b, o + 6, none⟩ = some (pv) ∧ w.cell? ⟨b, o + 7, none⟩ = some (.int .i64 x.pr) ∧ w.cell? ⟨b, o + 8, none⟩ = some (mv) ∧ w.cell? ⟨b, o + 9, none⟩ = some (.int .i64 x.bw) ∧ w.cell? ⟨b, o + 10, none⟩ = some (.int .i64 x.er)
theorem AtM.keep {w w' : World} {b o : Nat} {x : Mg} (h : AtM w b o x) (hb : Below w.heap.size w w') : AtM w' b o x := by
 obtain ⟨gv, cv, pv, mv, hr, k0, k1, k2, k3, k4, k5, k6, k7, k8, k9, k10⟩ := h
 exact ⟨gv, cv, pv, mv, hr.keep hb, cell_keep hb (World.block_lt_of_cell? w _ k0) k0, cell_keep hb (World.block_lt_of_cell? w _ k1) k1, cell_keep hb (World.block_lt_of_cell? w _ k2) k2, cell_keep hb (World.block_lt_of_cell? w _ k3) k3, cell_keep hb (World.block_lt_of_cell? w _ k4) k4, cell_keep hb (World.block_lt_of_cell? w _ k5) k5, cell_keep hb (World.block_lt_of_cell? w _ k6) k6, cell_keep hb (World.block_lt_of_cell? w _ k7) k7, cell_keep hb (World.block_lt_of_cell? w _ k8) k8, cell_keep hb (World.block_lt_of_cell? w _ k9) k9, cell_keep hb (World.block_lt_of_cell? w _ k10) k10⟩
def RdMS (w : World) (v : Value) (L : List Mg) : Prop :=
 L.length ≤ 9223372036854775807 ∧
 ((∃ a c, v = .slice a 0 c ∧ L = [] ∧ (a = none → c = 0)) ∨
  ∃ b o c, v = .slice (some ⟨b, o, none⟩) L.length c ∧ 0 < L.length ∧ ∀ i, i < L.length → AtM w b (o + i * 11) (L.getD i m0))
theorem RdMS.keep {w w' : World} {v : Value} {L : List Mg} (h : RdMS w v L) (hb : Below w.heap.size w w') : RdMS w' v L := by
 obtain ⟨h2, h3⟩ := h; refine ⟨h2, ?_⟩
 rcases h3 with h3 | ⟨b, o, c, hv, hp, hc⟩
 ·exact .inl h3
 ·exact .inr ⟨b, o, c, hv, hp, fun i hi => (hc i hi).keep hb⟩
theorem RdMS.len {w : World} {v : Value} {L : List Mg} (h : RdMS w v L) : ∃ a c, v = .slice a L.length c := by
 rcases h.2 with ⟨a, c, rfl, rfl, hac⟩ | ⟨b, o, c, rfl, _⟩
 ·exact ⟨a, c, rfl⟩
 ·exact ⟨_, c, rfl⟩
theorem RdMS.el {w : World} {v : Value} {L : List Mg} (h : RdMS w v L) : ∃ a c, v = .slice a L.length c ∧ ∀ i, i < L.length → ∃ b o, a = some ⟨b, o, none⟩ ∧ AtM w b (o + i * 11) (L.getD i m0) := by
 rcases h.2 with ⟨a, c, rfl, rfl, -⟩ | ⟨b, o, c, rfl, -, hc⟩
 ·exact ⟨a, c, rfl, fun i hi => absurd hi (by simp)⟩
 ·exact ⟨_, c, rfl, fun i hi => ⟨b, o, rfl, hc i hi⟩⟩
theorem RdMS.nil (w : World) : RdMS w (.slice none 0 0) [] := ⟨by simp, .inl ⟨none, 0, rfl, rfl, fun _ => rfl⟩⟩
def wtMS (L : List Mg) : Nat := (L.map wtM).sum
theorem wtM_take {L : List Mg} {j : Nat} (h : j < L.length) : wtMS (L.take (j + 1)) = wtMS (L.take j) + wtM (L.getD j m0) := by
 unfold wtMS; rw [List.take_succ_eq_append_getElem h, List.map_append, List.sum_append]; have e : L.getD j m0 = L[j] := by simp [List.getD, h]
 rw [e]
 simp
theorem wtM_le (L : List Mg) (j : Nat) : wtMS (L.take j) ≤ wtMS L := by
 conv => rhs; rw [← List.take_append_drop j L]
 unfold wtMS; rw [List.map_append, List.sum_append]
 omega
theorem wtM_at {L : List Mg} {j : Nat} (h : j < L.length) : wtM (L.getD j m0) ≤ wtMS L := by
 have h1 := wtM_take h; have h2 := wtM_le L (j + 1)
 omega
section
variable {H : Type} {enc : TypeId × Value → H} {W : World} {base : Nat} {d : DataW H} {p : List MemPlace} {v : Value}
end
theorem eqM_same' (gv cv pv mv gv2 cv2 pv2 mv2 : Value) (x : Mg) (w : World) (h : RdM w gv cv pv mv x) (h2 : RdM w gv2 cv2 pv2 mv2 x) :
  Calls Tryz.prog 183 #[.agg #[.int .i64 x.kn, .int .i64 x.sa, .int .i64 x.ho, .int .i64 x.ix, gv, cv, pv, .int .i64 x.pr, mv, .int .i64 x.bw, .int .i64 x.er], .agg #[.int .i64 x.kn, .int .i64 x.sa, .int .i64 x.ho, .int .i64 x.ix, gv2, cv2, pv2, .int .i64 x.pr, mv2, .int .i64 x.bw, .int .i64 x.er]] w fun e w' => e = .returned (.bool true) ∧ Below w.heap.size w w' :=
 eqM_same gv cv pv mv x.gs x.cs x.ps x.ms x.kn x.sa x.ho x.ix x.pr x.bw x.er gv2 cv2 pv2 mv2 w h.1 h.2.1 h.2.2.1 h.2.2.2 h2.1 h2.2.1 h2.2.2.1 h2.2.2.2
/-- element i of the cells xs is that, its slices lie in blocks from base on -/
def MX (xs : List Value) (w : World) (base i : Nat) (x : Mg) : Prop :=
 ∃ gv cv pv mv, Fresh base w (fun W => RdM W gv cv pv mv x) ∧ xs[i * 11]? = some (.int .i64 x.kn) ∧ xs[i * 11 + 1]? = some (.int .i64 x.sa) ∧ xs[i * 11 + 2]? = some (.int .i64 x.ho) ∧ xs[i * 11 + 3]? = some (.int .i64 x.ix) ∧ xs[i * 11 + 4]? = some (gv) ∧ xs[i * 11 + 5]? = some (cv) ∧ xs[i * 11 + 6]? = some (pv) ∧ xs[i * 11 + 7]? = some (.int .i64 x.pr) ∧ xs[i * 11 + 8]? = some (mv) ∧ xs[i * 11 + 9]? = some (.int .i64 x.bw) ∧ xs[i * 11 + 10]? = some (.int .i64 x.er)
def MadeM (w : World) (B n k : Nat) (L : List Mg) : Prop := ∃ xs : List Value, xs.length = n * 11 ∧ Bl w B xs ∧ ∀ i, i < k → MX xs w (B + 1) i (L.getD i m0)
theorem MadeM.keep {w w' : World} {B n k : Nat} {L : List Mg} (h : MadeM w B n k L) (hb : Below w.heap.size w w') : MadeM w' B n k L := by
 obtain ⟨xs, hl, hB, hx⟩ := h; refine ⟨xs, hl, hB.keep hb, fun i hi => ?_⟩; obtain ⟨gv, cv, pv, mv, h1, h3⟩ := hx i hi
 exact ⟨gv, cv, pv, mv, h1.agr (.of_below hb), h3⟩
theorem MadeM.cell {w : World} {B n k : Nat} {L : List Mg} (h : MadeM w B n k L) (j : Nat) (hj : j < n * 11) : ∃ x, w.cell? ⟨B, j, none⟩ = some x ∧ w.frozen? ⟨B, j, none⟩ = false := by
 obtain ⟨xs, hl, hB, hx⟩ := h
 exact ⟨_, hB.c j (List.getElem?_eq_getElem (by omega)), hB.f j (List.getElem?_eq_getElem (by omega))⟩
theorem MadeM.step {w : World} {B n j : Nat} {L : List Mg} (h : MadeM w B n j L) (hk : j < n) {gv cv pv mv : Value} {x : Mg} (hE : L.getD j m0 = x) (h1 : Fresh (B + 1) w (fun W => RdM W gv cv pv mv x)) :
  MadeM (((((((((((w.setCell ⟨B, j * 11, none⟩ (.int .i64 x.kn)).setCell ⟨B, j * 11 + 1, none⟩ (.int .i64 x.sa)).setCell ⟨B, j * 11 + 2, none⟩ (.int .i64 x.ho)).setCell ⟨B, j * 11 + 3, none⟩ (.int .i64 x.ix)).setCell ⟨B, j * 11 + 4, none⟩ (gv)).setCell ⟨B, j * 11 + 5, none⟩ (cv)).setCell ⟨B, j * 11 + 6, none⟩ (pv)).setCell ⟨B, j * 11 + 7, none⟩ (.int .i64 x.pr)).setCell ⟨B, j * 11 + 8, none⟩ (mv)).setCell ⟨B, j * 11 + 9, none⟩ (.int .i64 x.bw)).setCell ⟨B, j * 11 + 10, none⟩ (.int .i64 x.er)) B n (j + 1) L := by
 obtain ⟨xs, hl, hB, hx⟩ := h; have ha : Agr (B + 1) w (((((((((((w.setCell ⟨B, j * 11, none⟩ (.int .i64 x.kn)).setCell ⟨B, j * 11 + 1, none⟩ (.int .i64 x.sa)).setCell ⟨B, j * 11 + 2, none⟩ (.int .i64 x.ho)).setCell ⟨B, j * 11 + 3, none⟩ (.int .i64 x.ix)).setCell ⟨B, j * 11 + 4, none⟩ (gv)).setCell ⟨B, j * 11 + 5, none⟩ (cv)).setCell ⟨B, j * 11 + 6, none⟩ (pv)).setCell ⟨B, j * 11 + 7, none⟩ (.int .i64 x.pr)).setCell ⟨B, j * 11 + 8, none⟩ (mv)).setCell ⟨B, j * 11 + 9, none⟩ (.int .i64 x.bw)).setCell ⟨B, j * 11 + 10, none⟩ (.int .i64 x.er)) := (((((((((((Agr.refl _ _).trans (agr_set _ (Nat.lt_succ_self B))).trans (agr_set _ (Nat.lt_succ_self B))).trans (agr_set _ (Nat.lt_succ_self B))).trans (agr_set _ (Nat.lt_succ_self B))).trans (agr_set _ (Nat.lt_succ_self B))).trans (agr_set _ (Nat.lt_succ_self B))).trans (agr_set _ (Nat.lt_succ_self B))).trans (agr_set _ (Nat.lt_succ_self B))).trans (agr_set _ (Nat.lt_succ_self B))).trans (agr_set _ (Nat.lt_succ_self B))).trans (agr_set _ (Nat.lt_succ_self B)); refine ⟨(((((((((((xs.set (j * 11) (.int .i64 x.kn)).set (j * 11 + 1) (.int .i64 x.sa)).set (j * 11 + 2) (.int .i64 x.ho)).set (j * 11 + 3) (.int .i64 x.ix)).set (j * 11 + 4) (gv)).set (j * 11 + 5) (cv)).set (j * 11 + 6) (pv)).set (j * 11 + 7) (.int .i64 x.pr)).set (j * 11 + 8) (mv)).set (j * 11 + 9) (.int .i64 x.bw)).set (j * 11 + 10) (.int .i64 x.er)), by simpa using hl, (((((((((((hB.set (j * 11) (.int .i64 x.kn)).set (j * 11 + 1) (.int .i64 x.sa)).set (j * 11 + 2) (.int .i64 x.ho)).set (j * 11 + 3) (.int .i64 x.ix)).set (j * 11 + 4) (gv)).set (j * 11 + 5) (cv)).set (j * 11 + 6) (pv)).set (j * 11 + 7) (.int .i64 x.pr)).set (j * 11 + 8) (mv)).set (j * 11 + 9) (.int .i64 x.bw)).set (j * 11 + 10) (.int .i64 x.er)), fun i hi => ?_⟩
 by_cases e : i = j
 ·have e' := e.symm
  subst e'; rw [hE]; refine ⟨gv, cv, pv, mv, h1.agr ha, ?_, ?_, ?_, ?_, ?_, ?_, ?_, ?_, ?_, ?_, ?_⟩
  all_goals simp only [List.getElem?_set, List.length_set]
  all_goals simp (disch := omega) [hl]
  all_goals omega
 ·obtain ⟨v0, v1, v2, v3, g1, c0, c1, c2, c3, c4, c5, c6, c7, c8, c9, c10⟩ := hx i (by omega)
  refine ⟨v0, v1, v2, v3, g1.agr ha, ?_, ?_, ?_, ?_, ?_, ?_, ?_, ?_, ?_, ?_, ?_⟩
  all_goals (repeat rw [List.getElem?_set_ne (by omega)])
  all_goals assumption
set_option maxHeartbeats 4000000 in
theorem eqMS_same (v u : Value) (L : List Mg) (w : World) (h1 : RdMS w v L) (h2 : RdMS w u L) :
  Calls Tryz.prog 139 #[v, u] w fun e w' => e = .returned (.bool true) ∧ Below w.heap.size w w' := by
 have hm1 := h1.1; obtain ⟨a, c, rfl, hc⟩ := h1.el; obtain ⟨a', c', rfl, hc'⟩ := h2.el; obtain ⟨n, hn⟩ : ∃ n, n = L.length := ⟨_, rfl⟩; rw [← hn] at hc hc' hm1 ⊢; have HN := Lib.hid hn; clear hn h1 h2; have hnn : ((n : Int) != (n : Int)) = false := by simp
 go_enter Tryz.func139, Tryz.ntmps139
 go_wp2
 go_loopw [5] (fun i wr => ∃ j : Nat, j ≤ n ∧ i = .int .i64 j ∧ Below w.heap.size w wr) (fun i _ => n - (intOf i).toNat)
 case atStart => exact ⟨0, Nat.zero_le _, rfl, Below.refl _ _⟩
 case round =>
  obtain ⟨j, hk, rfl, hB⟩ := hrel
  by_cases hlt : j < n
  ·have hltI : (j : Int) < (n : Int) := by omega
   obtain ⟨b, o, rfl, hE⟩ := hc j hlt; obtain ⟨b', o', rfl, hE'⟩ := hc' j hlt; obtain ⟨x, hx⟩ : ∃ x, L.getD j m0 = x := ⟨_, rfl⟩; rw [hx] at hE hE'; obtain ⟨gv, cv, pv, mv, hr, k0, k1, k2, k3, k4, k5, k6, k7, k8, k9, k10⟩ := hE.keep hB; obtain ⟨gv2, cv2, pv2, mv2, hr2, m0, m1, m2, m3, m4, m5, m6, m7, m8, m9, m10⟩ := hE'.keep hB; clear hx hc hc' hE hE'; go_wp2
   go_region_held3 (fun w' => Over wr w' ∧ w'.cell? ⟨b, o + j * 11, none⟩ = some (.int .i64 x.kn) ∧ w'.cell? ⟨b, o + j * 11 + 1, none⟩ = some (.int .i64 x.sa) ∧ w'.cell? ⟨b, o + j * 11 + 2, none⟩ = some (.int .i64 x.ho) ∧ w'.cell? ⟨b, o + j * 11 + 3, none⟩ = some (.int .i64 x.ix) ∧ w'.cell? ⟨b, o + j * 11 + 4, none⟩ = some (gv) ∧ w'.cell? ⟨b, o + j * 11 + 5, none⟩ = some (cv) ∧ w'.cell? ⟨b, o + j * 11 + 6, none⟩ = some (pv) ∧ w'.cell? ⟨b, o + j * 11 + 7, none⟩ = some (.int .i64 x.pr) ∧ w'.cell? ⟨b, o + j * 11 + 8, none⟩ = some (mv) ∧ w'.cell? ⟨b, o + j * 11 + 9, none⟩ = some (.int .i64 x.bw) ∧ w'.cell? ⟨b, o + j * 11 + 10, none⟩ = some (.int .i64 x.er) ∧ w'.cell? ⟨b', o' + j * 11, none⟩ = some (.int .i64 x.kn) ∧ w'.cell? ⟨b', o' + j * 11 + 1, none⟩ = some (.int .i64 x.sa) ∧ w'.cell? ⟨b', o' + j * 11 + 2, none⟩ = some (.int .i64 x.ho) ∧ w'.cell? ⟨b', o' + j * 11 + 3, none⟩ = some (.int .i64 x.ix) ∧ w'.cell? ⟨b', o' + j * 11 + 4, none⟩ = some (gv2) ∧ w'.cell? ⟨b', o' + j * 11 + 5, none⟩ = some (cv2) ∧ w'.cell? ⟨b', o' + j * 11 + 6, none⟩ = some (pv2) ∧ w'.cell? ⟨b', o' + j * 11 + 7, none⟩ = some (.int .i64 x.pr) ∧ w'.cell? ⟨b', o' + j * 11 + 8, none⟩ = some (mv2) ∧ w'.cell? ⟨b', o' + j * 11 + 9, none⟩ = some (.int .i64 x.bw) ∧ w'.cell? ⟨b', o' + j * 11 + 10, none⟩ = some (.int .i64 x.er))
    ((first | exact ⟨over_drew _, k0, k1, k2, k3, k4, k5, k6, k7, k8, k9, k10, m0, m1, m2, m3, m4, m5, m6, m7, m8, m9, m10⟩ | exact (fun o => ⟨o, over_cell o (World.block_lt_of_cell? wr _ k0) k0, over_cell o (World.block_lt_of_cell? wr _ k1) k1, over_cell o (World.block_lt_of_cell? wr _ k2) k2, over_cell o (World.block_lt_of_cell? wr _ k3) k3, over_cell o (World.block_lt_of_cell? wr _ k4) k4, over_cell o (World.block_lt_of_cell? wr _ k5) k5, over_cell o (World.block_lt_of_cell? wr _ k6) k6, over_cell o (World.block_lt_of_cell? wr _ k7) k7, over_cell o (World.block_lt_of_cell? wr _ k8) k8, over_cell o (World.block_lt_of_cell? wr _ k9) k9, over_cell o (World.block_lt_of_cell? wr _ k10) k10, over_cell o (World.block_lt_of_cell? wr _ m0) m0, over_cell o (World.block_lt_of_cell? wr _ m1) m1, over_cell o (World.block_lt_of_cell? wr _ m2) m2, over_cell o (World.block_lt_of_cell? wr _ m3) m3, over_cell o (World.block_lt_of_cell? wr _ m4) m4, over_cell o (World.block_lt_of_cell? wr _ m5) m5, over_cell o (World.block_lt_of_cell? wr _ m6) m6, over_cell o (World.block_lt_of_cell? wr _ m7) m7, over_cell o (World.block_lt_of_cell? wr _ m8) m8, over_cell o (World.block_lt_of_cell? wr _ m9) m9, over_cell o (World.block_lt_of_cell? wr _ m10) m10⟩) (over_step (by assumption : Over wr _ ∧ _).1 (by assumption))))
    ((first | (go_at_call 183; refine (eqM_same' gv cv pv mv gv2 cv2 pv2 mv2 x _ (hr.keep (‹Over wr _ ∧ _›).1) (hr2.keep (‹Over wr _ ∧ _›).1)).mono ?_; rintro e w6 ⟨rfl, hbb⟩)))
   rename_i hH
   replace hB := below_step hB hH.1; clear hH hbb k0 k1 k2 k3 k4 k5 k6 k7 k8 k9 k10 m0 m1 m2 m3 m4 m5 m6 m7 m8 m9 m10 hr hr2; go_wp2
   go_roundw
   case rel => exact ⟨j + 1, by omega, by go_num, hB⟩
   case measure => simp [intOf]; omega
  ·have hkn : j = n := by omega
   clear hc hc'; go_wp2
   go_ret
   exact ⟨rfl, hB⟩
end Go.Proofs.YtkodnipmogdgkaaGreat
namespace Go.Proofs.YtkodnipmogdgkaaGreat
open Go.ChangeShapes Go.WideShapes Go.ChangeAt Go.RowKit Go.BigFrame Go.Joins
set_option linter.unusedVariables false
set_option maxRecDepth 100000
set_option linter.unusedSimpArgs false
set_option maxRecDepth 100000

def n0 : Nd := ⟨0, [], 0, false, [], []⟩
instance : Inhabited Nd := ⟨n0⟩
/-- the cells of block b from o on hold it -/
def AtN (w : World) (b o : Nat) (x : Nd) : Prop :=
 ∃ ov rv sv, RdN w ov rv sv x ∧ w.cell? ⟨b, o, none⟩ = some (.int .i64 x.an) ∧ w.cell? ⟨b, o + 1, none⟩ = some (ov) ∧ w.cell? ⟨b, o + 2, none⟩ = some (.int .i64 x.bw) ∧ w.cell? ⟨b, o + 3, none⟩ = some (.bool x.dr) ∧ w.cell? ⟨b, o + 4, none⟩ = some (rv) ∧ w.cell? ⟨b, o + 5, none⟩ = some (sv)
theorem AtN.keep {w w' : World} {b o : Nat} {x : Nd} (h : AtN w b o x) (hb : Below w.heap.size w w') : AtN w' b o x := by
 obtain ⟨ov, rv, sv, hr, k0, k1, k2, k3, k4, k5⟩ := h
 exact ⟨ov, rv, sv, hr.keep hb, cell_keep hb (World.block_lt_of_cell? w _ k0) k0, cell_keep hb (World.block_lt_of_cell? w _ k1) k1, cell_keep hb (World.block_lt_of_cell? w _ k2) k2, cell_keep hb (World.block_lt_of_cell? w _ k3) k3, cell_keep hb (World.block_lt_of_cell? w _ k4) k4, cell_keep hb (World.block_lt_of_cell? w _ k5) k5⟩
def RdNS (w : World) (v : Value) (L : List Nd) : Prop :=
 L.length ≤ 9223372036854775807 ∧
 ((∃ a c, v = .slice a 0 c ∧ L = [] ∧ (a = none → c = 0)) ∨
  ∃ b o c, v = .slice (some ⟨b, o, none⟩) L.length c ∧ 0 < L.length ∧ ∀ i, i < L.length → AtN w b (o + i * 6) (L.getD i n0))
theorem RdNS.keep {w w' : World} {v : Value} {L : List Nd} (h : RdNS w v L) (hb : Below w.heap.size w w') : RdNS w' v L := by
 obtain ⟨h2, h3⟩ := h; refine ⟨h2, ?_⟩
 rcases h3 with h3 | ⟨b, o, c, hv, hp, hc⟩
 ·exact .inl h3
 ·exact .inr ⟨b, o, c, hv, hp, fun i hi => (hc i hi).keep hb⟩
theorem RdNS.len {w : World} {v : Value} {L : List Nd} (h : RdNS w v L) : ∃ a c, v = .slice a L.length c := by
 rcases h.2 with ⟨a, c, rfl, rfl, hac⟩ | ⟨b, o, c, rfl, _⟩
 ·exact ⟨a, c, rfl⟩
 ·exact ⟨_, c, rfl⟩
theorem RdNS.el {w : World} {v : Value} {L : List Nd} (h : RdNS w v L) : ∃ a c, v = .slice a L.length c ∧ ∀ i, i < L.length → ∃ b o, a = some ⟨b, o, none⟩ ∧ AtN w b (o + i * 6) (L.getD i n0) := by
 rcases h.2 with ⟨a, c, rfl, rfl, -⟩ | ⟨b, o, c, rfl, -, hc⟩
 ·exact ⟨a, c, rfl, fun i hi => absurd hi (by simp)⟩
 ·exact ⟨_, c, rfl, fun i hi => ⟨b, o, rfl, hc i hi⟩⟩
theorem RdNS.nil (w : World) : RdNS w (.slice none 0 0) [] := ⟨by simp, .inl ⟨none, 0, rfl, rfl, fun _ => rfl⟩⟩
def wtNS (L : List Nd) : Nat := (L.map wtN).sum
theorem wtN_take {L : List Nd} {j : Nat} (h : j < L.length) : wtNS (L.take (j + 1)) = wtNS (L.take j) + wtN (L.getD j n0) := by
 unfold wtNS; rw [List.take_succ_eq_append_getElem h, List.map_append, List.sum_append]; have e : L.getD j n0 = L[j] := by simp [List.getD, h]
 rw [e]
 simp
theorem wtN_le (L : List Nd) (j : Nat) : wtNS (L.take j) ≤ wtNS L := by
 conv => rhs; rw [← List.take_append_drop j L]
 unfold wtNS; rw [List.map_append, List.sum_append]
 omega
theorem wtN_at {L : List Nd} {j : Nat} (h : j < L.length) : wtN (L.getD j n0) ≤ wtNS L := by
 have h1 := wtN_take h; have h2 := wtN_le L (j + 1)
 omega
section
variable {H : Type} {enc : TypeId × Value → H} {W : World} {base : Nat} {d : DataW H} {p : List MemPlace} {v : Value}
theorem N_trod {fuel : Nat} {c0 c1 c2 c3 c4 c5 : Value} {y : DataW H × List MemPlace} (h : DataW.trod enc Tryz.prog W 0 (fun _ => true) true fuel 85 [c0, c1, c2, c3, c4, c5] = some y) :
  ∃ E : Nd, c0 = .int .i64 E.an ∧ c2 = .int .i64 E.bw ∧ c3 = .bool E.dr ∧ RdN W c1 c4 c5 E := by
 obtain ⟨ys, n, _, hx, hl, hlen, hf⟩ := DataW.trod_struct Tryz.underlying85 h; obtain ⟨y0, y1, y2, y3, y4, y5, rfl⟩ := list6 hlen; have h0 := hf 0 _ rfl; have h1 := hf 1 _ rfl; have h2 := hf 2 _ rfl; have h3 := hf 3 _ rfl; have h4 := hf 4 _ rfl; have h5 := hf 5 _ rfl; clear hf
 simp [cellsI1e, cellsPS1n, cellsB1n, cellsRb] at h0 h1 h2 h3 h4 h5
 obtain ⟨x0, e0, -, -⟩ := DataW.trod_int Tryz.underlying3 h0; obtain ⟨x2, e2, -, -⟩ := DataW.trod_int Tryz.underlying3 h2; obtain ⟨x3, e3, -⟩ := DataW.trod_bool Tryz.underlying4 h3; obtain ⟨l1, g1⟩ := rdP_trod h1; obtain ⟨l4, g4⟩ := rib_trod h4; obtain ⟨l5, g5⟩ := rib_trod h5
 simp at e0 e2 e3
 exact ⟨⟨x0, l1, x2, x3, l4, l5⟩, e0, e2, e3, g1, g4, g5⟩
theorem cellsNS : Tryz.prog.cellsOf 85 = 6 := by kernel_rfl
theorem listN {α : Type} {xs : List α} (h : xs.length = 6) : ∃ c0 c1 c2 c3 c4 c5, xs = [c0, c1, c2, c3, c4, c5] := by
 match xs, h with
 | [c0, c1, c2, c3, c4, c5], _ => exact ⟨c0, c1, c2, c3, c4, c5, rfl⟩
theorem rdNS_trod {fuel : Nat} {y : DataW H × List MemPlace} (h : DataW.trod enc Tryz.prog W 0 (fun _ => true) true fuel 22 [v] = some y) : ∃ L, RdNS W v L := by
 rcases Deep.open_slice Tryz.underlying22 h with ⟨hcs, _⟩ | ⟨a, len, cap, m, n, D, Pl, hcs, _, hl, hm, hmm, _, hx⟩
 ·obtain ⟨rfl, -⟩ := List.cons.inj hcs
  exact ⟨[], RdNS.nil W⟩
 ·obtain ⟨rfl, -⟩ := List.cons.inj hcs
  have hlm : len ≤ m := by rw [hmm]; split <;> omega
  obtain ⟨b, off, spot⟩ := a
  by_cases h0 : len = 0
  ·subst h0
   exact ⟨[], by simp, .inl ⟨_, cap, rfl, rfl, fun h => by cases h⟩⟩
  ·have hspot : spot = none := by
    obtain ⟨cs', h1, _⟩ := hx 0 (by omega); rw [cellsNS] at h1; obtain ⟨_, hlen, hcell⟩ := World.cells?_some h1; have h2 := hcell 0 (by omega); rw [List.getElem?_eq_getElem (by omega)] at h2
    simpa [Addr.add] using World.cell?_spot h2
   subst hspot; have hadd : ∀ o k, (⟨b, o, none⟩ : Addr).add k = ⟨b, o + k, none⟩ := fun o k => by unfold Addr.add; split <;> simp_all
   have hex : ∀ i, i < len → ∃ E : Nd, AtN W b (off + i * 6) E := by
    intro i hi; obtain ⟨cs', h1, h2⟩ := hx i (by omega); rw [cellsNS] at h1; obtain ⟨_, hlen, hcell⟩ := World.cells?_some h1; obtain ⟨x0, x1, x2, x3, x4, x5, rfl⟩ := listN hlen; obtain ⟨E, rfl, rfl, rfl, hr⟩ := N_trod h2; have e0 := hcell 0 (by omega); have e1 := hcell 1 (by omega); have e2 := hcell 2 (by omega); have e3 := hcell 3 (by omega); have e4 := hcell 4 (by omega); have e5 := hcell 5 (by omega); simp only [hadd] at e0 e1 e2 e3 e4 e5
    exact ⟨E, x1, x4, x5, hr, e0, e1, e2, e3, e4, e5⟩
   obtain ⟨f, hf⟩ := Deep.choose_lt hex; refine ⟨(List.range len).map f, by simp; unfold maxLen at hm; omega, .inr ⟨b, off, cap, by simp, by simp; omega, fun i hi => ?_⟩⟩; have hi : i < len := by simpa using hi
   rw [show ((List.range len).map f).getD i n0 = f i by simp [List.getD, hi]]
   exact hf i hi
end
theorem szN_l (ov rv sv : Value) (N : Nd) (left : Int) (w : World) (h : RdN w ov rv sv N) (hl0 : 0 ≤ left) (hl1 : left ≤ 1048576) :
  Calls Tryz.prog 46 #[.agg #[.int .i64 N.an, ov, .int .i64 N.bw, .bool N.dr, rv, sv], .int .i64 left] w fun e w' => ∃ r : Int, e = .returned (.int .i64 r) ∧ (¬ r < 0 → r = left - (wtN N : Nat)) ∧ (r < 0 → r = -1) ∧ Below w.heap.size w w' := by
 obtain ⟨bA, B0, z⟩ := one w [.int .i64 N.an, ov, .int .i64 N.bw, .bool N.dr, rv, sv] 85; replace h := h.keep B0; clear z; have a1 := bA.c 1 rfl
 by_cases hlt : left < (N.own.length : Int)
 ·have e := szN_lt hlt
  have HE := Lib.hid e; clear e
  go_enter Tryz.func46, Tryz.ntmps46
  go_wp2_with fail; refine (szP_any ov N.own _ _ h.1 (by omega) (by omega)).mono ?_; rw [HE.out]; rintro e w1 ⟨rfl, rfl⟩; go_wp2
  go_ret
  exact ⟨-1, rfl, fun q => by omega, fun _ => rfl, B0⟩
 ·have e := szN_ge hlt
  obtain ⟨r, hr⟩ : ∃ r : Int, r = left - (N.own.length : Int) := ⟨_, rfl⟩; have hr0 : 0 ≤ r := by omega
  have hr1 : r ≤ 1048576 := by omega
  have hrn : ¬ r < 0 := by omega
  rw [← hr] at e; have HE := Lib.hid e; have HR := Lib.hid hr; clear e hr hlt
  go_enter Tryz.func46, Tryz.ntmps46
  go_wp2_with fail; refine (szP_any ov N.own _ _ h.1 (by omega) (by omega)).mono ?_; rw [HE.out]; rintro e w1 ⟨rfl, rfl⟩; have a4 := bA.c 4 rfl; go_wp2_with fail; refine (szRb_l rv N.rib r _ h.2.1 hr0 hr1).mono ?_; rintro e w2 ⟨q, rfl, hq, hb⟩; replace bA := bA.keep hb; replace h := h.keep hb; replace B0 := below_step B0 hb; have HQ := Lib.hid hq; clear hb hq a4
  by_cases hqn : q < 0
  ·go_wp2_with fail
   go_ret
   exact ⟨-1, rfl, fun q => by omega, fun _ => rfl, B0⟩
  ·have hq1 : q ≤ 1048576 := by have := HQ.out hqn; omega
   have hq0 : 0 ≤ q := by omega
   have a5 := bA.c 5 rfl; go_wp2_with fail; refine (szRb_l sv N.sent q _ h.2.2 hq0 hq1).mono ?_; rintro e w3 ⟨s, rfl, hs, hb⟩; replace B0 := below_step B0 hb; have HS := Lib.hid hs; clear hb hs a5
   by_cases hsn : s < 0
   ·go_wp2_with fail
    go_ret
    exact ⟨-1, rfl, fun q => by omega, fun _ => rfl, B0⟩
   ·go_wp2_with fail
    go_ret
    refine ⟨s, rfl, fun _ => ?_, fun q => by omega, B0⟩; have e1 := HS.out hsn; have e2 := HQ.out hqn; have e3 := HR.out; unfold wtN
    omega
theorem eqN_same (ov rv sv ov2 rv2 sv2 : Value) (x : Nd) (w : World) (h : RdN w ov rv sv x) (h2 : RdN w ov2 rv2 sv2 x) :
  Calls Tryz.prog 53 #[.agg #[.int .i64 x.an, ov, .int .i64 x.bw, .bool x.dr, rv, sv], .agg #[.int .i64 x.an, ov2, .int .i64 x.bw, .bool x.dr, rv2, sv2]] w fun e w' => e = .returned (.bool true) ∧ Below w.heap.size w w' := eqNd_same ov rv sv ov2 rv2 sv2 x w h h2
theorem szNS_l (v : Value) (L : List Nd) (left : Int) (w : World) (h : RdNS w v L) (hl0 : 0 ≤ left) (hl1 : left ≤ 1048576) :
  Calls Tryz.prog 17 #[v, .int .i64 left] w fun e w' => ∃ r : Int, e = .returned (.int .i64 r) ∧ (¬ r < 0 → r = left - (L.length : Nat) - (wtNS L : Nat)) ∧ (r < 0 → r = -1) ∧ Below w.heap.size w w' := by
 have hm := h.1; obtain ⟨a, c, rfl, hc⟩ := h.el; obtain ⟨n, hn⟩ : ∃ n, n = L.length := ⟨_, rfl⟩; rw [← hn] at hc hm ⊢; have HN := Lib.hid hn; clear h hn
 by_cases hbig : left - n < 0
 ·go_enter Tryz.func17, Tryz.ntmps17
  have hw1 : IntKind.i64.wrap (left - (n : Int)) = left - (n : Int) := wrap64_in _ (by omega) (by omega); go_wp2
  go_ret
  exact ⟨-1, rfl, fun h => by omega, fun _ => rfl, Below.refl _ _⟩
 ·have hnn : (n : Int) ≤ 1048576 := by omega
  have hw1 : IntKind.i64.wrap (left - (n : Int)) = left - (n : Int) := wrap64_in _ (by omega) (by omega)
  go_enter Tryz.func17, Tryz.ntmps17
  go_wp2
  go_loopw [1, 5] (fun q i wr => ∃ j : Nat, j ≤ n ∧ i = .int .i64 j ∧ (∃ l : Int, q = .int .i64 l ∧ 0 ≤ l ∧ l = left - (n : Int) - (wtNS (L.take j) : Nat)) ∧ Below w.heap.size w wr) (fun _ i _ => n - (intOf i).toNat)
  case atStart => exact ⟨0, Nat.zero_le _, rfl, ⟨_, rfl, by omega, by simp [wtNS]⟩, Below.refl _ _⟩
  case round =>
   obtain ⟨j, hj, rfl, ⟨l, rfl, hl0, hl⟩, hB⟩ := hrel; have HL := Lib.hid hl; have hl1 : l ≤ 1048576 := by omega
   clear hl
   by_cases hlt : j < n
   ·have hltI : (j : Int) < (n : Int) := by omega
    obtain ⟨b, o, rfl, hE⟩ := hc j hlt; obtain ⟨x, hx⟩ : ∃ x, L.getD j n0 = x := ⟨_, rfl⟩; rw [hx] at hE; obtain ⟨ov, rv, sv, hr, k0, k1, k2, k3, k4, k5⟩ := hE.keep hB; have HX := Lib.hid hx; have HCC := Lib.hid hc; clear hx hc hE; go_wp2_with fail; refine (szN_l ov rv sv x l _ hr hl0 hl1).mono ?_; rintro e w1 ⟨r, rfl, hr1, hr2, hb⟩; have hB2 := below_step hB hb; have HR1 := Lib.hid hr1; have HR2 := Lib.hid hr2; clear hb hB k0 k1 k2 k3 k4 k5 hr hr1 hr2
    by_cases hneg : r < 0
    ·go_wp2
     go_ret
     exact ⟨-1, rfl, fun h => by omega, fun _ => rfl, hB2⟩
    ·go_wp2
     go_roundw
     case rel =>
      refine ⟨j + 1, by omega, by go_num, ⟨r, rfl, by omega, ?_⟩, hB2⟩; have h1 := wtN_take (L := L) (j := j) (by rw [← HN.out]; exact hlt); rw [HX.out] at h1; have h2 := HR1.out hneg; have h3 := HL.out
      omega
     case measure => simp [intOf]; omega
   ·have hkn : j = n := by omega
    subst hkn; have hw : wtNS (L.take j) = wtNS L := by rw [List.take_of_length_le (by rw [HN.out]; exact Nat.le_refl _)]
    have HW := Lib.hid hw; clear hc hw; go_wp2
    go_ret
    refine ⟨l, rfl, fun _ => ?_, fun h => by omega, hB⟩; have h3 := HL.out; rw [HW.out] at h3
    omega
/-- element i of the cells xs is that, its slices lie in blocks from base on -/
def NX (xs : List Value) (w : World) (base i : Nat) (x : Nd) : Prop :=
 ∃ ov rv sv, Fresh base w (fun W => RdN W ov rv sv x) ∧ xs[i * 6]? = some (.int .i64 x.an) ∧ xs[i * 6 + 1]? = some (ov) ∧ xs[i * 6 + 2]? = some (.int .i64 x.bw) ∧ xs[i * 6 + 3]? = some (.bool x.dr) ∧ xs[i * 6 + 4]? = some (rv) ∧ xs[i * 6 + 5]? = some (sv)
def MadeN (w : World) (B n k : Nat) (L : List Nd) : Prop := ∃ xs : List Value, xs.length = n * 6 ∧ Bl w B xs ∧ ∀ i, i < k → NX xs w (B + 1) i (L.getD i n0)
theorem MadeN.keep {w w' : World} {B n k : Nat} {L : List Nd} (h : MadeN w B n k L) (hb : Below w.heap.size w w') : MadeN w' B n k L := by
 obtain ⟨xs, hl, hB, hx⟩ := h; refine ⟨xs, hl, hB.keep hb, fun i hi => ?_⟩; obtain ⟨ov, rv, sv, h1, h3⟩ := hx i hi
 exact ⟨ov, rv, sv, h1.agr (.of_below hb), h3⟩
theorem MadeN.cell {w : World} {B n k : Nat} {L : List Nd} (h : MadeN w B n k L) (j : Nat) (hj : j < n * 6) : ∃ x, w.cell? ⟨B, j, none⟩ = some x ∧ w.frozen? ⟨B, j, none⟩ = false := by
 obtain ⟨xs, hl, hB, hx⟩ := h
 exact ⟨_, hB.c j (List.getElem?_eq_getElem (by omega)), hB.f j (List.getElem?_eq_getElem (by omega))⟩
theorem MadeN.step {w : World} {B n j : Nat} {L : List Nd} (h : MadeN w B n j L) (hk : j < n) {ov rv sv : Value} {x : Nd} (hE : L.getD j n0 = x) (h1 : Fresh (B + 1) w (fun W => RdN W ov rv sv x)) :
  MadeN ((((((w.setCell ⟨B, j * 6, none⟩ (.int .i64 x.an)).setCell ⟨B, j * 6 + 1, none⟩ (ov)).setCell ⟨B, j * 6 + 2, none⟩ (.int .i64 x.bw)).setCell ⟨B, j * 6 + 3, none⟩ (.bool x.dr)).setCell ⟨B, j * 6 + 4, none⟩ (rv)).setCell ⟨B, j * 6 + 5, none⟩ (sv)) B n (j + 1) L := by
 obtain ⟨xs, hl, hB, hx⟩ := h; have ha : Agr (B + 1) w ((((((w.setCell ⟨B, j * 6, none⟩ (.int .i64 x.an)).setCell ⟨B, j * 6 + 1, none⟩ (ov)).setCell ⟨B, j * 6 + 2, none⟩ (.int .i64 x.bw)).setCell ⟨B, j * 6 + 3, none⟩ (.bool x.dr)).setCell ⟨B, j * 6 + 4, none⟩ (rv)).setCell ⟨B, j * 6 + 5, none⟩ (sv)) := ((((((Agr.refl _ _).trans (agr_set _ (Nat.lt_succ_self B))).trans (agr_set _ (Nat.lt_succ_self B))).trans (agr_set _ (Nat.lt_succ_self B))).trans (agr_set _ (Nat.lt_succ_self B))).trans (agr_set _ (Nat.lt_succ_self B))).trans (agr_set _ (Nat.lt_succ_self B)); refine ⟨((((((xs.set (j * 6) (.int .i64 x.an)).set (j * 6 + 1) (ov)).set (j * 6 + 2) (.int .i64 x.bw)).set (j * 6 + 3) (.bool x.dr)).set (j * 6 + 4) (rv)).set (j * 6 + 5) (sv)), by simpa using hl, ((((((hB.set (j * 6) (.int .i64 x.an)).set (j * 6 + 1) (ov)).set (j * 6 + 2) (.int .i64 x.bw)).set (j * 6 + 3) (.bool x.dr)).set (j * 6 + 4) (rv)).set (j * 6 + 5) (sv)), fun i hi => ?_⟩
 by_cases e : i = j
 ·have e' := e.symm
  subst e'; rw [hE]; refine ⟨ov, rv, sv, h1.agr ha, ?_, ?_, ?_, ?_, ?_, ?_⟩
  all_goals simp only [List.getElem?_set, List.length_set]
  all_goals simp (disch := omega) [hl]
  all_goals omega
 ·obtain ⟨v0, v1, v2, g1, c0, c1, c2, c3, c4, c5⟩ := hx i (by omega)
  refine ⟨v0, v1, v2, g1.agr ha, ?_, ?_, ?_, ?_, ?_, ?_⟩
  all_goals (repeat rw [List.getElem?_set_ne (by omega)])
  all_goals assumption
set_option maxHeartbeats 4000000 in
theorem eqNS_same (v u : Value) (L : List Nd) (w : World) (h1 : RdNS w v L) (h2 : RdNS w u L) :
  Calls Tryz.prog 23 #[v, u] w fun e w' => e = .returned (.bool true) ∧ Below w.heap.size w w' := by
 have hm1 := h1.1; obtain ⟨a, c, rfl, hc⟩ := h1.el; obtain ⟨a', c', rfl, hc'⟩ := h2.el; obtain ⟨n, hn⟩ : ∃ n, n = L.length := ⟨_, rfl⟩; rw [← hn] at hc hc' hm1 ⊢; have HN := Lib.hid hn; clear hn h1 h2; have hnn : ((n : Int) != (n : Int)) = false := by simp
 go_enter Tryz.func23, Tryz.ntmps23
 go_wp2
 go_loopw [5] (fun i wr => ∃ j : Nat, j ≤ n ∧ i = .int .i64 j ∧ Below w.heap.size w wr) (fun i _ => n - (intOf i).toNat)
 case atStart => exact ⟨0, Nat.zero_le _, rfl, Below.refl _ _⟩
 case round =>
  obtain ⟨j, hk, rfl, hB⟩ := hrel
  by_cases hlt : j < n
  ·have hltI : (j : Int) < (n : Int) := by omega
   obtain ⟨b, o, rfl, hE⟩ := hc j hlt; obtain ⟨b', o', rfl, hE'⟩ := hc' j hlt; obtain ⟨x, hx⟩ : ∃ x, L.getD j n0 = x := ⟨_, rfl⟩; rw [hx] at hE hE'; obtain ⟨ov, rv, sv, hr, k0, k1, k2, k3, k4, k5⟩ := hE.keep hB; obtain ⟨ov2, rv2, sv2, hr2, m0, m1, m2, m3, m4, m5⟩ := hE'.keep hB; clear hx hc hc' hE hE'; go_wp2
   go_region_held3 (fun w' => Over wr w' ∧ w'.cell? ⟨b, o + j * 6, none⟩ = some (.int .i64 x.an) ∧ w'.cell? ⟨b, o + j * 6 + 1, none⟩ = some (ov) ∧ w'.cell? ⟨b, o + j * 6 + 2, none⟩ = some (.int .i64 x.bw) ∧ w'.cell? ⟨b, o + j * 6 + 3, none⟩ = some (.bool x.dr) ∧ w'.cell? ⟨b, o + j * 6 + 4, none⟩ = some (rv) ∧ w'.cell? ⟨b, o + j * 6 + 5, none⟩ = some (sv) ∧ w'.cell? ⟨b', o' + j * 6, none⟩ = some (.int .i64 x.an) ∧ w'.cell? ⟨b', o' + j * 6 + 1, none⟩ = some (ov2) ∧ w'.cell? ⟨b', o' + j * 6 + 2, none⟩ = some (.int .i64 x.bw) ∧ w'.cell? ⟨b', o' + j * 6 + 3, none⟩ = some (.bool x.dr) ∧ w'.cell? ⟨b', o' + j * 6 + 4, none⟩ = some (rv2) ∧ w'.cell? ⟨b', o' + j * 6 + 5, none⟩ = some (sv2))
    ((first | exact ⟨over_drew _, k0, k1, k2, k3, k4, k5, m0, m1, m2, m3, m4, m5⟩ | exact (fun o => ⟨o, over_cell o (World.block_lt_of_cell? wr _ k0) k0, over_cell o (World.block_lt_of_cell? wr _ k1) k1, over_cell o (World.block_lt_of_cell? wr _ k2) k2, over_cell o (World.block_lt_of_cell? wr _ k3) k3, over_cell o (World.block_lt_of_cell? wr _ k4) k4, over_cell o (World.block_lt_of_cell? wr _ k5) k5, over_cell o (World.block_lt_of_cell? wr _ m0) m0, over_cell o (World.block_lt_of_cell? wr _ m1) m1, over_cell o (World.block_lt_of_cell? wr _ m2) m2, over_cell o (World.block_lt_of_cell? wr _ m3) m3, over_cell o (World.block_lt_of_cell? wr _ m4) m4, over_cell o (World.block_lt_of_cell? wr _ m5) m5⟩) (over_step (by assumption : Over wr _ ∧ _).1 (by assumption))))
    ((first | (go_at_call 53; refine (eqN_same ov rv sv ov2 rv2 sv2 x _ (hr.keep (‹Over wr _ ∧ _›).1) (hr2.keep (‹Over wr _ ∧ _›).1)).mono ?_; rintro e w6 ⟨rfl, hbb⟩)))
   rename_i hH
   replace hB := below_step hB hH.1; clear hH hbb k0 k1 k2 k3 k4 k5 m0 m1 m2 m3 m4 m5 hr hr2; go_wp2
   go_roundw
   case rel => exact ⟨j + 1, by omega, by go_num, hB⟩
   case measure => simp [intOf]; omega
  ·have hkn : j = n := by omega
   clear hc hc'; go_wp2
   go_ret
   exact ⟨rfl, hB⟩
end Go.Proofs.YtkodnipmogdgkaaGreat
