/-
  Entries and tables: contracts of the tests that they are valid and of their order, of the program and of the model. Conditions: those in each contract.
-/
import Derived.Test.YtbcmoofpgffbhaaF2
import Derived.Test.YtbcmoofpgffbhaaN3
import Derived.Test.YtbcmoofpgffbhaaI8
namespace Go.Proofs.Ytbcmoofpgffbhaa
open Go.ChangeShapes Go.WideShapes Go.ChangeAt Go.RowKit Go.BigFrame Go.Joins
set_option linter.unusedVariables false
set_option maxRecDepth 100000
set_option linter.unusedSimpArgs false
set_option maxRecDepth 100000

theorem within_7 {n : Int} {b : Bool} (w : World) (H : Hid (inB n (-1) 7 = b)) : Calls Try.prog 73 #[.int .i64 n, .int .i64 (-1), .int .i64 7] w fun e w' => e = .returned (.bool b) ∧ w = w' := within_t w H
/-- an entry is valid -/
def entB (a n pe : Int) (p : List Int) (pr : Int) (c : List Int) (bw : Int) : Bool := pokB a n && (inB pe (-1) 7 && aokB p pr c bw)
/-- the order of entries -/
def ecmp (a n pe b m qe : Int) : Int := orv (cmp2 a n b m) (cmp1 pe qe)
theorem snum6 (a b : Int) (w : World) : Calls Try.prog 166 #[.int .i64 a, .int .i64 b] w fun e w' => e = .returned (.int .i64 (cmp1 a b)) ∧ w = w' := by
  by_cases h1 : a < b
  · rw [cmp1_lt h1]
    go_enter Try.func166, Try.ntmps166
    go_wp2
    go_ret
    exact ⟨rfl, rfl⟩
  · by_cases h2 : b < a
    · rw [cmp1_gt h2]
      go_enter Try.func166, Try.ntmps166
      go_wp2
      go_ret
      exact ⟨rfl, rfl⟩
    · obtain rfl : a = b := by omega
      rw [cmp1_eq]
      clear h1 h2
      have h3 : ¬ a < a := by omega
      go_enter Try.func166, Try.ntmps166
      go_wp2
      go_ret
      exact ⟨rfl, rfl⟩
theorem sent_any (pv cv : Value) (p c : List Int) (a n pe pr bw : Int) (w : World) (hp : RdI w pv p) (hc : RdI w cv c) :
    Calls Try.prog 119 #[.agg #[.int .i64 a, .int .i64 n, .int .i64 pe, pv, .int .i64 pr, cv, .int .i64 bw]] w fun e w' => e = .returned (.bool (entB a n pe p pr c bw)) ∧ Below w.heap.size w w' := by
  obtain ⟨bA, B0, z⟩ := one w [.int .i64 a, .int .i64 n, .int .i64 pe, pv, .int .i64 pr, cv, .int .i64 bw] EI
  replace hp := hp.keep B0
  replace hc := hc.keep B0
  clear z
  unfold entB
  cases hP : pokB a n
  · rw [Bool.false_and]
    have HP := Lib.hid hP
    clear hP
    go_enter Try.func119, Try.ntmps119
    go_wp2_with fail
    refine (spok_t _ HP).mono ?_
    rintro e w1 ⟨rfl, hb⟩
    replace bA := bA.keep hb
    replace hp := hp.keep hb
    replace hc := hc.keep hb
    replace B0 := below_step B0 hb
    clear hb
    have a1 := bA.c 1 rfl
    have a2 := bA.c 2 rfl
    have a3 := bA.c 3 rfl
    have a4 := bA.c 4 rfl
    have a5 := bA.c 5 rfl
    have a6 := bA.c 6 rfl
    go_wp2
    go_ret
    exact ⟨rfl, B0⟩
  · rw [Bool.true_and]
    have HP := Lib.hid hP
    clear hP
    cases hI : inB pe (-1) 7
    · rw [Bool.false_and]
      simp only [inB, decide_eq_false_iff_not] at hI
      by_cases h1 : -1 ≤ pe
      · have h2 : ¬ pe < 8 := by omega
        clear hI
        go_enter Try.func119, Try.ntmps119
        go_wp2_with fail
        refine (spok_t _ HP).mono ?_
        rintro e w1 ⟨rfl, hb⟩
        replace bA := bA.keep hb
        replace hp := hp.keep hb
        replace hc := hc.keep hb
        replace B0 := below_step B0 hb
        clear hb
        have a1 := bA.c 1 rfl
        have a2 := bA.c 2 rfl
        have a3 := bA.c 3 rfl
        have a4 := bA.c 4 rfl
        have a5 := bA.c 5 rfl
        have a6 := bA.c 6 rfl
        go_wp2
        go_ret
        exact ⟨rfl, B0⟩
      · clear hI
        go_enter Try.func119, Try.ntmps119
        go_wp2_with fail
        refine (spok_t _ HP).mono ?_
        rintro e w1 ⟨rfl, hb⟩
        replace bA := bA.keep hb
        replace hp := hp.keep hb
        replace hc := hc.keep hb
        replace B0 := below_step B0 hb
        clear hb
        have a1 := bA.c 1 rfl
        have a2 := bA.c 2 rfl
        have a3 := bA.c 3 rfl
        have a4 := bA.c 4 rfl
        have a5 := bA.c 5 rfl
        have a6 := bA.c 6 rfl
        go_wp2
        go_ret
        exact ⟨rfl, B0⟩
    · rw [Bool.true_and]
      simp only [inB, decide_eq_true_eq] at hI
      have h1 : -1 ≤ pe := hI.1
      have h2 : pe < 8 := by omega
      clear hI
      obtain ⟨r, hA⟩ : ∃ r, aokB p pr c bw = r := ⟨_, rfl⟩
      rw [hA]
      have HA := Lib.hid hA
      clear hA
      go_enter Try.func119, Try.ntmps119
      go_wp2_with fail
      refine (spok_t _ HP).mono ?_
      rintro e w1 ⟨rfl, hb⟩
      replace bA := bA.keep hb
      replace hp := hp.keep hb
      replace hc := hc.keep hb
      replace B0 := below_step B0 hb
      clear hb
      have a1 := bA.c 1 rfl
      have a2 := bA.c 2 rfl
      have a3 := bA.c 3 rfl
      have a4 := bA.c 4 rfl
      have a5 := bA.c 5 rfl
      have a6 := bA.c 6 rfl
      go_wp2_with fail
      refine (saok_t _ hp hc HA).mono ?_
      rintro e w2 ⟨rfl, hb⟩
      replace B0 := below_step B0 hb
      clear hb
      go_wp2
      go_ret
      exact ⟨rfl, B0⟩
theorem sent_t {pv cv : Value} {p c : List Int} {a n pe pr bw : Int} {b : Bool} (w : World) (hp : RdI w pv p) (hc : RdI w cv c) (H : Hid (entB a n pe p pr c bw = b)) :
    Calls Try.prog 119 #[.agg #[.int .i64 a, .int .i64 n, .int .i64 pe, pv, .int .i64 pr, cv, .int .i64 bw]] w fun e w' => e = .returned (.bool b) ∧ Below w.heap.size w w' := H.out ▸ sent_any pv cv p c a n pe pr bw w hp hc
theorem ient_any (pv cv : Value) (p c : List Int) (a n pe pr bw : Int) (w : World) (hp : RdI w pv p) (hc : RdI w cv c) :
    Calls Try.prog 124 #[.agg #[.int .i64 a, .int .i64 n, .int .i64 pe, pv, .int .i64 pr, cv, .int .i64 bw]] w fun e w' => e = .returned (.bool (entB a n pe p pr c bw)) ∧ Below w.heap.size w w' := by
  obtain ⟨bA, B0, z⟩ := one w [.int .i64 a, .int .i64 n, .int .i64 pe, pv, .int .i64 pr, cv, .int .i64 bw] EI
  replace hp := hp.keep B0
  replace hc := hc.keep B0
  clear z
  unfold entB
  cases hP : pokB a n
  · rw [Bool.false_and]
    have HP := Lib.hid hP
    clear hP
    go_enter Try.func124, Try.ntmps124
    go_wp2_with fail
    refine (ipok_t _ HP).mono ?_
    rintro e w1 ⟨rfl, hb⟩
    replace bA := bA.keep hb
    replace hp := hp.keep hb
    replace hc := hc.keep hb
    replace B0 := below_step B0 hb
    clear hb
    have a1 := bA.c 1 rfl
    have a2 := bA.c 2 rfl
    have a3 := bA.c 3 rfl
    have a4 := bA.c 4 rfl
    have a5 := bA.c 5 rfl
    have a6 := bA.c 6 rfl
    go_wp2
    go_ret
    exact ⟨rfl, B0⟩
  · rw [Bool.true_and]
    have HP := Lib.hid hP
    clear hP
    cases hI : inB pe (-1) 7
    · rw [Bool.false_and]
      have HI := Lib.hid hI
      clear hI
      go_enter Try.func124, Try.ntmps124
      go_wp2_with fail
      refine (ipok_t _ HP).mono ?_
      rintro e w1 ⟨rfl, hb⟩
      replace bA := bA.keep hb
      replace hp := hp.keep hb
      replace hc := hc.keep hb
      replace B0 := below_step B0 hb
      clear hb
      have a1 := bA.c 1 rfl
      have a2 := bA.c 2 rfl
      have a3 := bA.c 3 rfl
      have a4 := bA.c 4 rfl
      have a5 := bA.c 5 rfl
      have a6 := bA.c 6 rfl
      go_wp2_with fail
      refine (within_7 _ HI).mono ?_
      rintro e w2 ⟨rfl, rfl⟩
      go_wp2
      go_ret
      exact ⟨rfl, B0⟩
    · rw [Bool.true_and]
      have HI := Lib.hid hI
      clear hI
      obtain ⟨r, hA⟩ : ∃ r, aokB p pr c bw = r := ⟨_, rfl⟩
      rw [hA]
      have HA := Lib.hid hA
      clear hA
      go_enter Try.func124, Try.ntmps124
      go_wp2_with fail
      refine (ipok_t _ HP).mono ?_
      rintro e w1 ⟨rfl, hb⟩
      replace bA := bA.keep hb
      replace hp := hp.keep hb
      replace hc := hc.keep hb
      replace B0 := below_step B0 hb
      clear hb
      have a1 := bA.c 1 rfl
      have a2 := bA.c 2 rfl
      have a3 := bA.c 3 rfl
      have a4 := bA.c 4 rfl
      have a5 := bA.c 5 rfl
      have a6 := bA.c 6 rfl
      go_wp2_with fail
      refine (within_7 _ HI).mono ?_
      rintro e w2 ⟨rfl, rfl⟩
      go_wp2_with fail
      refine (iaok_t _ hp hc HA).mono ?_
      rintro e w2 ⟨rfl, hb⟩
      replace B0 := below_step B0 hb
      clear hb
      go_wp2
      go_ret
      exact ⟨rfl, B0⟩
theorem ient_t {pv cv : Value} {p c : List Int} {a n pe pr bw : Int} {b : Bool} (w : World) (hp : RdI w pv p) (hc : RdI w cv c) (H : Hid (entB a n pe p pr c bw = b)) :
    Calls Try.prog 124 #[.agg #[.int .i64 a, .int .i64 n, .int .i64 pe, pv, .int .i64 pr, cv, .int .i64 bw]] w fun e w' => e = .returned (.bool b) ∧ Below w.heap.size w w' := H.out ▸ ient_any pv cv p c a n pe pr bw w hp hc
theorem scmp6_any (pv cv pv2 cv2 : Value) (a n pe pr bw b m qe pr2 bw2 : Int) (w : World) :
    Calls Try.prog 120 #[.agg #[.int .i64 a, .int .i64 n, .int .i64 pe, pv, .int .i64 pr, cv, .int .i64 bw], .agg #[.int .i64 b, .int .i64 m, .int .i64 qe, pv2, .int .i64 pr2, cv2, .int .i64 bw2]] w fun e w' => e = .returned (.int .i64 (ecmp a n pe b m qe)) ∧ Below w.heap.size w w' := by
  obtain ⟨bA, bB, B0, z⟩ := two w [.int .i64 a, .int .i64 n, .int .i64 pe, pv, .int .i64 pr, cv, .int .i64 bw] [.int .i64 b, .int .i64 m, .int .i64 qe, pv2, .int .i64 pr2, cv2, .int .i64 bw2] EI EI
  clear z
  unfold ecmp
  obtain ⟨r, hr⟩ : ∃ r, cmp2 a n b m = r := ⟨_, rfl⟩
  rw [hr]
  have HR := Lib.hid hr
  clear hr
  by_cases h0 : r = 0
  · subst h0
    rw [show orv 0 (cmp1 pe qe) = cmp1 pe qe by simp [orv]]
    go_enter Try.func120, Try.ntmps120
    go_wp2_with fail
    refine (scmp_t _ HR).mono ?_
    rintro e w1 ⟨rfl, hb⟩
    replace bA := bA.keep hb
    replace bB := bB.keep hb
    replace B0 := below_step B0 hb
    clear hb
    have a0 := bA.c 0 rfl
    have a1 := bA.c 1 rfl
    have a2 := bA.c 2 rfl
    have b0 := bB.c 0 rfl
    have b1 := bB.c 1 rfl
    have b2 := bB.c 2 rfl
    go_wp2_with fail
    refine (snum6 pe qe _).mono ?_
    rintro e w2 ⟨rfl, rfl⟩
    go_wp2
    go_ret
    exact ⟨rfl, B0⟩
  · rw [show orv r (cmp1 pe qe) = r by simp [orv, h0]]
    have hne : (r != 0) = true := by simp [h0]
    go_enter Try.func120, Try.ntmps120
    go_wp2_with fail
    refine (scmp_t _ HR).mono ?_
    rintro e w1 ⟨rfl, hb⟩
    replace B0 := below_step B0 hb
    clear hb
    go_wp2
    go_ret
    exact ⟨rfl, B0⟩
theorem icmp6_any (pv cv pv2 cv2 : Value) (a n pe pr bw b m qe pr2 bw2 : Int) (w : World) (r : Int) (HP : Hid (pcmp a n b m = r)) :
    Calls Try.prog 125 #[.agg #[.int .i64 a, .int .i64 n, .int .i64 pe, pv, .int .i64 pr, cv, .int .i64 bw], .agg #[.int .i64 b, .int .i64 m, .int .i64 qe, pv2, .int .i64 pr2, cv2, .int .i64 bw2]] w fun e w' => e = .returned (.int .i64 (orv r (cmp1 pe qe))) ∧ Below w.heap.size w w' := by
  obtain ⟨bA, bB, B0, z⟩ := two w [.int .i64 a, .int .i64 n, .int .i64 pe, pv, .int .i64 pr, cv, .int .i64 bw] [.int .i64 b, .int .i64 m, .int .i64 qe, pv2, .int .i64 pr2, cv2, .int .i64 bw2] EI EI
  clear z
  obtain ⟨V, hV⟩ : ∃ V, V = ((w.alloc (.cells #[.int .i64 a, .int .i64 n, .int .i64 pe, pv, .int .i64 pr, cv, .int .i64 bw] EI)).alloc (.cells #[.int .i64 b, .int .i64 m, .int .i64 qe, pv2, .int .i64 pr2, cv2, .int .i64 bw2] EI)) := ⟨_, rfl⟩
  rw [← hV] at bA bB B0
  go_enter Try.func125, Try.ntmps125
  go_wp2_with fail
  rw [← hV]
  clear hV
  have k0 := bA.c 0 rfl
  have m0 := bB.c 0 rfl
  have k1 := bA.c 1 rfl
  have m1 := bB.c 1 rfl
  have k2 := bA.c 2 rfl
  have m2 := bB.c 2 rfl
  have lA := bA.lt
  have lB := bB.lt
  go_region_held3 (fun w' => Over V w' ∧ w'.cell? ⟨w.heap.size, 0, none⟩ = some (.int .i64 a) ∧ w'.cell? ⟨w.heap.size, 1, none⟩ = some (.int .i64 n) ∧ w'.cell? ⟨w.heap.size, 2, none⟩ = some (.int .i64 pe) ∧ w'.cell? ⟨w.heap.size + 1, 0, none⟩ = some (.int .i64 b) ∧ w'.cell? ⟨w.heap.size + 1, 1, none⟩ = some (.int .i64 m) ∧ w'.cell? ⟨w.heap.size + 1, 2, none⟩ = some (.int .i64 qe))
    ((first | assumption | exact ⟨over_drew _, k0, k1, k2, m0, m1, m2⟩ | exact (fun o => ⟨o, over_cell o lA k0, over_cell o lA k1, over_cell o lA k2, over_cell o lB m0, over_cell o lB m1, over_cell o lB m2⟩) (over_step (by assumption : Over V _ ∧ _).1 (by assumption)) | exact (fun o => ⟨o, over_cell o lA k0, over_cell o lA k1, over_cell o lA k2, over_cell o lB m0, over_cell o lB m1, over_cell o lB m2⟩) (over_step (by assumption : Over V _ ∧ _).1 ((Below.refl _ _).alloc (Nat.le_refl _) _))))
    ((first | (go_at_call 153; refine (icmp_t _ HP).mono ?_; rintro e w3 ⟨rfl, hb3⟩) | (go_at_call 169; refine (compare_any pe qe _).mono ?_; rintro e w4 ⟨rfl, rfl⟩) | (go_at_call 168; refine (or_any r (cmp1 pe qe) _ _ (by simp) (by simp)).mono ?_; rintro e w5 ⟨rfl, rfl⟩)))
  rename_i hH
  replace B0 := below_step B0 hH.1
  go_wp2
  go_ret
  exact ⟨rfl, B0⟩
theorem scmp6_t {pv cv pv2 cv2 : Value} {a n pe pr bw b m qe pr2 bw2 r : Int} (w : World) (H : Hid (ecmp a n pe b m qe = r)) :
    Calls Try.prog 120 #[.agg #[.int .i64 a, .int .i64 n, .int .i64 pe, pv, .int .i64 pr, cv, .int .i64 bw], .agg #[.int .i64 b, .int .i64 m, .int .i64 qe, pv2, .int .i64 pr2, cv2, .int .i64 bw2]] w fun e w' => e = .returned (.int .i64 r) ∧ Below w.heap.size w w' := H.out ▸ scmp6_any pv cv pv2 cv2 a n pe pr bw b m qe pr2 bw2 w
theorem icmp6_t {pv cv pv2 cv2 : Value} {a n pe pr bw b m qe pr2 bw2 r : Int} (w : World) (H : Hid (pcmp a n b m = cmp2 a n b m ∧ ecmp a n pe b m qe = r)) :
    Calls Try.prog 125 #[.agg #[.int .i64 a, .int .i64 n, .int .i64 pe, pv, .int .i64 pr, cv, .int .i64 bw], .agg #[.int .i64 b, .int .i64 m, .int .i64 qe, pv2, .int .i64 pr2, cv2, .int .i64 bw2]] w fun e w' => e = .returned (.int .i64 r) ∧ Below w.heap.size w w' := by
  have h := icmp6_any pv cv pv2 cv2 a n pe pr bw b m qe pr2 bw2 w (cmp2 a n b m) (Lib.hid H.out.1)
  have e := H.out.2
  unfold ecmp at e
  rw [e] at h
  exact h
/-- entry i is valid -/
def okE (L : List Ent) (i : Nat) : Prop := entB (L.getD i e0).a (L.getD i e0).n (L.getD i e0).pe (L.getD i e0).p (L.getD i e0).pr (L.getD i e0).c (L.getD i e0).bw = true
/-- it lies ahead of the next one -/
def upE (L : List Ent) (i : Nat) : Prop := ecmp (L.getD i e0).a (L.getD i e0).n (L.getD i e0).pe (L.getD (i + 1) e0).a (L.getD (i + 1) e0).n (L.getD (i + 1) e0).pe < 0
instance (L : List Ent) (i : Nat) : Decidable (okE L i) := by unfold okE; infer_instance
instance (L : List Ent) (i : Nat) : Decidable (upE L i) := by unfold upE; infer_instance
def tabB (L : List Ent) : Bool := decide ((∀ i, i < L.length → okE L i) ∧ ∀ i, i < L.length - 1 → upE L i)
/-- a table is valid -/
def ribB (L : List Ent) : Bool := decide ((L.length : Int) ≤ 60) && tabB L
theorem tabB_yes {L : List Ent} {n : Nat} (hn : n = L.length) (h : ∀ i, i < n → okE L i) (h2 : ∀ i, i + 1 < n → upE L i) : tabB L = true := by
  subst hn
  simp only [tabB, decide_eq_true_eq]
  exact ⟨h, fun i hi => h2 i (by omega)⟩
theorem tabB_ok {L : List Ent} {k : Nat} {E : Ent} (hk : k < L.length) (hx : L.getD k e0 = E) (h : entB E.a E.n E.pe E.p E.pr E.c E.bw = false) : tabB L = false := by
  simp only [tabB, decide_eq_false_iff_not]
  rintro ⟨h1, -⟩
  have := h1 k hk
  unfold okE at this
  rw [hx] at this
  rw [this] at h
  cases h
theorem tabB_up {L : List Ent} {k : Nat} {F E : Ent} (hk : k + 1 < L.length) (ha : L.getD k e0 = F) (hx : L.getD (k + 1) e0 = E) (h : ¬ ecmp F.a F.n F.pe E.a E.n E.pe < 0) : tabB L = false := by
  simp only [tabB, decide_eq_false_iff_not]
  rintro ⟨-, h1⟩
  have := h1 k (by omega)
  unfold upE at this
  rw [ha, hx] at this
  exact h this
theorem entB_p {a n pe pr bw : Int} {p c : List Int} (h : entB a n pe p pr c bw = true) : pokB a n = true := by
  unfold entB at h
  simp only [Bool.and_eq_true] at h
  exact h.1
set_option maxHeartbeats 1000000 in
theorem srib_any (v : Value) (L : List Ent) (w : World) (h : RdE w v L) :
    Calls Try.prog 61 #[.agg #[v]] w fun e w' => e = .returned (.bool (ribB L)) ∧ Below w.heap.size w w' := by
  unfold ribB
  have hm := h.1
  obtain ⟨a, c, rfl, hc⟩ := h.el
  obtain ⟨n, hn⟩ : ∃ n, n = L.length := ⟨_, rfl⟩
  rw [← hn] at hc hm ⊢
  have HN := Lib.hid hn
  clear h hn
  obtain ⟨bR, B0, z⟩ := one w [.slice a n c] 46
  clear z
  by_cases hbig : (n : Int) ≤ 60
  · rw [show decide ((n : Int) ≤ 60) = true by simp [hbig]]
    have hbig2 : ¬ (60 : Int) < (n : Int) := by omega
    obtain ⟨W1, hW⟩ : ∃ W1, W1 = w.alloc (.cells #[.slice a n c] 46) := ⟨_, rfl⟩
    obtain ⟨R, hR⟩ : ∃ R, R = w.heap.size := ⟨_, rfl⟩
    have hW2 := hW
    go_enter Try.func61, Try.ntmps61
    go_wp2
    rw [← hW2]
    try simp only [← hR]
    rw [← hR] at bR
    rw [← hW2] at bR B0
    clear hW hW2 hR
    go_loopw [3] (fun q wr => ∃ k : Nat, k ≤ n ∧ q = .int .i64 k ∧ (∀ i, i < k → okE L i) ∧ (∀ i, i + 1 < k → upE L i) ∧ Over W1 wr) (fun q _ => n - (intOf q).toNat)
    case atStart => exact ⟨0, Nat.zero_le _, rfl, fun i hi => by omega, fun i hi => by omega, over_refl _⟩
    case round =>
      obtain ⟨k, hk, rfl, hok, hup, hB⟩ := hrel
      have HO := Lib.hid hok
      have HU := Lib.hid hup
      clear hok hup
      replace bR := bR.keep hB
      have r0 := bR.c 0 rfl
      by_cases hlt : k < n
      · have hltI : (k : Int) < (n : Int) := by omega
        obtain ⟨b, o, rfl, hE⟩ := hc k hlt
        obtain ⟨E, hx⟩ : ∃ E, L.getD k e0 = E := ⟨_, rfl⟩
        rw [hx] at hE
        obtain ⟨pv, cv, hp, hq, g0, g1, g2, g3, g4, g5, g6⟩ := hE.keep (below_step B0 hB)
        have HX := Lib.hid hx
        have HCC := Lib.hid hc
        clear hx hc hE
        cases hpk : entB E.a E.n E.pe E.p E.pr E.c E.bw
        · have HP := Lib.hid hpk
          have HF := Lib.hid (tabB_ok (by rw [← HN.out]; exact hlt) HX.out hpk)
          clear hpk
          go_wp2
          refine wp_region_class (C := Over (wr)) (by kernel_rfl) (by kernel_rfl) (over_drew _) ?_
          repeat (first | go_big_quiet_skip | (go_big_quiet_want; go_big_quiet_op; go_big_quiet_on) | (go_big_quiet_want; go_big_quiet_op; apply Exists.intro; refine ⟨fun w' hC => ?_, ?_⟩; ((first | (go_at_call 119; refine (sent_t _ (rdI_over hp hC) (rdI_over hq hC) HP).mono ?_; rintro e w1 ⟨rfl, hb1⟩; exact ⟨rfl, over_step hC hb1⟩))); go_big_quiet_on) | (go_big_quiet_want; apply Exists.intro; refine ⟨fun w' hC => ?_, ?_⟩; (have k0 := over_cell hC bR.lt (bR.c 0 rfl); have k1 := over_cell hC (World.block_lt_of_cell? _ _ g0) g0; have k2 := over_cell hC (World.block_lt_of_cell? _ _ g1) g1; have k3 := over_cell hC (World.block_lt_of_cell? _ _ g2) g2; have k4 := over_cell hC (World.block_lt_of_cell? _ _ g3) g3; have k5 := over_cell hC (World.block_lt_of_cell? _ _ g4) g4; have k6 := over_cell hC (World.block_lt_of_cell? _ _ g5) g5; have k7 := over_cell hC (World.block_lt_of_cell? _ _ g6) g6; simp [Oper.quietAt, Oper.quietUpon, go_sem, k0, k1, k2, k3, k4, k5, k6, k7, hltI, hlt]; first | done | rfl); go_big_quiet_on; simp only [Act.put, List.setIfInBounds_toArray, List.set_cons_zero, List.set_cons_succ]))
          refine wpQuiet_nil ?_
          intro ws hC
          have k0 := over_cell hC bR.lt (bR.c 0 rfl)
          have k1 := over_cell hC (World.block_lt_of_cell? _ _ g0) g0
          have k2 := over_cell hC (World.block_lt_of_cell? _ _ g1) g1
          have k3 := over_cell hC (World.block_lt_of_cell? _ _ g2) g2
          have k4 := over_cell hC (World.block_lt_of_cell? _ _ g3) g3
          have k5 := over_cell hC (World.block_lt_of_cell? _ _ g4) g4
          have k6 := over_cell hC (World.block_lt_of_cell? _ _ g5) g5
          have k7 := over_cell hC (World.block_lt_of_cell? _ _ g6) g6
          go_wp2
          go_ret
          exact ⟨ret_bool (by first | rw [HF.out, Bool.and_false] | rw [HF.out] | simp [HF.out]), below_step B0 (over_step hB hC)⟩
        · have HP := Lib.hid hpk
          have HOK : Hid (∀ i, i < k + 1 → okE L i) := Lib.hid fun i hi => by
            by_cases e : i = k
            · unfold okE; rw [e, HX.out]; exact hpk
            · exact HO.out i (by omega)
          clear hpk
          rcases Nat.eq_zero_or_pos k with rfl | hpos
          · simp only [Nat.zero_mul, Nat.add_zero] at g0 g1 g2 g3 g4 g5 g6
            go_wp2
            refine wp_region_class (C := Over (wr)) (by kernel_rfl) (by kernel_rfl) (over_drew _) ?_
            repeat (first | go_big_quiet_skip | (go_big_quiet_want; go_big_quiet_op; go_big_quiet_on) | (go_big_quiet_want; go_big_quiet_op; apply Exists.intro; refine ⟨fun w' hC => ?_, ?_⟩; ((first | (go_at_call 119; refine (sent_t _ (rdI_over hp hC) (rdI_over hq hC) HP).mono ?_; rintro e w1 ⟨rfl, hb1⟩; exact ⟨rfl, over_step hC hb1⟩))); go_big_quiet_on) | (go_big_quiet_want; apply Exists.intro; refine ⟨fun w' hC => ?_, ?_⟩; (have k0 := over_cell hC bR.lt (bR.c 0 rfl); have k1 := over_cell hC (World.block_lt_of_cell? _ _ g0) g0; have k2 := over_cell hC (World.block_lt_of_cell? _ _ g1) g1; have k3 := over_cell hC (World.block_lt_of_cell? _ _ g2) g2; have k4 := over_cell hC (World.block_lt_of_cell? _ _ g3) g3; have k5 := over_cell hC (World.block_lt_of_cell? _ _ g4) g4; have k6 := over_cell hC (World.block_lt_of_cell? _ _ g5) g5; have k7 := over_cell hC (World.block_lt_of_cell? _ _ g6) g6; simp [Oper.quietAt, Oper.quietUpon, go_sem, k0, k1, k2, k3, k4, k5, k6, k7, hltI, hlt]; first | done | rfl); go_big_quiet_on; simp only [Act.put, List.setIfInBounds_toArray, List.set_cons_zero, List.set_cons_succ]))
            refine wpQuiet_nil ?_
            intro ws hC
            have k0 := over_cell hC bR.lt (bR.c 0 rfl)
            have k1 := over_cell hC (World.block_lt_of_cell? _ _ g0) g0
            have k2 := over_cell hC (World.block_lt_of_cell? _ _ g1) g1
            have k3 := over_cell hC (World.block_lt_of_cell? _ _ g2) g2
            have k4 := over_cell hC (World.block_lt_of_cell? _ _ g3) g3
            have k5 := over_cell hC (World.block_lt_of_cell? _ _ g4) g4
            have k6 := over_cell hC (World.block_lt_of_cell? _ _ g5) g5
            have k7 := over_cell hC (World.block_lt_of_cell? _ _ g6) g6
            go_wp2
            go_roundw
            case rel => exact ⟨0 + 1, by omega, by go_num, HOK.out, fun i hi => by omega, over_step hB hC⟩
            case measure => simp [intOf]; omega
          · obtain ⟨j, rfl⟩ : ∃ j, k = j + 1 := ⟨k - 1, by omega⟩
            obtain ⟨b', o', hbo, hE'⟩ := HCC.out j (by omega)
            obtain ⟨rfl, rfl⟩ : b = b' ∧ o = o' := by simpa using hbo
            clear hbo
            obtain ⟨F, hs⟩ : ∃ F, L.getD j e0 = F := ⟨_, rfl⟩
            rw [hs] at hE'
            obtain ⟨pu, cu, -, -, m0, m1, m2, m3, m4, m5, m6⟩ := hE'.keep (below_step B0 hB)
            have HS := Lib.hid hs
            clear hE' 
            obtain ⟨r, hr⟩ : ∃ r, ecmp F.a F.n F.pe E.a E.n E.pe = r := ⟨_, rfl⟩
            have HR := Lib.hid hr
            clear hs hr
            by_cases hneg : r < 0
            · have HUP : Hid (∀ i, i + 1 < j + 1 + 1 → upE L i) := Lib.hid fun i hi => by
                by_cases e : i = j
                · unfold upE; rw [e, HS.out, HX.out, HR.out]; exact hneg
                · exact HU.out i (by omega)
              have hwj : IntKind.i64.wrap (j : Int) = j := wrap64_in _ (by omega) (by omega)
              have hjI : (j : Int) < (n : Int) := by omega
              have hjN : j < n := by omega
              have hkJ : (j : Int) + 1 < (n : Int) := by omega
              have hkT : ((j : Int) + 1).toNat = j + 1 := by omega
              have hk0 : (0 : Int) ≤ (j : Int) + 1 := by omega
              go_wp2
              refine wp_region_class (C := Over (wr)) (by kernel_rfl) (by kernel_rfl) (over_drew _) ?_
              repeat (first | go_big_quiet_skip | (go_big_quiet_want; go_big_quiet_op; go_big_quiet_on) | (go_big_quiet_want; go_big_quiet_op; apply Exists.intro; refine ⟨fun w' hC => ?_, ?_⟩; ((first | (go_at_call 119; refine (sent_t _ (rdI_over hp hC) (rdI_over hq hC) HP).mono ?_; rintro e w1 ⟨rfl, hb1⟩; exact ⟨rfl, over_step hC hb1⟩) | (go_at_call 120; refine (scmp6_t _ HR).mono ?_; rintro e w1 ⟨rfl, hb1⟩; exact ⟨rfl, over_step hC hb1⟩))); go_big_quiet_on) | (go_big_quiet_want; apply Exists.intro; refine ⟨fun w' hC => ?_, ?_⟩; (have k0 := over_cell hC bR.lt (bR.c 0 rfl); have k1 := over_cell hC (World.block_lt_of_cell? _ _ g0) g0; have k2 := over_cell hC (World.block_lt_of_cell? _ _ g1) g1; have k3 := over_cell hC (World.block_lt_of_cell? _ _ g2) g2; have k4 := over_cell hC (World.block_lt_of_cell? _ _ g3) g3; have k5 := over_cell hC (World.block_lt_of_cell? _ _ g4) g4; have k6 := over_cell hC (World.block_lt_of_cell? _ _ g5) g5; have k7 := over_cell hC (World.block_lt_of_cell? _ _ g6) g6; have k8 := over_cell hC (World.block_lt_of_cell? _ _ m0) m0; have k9 := over_cell hC (World.block_lt_of_cell? _ _ m1) m1; have k10 := over_cell hC (World.block_lt_of_cell? _ _ m2) m2; have k11 := over_cell hC (World.block_lt_of_cell? _ _ m3) m3; have k12 := over_cell hC (World.block_lt_of_cell? _ _ m4) m4; have k13 := over_cell hC (World.block_lt_of_cell? _ _ m5) m5; have k14 := over_cell hC (World.block_lt_of_cell? _ _ m6) m6; simp [Oper.quietAt, Oper.quietUpon, go_sem, k0, k1, k2, k3, k4, k5, k6, k7, k8, k9, k10, k11, k12, k13, k14, hltI, hlt, hwj, hjI, hjN, hkJ, hkT, hk0]; first | done | rfl); go_big_quiet_on; simp only [Act.put, List.setIfInBounds_toArray, List.set_cons_zero, List.set_cons_succ]))
              refine wpQuiet_nil ?_
              intro ws hC
              have k0 := over_cell hC bR.lt (bR.c 0 rfl)
              have k1 := over_cell hC (World.block_lt_of_cell? _ _ g0) g0
              have k2 := over_cell hC (World.block_lt_of_cell? _ _ g1) g1
              have k3 := over_cell hC (World.block_lt_of_cell? _ _ g2) g2
              have k4 := over_cell hC (World.block_lt_of_cell? _ _ g3) g3
              have k5 := over_cell hC (World.block_lt_of_cell? _ _ g4) g4
              have k6 := over_cell hC (World.block_lt_of_cell? _ _ g5) g5
              have k7 := over_cell hC (World.block_lt_of_cell? _ _ g6) g6
              have k8 := over_cell hC (World.block_lt_of_cell? _ _ m0) m0
              have k9 := over_cell hC (World.block_lt_of_cell? _ _ m1) m1
              have k10 := over_cell hC (World.block_lt_of_cell? _ _ m2) m2
              have k11 := over_cell hC (World.block_lt_of_cell? _ _ m3) m3
              have k12 := over_cell hC (World.block_lt_of_cell? _ _ m4) m4
              have k13 := over_cell hC (World.block_lt_of_cell? _ _ m5) m5
              have k14 := over_cell hC (World.block_lt_of_cell? _ _ m6) m6
              go_wp2
              go_roundw
              case rel => exact ⟨j + 1 + 1, by omega, by go_num, HOK.out, HUP.out, over_step hB hC⟩
              case measure => simp [intOf]; omega
            · have HF := Lib.hid (tabB_up (by rw [← HN.out]; exact hlt) HS.out HX.out (by rw [HR.out]; exact hneg))
              have hwj : IntKind.i64.wrap (j : Int) = j := wrap64_in _ (by omega) (by omega)
              have hjI : (j : Int) < (n : Int) := by omega
              have hjN : j < n := by omega
              have hkJ : (j : Int) + 1 < (n : Int) := by omega
              have hkT : ((j : Int) + 1).toNat = j + 1 := by omega
              have hk0 : (0 : Int) ≤ (j : Int) + 1 := by omega
              go_wp2
              refine wp_region_class (C := Over (wr)) (by kernel_rfl) (by kernel_rfl) (over_drew _) ?_
              repeat (first | go_big_quiet_skip | (go_big_quiet_want; go_big_quiet_op; go_big_quiet_on) | (go_big_quiet_want; go_big_quiet_op; apply Exists.intro; refine ⟨fun w' hC => ?_, ?_⟩; ((first | (go_at_call 119; refine (sent_t _ (rdI_over hp hC) (rdI_over hq hC) HP).mono ?_; rintro e w1 ⟨rfl, hb1⟩; exact ⟨rfl, over_step hC hb1⟩) | (go_at_call 120; refine (scmp6_t _ HR).mono ?_; rintro e w1 ⟨rfl, hb1⟩; exact ⟨rfl, over_step hC hb1⟩))); go_big_quiet_on) | (go_big_quiet_want; apply Exists.intro; refine ⟨fun w' hC => ?_, ?_⟩; (have k0 := over_cell hC bR.lt (bR.c 0 rfl); have k1 := over_cell hC (World.block_lt_of_cell? _ _ g0) g0; have k2 := over_cell hC (World.block_lt_of_cell? _ _ g1) g1; have k3 := over_cell hC (World.block_lt_of_cell? _ _ g2) g2; have k4 := over_cell hC (World.block_lt_of_cell? _ _ g3) g3; have k5 := over_cell hC (World.block_lt_of_cell? _ _ g4) g4; have k6 := over_cell hC (World.block_lt_of_cell? _ _ g5) g5; have k7 := over_cell hC (World.block_lt_of_cell? _ _ g6) g6; have k8 := over_cell hC (World.block_lt_of_cell? _ _ m0) m0; have k9 := over_cell hC (World.block_lt_of_cell? _ _ m1) m1; have k10 := over_cell hC (World.block_lt_of_cell? _ _ m2) m2; have k11 := over_cell hC (World.block_lt_of_cell? _ _ m3) m3; have k12 := over_cell hC (World.block_lt_of_cell? _ _ m4) m4; have k13 := over_cell hC (World.block_lt_of_cell? _ _ m5) m5; have k14 := over_cell hC (World.block_lt_of_cell? _ _ m6) m6; simp [Oper.quietAt, Oper.quietUpon, go_sem, k0, k1, k2, k3, k4, k5, k6, k7, k8, k9, k10, k11, k12, k13, k14, hltI, hlt, hwj, hjI, hjN, hkJ, hkT, hk0]; first | done | rfl); go_big_quiet_on; simp only [Act.put, List.setIfInBounds_toArray, List.set_cons_zero, List.set_cons_succ]))
              refine wpQuiet_nil ?_
              intro ws hC
              have k0 := over_cell hC bR.lt (bR.c 0 rfl)
              have k1 := over_cell hC (World.block_lt_of_cell? _ _ g0) g0
              have k2 := over_cell hC (World.block_lt_of_cell? _ _ g1) g1
              have k3 := over_cell hC (World.block_lt_of_cell? _ _ g2) g2
              have k4 := over_cell hC (World.block_lt_of_cell? _ _ g3) g3
              have k5 := over_cell hC (World.block_lt_of_cell? _ _ g4) g4
              have k6 := over_cell hC (World.block_lt_of_cell? _ _ g5) g5
              have k7 := over_cell hC (World.block_lt_of_cell? _ _ g6) g6
              have k8 := over_cell hC (World.block_lt_of_cell? _ _ m0) m0
              have k9 := over_cell hC (World.block_lt_of_cell? _ _ m1) m1
              have k10 := over_cell hC (World.block_lt_of_cell? _ _ m2) m2
              have k11 := over_cell hC (World.block_lt_of_cell? _ _ m3) m3
              have k12 := over_cell hC (World.block_lt_of_cell? _ _ m4) m4
              have k13 := over_cell hC (World.block_lt_of_cell? _ _ m5) m5
              have k14 := over_cell hC (World.block_lt_of_cell? _ _ m6) m6
              go_wp2
              go_ret
              exact ⟨ret_bool (by first | rw [HF.out, Bool.and_false] | rw [HF.out] | simp [HF.out]), below_step B0 (over_step hB hC)⟩
      · have hkn : k = n := by omega
        subst hkn
        have HF := Lib.hid (tabB_yes HN.out HO.out HU.out)
        clear hc
        have r0 := bR.c 0 rfl
        go_wp2
        go_ret
        exact ⟨ret_bool (by first | rw [HF.out, Bool.and_true] | rw [HF.out] | simp [HF.out]), below_step B0 hB⟩
  · have e : (decide ((n : Int) ≤ 60) && tabB L) = false := by simp [hbig]
    have hbig2 : (60 : Int) < (n : Int) := by omega
    rw [e]
    clear e
    go_enter Try.func61, Try.ntmps61
    go_wp2
    go_ret
    exact ⟨rfl, B0⟩
set_option maxHeartbeats 1000000 in
theorem irib_any (v : Value) (L : List Ent) (w : World) (h : RdE w v L) :
    Calls Try.prog 65 #[.agg #[v]] w fun e w' => e = .returned (.bool (ribB L)) ∧ Below w.heap.size w w' := by
  unfold ribB
  have hm := h.1
  obtain ⟨a, c, rfl, hc⟩ := h.el
  obtain ⟨n, hn⟩ : ∃ n, n = L.length := ⟨_, rfl⟩
  rw [← hn] at hc hm ⊢
  have HN := Lib.hid hn
  clear h hn
  obtain ⟨bR, B0, z⟩ := one w [.slice a n c] 46
  clear z
  by_cases hbig : (n : Int) ≤ 60
  · rw [show decide ((n : Int) ≤ 60) = true by simp [hbig]]
    have hbig2 : ¬ (60 : Int) < (n : Int) := by omega
    obtain ⟨W1, hW⟩ : ∃ W1, W1 = w.alloc (.cells #[.slice a n c] 46) := ⟨_, rfl⟩
    obtain ⟨R, hR⟩ : ∃ R, R = w.heap.size := ⟨_, rfl⟩
    have hW2 := hW
    go_enter Try.func65, Try.ntmps65
    go_wp2
    rw [← hW2]
    try simp only [← hR]
    rw [← hR] at bR
    rw [← hW2] at bR B0
    clear hW hW2 hR
    go_loopw [12] (fun q wr => ∃ k : Nat, k ≤ n ∧ q = .int .i64 k ∧ (∀ i, i < k → okE L i) ∧ (∀ i, i + 1 < k → upE L i) ∧ Over W1 wr) (fun q _ => n - (intOf q).toNat)
    case atStart => exact ⟨0, Nat.zero_le _, rfl, fun i hi => by omega, fun i hi => by omega, over_refl _⟩
    case round =>
      obtain ⟨k, hk, rfl, hok, hup, hB⟩ := hrel
      have HO := Lib.hid hok
      have HU := Lib.hid hup
      clear hok hup
      replace bR := bR.keep hB
      have r0 := bR.c 0 rfl
      by_cases hlt : k < n
      · have hltI : (k : Int) < (n : Int) := by omega
        obtain ⟨b, o, rfl, hE⟩ := hc k hlt
        obtain ⟨E, hx⟩ : ∃ E, L.getD k e0 = E := ⟨_, rfl⟩
        rw [hx] at hE
        obtain ⟨pv, cv, hp, hq, g0, g1, g2, g3, g4, g5, g6⟩ := hE.keep (below_step B0 hB)
        have HX := Lib.hid hx
        have HCC := Lib.hid hc
        clear hx hc hE
        obtain ⟨pa, px, rfl⟩ := hp.len
        obtain ⟨qa, qx, rfl⟩ := hq.len
        cases hpk : entB E.a E.n E.pe E.p E.pr E.c E.bw
        · have HP := Lib.hid hpk
          have HF := Lib.hid (tabB_ok (by rw [← HN.out]; exact hlt) HX.out hpk)
          clear hpk
          have bP := Bl.new wr [.int .i64 E.a, .int .i64 E.n, .int .i64 E.pe, .slice pa E.p.length px, .int .i64 E.pr, .slice qa E.c.length qx, .int .i64 E.bw] EI wr.heap.size rfl
          have hB2 : Over W1 (wr.alloc (.cells #[.int .i64 E.a, .int .i64 E.n, .int .i64 E.pe, .slice pa E.p.length px, .int .i64 E.pr, .slice qa E.c.length qx, .int .i64 E.bw] EI)) := over_alloc hB _
          replace bR := bR.alloc (.cells #[.int .i64 E.a, .int .i64 E.n, .int .i64 E.pe, .slice pa E.p.length px, .int .i64 E.pr, .slice qa E.c.length qx, .int .i64 E.bw] EI)
          replace hp := hp.alloc (.cells #[.int .i64 E.a, .int .i64 E.n, .int .i64 E.pe, .slice pa E.p.length px, .int .i64 E.pr, .slice qa E.c.length qx, .int .i64 E.bw] EI)
          replace hq := hq.alloc (.cells #[.int .i64 E.a, .int .i64 E.n, .int .i64 E.pe, .slice pa E.p.length px, .int .i64 E.pr, .slice qa E.c.length qx, .int .i64 E.bw] EI)
          go_wp2
          refine wp_region_class (C := Over ((wr.alloc (.cells #[.int .i64 E.a, .int .i64 E.n, .int .i64 E.pe, .slice pa E.p.length px, .int .i64 E.pr, .slice qa E.c.length qx, .int .i64 E.bw] EI)))) (by kernel_rfl) (by kernel_rfl) (over_drew _) ?_
          repeat (first | go_big_quiet_skip | (go_big_quiet_want; go_big_quiet_op; go_big_quiet_on) | (go_big_quiet_want; go_big_quiet_op; apply Exists.intro; refine ⟨fun w' hC => ?_, ?_⟩; ((first | (go_at_call 124; refine (ient_t _ (rdI_over hp hC) (rdI_over hq hC) HP).mono ?_; rintro e w1 ⟨rfl, hb1⟩; exact ⟨rfl, over_step hC hb1⟩))); go_big_quiet_on) | (go_big_quiet_want; apply Exists.intro; refine ⟨fun w' hC => ?_, ?_⟩; (have k0 := over_cell hC bP.lt (bP.c 0 rfl); have k1 := over_cell hC bP.lt (bP.c 1 rfl); have k2 := over_cell hC bP.lt (bP.c 2 rfl); have k3 := over_cell hC bP.lt (bP.c 3 rfl); have k4 := over_cell hC bP.lt (bP.c 4 rfl); have k5 := over_cell hC bP.lt (bP.c 5 rfl); have k6 := over_cell hC bP.lt (bP.c 6 rfl); have k7 := over_cell hC bR.lt (bR.c 0 rfl); simp [Oper.quietAt, Oper.quietUpon, go_sem, k0, k1, k2, k3, k4, k5, k6, k7]; first | done | rfl); go_big_quiet_on; simp only [Act.put, List.setIfInBounds_toArray, List.set_cons_zero, List.set_cons_succ]))
          refine wpQuiet_nil ?_
          intro ws hC
          have k0 := over_cell hC bP.lt (bP.c 0 rfl)
          have k1 := over_cell hC bP.lt (bP.c 1 rfl)
          have k2 := over_cell hC bP.lt (bP.c 2 rfl)
          have k3 := over_cell hC bP.lt (bP.c 3 rfl)
          have k4 := over_cell hC bP.lt (bP.c 4 rfl)
          have k5 := over_cell hC bP.lt (bP.c 5 rfl)
          have k6 := over_cell hC bP.lt (bP.c 6 rfl)
          have k7 := over_cell hC bR.lt (bR.c 0 rfl)
          go_wp2
          go_ret
          exact ⟨ret_bool (by first | rw [HF.out, Bool.and_false] | rw [HF.out] | simp [HF.out]), below_step B0 (over_step hB2 hC)⟩
        · have HP := Lib.hid hpk
          have HOK : Hid (∀ i, i < k + 1 → okE L i) := Lib.hid fun i hi => by
            by_cases e : i = k
            · unfold okE; rw [e, HX.out]; exact hpk
            · exact HO.out i (by omega)
          clear hpk
          rcases Nat.eq_zero_or_pos k with rfl | hpos
          · simp only [Nat.zero_mul, Nat.add_zero] at g0 g1 g2 g3 g4 g5 g6
            have bP := Bl.new wr [.int .i64 E.a, .int .i64 E.n, .int .i64 E.pe, .slice pa E.p.length px, .int .i64 E.pr, .slice qa E.c.length qx, .int .i64 E.bw] EI wr.heap.size rfl
            have hB2 : Over W1 (wr.alloc (.cells #[.int .i64 E.a, .int .i64 E.n, .int .i64 E.pe, .slice pa E.p.length px, .int .i64 E.pr, .slice qa E.c.length qx, .int .i64 E.bw] EI)) := over_alloc hB _
            replace bR := bR.alloc (.cells #[.int .i64 E.a, .int .i64 E.n, .int .i64 E.pe, .slice pa E.p.length px, .int .i64 E.pr, .slice qa E.c.length qx, .int .i64 E.bw] EI)
            replace hp := hp.alloc (.cells #[.int .i64 E.a, .int .i64 E.n, .int .i64 E.pe, .slice pa E.p.length px, .int .i64 E.pr, .slice qa E.c.length qx, .int .i64 E.bw] EI)
            replace hq := hq.alloc (.cells #[.int .i64 E.a, .int .i64 E.n, .int .i64 E.pe, .slice pa E.p.length px, .int .i64 E.pr, .slice qa E.c.length qx, .int .i64 E.bw] EI)
            go_wp2
            refine wp_region_class (C := Over ((wr.alloc (.cells #[.int .i64 E.a, .int .i64 E.n, .int .i64 E.pe, .slice pa E.p.length px, .int .i64 E.pr, .slice qa E.c.length qx, .int .i64 E.bw] EI)))) (by kernel_rfl) (by kernel_rfl) (over_drew _) ?_
            repeat (first | go_big_quiet_skip | (go_big_quiet_want; go_big_quiet_op; go_big_quiet_on) | (go_big_quiet_want; go_big_quiet_op; apply Exists.intro; refine ⟨fun w' hC => ?_, ?_⟩; ((first | (go_at_call 124; refine (ient_t _ (rdI_over hp hC) (rdI_over hq hC) HP).mono ?_; rintro e w1 ⟨rfl, hb1⟩; exact ⟨rfl, over_step hC hb1⟩))); go_big_quiet_on) | (go_big_quiet_want; apply Exists.intro; refine ⟨fun w' hC => ?_, ?_⟩; (have k0 := over_cell hC bP.lt (bP.c 0 rfl); have k1 := over_cell hC bP.lt (bP.c 1 rfl); have k2 := over_cell hC bP.lt (bP.c 2 rfl); have k3 := over_cell hC bP.lt (bP.c 3 rfl); have k4 := over_cell hC bP.lt (bP.c 4 rfl); have k5 := over_cell hC bP.lt (bP.c 5 rfl); have k6 := over_cell hC bP.lt (bP.c 6 rfl); have k7 := over_cell hC bR.lt (bR.c 0 rfl); simp [Oper.quietAt, Oper.quietUpon, go_sem, k0, k1, k2, k3, k4, k5, k6, k7]; first | done | rfl); go_big_quiet_on; simp only [Act.put, List.setIfInBounds_toArray, List.set_cons_zero, List.set_cons_succ]))
            refine wpQuiet_nil ?_
            intro ws hC
            have k0 := over_cell hC bP.lt (bP.c 0 rfl)
            have k1 := over_cell hC bP.lt (bP.c 1 rfl)
            have k2 := over_cell hC bP.lt (bP.c 2 rfl)
            have k3 := over_cell hC bP.lt (bP.c 3 rfl)
            have k4 := over_cell hC bP.lt (bP.c 4 rfl)
            have k5 := over_cell hC bP.lt (bP.c 5 rfl)
            have k6 := over_cell hC bP.lt (bP.c 6 rfl)
            have k7 := over_cell hC bR.lt (bR.c 0 rfl)
            go_wp2
            go_roundw
            case rel => exact ⟨0 + 1, by omega, by go_num, HOK.out, fun i hi => by omega, over_step hB2 hC⟩
            case measure => simp [intOf]; omega
          · obtain ⟨j, rfl⟩ : ∃ j, k = j + 1 := ⟨k - 1, by omega⟩
            obtain ⟨b', o', hbo, hE'⟩ := HCC.out j (by omega)
            obtain ⟨rfl, rfl⟩ : b = b' ∧ o = o' := by simpa using hbo
            clear hbo
            obtain ⟨F, hs⟩ : ∃ F, L.getD j e0 = F := ⟨_, rfl⟩
            rw [hs] at hE'
            obtain ⟨pu, cu, -, -, m0, m1, m2, m3, m4, m5, m6⟩ := hE'.keep (below_step B0 hB)
            have HS := Lib.hid hs
            clear hE' hs
            have h1 := HO.out j (by omega)
            unfold okE at h1
            rw [HS.out] at h1
            have h2 := HP.out
            have hr0 : pcmp F.a F.n E.a E.n = cmp2 F.a F.n E.a E.n := by
              unfold pcmp
              rw [entB_p h1, entB_p h2]
              rfl
            obtain ⟨r, hr⟩ : ∃ r, ecmp F.a F.n F.pe E.a E.n E.pe = r := ⟨_, rfl⟩
            have HR := Lib.hid (And.intro hr0 hr)
            clear hr hr0 h1 h2
            by_cases hneg : r < 0
            · have HUP : Hid (∀ i, i + 1 < j + 1 + 1 → upE L i) := Lib.hid fun i hi => by
                by_cases e : i = j
                · unfold upE; rw [e, HS.out, HX.out, HR.out.2]; exact hneg
                · exact HU.out i (by omega)
              have bP := Bl.new wr [.int .i64 E.a, .int .i64 E.n, .int .i64 E.pe, .slice pa E.p.length px, .int .i64 E.pr, .slice qa E.c.length qx, .int .i64 E.bw] EI wr.heap.size rfl
              have hB2 : Over W1 (wr.alloc (.cells #[.int .i64 E.a, .int .i64 E.n, .int .i64 E.pe, .slice pa E.p.length px, .int .i64 E.pr, .slice qa E.c.length qx, .int .i64 E.bw] EI)) := over_alloc hB _
              replace bR := bR.alloc (.cells #[.int .i64 E.a, .int .i64 E.n, .int .i64 E.pe, .slice pa E.p.length px, .int .i64 E.pr, .slice qa E.c.length qx, .int .i64 E.bw] EI)
              replace hp := hp.alloc (.cells #[.int .i64 E.a, .int .i64 E.n, .int .i64 E.pe, .slice pa E.p.length px, .int .i64 E.pr, .slice qa E.c.length qx, .int .i64 E.bw] EI)
              replace hq := hq.alloc (.cells #[.int .i64 E.a, .int .i64 E.n, .int .i64 E.pe, .slice pa E.p.length px, .int .i64 E.pr, .slice qa E.c.length qx, .int .i64 E.bw] EI)
              replace m0 := cell_keep ((Below.refl _ _).alloc (Nat.le_refl _) (.cells #[.int .i64 E.a, .int .i64 E.n, .int .i64 E.pe, .slice pa E.p.length px, .int .i64 E.pr, .slice qa E.c.length qx, .int .i64 E.bw] EI)) (World.block_lt_of_cell? wr _ m0) m0
              replace m1 := cell_keep ((Below.refl _ _).alloc (Nat.le_refl _) (.cells #[.int .i64 E.a, .int .i64 E.n, .int .i64 E.pe, .slice pa E.p.length px, .int .i64 E.pr, .slice qa E.c.length qx, .int .i64 E.bw] EI)) (World.block_lt_of_cell? wr _ m1) m1
              replace m2 := cell_keep ((Below.refl _ _).alloc (Nat.le_refl _) (.cells #[.int .i64 E.a, .int .i64 E.n, .int .i64 E.pe, .slice pa E.p.length px, .int .i64 E.pr, .slice qa E.c.length qx, .int .i64 E.bw] EI)) (World.block_lt_of_cell? wr _ m2) m2
              replace m3 := cell_keep ((Below.refl _ _).alloc (Nat.le_refl _) (.cells #[.int .i64 E.a, .int .i64 E.n, .int .i64 E.pe, .slice pa E.p.length px, .int .i64 E.pr, .slice qa E.c.length qx, .int .i64 E.bw] EI)) (World.block_lt_of_cell? wr _ m3) m3
              replace m4 := cell_keep ((Below.refl _ _).alloc (Nat.le_refl _) (.cells #[.int .i64 E.a, .int .i64 E.n, .int .i64 E.pe, .slice pa E.p.length px, .int .i64 E.pr, .slice qa E.c.length qx, .int .i64 E.bw] EI)) (World.block_lt_of_cell? wr _ m4) m4
              replace m5 := cell_keep ((Below.refl _ _).alloc (Nat.le_refl _) (.cells #[.int .i64 E.a, .int .i64 E.n, .int .i64 E.pe, .slice pa E.p.length px, .int .i64 E.pr, .slice qa E.c.length qx, .int .i64 E.bw] EI)) (World.block_lt_of_cell? wr _ m5) m5
              replace m6 := cell_keep ((Below.refl _ _).alloc (Nat.le_refl _) (.cells #[.int .i64 E.a, .int .i64 E.n, .int .i64 E.pe, .slice pa E.p.length px, .int .i64 E.pr, .slice qa E.c.length qx, .int .i64 E.bw] EI)) (World.block_lt_of_cell? wr _ m6) m6
              have hwj : IntKind.i64.wrap (j : Int) = j := wrap64_in _ (by omega) (by omega)
              have hjI : (j : Int) < (n : Int) := by omega
              have hjN : j < n := by omega
              go_wp2
              refine wp_region_class (C := Over ((wr.alloc (.cells #[.int .i64 E.a, .int .i64 E.n, .int .i64 E.pe, .slice pa E.p.length px, .int .i64 E.pr, .slice qa E.c.length qx, .int .i64 E.bw] EI)))) (by kernel_rfl) (by kernel_rfl) (over_drew _) ?_
              repeat (first | go_big_quiet_skip | (go_big_quiet_want; go_big_quiet_op; go_big_quiet_on) | (go_big_quiet_want; go_big_quiet_op; apply Exists.intro; refine ⟨fun w' hC => ?_, ?_⟩; ((first | (go_at_call 124; refine (ient_t _ (rdI_over hp hC) (rdI_over hq hC) HP).mono ?_; rintro e w1 ⟨rfl, hb1⟩; exact ⟨rfl, over_step hC hb1⟩) | (go_at_call 125; refine (icmp6_t _ HR).mono ?_; rintro e w1 ⟨rfl, hb1⟩; exact ⟨rfl, over_step hC hb1⟩))); go_big_quiet_on) | (go_big_quiet_want; apply Exists.intro; refine ⟨fun w' hC => ?_, ?_⟩; (have k0 := over_cell hC bP.lt (bP.c 0 rfl); have k1 := over_cell hC bP.lt (bP.c 1 rfl); have k2 := over_cell hC bP.lt (bP.c 2 rfl); have k3 := over_cell hC bP.lt (bP.c 3 rfl); have k4 := over_cell hC bP.lt (bP.c 4 rfl); have k5 := over_cell hC bP.lt (bP.c 5 rfl); have k6 := over_cell hC bP.lt (bP.c 6 rfl); have k7 := over_cell hC bR.lt (bR.c 0 rfl); have k8 := over_cell hC (World.block_lt_of_cell? _ _ m0) m0; have k9 := over_cell hC (World.block_lt_of_cell? _ _ m1) m1; have k10 := over_cell hC (World.block_lt_of_cell? _ _ m2) m2; have k11 := over_cell hC (World.block_lt_of_cell? _ _ m3) m3; have k12 := over_cell hC (World.block_lt_of_cell? _ _ m4) m4; have k13 := over_cell hC (World.block_lt_of_cell? _ _ m5) m5; have k14 := over_cell hC (World.block_lt_of_cell? _ _ m6) m6; simp [Oper.quietAt, Oper.quietUpon, go_sem, k0, k1, k2, k3, k4, k5, k6, k7, k8, k9, k10, k11, k12, k13, k14, hwj, hjI, hjN]; first | done | rfl); go_big_quiet_on; simp only [Act.put, List.setIfInBounds_toArray, List.set_cons_zero, List.set_cons_succ]))
              refine wpQuiet_nil ?_
              intro ws hC
              have k0 := over_cell hC bP.lt (bP.c 0 rfl)
              have k1 := over_cell hC bP.lt (bP.c 1 rfl)
              have k2 := over_cell hC bP.lt (bP.c 2 rfl)
              have k3 := over_cell hC bP.lt (bP.c 3 rfl)
              have k4 := over_cell hC bP.lt (bP.c 4 rfl)
              have k5 := over_cell hC bP.lt (bP.c 5 rfl)
              have k6 := over_cell hC bP.lt (bP.c 6 rfl)
              have k7 := over_cell hC bR.lt (bR.c 0 rfl)
              have k8 := over_cell hC (World.block_lt_of_cell? _ _ m0) m0
              have k9 := over_cell hC (World.block_lt_of_cell? _ _ m1) m1
              have k10 := over_cell hC (World.block_lt_of_cell? _ _ m2) m2
              have k11 := over_cell hC (World.block_lt_of_cell? _ _ m3) m3
              have k12 := over_cell hC (World.block_lt_of_cell? _ _ m4) m4
              have k13 := over_cell hC (World.block_lt_of_cell? _ _ m5) m5
              have k14 := over_cell hC (World.block_lt_of_cell? _ _ m6) m6
              go_wp2
              go_roundw
              case rel => exact ⟨j + 1 + 1, by omega, by go_num, HOK.out, HUP.out, over_step hB2 hC⟩
              case measure => simp [intOf]; omega
            · have HF := Lib.hid (tabB_up (by rw [← HN.out]; exact hlt) HS.out HX.out (by rw [HR.out.2]; exact hneg))
              have bP := Bl.new wr [.int .i64 E.a, .int .i64 E.n, .int .i64 E.pe, .slice pa E.p.length px, .int .i64 E.pr, .slice qa E.c.length qx, .int .i64 E.bw] EI wr.heap.size rfl
              have hB2 : Over W1 (wr.alloc (.cells #[.int .i64 E.a, .int .i64 E.n, .int .i64 E.pe, .slice pa E.p.length px, .int .i64 E.pr, .slice qa E.c.length qx, .int .i64 E.bw] EI)) := over_alloc hB _
              replace bR := bR.alloc (.cells #[.int .i64 E.a, .int .i64 E.n, .int .i64 E.pe, .slice pa E.p.length px, .int .i64 E.pr, .slice qa E.c.length qx, .int .i64 E.bw] EI)
              replace hp := hp.alloc (.cells #[.int .i64 E.a, .int .i64 E.n, .int .i64 E.pe, .slice pa E.p.length px, .int .i64 E.pr, .slice qa E.c.length qx, .int .i64 E.bw] EI)
              replace hq := hq.alloc (.cells #[.int .i64 E.a, .int .i64 E.n, .int .i64 E.pe, .slice pa E.p.length px, .int .i64 E.pr, .slice qa E.c.length qx, .int .i64 E.bw] EI)
              replace m0 := cell_keep ((Below.refl _ _).alloc (Nat.le_refl _) (.cells #[.int .i64 E.a, .int .i64 E.n, .int .i64 E.pe, .slice pa E.p.length px, .int .i64 E.pr, .slice qa E.c.length qx, .int .i64 E.bw] EI)) (World.block_lt_of_cell? wr _ m0) m0
              replace m1 := cell_keep ((Below.refl _ _).alloc (Nat.le_refl _) (.cells #[.int .i64 E.a, .int .i64 E.n, .int .i64 E.pe, .slice pa E.p.length px, .int .i64 E.pr, .slice qa E.c.length qx, .int .i64 E.bw] EI)) (World.block_lt_of_cell? wr _ m1) m1
              replace m2 := cell_keep ((Below.refl _ _).alloc (Nat.le_refl _) (.cells #[.int .i64 E.a, .int .i64 E.n, .int .i64 E.pe, .slice pa E.p.length px, .int .i64 E.pr, .slice qa E.c.length qx, .int .i64 E.bw] EI)) (World.block_lt_of_cell? wr _ m2) m2
              replace m3 := cell_keep ((Below.refl _ _).alloc (Nat.le_refl _) (.cells #[.int .i64 E.a, .int .i64 E.n, .int .i64 E.pe, .slice pa E.p.length px, .int .i64 E.pr, .slice qa E.c.length qx, .int .i64 E.bw] EI)) (World.block_lt_of_cell? wr _ m3) m3
              replace m4 := cell_keep ((Below.refl _ _).alloc (Nat.le_refl _) (.cells #[.int .i64 E.a, .int .i64 E.n, .int .i64 E.pe, .slice pa E.p.length px, .int .i64 E.pr, .slice qa E.c.length qx, .int .i64 E.bw] EI)) (World.block_lt_of_cell? wr _ m4) m4
              replace m5 := cell_keep ((Below.refl _ _).alloc (Nat.le_refl _) (.cells #[.int .i64 E.a, .int .i64 E.n, .int .i64 E.pe, .slice pa E.p.length px, .int .i64 E.pr, .slice qa E.c.length qx, .int .i64 E.bw] EI)) (World.block_lt_of_cell? wr _ m5) m5
              replace m6 := cell_keep ((Below.refl _ _).alloc (Nat.le_refl _) (.cells #[.int .i64 E.a, .int .i64 E.n, .int .i64 E.pe, .slice pa E.p.length px, .int .i64 E.pr, .slice qa E.c.length qx, .int .i64 E.bw] EI)) (World.block_lt_of_cell? wr _ m6) m6
              have hwj : IntKind.i64.wrap (j : Int) = j := wrap64_in _ (by omega) (by omega)
              have hjI : (j : Int) < (n : Int) := by omega
              have hjN : j < n := by omega
              go_wp2
              refine wp_region_class (C := Over ((wr.alloc (.cells #[.int .i64 E.a, .int .i64 E.n, .int .i64 E.pe, .slice pa E.p.length px, .int .i64 E.pr, .slice qa E.c.length qx, .int .i64 E.bw] EI)))) (by kernel_rfl) (by kernel_rfl) (over_drew _) ?_
              repeat (first | go_big_quiet_skip | (go_big_quiet_want; go_big_quiet_op; go_big_quiet_on) | (go_big_quiet_want; go_big_quiet_op; apply Exists.intro; refine ⟨fun w' hC => ?_, ?_⟩; ((first | (go_at_call 124; refine (ient_t _ (rdI_over hp hC) (rdI_over hq hC) HP).mono ?_; rintro e w1 ⟨rfl, hb1⟩; exact ⟨rfl, over_step hC hb1⟩) | (go_at_call 125; refine (icmp6_t _ HR).mono ?_; rintro e w1 ⟨rfl, hb1⟩; exact ⟨rfl, over_step hC hb1⟩))); go_big_quiet_on) | (go_big_quiet_want; apply Exists.intro; refine ⟨fun w' hC => ?_, ?_⟩; (have k0 := over_cell hC bP.lt (bP.c 0 rfl); have k1 := over_cell hC bP.lt (bP.c 1 rfl); have k2 := over_cell hC bP.lt (bP.c 2 rfl); have k3 := over_cell hC bP.lt (bP.c 3 rfl); have k4 := over_cell hC bP.lt (bP.c 4 rfl); have k5 := over_cell hC bP.lt (bP.c 5 rfl); have k6 := over_cell hC bP.lt (bP.c 6 rfl); have k7 := over_cell hC bR.lt (bR.c 0 rfl); have k8 := over_cell hC (World.block_lt_of_cell? _ _ m0) m0; have k9 := over_cell hC (World.block_lt_of_cell? _ _ m1) m1; have k10 := over_cell hC (World.block_lt_of_cell? _ _ m2) m2; have k11 := over_cell hC (World.block_lt_of_cell? _ _ m3) m3; have k12 := over_cell hC (World.block_lt_of_cell? _ _ m4) m4; have k13 := over_cell hC (World.block_lt_of_cell? _ _ m5) m5; have k14 := over_cell hC (World.block_lt_of_cell? _ _ m6) m6; simp [Oper.quietAt, Oper.quietUpon, go_sem, k0, k1, k2, k3, k4, k5, k6, k7, k8, k9, k10, k11, k12, k13, k14, hwj, hjI, hjN]; first | done | rfl); go_big_quiet_on; simp only [Act.put, List.setIfInBounds_toArray, List.set_cons_zero, List.set_cons_succ]))
              refine wpQuiet_nil ?_
              intro ws hC
              have k0 := over_cell hC bP.lt (bP.c 0 rfl)
              have k1 := over_cell hC bP.lt (bP.c 1 rfl)
              have k2 := over_cell hC bP.lt (bP.c 2 rfl)
              have k3 := over_cell hC bP.lt (bP.c 3 rfl)
              have k4 := over_cell hC bP.lt (bP.c 4 rfl)
              have k5 := over_cell hC bP.lt (bP.c 5 rfl)
              have k6 := over_cell hC bP.lt (bP.c 6 rfl)
              have k7 := over_cell hC bR.lt (bR.c 0 rfl)
              have k8 := over_cell hC (World.block_lt_of_cell? _ _ m0) m0
              have k9 := over_cell hC (World.block_lt_of_cell? _ _ m1) m1
              have k10 := over_cell hC (World.block_lt_of_cell? _ _ m2) m2
              have k11 := over_cell hC (World.block_lt_of_cell? _ _ m3) m3
              have k12 := over_cell hC (World.block_lt_of_cell? _ _ m4) m4
              have k13 := over_cell hC (World.block_lt_of_cell? _ _ m5) m5
              have k14 := over_cell hC (World.block_lt_of_cell? _ _ m6) m6
              go_wp2
              go_ret
              exact ⟨ret_bool (by first | rw [HF.out, Bool.and_false] | rw [HF.out] | simp [HF.out]), below_step B0 (over_step hB2 hC)⟩
      · have hkn : k = n := by omega
        subst hkn
        have HF := Lib.hid (tabB_yes HN.out HO.out HU.out)
        clear hc
        have r0 := bR.c 0 rfl
        go_wp2
        go_ret
        exact ⟨ret_bool (by first | rw [HF.out, Bool.and_true] | rw [HF.out] | simp [HF.out]), below_step B0 hB⟩
  · have e : (decide ((n : Int) ≤ 60) && tabB L) = false := by simp [hbig]
    have hbig2 : (60 : Int) < (n : Int) := by omega
    rw [e]
    clear e
    go_enter Try.func65, Try.ntmps65
    go_wp2
    go_ret
    exact ⟨rfl, B0⟩
theorem srib_t {v : Value} {L : List Ent} {b : Bool} (w : World) (h : RdE w v L) (H : Hid (ribB L = b)) :
    Calls Try.prog 61 #[.agg #[v]] w fun e w' => e = .returned (.bool b) ∧ Below w.heap.size w w' := H.out ▸ srib_any v L w h
theorem irib_t {v : Value} {L : List Ent} {b : Bool} (w : World) (h : RdE w v L) (H : Hid (ribB L = b)) :
    Calls Try.prog 65 #[.agg #[v]] w fun e w' => e = .returned (.bool b) ∧ Below w.heap.size w w' := H.out ▸ irib_any v L w h
end Go.Proofs.Ytbcmoofpgffbhaa
