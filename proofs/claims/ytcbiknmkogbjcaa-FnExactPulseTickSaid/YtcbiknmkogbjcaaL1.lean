/-
  Pulses and beats: what an argument that is one reads as; contracts of PulseOk and BeatOk of the program and of the model. Conditions: those in each contract.
-/
import Derived.Test.YtcbiknmkogbjcaaI4
import Derived.Test.YtcbiknmkogbjcaaG2
namespace Go.Proofs.Ytcbiknmkogbjcaa
open Go.ChangeShapes Go.WideShapes Go.ChangeAt Go.RowKit Go.BigFrame Go.Joins
set_option linter.unusedVariables false
set_option maxRecDepth 100000
set_option linter.unusedSimpArgs false

def Is_Pulse (W : World) (v : Value) : Prop := ∃ st mi yo he mu : Int, v = .agg #[.int .i64 st, .int .i64 mi, .int .i64 yo, .int .i64 he, .int .i64 mu]
theorem array5Pu {α : Type} {xs : Array α} (h : xs.size = 5) : ∃ c0 c1 c2 c3 c4, xs = #[c0, c1, c2, c3, c4] := by
  obtain ⟨l⟩ := xs
  match l, h with
  | [c0, c1, c2, c3, c4], _ => exact ⟨c0, c1, c2, c3, c4, rfl⟩
theorem list5Pu {α : Type} {xs : List α} (h : xs.length = 5) : ∃ c0 c1 c2 c3 c4, xs = [c0, c1, c2, c3, c4] := by
  match xs, h with
  | [c0, c1, c2, c3, c4], _ => exact ⟨c0, c1, c2, c3, c4, rfl⟩
section
variable {H : Type} {enc : TypeId × Value → H} {W : World} {base : Nat} {d : DataW H} {p : List MemPlace} {v : Value}
theorem cellsPu : Try.prog.cellsOf 23 = 5 := by kernel_rfl
theorem cellsI1Pu : Try.prog.cellsOf 3 = 1 := by kernel_rfl
theorem is_Pulse (hv : Value.okWide Try.prog W .any base 23 v) (h : DataW.Trod enc Try.prog W 0 (fun _ => true) true 23 v d p) : Is_Pulse W v := by
  obtain ⟨xs, rfl, hsz⟩ := okWide_struct Try.underlying23 hv
  rw [cellsPu] at hsz
  obtain ⟨c0, c1, c2, c3, c4, rfl⟩ := array5Pu hsz
  obtain ⟨fuel, hf⟩ := h
  obtain ⟨ys, n, _, hx, hl, hlen, hf⟩ := DataW.trod_struct Try.underlying23 hf
  obtain ⟨y0, y1, y2, y3, y4, rfl⟩ := list5Pu hlen
  clear hlen hl hx hsz hv
  have h0 := hf 0 _ rfl
  have h1 := hf 1 _ rfl
  have h2 := hf 2 _ rfl
  have h3 := hf 3 _ rfl
  have h4 := hf 4 _ rfl
  clear hf
  simp [Value.cells, cellsI1Pu] at h0 h1 h2 h3 h4
  obtain ⟨x0, e0, -, -⟩ := DataW.trod_int Try.underlying3 h0
  obtain ⟨x1, e1, -, -⟩ := DataW.trod_int Try.underlying3 h1
  obtain ⟨x2, e2, -, -⟩ := DataW.trod_int Try.underlying3 h2
  obtain ⟨x3, e3, -, -⟩ := DataW.trod_int Try.underlying3 h3
  obtain ⟨x4, e4, -, -⟩ := DataW.trod_int Try.underlying3 h4
  simp at e0 e1 e2 e3 e4
  subst e0 e1 e2 e3 e4
  exact ⟨x0, x1, x2, x3, x4, rfl⟩
end
def Is_Beat (W : World) (v : Value) : Prop := ∃ st mi yo : Int, v = .agg #[.int .i64 st, .int .i64 mi, .int .i64 yo]
theorem array3Bt {α : Type} {xs : Array α} (h : xs.size = 3) : ∃ c0 c1 c2, xs = #[c0, c1, c2] := by
  obtain ⟨l⟩ := xs
  match l, h with
  | [c0, c1, c2], _ => exact ⟨c0, c1, c2, rfl⟩
theorem list3Bt {α : Type} {xs : List α} (h : xs.length = 3) : ∃ c0 c1 c2, xs = [c0, c1, c2] := by
  match xs, h with
  | [c0, c1, c2], _ => exact ⟨c0, c1, c2, rfl⟩
section
variable {H : Type} {enc : TypeId × Value → H} {W : World} {base : Nat} {d : DataW H} {p : List MemPlace} {v : Value}
theorem cellsBt : Try.prog.cellsOf 29 = 3 := by kernel_rfl
theorem cellsI1Bt : Try.prog.cellsOf 3 = 1 := by kernel_rfl
theorem is_Beat (hv : Value.okWide Try.prog W .any base 29 v) (h : DataW.Trod enc Try.prog W 0 (fun _ => true) true 29 v d p) : Is_Beat W v := by
  obtain ⟨xs, rfl, hsz⟩ := okWide_struct Try.underlying29 hv
  rw [cellsBt] at hsz
  obtain ⟨c0, c1, c2, rfl⟩ := array3Bt hsz
  obtain ⟨fuel, hf⟩ := h
  obtain ⟨ys, n, _, hx, hl, hlen, hf⟩ := DataW.trod_struct Try.underlying29 hf
  obtain ⟨y0, y1, y2, rfl⟩ := list3Bt hlen
  clear hlen hl hx hsz hv
  have h0 := hf 0 _ rfl
  have h1 := hf 1 _ rfl
  have h2 := hf 2 _ rfl
  clear hf
  simp [Value.cells, cellsI1Bt] at h0 h1 h2
  obtain ⟨x0, e0, -, -⟩ := DataW.trod_int Try.underlying3 h0
  obtain ⟨x1, e1, -, -⟩ := DataW.trod_int Try.underlying3 h1
  obtain ⟨x2, e2, -, -⟩ := DataW.trod_int Try.underlying3 h2
  simp at e0 e1 e2
  subst e0 e1 e2
  exact ⟨x0, x1, x2, rfl⟩
end
theorem inB_iff {n a b : Int} : inB n a b = true ↔ a ≤ n ∧ n ≤ b := by unfold inB; simp
theorem toPu_any (st mi yo he mu : Int) (w : World) : Calls Try.prog 11 #[.agg #[.int .i64 st, .int .i64 mi, .int .i64 yo, .int .i64 he, .int .i64 mu]] w fun e w' => e = .returned (.agg #[.int .i64 st, .int .i64 mi, .int .i64 yo, .int .i64 he, .int .i64 mu]) ∧ Below w.heap.size w w' := by
  go_enter Try.func11, Try.ntmps11
  go_wp2
  exact bodyPost_ret (v := .agg #[.int .i64 st, .int .i64 mi, .int .i64 yo, .int .i64 he, .int .i64 mu]) (by simp [results, Try.results11, go_sem]) rfl ⟨rfl, by first | exact ((Below.refl _ _).alloc (Nat.le_refl _) _).alloc (by simp) _ | exact (((Below.refl _ _).alloc (Nat.le_refl _) _).alloc (by simp) _).alloc (by simp; omega) _⟩
theorem toBt_any (st mi yo : Int) (w : World) : Calls Try.prog 14 #[.agg #[.int .i64 st, .int .i64 mi, .int .i64 yo]] w fun e w' => e = .returned (.agg #[.int .i64 st, .int .i64 mi, .int .i64 yo]) ∧ Below w.heap.size w w' := by
  go_enter Try.func14, Try.ntmps14
  go_wp2
  exact bodyPost_ret (v := .agg #[.int .i64 st, .int .i64 mi, .int .i64 yo]) (by simp [results, Try.results14, go_sem]) rfl ⟨rfl, by first | exact ((Below.refl _ _).alloc (Nat.le_refl _) _).alloc (by simp) _ | exact (((Below.refl _ _).alloc (Nat.le_refl _) _).alloc (by simp) _).alloc (by simp; omega) _⟩
/-- the beat is valid -/
def beaB (st mi yo : Int) : Bool := decide (0 ≤ st ∧ st ≤ 3 ∧ 1 ≤ mi ∧ mi ≤ 255 ∧ 0 ≤ yo ∧ yo ≤ 255)
/-- the pulse is valid -/
def pulB (st mi yo he mu : Int) : Bool := decide (0 ≤ st ∧ st ≤ 3 ∧ 1 ≤ mi ∧ mi ≤ 255 ∧ 0 ≤ yo ∧ yo ≤ 255 ∧ 1 ≤ mu ∧ mu ≤ 10 ∧ 0 ≤ he ∧ he < mu ∧ (st ≤ 1 → he = 0 ∧ yo = 0) ∧ (¬ st ≤ 1 → ¬ yo = 0))
theorem pul_facts {st mi yo he mu : Int} (h : pulB st mi yo he mu = true) : (0 ≤ st ∧ st ≤ 3) ∧ (1 ≤ mi ∧ mi ≤ 255) ∧ (0 ≤ yo ∧ yo ≤ 255) ∧ (1 ≤ mu ∧ mu ≤ 10) ∧ (0 ≤ he ∧ he < mu) ∧ (st ≤ 1 → he = 0 ∧ yo = 0) ∧ (¬ st ≤ 1 → ¬ yo = 0) := by
  unfold pulB at h
  simp only [decide_eq_true_eq] at h
  omega
set_option maxHeartbeats 2000000 in
theorem sBt_any (st mi yo : Int) (w : World) : Calls Try.prog 13 #[.agg #[.int .i64 st, .int .i64 mi, .int .i64 yo]] w fun e w' => e = .returned (.bool (beaB st mi yo)) ∧ Below w.heap.size w w' := by
  obtain ⟨bA, B0, z⟩ := one w [.int .i64 st, .int .i64 mi, .int .i64 yo] 31
  clear z
  by_cases a0 : 0 ≤ st
  · by_cases a1 : st ≤ 3
    · by_cases a2 : 1 ≤ mi
      · by_cases a3 : mi ≤ 255
        · by_cases a4 : 0 ≤ yo
          · by_cases a5 : yo ≤ 255
            · go_enter Try.func13, Try.ntmps13
              have f0 := bA.c 0 rfl
              have f1 := bA.c 1 rfl
              have f2 := bA.c 2 rfl
              go_wp2_with fail
              all_goals
                go_ret
                exact ⟨ret_bool (by rw [Bool.eq_iff_iff]; (try unfold beaB); simp [beaB, a0, a1, a2, a3, a4, a5] <;> omega), B0⟩
            · go_enter Try.func13, Try.ntmps13
              have f0 := bA.c 0 rfl
              have f1 := bA.c 1 rfl
              have f2 := bA.c 2 rfl
              go_wp2_with fail
              all_goals
                go_ret
                exact ⟨ret_bool (by rw [Bool.eq_iff_iff]; (try unfold beaB); simp [beaB, a0, a1, a2, a3, a4, a5] <;> omega), B0⟩
          · go_enter Try.func13, Try.ntmps13
            have f0 := bA.c 0 rfl
            have f1 := bA.c 1 rfl
            have f2 := bA.c 2 rfl
            go_wp2_with fail
            all_goals
              go_ret
              exact ⟨ret_bool (by rw [Bool.eq_iff_iff]; (try unfold beaB); simp [beaB, a0, a1, a2, a3, a4] <;> omega), B0⟩
        · go_enter Try.func13, Try.ntmps13
          have f0 := bA.c 0 rfl
          have f1 := bA.c 1 rfl
          have f2 := bA.c 2 rfl
          go_wp2_with fail
          all_goals
            go_ret
            exact ⟨ret_bool (by rw [Bool.eq_iff_iff]; (try unfold beaB); simp [beaB, a0, a1, a2, a3] <;> omega), B0⟩
      · go_enter Try.func13, Try.ntmps13
        have f0 := bA.c 0 rfl
        have f1 := bA.c 1 rfl
        have f2 := bA.c 2 rfl
        go_wp2_with fail
        all_goals
          go_ret
          exact ⟨ret_bool (by rw [Bool.eq_iff_iff]; (try unfold beaB); simp [beaB, a0, a1, a2] <;> omega), B0⟩
    · go_enter Try.func13, Try.ntmps13
      have f0 := bA.c 0 rfl
      have f1 := bA.c 1 rfl
      have f2 := bA.c 2 rfl
      go_wp2_with fail
      all_goals
        go_ret
        exact ⟨ret_bool (by rw [Bool.eq_iff_iff]; (try unfold beaB); simp [beaB, a0, a1] <;> omega), B0⟩
  · go_enter Try.func13, Try.ntmps13
    have f0 := bA.c 0 rfl
    have f1 := bA.c 1 rfl
    have f2 := bA.c 2 rfl
    go_wp2_with fail
    all_goals
      go_ret
      exact ⟨ret_bool (by rw [Bool.eq_iff_iff]; (try unfold beaB); simp [beaB, a0] <;> omega), B0⟩
set_option maxHeartbeats 2000000 in
theorem iBt_any (st mi yo : Int) (w : World) : Calls Try.prog 15 #[.agg #[.int .i64 st, .int .i64 mi, .int .i64 yo]] w fun e w' => e = .returned (.bool (beaB st mi yo)) ∧ Below w.heap.size w w' := by
  obtain ⟨bA, B0, z⟩ := one w [.int .i64 st, .int .i64 mi, .int .i64 yo] 31
  clear z
  by_cases hii : 0 ≤ st ∧ st ≤ 3
  · have HI : Hid (inB st 0 3 = true) := Lib.hid (inB_iff.mpr hii)
    obtain ⟨hii1, hii2⟩ := hii
    by_cases hji : 1 ≤ mi ∧ mi ≤ 255
    · have HJ : Hid (inB mi 1 255 = true) := Lib.hid (inB_iff.mpr hji)
      obtain ⟨hji1, hji2⟩ := hji
      by_cases hki : 0 ≤ yo ∧ yo ≤ 255
      · have HK : Hid (inB yo 0 255 = true) := Lib.hid (inB_iff.mpr hki)
        obtain ⟨hki1, hki2⟩ := hki
        go_enter Try.func15, Try.ntmps15
        have f0 := bA.c 0 rfl
        have f1 := bA.c 1 rfl
        have f2 := bA.c 2 rfl
        go_wp2_with fail
        clear f0 f1 f2
        refine (within_t _ HI).mono ?_
        rintro e w1 ⟨rfl, rfl⟩
        have f0 := bA.c 0 rfl
        have f1 := bA.c 1 rfl
        have f2 := bA.c 2 rfl
        go_wp2_with fail
        clear f0 f1 f2
        refine (within_t _ HJ).mono ?_
        rintro e w1 ⟨rfl, rfl⟩
        have f0 := bA.c 0 rfl
        have f1 := bA.c 1 rfl
        have f2 := bA.c 2 rfl
        go_wp2_with fail
        clear f0 f1 f2
        refine (within_t _ HK).mono ?_
        rintro e w1 ⟨rfl, rfl⟩
        have f0 := bA.c 0 rfl
        have f1 := bA.c 1 rfl
        have f2 := bA.c 2 rfl
        go_wp2_with fail
        all_goals
          go_ret
          exact ⟨ret_bool (by rw [Bool.eq_iff_iff]; (try unfold beaB); simp [beaB, hii1, hii2, hji1, hji2, hki1, hki2] <;> omega), B0⟩
      · have HK : Hid (inB yo 0 255 = false) := Lib.hid (by simp [inB]; omega)
        have HKn := Lib.hid hki
        clear hki
        go_enter Try.func15, Try.ntmps15
        have f0 := bA.c 0 rfl
        have f1 := bA.c 1 rfl
        have f2 := bA.c 2 rfl
        go_wp2_with fail
        clear f0 f1 f2
        refine (within_t _ HI).mono ?_
        rintro e w1 ⟨rfl, rfl⟩
        have f0 := bA.c 0 rfl
        have f1 := bA.c 1 rfl
        have f2 := bA.c 2 rfl
        go_wp2_with fail
        clear f0 f1 f2
        refine (within_t _ HJ).mono ?_
        rintro e w1 ⟨rfl, rfl⟩
        have f0 := bA.c 0 rfl
        have f1 := bA.c 1 rfl
        have f2 := bA.c 2 rfl
        go_wp2_with fail
        clear f0 f1 f2
        refine (within_t _ HK).mono ?_
        rintro e w1 ⟨rfl, rfl⟩
        have f0 := bA.c 0 rfl
        have f1 := bA.c 1 rfl
        have f2 := bA.c 2 rfl
        go_wp2_with fail
        all_goals
          go_ret
          exact ⟨ret_bool (by have q4 := HKn.out; rw [Bool.eq_iff_iff]; (try unfold beaB); simp [beaB, hii1, hii2, hji1, hji2, HKn.out] <;> omega), B0⟩
    · have HJ : Hid (inB mi 1 255 = false) := Lib.hid (by simp [inB]; omega)
      have HJn := Lib.hid hji
      clear hji
      go_enter Try.func15, Try.ntmps15
      have f0 := bA.c 0 rfl
      have f1 := bA.c 1 rfl
      have f2 := bA.c 2 rfl
      go_wp2_with fail
      clear f0 f1 f2
      refine (within_t _ HI).mono ?_
      rintro e w1 ⟨rfl, rfl⟩
      have f0 := bA.c 0 rfl
      have f1 := bA.c 1 rfl
      have f2 := bA.c 2 rfl
      go_wp2_with fail
      clear f0 f1 f2
      refine (within_t _ HJ).mono ?_
      rintro e w1 ⟨rfl, rfl⟩
      have f0 := bA.c 0 rfl
      have f1 := bA.c 1 rfl
      have f2 := bA.c 2 rfl
      go_wp2_with fail
      all_goals
        go_ret
        exact ⟨ret_bool (by have q2 := HJn.out; rw [Bool.eq_iff_iff]; (try unfold beaB); simp [beaB, hii1, hii2, HJn.out] <;> omega), B0⟩
  · have HI : Hid (inB st 0 3 = false) := Lib.hid (by simp [inB]; omega)
    have HIn := Lib.hid hii
    clear hii
    go_enter Try.func15, Try.ntmps15
    have f0 := bA.c 0 rfl
    have f1 := bA.c 1 rfl
    have f2 := bA.c 2 rfl
    go_wp2_with fail
    clear f0 f1 f2
    refine (within_t _ HI).mono ?_
    rintro e w1 ⟨rfl, rfl⟩
    have f0 := bA.c 0 rfl
    have f1 := bA.c 1 rfl
    have f2 := bA.c 2 rfl
    go_wp2_with fail
    all_goals
      go_ret
      exact ⟨ret_bool (by have q0 := HIn.out; rw [Bool.eq_iff_iff]; (try unfold beaB); simp [beaB, HIn.out] <;> omega), B0⟩
theorem sBt_t {st mi yo : Int} {b : Bool} (w : World) (H : Hid (beaB st mi yo = b)) : Calls Try.prog 13 #[.agg #[.int .i64 st, .int .i64 mi, .int .i64 yo]] w fun e w' => e = .returned (.bool b) ∧ Below w.heap.size w w' := H.out ▸ sBt_any st mi yo w
theorem iBt_t {st mi yo : Int} {b : Bool} (w : World) (H : Hid (beaB st mi yo = b)) : Calls Try.prog 15 #[.agg #[.int .i64 st, .int .i64 mi, .int .i64 yo]] w fun e w' => e = .returned (.bool b) ∧ Below w.heap.size w w' := H.out ▸ iBt_any st mi yo w
set_option maxHeartbeats 4000000 in
theorem sPu_any (st mi yo he mu : Int) (w : World) : Calls Try.prog 10 #[.agg #[.int .i64 st, .int .i64 mi, .int .i64 yo, .int .i64 he, .int .i64 mu]] w fun e w' => e = .returned (.bool (pulB st mi yo he mu)) ∧ Below w.heap.size w w' := by
  obtain ⟨bA, B0, z⟩ := one w [.int .i64 st, .int .i64 mi, .int .i64 yo, .int .i64 he, .int .i64 mu] 25
  clear z
  by_cases a0 : 0 ≤ st
  · by_cases a1 : st ≤ 3
    · by_cases a2 : 1 ≤ mi
      · by_cases a3 : mi ≤ 255
        · by_cases a4 : 0 ≤ yo
          · by_cases a5 : yo ≤ 255
            · by_cases a6 : 1 ≤ mu
              · by_cases a7 : mu ≤ 10
                · by_cases a8 : 0 ≤ he
                  · by_cases a9 : he < mu
                    · by_cases b0 : st ≤ 1
                      · by_cases b2 : he = 0
                        · have b2b : (he == 0) = true := by simp [b2]
                          have b2n : (he != 0) = false := by simp [b2]
                          have B2 := Lib.hid b2
                          clear b2
                          by_cases b3 : yo = 0
                          · have b3b : (yo == 0) = true := by simp [b3]
                            have b3n : (yo != 0) = false := by simp [b3]
                            have B3 := Lib.hid b3
                            clear b3
                            go_enter Try.func10, Try.ntmps10
                            have f0 := bA.c 0 rfl
                            have f1 := bA.c 1 rfl
                            have f2 := bA.c 2 rfl
                            have f3 := bA.c 3 rfl
                            have f4 := bA.c 4 rfl
                            go_wp2_with fail
                            all_goals
                              go_ret
                              exact ⟨ret_bool (by have q11 := B2.out; have q12 := B3.out; rw [Bool.eq_iff_iff]; (try unfold pulB); simp [pulB, a0, a1, a2, a3, a4, a5, a6, a7, a8, a9, b0, B2.out, B3.out] <;> omega), B0⟩
                          · have b3b : (yo == 0) = false := by simp [b3]
                            have b3n : (yo != 0) = true := by simp [b3]
                            have B3 := Lib.hid b3
                            clear b3
                            go_enter Try.func10, Try.ntmps10
                            have f0 := bA.c 0 rfl
                            have f1 := bA.c 1 rfl
                            have f2 := bA.c 2 rfl
                            have f3 := bA.c 3 rfl
                            have f4 := bA.c 4 rfl
                            go_wp2_with fail
                            all_goals
                              go_ret
                              exact ⟨ret_bool (by have q11 := B2.out; have q12 := B3.out; rw [Bool.eq_iff_iff]; (try unfold pulB); simp [pulB, a0, a1, a2, a3, a4, a5, a6, a7, a8, a9, b0, B2.out, B3.out] <;> omega), B0⟩
                        · have b2b : (he == 0) = false := by simp [b2]
                          have b2n : (he != 0) = true := by simp [b2]
                          have B2 := Lib.hid b2
                          clear b2
                          go_enter Try.func10, Try.ntmps10
                          have f0 := bA.c 0 rfl
                          have f1 := bA.c 1 rfl
                          have f2 := bA.c 2 rfl
                          have f3 := bA.c 3 rfl
                          have f4 := bA.c 4 rfl
                          go_wp2_with fail
                          all_goals
                            go_ret
                            exact ⟨ret_bool (by have q11 := B2.out; rw [Bool.eq_iff_iff]; (try unfold pulB); simp [pulB, a0, a1, a2, a3, a4, a5, a6, a7, a8, a9, b0, B2.out] <;> omega), B0⟩
                      · by_cases b1 : 1 ≤ yo
                        · go_enter Try.func10, Try.ntmps10
                          have f0 := bA.c 0 rfl
                          have f1 := bA.c 1 rfl
                          have f2 := bA.c 2 rfl
                          have f3 := bA.c 3 rfl
                          have f4 := bA.c 4 rfl
                          go_wp2_with fail
                          all_goals
                            go_ret
                            exact ⟨ret_bool (by rw [Bool.eq_iff_iff]; (try unfold pulB); simp [pulB, a0, a1, a2, a3, a4, a5, a6, a7, a8, a9, b0, b1] <;> omega), B0⟩
                        · go_enter Try.func10, Try.ntmps10
                          have f0 := bA.c 0 rfl
                          have f1 := bA.c 1 rfl
                          have f2 := bA.c 2 rfl
                          have f3 := bA.c 3 rfl
                          have f4 := bA.c 4 rfl
                          go_wp2_with fail
                          all_goals
                            go_ret
                            exact ⟨ret_bool (by rw [Bool.eq_iff_iff]; (try unfold pulB); simp [pulB, a0, a1, a2, a3, a4, a5, a6, a7, a8, a9, b0, b1] <;> omega), B0⟩
                    · go_enter Try.func10, Try.ntmps10
                      have f0 := bA.c 0 rfl
                      have f1 := bA.c 1 rfl
                      have f2 := bA.c 2 rfl
                      have f3 := bA.c 3 rfl
                      have f4 := bA.c 4 rfl
                      go_wp2_with fail
                      all_goals
                        go_ret
                        exact ⟨ret_bool (by rw [Bool.eq_iff_iff]; (try unfold pulB); simp [pulB, a0, a1, a2, a3, a4, a5, a6, a7, a8, a9] <;> omega), B0⟩
                  · go_enter Try.func10, Try.ntmps10
                    have f0 := bA.c 0 rfl
                    have f1 := bA.c 1 rfl
                    have f2 := bA.c 2 rfl
                    have f3 := bA.c 3 rfl
                    have f4 := bA.c 4 rfl
                    go_wp2_with fail
                    all_goals
                      go_ret
                      exact ⟨ret_bool (by rw [Bool.eq_iff_iff]; (try unfold pulB); simp [pulB, a0, a1, a2, a3, a4, a5, a6, a7, a8] <;> omega), B0⟩
                · go_enter Try.func10, Try.ntmps10
                  have f0 := bA.c 0 rfl
                  have f1 := bA.c 1 rfl
                  have f2 := bA.c 2 rfl
                  have f3 := bA.c 3 rfl
                  have f4 := bA.c 4 rfl
                  go_wp2_with fail
                  all_goals
                    go_ret
                    exact ⟨ret_bool (by rw [Bool.eq_iff_iff]; (try unfold pulB); simp [pulB, a0, a1, a2, a3, a4, a5, a6, a7] <;> omega), B0⟩
              · go_enter Try.func10, Try.ntmps10
                have f0 := bA.c 0 rfl
                have f1 := bA.c 1 rfl
                have f2 := bA.c 2 rfl
                have f3 := bA.c 3 rfl
                have f4 := bA.c 4 rfl
                go_wp2_with fail
                all_goals
                  go_ret
                  exact ⟨ret_bool (by rw [Bool.eq_iff_iff]; (try unfold pulB); simp [pulB, a0, a1, a2, a3, a4, a5, a6] <;> omega), B0⟩
            · go_enter Try.func10, Try.ntmps10
              have f0 := bA.c 0 rfl
              have f1 := bA.c 1 rfl
              have f2 := bA.c 2 rfl
              have f3 := bA.c 3 rfl
              have f4 := bA.c 4 rfl
              go_wp2_with fail
              all_goals
                go_ret
                exact ⟨ret_bool (by rw [Bool.eq_iff_iff]; (try unfold pulB); simp [pulB, a0, a1, a2, a3, a4, a5] <;> omega), B0⟩
          · go_enter Try.func10, Try.ntmps10
            have f0 := bA.c 0 rfl
            have f1 := bA.c 1 rfl
            have f2 := bA.c 2 rfl
            have f3 := bA.c 3 rfl
            have f4 := bA.c 4 rfl
            go_wp2_with fail
            all_goals
              go_ret
              exact ⟨ret_bool (by rw [Bool.eq_iff_iff]; (try unfold pulB); simp [pulB, a0, a1, a2, a3, a4] <;> omega), B0⟩
        · go_enter Try.func10, Try.ntmps10
          have f0 := bA.c 0 rfl
          have f1 := bA.c 1 rfl
          have f2 := bA.c 2 rfl
          have f3 := bA.c 3 rfl
          have f4 := bA.c 4 rfl
          go_wp2_with fail
          all_goals
            go_ret
            exact ⟨ret_bool (by rw [Bool.eq_iff_iff]; (try unfold pulB); simp [pulB, a0, a1, a2, a3] <;> omega), B0⟩
      · go_enter Try.func10, Try.ntmps10
        have f0 := bA.c 0 rfl
        have f1 := bA.c 1 rfl
        have f2 := bA.c 2 rfl
        have f3 := bA.c 3 rfl
        have f4 := bA.c 4 rfl
        go_wp2_with fail
        all_goals
          go_ret
          exact ⟨ret_bool (by rw [Bool.eq_iff_iff]; (try unfold pulB); simp [pulB, a0, a1, a2] <;> omega), B0⟩
    · go_enter Try.func10, Try.ntmps10
      have f0 := bA.c 0 rfl
      have f1 := bA.c 1 rfl
      have f2 := bA.c 2 rfl
      have f3 := bA.c 3 rfl
      have f4 := bA.c 4 rfl
      go_wp2_with fail
      all_goals
        go_ret
        exact ⟨ret_bool (by rw [Bool.eq_iff_iff]; (try unfold pulB); simp [pulB, a0, a1] <;> omega), B0⟩
  · go_enter Try.func10, Try.ntmps10
    have f0 := bA.c 0 rfl
    have f1 := bA.c 1 rfl
    have f2 := bA.c 2 rfl
    have f3 := bA.c 3 rfl
    have f4 := bA.c 4 rfl
    go_wp2_with fail
    all_goals
      go_ret
      exact ⟨ret_bool (by rw [Bool.eq_iff_iff]; (try unfold pulB); simp [pulB, a0] <;> omega), B0⟩
theorem ibeat_any (st mi yo he mu : Int) (w : World) : Calls Try.prog 34 #[.agg #[.int .i64 st, .int .i64 mi, .int .i64 yo, .int .i64 he, .int .i64 mu]] w fun e w' => e = .returned (.agg #[.int .i64 st, .int .i64 mi, .int .i64 yo]) ∧ Below w.heap.size w w' := by
  go_enter Try.func34, Try.ntmps34
  go_wp2
  exact bodyPost_ret (v := .agg #[.int .i64 st, .int .i64 mi, .int .i64 yo]) (by simp [results, Try.results34, go_sem]) rfl ⟨rfl, by first | exact (Below.refl _ _).alloc (Nat.le_refl _) _ | exact ((Below.refl _ _).alloc (Nat.le_refl _) _).alloc (by simp) _⟩
theorem iconn_any (st : Int) (w : World) : Calls Try.prog 36 #[.int .i64 st] w fun e w' => e = .returned (.bool (decide (2 ≤ st))) ∧ w = w' := by
  by_cases h0 : 2 ≤ st
  all_goals
    go_enter Try.func36, Try.ntmps36
    go_wp2
    go_ret
    exact ⟨ret_bool (by simp; omega), rfl⟩
theorem iconn_t {st : Int} {b : Bool} (w : World) (H : Hid (decide (2 ≤ st) = b)) : Calls Try.prog 36 #[.int .i64 st] w fun e w' => e = .returned (.bool b) ∧ w = w' := H.out ▸ iconn_any st w
set_option maxHeartbeats 4000000 in
theorem iPu_any (st mi yo he mu : Int) (w : World) : Calls Try.prog 12 #[.agg #[.int .i64 st, .int .i64 mi, .int .i64 yo, .int .i64 he, .int .i64 mu]] w fun e w' => e = .returned (.bool (pulB st mi yo he mu)) ∧ Below w.heap.size w w' := by
  obtain ⟨bA, B0, z⟩ := one w [.int .i64 st, .int .i64 mi, .int .i64 yo, .int .i64 he, .int .i64 mu] 25
  clear z
  by_cases hbc : beaB st mi yo = false
  · have HB := Lib.hid hbc
    clear hbc
    go_enter Try.func12, Try.ntmps12
    have f0 := bA.c 0 rfl
    have f1 := bA.c 1 rfl
    have f2 := bA.c 2 rfl
    have f3 := bA.c 3 rfl
    have f4 := bA.c 4 rfl
    go_wp2_with fail
    clear f0 f1 f2 f3 f4
    refine (ibeat_any st mi yo he mu _).mono ?_
    rintro e w1 ⟨rfl, hb⟩
    replace bA := bA.keep hb
    replace B0 := below_step B0 hb
    clear hb
    go_wp2_with fail
    refine (iBt_t _ HB).mono ?_
    rintro e w1 ⟨rfl, hb⟩
    replace bA := bA.keep hb
    replace B0 := below_step B0 hb
    clear hb
    have f0 := bA.c 0 rfl
    have f1 := bA.c 1 rfl
    have f2 := bA.c 2 rfl
    have f3 := bA.c 3 rfl
    have f4 := bA.c 4 rfl
    go_wp2_with fail
    all_goals
      go_ret
      exact ⟨ret_bool (by have q0 := HB.out; (try unfold beaB at q0); (try unfold inB at q0); (try simp at q0); rw [Bool.eq_iff_iff]; simp [pulB] <;> omega), B0⟩
  · have HB : Hid (beaB st mi yo = true) := Lib.hid (eq_true_of_ne_false hbc)
    clear hbc
    by_cases hmi : 1 ≤ mu ∧ mu ≤ 10
    · have HM : Hid (inB mu 1 10 = true) := Lib.hid (inB_iff.mpr hmi)
      obtain ⟨hmi1, hmi2⟩ := hmi
      have hw1 : IntKind.i64.wrap (mu - 1) = mu - 1 := wrap64_in _ (by omega) (by omega)
      by_cases hhi : 0 ≤ he ∧ he ≤ (mu - 1)
      · have HH : Hid (inB he 0 (mu - 1) = true) := Lib.hid (inB_iff.mpr hhi)
        obtain ⟨hhi1, hhi2⟩ := hhi
        by_cases hcc : decide (2 ≤ st) = false
        · have HC := Lib.hid hcc
          clear hcc
          by_cases z2 : yo = 0
          · have z2b : (yo == 0) = true := by simp [z2]
            have z2n : (yo != 0) = false := by simp [z2]
            have Z2 := Lib.hid z2
            clear z2
            by_cases z3 : he = 0
            · have z3b : (he == 0) = true := by simp [z3]
              have z3n : (he != 0) = false := by simp [z3]
              have Z3 := Lib.hid z3
              clear z3
              go_enter Try.func12, Try.ntmps12
              have f0 := bA.c 0 rfl
              have f1 := bA.c 1 rfl
              have f2 := bA.c 2 rfl
              have f3 := bA.c 3 rfl
              have f4 := bA.c 4 rfl
              go_wp2_with fail
              clear f0 f1 f2 f3 f4
              refine (ibeat_any st mi yo he mu _).mono ?_
              rintro e w1 ⟨rfl, hb⟩
              replace bA := bA.keep hb
              replace B0 := below_step B0 hb
              clear hb
              go_wp2_with fail
              refine (iBt_t _ HB).mono ?_
              rintro e w1 ⟨rfl, hb⟩
              replace bA := bA.keep hb
              replace B0 := below_step B0 hb
              clear hb
              have f0 := bA.c 0 rfl
              have f1 := bA.c 1 rfl
              have f2 := bA.c 2 rfl
              have f3 := bA.c 3 rfl
              have f4 := bA.c 4 rfl
              go_wp2_with fail
              clear f0 f1 f2 f3 f4
              refine (within_t _ HM).mono ?_
              rintro e w1 ⟨rfl, rfl⟩
              have f0 := bA.c 0 rfl
              have f1 := bA.c 1 rfl
              have f2 := bA.c 2 rfl
              have f3 := bA.c 3 rfl
              have f4 := bA.c 4 rfl
              go_wp2_with fail
              clear f0 f1 f2 f3 f4
              refine (within_t _ HH).mono ?_
              rintro e w1 ⟨rfl, rfl⟩
              have f0 := bA.c 0 rfl
              have f1 := bA.c 1 rfl
              have f2 := bA.c 2 rfl
              have f3 := bA.c 3 rfl
              have f4 := bA.c 4 rfl
              go_wp2_with fail
              clear f0 f1 f2 f3 f4
              refine (iconn_t _ HC).mono ?_
              rintro e w1 ⟨rfl, rfl⟩
              have f0 := bA.c 0 rfl
              have f1 := bA.c 1 rfl
              have f2 := bA.c 2 rfl
              have f3 := bA.c 3 rfl
              have f4 := bA.c 4 rfl
              go_wp2_with fail
              all_goals
                go_ret
                exact ⟨ret_bool (by have q0 := HB.out; (try unfold beaB at q0); (try unfold inB at q0); (try simp at q0); have q5 := HC.out; (try unfold beaB at q5); (try unfold inB at q5); (try simp at q5); have q6 := Z2.out; (try unfold beaB at q6); (try unfold inB at q6); (try simp at q6); have q7 := Z3.out; (try unfold beaB at q7); (try unfold inB at q7); (try simp at q7); rw [Bool.eq_iff_iff]; simp [pulB] <;> omega), B0⟩
            · have z3b : (he == 0) = false := by simp [z3]
              have z3n : (he != 0) = true := by simp [z3]
              have Z3 := Lib.hid z3
              clear z3
              go_enter Try.func12, Try.ntmps12
              have f0 := bA.c 0 rfl
              have f1 := bA.c 1 rfl
              have f2 := bA.c 2 rfl
              have f3 := bA.c 3 rfl
              have f4 := bA.c 4 rfl
              go_wp2_with fail
              clear f0 f1 f2 f3 f4
              refine (ibeat_any st mi yo he mu _).mono ?_
              rintro e w1 ⟨rfl, hb⟩
              replace bA := bA.keep hb
              replace B0 := below_step B0 hb
              clear hb
              go_wp2_with fail
              refine (iBt_t _ HB).mono ?_
              rintro e w1 ⟨rfl, hb⟩
              replace bA := bA.keep hb
              replace B0 := below_step B0 hb
              clear hb
              have f0 := bA.c 0 rfl
              have f1 := bA.c 1 rfl
              have f2 := bA.c 2 rfl
              have f3 := bA.c 3 rfl
              have f4 := bA.c 4 rfl
              go_wp2_with fail
              clear f0 f1 f2 f3 f4
              refine (within_t _ HM).mono ?_
              rintro e w1 ⟨rfl, rfl⟩
              have f0 := bA.c 0 rfl
              have f1 := bA.c 1 rfl
              have f2 := bA.c 2 rfl
              have f3 := bA.c 3 rfl
              have f4 := bA.c 4 rfl
              go_wp2_with fail
              clear f0 f1 f2 f3 f4
              refine (within_t _ HH).mono ?_
              rintro e w1 ⟨rfl, rfl⟩
              have f0 := bA.c 0 rfl
              have f1 := bA.c 1 rfl
              have f2 := bA.c 2 rfl
              have f3 := bA.c 3 rfl
              have f4 := bA.c 4 rfl
              go_wp2_with fail
              clear f0 f1 f2 f3 f4
              refine (iconn_t _ HC).mono ?_
              rintro e w1 ⟨rfl, rfl⟩
              have f0 := bA.c 0 rfl
              have f1 := bA.c 1 rfl
              have f2 := bA.c 2 rfl
              have f3 := bA.c 3 rfl
              have f4 := bA.c 4 rfl
              go_wp2_with fail
              all_goals
                go_ret
                exact ⟨ret_bool (by have q0 := HB.out; (try unfold beaB at q0); (try unfold inB at q0); (try simp at q0); have q5 := HC.out; (try unfold beaB at q5); (try unfold inB at q5); (try simp at q5); have q6 := Z2.out; (try unfold beaB at q6); (try unfold inB at q6); (try simp at q6); have q7 := Z3.out; (try unfold beaB at q7); (try unfold inB at q7); (try simp at q7); rw [Bool.eq_iff_iff]; simp [pulB] <;> omega), B0⟩
          · have z2b : (yo == 0) = false := by simp [z2]
            have z2n : (yo != 0) = true := by simp [z2]
            have Z2 := Lib.hid z2
            clear z2
            go_enter Try.func12, Try.ntmps12
            have f0 := bA.c 0 rfl
            have f1 := bA.c 1 rfl
            have f2 := bA.c 2 rfl
            have f3 := bA.c 3 rfl
            have f4 := bA.c 4 rfl
            go_wp2_with fail
            clear f0 f1 f2 f3 f4
            refine (ibeat_any st mi yo he mu _).mono ?_
            rintro e w1 ⟨rfl, hb⟩
            replace bA := bA.keep hb
            replace B0 := below_step B0 hb
            clear hb
            go_wp2_with fail
            refine (iBt_t _ HB).mono ?_
            rintro e w1 ⟨rfl, hb⟩
            replace bA := bA.keep hb
            replace B0 := below_step B0 hb
            clear hb
            have f0 := bA.c 0 rfl
            have f1 := bA.c 1 rfl
            have f2 := bA.c 2 rfl
            have f3 := bA.c 3 rfl
            have f4 := bA.c 4 rfl
            go_wp2_with fail
            clear f0 f1 f2 f3 f4
            refine (within_t _ HM).mono ?_
            rintro e w1 ⟨rfl, rfl⟩
            have f0 := bA.c 0 rfl
            have f1 := bA.c 1 rfl
            have f2 := bA.c 2 rfl
            have f3 := bA.c 3 rfl
            have f4 := bA.c 4 rfl
            go_wp2_with fail
            clear f0 f1 f2 f3 f4
            refine (within_t _ HH).mono ?_
            rintro e w1 ⟨rfl, rfl⟩
            have f0 := bA.c 0 rfl
            have f1 := bA.c 1 rfl
            have f2 := bA.c 2 rfl
            have f3 := bA.c 3 rfl
            have f4 := bA.c 4 rfl
            go_wp2_with fail
            clear f0 f1 f2 f3 f4
            refine (iconn_t _ HC).mono ?_
            rintro e w1 ⟨rfl, rfl⟩
            have f0 := bA.c 0 rfl
            have f1 := bA.c 1 rfl
            have f2 := bA.c 2 rfl
            have f3 := bA.c 3 rfl
            have f4 := bA.c 4 rfl
            go_wp2_with fail
            all_goals
              go_ret
              exact ⟨ret_bool (by have q0 := HB.out; (try unfold beaB at q0); (try unfold inB at q0); (try simp at q0); have q5 := HC.out; (try unfold beaB at q5); (try unfold inB at q5); (try simp at q5); have q6 := Z2.out; (try unfold beaB at q6); (try unfold inB at q6); (try simp at q6); rw [Bool.eq_iff_iff]; simp [pulB] <;> omega), B0⟩
        · have HC : Hid (decide (2 ≤ st) = true) := Lib.hid (eq_true_of_ne_false hcc)
          clear hcc
          by_cases z1 : yo = 0
          · have z1b : (yo == 0) = true := by simp [z1]
            have z1n : (yo != 0) = false := by simp [z1]
            have Z1 := Lib.hid z1
            clear z1
            go_enter Try.func12, Try.ntmps12
            have f0 := bA.c 0 rfl
            have f1 := bA.c 1 rfl
            have f2 := bA.c 2 rfl
            have f3 := bA.c 3 rfl
            have f4 := bA.c 4 rfl
            go_wp2_with fail
            clear f0 f1 f2 f3 f4
            refine (ibeat_any st mi yo he mu _).mono ?_
            rintro e w1 ⟨rfl, hb⟩
            replace bA := bA.keep hb
            replace B0 := below_step B0 hb
            clear hb
            go_wp2_with fail
            refine (iBt_t _ HB).mono ?_
            rintro e w1 ⟨rfl, hb⟩
            replace bA := bA.keep hb
            replace B0 := below_step B0 hb
            clear hb
            have f0 := bA.c 0 rfl
            have f1 := bA.c 1 rfl
            have f2 := bA.c 2 rfl
            have f3 := bA.c 3 rfl
            have f4 := bA.c 4 rfl
            go_wp2_with fail
            clear f0 f1 f2 f3 f4
            refine (within_t _ HM).mono ?_
            rintro e w1 ⟨rfl, rfl⟩
            have f0 := bA.c 0 rfl
            have f1 := bA.c 1 rfl
            have f2 := bA.c 2 rfl
            have f3 := bA.c 3 rfl
            have f4 := bA.c 4 rfl
            go_wp2_with fail
            clear f0 f1 f2 f3 f4
            refine (within_t _ HH).mono ?_
            rintro e w1 ⟨rfl, rfl⟩
            have f0 := bA.c 0 rfl
            have f1 := bA.c 1 rfl
            have f2 := bA.c 2 rfl
            have f3 := bA.c 3 rfl
            have f4 := bA.c 4 rfl
            go_wp2_with fail
            clear f0 f1 f2 f3 f4
            refine (iconn_t _ HC).mono ?_
            rintro e w1 ⟨rfl, rfl⟩
            have f0 := bA.c 0 rfl
            have f1 := bA.c 1 rfl
            have f2 := bA.c 2 rfl
            have f3 := bA.c 3 rfl
            have f4 := bA.c 4 rfl
            go_wp2_with fail
            all_goals
              go_ret
              exact ⟨ret_bool (by have q0 := HB.out; (try unfold beaB at q0); (try unfold inB at q0); (try simp at q0); have q5 := HC.out; (try unfold beaB at q5); (try unfold inB at q5); (try simp at q5); have q6 := Z1.out; (try unfold beaB at q6); (try unfold inB at q6); (try simp at q6); rw [Bool.eq_iff_iff]; simp [pulB] <;> omega), B0⟩
          · have z1b : (yo == 0) = false := by simp [z1]
            have z1n : (yo != 0) = true := by simp [z1]
            have Z1 := Lib.hid z1
            clear z1
            go_enter Try.func12, Try.ntmps12
            have f0 := bA.c 0 rfl
            have f1 := bA.c 1 rfl
            have f2 := bA.c 2 rfl
            have f3 := bA.c 3 rfl
            have f4 := bA.c 4 rfl
            go_wp2_with fail
            clear f0 f1 f2 f3 f4
            refine (ibeat_any st mi yo he mu _).mono ?_
            rintro e w1 ⟨rfl, hb⟩
            replace bA := bA.keep hb
            replace B0 := below_step B0 hb
            clear hb
            go_wp2_with fail
            refine (iBt_t _ HB).mono ?_
            rintro e w1 ⟨rfl, hb⟩
            replace bA := bA.keep hb
            replace B0 := below_step B0 hb
            clear hb
            have f0 := bA.c 0 rfl
            have f1 := bA.c 1 rfl
            have f2 := bA.c 2 rfl
            have f3 := bA.c 3 rfl
            have f4 := bA.c 4 rfl
            go_wp2_with fail
            clear f0 f1 f2 f3 f4
            refine (within_t _ HM).mono ?_
            rintro e w1 ⟨rfl, rfl⟩
            have f0 := bA.c 0 rfl
            have f1 := bA.c 1 rfl
            have f2 := bA.c 2 rfl
            have f3 := bA.c 3 rfl
            have f4 := bA.c 4 rfl
            go_wp2_with fail
            clear f0 f1 f2 f3 f4
            refine (within_t _ HH).mono ?_
            rintro e w1 ⟨rfl, rfl⟩
            have f0 := bA.c 0 rfl
            have f1 := bA.c 1 rfl
            have f2 := bA.c 2 rfl
            have f3 := bA.c 3 rfl
            have f4 := bA.c 4 rfl
            go_wp2_with fail
            clear f0 f1 f2 f3 f4
            refine (iconn_t _ HC).mono ?_
            rintro e w1 ⟨rfl, rfl⟩
            have f0 := bA.c 0 rfl
            have f1 := bA.c 1 rfl
            have f2 := bA.c 2 rfl
            have f3 := bA.c 3 rfl
            have f4 := bA.c 4 rfl
            go_wp2_with fail
            all_goals
              go_ret
              exact ⟨ret_bool (by have q0 := HB.out; (try unfold beaB at q0); (try unfold inB at q0); (try simp at q0); have q5 := HC.out; (try unfold beaB at q5); (try unfold inB at q5); (try simp at q5); have q6 := Z1.out; (try unfold beaB at q6); (try unfold inB at q6); (try simp at q6); rw [Bool.eq_iff_iff]; simp [pulB] <;> omega), B0⟩
      · have HH : Hid (inB he 0 (mu - 1) = false) := Lib.hid (by simp [inB]; omega)
        have HHn := Lib.hid hhi
        clear hhi
        go_enter Try.func12, Try.ntmps12
        have f0 := bA.c 0 rfl
        have f1 := bA.c 1 rfl
        have f2 := bA.c 2 rfl
        have f3 := bA.c 3 rfl
        have f4 := bA.c 4 rfl
        go_wp2_with fail
        clear f0 f1 f2 f3 f4
        refine (ibeat_any st mi yo he mu _).mono ?_
        rintro e w1 ⟨rfl, hb⟩
        replace bA := bA.keep hb
        replace B0 := below_step B0 hb
        clear hb
        go_wp2_with fail
        refine (iBt_t _ HB).mono ?_
        rintro e w1 ⟨rfl, hb⟩
        replace bA := bA.keep hb
        replace B0 := below_step B0 hb
        clear hb
        have f0 := bA.c 0 rfl
        have f1 := bA.c 1 rfl
        have f2 := bA.c 2 rfl
        have f3 := bA.c 3 rfl
        have f4 := bA.c 4 rfl
        go_wp2_with fail
        clear f0 f1 f2 f3 f4
        refine (within_t _ HM).mono ?_
        rintro e w1 ⟨rfl, rfl⟩
        have f0 := bA.c 0 rfl
        have f1 := bA.c 1 rfl
        have f2 := bA.c 2 rfl
        have f3 := bA.c 3 rfl
        have f4 := bA.c 4 rfl
        go_wp2_with fail
        clear f0 f1 f2 f3 f4
        refine (within_t _ HH).mono ?_
        rintro e w1 ⟨rfl, rfl⟩
        have f0 := bA.c 0 rfl
        have f1 := bA.c 1 rfl
        have f2 := bA.c 2 rfl
        have f3 := bA.c 3 rfl
        have f4 := bA.c 4 rfl
        go_wp2_with fail
        all_goals
          go_ret
          exact ⟨ret_bool (by have q0 := HB.out; (try unfold beaB at q0); (try unfold inB at q0); (try simp at q0); have q3 := HHn.out; (try unfold beaB at q3); (try unfold inB at q3); (try simp at q3); rw [Bool.eq_iff_iff]; simp [pulB] <;> omega), B0⟩
    · have HM : Hid (inB mu 1 10 = false) := Lib.hid (by simp [inB]; omega)
      have HMn := Lib.hid hmi
      clear hmi
      go_enter Try.func12, Try.ntmps12
      have f0 := bA.c 0 rfl
      have f1 := bA.c 1 rfl
      have f2 := bA.c 2 rfl
      have f3 := bA.c 3 rfl
      have f4 := bA.c 4 rfl
      go_wp2_with fail
      clear f0 f1 f2 f3 f4
      refine (ibeat_any st mi yo he mu _).mono ?_
      rintro e w1 ⟨rfl, hb⟩
      replace bA := bA.keep hb
      replace B0 := below_step B0 hb
      clear hb
      go_wp2_with fail
      refine (iBt_t _ HB).mono ?_
      rintro e w1 ⟨rfl, hb⟩
      replace bA := bA.keep hb
      replace B0 := below_step B0 hb
      clear hb
      have f0 := bA.c 0 rfl
      have f1 := bA.c 1 rfl
      have f2 := bA.c 2 rfl
      have f3 := bA.c 3 rfl
      have f4 := bA.c 4 rfl
      go_wp2_with fail
      clear f0 f1 f2 f3 f4
      refine (within_t _ HM).mono ?_
      rintro e w1 ⟨rfl, rfl⟩
      have f0 := bA.c 0 rfl
      have f1 := bA.c 1 rfl
      have f2 := bA.c 2 rfl
      have f3 := bA.c 3 rfl
      have f4 := bA.c 4 rfl
      go_wp2_with fail
      all_goals
        go_ret
        exact ⟨ret_bool (by have q0 := HB.out; (try unfold beaB at q0); (try unfold inB at q0); (try simp at q0); have q1 := HMn.out; (try unfold beaB at q1); (try unfold inB at q1); (try simp at q1); rw [Bool.eq_iff_iff]; simp [pulB] <;> omega), B0⟩
theorem sPu_t {st mi yo he mu : Int} {b : Bool} (w : World) (H : Hid (pulB st mi yo he mu = b)) : Calls Try.prog 10 #[.agg #[.int .i64 st, .int .i64 mi, .int .i64 yo, .int .i64 he, .int .i64 mu]] w fun e w' => e = .returned (.bool b) ∧ Below w.heap.size w w' := H.out ▸ sPu_any st mi yo he mu w
theorem iPu_t {st mi yo he mu : Int} {b : Bool} (w : World) (H : Hid (pulB st mi yo he mu = b)) : Calls Try.prog 12 #[.agg #[.int .i64 st, .int .i64 mi, .int .i64 yo, .int .i64 he, .int .i64 mu]] w fun e w' => e = .returned (.bool b) ∧ Below w.heap.size w w' := H.out ▸ iPu_any st mi yo he mu w
end Go.Proofs.Ytcbiknmkogbjcaa
