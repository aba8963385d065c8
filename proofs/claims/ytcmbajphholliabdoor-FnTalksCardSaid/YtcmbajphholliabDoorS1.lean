/-
  Configurations: what an argument that is one reads as; contracts of ConfOk of the program and of the model. Conditions: those in each contract.
-/
import Derived.Test.YtcmbajphholliabDoorN8
import Derived.Test.YtcmbajphholliabDoorG2
namespace Go.Proofs.YtcmbajphholliabDoor
open Go.ChangeShapes Go.WideShapes Go.ChangeAt Go.RowKit Go.BigFrame Go.Joins
set_option linter.unusedVariables false
set_option maxRecDepth 100000
set_option linter.unusedSimpArgs false

def Is_Conf (W : World) (v : Value) : Prop := ∃ sa ix ho pe : Int, v = .agg #[.int .i64 sa, .int .i64 ix, .int .i64 ho, .int .i64 pe]
theorem array4Cf {α : Type} {xs : Array α} (h : xs.size = 4) : ∃ c0 c1 c2 c3, xs = #[c0, c1, c2, c3] := by
  obtain ⟨l⟩ := xs
  match l, h with
  | [c0, c1, c2, c3], _ => exact ⟨c0, c1, c2, c3, rfl⟩
theorem list4Cf {α : Type} {xs : List α} (h : xs.length = 4) : ∃ c0 c1 c2 c3, xs = [c0, c1, c2, c3] := by
  match xs, h with
  | [c0, c1, c2, c3], _ => exact ⟨c0, c1, c2, c3, rfl⟩
section
variable {H : Type} {enc : TypeId × Value → H} {W : World} {base : Nat} {d : DataW H} {p : List MemPlace} {v : Value}
theorem cellsI1Cf : Tryd.prog.cellsOf 3 = 1 := by kernel_rfl
end
theorem iopen_any (sa ix ho pe : Int) (w : World) : Calls Tryd.prog 32 #[.agg #[.int .i64 sa, .int .i64 ix, .int .i64 ho, .int .i64 pe]] w fun e w' => e = .returned (.agg #[.int .i64 sa, .int .i64 ho, .int .i64 ix]) ∧ Below w.heap.size w w' := by
  go_enter Tryd.func32, Tryd.ntmps32
  go_wp2
  exact bodyPost_ret (v := .agg #[.int .i64 sa, .int .i64 ho, .int .i64 ix]) (by simp [results, Tryd.results32, go_sem]) rfl ⟨rfl, by first | exact (Below.refl _ _).alloc (Nat.le_refl _) _ | exact ((Below.refl _ _).alloc (Nat.le_refl _) _).alloc (by simp) _⟩
/-- the configuration is valid -/
def cokB (sa ix ho pe : Int) : Bool := valO sa ho ix && (decide (pe = 0) || asB pe)
set_option maxHeartbeats 2000000 in
theorem sCf_any (sa ix ho pe : Int) (w : World) : Calls Tryd.prog 8 #[.agg #[.int .i64 sa, .int .i64 ix, .int .i64 ho, .int .i64 pe]] w fun e w' => e = .returned (.bool (cokB sa ix ho pe)) ∧ Below w.heap.size w w' := by
  obtain ⟨bA, B0, z⟩ := one w [.int .i64 sa, .int .i64 ix, .int .i64 ho, .int .i64 pe] 24
  clear z
  by_cases hac : asB sa = false
  · have HA := Lib.hid hac
    clear hac
    go_enter Tryd.func8, Tryd.ntmps8
    have fa0 := bA.c 0 rfl
    have fa1 := bA.c 1 rfl
    have fa2 := bA.c 2 rfl
    have fa3 := bA.c 3 rfl
    go_wp2_with fail
    clear fa0 fa1 fa2 fa3
    refine (sas_t _ HA).mono ?_
    rintro e w1 ⟨rfl, rfl⟩
    have fa0 := bA.c 0 rfl
    have fa1 := bA.c 1 rfl
    have fa2 := bA.c 2 rfl
    have fa3 := bA.c 3 rfl
    go_wp2_with fail
    all_goals
      go_ret
      exact ⟨ret_bool (by have q0 := HA.out; rw [Bool.eq_iff_iff]; (try unfold cokB  valO  inB); (try rw [HA.out]); simp [cokB, valO, inB, HA.out] <;> omega), B0⟩
  · have HA : Hid (asB sa = true) := Lib.hid (eq_true_of_ne_false hac)
    clear hac
    by_cases a1 : 1 ≤ ix
    · by_cases a2 : ix ≤ 255
      · by_cases a3 : 3 ≤ ho
        · by_cases a4 : ho ≤ 255
          · by_cases a5 : pe = 0
            · have a5b : (pe == 0) = true := by simp [a5]
              have a5n : (pe != 0) = false := by simp [a5]
              have A5 := Lib.hid a5
              clear a5
              go_enter Tryd.func8, Tryd.ntmps8
              have fa0 := bA.c 0 rfl
              have fa1 := bA.c 1 rfl
              have fa2 := bA.c 2 rfl
              have fa3 := bA.c 3 rfl
              go_wp2_with fail
              clear fa0 fa1 fa2 fa3
              refine (sas_t _ HA).mono ?_
              rintro e w1 ⟨rfl, rfl⟩
              have fa0 := bA.c 0 rfl
              have fa1 := bA.c 1 rfl
              have fa2 := bA.c 2 rfl
              have fa3 := bA.c 3 rfl
              go_wp2_with fail
              all_goals
                go_ret
                exact ⟨ret_bool (by have q0 := HA.out; have q5 := A5.out; rw [Bool.eq_iff_iff]; (try unfold cokB  valO  inB); (try rw [HA.out]); simp [cokB, valO, inB, HA.out, a1, a2, a3, a4, A5.out] <;> omega), B0⟩
            · have a5b : (pe == 0) = false := by simp [a5]
              have a5n : (pe != 0) = true := by simp [a5]
              have A5 := Lib.hid a5
              clear a5
              by_cases hpc : asB pe = false
              · have HP := Lib.hid hpc
                clear hpc
                go_enter Tryd.func8, Tryd.ntmps8
                have fa0 := bA.c 0 rfl
                have fa1 := bA.c 1 rfl
                have fa2 := bA.c 2 rfl
                have fa3 := bA.c 3 rfl
                go_wp2_with fail
                clear fa0 fa1 fa2 fa3
                refine (sas_t _ HA).mono ?_
                rintro e w1 ⟨rfl, rfl⟩
                have fa0 := bA.c 0 rfl
                have fa1 := bA.c 1 rfl
                have fa2 := bA.c 2 rfl
                have fa3 := bA.c 3 rfl
                go_wp2_with fail
                clear fa0 fa1 fa2 fa3
                refine (sas_t _ HP).mono ?_
                rintro e w1 ⟨rfl, rfl⟩
                have fa0 := bA.c 0 rfl
                have fa1 := bA.c 1 rfl
                have fa2 := bA.c 2 rfl
                have fa3 := bA.c 3 rfl
                go_wp2_with fail
                all_goals
                  go_ret
                  exact ⟨ret_bool (by have q0 := HA.out; have q5 := A5.out; have q6 := HP.out; rw [Bool.eq_iff_iff]; (try unfold cokB  valO  inB); (try rw [HA.out]); (try rw [HP.out]); simp [cokB, valO, inB, HA.out, a1, a2, a3, a4, A5.out, HP.out] <;> omega), B0⟩
              · have HP : Hid (asB pe = true) := Lib.hid (eq_true_of_ne_false hpc)
                clear hpc
                go_enter Tryd.func8, Tryd.ntmps8
                have fa0 := bA.c 0 rfl
                have fa1 := bA.c 1 rfl
                have fa2 := bA.c 2 rfl
                have fa3 := bA.c 3 rfl
                go_wp2_with fail
                clear fa0 fa1 fa2 fa3
                refine (sas_t _ HA).mono ?_
                rintro e w1 ⟨rfl, rfl⟩
                have fa0 := bA.c 0 rfl
                have fa1 := bA.c 1 rfl
                have fa2 := bA.c 2 rfl
                have fa3 := bA.c 3 rfl
                go_wp2_with fail
                clear fa0 fa1 fa2 fa3
                refine (sas_t _ HP).mono ?_
                rintro e w1 ⟨rfl, rfl⟩
                have fa0 := bA.c 0 rfl
                have fa1 := bA.c 1 rfl
                have fa2 := bA.c 2 rfl
                have fa3 := bA.c 3 rfl
                go_wp2_with fail
                all_goals
                  go_ret
                  exact ⟨ret_bool (by have q0 := HA.out; have q5 := A5.out; have q6 := HP.out; rw [Bool.eq_iff_iff]; (try unfold cokB  valO  inB); (try rw [HA.out]); (try rw [HP.out]); simp [cokB, valO, inB, HA.out, a1, a2, a3, a4, A5.out, HP.out] <;> omega), B0⟩
          · go_enter Tryd.func8, Tryd.ntmps8
            have fa0 := bA.c 0 rfl
            have fa1 := bA.c 1 rfl
            have fa2 := bA.c 2 rfl
            have fa3 := bA.c 3 rfl
            go_wp2_with fail
            clear fa0 fa1 fa2 fa3
            refine (sas_t _ HA).mono ?_
            rintro e w1 ⟨rfl, rfl⟩
            have fa0 := bA.c 0 rfl
            have fa1 := bA.c 1 rfl
            have fa2 := bA.c 2 rfl
            have fa3 := bA.c 3 rfl
            go_wp2_with fail
            all_goals
              go_ret
              exact ⟨ret_bool (by have q0 := HA.out; rw [Bool.eq_iff_iff]; (try unfold cokB  valO  inB); (try rw [HA.out]); simp [cokB, valO, inB, HA.out, a1, a2, a3, a4] <;> omega), B0⟩
        · go_enter Tryd.func8, Tryd.ntmps8
          have fa0 := bA.c 0 rfl
          have fa1 := bA.c 1 rfl
          have fa2 := bA.c 2 rfl
          have fa3 := bA.c 3 rfl
          go_wp2_with fail
          clear fa0 fa1 fa2 fa3
          refine (sas_t _ HA).mono ?_
          rintro e w1 ⟨rfl, rfl⟩
          have fa0 := bA.c 0 rfl
          have fa1 := bA.c 1 rfl
          have fa2 := bA.c 2 rfl
          have fa3 := bA.c 3 rfl
          go_wp2_with fail
          all_goals
            go_ret
            exact ⟨ret_bool (by have q0 := HA.out; rw [Bool.eq_iff_iff]; (try unfold cokB  valO  inB); (try rw [HA.out]); simp [cokB, valO, inB, HA.out, a1, a2, a3] <;> omega), B0⟩
      · go_enter Tryd.func8, Tryd.ntmps8
        have fa0 := bA.c 0 rfl
        have fa1 := bA.c 1 rfl
        have fa2 := bA.c 2 rfl
        have fa3 := bA.c 3 rfl
        go_wp2_with fail
        clear fa0 fa1 fa2 fa3
        refine (sas_t _ HA).mono ?_
        rintro e w1 ⟨rfl, rfl⟩
        have fa0 := bA.c 0 rfl
        have fa1 := bA.c 1 rfl
        have fa2 := bA.c 2 rfl
        have fa3 := bA.c 3 rfl
        go_wp2_with fail
        all_goals
          go_ret
          exact ⟨ret_bool (by have q0 := HA.out; rw [Bool.eq_iff_iff]; (try unfold cokB  valO  inB); (try rw [HA.out]); simp [cokB, valO, inB, HA.out, a1, a2] <;> omega), B0⟩
    · go_enter Tryd.func8, Tryd.ntmps8
      have fa0 := bA.c 0 rfl
      have fa1 := bA.c 1 rfl
      have fa2 := bA.c 2 rfl
      have fa3 := bA.c 3 rfl
      go_wp2_with fail
      clear fa0 fa1 fa2 fa3
      refine (sas_t _ HA).mono ?_
      rintro e w1 ⟨rfl, rfl⟩
      have fa0 := bA.c 0 rfl
      have fa1 := bA.c 1 rfl
      have fa2 := bA.c 2 rfl
      have fa3 := bA.c 3 rfl
      go_wp2_with fail
      all_goals
        go_ret
        exact ⟨ret_bool (by have q0 := HA.out; rw [Bool.eq_iff_iff]; (try unfold cokB  valO  inB); (try rw [HA.out]); simp [cokB, valO, inB, HA.out, a1] <;> omega), B0⟩
set_option maxHeartbeats 2000000 in
theorem iCf_any (sa ix ho pe : Int) (w : World) : Calls Tryd.prog 10 #[.agg #[.int .i64 sa, .int .i64 ix, .int .i64 ho, .int .i64 pe]] w fun e w' => e = .returned (.bool (cokB sa ix ho pe)) ∧ Below w.heap.size w w' := by
  obtain ⟨bA, B0, z⟩ := one w [.int .i64 sa, .int .i64 ix, .int .i64 ho, .int .i64 pe] 24
  clear z
  by_cases hvc : valO sa ho ix = false
  · have HV := Lib.hid hvc
    clear hvc
    go_enter Tryd.func10, Tryd.ntmps10
    have fa0 := bA.c 0 rfl
    have fa1 := bA.c 1 rfl
    have fa2 := bA.c 2 rfl
    have fa3 := bA.c 3 rfl
    go_wp2_with fail
    clear fa0 fa1 fa2 fa3
    refine (iopen_any sa ix ho pe _).mono ?_
    rintro e w1 ⟨rfl, hb⟩
    replace bA := bA.keep hb
    replace B0 := below_step B0 hb
    clear hb
    have fa0 := bA.c 0 rfl
    have fa1 := bA.c 1 rfl
    have fa2 := bA.c 2 rfl
    have fa3 := bA.c 3 rfl
    go_wp2_with fail
    clear fa0 fa1 fa2 fa3
    refine (ivalO_t _ HV).mono ?_
    rintro e w1 ⟨rfl, hb⟩
    replace bA := bA.keep hb
    replace B0 := below_step B0 hb
    clear hb
    have fa0 := bA.c 0 rfl
    have fa1 := bA.c 1 rfl
    have fa2 := bA.c 2 rfl
    have fa3 := bA.c 3 rfl
    go_wp2_with fail
    all_goals
      go_ret
      exact ⟨ret_bool (by have q0 := HV.out; rw [Bool.eq_iff_iff]; (try unfold cokB); (try rw [HV.out]); simp [cokB, HV.out] <;> omega), B0⟩
  · have HV : Hid (valO sa ho ix = true) := Lib.hid (eq_true_of_ne_false hvc)
    clear hvc
    by_cases a5 : pe = 0
    · have a5b : (pe == 0) = true := by simp [a5]
      have a5n : (pe != 0) = false := by simp [a5]
      have A5 := Lib.hid a5
      clear a5
      go_enter Tryd.func10, Tryd.ntmps10
      have fa0 := bA.c 0 rfl
      have fa1 := bA.c 1 rfl
      have fa2 := bA.c 2 rfl
      have fa3 := bA.c 3 rfl
      go_wp2_with fail
      clear fa0 fa1 fa2 fa3
      refine (iopen_any sa ix ho pe _).mono ?_
      rintro e w1 ⟨rfl, hb⟩
      replace bA := bA.keep hb
      replace B0 := below_step B0 hb
      clear hb
      have fa0 := bA.c 0 rfl
      have fa1 := bA.c 1 rfl
      have fa2 := bA.c 2 rfl
      have fa3 := bA.c 3 rfl
      go_wp2_with fail
      clear fa0 fa1 fa2 fa3
      refine (ivalO_t _ HV).mono ?_
      rintro e w1 ⟨rfl, hb⟩
      replace bA := bA.keep hb
      replace B0 := below_step B0 hb
      clear hb
      have fa0 := bA.c 0 rfl
      have fa1 := bA.c 1 rfl
      have fa2 := bA.c 2 rfl
      have fa3 := bA.c 3 rfl
      go_wp2_with fail
      all_goals
        go_ret
        exact ⟨ret_bool (by have q0 := HV.out; have q1 := A5.out; rw [Bool.eq_iff_iff]; (try unfold cokB); (try rw [HV.out]); simp [cokB, HV.out, A5.out] <;> omega), B0⟩
    · have a5b : (pe == 0) = false := by simp [a5]
      have a5n : (pe != 0) = true := by simp [a5]
      have A5 := Lib.hid a5
      clear a5
      by_cases hpc : asB pe = false
      · have HP := Lib.hid hpc
        clear hpc
        go_enter Tryd.func10, Tryd.ntmps10
        have fa0 := bA.c 0 rfl
        have fa1 := bA.c 1 rfl
        have fa2 := bA.c 2 rfl
        have fa3 := bA.c 3 rfl
        go_wp2_with fail
        clear fa0 fa1 fa2 fa3
        refine (iopen_any sa ix ho pe _).mono ?_
        rintro e w1 ⟨rfl, hb⟩
        replace bA := bA.keep hb
        replace B0 := below_step B0 hb
        clear hb
        have fa0 := bA.c 0 rfl
        have fa1 := bA.c 1 rfl
        have fa2 := bA.c 2 rfl
        have fa3 := bA.c 3 rfl
        go_wp2_with fail
        clear fa0 fa1 fa2 fa3
        refine (ivalO_t _ HV).mono ?_
        rintro e w1 ⟨rfl, hb⟩
        replace bA := bA.keep hb
        replace B0 := below_step B0 hb
        clear hb
        have fa0 := bA.c 0 rfl
        have fa1 := bA.c 1 rfl
        have fa2 := bA.c 2 rfl
        have fa3 := bA.c 3 rfl
        go_wp2_with fail
        clear fa0 fa1 fa2 fa3
        refine (numok_t _ HP).mono ?_
        rintro e w1 ⟨rfl, rfl⟩
        have fa0 := bA.c 0 rfl
        have fa1 := bA.c 1 rfl
        have fa2 := bA.c 2 rfl
        have fa3 := bA.c 3 rfl
        go_wp2_with fail
        all_goals
          go_ret
          exact ⟨ret_bool (by have q0 := HV.out; have q1 := A5.out; have q2 := HP.out; rw [Bool.eq_iff_iff]; (try unfold cokB); (try rw [HV.out]); (try rw [HP.out]); simp [cokB, HV.out, A5.out, HP.out] <;> omega), B0⟩
      · have HP : Hid (asB pe = true) := Lib.hid (eq_true_of_ne_false hpc)
        clear hpc
        go_enter Tryd.func10, Tryd.ntmps10
        have fa0 := bA.c 0 rfl
        have fa1 := bA.c 1 rfl
        have fa2 := bA.c 2 rfl
        have fa3 := bA.c 3 rfl
        go_wp2_with fail
        clear fa0 fa1 fa2 fa3
        refine (iopen_any sa ix ho pe _).mono ?_
        rintro e w1 ⟨rfl, hb⟩
        replace bA := bA.keep hb
        replace B0 := below_step B0 hb
        clear hb
        have fa0 := bA.c 0 rfl
        have fa1 := bA.c 1 rfl
        have fa2 := bA.c 2 rfl
        have fa3 := bA.c 3 rfl
        go_wp2_with fail
        clear fa0 fa1 fa2 fa3
        refine (ivalO_t _ HV).mono ?_
        rintro e w1 ⟨rfl, hb⟩
        replace bA := bA.keep hb
        replace B0 := below_step B0 hb
        clear hb
        have fa0 := bA.c 0 rfl
        have fa1 := bA.c 1 rfl
        have fa2 := bA.c 2 rfl
        have fa3 := bA.c 3 rfl
        go_wp2_with fail
        clear fa0 fa1 fa2 fa3
        refine (numok_t _ HP).mono ?_
        rintro e w1 ⟨rfl, rfl⟩
        have fa0 := bA.c 0 rfl
        have fa1 := bA.c 1 rfl
        have fa2 := bA.c 2 rfl
        have fa3 := bA.c 3 rfl
        go_wp2_with fail
        all_goals
          go_ret
          exact ⟨ret_bool (by have q0 := HV.out; have q1 := A5.out; have q2 := HP.out; rw [Bool.eq_iff_iff]; (try unfold cokB); (try rw [HV.out]); (try rw [HP.out]); simp [cokB, HV.out, A5.out, HP.out] <;> omega), B0⟩
end Go.Proofs.YtcmbajphholliabDoor
