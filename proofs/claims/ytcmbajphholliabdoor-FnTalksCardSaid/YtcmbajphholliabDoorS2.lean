/-
  Sessions: what an argument that is one reads as; contracts of SessionOk of the program and of the model. Conditions: those in each contract.
-/
import Derived.Test.YtcmbajphholliabDoorS1
namespace Go.Proofs.YtcmbajphholliabDoor
open Go.ChangeShapes Go.WideShapes Go.ChangeAt Go.RowKit Go.BigFrame Go.Joins
set_option linter.unusedVariables false
set_option maxRecDepth 100000
set_option linter.unusedSimpArgs false

def Is_Session (W : World) (v : Value) : Prop := ∃ st hd he ke pr : Int, v = .agg #[.int .i64 st, .int .i64 hd, .int .i64 he, .int .i64 ke, .int .i64 pr]
theorem array5Ss {α : Type} {xs : Array α} (h : xs.size = 5) : ∃ c0 c1 c2 c3 c4, xs = #[c0, c1, c2, c3, c4] := by
  obtain ⟨l⟩ := xs
  match l, h with
  | [c0, c1, c2, c3, c4], _ => exact ⟨c0, c1, c2, c3, c4, rfl⟩
theorem list5Ss {α : Type} {xs : List α} (h : xs.length = 5) : ∃ c0 c1 c2 c3 c4, xs = [c0, c1, c2, c3, c4] := by
  match xs, h with
  | [c0, c1, c2, c3, c4], _ => exact ⟨c0, c1, c2, c3, c4, rfl⟩
section
variable {H : Type} {enc : TypeId × Value → H} {W : World} {base : Nat} {d : DataW H} {p : List MemPlace} {v : Value}
theorem cellsI1Ss : Tryd.prog.cellsOf 3 = 1 := by kernel_rfl
end
/-- the session is valid -/
def sesB (sa ix ho pe st hd he ke pr : Int) : Bool :=
  decide (cokB sa ix ho pe = true ∧ 0 ≤ st ∧ st ≤ 4 ∧ (¬ 2 ≤ st → hd = 0 ∧ he = 0 ∧ ke = 0 ∧ pr = 0) ∧
    (2 ≤ st → 3 ≤ hd ∧ hd ≤ ho ∧ 0 ≤ he ∧ he < hd ∧ (st = 2 → hd = ho ∧ ke = 0 ∧ pr = 0) ∧ (¬ st = 2 → 1 ≤ ke ∧ ke ≤ hd / 3 ∧ asB pr = true ∧ (pe = 0 ∨ pr = pe))))
theorem cokB_ho {sa ix ho pe : Int} (h : cokB sa ix ho pe = true) : 3 ≤ ho ∧ ho ≤ 255 := by
  unfold cokB valO inB at h
  simp at h
  exact h.1.1.2
theorem sCf_t {sa ix ho pe : Int} {b : Bool} (w : World) (H : Hid (cokB sa ix ho pe = b)) : Calls Tryd.prog 8 #[.agg #[.int .i64 sa, .int .i64 ix, .int .i64 ho, .int .i64 pe]] w fun e w' => e = .returned (.bool b) ∧ Below w.heap.size w w' := H.out ▸ sCf_any sa ix ho pe w
theorem iCf_t {sa ix ho pe : Int} {b : Bool} (w : World) (H : Hid (cokB sa ix ho pe = b)) : Calls Tryd.prog 10 #[.agg #[.int .i64 sa, .int .i64 ix, .int .i64 ho, .int .i64 pe]] w fun e w' => e = .returned (.bool b) ∧ Below w.heap.size w w' := H.out ▸ iCf_any sa ix ho pe w
theorem ialw_any (sa ix ho pe pr : Int) (w : World) : Calls Tryd.prog 37 #[.agg #[.int .i64 sa, .int .i64 ix, .int .i64 ho, .int .i64 pe], .int .i64 pr] w fun e w' => e = .returned (.bool (decide (pe = 0) || decide (pe = pr))) ∧ Below w.heap.size w w' := by
  obtain ⟨bA, B0, z⟩ := one w [.int .i64 sa, .int .i64 ix, .int .i64 ho, .int .i64 pe] 24
  clear z
  by_cases z0 : pe = 0
  · have z0b : (pe == 0) = true := by simp [z0]
    have z0n : (pe != 0) = false := by simp [z0]
    have Z0 := Lib.hid z0
    clear z0
    go_enter Tryd.func37, Tryd.ntmps37
    have fa0 := bA.c 0 rfl
    have fa1 := bA.c 1 rfl
    have fa2 := bA.c 2 rfl
    have fa3 := bA.c 3 rfl
    go_wp2_with fail
    all_goals
      go_ret
      exact ⟨ret_bool (by have q0 := Z0.out; rw [Bool.eq_iff_iff]; (try unfold Bool.or_eq_true); simp [Bool.or_eq_true, Z0.out] <;> omega), B0⟩
  · have z0b : (pe == 0) = false := by simp [z0]
    have z0n : (pe != 0) = true := by simp [z0]
    have Z0 := Lib.hid z0
    clear z0
    by_cases z1 : pe = pr
    · have z1b : (pe == pr) = true := by simp [z1]
      have z1n : (pe != pr) = false := by simp [z1]
      have Z1 := Lib.hid z1
      clear z1
      go_enter Tryd.func37, Tryd.ntmps37
      have fa0 := bA.c 0 rfl
      have fa1 := bA.c 1 rfl
      have fa2 := bA.c 2 rfl
      have fa3 := bA.c 3 rfl
      go_wp2_with fail
      all_goals
        go_ret
        exact ⟨ret_bool (by have q0 := Z0.out; have q1 := Z1.out; rw [Bool.eq_iff_iff]; (try unfold Bool.or_eq_true); simp [Bool.or_eq_true, Z0.out, Z1.out] <;> omega), B0⟩
    · have z1b : (pe == pr) = false := by simp [z1]
      have z1n : (pe != pr) = true := by simp [z1]
      have Z1 := Lib.hid z1
      clear z1
      go_enter Tryd.func37, Tryd.ntmps37
      have fa0 := bA.c 0 rfl
      have fa1 := bA.c 1 rfl
      have fa2 := bA.c 2 rfl
      have fa3 := bA.c 3 rfl
      go_wp2_with fail
      all_goals
        go_ret
        exact ⟨ret_bool (by have q0 := Z0.out; have q1 := Z1.out; rw [Bool.eq_iff_iff]; (try unfold Bool.or_eq_true); simp [Bool.or_eq_true, Z0.out, Z1.out] <;> omega), B0⟩
theorem ialw_t {sa ix ho pe pr : Int} {b : Bool} (w : World) (H : Hid ((decide (pe = 0) || decide (pe = pr)) = b)) : Calls Tryd.prog 37 #[.agg #[.int .i64 sa, .int .i64 ix, .int .i64 ho, .int .i64 pe], .int .i64 pr] w fun e w' => e = .returned (.bool b) ∧ Below w.heap.size w w' := H.out ▸ ialw_any sa ix ho pe pr w
set_option maxHeartbeats 8000000 in
theorem iSs_any (sa ix ho pe st hd he ke pr : Int) (w : World) : Calls Tryd.prog 13 #[.agg #[.int .i64 sa, .int .i64 ix, .int .i64 ho, .int .i64 pe], .agg #[.int .i64 st, .int .i64 hd, .int .i64 he, .int .i64 ke, .int .i64 pr]] w fun e w' => e = .returned (.bool (sesB sa ix ho pe st hd he ke pr)) ∧ Below w.heap.size w w' := by
  obtain ⟨bA, bS, B0, z⟩ := two w [.int .i64 sa, .int .i64 ix, .int .i64 ho, .int .i64 pe] [.int .i64 st, .int .i64 hd, .int .i64 he, .int .i64 ke, .int .i64 pr] 24 28
  clear z
  by_cases hcc : cokB sa ix ho pe = false
  · have HC := Lib.hid hcc
    clear hcc
    go_enter Tryd.func13, Tryd.ntmps13
    have fa0 := bA.c 0 rfl
    have fa1 := bA.c 1 rfl
    have fa2 := bA.c 2 rfl
    have fa3 := bA.c 3 rfl
    have fs0 := bS.c 0 rfl
    have fs1 := bS.c 1 rfl
    have fs2 := bS.c 2 rfl
    have fs3 := bS.c 3 rfl
    have fs4 := bS.c 4 rfl
    go_wp2_with fail
    clear fa0 fa1 fa2 fa3 fs0 fs1 fs2 fs3 fs4
    refine (iCf_t _ HC).mono ?_
    rintro e w1 ⟨rfl, hb⟩
    replace bA := bA.keep hb
    replace bS := bS.keep hb
    replace B0 := below_step B0 hb
    clear hb
    have fa0 := bA.c 0 rfl
    have fa1 := bA.c 1 rfl
    have fa2 := bA.c 2 rfl
    have fa3 := bA.c 3 rfl
    have fs0 := bS.c 0 rfl
    have fs1 := bS.c 1 rfl
    have fs2 := bS.c 2 rfl
    have fs3 := bS.c 3 rfl
    have fs4 := bS.c 4 rfl
    go_wp2_with fail
    all_goals
      go_ret
      exact ⟨ret_bool (by have q0 := HC.out; rw [Bool.eq_iff_iff]; (try unfold sesB); (try rw [HC.out]); simp [sesB, HC.out] <;> omega), B0⟩
  · have HC : Hid (cokB sa ix ho pe = true) := Lib.hid (eq_true_of_ne_false hcc)
    clear hcc
    have ho1 := cokB_ho HC.out
    by_cases hii : 0 ≤ st ∧ st ≤ 4
    · have HI : Hid (inB st 0 4 = true) := Lib.hid (inB_iff.mpr hii)
      obtain ⟨hii1, hii2⟩ := hii
      by_cases a3 : 2 ≤ st
      · by_cases hhi : 3 ≤ hd ∧ hd ≤ ho
        · have HH : Hid (inB hd 3 ho = true) := Lib.hid (inB_iff.mpr hhi)
          obtain ⟨hhi1, hhi2⟩ := hhi
          have hw1 : IntKind.i64.wrap (hd - 1) = hd - 1 := wrap64_in _ (by omega) (by omega)
          by_cases hei : 0 ≤ he ∧ he ≤ (hd - 1)
          · have HE : Hid (inB he 0 (hd - 1) = true) := Lib.hid (inB_iff.mpr hei)
            obtain ⟨hei1, hei2⟩ := hei
            have hlt : he < hd := by omega
            by_cases a8 : st = 2
            · have a8b : (st == 2) = true := by simp [a8]
              have a8n : (st != 2) = false := by simp [a8]
              have A8 := Lib.hid a8
              clear a8
              by_cases s1 : hd = ho
              · have s1b : (hd == ho) = true := by simp [s1]
                have s1n : (hd != ho) = false := by simp [s1]
                have S1 := Lib.hid s1
                clear s1
                by_cases s2 : ke = 0
                · have s2b : (ke == 0) = true := by simp [s2]
                  have s2n : (ke != 0) = false := by simp [s2]
                  have S2 := Lib.hid s2
                  clear s2
                  by_cases s3 : pr = 0
                  · have s3b : (pr == 0) = true := by simp [s3]
                    have s3n : (pr != 0) = false := by simp [s3]
                    have S3 := Lib.hid s3
                    clear s3
                    go_enter Tryd.func13, Tryd.ntmps13
                    have fa0 := bA.c 0 rfl
                    have fa1 := bA.c 1 rfl
                    have fa2 := bA.c 2 rfl
                    have fa3 := bA.c 3 rfl
                    have fs0 := bS.c 0 rfl
                    have fs1 := bS.c 1 rfl
                    have fs2 := bS.c 2 rfl
                    have fs3 := bS.c 3 rfl
                    have fs4 := bS.c 4 rfl
                    go_wp2_with fail
                    clear fa0 fa1 fa2 fa3 fs0 fs1 fs2 fs3 fs4
                    refine (iCf_t _ HC).mono ?_
                    rintro e w1 ⟨rfl, hb⟩
                    replace bA := bA.keep hb
                    replace bS := bS.keep hb
                    replace B0 := below_step B0 hb
                    clear hb
                    have fa0 := bA.c 0 rfl
                    have fa1 := bA.c 1 rfl
                    have fa2 := bA.c 2 rfl
                    have fa3 := bA.c 3 rfl
                    have fs0 := bS.c 0 rfl
                    have fs1 := bS.c 1 rfl
                    have fs2 := bS.c 2 rfl
                    have fs3 := bS.c 3 rfl
                    have fs4 := bS.c 4 rfl
                    go_wp2_with fail
                    clear fa0 fa1 fa2 fa3 fs0 fs1 fs2 fs3 fs4
                    refine (within_t _ HI).mono ?_
                    rintro e w1 ⟨rfl, rfl⟩
                    have fa0 := bA.c 0 rfl
                    have fa1 := bA.c 1 rfl
                    have fa2 := bA.c 2 rfl
                    have fa3 := bA.c 3 rfl
                    have fs0 := bS.c 0 rfl
                    have fs1 := bS.c 1 rfl
                    have fs2 := bS.c 2 rfl
                    have fs3 := bS.c 3 rfl
                    have fs4 := bS.c 4 rfl
                    go_wp2_with fail
                    clear fa0 fa1 fa2 fa3 fs0 fs1 fs2 fs3 fs4
                    refine (within_t _ HH).mono ?_
                    rintro e w1 ⟨rfl, rfl⟩
                    have fa0 := bA.c 0 rfl
                    have fa1 := bA.c 1 rfl
                    have fa2 := bA.c 2 rfl
                    have fa3 := bA.c 3 rfl
                    have fs0 := bS.c 0 rfl
                    have fs1 := bS.c 1 rfl
                    have fs2 := bS.c 2 rfl
                    have fs3 := bS.c 3 rfl
                    have fs4 := bS.c 4 rfl
                    go_wp2_with fail
                    clear fa0 fa1 fa2 fa3 fs0 fs1 fs2 fs3 fs4
                    refine (within_t _ HE).mono ?_
                    rintro e w1 ⟨rfl, rfl⟩
                    have fa0 := bA.c 0 rfl
                    have fa1 := bA.c 1 rfl
                    have fa2 := bA.c 2 rfl
                    have fa3 := bA.c 3 rfl
                    have fs0 := bS.c 0 rfl
                    have fs1 := bS.c 1 rfl
                    have fs2 := bS.c 2 rfl
                    have fs3 := bS.c 3 rfl
                    have fs4 := bS.c 4 rfl
                    go_wp2_with fail
                    all_goals
                      go_ret
                      exact ⟨ret_bool (by have q0 := HC.out; have q8 := A8.out; have q9 := S1.out; have q10 := S2.out; have q11 := S3.out; rw [Bool.eq_iff_iff]; (try unfold sesB); (try rw [HC.out]); simp [sesB, HC.out, hii1, hii2, a3, hhi1, hhi2, hei1, hei2, A8.out, S1.out, S2.out, S3.out] <;> omega), B0⟩
                  · have s3b : (pr == 0) = false := by simp [s3]
                    have s3n : (pr != 0) = true := by simp [s3]
                    have S3 := Lib.hid s3
                    clear s3
                    go_enter Tryd.func13, Tryd.ntmps13
                    have fa0 := bA.c 0 rfl
                    have fa1 := bA.c 1 rfl
                    have fa2 := bA.c 2 rfl
                    have fa3 := bA.c 3 rfl
                    have fs0 := bS.c 0 rfl
                    have fs1 := bS.c 1 rfl
                    have fs2 := bS.c 2 rfl
                    have fs3 := bS.c 3 rfl
                    have fs4 := bS.c 4 rfl
                    go_wp2_with fail
                    clear fa0 fa1 fa2 fa3 fs0 fs1 fs2 fs3 fs4
                    refine (iCf_t _ HC).mono ?_
                    rintro e w1 ⟨rfl, hb⟩
                    replace bA := bA.keep hb
                    replace bS := bS.keep hb
                    replace B0 := below_step B0 hb
                    clear hb
                    have fa0 := bA.c 0 rfl
                    have fa1 := bA.c 1 rfl
                    have fa2 := bA.c 2 rfl
                    have fa3 := bA.c 3 rfl
                    have fs0 := bS.c 0 rfl
                    have fs1 := bS.c 1 rfl
                    have fs2 := bS.c 2 rfl
                    have fs3 := bS.c 3 rfl
                    have fs4 := bS.c 4 rfl
                    go_wp2_with fail
                    clear fa0 fa1 fa2 fa3 fs0 fs1 fs2 fs3 fs4
                    refine (within_t _ HI).mono ?_
                    rintro e w1 ⟨rfl, rfl⟩
                    have fa0 := bA.c 0 rfl
                    have fa1 := bA.c 1 rfl
                    have fa2 := bA.c 2 rfl
                    have fa3 := bA.c 3 rfl
                    have fs0 := bS.c 0 rfl
                    have fs1 := bS.c 1 rfl
                    have fs2 := bS.c 2 rfl
                    have fs3 := bS.c 3 rfl
                    have fs4 := bS.c 4 rfl
                    go_wp2_with fail
                    clear fa0 fa1 fa2 fa3 fs0 fs1 fs2 fs3 fs4
                    refine (within_t _ HH).mono ?_
                    rintro e w1 ⟨rfl, rfl⟩
                    have fa0 := bA.c 0 rfl
                    have fa1 := bA.c 1 rfl
                    have fa2 := bA.c 2 rfl
                    have fa3 := bA.c 3 rfl
                    have fs0 := bS.c 0 rfl
                    have fs1 := bS.c 1 rfl
                    have fs2 := bS.c 2 rfl
                    have fs3 := bS.c 3 rfl
                    have fs4 := bS.c 4 rfl
                    go_wp2_with fail
                    clear fa0 fa1 fa2 fa3 fs0 fs1 fs2 fs3 fs4
                    refine (within_t _ HE).mono ?_
                    rintro e w1 ⟨rfl, rfl⟩
                    have fa0 := bA.c 0 rfl
                    have fa1 := bA.c 1 rfl
                    have fa2 := bA.c 2 rfl
                    have fa3 := bA.c 3 rfl
                    have fs0 := bS.c 0 rfl
                    have fs1 := bS.c 1 rfl
                    have fs2 := bS.c 2 rfl
                    have fs3 := bS.c 3 rfl
                    have fs4 := bS.c 4 rfl
                    go_wp2_with fail
                    all_goals
                      go_ret
                      exact ⟨ret_bool (by have q0 := HC.out; have q8 := A8.out; have q9 := S1.out; have q10 := S2.out; have q11 := S3.out; rw [Bool.eq_iff_iff]; (try unfold sesB); (try rw [HC.out]); simp [sesB, HC.out, hii1, hii2, a3, hhi1, hhi2, hei1, hei2, A8.out, S1.out, S2.out, S3.out] <;> omega), B0⟩
                · have s2b : (ke == 0) = false := by simp [s2]
                  have s2n : (ke != 0) = true := by simp [s2]
                  have S2 := Lib.hid s2
                  clear s2
                  go_enter Tryd.func13, Tryd.ntmps13
                  have fa0 := bA.c 0 rfl
                  have fa1 := bA.c 1 rfl
                  have fa2 := bA.c 2 rfl
                  have fa3 := bA.c 3 rfl
                  have fs0 := bS.c 0 rfl
                  have fs1 := bS.c 1 rfl
                  have fs2 := bS.c 2 rfl
                  have fs3 := bS.c 3 rfl
                  have fs4 := bS.c 4 rfl
                  go_wp2_with fail
                  clear fa0 fa1 fa2 fa3 fs0 fs1 fs2 fs3 fs4
                  refine (iCf_t _ HC).mono ?_
                  rintro e w1 ⟨rfl, hb⟩
                  replace bA := bA.keep hb
                  replace bS := bS.keep hb
                  replace B0 := below_step B0 hb
                  clear hb
                  have fa0 := bA.c 0 rfl
                  have fa1 := bA.c 1 rfl
                  have fa2 := bA.c 2 rfl
                  have fa3 := bA.c 3 rfl
                  have fs0 := bS.c 0 rfl
                  have fs1 := bS.c 1 rfl
                  have fs2 := bS.c 2 rfl
                  have fs3 := bS.c 3 rfl
                  have fs4 := bS.c 4 rfl
                  go_wp2_with fail
                  clear fa0 fa1 fa2 fa3 fs0 fs1 fs2 fs3 fs4
                  refine (within_t _ HI).mono ?_
                  rintro e w1 ⟨rfl, rfl⟩
                  have fa0 := bA.c 0 rfl
                  have fa1 := bA.c 1 rfl
                  have fa2 := bA.c 2 rfl
                  have fa3 := bA.c 3 rfl
                  have fs0 := bS.c 0 rfl
                  have fs1 := bS.c 1 rfl
                  have fs2 := bS.c 2 rfl
                  have fs3 := bS.c 3 rfl
                  have fs4 := bS.c 4 rfl
                  go_wp2_with fail
                  clear fa0 fa1 fa2 fa3 fs0 fs1 fs2 fs3 fs4
                  refine (within_t _ HH).mono ?_
                  rintro e w1 ⟨rfl, rfl⟩
                  have fa0 := bA.c 0 rfl
                  have fa1 := bA.c 1 rfl
                  have fa2 := bA.c 2 rfl
                  have fa3 := bA.c 3 rfl
                  have fs0 := bS.c 0 rfl
                  have fs1 := bS.c 1 rfl
                  have fs2 := bS.c 2 rfl
                  have fs3 := bS.c 3 rfl
                  have fs4 := bS.c 4 rfl
                  go_wp2_with fail
                  clear fa0 fa1 fa2 fa3 fs0 fs1 fs2 fs3 fs4
                  refine (within_t _ HE).mono ?_
                  rintro e w1 ⟨rfl, rfl⟩
                  have fa0 := bA.c 0 rfl
                  have fa1 := bA.c 1 rfl
                  have fa2 := bA.c 2 rfl
                  have fa3 := bA.c 3 rfl
                  have fs0 := bS.c 0 rfl
                  have fs1 := bS.c 1 rfl
                  have fs2 := bS.c 2 rfl
                  have fs3 := bS.c 3 rfl
                  have fs4 := bS.c 4 rfl
                  go_wp2_with fail
                  all_goals
                    go_ret
                    exact ⟨ret_bool (by have q0 := HC.out; have q8 := A8.out; have q9 := S1.out; have q10 := S2.out; rw [Bool.eq_iff_iff]; (try unfold sesB); (try rw [HC.out]); simp [sesB, HC.out, hii1, hii2, a3, hhi1, hhi2, hei1, hei2, A8.out, S1.out, S2.out] <;> omega), B0⟩
              · have s1b : (hd == ho) = false := by simp [s1]
                have s1n : (hd != ho) = true := by simp [s1]
                have S1 := Lib.hid s1
                clear s1
                go_enter Tryd.func13, Tryd.ntmps13
                have fa0 := bA.c 0 rfl
                have fa1 := bA.c 1 rfl
                have fa2 := bA.c 2 rfl
                have fa3 := bA.c 3 rfl
                have fs0 := bS.c 0 rfl
                have fs1 := bS.c 1 rfl
                have fs2 := bS.c 2 rfl
                have fs3 := bS.c 3 rfl
                have fs4 := bS.c 4 rfl
                go_wp2_with fail
                clear fa0 fa1 fa2 fa3 fs0 fs1 fs2 fs3 fs4
                refine (iCf_t _ HC).mono ?_
                rintro e w1 ⟨rfl, hb⟩
                replace bA := bA.keep hb
                replace bS := bS.keep hb
                replace B0 := below_step B0 hb
                clear hb
                have fa0 := bA.c 0 rfl
                have fa1 := bA.c 1 rfl
                have fa2 := bA.c 2 rfl
                have fa3 := bA.c 3 rfl
                have fs0 := bS.c 0 rfl
                have fs1 := bS.c 1 rfl
                have fs2 := bS.c 2 rfl
                have fs3 := bS.c 3 rfl
                have fs4 := bS.c 4 rfl
                go_wp2_with fail
                clear fa0 fa1 fa2 fa3 fs0 fs1 fs2 fs3 fs4
                refine (within_t _ HI).mono ?_
                rintro e w1 ⟨rfl, rfl⟩
                have fa0 := bA.c 0 rfl
                have fa1 := bA.c 1 rfl
                have fa2 := bA.c 2 rfl
                have fa3 := bA.c 3 rfl
                have fs0 := bS.c 0 rfl
                have fs1 := bS.c 1 rfl
                have fs2 := bS.c 2 rfl
                have fs3 := bS.c 3 rfl
                have fs4 := bS.c 4 rfl
                go_wp2_with fail
                clear fa0 fa1 fa2 fa3 fs0 fs1 fs2 fs3 fs4
                refine (within_t _ HH).mono ?_
                rintro e w1 ⟨rfl, rfl⟩
                have fa0 := bA.c 0 rfl
                have fa1 := bA.c 1 rfl
                have fa2 := bA.c 2 rfl
                have fa3 := bA.c 3 rfl
                have fs0 := bS.c 0 rfl
                have fs1 := bS.c 1 rfl
                have fs2 := bS.c 2 rfl
                have fs3 := bS.c 3 rfl
                have fs4 := bS.c 4 rfl
                go_wp2_with fail
                clear fa0 fa1 fa2 fa3 fs0 fs1 fs2 fs3 fs4
                refine (within_t _ HE).mono ?_
                rintro e w1 ⟨rfl, rfl⟩
                have fa0 := bA.c 0 rfl
                have fa1 := bA.c 1 rfl
                have fa2 := bA.c 2 rfl
                have fa3 := bA.c 3 rfl
                have fs0 := bS.c 0 rfl
                have fs1 := bS.c 1 rfl
                have fs2 := bS.c 2 rfl
                have fs3 := bS.c 3 rfl
                have fs4 := bS.c 4 rfl
                go_wp2_with fail
                all_goals
                  go_ret
                  exact ⟨ret_bool (by have q0 := HC.out; have q8 := A8.out; have q9 := S1.out; rw [Bool.eq_iff_iff]; (try unfold sesB); (try rw [HC.out]); simp [sesB, HC.out, hii1, hii2, a3, hhi1, hhi2, hei1, hei2, A8.out, S1.out] <;> omega), B0⟩
            · have a8b : (st == 2) = false := by simp [a8]
              have a8n : (st != 2) = true := by simp [a8]
              have A8 := Lib.hid a8
              clear a8
              have hd3 : Int.tdiv hd 3 = hd / 3 := by rw [Int.tdiv_eq_ediv_of_nonneg (by omega)]
              by_cases hki : 1 ≤ ke ∧ ke ≤ (hd / 3)
              · have HK : Hid (inB ke 1 (hd / 3) = true) := Lib.hid (inB_iff.mpr hki)
                obtain ⟨hki1, hki2⟩ := hki
                by_cases hpc : asB pr = false
                · have HP := Lib.hid hpc
                  clear hpc
                  go_enter Tryd.func13, Tryd.ntmps13
                  have fa0 := bA.c 0 rfl
                  have fa1 := bA.c 1 rfl
                  have fa2 := bA.c 2 rfl
                  have fa3 := bA.c 3 rfl
                  have fs0 := bS.c 0 rfl
                  have fs1 := bS.c 1 rfl
                  have fs2 := bS.c 2 rfl
                  have fs3 := bS.c 3 rfl
                  have fs4 := bS.c 4 rfl
                  go_wp2_with fail
                  clear fa0 fa1 fa2 fa3 fs0 fs1 fs2 fs3 fs4
                  refine (iCf_t _ HC).mono ?_
                  rintro e w1 ⟨rfl, hb⟩
                  replace bA := bA.keep hb
                  replace bS := bS.keep hb
                  replace B0 := below_step B0 hb
                  clear hb
                  have fa0 := bA.c 0 rfl
                  have fa1 := bA.c 1 rfl
                  have fa2 := bA.c 2 rfl
                  have fa3 := bA.c 3 rfl
                  have fs0 := bS.c 0 rfl
                  have fs1 := bS.c 1 rfl
                  have fs2 := bS.c 2 rfl
                  have fs3 := bS.c 3 rfl
                  have fs4 := bS.c 4 rfl
                  go_wp2_with fail
                  clear fa0 fa1 fa2 fa3 fs0 fs1 fs2 fs3 fs4
                  refine (within_t _ HI).mono ?_
                  rintro e w1 ⟨rfl, rfl⟩
                  have fa0 := bA.c 0 rfl
                  have fa1 := bA.c 1 rfl
                  have fa2 := bA.c 2 rfl
                  have fa3 := bA.c 3 rfl
                  have fs0 := bS.c 0 rfl
                  have fs1 := bS.c 1 rfl
                  have fs2 := bS.c 2 rfl
                  have fs3 := bS.c 3 rfl
                  have fs4 := bS.c 4 rfl
                  go_wp2_with fail
                  clear fa0 fa1 fa2 fa3 fs0 fs1 fs2 fs3 fs4
                  refine (within_t _ HH).mono ?_
                  rintro e w1 ⟨rfl, rfl⟩
                  have fa0 := bA.c 0 rfl
                  have fa1 := bA.c 1 rfl
                  have fa2 := bA.c 2 rfl
                  have fa3 := bA.c 3 rfl
                  have fs0 := bS.c 0 rfl
                  have fs1 := bS.c 1 rfl
                  have fs2 := bS.c 2 rfl
                  have fs3 := bS.c 3 rfl
                  have fs4 := bS.c 4 rfl
                  go_wp2_with fail
                  clear fa0 fa1 fa2 fa3 fs0 fs1 fs2 fs3 fs4
                  refine (within_t _ HE).mono ?_
                  rintro e w1 ⟨rfl, rfl⟩
                  have fa0 := bA.c 0 rfl
                  have fa1 := bA.c 1 rfl
                  have fa2 := bA.c 2 rfl
                  have fa3 := bA.c 3 rfl
                  have fs0 := bS.c 0 rfl
                  have fs1 := bS.c 1 rfl
                  have fs2 := bS.c 2 rfl
                  have fs3 := bS.c 3 rfl
                  have fs4 := bS.c 4 rfl
                  go_wp2_with fail
                  clear fa0 fa1 fa2 fa3 fs0 fs1 fs2 fs3 fs4
                  refine (within_t _ HK).mono ?_
                  rintro e w1 ⟨rfl, rfl⟩
                  have fa0 := bA.c 0 rfl
                  have fa1 := bA.c 1 rfl
                  have fa2 := bA.c 2 rfl
                  have fa3 := bA.c 3 rfl
                  have fs0 := bS.c 0 rfl
                  have fs1 := bS.c 1 rfl
                  have fs2 := bS.c 2 rfl
                  have fs3 := bS.c 3 rfl
                  have fs4 := bS.c 4 rfl
                  go_wp2_with fail
                  clear fa0 fa1 fa2 fa3 fs0 fs1 fs2 fs3 fs4
                  refine (numok_t _ HP).mono ?_
                  rintro e w1 ⟨rfl, rfl⟩
                  have fa0 := bA.c 0 rfl
                  have fa1 := bA.c 1 rfl
                  have fa2 := bA.c 2 rfl
                  have fa3 := bA.c 3 rfl
                  have fs0 := bS.c 0 rfl
                  have fs1 := bS.c 1 rfl
                  have fs2 := bS.c 2 rfl
                  have fs3 := bS.c 3 rfl
                  have fs4 := bS.c 4 rfl
                  go_wp2_with fail
                  all_goals
                    go_ret
                    exact ⟨ret_bool (by have q0 := HC.out; have q8 := A8.out; have q11 := HP.out; rw [Bool.eq_iff_iff]; (try unfold sesB); (try rw [HC.out]); (try rw [HP.out]); simp [sesB, HC.out, hii1, hii2, a3, hhi1, hhi2, hei1, hei2, A8.out, hki1, hki2, HP.out] <;> omega), B0⟩
                · have HP : Hid (asB pr = true) := Lib.hid (eq_true_of_ne_false hpc)
                  clear hpc
                  by_cases hlc : (decide (pe = 0) || decide (pe = pr)) = false
                  · have HL := Lib.hid hlc
                    clear hlc
                    go_enter Tryd.func13, Tryd.ntmps13
                    have fa0 := bA.c 0 rfl
                    have fa1 := bA.c 1 rfl
                    have fa2 := bA.c 2 rfl
                    have fa3 := bA.c 3 rfl
                    have fs0 := bS.c 0 rfl
                    have fs1 := bS.c 1 rfl
                    have fs2 := bS.c 2 rfl
                    have fs3 := bS.c 3 rfl
                    have fs4 := bS.c 4 rfl
                    go_wp2_with fail
                    clear fa0 fa1 fa2 fa3 fs0 fs1 fs2 fs3 fs4
                    refine (iCf_t _ HC).mono ?_
                    rintro e w1 ⟨rfl, hb⟩
                    replace bA := bA.keep hb
                    replace bS := bS.keep hb
                    replace B0 := below_step B0 hb
                    clear hb
                    have fa0 := bA.c 0 rfl
                    have fa1 := bA.c 1 rfl
                    have fa2 := bA.c 2 rfl
                    have fa3 := bA.c 3 rfl
                    have fs0 := bS.c 0 rfl
                    have fs1 := bS.c 1 rfl
                    have fs2 := bS.c 2 rfl
                    have fs3 := bS.c 3 rfl
                    have fs4 := bS.c 4 rfl
                    go_wp2_with fail
                    clear fa0 fa1 fa2 fa3 fs0 fs1 fs2 fs3 fs4
                    refine (within_t _ HI).mono ?_
                    rintro e w1 ⟨rfl, rfl⟩
                    have fa0 := bA.c 0 rfl
                    have fa1 := bA.c 1 rfl
                    have fa2 := bA.c 2 rfl
                    have fa3 := bA.c 3 rfl
                    have fs0 := bS.c 0 rfl
                    have fs1 := bS.c 1 rfl
                    have fs2 := bS.c 2 rfl
                    have fs3 := bS.c 3 rfl
                    have fs4 := bS.c 4 rfl
                    go_wp2_with fail
                    clear fa0 fa1 fa2 fa3 fs0 fs1 fs2 fs3 fs4
                    refine (within_t _ HH).mono ?_
                    rintro e w1 ⟨rfl, rfl⟩
                    have fa0 := bA.c 0 rfl
                    have fa1 := bA.c 1 rfl
                    have fa2 := bA.c 2 rfl
                    have fa3 := bA.c 3 rfl
                    have fs0 := bS.c 0 rfl
                    have fs1 := bS.c 1 rfl
                    have fs2 := bS.c 2 rfl
                    have fs3 := bS.c 3 rfl
                    have fs4 := bS.c 4 rfl
                    go_wp2_with fail
                    clear fa0 fa1 fa2 fa3 fs0 fs1 fs2 fs3 fs4
                    refine (within_t _ HE).mono ?_
                    rintro e w1 ⟨rfl, rfl⟩
                    have fa0 := bA.c 0 rfl
                    have fa1 := bA.c 1 rfl
                    have fa2 := bA.c 2 rfl
                    have fa3 := bA.c 3 rfl
                    have fs0 := bS.c 0 rfl
                    have fs1 := bS.c 1 rfl
                    have fs2 := bS.c 2 rfl
                    have fs3 := bS.c 3 rfl
                    have fs4 := bS.c 4 rfl
                    go_wp2_with fail
                    clear fa0 fa1 fa2 fa3 fs0 fs1 fs2 fs3 fs4
                    refine (within_t _ HK).mono ?_
                    rintro e w1 ⟨rfl, rfl⟩
                    have fa0 := bA.c 0 rfl
                    have fa1 := bA.c 1 rfl
                    have fa2 := bA.c 2 rfl
                    have fa3 := bA.c 3 rfl
                    have fs0 := bS.c 0 rfl
                    have fs1 := bS.c 1 rfl
                    have fs2 := bS.c 2 rfl
                    have fs3 := bS.c 3 rfl
                    have fs4 := bS.c 4 rfl
                    go_wp2_with fail
                    clear fa0 fa1 fa2 fa3 fs0 fs1 fs2 fs3 fs4
                    refine (numok_t _ HP).mono ?_
                    rintro e w1 ⟨rfl, rfl⟩
                    have fa0 := bA.c 0 rfl
                    have fa1 := bA.c 1 rfl
                    have fa2 := bA.c 2 rfl
                    have fa3 := bA.c 3 rfl
                    have fs0 := bS.c 0 rfl
                    have fs1 := bS.c 1 rfl
                    have fs2 := bS.c 2 rfl
                    have fs3 := bS.c 3 rfl
                    have fs4 := bS.c 4 rfl
                    go_wp2_with fail
                    clear fa0 fa1 fa2 fa3 fs0 fs1 fs2 fs3 fs4
                    refine (ialw_t _ HL).mono ?_
                    rintro e w1 ⟨rfl, hb⟩
                    replace bA := bA.keep hb
                    replace bS := bS.keep hb
                    replace B0 := below_step B0 hb
                    clear hb
                    have fa0 := bA.c 0 rfl
                    have fa1 := bA.c 1 rfl
                    have fa2 := bA.c 2 rfl
                    have fa3 := bA.c 3 rfl
                    have fs0 := bS.c 0 rfl
                    have fs1 := bS.c 1 rfl
                    have fs2 := bS.c 2 rfl
                    have fs3 := bS.c 3 rfl
                    have fs4 := bS.c 4 rfl
                    go_wp2_with fail
                    all_goals
                      go_ret
                      exact ⟨ret_bool (by have q0 := HC.out; have q8 := A8.out; have q11 := HP.out; rw [Bool.eq_iff_iff]; (try unfold sesB); (try rw [HC.out]); (try rw [HP.out]); have qq := HL.out; simp at qq; simp [sesB, HC.out, hii1, hii2, a3, hhi1, hhi2, hei1, hei2, A8.out, hki1, hki2, HP.out] <;> omega), B0⟩
                  · have HL : Hid ((decide (pe = 0) || decide (pe = pr)) = true) := Lib.hid (eq_true_of_ne_false hlc)
                    clear hlc
                    go_enter Tryd.func13, Tryd.ntmps13
                    have fa0 := bA.c 0 rfl
                    have fa1 := bA.c 1 rfl
                    have fa2 := bA.c 2 rfl
                    have fa3 := bA.c 3 rfl
                    have fs0 := bS.c 0 rfl
                    have fs1 := bS.c 1 rfl
                    have fs2 := bS.c 2 rfl
                    have fs3 := bS.c 3 rfl
                    have fs4 := bS.c 4 rfl
                    go_wp2_with fail
                    clear fa0 fa1 fa2 fa3 fs0 fs1 fs2 fs3 fs4
                    refine (iCf_t _ HC).mono ?_
                    rintro e w1 ⟨rfl, hb⟩
                    replace bA := bA.keep hb
                    replace bS := bS.keep hb
                    replace B0 := below_step B0 hb
                    clear hb
                    have fa0 := bA.c 0 rfl
                    have fa1 := bA.c 1 rfl
                    have fa2 := bA.c 2 rfl
                    have fa3 := bA.c 3 rfl
                    have fs0 := bS.c 0 rfl
                    have fs1 := bS.c 1 rfl
                    have fs2 := bS.c 2 rfl
                    have fs3 := bS.c 3 rfl
                    have fs4 := bS.c 4 rfl
                    go_wp2_with fail
                    clear fa0 fa1 fa2 fa3 fs0 fs1 fs2 fs3 fs4
                    refine (within_t _ HI).mono ?_
                    rintro e w1 ⟨rfl, rfl⟩
                    have fa0 := bA.c 0 rfl
                    have fa1 := bA.c 1 rfl
                    have fa2 := bA.c 2 rfl
                    have fa3 := bA.c 3 rfl
                    have fs0 := bS.c 0 rfl
                    have fs1 := bS.c 1 rfl
                    have fs2 := bS.c 2 rfl
                    have fs3 := bS.c 3 rfl
                    have fs4 := bS.c 4 rfl
                    go_wp2_with fail
                    clear fa0 fa1 fa2 fa3 fs0 fs1 fs2 fs3 fs4
                    refine (within_t _ HH).mono ?_
                    rintro e w1 ⟨rfl, rfl⟩
                    have fa0 := bA.c 0 rfl
                    have fa1 := bA.c 1 rfl
                    have fa2 := bA.c 2 rfl
                    have fa3 := bA.c 3 rfl
                    have fs0 := bS.c 0 rfl
                    have fs1 := bS.c 1 rfl
                    have fs2 := bS.c 2 rfl
                    have fs3 := bS.c 3 rfl
                    have fs4 := bS.c 4 rfl
                    go_wp2_with fail
                    clear fa0 fa1 fa2 fa3 fs0 fs1 fs2 fs3 fs4
                    refine (within_t _ HE).mono ?_
                    rintro e w1 ⟨rfl, rfl⟩
                    have fa0 := bA.c 0 rfl
                    have fa1 := bA.c 1 rfl
                    have fa2 := bA.c 2 rfl
                    have fa3 := bA.c 3 rfl
                    have fs0 := bS.c 0 rfl
                    have fs1 := bS.c 1 rfl
                    have fs2 := bS.c 2 rfl
                    have fs3 := bS.c 3 rfl
                    have fs4 := bS.c 4 rfl
                    go_wp2_with fail
                    clear fa0 fa1 fa2 fa3 fs0 fs1 fs2 fs3 fs4
                    refine (within_t _ HK).mono ?_
                    rintro e w1 ⟨rfl, rfl⟩
                    have fa0 := bA.c 0 rfl
                    have fa1 := bA.c 1 rfl
                    have fa2 := bA.c 2 rfl
                    have fa3 := bA.c 3 rfl
                    have fs0 := bS.c 0 rfl
                    have fs1 := bS.c 1 rfl
                    have fs2 := bS.c 2 rfl
                    have fs3 := bS.c 3 rfl
                    have fs4 := bS.c 4 rfl
                    go_wp2_with fail
                    clear fa0 fa1 fa2 fa3 fs0 fs1 fs2 fs3 fs4
                    refine (numok_t _ HP).mono ?_
                    rintro e w1 ⟨rfl, rfl⟩
                    have fa0 := bA.c 0 rfl
                    have fa1 := bA.c 1 rfl
                    have fa2 := bA.c 2 rfl
                    have fa3 := bA.c 3 rfl
                    have fs0 := bS.c 0 rfl
                    have fs1 := bS.c 1 rfl
                    have fs2 := bS.c 2 rfl
                    have fs3 := bS.c 3 rfl
                    have fs4 := bS.c 4 rfl
                    go_wp2_with fail
                    clear fa0 fa1 fa2 fa3 fs0 fs1 fs2 fs3 fs4
                    refine (ialw_t _ HL).mono ?_
                    rintro e w1 ⟨rfl, hb⟩
                    replace bA := bA.keep hb
                    replace bS := bS.keep hb
                    replace B0 := below_step B0 hb
                    clear hb
                    have fa0 := bA.c 0 rfl
                    have fa1 := bA.c 1 rfl
                    have fa2 := bA.c 2 rfl
                    have fa3 := bA.c 3 rfl
                    have fs0 := bS.c 0 rfl
                    have fs1 := bS.c 1 rfl
                    have fs2 := bS.c 2 rfl
                    have fs3 := bS.c 3 rfl
                    have fs4 := bS.c 4 rfl
                    go_wp2_with fail
                    all_goals
                      go_ret
                      exact ⟨ret_bool (by have q0 := HC.out; have q8 := A8.out; have q11 := HP.out; rw [Bool.eq_iff_iff]; (try unfold sesB); (try rw [HC.out]); (try rw [HP.out]); have qq := HL.out; simp at qq; simp [sesB, HC.out, hii1, hii2, a3, hhi1, hhi2, hei1, hei2, A8.out, hki1, hki2, HP.out] <;> omega), B0⟩
              · have HK : Hid (inB ke 1 (hd / 3) = false) := Lib.hid (by simp [inB]; omega)
                have HKn := Lib.hid hki
                clear hki
                go_enter Tryd.func13, Tryd.ntmps13
                have fa0 := bA.c 0 rfl
                have fa1 := bA.c 1 rfl
                have fa2 := bA.c 2 rfl
                have fa3 := bA.c 3 rfl
                have fs0 := bS.c 0 rfl
                have fs1 := bS.c 1 rfl
                have fs2 := bS.c 2 rfl
                have fs3 := bS.c 3 rfl
                have fs4 := bS.c 4 rfl
                go_wp2_with fail
                clear fa0 fa1 fa2 fa3 fs0 fs1 fs2 fs3 fs4
                refine (iCf_t _ HC).mono ?_
                rintro e w1 ⟨rfl, hb⟩
                replace bA := bA.keep hb
                replace bS := bS.keep hb
                replace B0 := below_step B0 hb
                clear hb
                have fa0 := bA.c 0 rfl
                have fa1 := bA.c 1 rfl
                have fa2 := bA.c 2 rfl
                have fa3 := bA.c 3 rfl
                have fs0 := bS.c 0 rfl
                have fs1 := bS.c 1 rfl
                have fs2 := bS.c 2 rfl
                have fs3 := bS.c 3 rfl
                have fs4 := bS.c 4 rfl
                go_wp2_with fail
                clear fa0 fa1 fa2 fa3 fs0 fs1 fs2 fs3 fs4
                refine (within_t _ HI).mono ?_
                rintro e w1 ⟨rfl, rfl⟩
                have fa0 := bA.c 0 rfl
                have fa1 := bA.c 1 rfl
                have fa2 := bA.c 2 rfl
                have fa3 := bA.c 3 rfl
                have fs0 := bS.c 0 rfl
                have fs1 := bS.c 1 rfl
                have fs2 := bS.c 2 rfl
                have fs3 := bS.c 3 rfl
                have fs4 := bS.c 4 rfl
                go_wp2_with fail
                clear fa0 fa1 fa2 fa3 fs0 fs1 fs2 fs3 fs4
                refine (within_t _ HH).mono ?_
                rintro e w1 ⟨rfl, rfl⟩
                have fa0 := bA.c 0 rfl
                have fa1 := bA.c 1 rfl
                have fa2 := bA.c 2 rfl
                have fa3 := bA.c 3 rfl
                have fs0 := bS.c 0 rfl
                have fs1 := bS.c 1 rfl
                have fs2 := bS.c 2 rfl
                have fs3 := bS.c 3 rfl
                have fs4 := bS.c 4 rfl
                go_wp2_with fail
                clear fa0 fa1 fa2 fa3 fs0 fs1 fs2 fs3 fs4
                refine (within_t _ HE).mono ?_
                rintro e w1 ⟨rfl, rfl⟩
                have fa0 := bA.c 0 rfl
                have fa1 := bA.c 1 rfl
                have fa2 := bA.c 2 rfl
                have fa3 := bA.c 3 rfl
                have fs0 := bS.c 0 rfl
                have fs1 := bS.c 1 rfl
                have fs2 := bS.c 2 rfl
                have fs3 := bS.c 3 rfl
                have fs4 := bS.c 4 rfl
                go_wp2_with fail
                clear fa0 fa1 fa2 fa3 fs0 fs1 fs2 fs3 fs4
                refine (within_t _ HK).mono ?_
                rintro e w1 ⟨rfl, rfl⟩
                have fa0 := bA.c 0 rfl
                have fa1 := bA.c 1 rfl
                have fa2 := bA.c 2 rfl
                have fa3 := bA.c 3 rfl
                have fs0 := bS.c 0 rfl
                have fs1 := bS.c 1 rfl
                have fs2 := bS.c 2 rfl
                have fs3 := bS.c 3 rfl
                have fs4 := bS.c 4 rfl
                go_wp2_with fail
                all_goals
                  go_ret
                  exact ⟨ret_bool (by have q0 := HC.out; have q8 := A8.out; have q9 := HKn.out; rw [Bool.eq_iff_iff]; (try unfold sesB); (try rw [HC.out]); simp [sesB, HC.out, hii1, hii2, a3, hhi1, hhi2, hei1, hei2, A8.out, HKn.out] <;> omega), B0⟩
          · have HE : Hid (inB he 0 (hd - 1) = false) := Lib.hid (by simp [inB]; omega)
            have HEn := Lib.hid hei
            clear hei
            go_enter Tryd.func13, Tryd.ntmps13
            have fa0 := bA.c 0 rfl
            have fa1 := bA.c 1 rfl
            have fa2 := bA.c 2 rfl
            have fa3 := bA.c 3 rfl
            have fs0 := bS.c 0 rfl
            have fs1 := bS.c 1 rfl
            have fs2 := bS.c 2 rfl
            have fs3 := bS.c 3 rfl
            have fs4 := bS.c 4 rfl
            go_wp2_with fail
            clear fa0 fa1 fa2 fa3 fs0 fs1 fs2 fs3 fs4
            refine (iCf_t _ HC).mono ?_
            rintro e w1 ⟨rfl, hb⟩
            replace bA := bA.keep hb
            replace bS := bS.keep hb
            replace B0 := below_step B0 hb
            clear hb
            have fa0 := bA.c 0 rfl
            have fa1 := bA.c 1 rfl
            have fa2 := bA.c 2 rfl
            have fa3 := bA.c 3 rfl
            have fs0 := bS.c 0 rfl
            have fs1 := bS.c 1 rfl
            have fs2 := bS.c 2 rfl
            have fs3 := bS.c 3 rfl
            have fs4 := bS.c 4 rfl
            go_wp2_with fail
            clear fa0 fa1 fa2 fa3 fs0 fs1 fs2 fs3 fs4
            refine (within_t _ HI).mono ?_
            rintro e w1 ⟨rfl, rfl⟩
            have fa0 := bA.c 0 rfl
            have fa1 := bA.c 1 rfl
            have fa2 := bA.c 2 rfl
            have fa3 := bA.c 3 rfl
            have fs0 := bS.c 0 rfl
            have fs1 := bS.c 1 rfl
            have fs2 := bS.c 2 rfl
            have fs3 := bS.c 3 rfl
            have fs4 := bS.c 4 rfl
            go_wp2_with fail
            clear fa0 fa1 fa2 fa3 fs0 fs1 fs2 fs3 fs4
            refine (within_t _ HH).mono ?_
            rintro e w1 ⟨rfl, rfl⟩
            have fa0 := bA.c 0 rfl
            have fa1 := bA.c 1 rfl
            have fa2 := bA.c 2 rfl
            have fa3 := bA.c 3 rfl
            have fs0 := bS.c 0 rfl
            have fs1 := bS.c 1 rfl
            have fs2 := bS.c 2 rfl
            have fs3 := bS.c 3 rfl
            have fs4 := bS.c 4 rfl
            go_wp2_with fail
            clear fa0 fa1 fa2 fa3 fs0 fs1 fs2 fs3 fs4
            refine (within_t _ HE).mono ?_
            rintro e w1 ⟨rfl, rfl⟩
            have fa0 := bA.c 0 rfl
            have fa1 := bA.c 1 rfl
            have fa2 := bA.c 2 rfl
            have fa3 := bA.c 3 rfl
            have fs0 := bS.c 0 rfl
            have fs1 := bS.c 1 rfl
            have fs2 := bS.c 2 rfl
            have fs3 := bS.c 3 rfl
            have fs4 := bS.c 4 rfl
            go_wp2_with fail
            all_goals
              go_ret
              exact ⟨ret_bool (by have q0 := HC.out; have q6 := HEn.out; rw [Bool.eq_iff_iff]; (try unfold sesB); (try rw [HC.out]); simp [sesB, HC.out, hii1, hii2, a3, hhi1, hhi2, HEn.out] <;> omega), B0⟩
        · have HH : Hid (inB hd 3 ho = false) := Lib.hid (by simp [inB]; omega)
          have HHn := Lib.hid hhi
          clear hhi
          go_enter Tryd.func13, Tryd.ntmps13
          have fa0 := bA.c 0 rfl
          have fa1 := bA.c 1 rfl
          have fa2 := bA.c 2 rfl
          have fa3 := bA.c 3 rfl
          have fs0 := bS.c 0 rfl
          have fs1 := bS.c 1 rfl
          have fs2 := bS.c 2 rfl
          have fs3 := bS.c 3 rfl
          have fs4 := bS.c 4 rfl
          go_wp2_with fail
          clear fa0 fa1 fa2 fa3 fs0 fs1 fs2 fs3 fs4
          refine (iCf_t _ HC).mono ?_
          rintro e w1 ⟨rfl, hb⟩
          replace bA := bA.keep hb
          replace bS := bS.keep hb
          replace B0 := below_step B0 hb
          clear hb
          have fa0 := bA.c 0 rfl
          have fa1 := bA.c 1 rfl
          have fa2 := bA.c 2 rfl
          have fa3 := bA.c 3 rfl
          have fs0 := bS.c 0 rfl
          have fs1 := bS.c 1 rfl
          have fs2 := bS.c 2 rfl
          have fs3 := bS.c 3 rfl
          have fs4 := bS.c 4 rfl
          go_wp2_with fail
          clear fa0 fa1 fa2 fa3 fs0 fs1 fs2 fs3 fs4
          refine (within_t _ HI).mono ?_
          rintro e w1 ⟨rfl, rfl⟩
          have fa0 := bA.c 0 rfl
          have fa1 := bA.c 1 rfl
          have fa2 := bA.c 2 rfl
          have fa3 := bA.c 3 rfl
          have fs0 := bS.c 0 rfl
          have fs1 := bS.c 1 rfl
          have fs2 := bS.c 2 rfl
          have fs3 := bS.c 3 rfl
          have fs4 := bS.c 4 rfl
          go_wp2_with fail
          clear fa0 fa1 fa2 fa3 fs0 fs1 fs2 fs3 fs4
          refine (within_t _ HH).mono ?_
          rintro e w1 ⟨rfl, rfl⟩
          have fa0 := bA.c 0 rfl
          have fa1 := bA.c 1 rfl
          have fa2 := bA.c 2 rfl
          have fa3 := bA.c 3 rfl
          have fs0 := bS.c 0 rfl
          have fs1 := bS.c 1 rfl
          have fs2 := bS.c 2 rfl
          have fs3 := bS.c 3 rfl
          have fs4 := bS.c 4 rfl
          go_wp2_with fail
          all_goals
            go_ret
            exact ⟨ret_bool (by have q0 := HC.out; have q4 := HHn.out; rw [Bool.eq_iff_iff]; (try unfold sesB); (try rw [HC.out]); simp [sesB, HC.out, hii1, hii2, a3, HHn.out] <;> omega), B0⟩
      · by_cases z0 : hd = 0
        · have z0b : (hd == 0) = true := by simp [z0]
          have z0n : (hd != 0) = false := by simp [z0]
          have Z0 := Lib.hid z0
          clear z0
          by_cases z1 : he = 0
          · have z1b : (he == 0) = true := by simp [z1]
            have z1n : (he != 0) = false := by simp [z1]
            have Z1 := Lib.hid z1
            clear z1
            by_cases z2 : ke = 0
            · have z2b : (ke == 0) = true := by simp [z2]
              have z2n : (ke != 0) = false := by simp [z2]
              have Z2 := Lib.hid z2
              clear z2
              by_cases z3 : pr = 0
              · have z3b : (pr == 0) = true := by simp [z3]
                have z3n : (pr != 0) = false := by simp [z3]
                have Z3 := Lib.hid z3
                clear z3
                go_enter Tryd.func13, Tryd.ntmps13
                have fa0 := bA.c 0 rfl
                have fa1 := bA.c 1 rfl
                have fa2 := bA.c 2 rfl
                have fa3 := bA.c 3 rfl
                have fs0 := bS.c 0 rfl
                have fs1 := bS.c 1 rfl
                have fs2 := bS.c 2 rfl
                have fs3 := bS.c 3 rfl
                have fs4 := bS.c 4 rfl
                go_wp2_with fail
                clear fa0 fa1 fa2 fa3 fs0 fs1 fs2 fs3 fs4
                refine (iCf_t _ HC).mono ?_
                rintro e w1 ⟨rfl, hb⟩
                replace bA := bA.keep hb
                replace bS := bS.keep hb
                replace B0 := below_step B0 hb
                clear hb
                have fa0 := bA.c 0 rfl
                have fa1 := bA.c 1 rfl
                have fa2 := bA.c 2 rfl
                have fa3 := bA.c 3 rfl
                have fs0 := bS.c 0 rfl
                have fs1 := bS.c 1 rfl
                have fs2 := bS.c 2 rfl
                have fs3 := bS.c 3 rfl
                have fs4 := bS.c 4 rfl
                go_wp2_with fail
                clear fa0 fa1 fa2 fa3 fs0 fs1 fs2 fs3 fs4
                refine (within_t _ HI).mono ?_
                rintro e w1 ⟨rfl, rfl⟩
                have fa0 := bA.c 0 rfl
                have fa1 := bA.c 1 rfl
                have fa2 := bA.c 2 rfl
                have fa3 := bA.c 3 rfl
                have fs0 := bS.c 0 rfl
                have fs1 := bS.c 1 rfl
                have fs2 := bS.c 2 rfl
                have fs3 := bS.c 3 rfl
                have fs4 := bS.c 4 rfl
                go_wp2_with fail
                all_goals
                  go_ret
                  exact ⟨ret_bool (by have q0 := HC.out; have q4 := Z0.out; have q5 := Z1.out; have q6 := Z2.out; have q7 := Z3.out; rw [Bool.eq_iff_iff]; (try unfold sesB); (try rw [HC.out]); simp [sesB, HC.out, hii1, hii2, a3, Z0.out, Z1.out, Z2.out, Z3.out] <;> omega), B0⟩
              · have z3b : (pr == 0) = false := by simp [z3]
                have z3n : (pr != 0) = true := by simp [z3]
                have Z3 := Lib.hid z3
                clear z3
                go_enter Tryd.func13, Tryd.ntmps13
                have fa0 := bA.c 0 rfl
                have fa1 := bA.c 1 rfl
                have fa2 := bA.c 2 rfl
                have fa3 := bA.c 3 rfl
                have fs0 := bS.c 0 rfl
                have fs1 := bS.c 1 rfl
                have fs2 := bS.c 2 rfl
                have fs3 := bS.c 3 rfl
                have fs4 := bS.c 4 rfl
                go_wp2_with fail
                clear fa0 fa1 fa2 fa3 fs0 fs1 fs2 fs3 fs4
                refine (iCf_t _ HC).mono ?_
                rintro e w1 ⟨rfl, hb⟩
                replace bA := bA.keep hb
                replace bS := bS.keep hb
                replace B0 := below_step B0 hb
                clear hb
                have fa0 := bA.c 0 rfl
                have fa1 := bA.c 1 rfl
                have fa2 := bA.c 2 rfl
                have fa3 := bA.c 3 rfl
                have fs0 := bS.c 0 rfl
                have fs1 := bS.c 1 rfl
                have fs2 := bS.c 2 rfl
                have fs3 := bS.c 3 rfl
                have fs4 := bS.c 4 rfl
                go_wp2_with fail
                clear fa0 fa1 fa2 fa3 fs0 fs1 fs2 fs3 fs4
                refine (within_t _ HI).mono ?_
                rintro e w1 ⟨rfl, rfl⟩
                have fa0 := bA.c 0 rfl
                have fa1 := bA.c 1 rfl
                have fa2 := bA.c 2 rfl
                have fa3 := bA.c 3 rfl
                have fs0 := bS.c 0 rfl
                have fs1 := bS.c 1 rfl
                have fs2 := bS.c 2 rfl
                have fs3 := bS.c 3 rfl
                have fs4 := bS.c 4 rfl
                go_wp2_with fail
                all_goals
                  go_ret
                  exact ⟨ret_bool (by have q0 := HC.out; have q4 := Z0.out; have q5 := Z1.out; have q6 := Z2.out; have q7 := Z3.out; rw [Bool.eq_iff_iff]; (try unfold sesB); (try rw [HC.out]); simp [sesB, HC.out, hii1, hii2, a3, Z0.out, Z1.out, Z2.out, Z3.out] <;> omega), B0⟩
            · have z2b : (ke == 0) = false := by simp [z2]
              have z2n : (ke != 0) = true := by simp [z2]
              have Z2 := Lib.hid z2
              clear z2
              go_enter Tryd.func13, Tryd.ntmps13
              have fa0 := bA.c 0 rfl
              have fa1 := bA.c 1 rfl
              have fa2 := bA.c 2 rfl
              have fa3 := bA.c 3 rfl
              have fs0 := bS.c 0 rfl
              have fs1 := bS.c 1 rfl
              have fs2 := bS.c 2 rfl
              have fs3 := bS.c 3 rfl
              have fs4 := bS.c 4 rfl
              go_wp2_with fail
              clear fa0 fa1 fa2 fa3 fs0 fs1 fs2 fs3 fs4
              refine (iCf_t _ HC).mono ?_
              rintro e w1 ⟨rfl, hb⟩
              replace bA := bA.keep hb
              replace bS := bS.keep hb
              replace B0 := below_step B0 hb
              clear hb
              have fa0 := bA.c 0 rfl
              have fa1 := bA.c 1 rfl
              have fa2 := bA.c 2 rfl
              have fa3 := bA.c 3 rfl
              have fs0 := bS.c 0 rfl
              have fs1 := bS.c 1 rfl
              have fs2 := bS.c 2 rfl
              have fs3 := bS.c 3 rfl
              have fs4 := bS.c 4 rfl
              go_wp2_with fail
              clear fa0 fa1 fa2 fa3 fs0 fs1 fs2 fs3 fs4
              refine (within_t _ HI).mono ?_
              rintro e w1 ⟨rfl, rfl⟩
              have fa0 := bA.c 0 rfl
              have fa1 := bA.c 1 rfl
              have fa2 := bA.c 2 rfl
              have fa3 := bA.c 3 rfl
              have fs0 := bS.c 0 rfl
              have fs1 := bS.c 1 rfl
              have fs2 := bS.c 2 rfl
              have fs3 := bS.c 3 rfl
              have fs4 := bS.c 4 rfl
              go_wp2_with fail
              all_goals
                go_ret
                exact ⟨ret_bool (by have q0 := HC.out; have q4 := Z0.out; have q5 := Z1.out; have q6 := Z2.out; rw [Bool.eq_iff_iff]; (try unfold sesB); (try rw [HC.out]); simp [sesB, HC.out, hii1, hii2, a3, Z0.out, Z1.out, Z2.out] <;> omega), B0⟩
          · have z1b : (he == 0) = false := by simp [z1]
            have z1n : (he != 0) = true := by simp [z1]
            have Z1 := Lib.hid z1
            clear z1
            go_enter Tryd.func13, Tryd.ntmps13
            have fa0 := bA.c 0 rfl
            have fa1 := bA.c 1 rfl
            have fa2 := bA.c 2 rfl
            have fa3 := bA.c 3 rfl
            have fs0 := bS.c 0 rfl
            have fs1 := bS.c 1 rfl
            have fs2 := bS.c 2 rfl
            have fs3 := bS.c 3 rfl
            have fs4 := bS.c 4 rfl
            go_wp2_with fail
            clear fa0 fa1 fa2 fa3 fs0 fs1 fs2 fs3 fs4
            refine (iCf_t _ HC).mono ?_
            rintro e w1 ⟨rfl, hb⟩
            replace bA := bA.keep hb
            replace bS := bS.keep hb
            replace B0 := below_step B0 hb
            clear hb
            have fa0 := bA.c 0 rfl
            have fa1 := bA.c 1 rfl
            have fa2 := bA.c 2 rfl
            have fa3 := bA.c 3 rfl
            have fs0 := bS.c 0 rfl
            have fs1 := bS.c 1 rfl
            have fs2 := bS.c 2 rfl
            have fs3 := bS.c 3 rfl
            have fs4 := bS.c 4 rfl
            go_wp2_with fail
            clear fa0 fa1 fa2 fa3 fs0 fs1 fs2 fs3 fs4
            refine (within_t _ HI).mono ?_
            rintro e w1 ⟨rfl, rfl⟩
            have fa0 := bA.c 0 rfl
            have fa1 := bA.c 1 rfl
            have fa2 := bA.c 2 rfl
            have fa3 := bA.c 3 rfl
            have fs0 := bS.c 0 rfl
            have fs1 := bS.c 1 rfl
            have fs2 := bS.c 2 rfl
            have fs3 := bS.c 3 rfl
            have fs4 := bS.c 4 rfl
            go_wp2_with fail
            all_goals
              go_ret
              exact ⟨ret_bool (by have q0 := HC.out; have q4 := Z0.out; have q5 := Z1.out; rw [Bool.eq_iff_iff]; (try unfold sesB); (try rw [HC.out]); simp [sesB, HC.out, hii1, hii2, a3, Z0.out, Z1.out] <;> omega), B0⟩
        · have z0b : (hd == 0) = false := by simp [z0]
          have z0n : (hd != 0) = true := by simp [z0]
          have Z0 := Lib.hid z0
          clear z0
          go_enter Tryd.func13, Tryd.ntmps13
          have fa0 := bA.c 0 rfl
          have fa1 := bA.c 1 rfl
          have fa2 := bA.c 2 rfl
          have fa3 := bA.c 3 rfl
          have fs0 := bS.c 0 rfl
          have fs1 := bS.c 1 rfl
          have fs2 := bS.c 2 rfl
          have fs3 := bS.c 3 rfl
          have fs4 := bS.c 4 rfl
          go_wp2_with fail
          clear fa0 fa1 fa2 fa3 fs0 fs1 fs2 fs3 fs4
          refine (iCf_t _ HC).mono ?_
          rintro e w1 ⟨rfl, hb⟩
          replace bA := bA.keep hb
          replace bS := bS.keep hb
          replace B0 := below_step B0 hb
          clear hb
          have fa0 := bA.c 0 rfl
          have fa1 := bA.c 1 rfl
          have fa2 := bA.c 2 rfl
          have fa3 := bA.c 3 rfl
          have fs0 := bS.c 0 rfl
          have fs1 := bS.c 1 rfl
          have fs2 := bS.c 2 rfl
          have fs3 := bS.c 3 rfl
          have fs4 := bS.c 4 rfl
          go_wp2_with fail
          clear fa0 fa1 fa2 fa3 fs0 fs1 fs2 fs3 fs4
          refine (within_t _ HI).mono ?_
          rintro e w1 ⟨rfl, rfl⟩
          have fa0 := bA.c 0 rfl
          have fa1 := bA.c 1 rfl
          have fa2 := bA.c 2 rfl
          have fa3 := bA.c 3 rfl
          have fs0 := bS.c 0 rfl
          have fs1 := bS.c 1 rfl
          have fs2 := bS.c 2 rfl
          have fs3 := bS.c 3 rfl
          have fs4 := bS.c 4 rfl
          go_wp2_with fail
          all_goals
            go_ret
            exact ⟨ret_bool (by have q0 := HC.out; have q4 := Z0.out; rw [Bool.eq_iff_iff]; (try unfold sesB); (try rw [HC.out]); simp [sesB, HC.out, hii1, hii2, a3, Z0.out] <;> omega), B0⟩
    · have HI : Hid (inB st 0 4 = false) := Lib.hid (by simp [inB]; omega)
      have HIn := Lib.hid hii
      clear hii
      go_enter Tryd.func13, Tryd.ntmps13
      have fa0 := bA.c 0 rfl
      have fa1 := bA.c 1 rfl
      have fa2 := bA.c 2 rfl
      have fa3 := bA.c 3 rfl
      have fs0 := bS.c 0 rfl
      have fs1 := bS.c 1 rfl
      have fs2 := bS.c 2 rfl
      have fs3 := bS.c 3 rfl
      have fs4 := bS.c 4 rfl
      go_wp2_with fail
      clear fa0 fa1 fa2 fa3 fs0 fs1 fs2 fs3 fs4
      refine (iCf_t _ HC).mono ?_
      rintro e w1 ⟨rfl, hb⟩
      replace bA := bA.keep hb
      replace bS := bS.keep hb
      replace B0 := below_step B0 hb
      clear hb
      have fa0 := bA.c 0 rfl
      have fa1 := bA.c 1 rfl
      have fa2 := bA.c 2 rfl
      have fa3 := bA.c 3 rfl
      have fs0 := bS.c 0 rfl
      have fs1 := bS.c 1 rfl
      have fs2 := bS.c 2 rfl
      have fs3 := bS.c 3 rfl
      have fs4 := bS.c 4 rfl
      go_wp2_with fail
      clear fa0 fa1 fa2 fa3 fs0 fs1 fs2 fs3 fs4
      refine (within_t _ HI).mono ?_
      rintro e w1 ⟨rfl, rfl⟩
      have fa0 := bA.c 0 rfl
      have fa1 := bA.c 1 rfl
      have fa2 := bA.c 2 rfl
      have fa3 := bA.c 3 rfl
      have fs0 := bS.c 0 rfl
      have fs1 := bS.c 1 rfl
      have fs2 := bS.c 2 rfl
      have fs3 := bS.c 3 rfl
      have fs4 := bS.c 4 rfl
      go_wp2_with fail
      all_goals
        go_ret
        exact ⟨ret_bool (by have q0 := HC.out; have q1 := HIn.out; rw [Bool.eq_iff_iff]; (try unfold sesB); (try rw [HC.out]); simp [sesB, HC.out, HIn.out] <;> omega), B0⟩
end Go.Proofs.YtcmbajphholliabDoor
