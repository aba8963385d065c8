/-
  PulseNew, BeatOf, PulseTick, Admin, answers as letters; the laws' comparison of equal pulses and beats. Conditions: those in each contract.
-/
import Derived.Test.YtcbiknmkogbjcaaL3
namespace Go.Proofs.Ytcbiknmkogbjcaa
open Go.ChangeShapes Go.WideShapes Go.ChangeAt Go.RowKit Go.BigFrame Go.Joins
set_option linter.unusedVariables false
set_option maxRecDepth 100000
set_option linter.unusedSimpArgs false

def Is_bool (W : World) (v : Value) : Prop := ∃ b : Bool, v = .bool b
section
variable {H : Type} {enc : TypeId × Value → H} {W : World} {base : Nat} {d : DataW H} {p : List MemPlace} {v : Value}
theorem is_bool (hv : Value.okWide Try.prog W .any base 4 v) (h : DataW.Trod enc Try.prog W 0 (fun _ => true) true 4 v d p) : Is_bool W v := okWide_bool Try.underlying4 hv
end
theorem spn_t {mi mu : Int} {R : Pu} {t : Bool} (w : World) (HP : Hid (pulB 1 mi 0 0 mu = t)) (HR : Hid (pnF mi mu = R)) : Calls Try.prog 16 #[.int .i64 mi, .int .i64 mu] w fun e w' => e = .returned (.tuple #[.agg #[.int .i64 R.a, .int .i64 R.b, .int .i64 R.c, .int .i64 R.d, .int .i64 R.e], .bool t]) ∧ Below w.heap.size w w' := by
  have hp := HP.out
  have hr := HR.out
  cases t
  · obtain rfl : R = ⟨0, 0, 0, 0, 0⟩ := by rw [← hr]; simp [pnF, hp]
    exact spn_no mi mu w HP
  · obtain rfl : R = ⟨1, mi, 0, 0, mu⟩ := by rw [← hr]; simp [pnF, hp]
    exact spn_yes mi mu w HP
theorem sbo_t {st mi yo he mu : Int} {R : Bt} {t : Bool} (w : World) (HP : Hid (pulB st mi yo he mu = t)) (HR : Hid (boF st mi yo he mu = R)) : Calls Try.prog 19 #[.agg #[.int .i64 st, .int .i64 mi, .int .i64 yo, .int .i64 he, .int .i64 mu]] w fun e w' => e = .returned (.tuple #[.agg #[.int .i64 R.a, .int .i64 R.b, .int .i64 R.c], .bool t]) ∧ Below w.heap.size w w' := by
  have hp := HP.out
  have hr := HR.out
  cases t
  · obtain rfl : R = ⟨0, 0, 0⟩ := by rw [← hr]; simp [boF, hp]
    exact sbo_no st mi yo he mu w HP
  · obtain rfl : R = ⟨st, mi, yo⟩ := by rw [← hr]; simp [boF, hp]
    exact sbo_yes st mi yo he mu w HP
theorem stk_t {st mi yo he mu : Int} {R : Pu} {t : Bool} (w : World) (HT : Hid (tkB st mi yo he mu = t)) (HR : Hid (tkF st mi yo he mu = R)) : Calls Try.prog 22 #[.agg #[.int .i64 st, .int .i64 mi, .int .i64 yo, .int .i64 he, .int .i64 mu]] w fun e w' => e = .returned (.tuple #[.agg #[.int .i64 R.a, .int .i64 R.b, .int .i64 R.c, .int .i64 R.d, .int .i64 R.e], .bool t]) ∧ Below w.heap.size w w' := by
  have ht := HT.out
  have hr := HR.out
  by_cases hp : pulB st mi yo he mu = true
  · obtain ⟨-, -, -, ⟨q1, q2⟩, ⟨q3, q4⟩, -, -⟩ := pul_facts hp
    by_cases h : st ≤ 1
    · obtain rfl : t = false := by rw [← ht]; simp [tkB, h]
      obtain rfl : R = ⟨st, mi, yo, he, mu⟩ := by rw [← hr]; simp [tkF, hp, h]
      exact stk_low st mi yo he mu w (Lib.hid hp) h
    · by_cases h1 : he + 1 < mu
      · obtain rfl : t = false := by rw [← ht]; simp [tkB, h1]
        obtain rfl : R = ⟨st, mi, yo, he + 1, mu⟩ := by rw [← hr]; simp [tkF, hp, h, h1]
        exact stk_on st mi yo he mu w (Lib.hid hp) h (by omega) h1
      · obtain rfl : R = ⟨1, mi, 0, 0, mu⟩ := by rw [← hr]; simp [tkF, hp, h, h1]
        by_cases h3 : st = 3
        · obtain rfl : t = true := by rw [← ht]; subst h3; simp [tkB, h1, hp]
          exact stk_up st mi yo he mu w (Lib.hid hp) h (by omega) h1 h3
        · obtain rfl : t = false := by rw [← ht]; simp [tkB, h3]
          exact stk_fall st mi yo he mu w (Lib.hid hp) h (by omega) h1 h3
  · have hp := eq_false_of_ne_true hp
    obtain rfl : t = false := by rw [← ht]; simp [tkB, hp]
    obtain rfl : R = ⟨0, 0, 0, 0, 0⟩ := by rw [← hr]; simp [tkF, hp]
    exact stk_no st mi yo he mu w (Lib.hid hp)
theorem sad_t {dn : Bool} {st mi yo he mu : Int} {R : Pu} (w : World) (HR : Hid (adF dn st mi yo he mu = R)) : Calls Try.prog 24 #[.agg #[.int .i64 st, .int .i64 mi, .int .i64 yo, .int .i64 he, .int .i64 mu], .bool dn] w fun e w' => e = .returned (.agg #[.int .i64 R.a, .int .i64 R.b, .int .i64 R.c, .int .i64 R.d, .int .i64 R.e]) ∧ Below w.heap.size w w' := by
  have hr := HR.out
  by_cases hp : pulB st mi yo he mu = true
  · cases dn
    · by_cases h : st = 0
      · obtain rfl : R = ⟨1, mi, 0, 0, mu⟩ := by rw [← hr]; simp [adF, hp, h] <;> simp_all
        exact sad_back st mi yo he mu w (Lib.hid hp) h
      · obtain rfl : R = ⟨st, mi, yo, he, mu⟩ := by rw [← hr]; simp [adF, hp, h]
        exact sad_stay st mi yo he mu w (Lib.hid hp) h
    · obtain rfl : R = ⟨0, mi, 0, 0, mu⟩ := by rw [← hr]; simp [adF, hp]
      exact sad_down st mi yo he mu w (Lib.hid hp)
  · have hp := eq_false_of_ne_true hp
    obtain rfl : R = ⟨0, 0, 0, 0, 0⟩ := by rw [← hr]; simp [adF, hp]
    exact sad_no st mi yo he mu dn w (Lib.hid hp)
theorem ipn_t {mi mu : Int} {R : Pu} {t : Bool} (w : World) (HP : Hid (pulB 1 mi 0 0 mu = t)) (HR : Hid (pnF mi mu = R)) : Calls Try.prog 17 #[.int .i64 mi, .int .i64 mu] w fun e w' => e = .returned (.tuple #[.agg #[.int .i64 R.a, .int .i64 R.b, .int .i64 R.c, .int .i64 R.d, .int .i64 R.e], .bool t]) ∧ Below w.heap.size w w' := by
  have hp := HP.out
  have hr := HR.out
  cases t
  · obtain rfl : R = ⟨0, 0, 0, 0, 0⟩ := by rw [← hr]; simp [pnF, hp]
    exact ipn_no mi mu w HP
  · obtain rfl : R = ⟨1, mi, 0, 0, mu⟩ := by rw [← hr]; simp [pnF, hp]
    exact ipn_yes mi mu w HP
theorem ibo_t {st mi yo he mu : Int} {R : Bt} {t : Bool} (w : World) (HP : Hid (pulB st mi yo he mu = t)) (HR : Hid (boF st mi yo he mu = R)) : Calls Try.prog 20 #[.agg #[.int .i64 st, .int .i64 mi, .int .i64 yo, .int .i64 he, .int .i64 mu]] w fun e w' => e = .returned (.tuple #[.agg #[.int .i64 R.a, .int .i64 R.b, .int .i64 R.c], .bool t]) ∧ Below w.heap.size w w' := by
  have hp := HP.out
  have hr := HR.out
  cases t
  · obtain rfl : R = ⟨0, 0, 0⟩ := by rw [← hr]; simp [boF, hp]
    exact ibo_no st mi yo he mu w HP
  · obtain rfl : R = ⟨st, mi, yo⟩ := by rw [← hr]; simp [boF, hp]
    exact ibo_yes st mi yo he mu w HP
theorem itk_t {st mi yo he mu : Int} {R : Pu} {t : Bool} (w : World) (HT : Hid (tkB st mi yo he mu = t)) (HR : Hid (tkF st mi yo he mu = R)) : Calls Try.prog 23 #[.agg #[.int .i64 st, .int .i64 mi, .int .i64 yo, .int .i64 he, .int .i64 mu]] w fun e w' => e = .returned (.tuple #[.agg #[.int .i64 R.a, .int .i64 R.b, .int .i64 R.c, .int .i64 R.d, .int .i64 R.e], .bool t]) ∧ Below w.heap.size w w' := by
  have ht := HT.out
  have hr := HR.out
  by_cases hp : pulB st mi yo he mu = true
  · obtain ⟨-, -, -, ⟨q1, q2⟩, ⟨q3, q4⟩, -, -⟩ := pul_facts hp
    by_cases h : st ≤ 1
    · obtain rfl : t = false := by rw [← ht]; simp [tkB, h]
      obtain rfl : R = ⟨st, mi, yo, he, mu⟩ := by rw [← hr]; simp [tkF, hp, h]
      exact itk_low st mi yo he mu w (Lib.hid hp) h
    · by_cases h1 : he + 1 < mu
      · obtain rfl : t = false := by rw [← ht]; simp [tkB, h1]
        obtain rfl : R = ⟨st, mi, yo, he + 1, mu⟩ := by rw [← hr]; simp [tkF, hp, h, h1]
        exact itk_on st mi yo he mu w (Lib.hid hp) h (by omega) h1
      · obtain rfl : R = ⟨1, mi, 0, 0, mu⟩ := by rw [← hr]; simp [tkF, hp, h, h1]
        by_cases h3 : st = 3
        · obtain rfl : t = true := by rw [← ht]; subst h3; simp [tkB, h1, hp]
          exact itk_up st mi yo he mu w (Lib.hid hp) h (by omega) h1 h3
        · obtain rfl : t = false := by rw [← ht]; simp [tkB, h3]
          exact itk_fall st mi yo he mu w (Lib.hid hp) h (by omega) h1 h3
  · have hp := eq_false_of_ne_true hp
    obtain rfl : t = false := by rw [← ht]; simp [tkB, hp]
    obtain rfl : R = ⟨0, 0, 0, 0, 0⟩ := by rw [← hr]; simp [tkF, hp]
    exact itk_no st mi yo he mu w (Lib.hid hp)
theorem iad_t {dn : Bool} {st mi yo he mu : Int} {R : Pu} (w : World) (HR : Hid (adF dn st mi yo he mu = R)) : Calls Try.prog 25 #[.agg #[.int .i64 st, .int .i64 mi, .int .i64 yo, .int .i64 he, .int .i64 mu], .bool dn] w fun e w' => e = .returned (.agg #[.int .i64 R.a, .int .i64 R.b, .int .i64 R.c, .int .i64 R.d, .int .i64 R.e]) ∧ Below w.heap.size w w' := by
  have hr := HR.out
  by_cases hp : pulB st mi yo he mu = true
  · cases dn
    · by_cases h : st = 0
      · obtain rfl : R = ⟨1, mi, 0, 0, mu⟩ := by rw [← hr]; simp [adF, hp, h] <;> simp_all
        exact iad_back st mi yo he mu w (Lib.hid hp) h
      · obtain rfl : R = ⟨st, mi, yo, he, mu⟩ := by rw [← hr]; simp [adF, hp, h]
        exact iad_stay st mi yo he mu w (Lib.hid hp) h
    · obtain rfl : R = ⟨0, mi, 0, 0, mu⟩ := by rw [← hr]; simp [adF, hp]
      exact iad_down st mi yo he mu w (Lib.hid hp)
  · have hp := eq_false_of_ne_true hp
    obtain rfl : R = ⟨0, 0, 0, 0, 0⟩ := by rw [← hr]; simp [adF, hp]
    exact iad_no st mi yo he mu dn w (Lib.hid hp)
theorem eqPulse_same (st mi yo he mu : Int) (w : World) : Calls Try.prog 18 #[.agg #[.int .i64 st, .int .i64 mi, .int .i64 yo, .int .i64 he, .int .i64 mu], .agg #[.int .i64 st, .int .i64 mi, .int .i64 yo, .int .i64 he, .int .i64 mu]] w fun e w' => e = .returned (.bool true) ∧ Below w.heap.size w w' := by
  obtain ⟨bA, bB, B0, z⟩ := two w [.int .i64 st, .int .i64 mi, .int .i64 yo, .int .i64 he, .int .i64 mu] [.int .i64 st, .int .i64 mi, .int .i64 yo, .int .i64 he, .int .i64 mu] 25 25
  clear z
  have f0 := bA.c 0 rfl
  have f1 := bA.c 1 rfl
  have f2 := bA.c 2 rfl
  have f3 := bA.c 3 rfl
  have f4 := bA.c 4 rfl
  have g0 := bB.c 0 rfl
  have g1 := bB.c 1 rfl
  have g2 := bB.c 2 rfl
  have g3 := bB.c 3 rfl
  have g4 := bB.c 4 rfl
  have b0 : (st != st) = false := by simp
  have b1 : (mi != mi) = false := by simp
  have b2 : (yo != yo) = false := by simp
  have b3 : (he != he) = false := by simp
  have b4 : (mu != mu) = false := by simp
  go_enter Try.func18, Try.ntmps18
  go_wp2
  go_ret
  exact ⟨rfl, B0⟩
theorem eqBeat_same (st mi yo : Int) (w : World) : Calls Try.prog 21 #[.agg #[.int .i64 st, .int .i64 mi, .int .i64 yo], .agg #[.int .i64 st, .int .i64 mi, .int .i64 yo]] w fun e w' => e = .returned (.bool true) ∧ Below w.heap.size w w' := by
  obtain ⟨bA, bB, B0, z⟩ := two w [.int .i64 st, .int .i64 mi, .int .i64 yo] [.int .i64 st, .int .i64 mi, .int .i64 yo] 31 31
  clear z
  have f0 := bA.c 0 rfl
  have f1 := bA.c 1 rfl
  have f2 := bA.c 2 rfl
  have g0 := bB.c 0 rfl
  have g1 := bB.c 1 rfl
  have g2 := bB.c 2 rfl
  have b0 : (st != st) = false := by simp
  have b1 : (mi != mi) = false := by simp
  have b2 : (yo != yo) = false := by simp
  go_enter Try.func21, Try.ntmps21
  go_wp2
  go_ret
  exact ⟨rfl, B0⟩
end Go.Proofs.Ytcbiknmkogbjcaa
