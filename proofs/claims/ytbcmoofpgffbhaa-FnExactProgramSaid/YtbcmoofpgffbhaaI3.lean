/-
  Validity of attributes, of the program and of the model. Conditions: those in each contract.
-/
import Derived.Test.YtbcmoofpgffbhaaI2
namespace Go.Proofs.Ytbcmoofpgffbhaa
open Go.ChangeShapes Go.WideShapes Go.ChangeAt Go.RowKit Go.BigFrame Go.Joins
set_option linter.unusedVariables false
set_option maxRecDepth 100000

/-- a slice of ints: its length, and its elements where there are any -/
theorem RdI.el {w : World} {v : Value} {l : List Int} (h : RdI w v l) : ∃ a c, v = .slice a l.length c ∧ ∀ i, i < l.length → ∃ b o, a = some ⟨b, o, none⟩ ∧ w.cell? ⟨b, o + i, none⟩ = some (.int .i64 (l.getD i 0)) := by
  rcases h.2.2 with ⟨a, c, rfl, rfl, hac⟩ | ⟨b, o, c, rfl, hp, hc⟩
  · exact ⟨a, c, rfl, fun i hi => by simp at hi⟩
  · exact ⟨_, c, rfl, fun i hi => ⟨b, o, rfl, hc i hi⟩⟩
def inB (n lo hi : Int) : Bool := decide (lo ≤ n ∧ n ≤ hi)
def asB (n : Int) : Bool := inB n 1 65535
def numsB (l : List Int) : Bool := decide (∀ i, i < l.length → asB (l.getD i 0) = true)
def ascB (l : List Int) : Bool := decide (∀ i, i < l.length - 1 → l.getD i 0 < l.getD (i + 1) 0)
def aokB (p : List Int) (pr : Int) (c : List Int) (bw : Int) : Bool :=
  decide (p.length ≤ 8) && numsB p && inB pr 0 1000 && inB bw 0 1000 && (decide (c.length ≤ 4) && numsB c) && ascB c

theorem within_any (n lo hi : Int) (w : World) : Calls Try.prog 73 #[.int .i64 n, .int .i64 lo, .int .i64 hi] w fun e w' => e = .returned (.bool (inB n lo hi)) ∧ w = w' := by
  by_cases h0 : lo ≤ n
  all_goals
    go_enter Try.func73, Try.ntmps73
    go_wp2
    go_ret
    exact ⟨ret_bool (by unfold inB; first | (congr 1; simp; omega) | (simp; omega)), rfl⟩
theorem sas_any (n : Int) (w : World) : Calls Try.prog 155 #[.int .i64 n] w fun e w' => e = .returned (.bool (asB n)) ∧ w = w' := by
  by_cases h0 : 1 ≤ n
  all_goals
    go_enter Try.func155, Try.ntmps155
    go_wp2
    go_ret
    exact ⟨ret_bool (by unfold asB inB; first | (congr 1; simp; omega) | (simp; omega)), rfl⟩
theorem numok_any (n : Int) (w : World) : Calls Try.prog 197 #[.int .i64 n] w fun e w' => e = .returned (.bool (asB n)) ∧ w = w' := by
  go_enter Try.func197, Try.ntmps197
  go_wp2_with fail
  refine (within_any n 1 65535 _).mono ?_
  rintro e w1 ⟨rfl, rfl⟩
  go_wp2
  go_ret
  exact ⟨rfl, rfl⟩
theorem nums_any (v : Value) (l : List Int) (most : Int) (w : World) (h : RdI w v l) :
    Calls Try.prog 170 #[v, .int .i64 most] w fun e w' => e = .returned (.bool (decide ((l.length : Int) ≤ most) && numsB l)) ∧ Below w.heap.size w w' := by
  have hm := h.2.1
  unfold maxLen at hm
  obtain ⟨a, c, rfl, hc⟩ := h.el
  have hb := getD_bd_I h.1
  obtain ⟨n, hn⟩ : ∃ n, n = l.length := ⟨_, rfl⟩
  rw [← hn] at hc hm ⊢
  have HN := Lib.hid hn
  clear h hn
  by_cases hmost : (n : Int) ≤ most
  · have e : decide ((n : Int) ≤ most) = true := by simp [hmost]
    rw [e, Bool.true_and]
    clear e
    go_enter Try.func170, Try.ntmps170
    go_wp2
    go_loop [13] (fun q => ∃ k : Nat, k ≤ n ∧ q = .int .i64 k ∧ ∀ i, i < k → asB (l.getD i 0) = true) (fun q => n - (intOf q).toNat)
    case atStart => exact ⟨0, Nat.zero_le _, rfl, fun i hi => by omega⟩
    case round =>
      obtain ⟨k, hk, rfl, hall⟩ := hrel
      have HA := Lib.hid hall
      clear hall
      by_cases hlt : k < n
      · have hltI : (k : Int) < (n : Int) := by omega
        obtain ⟨b, o, rfl, e1⟩ := hc k hlt
        obtain ⟨x, hx⟩ : ∃ x, l.getD k 0 = x := ⟨_, rfl⟩
        rw [hx] at e1
        have HX := Lib.hid hx
        clear hx hc hb
        cases has : asB x
        · have hno : numsB l = false := by
            unfold numsB
            simp only [decide_eq_false_iff_not]
            intro h
            have := h k (by rw [← HN.out]; exact hlt)
            rw [HX.out, has] at this
            cases this
          have HF := Lib.hid hno
          have HS := Lib.hid has
          clear hno has
          go_wp2_with fail
          refine (numok_any x _).mono ?_
          rintro e w1 ⟨rfl, rfl⟩
          rw [HS.out]
          go_wp2
          go_ret
          exact ⟨ret_bool HF.out.symm, Below.refl _ _⟩
        · have HS := Lib.hid has
          clear has
          go_wp2_with fail
          refine (numok_any x _).mono ?_
          rintro e w1 ⟨rfl, rfl⟩
          rw [HS.out]
          go_wp2
          go_round
          case rel => exact ⟨k + 1, by omega, by go_num, fun i hi => by
            by_cases e : i = k
            · rw [e, HX.out]; exact HS.out
            · exact HA.out i (by omega)⟩
          case measure => simp [intOf]; omega
      · have hkn : k = n := by omega
        have hyes : numsB l = true := by
          unfold numsB
          simp only [decide_eq_true_eq]
          intro i hi
          exact HA.out i (by rw [hkn, HN.out]; exact hi)
        have HF := Lib.hid hyes
        clear hyes hkn hc hb
        go_wp2
        go_ret
        exact ⟨ret_bool HF.out.symm, Below.refl _ _⟩
  · have e : (decide ((n : Int) ≤ most) && numsB l) = false := by simp [hmost]
    rw [e]
    clear e
    go_enter Try.func170, Try.ntmps170
    go_wp2
    go_ret
    exact ⟨rfl, Below.refl _ _⟩
theorem asc_any (v : Value) (l : List Int) (w : World) (h : RdI w v l) :
    Calls Try.prog 171 #[v] w fun e w' => e = .returned (.bool (ascB l)) ∧ Below w.heap.size w w' := by
  have hm := h.2.1
  unfold maxLen at hm
  obtain ⟨a, c, rfl, hc⟩ := h.el
  obtain ⟨n, hn⟩ : ∃ n, n = l.length := ⟨_, rfl⟩
  rw [← hn] at hc hm ⊢
  have HN := Lib.hid hn
  clear h hn
  go_enter Try.func171, Try.ntmps171
  go_wp2
  go_loopw [3] (fun q wr => ∃ k : Nat, (k + 1 ≤ n ∨ k = 0) ∧ q = .int .i64 ((k : Int) + 1) ∧ (∀ i, i < k → l.getD i 0 < l.getD (i + 1) 0) ∧ Below w.heap.size w wr) (fun q _ => n + 1 - (intOf q).toNat)
  case atStart => exact ⟨0, .inr rfl, rfl, fun i hi => by omega, Below.refl _ _⟩
  case round =>
    obtain ⟨k, hk, rfl, hall, hB⟩ := hrel
    have HA := Lib.hid hall
    clear hall
    by_cases hlt : k + 1 < n
    · have hltI : (k : Int) + 1 < (n : Int) := by omega
      obtain ⟨b, o, hae, e1⟩ := hc k (by omega)
      obtain ⟨b', o', hae', e2⟩ := hc (k + 1) hlt
      rw [hae] at hae'
      injection hae' with hae'
      injection hae' with hb1 ho1
      subst hb1 ho1 hae
      replace e1 := cell_keep hB (World.block_lt_of_cell? w _ e1) e1
      replace e2 := cell_keep hB (World.block_lt_of_cell? w _ e2) e2
      obtain ⟨x, hx⟩ : ∃ x, l.getD k 0 = x := ⟨_, rfl⟩
      obtain ⟨y, hy⟩ : ∃ y, l.getD (k + 1) 0 = y := ⟨_, rfl⟩
      rw [hx] at e1
      rw [hy] at e2
      have HX := Lib.hid hx
      have HY := Lib.hid hy
      clear hx hy hc
      by_cases hxy : x < y
      · have hge : decide (y ≤ x) = false := by simp; omega
        have HL := Lib.hid hxy
        clear hxy
        go_wp2
        go_quiet (fail)
        go_wp2
        go_roundw
        case rel => exact ⟨k + 1, .inl (by omega), by go_num, fun i hi => by
            by_cases e : i = k
            · rw [e, HX.out, HY.out]; exact HL.out
            · exact HA.out i (by omega), hB.trans ⟨rfl, rfl, rfl, Nat.le_refl _, fun _ _ => rfl⟩⟩
        case measure => simp [intOf]; omega
      · have hge : decide (y ≤ x) = true := by simp; omega
        have hno : ascB l = false := by
          unfold ascB
          simp only [decide_eq_false_iff_not]
          intro h
          have := h k (by rw [← HN.out]; omega)
          rw [HX.out, HY.out] at this
          exact hxy this
        have HF := Lib.hid hno
        clear hno hxy
        go_wp2
        go_quiet (fail)
        go_wp2
        go_ret
        exact ⟨ret_bool HF.out.symm, hB.trans ⟨rfl, rfl, rfl, Nat.le_refl _, fun _ _ => rfl⟩⟩
    · have hltI : ¬ ((k : Int) + 1 < (n : Int)) := by omega
      have hyes : ascB l = true := by
        unfold ascB
        simp only [decide_eq_true_eq]
        intro i hi
        exact HA.out i (by rw [← HN.out] at hi; omega)
      have HF := Lib.hid hyes
      clear hyes hc
      go_wp2
      go_ret
      exact ⟨ret_bool HF.out.symm, hB⟩
end Go.Proofs.Ytbcmoofpgffbhaa
