/-
  Contracts of FrameSize of the program and of the model. Conditions: those in each contract.
-/
import Derived.Test.YthecdnfloahoaaaI3
import Derived.Test.YthecdnfloahoaaaO2
namespace Go.Proofs.Ythecdnfloahoaaa
open Go.ChangeShapes Go.WideShapes Go.ChangeAt Go.RowKit Go.BigFrame
set_option linter.unusedVariables false
set_option maxRecDepth 100000

theorem Rd.el {w : World} {v : Value} {l : List Int} (h : Rd w v l) : ∃ a c, v = .slice a l.length c ∧ ∀ i, i < l.length → ∃ b o, a = some ⟨b, o, none⟩ ∧ w.cell? ⟨b, o + i, none⟩ = some (.int .u8 (l.getD i 0)) := by
  rcases h.2.2 with ⟨a, c, rfl, rfl, -⟩ | ⟨b, o, c, rfl, -, hc⟩
  · exact ⟨a, c, rfl, fun i hi => absurd hi (by simp)⟩
  · exact ⟨_, c, rfl, fun i hi => ⟨b, o, rfl, hc i hi⟩⟩
/-- the frame's head is one -/
def headB (s k : Int) : Bool := inB s 4 100 && inB k 1 4
/-- what FrameSize answers -/
def fsz (l : List Int) : Int :=
  if 0 < l.length ∧ l.getD 0 0 ≠ 255 then -1
  else if 1 < l.length ∧ l.getD 1 0 ≠ 255 then -1
  else if l.length < 4 then 0
  else if headB (l.getD 2 0) (l.getD 3 0) then l.getD 2 0 else -1

theorem sfr_0 (w : World) (a : Option Addr) (c : Nat) :
    Calls Try.prog 36 #[.slice a 0 c] w fun e w' => e = .returned (.int .i64 0) ∧ Below w.heap.size w w' := by
  go_enter Try.func36, Try.ntmps36
  go_wp2
  refine wp_loop_rounds 3 ?_
  rw [rounds_succ]
  go_wp2
  go_ret
  exact ⟨rfl, Below.refl _ _⟩
theorem ifr_0 (w : World) (a : Option Addr) (c : Nat) (ha : a = none → c = 0) :
    Calls Try.prog 37 #[.slice a 0 c] w fun e w' => e = .returned (.int .i64 0) ∧ Below w.heap.size w w' := by
  cases a with
  | none =>
    obtain rfl := ha rfl
    go_enter Try.func37, Try.ntmps37
    go_wp2
    refine wp_loop_rounds 3 ?_
    rw [rounds_succ]
    go_wp2
    go_ret
    exact ⟨rfl, Below.refl _ _⟩
  | some p =>
    clear ha
    go_enter Try.func37, Try.ntmps37
    go_wp2
    refine wp_loop_rounds 3 ?_
    rw [rounds_succ]
    go_wp2
    go_ret
    exact ⟨rfl, Below.refl _ _⟩
section
variable (w : World) (b o c n : Nat) (hm : n ≤ 9223372036854775807)
include hm
theorem sfr_1 (x : Int) (hn : 0 < n) (e0 : w.cell? ⟨b, o, none⟩ = some (.int .u8 x)) (hx : (x != 255) = true) :
    Calls Try.prog 36 #[.slice (some ⟨b, o, none⟩) n c] w fun e w' => e = .returned (.int .i64 (-1)) ∧ Below w.heap.size w w' := by
  have hnI : (0 : Int) < (n : Int) := by omega
  go_enter Try.func36, Try.ntmps36
  go_wp2
  refine wp_loop_rounds 3 ?_
  rw [rounds_succ]
  go_wp2
  go_ret
  exact ⟨rfl, Below.refl _ _⟩
theorem ifr_1 (x : Int) (hn : 0 < n) (hc : n ≤ c) (e0 : w.cell? ⟨b, o, none⟩ = some (.int .u8 x)) (hx : (x != 255) = true) :
    Calls Try.prog 37 #[.slice (some ⟨b, o, none⟩) n c] w fun e w' => e = .returned (.int .i64 (-1)) ∧ Below w.heap.size w w' := by
  have hnI : (0 : Int) < (n : Int) := by omega
  have hcI : (n : Int) ≤ (c : Int) := by omega
  by_cases h2 : (n : Int) ≤ 2
  · go_enter Try.func37, Try.ntmps37
    go_wp2
    refine wp_loop_rounds 3 ?_
    rw [rounds_succ]
    go_wp2
    go_ret
    exact ⟨rfl, Below.refl _ _⟩
  · have h3 : 2 ≤ c := by omega
    go_enter Try.func37, Try.ntmps37
    go_wp2
    refine wp_loop_rounds 3 ?_
    rw [rounds_succ]
    go_wp2
    go_ret
    exact ⟨rfl, Below.refl _ _⟩
end
theorem sfr_one (w : World) (b o c : Nat) (e0 : w.cell? ⟨b, o, none⟩ = some (.int .u8 255)) :
    Calls Try.prog 36 #[.slice (some ⟨b, o, none⟩) 1 c] w fun e w' => e = .returned (.int .i64 0) ∧ Below w.heap.size w w' := by
  go_enter Try.func36, Try.ntmps36
  go_wp2
  refine wp_loop_rounds 3 ?_
  rw [rounds_succ]
  go_wp2
  rw [rounds_succ]
  go_wp2
  go_ret
  exact ⟨rfl, Below.refl _ _⟩
theorem ifr_one (w : World) (b o c : Nat) (hc : 1 ≤ c) (e0 : w.cell? ⟨b, o, none⟩ = some (.int .u8 255)) :
    Calls Try.prog 37 #[.slice (some ⟨b, o, none⟩) 1 c] w fun e w' => e = .returned (.int .i64 0) ∧ Below w.heap.size w w' := by
  go_enter Try.func37, Try.ntmps37
  go_wp2
  refine wp_loop_rounds 3 ?_
  rw [rounds_succ]
  go_wp2
  rw [rounds_succ]
  go_wp2
  go_ret
  exact ⟨rfl, Below.refl _ _⟩
section
variable (w : World) (b o c n : Nat) (hm : n ≤ 9223372036854775807) (hn : 2 ≤ n) (e0 : w.cell? ⟨b, o, none⟩ = some (.int .u8 255))
include hm hn e0
theorem sfr_2 (x : Int) (e1 : w.cell? ⟨b, o + 1, none⟩ = some (.int .u8 x)) (hx : (x != 255) = true) :
    Calls Try.prog 36 #[.slice (some ⟨b, o, none⟩) n c] w fun e w' => e = .returned (.int .i64 (-1)) ∧ Below w.heap.size w w' := by
  have hnI : (0 : Int) < (n : Int) := by omega
  have hnJ : (1 : Int) < (n : Int) := by omega
  go_enter Try.func36, Try.ntmps36
  go_wp2
  refine wp_loop_rounds 3 ?_
  rw [rounds_succ]
  go_wp2
  rw [rounds_succ]
  go_wp2
  go_ret
  exact ⟨rfl, Below.refl _ _⟩
theorem ifr_2 (x : Int) (hc : n ≤ c) (e1 : w.cell? ⟨b, o + 1, none⟩ = some (.int .u8 x)) (hx : (x != 255) = true) :
    Calls Try.prog 37 #[.slice (some ⟨b, o, none⟩) n c] w fun e w' => e = .returned (.int .i64 (-1)) ∧ Below w.heap.size w w' := by
  have h3 : 2 ≤ c := by omega
  by_cases h2 : n = 2
  · subst h2
    go_enter Try.func37, Try.ntmps37
    go_wp2
    refine wp_loop_rounds 3 ?_
    rw [rounds_succ]
    go_wp2
    rw [rounds_succ]
    go_wp2
    go_ret
    exact ⟨rfl, Below.refl _ _⟩
  · have h2 : ¬ (n : Int) ≤ 2 := by omega
    go_enter Try.func37, Try.ntmps37
    go_wp2
    refine wp_loop_rounds 3 ?_
    rw [rounds_succ]
    go_wp2
    rw [rounds_succ]
    go_wp2
    go_ret
    exact ⟨rfl, Below.refl _ _⟩
variable (e1 : w.cell? ⟨b, o + 1, none⟩ = some (.int .u8 255))
include e1
theorem sfr_3 (h4 : n < 4) :
    Calls Try.prog 36 #[.slice (some ⟨b, o, none⟩) n c] w fun e w' => e = .returned (.int .i64 0) ∧ Below w.heap.size w w' := by
  have hnI : (0 : Int) < (n : Int) := by omega
  have hnJ : (1 : Int) < (n : Int) := by omega
  have hnK : (n : Int) < 4 := by omega
  go_enter Try.func36, Try.ntmps36
  go_wp2
  refine wp_loop_rounds 3 ?_
  rw [rounds_succ]
  go_wp2
  rw [rounds_succ]
  go_wp2
  rw [rounds_succ]
  go_wp2
  go_ret
  exact ⟨rfl, Below.refl _ _⟩
theorem ifr_3 (hc : n ≤ c) (h4 : n < 4) :
    Calls Try.prog 37 #[.slice (some ⟨b, o, none⟩) n c] w fun e w' => e = .returned (.int .i64 0) ∧ Below w.heap.size w w' := by
  have h3 : 2 ≤ c := by omega
  obtain rfl | rfl : n = 2 ∨ n = 3 := by omega
  all_goals
    go_enter Try.func37, Try.ntmps37
    go_wp2
    refine wp_loop_rounds 3 ?_
    rw [rounds_succ]
    go_wp2
    rw [rounds_succ]
    go_wp2
    rw [rounds_succ]
    go_wp2
    go_ret
    exact ⟨rfl, Below.refl _ _⟩
variable (h4 : 4 ≤ n) (s k : Int) (e2 : w.cell? ⟨b, o + 2, none⟩ = some (.int .u8 s)) (e3 : w.cell? ⟨b, o + 3, none⟩ = some (.int .u8 k)) (hs : 0 ≤ s ∧ s ≤ 255) (hk : 0 ≤ k ∧ k ≤ 255)
include h4 e2 e3 hs hk
theorem sfr_4 :
    Calls Try.prog 36 #[.slice (some ⟨b, o, none⟩) n c] w fun e w' => e = .returned (.int .i64 (if headB s k then s else -1)) ∧ Below w.heap.size w w' := by
  have hnI : (0 : Int) < (n : Int) := by omega
  have hnJ : (1 : Int) < (n : Int) := by omega
  have hnK : ¬ (n : Int) < 4 := by omega
  have hn2 : (2 : Int) < (n : Int) := by omega
  have hn3 : (3 : Int) < (n : Int) := by omega
  obtain ⟨r, hr⟩ : ∃ r, (if headB s k then s else -1) = r := ⟨_, rfl⟩
  rw [hr]
  have HR := Lib.hid hr
  clear hr
  obtain ⟨hs0, hs1⟩ := hs
  obtain ⟨hk0, hk1⟩ := hk
  by_cases g1 : s < 4
  · have hr : -1 = r := by rw [← HR.out, if_neg (by unfold headB inB; simp; omega)]
    subst hr
    clear HR
    go_enter Try.func36, Try.ntmps36
    go_wp2
    refine wp_loop_rounds 3 ?_
    rw [rounds_succ]
    go_wp2
    rw [rounds_succ]
    go_wp2
    rw [rounds_succ]
    go_wp2
    go_ret
    exact ⟨rfl, Below.refl _ _⟩
  by_cases g2 : 100 < s
  · have hr : -1 = r := by rw [← HR.out, if_neg (by unfold headB inB; simp; omega)]
    subst hr
    clear HR
    go_enter Try.func36, Try.ntmps36
    go_wp2
    refine wp_loop_rounds 3 ?_
    rw [rounds_succ]
    go_wp2
    rw [rounds_succ]
    go_wp2
    rw [rounds_succ]
    go_wp2
    go_ret
    exact ⟨rfl, Below.refl _ _⟩
  by_cases g3 : k < 1
  · have hr : -1 = r := by rw [← HR.out, if_neg (by unfold headB inB; simp; omega)]
    subst hr
    clear HR
    go_enter Try.func36, Try.ntmps36
    go_wp2
    refine wp_loop_rounds 3 ?_
    rw [rounds_succ]
    go_wp2
    rw [rounds_succ]
    go_wp2
    rw [rounds_succ]
    go_wp2
    go_ret
    exact ⟨rfl, Below.refl _ _⟩
  by_cases g4 : 4 < k
  · have hr : -1 = r := by rw [← HR.out, if_neg (by unfold headB inB; simp; omega)]
    subst hr
    clear HR
    go_enter Try.func36, Try.ntmps36
    go_wp2
    refine wp_loop_rounds 3 ?_
    rw [rounds_succ]
    go_wp2
    rw [rounds_succ]
    go_wp2
    rw [rounds_succ]
    go_wp2
    go_ret
    exact ⟨rfl, Below.refl _ _⟩
  · have hr : s = r := by rw [← HR.out, if_pos (by unfold headB inB; simp; omega)]
    subst hr
    clear HR
    go_enter Try.func36, Try.ntmps36
    go_wp2
    refine wp_loop_rounds 3 ?_
    rw [rounds_succ]
    go_wp2
    rw [rounds_succ]
    go_wp2
    rw [rounds_succ]
    go_wp2
    go_ret
    exact ⟨rfl, Below.refl _ _⟩
set_option maxHeartbeats 1000000 in
theorem ifr_4 (hc : n ≤ c) :
    Calls Try.prog 37 #[.slice (some ⟨b, o, none⟩) n c] w fun e w' => e = .returned (.int .i64 (if headB s k then s else -1)) ∧ Below w.heap.size w w' := by
  have hnN : ¬ (n : Int) ≤ 2 := by omega
  have hnK : ¬ (n : Int) < 4 := by omega
  have hn2 : (2 : Int) < (n : Int) := by omega
  have hn3 : (3 : Int) < (n : Int) := by omega
  have h3 : 2 ≤ c := by omega
  obtain ⟨r, hr⟩ : ∃ r, (if headB s k then s else -1) = r := ⟨_, rfl⟩
  rw [hr]
  have HR := Lib.hid hr
  clear hr
  obtain ⟨hs0, hs1⟩ := hs
  obtain ⟨hk0, hk1⟩ := hk
  obtain ⟨p, hp⟩ : ∃ p, inB s 4 100 = p := ⟨_, rfl⟩
  obtain ⟨q, hq⟩ : ∃ q, inB k 1 4 = q := ⟨_, rfl⟩
  have HP := Lib.hid hp
  have HQ := Lib.hid hq
  clear hp hq
  cases p
  · have hr : -1 = r := by rw [← HR.out, if_neg (by unfold headB; rw [HP.out]; simp)]
    subst hr
    clear HR
    go_enter Try.func37, Try.ntmps37
    go_wp2
    refine wp_loop_rounds 3 ?_
    rw [rounds_succ]
    go_wp2
    rw [rounds_succ]
    go_wp2
    rw [rounds_succ]
    go_wp2
    go_region
    go_wp2_with fail
    refine (within_any s 4 100 _).mono ?_
    rintro e w1 ⟨rfl, rfl⟩
    rw [HP.out]
    go_wp2_with fail
    go_ret
    exact ⟨rfl, (Below.refl _ _).drew⟩
  cases q
  · have hr : -1 = r := by rw [← HR.out, if_neg (by unfold headB; rw [HQ.out]; simp)]
    subst hr
    clear HR
    go_enter Try.func37, Try.ntmps37
    go_wp2
    refine wp_loop_rounds 3 ?_
    rw [rounds_succ]
    go_wp2
    rw [rounds_succ]
    go_wp2
    rw [rounds_succ]
    go_wp2
    go_region
    go_wp2_with fail
    refine (within_any s 4 100 _).mono ?_
    rintro e w1 ⟨rfl, rfl⟩
    rw [HP.out]
    go_wp2_with fail
    refine (within_any k 1 4 _).mono ?_
    rintro e w1 ⟨rfl, rfl⟩
    rw [HQ.out]
    go_wp2_with fail
    go_ret
    exact ⟨rfl, (Below.refl _ _).drew⟩
  · have hr : s = r := by rw [← HR.out, if_pos (by unfold headB; rw [HP.out, HQ.out]; rfl)]
    subst hr
    clear HR
    go_enter Try.func37, Try.ntmps37
    go_wp2
    refine wp_loop_rounds 3 ?_
    rw [rounds_succ]
    go_wp2
    rw [rounds_succ]
    go_wp2
    rw [rounds_succ]
    go_wp2
    go_region
    go_wp2_with fail
    refine (within_any s 4 100 _).mono ?_
    rintro e w1 ⟨rfl, rfl⟩
    rw [HP.out]
    go_wp2_with fail
    refine (within_any k 1 4 _).mono ?_
    rintro e w1 ⟨rfl, rfl⟩
    rw [HQ.out]
    go_wp2_with fail
    go_ret
    exact ⟨rfl, (Below.refl _ _).drew⟩
end
theorem sfr_any (v : Value) (l : List Int) (w : World) (h : Rd w v l) :
    Calls Try.prog 36 #[v] w fun e w' => e = .returned (.int .i64 (fsz l)) ∧ Below w.heap.size w w' := by
  have hm := h.2.1
  have hm : l.length ≤ 9223372036854775807 := by unfold maxLen at hm; omega
  have hbd := getD_bd h.1
  rcases h.2.2 with ⟨a, c, rfl, rfl, -⟩ | ⟨b, o, c, rfl, hp, hc⟩
  · rw [show fsz [] = 0 by decide]
    exact sfr_0 w a c
  by_cases x0 : l.getD 0 0 = 255
  · by_cases h1 : l.length = 1
    · rw [show fsz l = 0 by unfold fsz; rw [if_neg (by omega), if_neg (by omega), if_pos (by omega)], h1]
      exact sfr_one w b o c (by rw [← x0]; exact hc 0 hp)
    · by_cases x1 : l.getD 1 0 = 255
      · by_cases h4 : l.length < 4
        · rw [show fsz l = 0 by unfold fsz; rw [if_neg (by omega), if_neg (by omega), if_pos (by omega)]]
          exact sfr_3 w b o c _ hm (by omega) (by rw [← x0]; exact hc 0 hp) (by rw [← x1]; exact hc 1 (by omega)) h4
        · rw [show fsz l = if headB (l.getD 2 0) (l.getD 3 0) then l.getD 2 0 else -1 by unfold fsz; rw [if_neg (by omega), if_neg (by omega), if_neg (by omega)]]
          exact sfr_4 w b o c _ hm (by omega) (by rw [← x0]; exact hc 0 hp) (by rw [← x1]; exact hc 1 (by omega)) (by omega) _ _ (hc 2 (by omega)) (hc 3 (by omega)) (hbd 2) (hbd 3)
      · rw [show fsz l = -1 by unfold fsz; rw [if_neg (by omega), if_pos (by omega)]]
        exact sfr_2 w b o c _ hm (by omega) (by rw [← x0]; exact hc 0 hp) _ (hc 1 (by omega)) (by simpa using x1)
  · rw [show fsz l = -1 by unfold fsz; rw [if_pos (by omega)]]
    exact sfr_1 w b o c _ hm _ hp (hc 0 hp) (by simpa using x0)
theorem ifr_any (v : Value) (l : List Int) (w : World) (h : Rd w v l) (hcap : Cap v l) :
    Calls Try.prog 37 #[v] w fun e w' => e = .returned (.int .i64 (fsz l)) ∧ Below w.heap.size w w' := by
  have hm := h.2.1
  have hm : l.length ≤ 9223372036854775807 := by unfold maxLen at hm; omega
  have hbd := getD_bd h.1
  obtain ⟨a', c', hv, hcp⟩ := hcap
  rcases h.2.2 with ⟨a, c, rfl, rfl, hac⟩ | ⟨b, o, c, rfl, hp, hc⟩
  · rw [show fsz [] = 0 by decide]
    exact ifr_0 w a c hac
  obtain ⟨-, -, rfl⟩ := (by simpa using hv : some (⟨b, o, none⟩ : Addr) = a' ∧ True ∧ c = c')
  by_cases x0 : l.getD 0 0 = 255
  · by_cases h1 : l.length = 1
    · rw [show fsz l = 0 by unfold fsz; rw [if_neg (by omega), if_neg (by omega), if_pos (by omega)], h1]
      exact ifr_one w b o c (by omega) (by rw [← x0]; exact hc 0 hp)
    · by_cases x1 : l.getD 1 0 = 255
      · by_cases h4 : l.length < 4
        · rw [show fsz l = 0 by unfold fsz; rw [if_neg (by omega), if_neg (by omega), if_pos (by omega)]]
          exact ifr_3 w b o c _ hm (by omega) (by rw [← x0]; exact hc 0 hp) (by rw [← x1]; exact hc 1 (by omega)) hcp h4
        · rw [show fsz l = if headB (l.getD 2 0) (l.getD 3 0) then l.getD 2 0 else -1 by unfold fsz; rw [if_neg (by omega), if_neg (by omega), if_neg (by omega)]]
          exact ifr_4 w b o c _ hm (by omega) (by rw [← x0]; exact hc 0 hp) (by rw [← x1]; exact hc 1 (by omega)) (by omega) _ _ (hc 2 (by omega)) (hc 3 (by omega)) (hbd 2) (hbd 3) hcp
      · rw [show fsz l = -1 by unfold fsz; rw [if_neg (by omega), if_pos (by omega)]]
        exact ifr_2 w b o c _ hm (by omega) (by rw [← x0]; exact hc 0 hp) _ hcp (hc 1 (by omega)) (by simpa using x1)
  · rw [show fsz l = -1 by unfold fsz; rw [if_pos (by omega)]]
    exact ifr_1 w b o c _ hm _ hp hcp (hc 0 hp) (by simpa using x0)
end Go.Proofs.Ythecdnfloahoaaa
