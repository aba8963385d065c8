/-
  The changes between two tables, as lists. Conditions: those in each contract.
-/
import Derived.Test.YtbcmoofpgffbhaaGD
namespace Go.Proofs.Ytbcmoofpgffbhaa
open Go.ChangeShapes Go.WideShapes Go.ChangeAt Go.RowKit Go.BigFrame Go.Joins
set_option linter.unusedVariables false
set_option maxRecDepth 100000
set_option linter.unusedSimpArgs false
set_option maxRecDepth 100000

/-- the same group -/
def sameG (x y : Grp) : Bool := decide (x.a = y.a ∧ x.n = y.n) && decide (x.h = y.h)
/-- what comes: the groups of M that L has not -/
def cameL (L M : List Grp) : List Grp := M.filter fun x => !(L.any fun y => sameG x y)
def pxG (x : Grp) : Int × Int := (x.a, x.n)
def sameQ (p q : Int × Int) : Bool := decide (p.1 = q.1 ∧ p.2 = q.2)
/-- what goes: the prefixes of L that M has not -/
def goneL (L M : List Grp) : List (Int × Int) := (L.map pxG).filter fun p => !((M.map pxG).any fun q => sameQ p q)
/-- the first of the first k groups with that prefix -/
def findJ (L : List Grp) (a n : Int) : Nat → Option Nat
  | 0 => none
  | k + 1 => match findJ L a n k with
    | some j => some j
    | none => if decide ((L.getD k gr0).a = a ∧ (L.getD k gr0).n = n) then some k else none
theorem findJ_none {L : List Grp} {a n : Int} : ∀ {k}, (∀ i, i < k → ¬ ((L.getD i gr0).a = a ∧ (L.getD i gr0).n = n)) → findJ L a n k = none
  | 0, _ => rfl
  | k + 1, h => by
    have h1 := findJ_none (k := k) fun i hi => h i (by omega)
    unfold findJ
    rw [h1, decide_eq_false (h k (by omega))]
    rfl
theorem findJ_keep {L : List Grp} {a n : Int} {j : Nat} : ∀ k m, k ≤ m → findJ L a n k = some j → findJ L a n m = some j
  | k, 0, h, hj => by rw [Nat.le_zero.1 h] at hj; exact hj
  | k, m + 1, h, hj => by
    by_cases e : k = m + 1
    · rw [← e]; exact hj
    · have h1 := findJ_keep k m (by omega) hj
      unfold findJ
      rw [h1]
theorem findJ_some {L : List Grp} {a n : Int} {j m : Nat} (hj : j < m) (hp : (L.getD j gr0).a = a ∧ (L.getD j gr0).n = n) (hno : ∀ i, i < j → ¬ ((L.getD i gr0).a = a ∧ (L.getD i gr0).n = n)) : findJ L a n m = some j := by
  refine findJ_keep (j + 1) m hj ?_
  unfold findJ
  rw [findJ_none hno, decide_eq_true hp]
  rfl
theorem findJ_no {L : List Grp} {a n : Int} : ∀ {k}, findJ L a n k = none → ∀ i, i < k → ¬ ((L.getD i gr0).a = a ∧ (L.getD i gr0).n = n)
  | 0, _, i, hi => absurd hi (by omega)
  | k + 1, h, i, hi => by
    unfold findJ at h
    split at h
    · cases h
    · rename_i h1
      split at h
      · cases h
      · rename_i h2
        by_cases e : i = k
        · subst e; simpa using h2
        · exact findJ_no h1 i (by omega)
theorem findJ_yes {L : List Grp} {a n : Int} {j : Nat} : ∀ {k}, findJ L a n k = some j → j < k ∧ (L.getD j gr0).a = a ∧ (L.getD j gr0).n = n
  | 0, h => by cases h
  | k + 1, h => by
    unfold findJ at h
    split at h
    · rename_i i hi
      cases h
      have := findJ_yes hi
      exact ⟨by omega, this.2⟩
    · split at h
      · rename_i h2
        cases h
        exact ⟨by omega, by simpa using h2⟩
      · cases h
theorem cmp2_ltX {a n b m : Int} : cmp2 a n b m < 0 ↔ a < b ∨ (a = b ∧ n < m) := by
  rcases Int.lt_trichotomy a b with h | h | h
  · have e : cmp1 a b = -1 := cmp1_lt h
    simp [cmp2, orv, e, h]
  · subst h
    have e : cmp1 a a = 0 := cmp1_eq a
    simp [cmp2, orv, e]
    exact cmp1_neg
  · have e : cmp1 a b = 1 := cmp1_gt h
    simp [cmp2, orv, e]
    omega
theorem cmp2_ltD {a n b m : Int} (h : cmp2 a n b m < 0) : a < b ∨ (a = b ∧ n < m) := cmp2_ltX.1 h
/-- in a valid table a prefix stands once -/
theorem fib_lt {L : List Grp} (h : ascG L = true) : ∀ k j, j < k → k < L.length → (L.getD j gr0).a < (L.getD k gr0).a ∨ ((L.getD j gr0).a = (L.getD k gr0).a ∧ (L.getD j gr0).n < (L.getD k gr0).n)
  | 0, j, hj, _ => absurd hj (by omega)
  | k + 1, j, hj, hk => by
    unfold ascG at h
    have h1 := of_decide_eq_true h k (by omega)
    have h2 := cmp2_ltD h1
    by_cases e : j = k
    · subst e; exact h2
    · have := fib_lt (by unfold ascG; exact h) k j (by omega) (by omega)
      omega
theorem fib_asc {L : List Grp} (h : fibB L = true) : ascG L = true ∧ allG L = true ∧ L.length ≤ 60 := by
  unfold fibB at h
  simp only [Bool.and_eq_true, decide_eq_true_eq] at h
  exact ⟨h.2.2, h.2.1, by omega⟩
theorem fib_once {L : List Grp} (h : fibB L = true) {i j : Nat} (hi : i < L.length) (hj : j < L.length) (ha : (L.getD i gr0).a = (L.getD j gr0).a) (hn : (L.getD i gr0).n = (L.getD j gr0).n) : i = j := by
  have h1 := (fib_asc h).1
  rcases Nat.lt_trichotomy i j with q | q | q
  · have := fib_lt h1 j i q hj; omega
  · exact q
  · have := fib_lt h1 i j q hi; omega
theorem mem_getD {L : List Grp} {y : Grp} (h : y ∈ L) : ∃ i, i < L.length ∧ L.getD i gr0 = y := by
  obtain ⟨i, hi, e⟩ := List.getElem_of_mem h
  exact ⟨i, hi, by simp [List.getD, hi, e]⟩
theorem getD_memG {L : List Grp} {i : Nat} (h : i < L.length) : L.getD i gr0 ∈ L := by simp [List.getD, h]
/-- the model's question about a group -/
def hadB (L : List Grp) (x : Grp) : Bool := match findJ L x.a x.n L.length with | none => false | some j => decide ((L.getD j gr0).h = x.h)
theorem hadB_none {L : List Grp} {x : Grp} (h : findJ L x.a x.n L.length = none) : hadB L x = false := by unfold hadB; rw [h]
theorem hadB_some {L : List Grp} {x : Grp} {j : Nat} (h : findJ L x.a x.n L.length = some j) : hadB L x = decide ((L.getD j gr0).h = x.h) := by unfold hadB; rw [h]
theorem came_iff {L : List Grp} (h : fibB L = true) (x : Grp) :
    (L.any fun y => sameG x y) = hadB L x := by
  unfold hadB
  cases hf : findJ L x.a x.n L.length with
  | none =>
    dsimp only
    rw [List.any_eq_false]
    intro y hy
    obtain ⟨i, hi, rfl⟩ := mem_getD hy
    have := findJ_no hf i hi
    unfold sameG
    rw [decide_eq_false (fun q => this ⟨q.1.symm, q.2.symm⟩)]
    simp
  | some j =>
    obtain ⟨hj, ha, hn⟩ := findJ_yes hf
    dsimp only
    rw [Bool.eq_iff_iff, List.any_eq_true, decide_eq_true_eq]
    constructor
    · rintro ⟨y, hy, hs⟩
      obtain ⟨i, hi, rfl⟩ := mem_getD hy
      unfold sameG at hs
      simp only [Bool.and_eq_true, decide_eq_true_eq] at hs
      have := fib_once h hi hj (by omega) (by omega)
      subst this
      exact hs.2.symm
    · intro he
      refine ⟨_, getD_memG hj, ?_⟩
      unfold sameG
      simp only [Bool.and_eq_true, decide_eq_true_eq]
      exact ⟨⟨ha.symm, hn.symm⟩, he.symm⟩
theorem gone_iff (M : List Grp) (a n : Int) : ((M.map pxG).any fun q => sameQ (a, n) q) = (findJ M a n M.length).isSome := by
  cases hf : findJ M a n M.length with
  | none =>
    rw [Option.isSome_none, List.any_eq_false]
    intro q hq hd
    obtain ⟨y, hy, rfl⟩ := List.mem_map.1 hq
    obtain ⟨i, hi, rfl⟩ := mem_getD hy
    have hd := of_decide_eq_true hd
    exact findJ_no hf i hi ⟨hd.1.symm, hd.2.symm⟩
  | some j =>
    obtain ⟨hj, ha, hn⟩ := findJ_yes hf
    rw [Option.isSome_some, List.any_eq_true]
    exact ⟨pxG (M.getD j gr0), List.mem_map.2 ⟨_, getD_memG hj, rfl⟩, decide_eq_true (And.intro ha.symm hn.symm)⟩
/-- what Delta answers -/
def dCame (L M : List Grp) : List Grp := if fibB L && fibB M then cameL L M else []
def dGone (L M : List Grp) : List (Int × Int) := if fibB L && fibB M then goneL L M else []
end Go.Proofs.Ytbcmoofpgffbhaa
