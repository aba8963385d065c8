/-
  A map keyed by prefixes, filled by the program with the prefixes that cover a given one: what it answers. Conditions: those in each contract.
-/
import Derived.Test.YtcmbajphholliabDoorB3
import Derived.Maps.OwnSet
import Derived.DeepKeys4
namespace Go.Proofs.YtcmbajphholliabDoor
open Go.ChangeShapes Go.WideShapes Go.ChangeAt Go.RowKit Go.BigFrame Go.Maps
set_option linter.unusedVariables false
set_option maxRecDepth 100000

theorem lawP : Keyed Tryd.prog 83 := Keyed.of_law (deep_law_laid laidOut (m := 2) (by omega) (by decide +kernel) (by kernel_rfl) (by kernel_rfl))
theorem keyP (a n : Int) (ha : (Lit.int .i64 a).wf = true) (hn : (Lit.int .i64 n).wf = true) : ∃ kl, keyOf Tryd.prog 83 (.agg #[.int .i64 a, .int .i64 n]) = some kl := by
  have h1 : Tryd.prog.keyType 83 = true := by kernel_rfl
  have hc : Tryd.prog.cellsOf 83 = 2 := by kernel_rfl
  have hi : Tryd.prog.cellsOf 3 = 1 := by kernel_rfl
  have hs : (2 ≤ Tryd.prog.types.size : Prop) := of_decide_eq_true (by kernel_rfl)
  have h2 : Value.formed Tryd.prog 83 (.agg #[.int .i64 a, .int .i64 n]) = true := by
    unfold Value.formed
    rw [Tryd.underlying83, hc]
    rfl
  obtain ⟨d, hd⟩ : ∃ d, Tryd.prog.types.size + 1 = d + 2 := ⟨Tryd.prog.types.size - 1, by omega⟩
  have k2 : ∀ x : Int, (Lit.int .i64 x).wf = true → Tryd.prog.keyLits (d + 1) 3 [.int .i64 x] = some [.int .i64 x] := by
    intro x hx
    unfold Program.keyLits
    rw [Tryd.underlying3]
    simp [hx]
  have k1 : Tryd.prog.keyLits (d + 2) 83 [.int .i64 a, .int .i64 n] = some [.int .i64 a, .int .i64 n] := by
    unfold Program.keyLits
    rw [Tryd.underlying83]
    simp [hc, hi, k2 a ha, k2 n hn]
  unfold keyOf
  rw [Tryd.underlying83, hd]
  simp only [h1, h2, Bool.and_self, if_true]
  exact ⟨_, by rw [show (Value.agg #[Value.int .i64 a, Value.int .i64 n]).cells.toList = [.int .i64 a, .int .i64 n] from rfl, k1]; rfl⟩
/-- what a prefix reads as, as a key -/
noncomputable def kl (a n : Int) : Lit := (keyOf Tryd.prog 83 (.agg #[.int .i64 a, .int .i64 n])).getD .nil
def fits (x : Int) : Prop := -9223372036854775808 ≤ x ∧ x ≤ 9223372036854775807
theorem kl_is {a n : Int} (ha : fits a) (hn : fits n) : keyOf Tryd.prog 83 (.agg #[.int .i64 a, .int .i64 n]) = some (kl a n) := by
  obtain ⟨k, hk⟩ := keyP a n (WalkArith.wf_i64 ha) (WalkArith.wf_i64 hn)
  unfold kl
  rw [hk]
  rfl
theorem kl_inj {a n b m : Int} (ha : fits a) (hn : fits n) (hb : fits b) (hm : fits m) (h : kl a n = kl b m) : a = b ∧ n = m := by
  have h1 := kl_is ha hn
  have h2 := kl_is hb hm
  rw [← h] at h2
  have h3 := lawP.inj h1 h2
  simpa using h3
/-- the map behind k rounds -/
noncomputable def Dm (a : Int) : Nat → DataW Unit
  | 0 => .map []
  | k + 1 => (Dm a k).put (kl (hd a k) k) (.lit (.bool true))
theorem Dm_map (a : Int) : ∀ k, IsMap (Dm a k)
  | 0 => isMap_empty
  | k + 1 => (Dm_map a k).put _ _
theorem Dm_at (a b m : Int) (ha : 0 ≤ a) (ha' : a ≤ 65535) (hb : fits b) (hm : fits m) : ∀ k : Nat, k ≤ 17 → (Dm a k).atKey (kl b m) (.lit (.bool false)) = .lit (.bool (decide (0 ≤ m ∧ m < k ∧ hd a m = b)))
  | 0, _ => by
    have : decide (0 ≤ m ∧ m < ((0 : Nat) : Int) ∧ hd a m = b) = false := by simp; omega
    rw [this]; rfl
  | k + 1, hk => by
    have ih := Dm_at a b m ha ha' hb hm k (by omega)
    obtain ⟨h1, h2⟩ := hd_bd a k ha ha'
    have f1 : fits (hd a k) := ⟨by omega, by omega⟩
    have f2 : fits (k : Int) := ⟨by omega, by omega⟩
    by_cases e : kl (hd a k) k = kl b m
    · obtain ⟨e1, e2⟩ := kl_inj f1 f2 hb hm e
      show ((Dm a k).put (kl (hd a k) k) (.lit (.bool true))).atKey (kl b m) _ = _
      rw [← e, atKey_put_same (Dm_map a k) (lawP.key (kl_is f1 f2))]
      have : decide (0 ≤ m ∧ m < ((k + 1 : Nat) : Int) ∧ hd a m = b) = true := by
        rw [← e2]; simp [e1]; omega
      rw [this]
    · show ((Dm a k).put (kl (hd a k) k) (.lit (.bool true))).atKey (kl b m) _ = _
      rw [atKey_put_other (Ne.symm e), ih]
      congr 2
      simp only [decide_eq_decide]
      constructor
      · rintro ⟨h0, h3, h4⟩; exact ⟨h0, by omega, h4⟩
      · rintro ⟨h0, h3, h4⟩
        refine ⟨h0, ?_, h4⟩
        by_cases em : m = k
        · subst em; exact absurd (by rw [h4]) e
        · omega

theorem run_makeMap_hint {P : Program} (t k e : TypeId) (kd : IntKind) (n : Int) (ht : P.underlying t = some (.map k e)) (w : World) :
    (Instr.makeMap t (some (.int kd n))).run P w = .ok (.map (some w.heap.size)) (w.alloc (.map #[] 0)) := by
  simp [Instr.makeMap, run_underlying ht]; rfl
/-- the map that chain makes -/
def ChainB (w : World) (a : Int) (k : Nat) (e : Ending) (w' : World) : Prop :=
  ∃ g, e = .returned (.map (some g)) ∧ w'.ownsMap Tryd.prog 83 (plainElem Tryd.prog 4) g k (Dm a k) ∧ Below w.heap.size w w'

end Go.Proofs.YtcmbajphholliabDoor
