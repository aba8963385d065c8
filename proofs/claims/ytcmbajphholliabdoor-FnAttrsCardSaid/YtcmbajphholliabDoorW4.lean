/-
  Contracts of GetPrefix of the program and of the model. Conditions: those in each contract.
-/
import Derived.Test.YtcmbajphholliabDoorB1
import Derived.StillTailTactics
namespace Go.Proofs.YtcmbajphholliabDoor
open Go.ChangeShapes Go.WideShapes Go.ChangeAt Go.RowKit Go.BigFrame
set_option linter.unusedVariables false
set_option maxRecDepth 100000

theorem wp_still_tail {P : Program} {id : Nat} {Q : Exit → Act → World → Prop} {a : Act} {w : World} {l : List Oper} (n : Nat) (hm : P.follows .mixedOrders = true) (hB : Region.lexTailB .any l.toArray n = true)
    (h : wpStill P l.toArray w.drew (fun a' => wpList P l.toArray Q (l.drop n) a' w.drew) (l.take n) a) : (Code.region id l.toArray true).wp P Q a w := wp_region_still_tail n hm hB h
theorem or_i64 (a b : Nat) (ha : a < 4294967296) (hb : b < 4294967296) : bits .or .i64 (a : Int) (b : Int) = ((a ||| b : Nat) : Int) := by
  unfold bits
  show IntKind.i64.wrap ((BitVec.ofInt 64 (a : Int) ||| BitVec.ofInt 64 (b : Int)).toNat : Int) = _
  rw [bvInt a, bvInt b, BitVec.toNat_or, BitVec.toNat_ofNat, BitVec.toNat_ofNat, Nat.mod_eq_of_lt (by omega), Nat.mod_eq_of_lt (by omega)]
  have := Nat.or_lt_two_pow (x := a) (y := b) (n := 32) ha hb
  exact wrap64_in _ (by omega) (by omega)
theorem or_zero (x : Int) (h0 : 0 ≤ x) (h1 : x < 4294967296) : bits .or .i64 0 x = x := by
  obtain ⟨a, rfl⟩ := Int.eq_ofNat_of_zero_le h0
  have := or_i64 0 a (by omega) (by omega)
  simpa using this
theorem or_hl (x y : Int) (h0 : 0 ≤ x) (h1 : x ≤ 255) (h2 : 0 ≤ y) (h3 : y ≤ 255) : bits .or .i64 (x * 256) y = x * 256 + y := by
  obtain ⟨a, rfl⟩ := Int.eq_ofNat_of_zero_le h0
  obtain ⟨b, rfl⟩ := Int.eq_ofNat_of_zero_le h2
  have e : ((a : Int) * 256) = ((a * 256 : Nat) : Int) := by simp
  rw [e, or_i64 _ _ (by omega) (by omega)]
  have h := Nat.shiftLeft_add_eq_or_of_lt (b := b) (i := 8) (by omega) a
  rw [Nat.shiftLeft_eq] at h
  rw [← show 2 ^ 8 = 256 by rfl, ← h]
  simp

/-- the number of bytes behind the length -/
def nbytes (n : Int) : Int := (n + 7) / 8
def gAddr (l : List Int) (k : Nat) : Int :=
  if l.getD k 0 = 0 then 0 else if l.getD k 0 ≤ 8 then l.getD (k + 1) 0 * 256 else l.getD (k + 1) 0 * 256 + l.getD (k + 2) 0
/-- the prefix at place k, if it is there whole -/
def gHas (l : List Int) (k : Nat) : Prop := k < l.length ∧ l.getD k 0 ≤ 16 ∧ (k : Int) + 1 + nbytes (l.getD k 0) ≤ l.length
def gOk (l : List Int) (at_ : Int) : Prop := 0 ≤ at_ ∧ gHas l at_.toNat ∧ pokB (gAddr l at_.toNat) (l.getD at_.toNat 0) = true
instance (l : List Int) (k : Nat) : Decidable (gHas l k) := by unfold gHas; infer_instance
instance (l : List Int) (a : Int) : Decidable (gOk l a) := by unfold gOk; infer_instance
/-- what GetPrefix answers -/
def gAns (l : List Int) (a : Int) : Value :=
  if gOk l a then .tuple #[.agg #[.int .i64 (gAddr l a.toNat), .int .i64 (l.getD a.toNat 0)], .int .i64 (a + 1 + nbytes (l.getD a.toNat 0))] else .tuple #[.agg #[.int .i64 0, .int .i64 0], .int .i64 (-1)]
theorem gAns_no {l : List Int} {a : Int} (h : ¬ gOk l a) : gAns l a = .tuple #[.agg #[.int .i64 0, .int .i64 0], .int .i64 (-1)] := if_neg h
theorem gAns_yes {l : List Int} {a : Int} (h : gOk l a) : gAns l a = .tuple #[.agg #[.int .i64 (gAddr l a.toNat), .int .i64 (l.getD a.toNat 0)], .int .i64 (a + 1 + nbytes (l.getD a.toNat 0))] := if_pos h

theorem fr_keep {B b o : Nat} {w w1 : World} {v : Bool} (hb : Below B w w1) (hl : b < B) (h : w.frozen? ⟨b, o, none⟩ = v) : w1.frozen? ⟨b, o, none⟩ = v :=
  (hb.frozen (p := ⟨b, o, none⟩) hl).trans h

end Go.Proofs.YtcmbajphholliabDoor
