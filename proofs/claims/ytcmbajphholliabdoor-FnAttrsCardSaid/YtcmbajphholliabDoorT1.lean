/-
  The text of a number and of a prefix; contracts of the functions that write it, of the program and of the model. Conditions: those in each contract (the library's table of powers of ten reads as it is laid).
-/
import Derived.Test.YtcmbajphholliabDoorB4
import Derived.Test.YtcmbajphholliabDoorShelf
import Derived.Lib.AppendIntMem
import Derived.Lib.ItoaMem
import Derived.StillTailTactics
namespace Go.Proofs.YtcmbajphholliabDoor
open Go.ChangeShapes Go.WideShapes Go.ChangeAt Go.RowKit Go.BigFrame
set_option linter.unusedVariables false
set_option maxRecDepth 100000

def dg (n : Nat) : List Int := (Lib.decDigits n).map fun b => (b.toNat : Int)
theorem dg_small {n : Nat} (h : n < 10) : dg n = [48 + (n : Int)] := by
  unfold dg
  rw [Lib.decDigits, dif_pos h]
  simp
  omega
theorem dg_big {n : Nat} (h : ¬ n < 10) : dg n = dg (n / 10) ++ [48 + (n % 10 : Int)] := by
  unfold dg
  rw [Lib.decDigits, dif_neg h]
  have : (UInt8.ofNat (48 + n % 10)).toNat = 48 + n % 10 := by simp; omega
  simp only [List.map_append, List.map_cons, List.map_nil, this]
  congr 2
theorem dg_bd (n : Nat) : ∀ x ∈ dg n, 0 ≤ x ∧ x ≤ 255 := by
  intro x hx
  simp only [dg, List.mem_map] at hx
  obtain ⟨b, _, rfl⟩ := hx
  have := b.toNat_lt
  omega
def textL (a n : Int) : List Int := if pokB a n = true then dg (a / 256).toNat ++ 46 :: (dg (a % 256).toNat ++ 47 :: dg n.toNat) else []
theorem textL_bd (a n : Int) : ∀ x ∈ textL a n, 0 ≤ x ∧ x ≤ 255 := by
  intro x hx
  unfold textL at hx
  split at hx
  · simp only [List.mem_append, List.mem_cons] at hx
    rcases hx with h | rfl | h | rfl | h
    · exact dg_bd _ x h
    · omega
    · exact dg_bd _ x h
    · omega
    · exact dg_bd _ x h
  · simp at hx
/-- the library's table -/
def Tab (w : World) : Prop := Lib.TabIs Tryd.prog w "internal/strconv.uint64pow10" .u64 Lib.pow10Tab
theorem Tab.keep {w w' : World} (h : Tab w) (hb : Below w.heap.size w w') : Tab w' := (Lib.tabBelow_of_tabIs h) w' hb
theorem itoa_any (n : Int) (w : World) (h0 : 0 ≤ n) (h1 : n ≤ 65535) (ht : Tab w) :
    Calls Tryd.prog 57 #[.int .i64 n] w fun e w' => e = .returned (.string ⟨(Lib.decDigits n.toNat).toArray⟩) ∧ Below w.heap.size w w' := by
  refine (Tryd.strconv_Itoa n (by omega) (by omega) w ht).mono ?_
  rintro e w' ⟨rfl, k, os, rfl⟩
  refine ⟨?_, Lib.below_grow _ w (Nat.le_refl _) k os⟩
  have : Lib.itoa n = Lib.decDigits n.toNat := by unfold Lib.itoa; rw [if_neg (by omega)]
  rw [this]
/-- the same, the text under a name -/
theorem itoa_is (s : ByteArray) (n : Int) (w : World) (hs : Hid (s = ⟨(Lib.decDigits n.toNat).toArray⟩)) (h0 : 0 ≤ n) (h1 : n ≤ 65535) (ht : Tab w) :
    Calls Tryd.prog 57 #[.int .i64 n] w fun e w' => e = .returned (.string s) ∧ Below w.heap.size w w' := hs.out ▸ itoa_any n w h0 h1 ht
theorem dd_len {n : Nat} (h : n < 1000) : (Lib.decDigits n).length ≤ 3 := by
  rw [Lib.decDigits]
  split
  · simp
  · rw [Lib.decDigits]
    split
    · simp
    · rw [Lib.decDigits]
      split
      · simp
      · omega
theorem sb_append (s t : ByteArray) : sb (s ++ t) = sb s ++ sb t := by
  simp [sb]
theorem sb_digits (n : Nat) : sb ⟨(Lib.decDigits n).toArray⟩ = dg n := by simp [sb, dg]
theorem and_255 (a : Int) (h0 : 0 ≤ a) (h1 : a ≤ 65535) : bits .and .i64 a 255 = a % 256 := by
  obtain ⟨x, rfl⟩ := Int.eq_ofNat_of_zero_le h0
  have := and_i64 x 255 (by omega) (by omega)
  rw [show ((255 : Nat) : Int) = 255 from rfl] at this
  rw [this, show 255 = 2 ^ 8 - 1 from rfl, Nat.and_two_pow_sub_one_eq_mod]
  simp

/-- two cells kept -/
theorem held2 {V w : World} {b : Nat} {u v : Value} (lt : b < V.heap.size) (c0 : V.cell? ⟨b, 0, none⟩ = some u) (c1 : V.cell? ⟨b, 1, none⟩ = some v) (h : Over V w) :
    Over V w ∧ w.cell? ⟨b, 0, none⟩ = some u ∧ w.cell? ⟨b, 1, none⟩ = some v := ⟨h, over_cell h lt c0, over_cell h lt c1⟩
end Go.Proofs.YtcmbajphholliabDoor
