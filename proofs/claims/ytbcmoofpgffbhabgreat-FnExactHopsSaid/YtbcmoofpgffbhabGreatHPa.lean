/-
  What an argument is: an integer, a prefix by value, a slice of bytes that came in. No condition.
  The plain mathematics of prefixes: which bits of an address are kept by a mask, for every length from 0 to 16. No condition.
  Contracts of the functions of prefixes (validity, the bits of an address) of the program and of the model. Conditions: those in each contract.
  Contracts of Covers, Inside and PrefixCmp of the program and of the model. Conditions: those in each contract.
  Slices of bytes: what one reads as; contracts of the laws' own functions that copy, compare, mark and ask such slices. Conditions: those in each contract.
  An argument that is a slice of bytes reads as a list of bytes; contracts in the form in which the laws' walks take them. No condition beside those in each contract.
  Bytes appended to a slice that the call made; bytes.Clone. Conditions: those in each statement.
  Slices of the call's own beside each other: what a marking of one leaves of another; a region that draws keeps what was there. No condition beside those in each statement.
  Slices of ints: what one reads as; contracts of the laws' own functions that copy, compare, mark and ask such slices. Conditions: those in each contract.
  Worlds: what a store or a new block leaves; blocks of four cells. No condition beside those in each statement.
  Attributes: what an argument that is one reads as; contracts of the laws' own functions that size, copy, compare, mark and ask them. Conditions: those in each contract.
  Worlds: a block of any number of cells that may be written, as the list of what it holds. No condition beside those in each statement.
  Slices of prefixes: what one reads as; contracts of the laws' own functions that copy, compare and size them. Conditions: those in each contract.
-/
import Derived.Test.YtbcmoofpgffbhabGreatRows
import Derived.WalkKit
import Derived.ProofKit
import Derived.OpenShut
import Derived.ChangeOld
import Derived.Below
import Derived.Lib.SmallJoins
import Derived.Laws.BitsAllLaws
import Derived.WalkSpells
import Derived.WalkLawsBesides
import Derived.Lib.Hide
import Derived.Outline
import Derived.Deep.RegionHeld3
import Derived.BigQuiet
import Derived.Deep.QuietTactic
import Derived.LoopN
import Derived.Laws.OwnMore
import Derived.Laws.MakeOwn
import Derived.Deep.OwnRows
import Derived.Laws.AppendOwnNone
import Derived.Deep.AppendLies
import Derived.Deep.SlicePairs
namespace Go.Proofs.YtbcmoofpgffbhabGreat
open Go.ChangeShapes Go.WideShapes Go.ChangeAt Go.RowKit Go.Joins
set_option linter.unusedVariables false
set_option maxRecDepth 100000
set_option maxRecDepth 100000

theorem own : ownKnob Tryz.prog.godebug = none := by kernel_rfl
theorem laidOut : laidOutB Tryz.prog = true := by kernel_rfl

def Is_int (W : World) (v : Value) : Prop := ∃ a : Int, v = .int .i64 a ∧ -9223372036854775808 ≤ a ∧ a ≤ 9223372036854775807
def Is_Prefix (W : World) (v : Value) : Prop := ∃ a n : Int, v = .agg #[.int .i64 a, .int .i64 n] ∧ (-9223372036854775808 ≤ a ∧ a ≤ 9223372036854775807) ∧ (-9223372036854775808 ≤ n ∧ n ≤ 9223372036854775807)
/-- a slice of bytes that came in: nil, or a row of 'cap' cells, the first 'len' of them its elements -/
def Is_bytes (W : World) (v : Value) : Prop :=
 v = .slice none 0 0 ∨ ∃ (x : Addr) (len cap : Nat) (zs : List Int), v = .slice (some x) len cap ∧ len ≤ cap ∧ cap ≤ maxLen ∧ zs.length = cap ∧ (∀ i, i < zs.length → W.cell? (x.add i) = some (.int .u8 (zs.getD i 0))) ∧ ∀ n ∈ zs, (Lit.int .u8 n).wf = true

section
variable {H : Type} {enc : TypeId × Value → H} {W : World} {base : Nat} {d : DataW H} {p : List MemPlace} {v : Value}
theorem wf_bd {a : Int} (h : (Lit.int .i64 a).wf = true) : -9223372036854775808 ≤ a ∧ a ≤ 9223372036854775807 := by
 exact bounds_i64 h
theorem is_int (hv : Value.okWide Tryz.prog W .any base 3 v) (h : DataW.Trod enc Tryz.prog W 0 (fun _ => true) true 3 v d p) : Is_int W v := by
  obtain ⟨a, rfl, rfl, rfl, wa⟩ := open_int Tryz.underlying3 hv h
  exact ⟨a, rfl, wf_bd wa⟩
theorem cellsP : Tryz.prog.cellsOf 164 = 2 := by kernel_rfl
theorem is_Prefix (hv : Value.okWide Tryz.prog W .any base 164 v) (h : DataW.Trod enc Tryz.prog W 0 (fun _ => true) true 164 v d p) : Is_Prefix W v := by
 obtain ⟨c0, c1, y0, y1, m, rfl, rfl, rfl, hy0, hy1⟩ := open_agg2 Tryz.underlying164 (by kernel_rfl) cellsP hv h; obtain ⟨a, e0, rfl, wa⟩ := DataW.trod_int Tryz.underlying3 hy0; obtain ⟨b, e1, rfl, wb⟩ := DataW.trod_int Tryz.underlying3 hy1
 simp at e0 e1
 subst e0 e1
 exact ⟨a, b, rfl, wf_bd wa, wf_bd wb⟩
theorem is_bytes (hv : Value.okWide Tryz.prog W .any base 304 v) (h : DataW.Trod enc Tryz.prog W 0 (fun _ => true) true 304 v d p) : Is_bytes W v := by
  obtain ⟨a0, len0, cap0, rfl⟩ := okWide_slice Tryz.underlying304 hv
  obtain ⟨fuel, hf⟩ := h
  rcases open_ints Tryz.underlying304 Tryz.underlying5 (by kernel_rfl) hf with ⟨hcs, _⟩ | ⟨x, l, c, zs, hcs, _, hl, hm, hz, _, hcell, hwz⟩
  · simp [Value.cells] at hcs
    obtain ⟨rfl, rfl, rfl⟩ := hcs
    exact .inl rfl
  · simp [Value.cells] at hcs
    obtain ⟨rfl, rfl, rfl⟩ := hcs
    exact .inr ⟨_, _, _, zs, rfl, hl, hm, by simpa using hz, hcell, hwz⟩
end
end Go.Proofs.YtbcmoofpgffbhabGreat
namespace Go.Proofs.YtbcmoofpgffbhabGreat

theorem ret_int {k : IntKind} {a b : Int} (h : a = b) : Ending.returned (.int k a) = .returned (.int k b) := by rw [h]
theorem ret_bool {a b : Bool} (h : a = b) : Ending.returned (.bool a) = .returned (.bool b) := by rw [h]

/-- an address: 16 bits -/
def addrB (a : Int) : Bool := decide (0 ≤ a ∧ a ≤ 65535)
/-- the address that is left when only the first n bits are kept -/
def hd (a n : Int) : Int := a / 2 ^ (16 - n).toNat * 2 ^ (16 - n).toNat
/-- the mask of the first n bits -/
def mask (n : Int) : Int := 65536 - 2 ^ (16 - n).toNat
def pokB (a n : Int) : Bool := decide (0 ≤ a ∧ a ≤ 65535 ∧ 0 ≤ n ∧ n ≤ 16 ∧ hd a n = a)

theorem wrap64_in (x : Int) (h0 : -9223372036854775808 ≤ x) (h1 : x ≤ 9223372036854775807) : IntKind.i64.wrap x = x := by
 simp [IntKind.wrap, IntKind.bits, IntKind.signed]
 omega
theorem nat_mask (a k : Nat) (ha : a < 65536) (hk : k ≤ 16) : a &&& (65536 - 2 ^ k) = a / 2 ^ k * 2 ^ k := by
 have e : 65536 - 2 ^ k = ((2 ^ (16 - k) - 1) <<< k) := by
  rw [Nat.shiftLeft_eq, Nat.sub_mul, ← Nat.pow_add, Nat.sub_add_cancel hk]
  omega
 rw [e, ← Nat.shiftRight_eq_div_pow, ← Nat.shiftLeft_eq]
 apply Nat.eq_of_testBit_eq
 intro i; simp only [Nat.testBit_and, Nat.testBit_shiftLeft, Nat.testBit_two_pow_sub_one, Nat.testBit_shiftRight]
 by_cases h : k ≤ i
 ·have e2 : k + (i - k) = i := by omega
  by_cases h2 : i < 16
  ·simp [h, e2]; omega
  ·have h3 : a.testBit i = false := Nat.testBit_lt_two_pow (Nat.lt_of_lt_of_le ha (by
    have := Nat.pow_le_pow_right (n := 2) (by omega) (show 16 ≤ i by omega)
    omega))
   simp [h3, e2]
 ·simp [h]
theorem toNat_sub_bv (x : Nat) (h : x < 18446744073709551616) : (~~~(BitVec.ofNat 64 x)).toNat = 18446744073709551615 - x := by
 rw [BitVec.toNat_not]
 simp [Nat.mod_eq_of_lt h]
theorem bvInt (x : Nat) : BitVec.ofInt 64 (x : Int) = BitVec.ofNat 64 x := by
 simp
theorem and_i64 (a b : Nat) (ha : a < 9223372036854775808) (hb : b < 9223372036854775808) : bits .and .i64 (a : Int) (b : Int) = ((a &&& b : Nat) : Int) := by
 unfold bits
 show IntKind.i64.wrap ((BitVec.ofInt 64 (a : Int) &&& BitVec.ofInt 64 (b : Int)).toNat : Int) = _
 rw [bvInt a, bvInt b, BitVec.toNat_and, BitVec.toNat_ofNat, BitVec.toNat_ofNat, Nat.mod_eq_of_lt (by omega), Nat.mod_eq_of_lt (by omega)]; have := Nat.and_le_left (n := a) (m := b)
 exact wrap64_in _ (by omega) (by omega)
theorem andNot_i64 (a b : Nat) (ha : a < 9223372036854775808) (hb : b < 9223372036854775808) : bits .andNot .i64 (a : Int) (b : Int) = ((a &&& (18446744073709551615 - b) : Nat) : Int) := by
 unfold bits
 show IntKind.i64.wrap ((BitVec.ofInt 64 (a : Int) &&& ~~~BitVec.ofInt 64 (b : Int)).toNat : Int) = _
 rw [bvInt a, bvInt b, BitVec.toNat_and, toNat_sub_bv b (by omega), BitVec.toNat_ofNat, Nat.mod_eq_of_lt (by omega)]; have := Nat.and_le_left (n := a) (m := 18446744073709551615 - b)
 exact wrap64_in _ (by omega) (by omega)
theorem pow16 (n : Int) (h0 : 0 ≤ n) (h1 : n ≤ 16) : ∃ k : Nat, k ≤ 16 ∧ (16 - n).toNat = k ∧ n = 16 - (k : Int) := ⟨(16 - n).toNat, by omega, rfl, by omega⟩
theorem pow_le16 (k : Nat) (hk : k ≤ 16) : 1 ≤ 2 ^ k ∧ 2 ^ k ≤ 65536 :=
 ⟨Nat.one_le_two_pow, by have := Nat.pow_le_pow_right (n := 2) (by omega) hk; omega⟩
/-- what the mask keeps of an address -/
theorem and_mask (a n : Int) (ha : 0 ≤ a) (ha' : a ≤ 65535) (h0 : 0 ≤ n) (h1 : n ≤ 16) : bits .and .i64 a (mask n) = hd a n := by
 obtain ⟨k, hk, e, rfl⟩ := pow16 n h0 h1; obtain ⟨x, rfl⟩ := Int.eq_ofNat_of_zero_le ha; unfold mask hd; rw [e]; have hp := pow_le16 k hk
 have em : (65536 : Int) - 2 ^ k = ((65536 - 2 ^ k : Nat) : Int) := by
  rw [Int.ofNat_sub hp.2]; simp
 rw [em, and_i64 _ _ (by omega) (by omega), nat_mask x k (by omega) hk]
 simp
/-- what is left of an address without the last bits -/
theorem andNot_low (a n : Int) (ha : 0 ≤ a) (ha' : a ≤ 65535) (h0 : 0 ≤ n) (h1 : n ≤ 16) : bits .andNot .i64 a (65535 / 2 ^ n.toNat) = hd a n := by
 obtain ⟨k, hk, e, rfl⟩ := pow16 n h0 h1; obtain ⟨x, rfl⟩ := Int.eq_ofNat_of_zero_le ha; have e2 : (16 - (k : Int)).toNat = 16 - k := by omega
 unfold hd; rw [e, e2]; have hp := pow_le16 k hk
 have ed : 65535 / 2 ^ (16 - k) = 2 ^ k - 1 := by
  have h : ∀ k, k ≤ 16 → 65535 / 2 ^ (16 - k) = 2 ^ k - 1 := by decide
  exact h k hk
 have em : (65535 : Int) / 2 ^ (16 - k) = ((2 ^ k - 1 : Nat) : Int) := by
  rw [← ed]; simp
 rw [em, andNot_i64 _ _ (by omega) (by omega)]
 have e3 : x &&& (18446744073709551615 - (2 ^ k - 1)) = x &&& (65536 - 2 ^ k) := by
  have hx : x = x &&& 65535 := by
   have := Nat.and_two_pow_sub_one_eq_mod x 16
   simp at this; omega
  have em2 : 65535 &&& (18446744073709551615 - (2 ^ k - 1)) = 65536 - 2 ^ k := by
   have h : ∀ k, k ≤ 16 → 65535 &&& (18446744073709551615 - (2 ^ k - 1)) = 65536 - 2 ^ k := by decide
   exact h k hk
  rw [hx, Nat.and_assoc, em2, ← hx]
 rw [e3, nat_mask x k (by omega) hk]
 simp
theorem mask_eq (n : Int) (h0 : 0 ≤ n) (h1 : n ≤ 16) : bits .and .i64 (Go.RowKit.wrap64 (65535 * 2 ^ (16 - n).toNat)) 65535 = mask n := by
 obtain ⟨k, hk, e, rfl⟩ := pow16 n h0 h1; unfold mask; rw [e]; have h : ∀ k, k ≤ 16 → bits .and .i64 (Go.RowKit.wrap64 (65535 * 2 ^ k)) 65535 = 65536 - 2 ^ k := by unfold Go.RowKit.wrap64; decide
 exact h k hk
theorem addrB_t {a : Int} (h0 : 0 ≤ a) (h1 : a ≤ 65535) : addrB a = true := by unfold addrB; simp; omega
theorem addrB_f {a : Int} (h : ¬ (0 ≤ a ∧ a ≤ 65535)) : addrB a = false := by unfold addrB; simp; omega
theorem pokB_t {a n : Int} (h0 : 0 ≤ a) (h1 : a ≤ 65535) (h2 : 0 ≤ n) (h3 : n ≤ 16) (h4 : hd a n = a) : pokB a n = true := by unfold pokB; simp; omega
theorem pokB_f {a n : Int} (h : ¬ (0 ≤ a ∧ a ≤ 65535 ∧ 0 ≤ n ∧ n ≤ 16 ∧ hd a n = a)) : pokB a n = false := by unfold pokB; simp; omega
theorem pok_of {a n : Int} (h : pokB a n = true) : 0 ≤ a ∧ a ≤ 65535 ∧ 0 ≤ n ∧ n ≤ 16 ∧ hd a n = a := of_decide_eq_true h
theorem addr_of {a : Int} (h : addrB a = true) : 0 ≤ a ∧ a ≤ 65535 := of_decide_eq_true h
end Go.Proofs.YtbcmoofpgffbhabGreat
namespace Go.Proofs.YtbcmoofpgffbhabGreat
open Go.ChangeShapes Go.WideShapes Go.ChangeAt Go.RowKit
set_option linter.unusedVariables false
set_option maxRecDepth 100000

theorem iaddr_any (a : Int) (w : World) : Calls Tryz.prog 230 #[.int .i64 a] w fun e w' => e = .returned (.bool (addrB a)) ∧ w = w' := by
 by_cases h0 : 0 ≤ a
 all_goals
  go_enter Tryz.func230, Tryz.ntmps230
  go_wp2
  go_ret
  exact ⟨ret_bool (by unfold addrB; first | (congr 1; simp; omega) | (simp; omega)), rfl⟩

theorem saddr_any (a : Int) (w : World) : Calls Tryz.prog 96 #[.int .i64 a] w fun e w' => e = .returned (.bool (addrB a)) ∧ w = w' := by
 by_cases h0 : 0 ≤ a
 all_goals
  go_enter Tryz.func96, Tryz.ntmps96
  go_wp2
  go_ret
  exact ⟨ret_bool (by unfold addrB; first | (congr 1; simp; omega) | (simp; omega)), rfl⟩

theorem head_any (a n : Int) (w : World) (ha : 0 ≤ a) (ha' : a ≤ 65535) (h0 : 0 ≤ n) (h1 : n ≤ 16) : Calls Tryz.prog 231 #[.int .i64 a, .int .i64 n] w fun e w' => e = .returned (.int .i64 (hd a n)) ∧ w = w' := by
 have e := andNot_low a n ha ha' h0 h1; rw [← e]; clear e
 go_enter Tryz.func231, Tryz.ntmps231
 go_wp2
 go_ret
 exact ⟨rfl, rfl⟩

theorem mask_any (n : Int) (w : World) (h0 : 0 ≤ n) (h1 : n ≤ 16) : Calls Tryz.prog 169 #[.int .i64 n] w fun e w' => e = .returned (.int .i64 (mask n)) ∧ w = w' := by
 have e := mask_eq n h0 h1
 go_enter Tryz.func169, Tryz.ntmps169
 go_wp2
 go_ret
 exact ⟨rfl, rfl⟩

theorem to_any (a n : Int) (w : World) : Calls Tryz.prog 124 #[.agg #[.int .i64 a, .int .i64 n]] w fun e w' => e = .returned (.agg #[.int .i64 a, .int .i64 n]) ∧ Below w.heap.size w w' := by
 go_enter Tryz.func124, Tryz.ntmps124
 go_wp2
 exact bodyPost_ret (v := .agg #[.int .i64 a, .int .i64 n]) (by simp [results, Tryz.results124, go_sem]) rfl ⟨rfl, ((((Below.refl _ _).alloc (Nat.le_refl _) _).alloc (by simp) _).alloc (by simp; omega) _)⟩

theorem q_of {P : Program} {f : FuncId} {args : Array Value} {w : World} {n : Nat} {v : Value}
  (h : Calls P f args (w.drewN n) fun e w' => e = .returned v ∧ w.drewN n = w') : Calls P f args (w.drewN n) fun e w'' => e = .returned v ∧ ∃ m, w'' = w.drewN m :=
 h.mono fun _ _ ⟨he, hm⟩ => ⟨he, n, hm.symm⟩
theorem iaddr_t {a : Int} {b : Bool} (w : World) (h : Hid (addrB a = b)) : Calls Tryz.prog 230 #[.int .i64 a] w fun e w' => e = .returned (.bool b) ∧ w = w' :=
 h.out ▸ iaddr_any a w
theorem saddr_t {a : Int} {b : Bool} (w : World) (h : Hid (addrB a = b)) : Calls Tryz.prog 96 #[.int .i64 a] w fun e w' => e = .returned (.bool b) ∧ w = w' :=
 h.out ▸ saddr_any a w

theorem below_drewN {B : Nat} {a w : World} (h : Below B a w) (n : Nat) : Below B a (w.drewN n) := ⟨h.os, h.tape, h.output, h.size, h.block⟩

theorem cell_keep {B b o : Nat} {w w1 : World} {v : Value} (hb : Below B w w1) (hl : b < B) (h : w.cell? ⟨b, o, none⟩ = some v) : w1.cell? ⟨b, o, none⟩ = some v :=
 (hb.cell (p := ⟨b, o, none⟩) hl).trans h
/-- one step more behind a call -/
theorem below_step {W w w1 : World} (h : Below W.heap.size W w) (hb : Below w.heap.size w w1) : Below W.heap.size W w1 := h.trans (hb.mono h.size)

/-- PrefixOk of the program: valid, or not -/
theorem ipok_any (a n : Int) (w : World) : Calls Tryz.prog 209 #[.agg #[.int .i64 a, .int .i64 n]] w fun e w' => e = .returned (.bool (pokB a n)) ∧ Below w.heap.size w w' := by
 by_cases h0 : 0 ≤ a ∧ a ≤ 65535
 ·obtain ⟨h0, h1⟩ := h0
  have H1 := Lib.hid (addrB_t h0 h1)
  by_cases h2 : 0 ≤ n
  ·by_cases h3 : n ≤ 16
   ·by_cases h4 : hd a n = a
    ·rw [pokB_t h0 h1 h2 h3 h4]
     have h5 : (hd a n == a) = true := by simp [h4]
     clear h4
     go_enter Tryz.func209, Tryz.ntmps209
     go_wp2_with fail
     go_quiet ((first | (go_at_call 230; exact q_of (iaddr_t _ H1)) | (go_at_call 231; exact q_of (head_any a n _ h0 h1 h2 h3))))
     go_wp2
     go_ret
     exact ⟨rfl, below_drewN ((Below.refl _ _).alloc (Nat.le_refl _) _) _⟩
    ·rw [pokB_f (fun h => h4 h.2.2.2.2)]
     have h5 : (hd a n == a) = false := by simp [h4]
     clear h4
     go_enter Tryz.func209, Tryz.ntmps209
     go_wp2_with fail
     go_quiet ((first | (go_at_call 230; exact q_of (iaddr_t _ H1)) | (go_at_call 231; exact q_of (head_any a n _ h0 h1 h2 h3))))
     go_wp2
     go_ret
     exact ⟨rfl, below_drewN ((Below.refl _ _).alloc (Nat.le_refl _) _) _⟩
   ·rw [pokB_f (fun h => h3 h.2.2.2.1)]
    have h5 : decide (n ≤ 16) = false := by simp [h3]
    go_enter Tryz.func209, Tryz.ntmps209
    go_wp2_with fail
    go_quiet ((first | (go_at_call 230; exact q_of (iaddr_t _ H1)) | (go_at_call 231; fail)))
    go_wp2
    go_ret
    exact ⟨rfl, below_drewN ((Below.refl _ _).alloc (Nat.le_refl _) _) _⟩
  ·rw [pokB_f (fun h => h2 h.2.2.1)]
   have h5 : decide (0 ≤ n) = false := by simp [h2]
   go_enter Tryz.func209, Tryz.ntmps209
   go_wp2_with fail
   go_quiet ((first | (go_at_call 230; exact q_of (iaddr_t _ H1)) | (go_at_call 231; fail)))
   go_wp2
   go_ret
   exact ⟨rfl, below_drewN ((Below.refl _ _).alloc (Nat.le_refl _) _) _⟩
 ·rw [pokB_f (fun h => h0 ⟨h.1, h.2.1⟩)]
  have H1 := Lib.hid (addrB_f h0); clear h0
  go_enter Tryz.func209, Tryz.ntmps209
  go_wp2_with fail
  go_quiet ((first | (go_at_call 230; exact q_of (iaddr_t _ H1)) | (go_at_call 231; fail)))
  go_wp2
  go_ret
  exact ⟨rfl, below_drewN ((Below.refl _ _).alloc (Nat.le_refl _) _) _⟩

/-- PrefixOk of the model: valid, or not -/
theorem spok_any (a n : Int) (w : World) : Calls Tryz.prog 190 #[.agg #[.int .i64 a, .int .i64 n]] w fun e w' => e = .returned (.bool (pokB a n)) ∧ Below w.heap.size w w' := by
 by_cases h0 : 0 ≤ a ∧ a ≤ 65535
 ·obtain ⟨h0, h1⟩ := h0
  have H1 := Lib.hid (addrB_t h0 h1)
  by_cases h2 : 0 ≤ n
  ·by_cases h3 : n ≤ 16
   ·by_cases h4 : hd a n = a
    ·rw [pokB_t h0 h1 h2 h3 h4]
     have hm := and_mask a n h0 h1 h2 h3; have h5 : (hd a n == a) = true := by simp [h4]
     clear h4
     go_enter Tryz.func190, Tryz.ntmps190
     go_wp2_with fail
     go_quiet ((first | (go_at_call 96; exact q_of (saddr_t _ H1)) | (go_at_call 169; exact q_of (mask_any n _ h2 h3))))
     go_wp2
     go_ret
     exact ⟨rfl, below_drewN ((Below.refl _ _).alloc (Nat.le_refl _) _) _⟩
    ·rw [pokB_f (fun h => h4 h.2.2.2.2)]
     have hm := and_mask a n h0 h1 h2 h3; have h5 : (hd a n == a) = false := by simp [h4]
     clear h4
     go_enter Tryz.func190, Tryz.ntmps190
     go_wp2_with fail
     go_quiet ((first | (go_at_call 96; exact q_of (saddr_t _ H1)) | (go_at_call 169; exact q_of (mask_any n _ h2 h3))))
     go_wp2
     go_ret
     exact ⟨rfl, below_drewN ((Below.refl _ _).alloc (Nat.le_refl _) _) _⟩
   ·rw [pokB_f (fun h => h3 h.2.2.2.1)]
    have h5 : decide (n ≤ 16) = false := by simp [h3]
    go_enter Tryz.func190, Tryz.ntmps190
    go_wp2_with fail
    go_quiet ((first | (go_at_call 96; exact q_of (saddr_t _ H1)) | (go_at_call 169; fail)))
    go_wp2
    go_ret
    exact ⟨rfl, below_drewN ((Below.refl _ _).alloc (Nat.le_refl _) _) _⟩
  ·rw [pokB_f (fun h => h2 h.2.2.1)]
   have h5 : decide (0 ≤ n) = false := by simp [h2]
   go_enter Tryz.func190, Tryz.ntmps190
   go_wp2_with fail
   go_quiet ((first | (go_at_call 96; exact q_of (saddr_t _ H1)) | (go_at_call 169; fail)))
   go_wp2
   go_ret
   exact ⟨rfl, below_drewN ((Below.refl _ _).alloc (Nat.le_refl _) _) _⟩
 ·rw [pokB_f (fun h => h0 ⟨h.1, h.2.1⟩)]
  have H1 := Lib.hid (addrB_f h0); clear h0
  go_enter Tryz.func190, Tryz.ntmps190
  go_wp2_with fail
  go_quiet ((first | (go_at_call 96; exact q_of (saddr_t _ H1)) | (go_at_call 169; fail)))
  go_wp2
  go_ret
  exact ⟨rfl, below_drewN ((Below.refl _ _).alloc (Nat.le_refl _) _) _⟩

theorem tk {P : Program} {ops : Array Oper} {Q : Exit → Act → World → Prop} {md : Region.Mode} {S : World → Prop} (i s : Nat) {oi : Oper} {v : Value} {fuel : Nat} {listed : Array Bool} {a : Act} {w : World} (hS : S w)
  (hy : ∀ wq, S wq → (execOp a.eval oi).run P wq = .ok (.value v) wq) (h : wpAnyH P md ops Q S fuel (listed.setIfInBounds i true) (a.put (some s) v) w) (hi : ops[i]? = some oi := by exact rfl) (hd : oi.dst = some s := by exact rfl) (hg : Region.wanted oi (yielded ops a.tmps) = true := by exact rfl)
  (hs : Region.noSelect ops = true := by kernel_rfl) (hf : Region.free md ops listed i = true := by kernel_rfl) (hr : (Region.ready md ops listed).contains i = true := by kernel_rfl) (hQ : ∀ c a w, Q (.panic c) (a.put oi.dst v) w → Q (.panic c) a w := by exact fun _ _ _ h => h) : wpAnyH P md ops Q S (fuel + 1) listed a w :=
 wpAnyH_take hi hs hf hr hQ (.inl ⟨hg, hy⟩) hS (hd ▸ h)
theorem rd1 {P : Program} {ops : Array Oper} {Q : Exit → Act → World → Prop} {md : Region.Mode} {S : World → Prop} (i : Nat) {o : Oper} {fuel : Nat} {listed : Array Bool} {a : Act} {w : World}
  (h : ∀ K' : Act → World → Prop, Shut (∀ a w, S w → (S w → wpAnyH P md ops Q S fuel (listed.setIfInBounds i true) a w) → K' a w) → if Region.wanted o (yielded ops a.tmps) = true then Oper.wp P o a w K' Q else K' (a.put o.dst undef) w) (hr : Region.ready md ops listed = [i] := by kernel_rfl) (ho : ops[i]? = some o := by exact rfl) : wpAnyH P md ops Q S (fuel + 1) listed a w :=
 wpAnyH_ready hr (by simp) (AllReadyH.cons ho h AllReadyH.nil)
end Go.Proofs.YtbcmoofpgffbhabGreat
namespace Go.Proofs.YtbcmoofpgffbhabGreat
open Go.ChangeShapes Go.WideShapes Go.ChangeAt Go.RowKit Go.BigFrame
set_option linter.unusedVariables false
set_option maxRecDepth 100000

def covB (a n x : Int) : Bool := pokB a n && addrB x && (hd x n == a)
theorem ipok_t {a n : Int} {b : Bool} (w : World) (h : Hid (pokB a n = b)) : Calls Tryz.prog 209 #[.agg #[.int .i64 a, .int .i64 n]] w fun e w' => e = .returned (.bool b) ∧ Below w.heap.size w w' :=
 h.out ▸ ipok_any a n w
theorem spok_t {a n : Int} {b : Bool} (w : World) (h : Hid (pokB a n = b)) : Calls Tryz.prog 190 #[.agg #[.int .i64 a, .int .i64 n]] w fun e w' => e = .returned (.bool b) ∧ Below w.heap.size w w' :=
 h.out ▸ spok_any a n w
theorem wp_region_class {P : Program} {C : World → Prop} {id : Nat} {Q : Exit → Act → World → Prop} {a : Act} {w : World} {l : List Oper} (hm : P.follows .mixedOrders = true) (hB : Region.lexB .any l.toArray = true) (hC : C w.drew)
  (h : wpQuiet P l.toArray C (fun a' => ∀ w', C w' → Q .normal a' w') l a) : (Code.region id l.toArray true).wp P Q a w :=
 wp_region_quiet hm hB hC (by simpa using h)
/-- a world in which all that was there in V is as it was -/
def Over (V w : World) : Prop := Below V.heap.size V w
theorem over_drew (V : World) : Over V V.drew := (Below.refl _ _).drew
theorem over_step {V w w1 : World} (h : Over V w) (hb : Below w.heap.size w w1) : Over V w1 := below_step h hb
theorem over_cell {V w : World} {b o : Nat} {v : Value} (h : Over V w) (hl : b < V.heap.size) (hc : V.cell? ⟨b, o, none⟩ = some v) : w.cell? ⟨b, o, none⟩ = some v := cell_keep h hl hc
theorem over_below {V w : World} (h : Over V w) : Below V.heap.size V w := h
/-- the cells of a struct of two fields in a new block -/
theorem box2 (w : World) (u v : Value) (T : TypeId) : (w.alloc (.cells #[u, v] T)).cell? ⟨w.heap.size, 0, none⟩ = some u ∧ (w.alloc (.cells #[u, v] T)).cell? ⟨w.heap.size, 1, none⟩ = some v ∧ w.heap.size < (w.alloc (.cells #[u, v] T)).heap.size ∧ Below w.heap.size w (w.alloc (.cells #[u, v] T)) :=
 ⟨by simp, by simp, by simp, (Below.refl _ _).alloc (Nat.le_refl _) _⟩

theorem icov_any (a n x : Int) (w : World) : Calls Tryz.prog 170 #[.agg #[.int .i64 a, .int .i64 n], .int .i64 x] w fun e w' => e = .returned (.bool (covB a n x)) ∧ Below w.heap.size w w' := by
 cases hp : pokB a n
 ·have e : covB a n x = false := by simp [covB, hp]
  rw [e]; clear e; have H1 := Lib.hid hp; clear hp
  go_enter Tryz.func170, Tryz.ntmps170
  go_wp2_with fail; obtain ⟨c0, c1, lt, B0⟩ := box2 w (.int .i64 a) (.int .i64 n) 93; refine wp_region_class (C := Over (w.alloc (.cells #[.int .i64 a, .int .i64 n] 93))) (by kernel_rfl) (by kernel_rfl) (over_drew _) ?_
  repeat (first | go_big_quiet_skip | (go_big_quiet_want; go_big_quiet_op; go_big_quiet_on) | (go_big_quiet_want; go_big_quiet_op; apply Exists.intro; refine ⟨fun w' hC => ?_, ?_⟩; ((first | (go_at_call 209; refine (ipok_t _ H1).mono ?_; rintro e w1 ⟨rfl, hb1⟩; exact ⟨rfl, over_step hC hb1⟩))); go_big_quiet_on) | (go_big_quiet_want; apply Exists.intro; refine ⟨fun w' hC => ?_, ?_⟩; (have k0 := over_cell hC lt c0; have k1 := over_cell hC lt c1; simp [Oper.quietAt, Oper.quietUpon, go_sem, k0, k1]; first | done | rfl); go_big_quiet_on; simp only [Act.put, List.setIfInBounds_toArray, List.set_cons_zero, List.set_cons_succ]))
  refine wpQuiet_nil ?_; intro wr hC; have k0 := over_cell hC lt c0; have k1 := over_cell hC lt c1; go_wp2
  go_ret
  exact ⟨rfl, below_step B0 (over_below hC)⟩
 ·cases hx : addrB x
  ·have e : covB a n x = false := by simp [covB, hx]
   rw [e]; clear e; have H1 := Lib.hid hp; have H2 := Lib.hid hx; clear hp hx
   go_enter Tryz.func170, Tryz.ntmps170
   go_wp2_with fail; obtain ⟨c0, c1, lt, B0⟩ := box2 w (.int .i64 a) (.int .i64 n) 93; refine wp_region_class (C := Over (w.alloc (.cells #[.int .i64 a, .int .i64 n] 93))) (by kernel_rfl) (by kernel_rfl) (over_drew _) ?_
   repeat (first | go_big_quiet_skip | (go_big_quiet_want; go_big_quiet_op; go_big_quiet_on) | (go_big_quiet_want; go_big_quiet_op; apply Exists.intro; refine ⟨fun w' hC => ?_, ?_⟩; ((first | (go_at_call 209; refine (ipok_t _ H1).mono ?_; rintro e w1 ⟨rfl, hb1⟩; exact ⟨rfl, over_step hC hb1⟩) | (go_at_call 230; refine (iaddr_t _ H2).mono ?_; rintro e w1 ⟨rfl, rfl⟩; exact ⟨rfl, hC⟩))); go_big_quiet_on) | (go_big_quiet_want; apply Exists.intro; refine ⟨fun w' hC => ?_, ?_⟩; (have k0 := over_cell hC lt c0; have k1 := over_cell hC lt c1; simp [Oper.quietAt, Oper.quietUpon, go_sem, k0, k1]; first | done | rfl); go_big_quiet_on; simp only [Act.put, List.setIfInBounds_toArray, List.set_cons_zero, List.set_cons_succ]))
   refine wpQuiet_nil ?_; intro wr hC; have k0 := over_cell hC lt c0; have k1 := over_cell hC lt c1; go_wp2
   go_ret
   exact ⟨rfl, below_step B0 (over_below hC)⟩
  ·obtain ⟨_, _, hn0, hn1, _⟩ := pok_of hp
   obtain ⟨hx0, hx1⟩ := addr_of hx; have e : covB a n x = (hd x n == a) := by simp [covB, hx, hp]
   rw [e]; clear e; have H1 := Lib.hid hp; have H2 := Lib.hid hx; clear hp hx
   go_enter Tryz.func170, Tryz.ntmps170
   go_wp2_with fail; obtain ⟨c0, c1, lt, B0⟩ := box2 w (.int .i64 a) (.int .i64 n) 93; refine wp_region_class (C := Over (w.alloc (.cells #[.int .i64 a, .int .i64 n] 93))) (by kernel_rfl) (by kernel_rfl) (over_drew _) ?_
   repeat (first | go_big_quiet_skip | (go_big_quiet_want; go_big_quiet_op; go_big_quiet_on) | (go_big_quiet_want; go_big_quiet_op; apply Exists.intro; refine ⟨fun w' hC => ?_, ?_⟩; ((first | (go_at_call 209; refine (ipok_t _ H1).mono ?_; rintro e w1 ⟨rfl, hb1⟩; exact ⟨rfl, over_step hC hb1⟩) | (go_at_call 230; refine (iaddr_t _ H2).mono ?_; rintro e w1 ⟨rfl, rfl⟩; exact ⟨rfl, hC⟩) | (go_at_call 231; refine (head_any x n _ hx0 hx1 hn0 hn1).mono ?_; rintro e w1 ⟨rfl, rfl⟩; exact ⟨rfl, hC⟩))); go_big_quiet_on) | (go_big_quiet_want; apply Exists.intro; refine ⟨fun w' hC => ?_, ?_⟩; (have k0 := over_cell hC lt c0; have k1 := over_cell hC lt c1; simp [Oper.quietAt, Oper.quietUpon, go_sem, k0, k1]; first | done | rfl); go_big_quiet_on; simp only [Act.put, List.setIfInBounds_toArray, List.set_cons_zero, List.set_cons_succ]))
   refine wpQuiet_nil ?_; intro wr hC; have k0 := over_cell hC lt c0; have k1 := over_cell hC lt c1; go_wp2
   go_ret
   exact ⟨rfl, below_step B0 (over_below hC)⟩

theorem slc_any (a n x : Int) (w : World) (hn0 : 0 ≤ n) (hn1 : n ≤ 16) (hx0 : 0 ≤ x) (hx1 : x ≤ 65535) : Calls Tryz.prog 97 #[.agg #[.int .i64 a, .int .i64 n], .int .i64 x] w fun e w' => e = .returned (.bool (hd x n == a)) ∧ Below w.heap.size w w' := by
 rw [← and_mask x n hx0 hx1 hn0 hn1]
 go_enter Tryz.func97, Tryz.ntmps97
 go_wp2_with fail; obtain ⟨c0, c1, lt, B0⟩ := box2 w (.int .i64 a) (.int .i64 n) 93; refine wp_region_class (C := Over (w.alloc (.cells #[.int .i64 a, .int .i64 n] 93))) (by kernel_rfl) (by kernel_rfl) (over_drew _) ?_
 repeat (first | go_big_quiet_skip | (go_big_quiet_want; go_big_quiet_op; go_big_quiet_on) | (go_big_quiet_want; go_big_quiet_op; apply Exists.intro; refine ⟨fun w' hC => ?_, ?_⟩; ((first | (go_at_call 169; refine (mask_any n _ hn0 hn1).mono ?_; rintro e w1 ⟨rfl, rfl⟩; exact ⟨rfl, hC⟩))); go_big_quiet_on) | (go_big_quiet_want; apply Exists.intro; refine ⟨fun w' hC => ?_, ?_⟩; (have k0 := over_cell hC lt c0; have k1 := over_cell hC lt c1; simp [Oper.quietAt, Oper.quietUpon, go_sem, k0, k1]; first | done | rfl); go_big_quiet_on; simp only [Act.put, List.setIfInBounds_toArray, List.set_cons_zero, List.set_cons_succ]))
 refine wpQuiet_nil ?_; intro wr hC; have k0 := over_cell hC lt c0; have k1 := over_cell hC lt c1; go_wp2
 go_ret
 exact ⟨rfl, below_step B0 (over_below hC)⟩
end Go.Proofs.YtbcmoofpgffbhabGreat
namespace Go.Proofs.YtbcmoofpgffbhabGreat
open Go.ChangeShapes Go.WideShapes Go.ChangeAt Go.RowKit Go.BigFrame
set_option linter.unusedVariables false
set_option maxRecDepth 100000

/-- the slice value v reads as the bytes l -/
def Rd (w : World) (v : Value) (l : List Int) : Prop :=
 (∀ x ∈ l, 0 ≤ x ∧ x ≤ 255) ∧ l.length ≤ maxLen ∧
 ((∃ a c, v = .slice a 0 c ∧ l = [] ∧ (a = none → c = 0)) ∨
  ∃ b o c, v = .slice (some ⟨b, o, none⟩) l.length c ∧ 0 < l.length ∧ ∀ i, i < l.length → w.cell? ⟨b, o + i, none⟩ = some (.int .u8 (l.getD i 0)))

theorem Rd.keep {w w' : World} {v : Value} {l : List Int} (h : Rd w v l) (hb : Below w.heap.size w w') : Rd w' v l := by
 obtain ⟨h1, h2, h3⟩ := h; refine ⟨h1, h2, ?_⟩
 rcases h3 with h3 | ⟨b, o, c, hv, hp, hc⟩
 ·exact .inl h3
 ·refine .inr ⟨b, o, c, hv, hp, fun i hi => ?_⟩
  exact cell_keep hb (World.block_lt_of_cell? w _ (hc i hi)) (hc i hi)
theorem Rd.len {w : World} {v : Value} {l : List Int} (h : Rd w v l) : ∃ a c, v = .slice a l.length c := by
 rcases h.2.2 with ⟨a, c, rfl, rfl, hac⟩ | ⟨b, o, c, rfl, _⟩
 ·exact ⟨a, c, rfl⟩
 ·exact ⟨_, c, rfl⟩
/-- the bytes that a marking leaves: k, k + 1, .. -/
def marks (k : Int) (n : Nat) : List Int := (List.range n).map fun (i : Nat) => (k + (i : Int)) % 256
abbrev BT : TypeId := 5
/-- the bytes l in a row that the call made -/
def Own (w : World) (base : Nat) (v : Value) (l : List Int) : Prop := w.ownsRow base BT 1 v l.length (l.map (Value.int .u8))

theorem Own.rd {w : World} {base : Nat} {v : Value} {l : List Int} (h : Own w base v l) (hl : ∀ x ∈ l, 0 ≤ x ∧ x ≤ 255) : Rd w v l := by
 have h0 := h; unfold Own at h0
 rcases h.2 with ⟨rfl, hn⟩ | ⟨g, cap, cur, rfl, hb, hg, hnc, hcm, hcs, htake⟩
 ·exact ⟨hl, by omega, .inl ⟨none, 0, by rw [], List.eq_nil_of_length_eq_zero hn, fun _ => rfl⟩⟩
 ·refine ⟨hl, Nat.le_trans hnc hcm, ?_⟩
  by_cases hz : l.length = 0
  ·exact .inl ⟨some ⟨g, 0, none⟩, cap, by rw [hz], List.eq_nil_of_length_eq_zero hz, fun h => by cases h⟩
  ·refine .inr ⟨g, 0, cap, rfl, by omega, fun i hi => ?_⟩
   rw [Nat.zero_add, h0.cellAt i (by omega)]
   simp [List.getD, hi]
theorem Own.keep {w w' : World} {base : Nat} {v : Value} {l : List Int} (h : Own w base v l) (hb : Below w.heap.size w w') : Own w' base v l :=
 World.ownsRow.kept (row := none) h ⟨hb.os, hb.tape, hb.output, hb.size, fun k hk _ => hb.block k hk⟩ (by cases v.ownBlock <;> simp)
theorem Own.mono {w : World} {base base' : Nat} {v : Value} {l : List Int} (h : Own w base v l) (hb : base' ≤ base) : Own w base' v l := by
 refine ⟨h.1, ?_⟩
 rcases h.2 with hn | ⟨g, cap, cur, hv, hg, rest⟩
 ·exact .inl hn
 ·exact .inr ⟨g, cap, cur, hv, by omega, rest⟩

theorem Own.lit {base : Nat} (w : World) (cs : Array Value) (l : List Int) (hb : base ≤ w.heap.size) (hm : l.length ≤ maxLen) (h : cs.toList = l.map (Value.int .u8)) :
  Own (w.alloc (.cells cs BT)) base (.slice (some ⟨w.heap.size, 0, none⟩) l.length l.length) l := by
 have hs : cs.size = l.length * 1 := by rw [← Array.length_toList, h]; simp
 have := World.ownsRow_lit (e := BT) (size := 1) w cs l.length hb hm hs; rw [h] at this
 exact this
end Go.Proofs.YtbcmoofpgffbhabGreat
namespace Go.Proofs.YtbcmoofpgffbhabGreat
open Go.ChangeShapes Go.WideShapes Go.ChangeAt Go.RowKit Go.BigFrame
set_option linter.unusedVariables false
set_option maxRecDepth 100000

theorem Is_bytes.rd {W : World} {v : Value} (h : Is_bytes W v) : ∃ l, Rd W v l := by
 rcases h with rfl | ⟨x, len, cap, zs, rfl, hl, hm, hz, hc, hwf⟩
 ·exact ⟨[], by simp, by simp, .inl ⟨none, 0, rfl, rfl, fun _ => rfl⟩⟩
 ·have hlen : (zs.take len).length = len := by simp; omega
  refine ⟨zs.take len, fun y hy => bounds_u8 (hwf y (List.mem_of_mem_take hy)), by omega, ?_⟩
  by_cases h0 : len = 0
  ·subst h0
   exact .inl ⟨some x, cap, by simp, by simp, fun h => by cases h⟩
  ·obtain ⟨b, off, spot⟩ := x
   have hspot : spot = none := by
    have h1 := hc 0 (by omega)
    simpa [Addr.add] using World.cell?_spot h1
   subst hspot; refine .inr ⟨b, off, cap, by rw [hlen], by omega, fun i hi => ?_⟩; rw [hlen] at hi; have h1 := hc i (by omega); have e1 : (zs.take len).getD i 0 = zs.getD i 0 := by simp [List.getD, hi]
   rw [e1]; have hadd : (⟨b, off, none⟩ : Addr).add i = ⟨b, off + i, none⟩ := by unfold Addr.add; split <;> simp_all
   rw [hadd] at h1
   exact h1

theorem Rd.alloc {w : World} {v : Value} {l : List Int} (h : Rd w v l) (o : Obj) : Rd (w.alloc o) v l := h.keep ((Below.refl _ _).alloc (Nat.le_refl _) _)
theorem Own.alloc {w : World} {base : Nat} {v : Value} {l : List Int} (h : Own w base v l) (o : Obj) : Own (w.alloc o) base v l := h.keep ((Below.refl _ _).alloc (Nat.le_refl _) _)
end Go.Proofs.YtbcmoofpgffbhabGreat
namespace Go.Proofs.YtbcmoofpgffbhabGreat
open Go.ChangeShapes Go.WideShapes Go.ChangeAt Go.RowKit Go.BigFrame
set_option linter.unusedVariables false
set_option maxRecDepth 100000

end Go.Proofs.YtbcmoofpgffbhabGreat
namespace Go.Proofs.YtbcmoofpgffbhabGreat
open Go.ChangeShapes Go.WideShapes Go.ChangeAt Go.RowKit Go.BigFrame
set_option linter.unusedVariables false
set_option maxRecDepth 100000

theorem over_refl (V : World) : Over V V := Below.refl _ _
theorem over_alloc {V w : World} (h : Over V w) (o : Obj) : Over V (w.alloc o) := Below.alloc h h.size o
theorem Own.kept {w w' : World} {base : Nat} {v : Value} {l : List Int} {row : Option Nat} (h : Own w base v l) (hg : w.grownBy w' row) (hne : v.ownBlock = none ∨ v.ownBlock ≠ row) : Own w' base v l := World.ownsRow.kept h hg hne
end Go.Proofs.YtbcmoofpgffbhabGreat
namespace Go.Proofs.YtbcmoofpgffbhabGreat
open Go.ChangeShapes Go.WideShapes Go.ChangeAt Go.RowKit Go.BigFrame
set_option linter.unusedVariables false
set_option maxRecDepth 100000

/-- the slice value v reads as the ints l -/
def RdI (w : World) (v : Value) (l : List Int) : Prop :=
 (∀ x ∈ l, -9223372036854775808 ≤ x ∧ x ≤ 9223372036854775807) ∧ l.length ≤ maxLen ∧
 ((∃ a c, v = .slice a 0 c ∧ l = [] ∧ (a = none → c = 0)) ∨
  ∃ b o c, v = .slice (some ⟨b, o, none⟩) l.length c ∧ 0 < l.length ∧ ∀ i, i < l.length → w.cell? ⟨b, o + i, none⟩ = some (.int .i64 (l.getD i 0)))

theorem RdI.keep {w w' : World} {v : Value} {l : List Int} (h : RdI w v l) (hb : Below w.heap.size w w') : RdI w' v l := by
 obtain ⟨h1, h2, h3⟩ := h; refine ⟨h1, h2, ?_⟩
 rcases h3 with h3 | ⟨b, o, c, hv, hp, hc⟩
 ·exact .inl h3
 ·refine .inr ⟨b, o, c, hv, hp, fun i hi => ?_⟩
  exact cell_keep hb (World.block_lt_of_cell? w _ (hc i hi)) (hc i hi)
theorem RdI.len {w : World} {v : Value} {l : List Int} (h : RdI w v l) : ∃ a c, v = .slice a l.length c := by
 rcases h.2.2 with ⟨a, c, rfl, rfl, hac⟩ | ⟨b, o, c, rfl, _⟩
 ·exact ⟨a, c, rfl⟩
 ·exact ⟨_, c, rfl⟩
theorem getD_bd_I {l : List Int} (h : ∀ x ∈ l, -9223372036854775808 ≤ x ∧ x ≤ 9223372036854775807) (i : Nat) : -9223372036854775808 ≤ l.getD i 0 ∧ l.getD i 0 ≤ 9223372036854775807 := by
 by_cases hi : i < l.length
 ·have e : l.getD i 0 = l[i] := by simp [List.getD, hi]
  rw [e]; exact h _ (List.getElem_mem hi)
 ·simp [List.getD, List.getElem?_eq_none (by omega : l.length ≤ i)]
theorem take_eq_succ_I {l m : List Int} {k : Nat} (h : l.take k = m.take k) (h1 : k < l.length) (h2 : k < m.length) (he : l.getD k 0 = m.getD k 0) : l.take (k + 1) = m.take (k + 1) := by
 rw [List.take_succ_eq_append_getElem h1, List.take_succ_eq_append_getElem h2, h]; have a : l.getD k 0 = l[k] := by simp [List.getD, h1]
 have b : m.getD k 0 = m[k] := by simp [List.getD, h2]
 rw [← a, ← b, he]

/-- the two slices are compared: equal lengths, equal ints -/
theorem eqB_any_I (v u : Value) (l m : List Int) (w : World) (h1 : RdI w v l) (h2 : RdI w u m) :
  Calls Tryz.prog 151 #[v, u] w fun e w' => e = .returned (.bool (decide (l = m))) ∧ Below w.heap.size w w' := by
 by_cases hlen : l.length = m.length
 ·obtain ⟨b1, m1, ⟨a, c, rfl, rfl, hac⟩ | ⟨b, o, c, rfl, hp, hc⟩⟩ := h1
  ·obtain rfl : m = [] := List.eq_nil_of_length_eq_zero (by simpa using hlen.symm)
   obtain ⟨b2, m2, ⟨a', c', rfl, -, -⟩ | ⟨b', o', c', rfl, hp', hc'⟩⟩ := h2
   ·clear hlen
    rw [show decide (([] : List Int) = []) = true from rfl]
    go_enter Tryz.func151, Tryz.ntmps151
    go_wp2; refine wp_loop_rounds 1 ?_; rw [rounds_succ]; go_wp2
    go_ret
    exact ⟨rfl, Below.refl _ _⟩
   ·simp at hp'
  ·obtain ⟨b2, m2, ⟨a', c', rfl, rfl, -⟩ | ⟨b', o', c', rfl, hp', hc'⟩⟩ := h2
   ·simp [hlen] at hp
   ·have hn : ∃ n, n = l.length := ⟨_, rfl⟩
    obtain ⟨n, hn⟩ := hn; have hn' : n = m.length := hn.trans hlen; rw [← hn'] at hp' hc' m2; rw [← hn] at hp hc m1; rw [← hn, ← hn']; have HN := Lib.hid hn; have HN' := Lib.hid hn'; unfold maxLen at m1; clear hn hn' hlen
    go_enter Tryz.func151, Tryz.ntmps151
    go_wp2
    go_loopw [5] (fun i wr => ∃ k : Nat, k ≤ n ∧ i = .int .i64 k ∧ l.take k = m.take k ∧ Below w.heap.size w wr) (fun i _ => n - (intOf i).toNat)
    case atStart => exact ⟨0, Nat.zero_le _, rfl, rfl, Below.refl _ _⟩
    case round =>
     obtain ⟨k, hk, rfl, ht, hB⟩ := hrel; have HT := Lib.hid ht; clear ht
     by_cases hlt : k < n
     ·have e1 := cell_keep hB (World.block_lt_of_cell? w _ (hc k hlt)) (hc k hlt)
      have e2 := cell_keep hB (World.block_lt_of_cell? w _ (hc' k hlt)) (hc' k hlt); have hltI : (k : Int) < (n : Int) := by omega
      obtain ⟨x, hx⟩ : ∃ x, l.getD k 0 = x := ⟨_, rfl⟩; obtain ⟨y, hy⟩ : ∃ y, m.getD k 0 = y := ⟨_, rfl⟩; rw [hx] at e1; rw [hy] at e2; have HX := Lib.hid hx; have HY := Lib.hid hy; clear hx hy hc hc'
      by_cases hxy : x = y
      ·have hne : (x != y) = false := by simp [hxy]
       have HE := Lib.hid hxy; clear hxy; go_wp2
       go_quiet (fail)
       go_wp2
       go_roundw
       case rel => exact ⟨k + 1, by omega, by go_num, take_eq_succ_I HT.out (by rw [← HN.out]; exact hlt) (by rw [← HN'.out]; exact hlt) (by rw [HX.out, HY.out, HE.out]), hB.trans ⟨rfl, rfl, rfl, Nat.le_refl _, fun _ _ => rfl⟩⟩
       case measure => simp [intOf]; omega
      ·have hne : (x != y) = true := by simp [hxy]
       have hlm : decide (l = m) = false := by
        simp only [decide_eq_false_iff_not]; rintro rfl
        exact hxy (HX.out.symm.trans HY.out)
       have HL := Lib.hid hlm; clear hlm hxy; go_wp2
       go_quiet (fail)
       go_wp2
       go_ret
       exact ⟨ret_bool HL.out.symm, hB.trans ⟨rfl, rfl, rfl, Nat.le_refl _, fun _ _ => rfl⟩⟩
     ·have hkn : k = n := by omega
      have hlm : decide (l = m) = true := by
       have h := HT.out; rw [hkn, List.take_of_length_le (by rw [HN.out]; exact Nat.le_refl _), List.take_of_length_le (by rw [HN'.out]; exact Nat.le_refl _)] at h
       simp [h]
      have HL := Lib.hid hlm; clear hlm hkn; go_wp2
      go_ret
      exact ⟨ret_bool HL.out.symm, hB⟩
 ·have hd : decide (l = m) = false := by
   simp only [decide_eq_false_iff_not]; rintro rfl
   exact hlen rfl
  rw [hd]; clear hd; obtain ⟨a, c, rfl⟩ := h1.len; obtain ⟨a', c', rfl⟩ := h2.len; have hne : ((l.length : Int) != (m.length : Int)) = true := by simp; omega
  clear h1 h2
  go_enter Tryz.func151, Tryz.ntmps151
  go_wp2
  go_ret
  exact ⟨rfl, Below.refl _ _⟩

/-- the bytes that a marking leaves: k, k + 1, .. -/
def imarks (k : Int) (n : Nat) : List Int := (List.range n).map fun (i : Nat) => (k + (i : Int))
abbrev IT : TypeId := 3
/-- the bytes l in a row that the call made -/
def OwnI (w : World) (base : Nat) (v : Value) (l : List Int) : Prop := w.ownsRow base IT 1 v l.length (l.map (Value.int .i64))

theorem OwnI.rd {w : World} {base : Nat} {v : Value} {l : List Int} (h : OwnI w base v l) (hl : ∀ x ∈ l, -9223372036854775808 ≤ x ∧ x ≤ 9223372036854775807) : RdI w v l := by
 have h0 := h; unfold OwnI at h0
 rcases h.2 with ⟨rfl, hn⟩ | ⟨g, cap, cur, rfl, hb, hg, hnc, hcm, hcs, htake⟩
 ·exact ⟨hl, by omega, .inl ⟨none, 0, by rw [], List.eq_nil_of_length_eq_zero hn, fun _ => rfl⟩⟩
 ·refine ⟨hl, Nat.le_trans hnc hcm, ?_⟩
  by_cases hz : l.length = 0
  ·exact .inl ⟨some ⟨g, 0, none⟩, cap, by rw [hz], List.eq_nil_of_length_eq_zero hz, fun h => by cases h⟩
  ·refine .inr ⟨g, 0, cap, rfl, by omega, fun i hi => ?_⟩
   rw [Nat.zero_add, h0.cellAt i (by omega)]
   simp [List.getD, hi]
theorem OwnI.keep {w w' : World} {base : Nat} {v : Value} {l : List Int} (h : OwnI w base v l) (hb : Below w.heap.size w w') : OwnI w' base v l :=
 World.ownsRow.kept (row := none) h ⟨hb.os, hb.tape, hb.output, hb.size, fun k hk _ => hb.block k hk⟩ (by cases v.ownBlock <;> simp)
theorem OwnI.mono {w : World} {base base' : Nat} {v : Value} {l : List Int} (h : OwnI w base v l) (hb : base' ≤ base) : OwnI w base' v l := by
 refine ⟨h.1, ?_⟩
 rcases h.2 with hn | ⟨g, cap, cur, hv, hg, rest⟩
 ·exact .inl hn
 ·exact .inr ⟨g, cap, cur, hv, by omega, rest⟩

theorem infoB_I : (Tryz.prog.info? IT).map (fun i => (i.zero, i.size, i.bytes)) = some (some (.int .i64 0), 1, 8) := by kernel_rfl
theorem OwnI.lit {base : Nat} (w : World) (cs : Array Value) (l : List Int) (hb : base ≤ w.heap.size) (hm : l.length ≤ maxLen) (h : cs.toList = l.map (Value.int .i64)) :
  OwnI (w.alloc (.cells cs IT)) base (.slice (some ⟨w.heap.size, 0, none⟩) l.length l.length) l := by
 have hs : cs.size = l.length * 1 := by rw [← Array.length_toList, h]; simp
 have := World.ownsRow_lit (e := IT) (size := 1) w cs l.length hb hm hs; rw [h] at this
 exact this
theorem toList_madeB_I (n : Nat) : (madeCells #[Value.int .i64 0] n).toList = (List.replicate n (0 : Int)).map (Value.int .i64) := by
 rw [toList_madeCells_one]; simp

theorem set_copied_I (l : List Int) (j n : Nat) (hn : n = l.length) (h : j < n) : (l.take j ++ List.replicate (n - j) 0).set j (l.getD j 0) = l.take (j + 1) ++ List.replicate (n - (j + 1)) 0 := by
 subst hn; have ht : (l.take j).length = j := by simp; omega
 rw [List.set_append_right _ _ (by rw [ht]; exact Nat.le_refl _), ht, Nat.sub_self, show l.length - j = (l.length - (j + 1)) + 1 by omega, List.replicate_succ, List.set_cons_zero, List.take_succ_eq_append_getElem h, List.append_assoc]; have e : l.getD j 0 = l[j] := by simp [List.getD, h]
 rw [e]
 rfl
theorem map_set_u8_I (xs : List Int) (j : Nat) (x : Int) : (xs.map (Value.int .i64)).set j (.int .i64 x) = (xs.set j x).map (Value.int .i64) := by rw [List.map_set]

/-- a copy in a block of its own -/
theorem toB_any_I (v : Value) (l : List Int) (w : World) (h : RdI w v l) (hn : l.length ≤ 1048576) :
  Calls Tryz.prog 138 #[v] w fun e w' => e = .returned (.slice (some ⟨w.heap.size, 0, none⟩) l.length l.length) ∧ OwnI w' w.heap.size (.slice (some ⟨w.heap.size, 0, none⟩) l.length l.length) l ∧ Below w.heap.size w w' := by
 have hmk := fun W => run_make_row' (P := Tryz.prog) 42 IT (.int .i64 0) 8 Tryz.underlying42 infoB_I rfl .i64 .i64 l.length (by omega) (by omega) W
 obtain ⟨b1, m1, ⟨a, c, rfl, rfl, hac⟩ | ⟨b, o, c, rfl, hp, hc⟩⟩ := h
 ·have hmk0 : ∀ W : World, (Instr.makeSlice 42 (.int .i64 0) (.int .i64 0)).run Tryz.prog W = .ok (.slice (some ⟨W.heap.size, 0, none⟩) 0 0) (W.alloc (.cells (madeCells #[.int .i64 0] 0) IT)) := fun W => by simpa using hmk W
  clear hmk
  go_enter Tryz.func138, Tryz.ntmps138
  go_wp2; refine wp_loop_rounds 1 ?_; rw [rounds_succ]; go_wp2
  go_ret
  exact ⟨rfl, OwnI.lit w _ [] (Nat.le_refl _) (by simp) (by simp [madeCells]), (Below.refl _ _).alloc (Nat.le_refl _) _⟩
 ·obtain ⟨n, hn'⟩ : ∃ n, n = l.length := ⟨_, rfl⟩
  rw [← hn'] at hp hc hn hmk ⊢; have HN := Lib.hid hn'; clear m1 hn'
  go_enter Tryz.func138, Tryz.ntmps138
  go_wp2
  go_loopw [4] (fun i wr => ∃ k : Nat, k ≤ n ∧ i = .int .i64 k ∧ wr.ownsRow w.heap.size IT 1 (.slice (some ⟨w.heap.size, 0, none⟩) n n) n ((l.take k ++ List.replicate (n - k) 0).map (Value.int .i64)) ∧ Below w.heap.size w wr) (fun i _ => n - (intOf i).toNat)
  case atStart => exact ⟨0, Nat.zero_le _, rfl, by
   have h := World.ownsRow_lit (base := w.heap.size) (e := IT) (size := 1) w (madeCells #[Value.int .i64 0] n) n (Nat.le_refl _) (by unfold maxLen; omega) (by rw [← Array.length_toList, toList_madeB_I]; simp); rw [toList_madeB_I] at h
   simpa using h, (Below.refl _ _).alloc (Nat.le_refl _) _⟩
  case round =>
   obtain ⟨k, hk, rfl, hown, hB⟩ := hrel
   by_cases hlt : k < n
   ·have lb := World.block_lt_of_cell? w _ (hc k hlt)
    have e1 := cell_keep hB lb (hc k hlt); have hltI : (k : Int) < (n : Int) := by omega
    have hx : ((l.take k ++ List.replicate (n - k) 0).map (Value.int .i64))[k]? = some (.int .i64 0) := by
     have ht : (l.take k).length = k := by rw [List.length_take, ← HN.out]; omega
     rw [List.getElem?_map, List.getElem?_append_right (by rw [ht]; exact Nat.le_refl _), ht, Nat.sub_self, List.getElem?_replicate, if_pos (by omega)]
     rfl
    have e2 := (hown.cellAt k (by omega)).trans hx; have e3 := hown.frozenAt k; clear hx hc; have hst := hown.stored k (.int .i64 (l.getD k 0)); rw [map_set_u8_I, set_copied_I l k n HN.out hlt] at hst; obtain ⟨hst1, hst2⟩ := hst; have hB2 : Below w.heap.size w (wr.setCell ⟨w.heap.size, k, none⟩ (.int .i64 (l.getD k 0))) := hB.setCell (Nat.le_refl _) _; clear hst2 hown; obtain ⟨x, hx⟩ : ∃ x, l.getD k 0 = x := ⟨_, rfl⟩; rw [hx] at e1 hst1 hB2; clear hx; go_wp2
    go_roundw
    case rel => exact ⟨k + 1, by omega, by go_num, hst1, hB2⟩
    case measure => simp [intOf]; omega
   ·have hkn : k = n := by omega
    subst hkn; clear hc
    have ho : OwnI wr w.heap.size (.slice (some ⟨w.heap.size, 0, none⟩) k k) l := by
     unfold OwnI; rw [← HN.out]
     simpa [List.take_of_length_le (show l.length ≤ k by rw [HN.out]; exact Nat.le_refl _)] using hown
    clear hown; go_wp2
    go_ret
    exact ⟨rfl, ho, hB⟩

end Go.Proofs.YtbcmoofpgffbhabGreat
namespace Go.Proofs.YtbcmoofpgffbhabGreat
open Go.ChangeShapes Go.WideShapes Go.ChangeAt Go.RowKit Go.BigFrame
set_option linter.unusedVariables false
set_option maxRecDepth 100000

theorem grown_trans {a b c : World} {row : Option Nat} (h : a.grownBy b row) (k : b.grownBy c row) : a.grownBy c row :=
 ⟨k.os.trans h.os, k.tape.trans h.tape, k.output.trans h.output, Nat.le_trans h.size k.size, fun i hi hne => (k.block i (Nat.lt_of_lt_of_le hi h.size) hne).trans (h.block i hi hne)⟩
theorem grown_set (w : World) (g o : Nat) (u : Value) : w.grownBy (w.setCell ⟨g, o, none⟩ u) (some g) :=
 ⟨rfl, rfl, rfl, by simp [World.setCell], fun i hi hne => Below.heap_setCell _ _ _ _ (fun e => hne (by rw [e]))⟩
theorem set_other {w : World} {a b : Addr} {u v : Value} (hne : a ≠ b) (h : w.cell? b = some v) : (w.setCell a u).cell? b = some v := by
 rw [World.cell?_setCell_other _ _ _ _ hne]; exact h
theorem set_same {w : World} {a : Addr} {u v : Value} (h : w.cell? a = some v) : (w.setCell a u).cell? a = some u :=
 World.cell?_setCell_same' _ _ _ (by rw [h]; rfl)
theorem grown_below {w w' : World} (h : Below w.heap.size w w') (row : Option Nat) : w.grownBy w' row := ⟨h.os, h.tape, h.output, h.size, fun k hk _ => h.block k hk⟩
/-- block B holds four cells that may be written -/
structure Bx (w : World) (B : Nat) (x0 x1 x2 x3 : Value) : Prop where
 lt : B < w.heap.size
 c0 : w.cell? ⟨B, 0, none⟩ = some x0
 c1 : w.cell? ⟨B, 1, none⟩ = some x1
 c2 : w.cell? ⟨B, 2, none⟩ = some x2
 c3 : w.cell? ⟨B, 3, none⟩ = some x3
 f0 : w.frozen? ⟨B, 0, none⟩ = false
 f1 : w.frozen? ⟨B, 1, none⟩ = false
 f2 : w.frozen? ⟨B, 2, none⟩ = false
 f3 : w.frozen? ⟨B, 3, none⟩ = false
section
variable {w w' : World} {B C o : Nat} {x0 x1 x2 x3 u : Value} {row : Option Nat}
theorem Bx.grown (h : Bx w B x0 x1 x2 x3) (hg : w.grownBy w' row) (hne : some B ≠ row) : Bx w' B x0 x1 x2 x3 :=
 ⟨Nat.lt_of_lt_of_le h.lt hg.size, (hg.cell_far _ h.lt hne).trans h.c0, (hg.cell_far _ h.lt hne).trans h.c1, (hg.cell_far _ h.lt hne).trans h.c2, (hg.cell_far _ h.lt hne).trans h.c3,
  (hg.frozen_far _ h.lt hne).trans h.f0, (hg.frozen_far _ h.lt hne).trans h.f1, (hg.frozen_far _ h.lt hne).trans h.f2, (hg.frozen_far _ h.lt hne).trans h.f3⟩
theorem Bx.keep (h : Bx w B x0 x1 x2 x3) (hb : Below w.heap.size w w') : Bx w' B x0 x1 x2 x3 := h.grown (grown_below hb none) (by simp)
theorem Bx.alloc (h : Bx w B x0 x1 x2 x3) (o : Obj) : Bx (w.alloc o) B x0 x1 x2 x3 := h.keep ((Below.refl _ _).alloc (Nat.le_refl _) _)
theorem Bx.new (w : World) (x0 x1 x2 x3 : Value) (t : TypeId) (b : Nat) (hb : b = w.heap.size) : Bx (w.alloc (.cells #[x0, x1, x2, x3] t)) b x0 x1 x2 x3 := by
 subst hb
 exact ⟨by simp, by simp, by simp, by simp, by simp, World.frozen?_alloc_at _ _ _ _ rfl, World.frozen?_alloc_at _ _ _ _ rfl, World.frozen?_alloc_at _ _ _ _ rfl, World.frozen?_alloc_at _ _ _ _ rfl⟩
theorem Bx.far (h : Bx w B x0 x1 x2 x3) (hne : B ≠ C) : Bx (w.setCell ⟨C, o, none⟩ u) B x0 x1 x2 x3 := h.grown (grown_set w C o u) (by simpa using hne)
theorem Bx.set0 (h : Bx w B x0 x1 x2 x3) : Bx (w.setCell ⟨B, 0, none⟩ u) B u x1 x2 x3 :=
 ⟨Nat.lt_of_lt_of_le h.lt (grown_set w B 0 u).size, set_same h.c0, set_other (by simp) h.c1, set_other (by simp) h.c2, set_other (by simp) h.c3, by rw [World.frozen?_setCell]; exact h.f0, by rw [World.frozen?_setCell]; exact h.f1, by rw [World.frozen?_setCell]; exact h.f2, by rw [World.frozen?_setCell]; exact h.f3⟩
theorem Bx.set1 (h : Bx w B x0 x1 x2 x3) : Bx (w.setCell ⟨B, 1, none⟩ u) B x0 u x2 x3 :=
 ⟨Nat.lt_of_lt_of_le h.lt (grown_set w B 1 u).size, set_other (by simp) h.c0, set_same h.c1, set_other (by simp) h.c2, set_other (by simp) h.c3, by rw [World.frozen?_setCell]; exact h.f0, by rw [World.frozen?_setCell]; exact h.f1, by rw [World.frozen?_setCell]; exact h.f2, by rw [World.frozen?_setCell]; exact h.f3⟩
theorem Bx.set2 (h : Bx w B x0 x1 x2 x3) : Bx (w.setCell ⟨B, 2, none⟩ u) B x0 x1 u x3 :=
 ⟨Nat.lt_of_lt_of_le h.lt (grown_set w B 2 u).size, set_other (by simp) h.c0, set_other (by simp) h.c1, set_same h.c2, set_other (by simp) h.c3, by rw [World.frozen?_setCell]; exact h.f0, by rw [World.frozen?_setCell]; exact h.f1, by rw [World.frozen?_setCell]; exact h.f2, by rw [World.frozen?_setCell]; exact h.f3⟩
theorem Bx.set3 (h : Bx w B x0 x1 x2 x3) : Bx (w.setCell ⟨B, 3, none⟩ u) B x0 x1 x2 u :=
 ⟨Nat.lt_of_lt_of_le h.lt (grown_set w B 3 u).size, set_other (by simp) h.c0, set_other (by simp) h.c1, set_other (by simp) h.c2, set_same h.c3, by rw [World.frozen?_setCell]; exact h.f0, by rw [World.frozen?_setCell]; exact h.f1, by rw [World.frozen?_setCell]; exact h.f2, by rw [World.frozen?_setCell]; exact h.f3⟩
theorem Bx.all {y0 y1 y2 y3 : Value} (h : Bx w B x0 x1 x2 x3) : Bx ((((w.setCell ⟨B, 0, none⟩ y0).setCell ⟨B, 1, none⟩ y1).setCell ⟨B, 2, none⟩ y2).setCell ⟨B, 3, none⟩ y3) B y0 y1 y2 y3 := h.set0.set1.set2.set3
end
end Go.Proofs.YtbcmoofpgffbhabGreat
namespace Go.Proofs.YtbcmoofpgffbhabGreat
open Go.ChangeShapes Go.WideShapes Go.ChangeAt Go.RowKit Go.BigFrame Go.Joins
set_option linter.unusedVariables false
set_option maxRecDepth 100000

section
variable {H : Type} {enc : TypeId × Value → H} {W : World} {base : Nat} {d : DataW H} {p : List MemPlace} {v : Value}
theorem rdI_trod {fuel : Nat} {y : DataW H × List MemPlace} (h : DataW.trod enc Tryz.prog W 0 (fun _ => true) true fuel 42 [v] = some y) : ∃ l, RdI W v l := by
 rcases open_ints Tryz.underlying42 Tryz.underlying3 (by kernel_rfl) h with ⟨hcs, _⟩ | ⟨x, len, cap, zs, hcs, _, hl, hm, hz, _, hc, hwf⟩
 ·simp at hcs
  subst hcs
  exact ⟨[], by simp, by simp, .inl ⟨none, 0, rfl, rfl, fun _ => rfl⟩⟩
 ·simp at hcs
  subst hcs
  simp at hz
  have hlen : (zs.take len).length = len := by simp; omega
  refine ⟨zs.take len, fun y hy => bounds_i64 (hwf y (List.mem_of_mem_take hy)), by omega, ?_⟩
  by_cases h0 : len = 0
  ·subst h0
   exact .inl ⟨some x, cap, by simp, by simp, fun h => by cases h⟩
  ·obtain ⟨b, off, spot⟩ := x
   have hspot : spot = none := by
    have h1 := hc 0 (by omega)
    simpa [Addr.add] using World.cell?_spot h1
   subst hspot; refine .inr ⟨b, off, cap, by rw [hlen], by omega, fun i hi => ?_⟩; rw [hlen] at hi; have h1 := hc i (by omega); have e1 : (zs.take len).getD i 0 = zs.getD i 0 := by simp [List.getD, hi]
   rw [e1]; have hadd : (⟨b, off, none⟩ : Addr).add i = ⟨b, off + i, none⟩ := by unfold Addr.add; split <;> simp_all
   rw [hadd] at h1
   exact h1
theorem cellsA : Tryz.prog.cellsOf 44 = 4 := by kernel_rfl
end

/-- the cells of a struct of four fields in a new block -/
theorem box4 (w : World) (u0 u1 u2 u3 : Value) (T : TypeId) : (w.alloc (.cells #[u0, u1, u2, u3] T)).cell? ⟨w.heap.size, 0, none⟩ = some u0 ∧ (w.alloc (.cells #[u0, u1, u2, u3] T)).cell? ⟨w.heap.size, 1, none⟩ = some u1 ∧ (w.alloc (.cells #[u0, u1, u2, u3] T)).cell? ⟨w.heap.size, 2, none⟩ = some u2 ∧ (w.alloc (.cells #[u0, u1, u2, u3] T)).cell? ⟨w.heap.size, 3, none⟩ = some u3 ∧ w.heap.size < (w.alloc (.cells #[u0, u1, u2, u3] T)).heap.size ∧ Below w.heap.size w (w.alloc (.cells #[u0, u1, u2, u3] T)) :=
 ⟨by simp, by simp, by simp, by simp, by simp, (Below.refl _ _).alloc (Nat.le_refl _) _⟩
theorem RdI.alloc {w : World} {v : Value} {l : List Int} (h : RdI w v l) (o : Obj) : RdI (w.alloc o) v l := h.keep ((Below.refl _ _).alloc (Nat.le_refl _) _)
theorem rdI_over {V w : World} {v : Value} {l : List Int} (h : RdI V v l) (o : Over V w) : RdI w v l := h.keep o
theorem OwnI.alloc {w : World} {base : Nat} {v : Value} {l : List Int} (h : OwnI w base v l) (o : Obj) : OwnI (w.alloc o) base v l := h.keep ((Below.refl _ _).alloc (Nat.le_refl _) _)
theorem OwnI.kept {w w' : World} {base : Nat} {v : Value} {l : List Int} {row : Option Nat} (h : OwnI w base v l) (hg : w.grownBy w' row) (hne : v.ownBlock = none ∨ v.ownBlock ≠ row) : OwnI w' base v l := World.ownsRow.kept h hg hne
/-- two rows apart -/
def Apart (v u : Value) : Prop := (v.ownBlock = none ∨ v.ownBlock ≠ u.ownBlock) ∧ (u.ownBlock = none ∨ u.ownBlock ≠ v.ownBlock)
theorem Apart.symm {v u : Value} (h : Apart v u) : Apart u v := ⟨h.2, h.1⟩
theorem apartI {w w' : World} {b1 b2 : Nat} {v u : Value} {l m : List Int} (h1 : OwnI w b1 v l) (h2 : OwnI w' b2 u m) (h : w.heap.size ≤ b2) : Apart v u := by
 have a : v.ownBlock = none ∨ v.ownBlock ≠ u.ownBlock := by
  cases hv : v.ownBlock with
  | none => exact .inl rfl
  | some k =>
   refine .inr (fun e => ?_); have a1 := (World.ownsRow.lt h1 k hv).2; have a2 := (World.ownsRow.lt h2 k e.symm).1
   omega
 refine ⟨a, ?_⟩
 rcases a with h0 | h0
 ·cases hu : u.ownBlock with
  | none => exact .inl rfl
  | some k => exact .inr (by rw [h0]; simp)
 ·exact .inr (Ne.symm h0)
/-- a fresh copy -/
def NewI (w : World) (l : List Int) (e : Ending) (w' : World) : Prop := ∃ a c, e = .returned (.slice a l.length c) ∧ OwnI w' w.heap.size (.slice a l.length c) l ∧ Below w.heap.size w w'
theorem OwnI.len {w : World} {base : Nat} {v : Value} {l : List Int} (h : OwnI w base v l) : ∃ a c, v = .slice a l.length c := by
 unfold OwnI at h
 rcases h.2 with ⟨rfl, hn⟩ | ⟨g, cap, cur, rfl, hb, hg, hnc, hcm, hcs, htake⟩
 ·exact ⟨none, 0, by rw [hn]⟩
 ·exact ⟨_, cap, rfl⟩
theorem toI_new (v : Value) (l : List Int) (w : World) (h : RdI w v l) (hn : l.length ≤ 1048576) : Calls Tryz.prog 138 #[v] w (NewI w l) :=
 (toB_any_I v l w h hn).mono fun _ _ ⟨he, ho, hb⟩ => ⟨_, _, he, ho, hb⟩
theorem eqI_same (v u : Value) (l : List Int) (w : World) (h1 : RdI w v l) (h2 : RdI w u l) :
  Calls Tryz.prog 151 #[v, u] w fun e w' => e = .returned (.bool true) ∧ Below w.heap.size w w' :=
 (eqB_any_I v u l l w h1 h2).mono fun _ _ ⟨he, hb⟩ => ⟨by rw [he]; simp, hb⟩

/-- how much room is left -/
def szN (left n : Int) : Int := if left < n then -1 else left - n
theorem szN_lt {left n : Int} (h : left < n) : szN left n = -1 := by simp [szN, h]
theorem szN_ge {left n : Int} (h : ¬ left < n) : szN left n = left - n := by simp [szN, h]
theorem szI_any (v : Value) (l : List Int) (left : Int) (w : World) (h : RdI w v l) (h0 : 0 ≤ left) (h1 : left ≤ 1048576) :
  Calls Tryz.prog 134 #[v, .int .i64 left] w fun e w' => e = .returned (.int .i64 (szN left l.length)) ∧ w = w' := by
 obtain ⟨a, c, rfl⟩ := h.len; have hm := h.2.1; unfold maxLen at hm; clear h; obtain ⟨n, hn⟩ : ∃ n, l.length = n := ⟨_, rfl⟩; rw [hn] at hm ⊢; clear hn
 by_cases hlt : left < n
 ·rw [szN_lt hlt]
  go_enter Tryz.func134, Tryz.ntmps134
  go_wp2
  go_ret
  exact ⟨rfl, rfl⟩
 ·rw [szN_ge hlt]
  go_enter Tryz.func134, Tryz.ntmps134
  go_wp2
  go_ret
  exact ⟨rfl, rfl⟩
/-- the size of an attribute -/
def szA (left : Int) (p c : List Int) : Int := if left < p.length then -1 else szN (left - p.length) c.length
theorem szA_any (pv cv : Value) (p c : List Int) (pr bw left : Int) (w : World) (hp : RdI w pv p) (hc : RdI w cv c) (h0 : 0 ≤ left) (h1 : left ≤ 1048576) :
  Calls Tryz.prog 61 #[.agg #[pv, .int .i64 pr, cv, .int .i64 bw], .int .i64 left] w fun e w' => e = .returned (.int .i64 (szA left p c)) ∧ Below w.heap.size w w' := by
 obtain ⟨c0, c1, c2, c3, lt, B0⟩ := box4 w pv (.int .i64 pr) cv (.int .i64 bw) 44; have hp1 := hp.alloc (.cells #[pv, .int .i64 pr, cv, .int .i64 bw] 44); have hc1 := hc.alloc (.cells #[pv, .int .i64 pr, cv, .int .i64 bw] 44)
 by_cases hlt : left < p.length
 ·have e : szA left p c = -1 := by simp [szA, hlt]
  rw [e]; have e2 := szN_lt hlt; have HE := Lib.hid e2; clear e hlt e2
  go_enter Tryz.func61, Tryz.ntmps61
  go_wp2_with fail; refine (szI_any _ p _ _ hp1 h0 h1).mono ?_; rintro e w1 ⟨rfl, rfl⟩; rw [HE.out]; go_wp2
  go_ret
  exact ⟨rfl, B0⟩
 ·have hge : 0 ≤ left - p.length := by omega
  have e2 := szN_ge hlt; have HE := Lib.hid e2; have hle : left - p.length ≤ 1048576 := by omega
  have e : szA left p c = szN (left - p.length) c.length := by simp [szA, hlt]
  rw [e]; clear e e2 hlt; obtain ⟨m, hm⟩ : ∃ m : Int, left - p.length = m := ⟨_, rfl⟩; rw [hm] at hge hle ⊢; have HM := Lib.hid hm; clear hm
  by_cases hlt : m < c.length
  ·have e3 := szN_lt hlt
   have HF := Lib.hid e3; rw [e3]; clear e3 hlt
   go_enter Tryz.func61, Tryz.ntmps61
   go_wp2_with fail; refine (szI_any _ p _ _ hp1 h0 h1).mono ?_; rintro e w1 ⟨rfl, rfl⟩; rw [HE.out, HM.out]; go_wp2_with fail; refine (szI_any _ c _ _ hc1 hge hle).mono ?_; rintro e w1 ⟨rfl, rfl⟩; rw [HF.out]; go_wp2
   go_ret
   exact ⟨rfl, B0⟩
  ·have e3 := szN_ge hlt
   have HF := Lib.hid e3; have hg2 : 0 ≤ m - c.length := by omega
   rw [e3]; clear e3 hlt; obtain ⟨k, hk⟩ : ∃ k : Int, m - c.length = k := ⟨_, rfl⟩; rw [hk] at hg2 ⊢; have HK := Lib.hid hk; clear hk
   go_enter Tryz.func61, Tryz.ntmps61
   go_wp2_with fail; refine (szI_any _ p _ _ hp1 h0 h1).mono ?_; rintro e w1 ⟨rfl, rfl⟩; rw [HE.out, HM.out]; go_wp2_with fail; refine (szI_any _ c _ _ hc1 hge hle).mono ?_; rintro e w1 ⟨rfl, rfl⟩; rw [HF.out, HK.out]; go_wp2
   go_ret
   exact ⟨rfl, B0⟩
/-- a fresh attribute: two rows of its own, apart -/
def NewA (w : World) (p : List Int) (pr : Int) (c : List Int) (bw : Int) (e : Ending) (w' : World) : Prop :=
 ∃ a d b f, e = .returned (.agg #[.slice a p.length d, .int .i64 pr, .slice b c.length f, .int .i64 bw]) ∧ OwnI w' w.heap.size (.slice a p.length d) p ∧ OwnI w' w.heap.size (.slice b c.length f) c ∧ Apart (.slice a p.length d) (.slice b c.length f) ∧ Below w.heap.size w w'
theorem OwnI.far {w : World} {base : Nat} {v u : Value} {l : List Int} {B o : Nat} (h : OwnI w base v l) (hB : B < base) : OwnI (w.setCell ⟨B, o, none⟩ u) base v l :=
 h.kept (grown_set w B o u) (by
  cases hv : v.ownBlock with
  | none => exact .inl rfl
  | some k => exact .inr (by have := (World.ownsRow.lt h k hv).1; intro e; cases e; omega))
theorem toA_any (pv cv : Value) (p c : List Int) (pr bw : Int) (w : World) (hp : RdI w pv p) (hc : RdI w cv c) (h0 : p.length ≤ 1048576) (h1 : c.length ≤ 1048576) :
  Calls Tryz.prog 65 #[.agg #[pv, .int .i64 pr, cv, .int .i64 bw]] w (NewA w p pr c bw) := by
 have bA := Bx.new w pv (.int .i64 pr) cv (.int .i64 bw) 44 w.heap.size rfl; have B1 : Below w.heap.size w (w.alloc (.cells #[pv, .int .i64 pr, cv, .int .i64 bw] 44)) := (Below.refl _ _).alloc (Nat.le_refl _) _; have z0 : (w.alloc (.cells #[pv, .int .i64 pr, cv, .int .i64 bw] 44)).heap.size = w.heap.size + 1 := by simp
 have bR := Bx.new (w.alloc (.cells #[pv, .int .i64 pr, cv, .int .i64 bw] 44)) (.slice none 0 0) (.int .i64 0) (.slice none 0 0) (.int .i64 0) 50 (w.heap.size + 1) z0.symm; replace bA := bA.alloc (.cells #[.slice none 0 0, .int .i64 0, .slice none 0 0, .int .i64 0] 50); have z1 : ((w.alloc (.cells #[pv, .int .i64 pr, cv, .int .i64 bw] 44)).alloc (.cells #[.slice none 0 0, .int .i64 0, .slice none 0 0, .int .i64 0] 50)).heap.size = w.heap.size + 2 := by simp
 replace B1 := B1.alloc (by rw [z0]; omega) (.cells #[.slice none 0 0, .int .i64 0, .slice none 0 0, .int .i64 0] 50); have bO := Bx.new ((w.alloc (.cells #[pv, .int .i64 pr, cv, .int .i64 bw] 44)).alloc (.cells #[.slice none 0 0, .int .i64 0, .slice none 0 0, .int .i64 0] 50)) (.slice none 0 0) (.int .i64 0) (.slice none 0 0) (.int .i64 0) 50 (w.heap.size + 1 + 1) z1.symm; replace bA := bA.alloc (.cells #[.slice none 0 0, .int .i64 0, .slice none 0 0, .int .i64 0] 50); replace bR := bR.alloc (.cells #[.slice none 0 0, .int .i64 0, .slice none 0 0, .int .i64 0] 50); replace B1 := B1.alloc (by rw [z1]; omega) (.cells #[.slice none 0 0, .int .i64 0, .slice none 0 0, .int .i64 0] 50); have z2 : (((w.alloc (.cells #[pv, .int .i64 pr, cv, .int .i64 bw] 44)).alloc (.cells #[.slice none 0 0, .int .i64 0, .slice none 0 0, .int .i64 0] 50)).alloc (.cells #[.slice none 0 0, .int .i64 0, .slice none 0 0, .int .i64 0] 50)).heap.size = w.heap.size + 3 := by simp
 have hp1 := hp.keep B1; clear z0 z1
 go_enter Tryz.func65, Tryz.ntmps65
 go_wp2_with fail; refine (toI_new _ p _ hp1 h0).mono ?_; rintro e w1 ⟨ua, uc, rfl, ho, hb⟩; replace bA := bA.keep hb; replace bR := bR.keep hb; replace bO := bO.keep hb; have hs := hb.size; replace B1 := B1.trans (hb.mono (by omega)); rw [z2] at ho hs; clear z2 hb hp1; have B2 := fun O (h : w.heap.size ≤ O) => (B1.setCell (p := ⟨O, 0, none⟩) h (.slice ua p.length uc)).setCell (p := ⟨O, 1, none⟩) h (.int .i64 pr)
 have hc2 := fun O h => hc.keep (B2 O h)
 obtain ⟨B, hB⟩ : ∃ B, B = w.heap.size := ⟨_, rfl⟩; obtain ⟨R, hR⟩ : ∃ R, R = w.heap.size + 1 := ⟨_, rfl⟩; obtain ⟨O, hO⟩ : ∃ O, O = w.heap.size + 1 + 1 := ⟨_, rfl⟩; rw [← hB] at bA; rw [← hR] at bR; rw [← hO] at bO; rw [← hO, ← hR, ← hB]; have hO3 : O < w.heap.size + 3 := by omega
 have hRO : R ≠ O := by omega
 have hR3 : R < w.heap.size + 3 := by omega
 have hBO : B ≠ O := by omega
 have hBR : B ≠ R := by omega
 have hOR : O ≠ R := by omega
 have hwO : w.heap.size ≤ O := by omega
 have hwR : w.heap.size ≤ R := by omega
 clear hB hR hO; have a0 := bA.c0; have a1 := bA.c1; have a2 := bA.c2; have a3 := bA.c3; have o0 := bO.c0; have o1 := bO.c1; have o2 := bO.c2; have o3 := bO.c3; have of0 := bO.f0; have of1 := bO.f1; have of2 := bO.f2; have of3 := bO.f3; go_wp2_with fail; clear a0 a1 a2 a3 o0 o1 o2 o3 of0 of1 of2 of3; replace hc2 := hc2 O hwO; replace B2 := B2 O hwO; replace bO := (bO.set0 (u := .slice ua p.length uc)).set1 (u := .int .i64 pr); replace bA := (bA.far (o := 0) (u := .slice ua p.length uc) hBO).far (o := 1) (u := .int .i64 pr) hBO; replace bR := (bR.far (o := 0) (u := .slice ua p.length uc) hRO).far (o := 1) (u := .int .i64 pr) hRO; replace ho := (ho.far (o := 0) (u := .slice ua p.length uc) hO3).far (o := 1) (u := .int .i64 pr) hO3; clear B1; refine (toI_new _ c _ hc2 h1).mono ?_; rintro e w2 ⟨va, vc, rfl, hq, hb⟩; have hap := apartI ho hq (Nat.le_refl _); have hs2 := (grown_set (w1.setCell ⟨O, 0, none⟩ (.slice ua p.length uc)) O 1 (.int .i64 pr)).size; have hs3 := (grown_set w1 O 0 (.slice ua p.length uc)).size; replace bA := bA.keep hb; replace bR := bR.keep hb; replace bO := bO.keep hb; replace ho := ho.keep hb; replace B2 := below_step B2 hb; replace hq := hq.mono (Nat.le_trans hs (Nat.le_trans hs3 hs2)); clear hb hc2 hs hs2 hs3; have a0 := bA.c0; have a1 := bA.c1; have a2 := bA.c2; have a3 := bA.c3; have o0 := bO.c0; have o1 := bO.c1; have o2 := bO.c2; have o3 := bO.c3; have of0 := bO.f0; have of1 := bO.f1; have of2 := bO.f2; have of3 := bO.f3; have r0 := bR.c0; have r1 := bR.c1; have r2 := bR.c2; have r3 := bR.c3; have rf0 := bR.f0; have rf1 := bR.f1; have rf2 := bR.f2; have rf3 := bR.f3; go_wp2_with fail; have bE := ((bR.far (o := 2) (u := .slice va c.length vc) hRO).far (o := 3) (u := .int .i64 bw) hRO).all (y0 := .slice ua p.length uc) (y1 := .int .i64 pr) (y2 := .slice va c.length vc) (y3 := .int .i64 bw); have e0 := bE.c0; have e1 := bE.c1; have e2 := bE.c2; have e3 := bE.c3
 refine bodyPost_ret (v := .agg #[.slice ua p.length uc, .int .i64 pr, .slice va c.length vc, .int .i64 bw]) (by simp [results, Tryz.results65, go_sem, e0, e1, e2, e3]) rfl
  ⟨ua, uc, va, vc, rfl, OwnI.mono (((((((ho).far (o := 2) hO3).far (o := 3) hO3).far (o := 0) hR3).far (o := 1) hR3).far (o := 2) hR3).far (o := 3) hR3) (by omega), OwnI.mono (((((((hq).far (o := 2) hO3).far (o := 3) hO3).far (o := 0) hR3).far (o := 1) hR3).far (o := 2) hR3).far (o := 3) hR3) (by omega), hap, ((((((B2).setCell (p := ⟨O, 2, none⟩) hwO _).setCell (p := ⟨O, 3, none⟩) hwO _).setCell (p := ⟨R, 0, none⟩) hwR _).setCell (p := ⟨R, 1, none⟩) hwR _).setCell (p := ⟨R, 2, none⟩) hwR _).setCell (p := ⟨R, 3, none⟩) hwR _⟩
/-- the two attributes read alike -/
theorem eqA_same (pv cv qv dv : Value) (p c : List Int) (pr bw : Int) (w : World) (hp : RdI w pv p) (hc : RdI w cv c) (hq : RdI w qv p) (hd : RdI w dv c) :
  Calls Tryz.prog 69 #[.agg #[pv, .int .i64 pr, cv, .int .i64 bw], .agg #[qv, .int .i64 pr, dv, .int .i64 bw]] w fun e w' => e = .returned (.bool true) ∧ Below w.heap.size w w' := by
 have bA := Bx.new w pv (.int .i64 pr) cv (.int .i64 bw) 50 w.heap.size rfl; have z0 : (w.alloc (.cells #[pv, .int .i64 pr, cv, .int .i64 bw] 50)).heap.size = w.heap.size + 1 := by simp
 have bB := Bx.new (w.alloc (.cells #[pv, .int .i64 pr, cv, .int .i64 bw] 50)) qv (.int .i64 pr) dv (.int .i64 bw) 50 (w.heap.size + 1) z0.symm; replace bA := bA.alloc (.cells #[qv, .int .i64 pr, dv, .int .i64 bw] 50); have B1 : Below w.heap.size w ((w.alloc (.cells #[pv, .int .i64 pr, cv, .int .i64 bw] 50)).alloc (.cells #[qv, .int .i64 pr, dv, .int .i64 bw] 50)) := ((Below.refl _ _).alloc (Nat.le_refl _) _).alloc (by rw [z0]; omega) _; have hp1 := hp.keep B1; have hq1 := hq.keep B1; clear z0; have ha : (pr != pr) = false := by simp
 have hn : (bw != bw) = false := by simp
 go_enter Tryz.func69, Tryz.ntmps69
 go_wp2_with fail; refine (eqI_same _ _ p _ hp1 hq1).mono ?_; rintro e w1 ⟨rfl, hb⟩; replace bA := bA.keep hb; replace bB := bB.keep hb; replace B1 := below_step B1 hb; clear hb; have a1 := bA.c1; have a2 := bA.c2; have a3 := bA.c3; have b1 := bB.c1; have b2 := bB.c2; have b3 := bB.c3; go_wp2_with fail; refine (eqI_same _ _ c _ (hc.keep B1) (hd.keep B1)).mono ?_; rintro e w2 ⟨rfl, hb⟩; replace bA := bA.keep hb; replace bB := bB.keep hb; replace B1 := below_step B1 hb; clear hb a1 a2 a3 b1 b2 b3; have a3 := bA.c3; have b3 := bB.c3; go_wp2
 go_ret
 exact ⟨rfl, B1⟩
end Go.Proofs.YtbcmoofpgffbhabGreat
namespace Go.Proofs.YtbcmoofpgffbhabGreat
open Go.ChangeShapes Go.WideShapes Go.ChangeAt Go.RowKit Go.BigFrame
set_option linter.unusedVariables false
set_option maxRecDepth 100000

/-- block B holds the cells xs, which may be written -/
structure Bl (w : World) (B : Nat) (xs : List Value) : Prop where
 lt : B < w.heap.size
 cs : ∀ i x, xs[i]? = some x → w.cell? ⟨B, i, none⟩ = some x
 fz : ∀ i, i < xs.length → w.frozen? ⟨B, i, none⟩ = false
section
variable {w w' : World} {B C o : Nat} {xs ys : List Value} {u x : Value} {row : Option Nat}
theorem Bl.c (h : Bl w B xs) (i : Nat) (e : xs[i]? = some x) : w.cell? ⟨B, i, none⟩ = some x := h.cs i x e
theorem Bl.f (h : Bl w B xs) (i : Nat) (e : xs[i]? = some x) : w.frozen? ⟨B, i, none⟩ = false := h.fz i (List.getElem?_eq_some_iff.mp e).1
theorem Bl.grown (h : Bl w B xs) (hg : w.grownBy w' row) (hne : some B ≠ row) : Bl w' B xs :=
 ⟨Nat.lt_of_lt_of_le h.lt hg.size, fun i x e => (hg.cell_far _ h.lt hne).trans (h.cs i x e), fun i hi => (hg.frozen_far _ h.lt hne).trans (h.fz i hi)⟩
theorem Bl.keep (h : Bl w B xs) (hb : Below w.heap.size w w') : Bl w' B xs := h.grown (grown_below hb none) (by simp)
theorem Bl.alloc (h : Bl w B xs) (o : Obj) : Bl (w.alloc o) B xs := h.keep ((Below.refl _ _).alloc (Nat.le_refl _) _)
theorem Bl.new (w : World) (xs : List Value) (t : TypeId) (b : Nat) (hb : b = w.heap.size) : Bl (w.alloc (.cells xs.toArray t)) b xs := by
 subst hb; refine ⟨by simp, fun i x e => ?_, fun i hi => World.frozen?_alloc_at _ _ _ _ rfl⟩
 simp [World.cell?_alloc_at, e]
theorem Bl.far (h : Bl w B xs) (hne : B ≠ C) : Bl (w.setCell ⟨C, o, none⟩ u) B xs := h.grown (grown_set w C o u) (by simpa using hne)
theorem Bl.set (h : Bl w B xs) (i : Nat) (u : Value) : Bl (w.setCell ⟨B, i, none⟩ u) B (xs.set i u) := by
 refine ⟨Nat.lt_of_lt_of_le h.lt (grown_set w B i u).size, fun j x e => ?_, fun j hj => ?_⟩
 ·by_cases hij : i = j
  ·subst hij
   have hi : i < xs.length := by
    by_cases hi : i < xs.length
    ·exact hi
    ·rw [List.set_eq_of_length_le (by omega), List.getElem?_eq_none (by omega)] at e
     cases e
   rw [List.getElem?_set_self hi] at e; cases e
   exact set_same (h.cs i _ (List.getElem?_eq_getElem hi))
  ·rw [List.getElem?_set_ne hij] at e
   exact set_other (by simp <;> omega) (h.cs j x e)
 ·rw [World.frozen?_setCell]
  exact h.fz j (by simpa using hj)
end
theorem Bl.o {V w : World} {B : Nat} {xs : List Value} {x : Value} (h : Bl V B xs) (o : Over V w) (i : Nat) (e : xs[i]? = some x) : w.cell? ⟨B, i, none⟩ = some x := over_cell o h.lt (h.c i e)
/-- new blocks: one, two, three of them -/
theorem one (w : World) (xs : List Value) (t1 : TypeId) :
  Bl (w.alloc (.cells xs.toArray t1)) w.heap.size xs ∧ Below w.heap.size w (w.alloc (.cells xs.toArray t1)) ∧ (w.alloc (.cells xs.toArray t1)).heap.size = w.heap.size + 1 :=
 ⟨Bl.new w xs t1 _ rfl, (Below.refl _ _).alloc (Nat.le_refl _) _, by simp⟩
theorem two (w : World) (xs ys : List Value) (t1 t2 : TypeId) :
  Bl ((w.alloc (.cells xs.toArray t1)).alloc (.cells ys.toArray t2)) w.heap.size xs ∧ Bl ((w.alloc (.cells xs.toArray t1)).alloc (.cells ys.toArray t2)) (w.heap.size + 1) ys ∧
  Below w.heap.size w ((w.alloc (.cells xs.toArray t1)).alloc (.cells ys.toArray t2)) ∧ ((w.alloc (.cells xs.toArray t1)).alloc (.cells ys.toArray t2)).heap.size = w.heap.size + 2 := by
 obtain ⟨a, b, c⟩ := one w xs t1; obtain ⟨d, e, f⟩ := one (w.alloc (.cells xs.toArray t1)) ys t2
 exact ⟨a.keep e, by rw [← c]; exact d, below_step b e, by rw [f, c]⟩
theorem three (w : World) (xs ys zs : List Value) (t1 t2 t3 : TypeId) :
  Bl (((w.alloc (.cells xs.toArray t1)).alloc (.cells ys.toArray t2)).alloc (.cells zs.toArray t3)) w.heap.size xs ∧ Bl (((w.alloc (.cells xs.toArray t1)).alloc (.cells ys.toArray t2)).alloc (.cells zs.toArray t3)) (w.heap.size + 1) ys ∧
  Bl (((w.alloc (.cells xs.toArray t1)).alloc (.cells ys.toArray t2)).alloc (.cells zs.toArray t3)) (w.heap.size + 1 + 1) zs ∧
  Below w.heap.size w (((w.alloc (.cells xs.toArray t1)).alloc (.cells ys.toArray t2)).alloc (.cells zs.toArray t3)) ∧ (((w.alloc (.cells xs.toArray t1)).alloc (.cells ys.toArray t2)).alloc (.cells zs.toArray t3)).heap.size = w.heap.size + 3 := by
 obtain ⟨a, b, c, g⟩ := two w xs ys t1 t2; obtain ⟨d, e, f⟩ := one ((w.alloc (.cells xs.toArray t1)).alloc (.cells ys.toArray t2)) zs t3
 exact ⟨a.keep e, b.keep e, by rw [show w.heap.size + 1 + 1 = w.heap.size + 2 by rfl, ← g]; exact d, below_step c e, by rw [f, g]⟩
end Go.Proofs.YtbcmoofpgffbhabGreat
namespace Go.Proofs.YtbcmoofpgffbhabGreat
open Go.ChangeShapes Go.WideShapes Go.ChangeAt Go.RowKit Go.BigFrame Go.Joins
set_option linter.unusedVariables false
set_option maxRecDepth 100000
set_option linter.unusedSimpArgs false

abbrev PT : TypeId := 93
/-- the numbers of a list of prefixes, one behind the other -/
def flat (l : List (Int × Int)) : List Int := l.flatMap fun p => [p.1, p.2]
theorem flat_cons (p : Int × Int) (l : List (Int × Int)) : flat (p :: l) = p.1 :: p.2 :: flat l := rfl
theorem flat_len (l : List (Int × Int)) : (flat l).length = l.length * 2 := by
 induction l with
 | nil => rfl
 | cons p l ih => rw [flat_cons]; simp only [List.length_cons, ih]; omega
theorem flat_get (l : List (Int × Int)) (i : Nat) (h : i < l.length) : (flat l)[i * 2]? = some (l.getD i (0, 0)).1 ∧ (flat l)[i * 2 + 1]? = some (l.getD i (0, 0)).2 := by
 induction l generalizing i with
 | nil => simp at h
 | cons p l ih =>
  cases i with
  | zero => simp [flat_cons]
  | succ i =>
   have := ih i (by simpa using h); rw [flat_cons, show (i + 1) * 2 = i * 2 + 1 + 1 by omega]
   simpa using this
theorem flat_set (l : List (Int × Int)) (i : Nat) (h : i < l.length) (x y : Int) : flat (l.set i (x, y)) = ((flat l).set (i * 2) x).set (i * 2 + 1) y := by
 induction l generalizing i with
 | nil => simp at h
 | cons p l ih =>
  cases i with
  | zero => simp [flat_cons]
  | succ i =>
   have := ih i (by simpa using h); rw [List.set_cons_succ, flat_cons, flat_cons, this, show (i + 1) * 2 = i * 2 + 1 + 1 by omega]
   rfl
/-- the slice value v reads as the prefixes l -/
def RdP (w : World) (v : Value) (l : List (Int × Int)) : Prop :=
 l.length ≤ 9223372036854775807 ∧
 ((∃ a c, v = .slice a 0 c ∧ l = [] ∧ (a = none → c = 0)) ∨
  ∃ b o c, v = .slice (some ⟨b, o, none⟩) l.length c ∧ 0 < l.length ∧ ∀ i, i < l.length → w.cell? ⟨b, o + i * 2, none⟩ = some (.int .i64 (l.getD i (0, 0)).1) ∧ w.cell? ⟨b, o + i * 2 + 1, none⟩ = some (.int .i64 (l.getD i (0, 0)).2))
theorem RdP.keep {w w' : World} {v : Value} {l : List (Int × Int)} (h : RdP w v l) (hb : Below w.heap.size w w') : RdP w' v l := by
 obtain ⟨h2, h3⟩ := h; refine ⟨h2, ?_⟩
 rcases h3 with h3 | ⟨b, o, c, hv, hp, hc⟩
 ·exact .inl h3
 ·exact .inr ⟨b, o, c, hv, hp, fun i hi => ⟨cell_keep hb (World.block_lt_of_cell? w _ (hc i hi).1) (hc i hi).1, cell_keep hb (World.block_lt_of_cell? w _ (hc i hi).2) (hc i hi).2⟩⟩
theorem RdP.len {w : World} {v : Value} {l : List (Int × Int)} (h : RdP w v l) : ∃ a c, v = .slice a l.length c := by
 rcases h.2 with ⟨a, c, rfl, rfl, hac⟩ | ⟨b, o, c, rfl, _⟩
 ·exact ⟨a, c, rfl⟩
 ·exact ⟨_, c, rfl⟩
theorem RdP.el {w : World} {v : Value} {l : List (Int × Int)} (h : RdP w v l) : ∃ a c, v = .slice a l.length c ∧ ∀ i, i < l.length → ∃ b o, a = some ⟨b, o, none⟩ ∧ w.cell? ⟨b, o + i * 2, none⟩ = some (.int .i64 (l.getD i (0, 0)).1) ∧ w.cell? ⟨b, o + i * 2 + 1, none⟩ = some (.int .i64 (l.getD i (0, 0)).2) := by
 rcases h.2 with ⟨a, c, rfl, rfl, -⟩ | ⟨b, o, c, rfl, -, hc⟩
 ·exact ⟨a, c, rfl, fun i hi => absurd hi (by simp)⟩
 ·exact ⟨_, c, rfl, fun i hi => ⟨b, o, rfl, hc i hi⟩⟩
theorem RdP.alloc {w : World} {v : Value} {l : List (Int × Int)} (h : RdP w v l) (o : Obj) : RdP (w.alloc o) v l := h.keep ((Below.refl _ _).alloc (Nat.le_refl _) _)
theorem RdP.nil (w : World) : RdP w (.slice none 0 0) [] := ⟨by simp, .inl ⟨none, 0, rfl, rfl, fun _ => rfl⟩⟩

section
variable {H : Type} {enc : TypeId × Value → H} {W : World} {base : Nat} {d : DataW H} {p : List MemPlace} {v : Value}
theorem rdP_trod {fuel : Nat} {y : DataW H × List MemPlace} (h : DataW.trod enc Tryz.prog W 0 (fun _ => true) true fuel 22 [v] = some y) : ∃ l, RdP W v l := by
 rcases Deep.open_slice_pairs Tryz.underlying22 Tryz.underlying164 (by kernel_rfl) rfl rfl (by kernel_rfl) (by kernel_rfl) h with ⟨hcs, _⟩ | ⟨a, len, cap, m, n, V0, V1, D0, D1, P0, P1, hcs, _, hl, hm, hmm, _, hc⟩
 ·obtain ⟨rfl, -⟩ := List.cons.inj hcs
  exact ⟨[], RdP.nil W⟩
 ·obtain ⟨rfl, -⟩ := List.cons.inj hcs
  have hlm : len ≤ m := by rw [hmm]; split <;> omega
  have hex : ∀ i, i < len → ∃ q : Int × Int, V0 i = .int .i64 q.1 ∧ V1 i = .int .i64 q.2 := by
   intro i hi; obtain ⟨-, -, h0, h1⟩ := hc i (by omega); obtain ⟨x, e0, -, -⟩ := DataW.trod_int Tryz.underlying3 h0; obtain ⟨z, e1, -, -⟩ := DataW.trod_int Tryz.underlying3 h1
   simp at e0 e1
   exact ⟨(x, z), e0, e1⟩
  obtain ⟨f, hf⟩ := Deep.choose_lt hex; obtain ⟨b, off, spot⟩ := a; refine ⟨(List.range len).map f, by simp; unfold maxLen at hm; omega, ?_⟩
  by_cases h0 : len = 0
  ·subst h0
   exact .inl ⟨_, cap, rfl, rfl, fun h => by cases h⟩
  ·have hspot : spot = none := by
    have h1 := (hc 0 (by omega)).1
    simpa [Addr.add] using World.cell?_spot h1
   subst hspot; refine .inr ⟨b, off, cap, by simp, by simp; omega, fun i hi => ?_⟩; have hi : i < len := by simpa using hi
   obtain ⟨h1, h2, -, -⟩ := hc i (by omega); have hadd : ∀ k, (⟨b, off, none⟩ : Addr).add k = ⟨b, off + k, none⟩ := fun k => by unfold Addr.add; split <;> simp_all
   rw [hadd, (hf i hi).1] at h1; rw [hadd, (hf i hi).2] at h2; rw [show ((List.range len).map f).getD i (0, 0) = f i by simp [List.getD, hi]]
   exact ⟨h1, by rw [show off + i * 2 + 1 = off + (i * 2 + 1) by omega]; exact h2⟩
end
theorem szP_any (v : Value) (l : List (Int × Int)) (left : Int) (w : World) (h : RdP w v l) (h0 : 0 ≤ left) (h1 : left ≤ 1048576) :
  Calls Tryz.prog 41 #[v, .int .i64 left] w fun e w' => e = .returned (.int .i64 (szN left l.length)) ∧ w = w' := by
 obtain ⟨a, c, rfl⟩ := h.len; have hm := h.1; clear h; obtain ⟨n, hn⟩ : ∃ n, l.length = n := ⟨_, rfl⟩; rw [hn] at hm ⊢; clear hn
 by_cases hlt : left < n
 ·rw [szN_lt hlt]
  go_enter Tryz.func41, Tryz.ntmps41
  go_wp2
  go_ret
  exact ⟨rfl, rfl⟩
 ·rw [szN_ge hlt]
  go_enter Tryz.func41, Tryz.ntmps41
  go_wp2
  go_ret
  exact ⟨rfl, rfl⟩
/-- a row of the call's own that holds the prefixes l -/
def OwnP (w : World) (base : Nat) (v : Value) (l : List (Int × Int)) : Prop := w.ownsRow base PT 2 v l.length ((flat l).map (Value.int .i64))
theorem OwnP.rd {w : World} {base : Nat} {v : Value} {l : List (Int × Int)} (h : OwnP w base v l) : RdP w v l := by
 have h0 := h; unfold OwnP at h0
 rcases h.2 with ⟨rfl, hn⟩ | ⟨g, cap, cur, rfl, hb, hg, hnc, hcm, hcs, htake⟩
 ·obtain rfl := List.eq_nil_of_length_eq_zero hn
  exact RdP.nil w
 ·refine ⟨by unfold maxLen at hcm; omega, ?_⟩
  by_cases hz : l.length = 0
  ·exact .inl ⟨some ⟨g, 0, none⟩, cap, by rw [hz], List.eq_nil_of_length_eq_zero hz, fun h => by cases h⟩
  ·refine .inr ⟨g, 0, cap, rfl, by omega, fun i hi => ?_⟩
   have e := flat_get l i hi; rw [Nat.zero_add, h0.cellAt (i * 2) (by omega), h0.cellAt (i * 2 + 1) (by omega), List.getElem?_map, List.getElem?_map, e.1, e.2]
   exact ⟨rfl, rfl⟩
theorem OwnP.keep {w w' : World} {base : Nat} {v : Value} {l : List (Int × Int)} (h : OwnP w base v l) (hb : Below w.heap.size w w') : OwnP w' base v l :=
 World.ownsRow.kept (row := none) h ⟨hb.os, hb.tape, hb.output, hb.size, fun k hk _ => hb.block k hk⟩ (by cases v.ownBlock <;> simp)
theorem OwnP.mono {w : World} {base base' : Nat} {v : Value} {l : List (Int × Int)} (h : OwnP w base v l) (hb : base' ≤ base) : OwnP w base' v l := by
 refine ⟨h.1, ?_⟩
 rcases h.2 with hn | ⟨g, cap, cur, hv, hg, rest⟩
 ·exact .inl hn
 ·exact .inr ⟨g, cap, cur, hv, by omega, rest⟩
theorem OwnP.alloc {w : World} {base : Nat} {v : Value} {l : List (Int × Int)} (h : OwnP w base v l) (o : Obj) : OwnP (w.alloc o) base v l := h.keep ((Below.refl _ _).alloc (Nat.le_refl _) _)
theorem OwnP.kept {w w' : World} {base : Nat} {v : Value} {l : List (Int × Int)} {row : Option Nat} (h : OwnP w base v l) (hg : w.grownBy w' row) (hne : v.ownBlock = none ∨ v.ownBlock ≠ row) : OwnP w' base v l := World.ownsRow.kept h hg hne
theorem OwnP.far {w : World} {base : Nat} {v u : Value} {l : List (Int × Int)} {B o : Nat} (h : OwnP w base v l) (hB : B < base) : OwnP (w.setCell ⟨B, o, none⟩ u) base v l :=
 h.kept (grown_set w B o u) (by
  cases hv : v.ownBlock with
  | none => exact .inl rfl
  | some k => exact .inr (by have := (World.ownsRow.lt h k hv).1; intro e; cases e; omega))
theorem infoP : (Tryz.prog.info? PT).map (fun i => (i.zero, i.size, i.bytes)) = some (some (.agg #[.int .i64 0, .int .i64 0]), 2, 16) := by kernel_rfl
theorem made_zero (n : Nat) : (madeCells #[Value.int .i64 0, Value.int .i64 0] (n * 2)).toList = (flat (List.replicate n (0, 0))).map (Value.int .i64) := by
 apply List.ext_getElem?
 intro j
 have hz : ∀ m : Nat, flat (List.replicate m (0, 0)) = List.replicate (m * 2) 0 := by
  intro m
  induction m with
  | zero => rfl
  | succ m ih => rw [List.replicate_succ, flat_cons, ih, show (m + 1) * 2 = m * 2 + 1 + 1 by omega, List.replicate_succ, List.replicate_succ]
 rw [hz]
 by_cases hj : j < n * 2
 ·have h2 : j % 2 = 0 ∨ j % 2 = 1 := by omega
  rcases h2 with h2 | h2 <;> simp [madeCells, hj, h2]
 ·simp [madeCells, hj]
theorem make_P (t : TypeId) (ht : Tryz.prog.underlying t = some (.slice PT)) (n : Nat) (hn : n ≤ 1048576) (w : World) :
  (Instr.makeSlice t (.int .i64 (n : Int)) (.int .i64 (n : Int))).run Tryz.prog w = .ok (.slice (some ⟨w.heap.size, 0, none⟩) n n) (w.alloc (.cells (madeCells #[Value.int .i64 0, Value.int .i64 0] (n * 2)) PT)) := by
 obtain ⟨i, hi, hzz⟩ := Option.map_eq_some_iff.1 infoP; simp only [Prod.mk.injEq] at hzz; obtain ⟨hz, hs, hb⟩ := hzz; have hr := run_make (P := Tryz.prog) w t PT i _ ht hi hz .i64 .i64 n n (by omega) (Int.le_refl _) (by rw [hb]; omega) (by omega)
 simpa only [Int.toNat_natCast, hs, Value.cells] using hr
theorem set_copied_of {α : Type} (d : α) (l : List α) (j n : Nat) (hn : n = l.length) (h : j < n) : (l.take j ++ List.replicate (n - j) d).set j (l.getD j d) = l.take (j + 1) ++ List.replicate (n - (j + 1)) d := by
 subst hn; have ht : (l.take j).length = j := by simp; omega
 rw [List.set_append_right _ _ (by rw [ht]; exact Nat.le_refl _), ht, Nat.sub_self, show l.length - j = (l.length - (j + 1)) + 1 by omega, List.replicate_succ, List.set_cons_zero, List.take_succ_eq_append_getElem h, List.append_assoc]; have e : l.getD j d = l[j] := by simp [List.getD, h]
 rw [e]
 rfl
theorem map_set_flat (xs : List (Int × Int)) (j : Nat) (h : j < xs.length) (x y : Int) : (((flat xs).map (Value.int .i64)).set (j * 2) (.int .i64 x)).set (j * 2 + 1) (.int .i64 y) = (flat (xs.set j (x, y))).map (Value.int .i64) := by
 rw [flat_set xs j h, List.map_set, List.map_set]

/-- a copy in a block of its own -/
theorem toP_any (v : Value) (l : List (Int × Int)) (w : World) (h : RdP w v l) (hn : l.length ≤ 1048576) :
  Calls Tryz.prog 47 #[v] w fun e w' => ∃ a c, e = .returned (.slice a l.length c) ∧ OwnP w' w.heap.size (.slice a l.length c) l ∧ Below w.heap.size w w' := by
 have hmk := fun W => make_P 31 Tryz.underlying31 l.length hn W
 have hlit := fun (W : World) (n : Nat) (hb : w.heap.size ≤ W.heap.size) (hm : n ≤ 1048576) => World.ownsRow_lit (base := w.heap.size) (e := PT) (size := 2) W (madeCells #[Value.int .i64 0, Value.int .i64 0] (n * 2)) n hb (by unfold maxLen; omega) (size_madeCells _ _)
 obtain ⟨m1, ⟨a, c, rfl, rfl, hac⟩ | ⟨b, o, c, rfl, hp, hc⟩⟩ := h
 ·have hmk0 : ∀ W : World, (Instr.makeSlice 31 (.int .i64 0) (.int .i64 0)).run Tryz.prog W = .ok (.slice (some ⟨W.heap.size, 0, none⟩) 0 0) (W.alloc (.cells (madeCells #[Value.int .i64 0, Value.int .i64 0] (0 * 2)) PT)) := fun W => by simpa using hmk W
  clear hmk; have hl0 := hlit w 0 (Nat.le_refl _) (by omega); clear hlit
  go_enter Tryz.func47, Tryz.ntmps47
  go_wp2; refine wp_loop_rounds 1 ?_; rw [rounds_succ]; go_wp2
  go_ret
  exact ⟨_, _, rfl, by unfold OwnP; simpa [madeCells, flat] using hl0, (Below.refl _ _).alloc (Nat.le_refl _) _⟩
 ·obtain ⟨n, hn'⟩ : ∃ n, n = l.length := ⟨_, rfl⟩
  rw [← hn'] at hp hc hn hmk ⊢; have HN := Lib.hid hn'; have HL := Lib.hid (hlit w n (Nat.le_refl _) hn); clear m1 hn' hlit
  go_enter Tryz.func47, Tryz.ntmps47
  go_wp2
  go_loopw [4] (fun i wr => ∃ k : Nat, k ≤ n ∧ i = .int .i64 k ∧ wr.ownsRow w.heap.size PT 2 (.slice (some ⟨w.heap.size, 0, none⟩) n n) n ((flat (l.take k ++ List.replicate (n - k) (0, 0))).map (Value.int .i64)) ∧ Below w.heap.size w wr) (fun i _ => n - (intOf i).toNat)
  case atStart => exact ⟨0, Nat.zero_le _, rfl, by
   have h := HL.out; rw [made_zero] at h
   simpa using h, (Below.refl _ _).alloc (Nat.le_refl _) _⟩
  case round =>
   obtain ⟨k, hk, rfl, hown, hB⟩ := hrel
   by_cases hlt : k < n
   ·have hltI : (k : Int) < (n : Int) := by omega
    have hck := hc k hlt; obtain ⟨⟨x, y⟩, hx⟩ : ∃ q, l.getD k (0, 0) = q := ⟨_, rfl⟩; rw [hx] at hck; have HX := Lib.hid hx; have e0 := cell_keep hB (World.block_lt_of_cell? w _ hck.1) hck.1; have e1 := cell_keep hB (World.block_lt_of_cell? w _ hck.2) hck.2; have HC := Lib.hid (And.intro (World.block_lt_of_cell? w _ hck.1) (World.block_lt_of_cell? w _ hck.2)); clear hck hc hx; go_wp2_with fail; refine (to_any x y _).mono ?_; rintro e w2 ⟨rfl, hb⟩
    have hown2 : w2.ownsRow w.heap.size PT 2 (.slice (some ⟨w.heap.size, 0, none⟩) n n) n ((flat (l.take k ++ List.replicate (n - k) (0, 0))).map (Value.int .i64)) :=
     World.ownsRow.kept (row := none) hown ⟨hb.os, hb.tape, hb.output, hb.size, fun k hk _ => hb.block k hk⟩ (.inr (by simp [Value.ownBlock]))
    have hB2 := below_step hB hb; clear hown hB hb e0 e1; have hlen : (l.take k ++ List.replicate (n - k) (0, 0)).length = n := by simp; have := HN.out; omega
    have hfl : ((flat (l.take k ++ List.replicate (n - k) (0, 0))).map (Value.int .i64)).length = n * 2 := by rw [List.length_map, flat_len, hlen]
    have f0 := hown2.frozenAt (k * 2); have f1 := hown2.frozenAt (k * 2 + 1); obtain ⟨p0, e0⟩ : ∃ p0, w2.cell? ⟨w.heap.size, k * 2, none⟩ = some p0 := ⟨_, (hown2.cellAt (k * 2) (by omega)).trans (List.getElem?_eq_getElem (by rw [hfl]; omega))⟩; obtain ⟨p1, e1⟩ : ∃ p1, w2.cell? ⟨w.heap.size, k * 2 + 1, none⟩ = some p1 := ⟨_, (hown2.cellAt (k * 2 + 1) (by omega)).trans (List.getElem?_eq_getElem (by rw [hfl]; omega))⟩; have hst := (hown2.stored (k * 2) (.int .i64 x)).1.stored (k * 2 + 1) (.int .i64 y); rw [map_set_flat _ k (by rw [hlen]; exact hlt), ← HX.out, set_copied_of (0, 0) l k n HN.out hlt] at hst; have hst1 := Lib.hid hst.1; have hB3 : Below w.heap.size w ((w2.setCell ⟨w.heap.size, k * 2, none⟩ (.int .i64 x)).setCell ⟨w.heap.size, k * 2 + 1, none⟩ (.int .i64 y)) := (hB2.setCell (Nat.le_refl _) _).setCell (Nat.le_refl _) _; clear hst hown2 hlen hfl hB2; go_wp2
    go_roundw
    case rel => exact ⟨k + 1, by omega, by go_num, hst1.out, hB3⟩
    case measure => simp [intOf]; omega
   ·have hkn : k = n := by omega
    subst hkn; clear hc
    have ho : OwnP wr w.heap.size (.slice (some ⟨w.heap.size, 0, none⟩) k k) l := by
     unfold OwnP; rw [← HN.out]
     simpa [List.take_of_length_le (show l.length ≤ k by rw [HN.out]; exact Nat.le_refl _)] using hown
    clear hown; go_wp2
    go_ret
    exact ⟨_, _, rfl, ho, hB⟩
/-- the two slices are compared: equal prefixes -/
theorem eqPx_any (a n b m : Int) (w : World) :
  Calls Tryz.prog 133 #[.agg #[.int .i64 a, .int .i64 n], .agg #[.int .i64 b, .int .i64 m]] w fun e w' => e = .returned (.bool (decide (a = b ∧ n = m))) ∧ Below w.heap.size w w' := by
 obtain ⟨bA, bB, B1, z⟩ := two w [.int .i64 a, .int .i64 n] [.int .i64 b, .int .i64 m] PT PT; clear z
 by_cases h0 : a = b
 ·subst h0
  have ha : (a != a) = false := by simp
  by_cases h1 : n = m
  ·subst h1
   have hn : (n != n) = false := by simp
   rw [show decide (a = a ∧ n = n) = true by simp]
   go_enter Tryz.func133, Tryz.ntmps133
   go_wp2
   go_ret
   exact ⟨rfl, B1⟩
  ·have hn : (n != m) = true := by simp [h1]
   rw [show decide (a = a ∧ n = m) = false by simp [h1]]; clear h1
   go_enter Tryz.func133, Tryz.ntmps133
   go_wp2
   go_ret
   exact ⟨rfl, B1⟩
 ·have ha : (a != b) = true := by simp [h0]
  rw [show decide (a = b ∧ n = m) = false by simp [h0]]; clear h0
  go_enter Tryz.func133, Tryz.ntmps133
  go_wp2
  go_ret
  exact ⟨rfl, B1⟩
theorem takeP_succ {l m : List (Int × Int)} {k : Nat} (h : l.take k = m.take k) (h1 : k < l.length) (h2 : k < m.length) (he : l.getD k (0, 0) = m.getD k (0, 0)) : l.take (k + 1) = m.take (k + 1) := by
 rw [List.take_succ_eq_append_getElem h1, List.take_succ_eq_append_getElem h2, h]; have a : l.getD k (0, 0) = l[k] := by simp [List.getD, h1]
 have b : m.getD k (0, 0) = m[k] := by simp [List.getD, h2]
 rw [← a, ← b, he]
theorem eqPS_any (v u : Value) (l m : List (Int × Int)) (w : World) (h1 : RdP w v l) (h2 : RdP w u m) :
  Calls Tryz.prog 55 #[v, u] w fun e w' => e = .returned (.bool (decide (l = m))) ∧ Below w.heap.size w w' := by
 by_cases hlen : l.length = m.length
 ·have hm1 := h1.1
  obtain ⟨a, c, rfl, hc⟩ := h1.el; obtain ⟨a', c', rfl, hc'⟩ := h2.el; obtain ⟨n, hn⟩ : ∃ n, n = l.length := ⟨_, rfl⟩; have hn' : n = m.length := hn.trans hlen; rw [← hn'] at hc' ⊢; rw [← hn] at hc hm1 ⊢; have HN := Lib.hid hn; have HN' := Lib.hid hn'; clear hn hn' hlen h1 h2
  go_enter Tryz.func55, Tryz.ntmps55
  go_wp2
  go_loopw [5] (fun i wr => ∃ k : Nat, k ≤ n ∧ i = .int .i64 k ∧ l.take k = m.take k ∧ Below w.heap.size w wr) (fun i _ => n - (intOf i).toNat)
  case atStart => exact ⟨0, Nat.zero_le _, rfl, rfl, Below.refl _ _⟩
  case round =>
   obtain ⟨k, hk, rfl, ht, hB⟩ := hrel; have HT := Lib.hid ht; clear ht
   by_cases hlt : k < n
   ·have hltI : (k : Int) < (n : Int) := by omega
    obtain ⟨b, o, rfl, d0, d1⟩ := hc k hlt; obtain ⟨b', o', rfl, d0', d1'⟩ := hc' k hlt; have e0 := cell_keep hB (World.block_lt_of_cell? w _ d0) d0; have e1 := cell_keep hB (World.block_lt_of_cell? w _ d1) d1; have e2 := cell_keep hB (World.block_lt_of_cell? w _ d0') d0'; have e3 := cell_keep hB (World.block_lt_of_cell? w _ d1') d1'; obtain ⟨⟨x, y⟩, hx⟩ : ∃ q, l.getD k (0, 0) = q := ⟨_, rfl⟩; obtain ⟨⟨x', y'⟩, hx'⟩ : ∃ q, m.getD k (0, 0) = q := ⟨_, rfl⟩; rw [hx] at e0 e1; rw [hx'] at e2 e3; have HX := Lib.hid hx; have HY := Lib.hid hx'; clear hx hx' hc hc' d0 d1 d0' d1'
    by_cases hxy : x = x' ∧ y = y'
    ·have hd : decide (x = x' ∧ y = y') = true := by simp [hxy]
     have HD := Lib.hid hd; have HE := Lib.hid hxy; clear hxy hd; go_wp2
     go_region_held3 (fun w' => Over wr w' ∧ w'.cell? ⟨b, o + k * 2, none⟩ = some (.int .i64 x) ∧ w'.cell? ⟨b, o + k * 2 + 1, none⟩ = some (.int .i64 y) ∧ w'.cell? ⟨b', o' + k * 2, none⟩ = some (.int .i64 x') ∧ w'.cell? ⟨b', o' + k * 2 + 1, none⟩ = some (.int .i64 y'))
      ((first | exact ⟨over_drew _, e0, e1, e2, e3⟩ | exact (fun o => ⟨o, over_cell o (World.block_lt_of_cell? wr _ e0) e0, over_cell o (World.block_lt_of_cell? wr _ e1) e1, over_cell o (World.block_lt_of_cell? wr _ e2) e2, over_cell o (World.block_lt_of_cell? wr _ e3) e3⟩) (over_step (‹Over wr _ ∧ _›).1 (by assumption))))
      ((first | (go_at_call 133; refine (eqPx_any x y x' y' _).mono ?_; rintro e w6 ⟨rfl, hbb⟩; rw [HD.out])))
     rename_i hH
     replace hB := below_step hB hH.1; clear hH hbb e0 e1 e2 e3; go_wp2
     go_roundw
     case rel => exact ⟨k + 1, by omega, by go_num, takeP_succ HT.out (by rw [← HN.out]; exact hlt) (by rw [← HN'.out]; exact hlt) (by rw [HX.out, HY.out, HE.out.1, HE.out.2]), hB⟩
     case measure => simp [intOf]; omega
    ·have hd : decide (x = x' ∧ y = y') = false := by simp [hxy]
     have HD := Lib.hid hd
     have hlm : decide (l = m) = false := by
      simp only [decide_eq_false_iff_not]; rintro rfl; have := HX.out.symm.trans HY.out; cases this
      exact hxy ⟨rfl, rfl⟩
     have HL := Lib.hid hlm; clear hxy hd hlm; go_wp2
     go_region_held3 (fun w' => Over wr w' ∧ w'.cell? ⟨b, o + k * 2, none⟩ = some (.int .i64 x) ∧ w'.cell? ⟨b, o + k * 2 + 1, none⟩ = some (.int .i64 y) ∧ w'.cell? ⟨b', o' + k * 2, none⟩ = some (.int .i64 x') ∧ w'.cell? ⟨b', o' + k * 2 + 1, none⟩ = some (.int .i64 y'))
      ((first | exact ⟨over_drew _, e0, e1, e2, e3⟩ | exact (fun o => ⟨o, over_cell o (World.block_lt_of_cell? wr _ e0) e0, over_cell o (World.block_lt_of_cell? wr _ e1) e1, over_cell o (World.block_lt_of_cell? wr _ e2) e2, over_cell o (World.block_lt_of_cell? wr _ e3) e3⟩) (over_step (‹Over wr _ ∧ _›).1 (by assumption))))
      ((first | (go_at_call 133; refine (eqPx_any x y x' y' _).mono ?_; rintro e w6 ⟨rfl, hbb⟩; rw [HD.out])))
     rename_i hH
     replace hB := below_step hB hH.1; clear hH hbb e0 e1 e2 e3; go_wp2
     go_ret
     exact ⟨ret_bool HL.out.symm, hB⟩
   ·have hkn : k = n := by omega
    have hlm : decide (l = m) = true := by
     have h := HT.out; rw [hkn, List.take_of_length_le (by rw [HN.out]; exact Nat.le_refl _), List.take_of_length_le (by rw [HN'.out]; exact Nat.le_refl _)] at h
     simp [h]
    have HL := Lib.hid hlm; clear hlm hkn hc hc'; go_wp2
    go_ret
    exact ⟨ret_bool HL.out.symm, hB⟩
 ·have hd : decide (l = m) = false := by
   simp only [decide_eq_false_iff_not]; rintro rfl
   exact hlen rfl
  rw [hd]; clear hd; obtain ⟨a, c, rfl⟩ := h1.len; obtain ⟨a', c', rfl⟩ := h2.len; have hne : ((l.length : Int) != (m.length : Int)) = true := by simp; omega
  clear h1 h2
  go_enter Tryz.func55, Tryz.ntmps55
  go_wp2
  go_ret
  exact ⟨rfl, Below.refl _ _⟩
theorem eqPS_same (v u : Value) (l : List (Int × Int)) (w : World) (h1 : RdP w v l) (h2 : RdP w u l) :
  Calls Tryz.prog 55 #[v, u] w fun e w' => e = .returned (.bool true) ∧ Below w.heap.size w w' :=
 (eqPS_any v u l l w h1 h2).mono fun _ _ ⟨he, hb⟩ => ⟨by rw [he]; simp, hb⟩
end Go.Proofs.YtbcmoofpgffbhabGreat
