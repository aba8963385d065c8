/-
  Contracts of the functions of prefixes (validity, the bits of an address) of the program and of the model. Conditions: those in each contract.
-/
import Derived.Test.YtbcmoofpgffbhaaRows
import Derived.Test.YtbcmoofpgffbhaaM1
import Derived.WalkKit
import Derived.ProofKit
import Derived.OpenShut
import Derived.WalkSpells
import Derived.WalkLawsBesides
import Derived.Lib.Hide
import Derived.Outline
import Derived.Deep.RegionHeld3
import Derived.BigQuiet
import Derived.Deep.QuietTactic
namespace Go.Proofs.Ytbcmoofpgffbhaa
open Go.ChangeShapes Go.WideShapes Go.ChangeAt Go.RowKit
set_option linter.unusedVariables false
set_option maxRecDepth 100000

theorem iaddr_any (a : Int) (w : World) : Calls Try.prog 179 #[.int .i64 a] w fun e w' => e = .returned (.bool (addrB a)) ∧ w = w' := by
  by_cases h0 : 0 ≤ a
  all_goals
    go_enter Try.func179, Try.ntmps179
    go_wp2
    go_ret
    exact ⟨ret_bool (by unfold addrB; first | (congr 1; simp; omega) | (simp; omega)), rfl⟩

theorem saddr_any (a : Int) (w : World) : Calls Try.prog 177 #[.int .i64 a] w fun e w' => e = .returned (.bool (addrB a)) ∧ w = w' := by
  by_cases h0 : 0 ≤ a
  all_goals
    go_enter Try.func177, Try.ntmps177
    go_wp2
    go_ret
    exact ⟨ret_bool (by unfold addrB; first | (congr 1; simp; omega) | (simp; omega)), rfl⟩

theorem head_any (a n : Int) (w : World) (ha : 0 ≤ a) (ha' : a ≤ 65535) (h0 : 0 ≤ n) (h1 : n ≤ 16) : Calls Try.prog 180 #[.int .i64 a, .int .i64 n] w fun e w' => e = .returned (.int .i64 (hd a n)) ∧ w = w' := by
  have e := andNot_low a n ha ha' h0 h1
  rw [← e]
  clear e
  go_enter Try.func180, Try.ntmps180
  go_wp2
  go_ret
  exact ⟨rfl, rfl⟩

theorem mask_any (n : Int) (w : World) (h0 : 0 ≤ n) (h1 : n ≤ 16) : Calls Try.prog 178 #[.int .i64 n] w fun e w' => e = .returned (.int .i64 (mask n)) ∧ w = w' := by
  have e := mask_eq n h0 h1
  go_enter Try.func178, Try.ntmps178
  go_wp2
  go_ret
  exact ⟨rfl, rfl⟩

theorem to_any (a n : Int) (w : World) : Calls Try.prog 20 #[.agg #[.int .i64 a, .int .i64 n]] w fun e w' => e = .returned (.agg #[.int .i64 a, .int .i64 n]) ∧ Below w.heap.size w w' := by
  go_enter Try.func20, Try.ntmps20
  go_wp2
  exact bodyPost_ret (v := .agg #[.int .i64 a, .int .i64 n]) (by simp [results, Try.results20, go_sem]) rfl ⟨rfl, ((((Below.refl _ _).alloc (Nat.le_refl _) _).alloc (by simp) _).alloc (by simp; omega) _)⟩

theorem q_of {P : Program} {f : FuncId} {args : Array Value} {w : World} {n : Nat} {v : Value}
    (h : Calls P f args (w.drewN n) fun e w' => e = .returned v ∧ w.drewN n = w') : Calls P f args (w.drewN n) fun e w'' => e = .returned v ∧ ∃ m, w'' = w.drewN m :=
  h.mono fun _ _ ⟨he, hm⟩ => ⟨he, n, hm.symm⟩
theorem iaddr_t {a : Int} {b : Bool} (w : World) (h : Hid (addrB a = b)) : Calls Try.prog 179 #[.int .i64 a] w fun e w' => e = .returned (.bool b) ∧ w = w' :=
  h.out ▸ iaddr_any a w
theorem saddr_t {a : Int} {b : Bool} (w : World) (h : Hid (addrB a = b)) : Calls Try.prog 177 #[.int .i64 a] w fun e w' => e = .returned (.bool b) ∧ w = w' :=
  h.out ▸ saddr_any a w

theorem below_drewN {B : Nat} {a w : World} (h : Below B a w) (n : Nat) : Below B a (w.drewN n) := ⟨h.os, h.tape, h.output, h.size, h.block⟩

theorem cell_keep {B b o : Nat} {w w1 : World} {v : Value} (hb : Below B w w1) (hl : b < B) (h : w.cell? ⟨b, o, none⟩ = some v) : w1.cell? ⟨b, o, none⟩ = some v :=
  (hb.cell (p := ⟨b, o, none⟩) hl).trans h
/-- one step more behind a call -/
theorem below_step {W w w1 : World} (h : Below W.heap.size W w) (hb : Below w.heap.size w w1) : Below W.heap.size W w1 := h.trans (hb.mono h.size)

/-- PrefixOk of the program: valid, or not -/
theorem ipok_any (a n : Int) (w : World) : Calls Try.prog 136 #[.agg #[.int .i64 a, .int .i64 n]] w fun e w' => e = .returned (.bool (pokB a n)) ∧ Below w.heap.size w w' := by
  by_cases h0 : 0 ≤ a ∧ a ≤ 65535
  · obtain ⟨h0, h1⟩ := h0
    have H1 := Lib.hid (addrB_t h0 h1)
    by_cases h2 : 0 ≤ n
    · by_cases h3 : n ≤ 16
      · by_cases h4 : hd a n = a
        · rw [pokB_t h0 h1 h2 h3 h4]
          have h5 : (hd a n == a) = true := by simp [h4]
          clear h4
          go_enter Try.func136, Try.ntmps136
          go_wp2_with fail
          go_quiet ((first | (go_at_call 179; exact q_of (iaddr_t _ H1)) | (go_at_call 180; exact q_of (head_any a n _ h0 h1 h2 h3))))
          go_wp2
          go_ret
          exact ⟨rfl, below_drewN ((Below.refl _ _).alloc (Nat.le_refl _) _) _⟩
        · rw [pokB_f (fun h => h4 h.2.2.2.2)]
          have h5 : (hd a n == a) = false := by simp [h4]
          clear h4
          go_enter Try.func136, Try.ntmps136
          go_wp2_with fail
          go_quiet ((first | (go_at_call 179; exact q_of (iaddr_t _ H1)) | (go_at_call 180; exact q_of (head_any a n _ h0 h1 h2 h3))))
          go_wp2
          go_ret
          exact ⟨rfl, below_drewN ((Below.refl _ _).alloc (Nat.le_refl _) _) _⟩
      · rw [pokB_f (fun h => h3 h.2.2.2.1)]
        have h5 : decide (n ≤ 16) = false := by simp [h3]
        go_enter Try.func136, Try.ntmps136
        go_wp2_with fail
        go_quiet ((first | (go_at_call 179; exact q_of (iaddr_t _ H1)) | (go_at_call 180; fail)))
        go_wp2
        go_ret
        exact ⟨rfl, below_drewN ((Below.refl _ _).alloc (Nat.le_refl _) _) _⟩
    · rw [pokB_f (fun h => h2 h.2.2.1)]
      have h5 : decide (0 ≤ n) = false := by simp [h2]
      go_enter Try.func136, Try.ntmps136
      go_wp2_with fail
      go_quiet ((first | (go_at_call 179; exact q_of (iaddr_t _ H1)) | (go_at_call 180; fail)))
      go_wp2
      go_ret
      exact ⟨rfl, below_drewN ((Below.refl _ _).alloc (Nat.le_refl _) _) _⟩
  · rw [pokB_f (fun h => h0 ⟨h.1, h.2.1⟩)]
    have H1 := Lib.hid (addrB_f h0)
    clear h0
    go_enter Try.func136, Try.ntmps136
    go_wp2_with fail
    go_quiet ((first | (go_at_call 179; exact q_of (iaddr_t _ H1)) | (go_at_call 180; fail)))
    go_wp2
    go_ret
    exact ⟨rfl, below_drewN ((Below.refl _ _).alloc (Nat.le_refl _) _) _⟩

/-- PrefixOk of the model: valid, or not -/
theorem spok_any (a n : Int) (w : World) : Calls Try.prog 134 #[.agg #[.int .i64 a, .int .i64 n]] w fun e w' => e = .returned (.bool (pokB a n)) ∧ Below w.heap.size w w' := by
  by_cases h0 : 0 ≤ a ∧ a ≤ 65535
  · obtain ⟨h0, h1⟩ := h0
    have H1 := Lib.hid (addrB_t h0 h1)
    by_cases h2 : 0 ≤ n
    · by_cases h3 : n ≤ 16
      · by_cases h4 : hd a n = a
        · rw [pokB_t h0 h1 h2 h3 h4]
          have hm := and_mask a n h0 h1 h2 h3
          have h5 : (hd a n == a) = true := by simp [h4]
          clear h4
          go_enter Try.func134, Try.ntmps134
          go_wp2_with fail
          go_quiet ((first | (go_at_call 177; exact q_of (saddr_t _ H1)) | (go_at_call 178; exact q_of (mask_any n _ h2 h3))))
          go_wp2
          go_ret
          exact ⟨rfl, below_drewN ((Below.refl _ _).alloc (Nat.le_refl _) _) _⟩
        · rw [pokB_f (fun h => h4 h.2.2.2.2)]
          have hm := and_mask a n h0 h1 h2 h3
          have h5 : (hd a n == a) = false := by simp [h4]
          clear h4
          go_enter Try.func134, Try.ntmps134
          go_wp2_with fail
          go_quiet ((first | (go_at_call 177; exact q_of (saddr_t _ H1)) | (go_at_call 178; exact q_of (mask_any n _ h2 h3))))
          go_wp2
          go_ret
          exact ⟨rfl, below_drewN ((Below.refl _ _).alloc (Nat.le_refl _) _) _⟩
      · rw [pokB_f (fun h => h3 h.2.2.2.1)]
        have h5 : decide (n ≤ 16) = false := by simp [h3]
        go_enter Try.func134, Try.ntmps134
        go_wp2_with fail
        go_quiet ((first | (go_at_call 177; exact q_of (saddr_t _ H1)) | (go_at_call 178; fail)))
        go_wp2
        go_ret
        exact ⟨rfl, below_drewN ((Below.refl _ _).alloc (Nat.le_refl _) _) _⟩
    · rw [pokB_f (fun h => h2 h.2.2.1)]
      have h5 : decide (0 ≤ n) = false := by simp [h2]
      go_enter Try.func134, Try.ntmps134
      go_wp2_with fail
      go_quiet ((first | (go_at_call 177; exact q_of (saddr_t _ H1)) | (go_at_call 178; fail)))
      go_wp2
      go_ret
      exact ⟨rfl, below_drewN ((Below.refl _ _).alloc (Nat.le_refl _) _) _⟩
  · rw [pokB_f (fun h => h0 ⟨h.1, h.2.1⟩)]
    have H1 := Lib.hid (addrB_f h0)
    clear h0
    go_enter Try.func134, Try.ntmps134
    go_wp2_with fail
    go_quiet ((first | (go_at_call 177; exact q_of (saddr_t _ H1)) | (go_at_call 178; fail)))
    go_wp2
    go_ret
    exact ⟨rfl, below_drewN ((Below.refl _ _).alloc (Nat.le_refl _) _) _⟩

end Go.Proofs.Ytbcmoofpgffbhaa
