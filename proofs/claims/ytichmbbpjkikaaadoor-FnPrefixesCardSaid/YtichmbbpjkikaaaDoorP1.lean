/-
  A map keyed by prefixes, filled by the program with the prefixes that cover a given one: what it answers. Conditions: those in each contract.
-/
import Derived.Test.YtichmbbpjkikaaaDoorB3
import Derived.Maps.OwnSet
import Derived.DeepKeys4
namespace Go.Proofs.YtichmbbpjkikaaaDoor
open Go.ChangeShapes Go.WideShapes Go.ChangeAt Go.RowKit Go.BigFrame Go.Maps
set_option linter.unusedVariables false
set_option maxRecDepth 100000

theorem lawP : Keyed Tryd.prog 24 := Keyed.of_law (deep_law_laid laidOut (m := 2) (by omega) (by decide +kernel) (by kernel_rfl) (by kernel_rfl))
theorem keyP (a n : Int) (ha : (Lit.int .i64 a).wf = true) (hn : (Lit.int .i64 n).wf = true) : ∃ kl, keyOf Tryd.prog 24 (.agg #[.int .i64 a, .int .i64 n]) = some kl := by
  have h1 : Tryd.prog.keyType 24 = true := by kernel_rfl
  have hc : Tryd.prog.cellsOf 24 = 2 := by kernel_rfl
  have hi : Tryd.prog.cellsOf 3 = 1 := by kernel_rfl
  have hs : (2 ≤ Tryd.prog.types.size : Prop) := of_decide_eq_true (by kernel_rfl)
  have h2 : Value.formed Tryd.prog 24 (.agg #[.int .i64 a, .int .i64 n]) = true := by
    unfold Value.formed
    rw [Tryd.underlying24, hc]
    rfl
  obtain ⟨d, hd⟩ : ∃ d, Tryd.prog.types.size + 1 = d + 2 := ⟨Tryd.prog.types.size - 1, by omega⟩
  have k2 : ∀ x : Int, (Lit.int .i64 x).wf = true → Tryd.prog.keyLits (d + 1) 3 [.int .i64 x] = some [.int .i64 x] := by
    intro x hx
    unfold Program.keyLits
    rw [Tryd.underlying3]
    simp [hx]
  have k1 : Tryd.prog.keyLits (d + 2) 24 [.int .i64 a, .int .i64 n] = some [.int .i64 a, .int .i64 n] := by
    unfold Program.keyLits
    rw [Tryd.underlying24]
    simp [hc, hi, k2 a ha, k2 n hn]
  unfold keyOf
  rw [Tryd.underlying24, hd]
  simp only [h1, h2, Bool.and_self, if_true]
  exact ⟨_, by rw [show (Value.agg #[Value.int .i64 a, Value.int .i64 n]).cells.toList = [.int .i64 a, .int .i64 n] from rfl, k1]; rfl⟩
/-- what a prefix reads as, as a key -/
noncomputable def kl (a n : Int) : Lit := (keyOf Tryd.prog 24 (.agg #[.int .i64 a, .int .i64 n])).getD .nil
def fits (x : Int) : Prop := -9223372036854775808 ≤ x ∧ x ≤ 9223372036854775807
theorem kl_is {a n : Int} (ha : fits a) (hn : fits n) : keyOf Tryd.prog 24 (.agg #[.int .i64 a, .int .i64 n]) = some (kl a n) := by
  obtain ⟨k, hk⟩ := keyP a n (WalkArith.wf_i64 ha) (WalkArith.wf_i64 hn)
  unfold kl
  rw [hk]
  rfl
theorem kl_inj {a n b m : Int} (ha : fits a) (hn : fits n) (hb : fits b) (hm : fits m) (h : kl a n = kl b m) : a = b ∧ n = m := by
  have h1 := kl_is ha hn
  have h2 := kl_is hb hm
  rw [← h] at h2
  have h3 := lawP.inj h1 h2
  simpa using h3
/-- the map behind k rounds -/
noncomputable def Dm (a : Int) : Nat → DataW Unit
  | 0 => .map []
  | k + 1 => (Dm a k).put (kl (hd a k) k) (.lit (.bool true))
theorem Dm_map (a : Int) : ∀ k, IsMap (Dm a k)
  | 0 => isMap_empty
  | k + 1 => (Dm_map a k).put _ _
theorem Dm_at (a b m : Int) (ha : 0 ≤ a) (ha' : a ≤ 65535) (hb : fits b) (hm : fits m) : ∀ k : Nat, k ≤ 17 → (Dm a k).atKey (kl b m) (.lit (.bool false)) = .lit (.bool (decide (0 ≤ m ∧ m < k ∧ hd a m = b)))
  | 0, _ => by
    have : decide (0 ≤ m ∧ m < ((0 : Nat) : Int) ∧ hd a m = b) = false := by simp; omega
    rw [this]; rfl
  | k + 1, hk => by
    have ih := Dm_at a b m ha ha' hb hm k (by omega)
    obtain ⟨h1, h2⟩ := hd_bd a k ha ha'
    have f1 : fits (hd a k) := ⟨by omega, by omega⟩
    have f2 : fits (k : Int) := ⟨by omega, by omega⟩
    by_cases e : kl (hd a k) k = kl b m
    · obtain ⟨e1, e2⟩ := kl_inj f1 f2 hb hm e
      show ((Dm a k).put (kl (hd a k) k) (.lit (.bool true))).atKey (kl b m) _ = _
      rw [← e, atKey_put_same (Dm_map a k) (lawP.key (kl_is f1 f2))]
      have : decide (0 ≤ m ∧ m < ((k + 1 : Nat) : Int) ∧ hd a m = b) = true := by
        rw [← e2]; simp [e1]; omega
      rw [this]
    · show ((Dm a k).put (kl (hd a k) k) (.lit (.bool true))).atKey (kl b m) _ = _
      rw [atKey_put_other (Ne.symm e), ih]
      congr 2
      simp only [decide_eq_decide]
      constructor
      · rintro ⟨h0, h3, h4⟩; exact ⟨h0, by omega, h4⟩
      · rintro ⟨h0, h3, h4⟩
        refine ⟨h0, ?_, h4⟩
        by_cases em : m = k
        · subst em; exact absurd (by rw [h4]) e
        · omega

theorem run_makeMap_hint {P : Program} (t k e : TypeId) (kd : IntKind) (n : Int) (ht : P.underlying t = some (.map k e)) (w : World) :
    (Instr.makeMap t (some (.int kd n))).run P w = .ok (.map (some w.heap.size)) (w.alloc (.map #[] 0)) := by
  simp [Instr.makeMap, run_underlying ht]; rfl
/-- the map that chain makes -/
def ChainB (w : World) (a : Int) (k : Nat) (e : Ending) (w' : World) : Prop :=
  ∃ g, e = .returned (.map (some g)) ∧ w'.ownsMap Tryd.prog 24 (plainElem Tryd.prog 4) g k (Dm a k) ∧ Below w.heap.size w w'

theorem chain_any (a : Int) (n : Nat) (w : World) (ha : 0 ≤ a) (ha' : a ≤ 65535) (hn : n ≤ 16) :
    Calls Tryd.prog 61 #[.agg #[.int .i64 a, .int .i64 n]] w (ChainB w a (n + 1)) := by
  have hmm := fun (x : Int) (w : World) => run_makeMap_hint (P := Tryd.prog) 77 24 4 .i64 x Tryd.underlying77 w
  obtain ⟨c0, c1, lt, B0⟩ := box2 w (.int .i64 a) (.int .i64 n) 24
  go_enter Tryd.func61, Tryd.ntmps61
  go_wp2
  go_loopw [12] (fun i wr => ∃ k : Nat, k ≤ n + 1 ∧ i = .int .i64 k ∧ wr.ownsMap Tryd.prog 24 (plainElem Tryd.prog 4) (w.heap.size + 1) k (Dm a k) ∧ Over (w.alloc (.cells #[.int .i64 a, .int .i64 n] 24)) wr) (fun i _ => n + 1 - (intOf i).toNat)
  case atStart => exact ⟨0, Nat.zero_le _, rfl, by simpa [Dm] using World.ownsMap_made (H := Unit) (w.alloc (.cells #[.int .i64 a, .int .i64 n] 24)) Tryd.prog 24 (plainElem Tryd.prog 4), over_alloc (over_refl _) _⟩
  case round =>
    obtain ⟨k, hk, rfl, hown, hO⟩ := hrel
    have k0 := over_cell hO lt c0
    have k1 := over_cell hO lt c1
    by_cases hlt : k < n + 1
    · have hltI : (k : Int) < (n : Int) + 1 := by omega
      obtain ⟨h1, h2⟩ := hd_bd a k ha ha'
      have hkey := kl_is (a := hd a k) (n := k) ⟨by omega, by omega⟩ ⟨by omega, by omega⟩
      have HK := Lib.hid hkey
      clear hkey
      go_wp2_with (first | (go_at_call 49; refine (head_any a k _ ha ha' (by omega) (by omega)).mono ?_; rintro e wx ⟨rfl, rfl⟩) | (at_mapUpdate; refine wpList_mapUpdate_own _ rfl _ _ _ 77 rfl 24 4 lawP Tryd.underlying77 _ (w.heap.size + 1) k _ rfl hown (by unfold maxLen; omega) _ _ _ rfl rfl HK.out _ [] (plainElem_bool Tryd.underlying4 true) ?_; intro w1 hown1 hgrow1))
      go_roundw
      case rel => exact ⟨k + 1, by omega, by go_num, hown1, Below.grown hO hgrow1 hO.size (fun j hj => by cases hj; simp)⟩
      case measure => simp [intOf]; omega
    · have hkn : k = n + 1 := by omega
      subst hkn
      go_wp2
      go_ret
      exact ⟨_, rfl, hown, below_step B0 (over_below hO)⟩
/-- what the lookup answers -/
theorem look_any (a b m : Int) (n g : Nat) (w : World) (ha : 0 ≤ a) (ha' : a ≤ 65535) (hn : n ≤ 16) (hb : fits b) (hm : fits m) (h : w.ownsMap Tryd.prog 24 (plainElem Tryd.prog 4) g (n + 1) (Dm a (n + 1))) :
    (Instr.lookup 77 (.map (some g)) (.agg #[.int .i64 b, .int .i64 m]) false).run Tryd.prog w = .ok (.bool (decide (0 ≤ m ∧ m ≤ n ∧ hd a m = b))) w := by
  have hz : (zeroValue 4).run Tryd.prog w = .ok (.bool false) w := by kernel_rfl
  obtain ⟨v, ps, hrun, hv⟩ := h.lookup lawP Tryd.underlying77 hz (plainElem_bool Tryd.underlying4 false) (kl_is hb hm)
  rw [Dm_at a b m ha ha' hb hm (n + 1) (by omega)] at hv
  have hd : decide (0 ≤ m ∧ m < ((n + 1 : Nat) : Int) ∧ hd a m = b) = decide (0 ≤ m ∧ m ≤ n ∧ hd a m = b) := by
    simp only [decide_eq_decide]
    constructor
    · rintro ⟨h0, h1, h2⟩; exact ⟨h0, by omega, h2⟩
    · rintro ⟨h0, h1, h2⟩; exact ⟨h0, by omega, h2⟩
  rw [hd] at hv
  rw [hrun]
  cases v <;> simp [plainElem, Tryd.underlying4] at hv
  rw [hv.1]
  simp
end Go.Proofs.YtichmbbpjkikaaaDoor
