/-
  What PrefixRead reads out of the text of a valid prefix. Conditions: those in each statement.
-/
import Derived.Test.YtcmbajphholliabDoorR1
import Derived.Test.YtcmbajphholliabDoorW4
namespace Go.Proofs.YtcmbajphholliabDoor
open Go.ChangeShapes Go.WideShapes Go.ChangeAt Go.RowKit Go.BigFrame
set_option linter.unusedVariables false
set_option maxRecDepth 100000

/-- 'scan' over a list of signs below 128 -/
def scanL : List Int → Nat → (Nat → Int) → Option (Nat → Int)
  | [], _, f => some f
  | c :: t, k, f => if 48 ≤ c ∧ c ≤ 57 then scanL t k (upd f k (wrap64 (wrap64 (f k * 10) + (c - 48)))) else if k + 1 = 3 then none else scanL t (k + 1) f
theorem str_size (l : List Int) : (strOfNums l).size = l.length := by
  show ((l.map fun n => UInt8.ofNat n.toNat).toArray).size = _
  simp
theorem str_at (l : List Int) (i : Nat) (h : i < (strOfNums l).size) (hl : ∀ x ∈ l, 0 ≤ x ∧ x ≤ 255) : ((strOfNums l)[i]'h).toNat = (l.getD i 0).toNat := by
  have h2 : i < l.length := by rw [str_size] at h; exact h
  show (((l.map fun n => UInt8.ofNat n.toNat).toArray)[i]'(by simpa using h2)).toNat = _
  have q := hl (l[i]'h2) (List.getElem_mem h2)
  simp [List.getD, h2]
  omega
theorem scan_list (l : List Int) (hl : ∀ x ∈ l, 0 ≤ x ∧ x < 128) : ∀ (n pos k : Nat) (f : Nat → Int), l.length ≤ pos + n → scan (strOfNums l) n pos k f = scanL (l.drop pos) k f := by
  have hl2 : ∀ x ∈ l, 0 ≤ x ∧ x ≤ 255 := fun x hx => by have := hl x hx; omega
  intro n
  induction n with
  | zero =>
    intro pos k f h
    rw [List.drop_eq_nil_of_le (by omega)]
    rfl
  | succ n ih =>
    intro pos k f h
    by_cases hp : pos < l.length
    · have hp2 : pos < (strOfNums l).size := by rw [str_size]; exact hp
      have ha := str_at l pos hp2 hl2
      have hb := hl (l[pos]'hp) (List.getElem_mem hp)
      rw [show l.getD pos 0 = l[pos]'hp by simp [List.getD, hp]] at ha
      rw [scan_step _ _ _ _ _ hp2, decode_ascii _ _ hp2 (by rw [ha]; omega), List.drop_eq_getElem_cons hp]
      simp only [ha, scanL]
      obtain ⟨x, hx⟩ : ∃ x, x = l[pos]'hp := ⟨_, rfl⟩
      rw [← hx] at hb ⊢
      by_cases hd : 48 ≤ x ∧ x ≤ 57
      · rw [if_pos (by omega), if_pos hd, ih _ _ _ (by omega)]
        congr 2
        unfold stepv
        rw [show ((x.toNat : Nat) : Int) = x by omega]
      · rw [if_neg (by omega), if_neg hd]
        by_cases hk : k + 1 = 3
        · rw [if_pos hk, if_pos hk]
        · rw [if_neg hk, if_neg hk, ih _ _ _ (by omega)]
    · rw [List.drop_eq_nil_of_le (by omega), scan_end _ _ _ _ _ (by rw [str_size]; exact hp)]
      rfl
theorem upd_upd (f : Nat → Int) (k : Nat) (x y : Int) : upd (upd f k x) k y = upd f k y := by
  funext i
  unfold upd
  split <;> rfl
theorem upd_at (f : Nat → Int) (k : Nat) (x : Int) : upd f k x k = x := by simp [upd]
theorem w64 (x : Int) (h0 : 0 ≤ x) (h1 : x ≤ 100000) : wrap64 x = x := by unfold Go.RowKit.wrap64; omega
theorem scan_digits (x : Int) (rest : List Int) (k : Nat) (f : Nat → Int) (hf : f k = 0) (h0 : 0 ≤ x) (h1 : x < 1000) : scanL (dgI x ++ rest) k f = scanL rest k (upd f k x) := by
  have d (c : Int) (hc0 : 0 ≤ c) (hc1 : c ≤ 9) (t : List Int) (g : Nat → Int) (y : Int) (hy : g k = y) (hy0 : 0 ≤ y) (hy1 : y ≤ 1000) : scanL ((48 + c) :: t) k g = scanL t k (upd g k (y * 10 + c)) := by
    rw [scanL, if_pos (by omega), hy, w64 (y * 10) (by omega) (by omega), show y * 10 + (48 + c - 48) = y * 10 + c by omega, w64 _ (by omega) (by omega)]
  by_cases c1 : x < 10
  · rw [dgI_small h0 c1, List.singleton_append, d x h0 (by omega) _ _ 0 hf (by omega) (by omega)]
    congr 2
    omega
  · rw [dgI_big h0 c1]
    by_cases c2 : x < 100
    · rw [dgI_small (by omega) (by omega : x / 10 < 10), List.append_assoc, List.singleton_append, List.singleton_append, d _ (by omega) (by omega) _ _ 0 hf (by omega) (by omega),
        d _ (by omega) (by omega) _ _ (0 * 10 + x / 10) (upd_at _ _ _) (by omega) (by omega), upd_upd]
      congr 2
      omega
    · rw [dgI_big (by omega) (by omega : ¬ x / 10 < 10), dgI_small (by omega) (by omega : x / 10 / 10 < 10)]
      change scanL ((48 + x / 10 / 10) :: (48 + x / 10 % 10) :: (48 + x % 10) :: rest) k f = _
      rw [d _ (by omega) (by omega) _ _ 0 hf (by omega) (by omega), d _ (by omega) (by omega) _ _ (0 * 10 + x / 10 / 10) (upd_at _ _ _) (by omega) (by omega), upd_upd,
        d _ (by omega) (by omega) _ _ ((0 * 10 + x / 10 / 10) * 10 + x / 10 % 10) (upd_at _ _ _) (by omega) (by omega), upd_upd]
      congr 2
      omega
theorem dgI_ascii (x : Int) (h0 : 0 ≤ x) (h1 : x < 1000) : ∀ y ∈ dgI x, 0 ≤ y ∧ y < 128 := by
  by_cases c1 : x < 10
  · rw [dgI_small h0 c1]; intro y hy; simp at hy; omega
  · rw [dgI_big h0 c1]
    by_cases c2 : x < 100
    · rw [dgI_small (by omega) (by omega : x / 10 < 10)]; intro y hy; simp at hy; omega
    · rw [dgI_big (by omega) (by omega : ¬ x / 10 < 10), dgI_small (by omega) (by omega : x / 10 / 10 < 10)]; intro y hy; simp at hy; omega
theorem scan_text (a n : Int) (h : pokB a n = true) : ∃ f, scan (strOfNums (textL a n)) (strOfNums (textL a n)).size 0 0 (fun _ => 0) = some f ∧ adr f = a ∧ f 2 = n := by
  obtain ⟨h0, h1, h2, h3, -⟩ := pok_of h
  have hA : ∀ x ∈ textL a n, 0 ≤ x ∧ x < 128 := by
    rw [textL_is a n h]
    intro x hx
    simp only [List.mem_append, List.mem_singleton] at hx
    rcases hx with (((hx | rfl) | hx) | rfl) | hx
    · exact dgI_ascii _ (by omega) (by omega) x hx
    · decide
    · exact dgI_ascii _ (by omega) (by omega) x hx
    · decide
    · exact dgI_ascii _ (by omega) (by omega) x hx
  refine ⟨upd (upd (upd (fun _ => 0) 0 (a / 256)) 1 (a % 256)) 2 n, ?_, ?_, by simp [upd]⟩
  · rw [scan_list _ hA _ _ _ _ (by rw [str_size]; omega), List.drop_zero, textL_is a n h]
    simp only [List.append_assoc, List.singleton_append]
    change scanL (dgI (a / 256) ++ (46 :: (dgI (a % 256) ++ (47 :: dgI n)))) 0 (fun _ => 0) = _
    rw [scan_digits (a / 256) _ 0 (fun _ => 0) rfl (by omega) (by omega), scanL, if_neg (by decide), if_neg (by decide), scan_digits _ _ _ _ (by simp [upd]) (by omega) (by omega), scanL, if_neg (by decide), if_neg (by decide),
      ← List.append_nil (dgI n), scan_digits _ _ _ _ (by simp [upd]) (by omega) (by omega), scanL]
  · unfold adr
    rw [show upd (upd (upd (fun _ => 0) 0 (a / 256)) 1 (a % 256)) 2 n 0 = a / 256 by simp [upd], show upd (upd (upd (fun _ => 0) 0 (a / 256)) 1 (a % 256)) 2 n 1 = a % 256 by simp [upd], w64 _ (by omega) (by omega), or_hl _ _ (by omega) (by omega) (by omega) (by omega)]
    omega
/-- what is read out of the text of a valid prefix is that prefix -/
theorem reads_text {a n : Int} {r : Value} (h : pokB a n = true) (hr : ReadsAs (textL a n) r) : r = .tuple #[.agg #[.int .i64 a, .int .i64 n], .bool true] := by
  obtain ⟨f, hf, ha, hn⟩ := scan_text a n h
  rcases hr with ⟨g, hg, _, _, rfl⟩ | ⟨hno, rfl⟩
  · rw [hf] at hg
    injection hg with hg
    subst hg
    rw [ha, hn]
  · exact absurd (by rw [ha, hn]) (hno f hf (by rw [ha, hn]; exact h))
end Go.Proofs.YtcmbajphholliabDoor
