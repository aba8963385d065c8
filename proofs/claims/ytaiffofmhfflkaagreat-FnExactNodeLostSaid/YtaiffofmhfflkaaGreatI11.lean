/-
  Lists compared, of the library and of the model. Conditions: those in each contract.
-/
import Derived.Test.YtaiffofmhfflkaaGreatI10
namespace Go.Proofs.YtaiffofmhfflkaaGreat
open Go.ChangeShapes Go.WideShapes Go.ChangeAt Go.RowKit Go.BigFrame Go.Joins
set_option linter.unusedVariables false
set_option maxRecDepth 100000

/-- element by element, a proper beginning first -/
def lx : List Int → List Int → Int
  | [], [] => 0
  | [], _ :: _ => -1
  | _ :: _, [] => 1
  | x :: l, y :: m => if nm x y = 0 then lx l m else nm x y
theorem lx_drop : ∀ (k : Nat) (l m : List Int), l.take k = m.take k → k ≤ l.length → k ≤ m.length → lx l m = lx (l.drop k) (m.drop k)
  | 0, l, m, _, _, _ => by simp
  | k + 1, [], m, _, h, _ => by simp at h
  | k + 1, x :: l, [], _, _, h => by simp at h
  | k + 1, x :: l, y :: m, h, h1, h2 => by
    simp only [List.take_succ_cons, List.cons.injEq] at h
    obtain ⟨rfl, h⟩ := h
    have := lx_drop k l m h (by simpa using h1) (by simpa using h2)
    simp only [lx, (nm_zero x x).2 rfl, if_true, List.drop_succ_cons]
    exact this
theorem lx_ne {l m : List Int} {k : Nat} {x y : Int} (h : l.take k = m.take k) (h1 : k < l.length) (h2 : k < m.length) (hx : l.getD k 0 = x) (hy : m.getD k 0 = y) (hne : x ≠ y) : lx l m = nm x y := by
  rw [lx_drop k l m h (by omega) (by omega), List.drop_eq_getElem_cons h1, List.drop_eq_getElem_cons h2]
  have e1 : l.getD k 0 = l[k] := by simp [List.getD, h1]
  have e2 : m.getD k 0 = m[k] := by simp [List.getD, h2]
  rw [← e1, ← e2, hx, hy]
  simp only [lx]
  rw [if_neg (fun h => hne ((nm_zero x y).1 h))]
theorem lx_end {l m : List Int} {k : Nat} (h : l.take k = m.take k) (h1 : k ≤ l.length) (h2 : k ≤ m.length) (he : k = l.length ∨ k = m.length) : lx l m = if l.length < m.length then -1 else if m.length < l.length then 1 else 0 := by
  rw [lx_drop k l m h h1 h2]
  rcases he with rfl | rfl
  · rw [List.drop_eq_nil_of_le (Nat.le_refl l.length)]
    by_cases hlt : l.length < m.length
    · rw [if_pos hlt, List.drop_eq_getElem_cons hlt]
      rfl
    · rw [if_neg hlt, if_neg (by omega), List.drop_eq_nil_of_le (by omega)]
      rfl
  · rw [List.drop_eq_nil_of_le (Nat.le_refl m.length)]
    by_cases hlt : m.length < l.length
    · rw [if_neg (by omega), if_pos hlt, List.drop_eq_getElem_cons hlt]
      rfl
    · rw [if_neg (by omega), if_neg hlt, List.drop_eq_nil_of_le (by omega)]
      rfl
theorem nm_lt {x y : Int} (h : x < y) : nm x y = -1 := by simp [nm, Lib.compareInt, h]
theorem nm_gt {x y : Int} (h : y < x) : nm x y = 1 := by simp only [nm, Lib.compareInt]; split <;> first | omega | (split <;> omega)

theorem slist_any (v u : Value) (l m : List Int) (w : World) (h1 : RdI w v l) (h2 : RdI w u m) :
    Calls Tryz.prog 162 #[v, u] w fun e w' => e = .returned (.int .i64 (lx l m)) ∧ Below w.heap.size w w' := by
  have hm := h1.2.1
  have hm' := h2.2.1
  unfold maxLen at hm hm'
  obtain ⟨a, c, rfl, hc⟩ := h1.el
  obtain ⟨a', c', rfl, hc'⟩ := h2.el
  obtain ⟨n, hn⟩ : ∃ n, n = l.length := ⟨_, rfl⟩
  obtain ⟨n', hn'⟩ : ∃ n, n = m.length := ⟨_, rfl⟩
  rw [← hn] at hc hm ⊢
  rw [← hn'] at hc' hm' ⊢
  have HN := Lib.hid hn
  have HN' := Lib.hid hn'
  clear h1 h2 hn hn'
  go_enter Tryz.func162, Tryz.ntmps162
  go_wp2
  go_loopw [5] (fun q wr => ∃ k : Nat, k ≤ n ∧ k ≤ n' ∧ q = .int .i64 k ∧ l.take k = m.take k ∧ Below w.heap.size w wr) (fun q _ => n - (intOf q).toNat)
  case atStart => exact ⟨0, Nat.zero_le _, Nat.zero_le _, rfl, rfl, Below.refl _ _⟩
  case round =>
    obtain ⟨k, hk, hk', rfl, ht, hB⟩ := hrel
    have HT := Lib.hid ht
    clear ht
    by_cases hlt : k < n ∧ k < n'
    · obtain ⟨hlt, hlt'⟩ := hlt
      have hltI : (k : Int) < (n : Int) := by omega
      have hltI' : (k : Int) < (n' : Int) := by omega
      obtain ⟨b, o, rfl, e1⟩ := hc k hlt
      obtain ⟨b', o', rfl, e2⟩ := hc' k hlt'
      replace e1 := cell_keep hB (World.block_lt_of_cell? w _ e1) e1
      replace e2 := cell_keep hB (World.block_lt_of_cell? w _ e2) e2
      obtain ⟨x, hx⟩ : ∃ x, l.getD k 0 = x := ⟨_, rfl⟩
      obtain ⟨y, hy⟩ : ∃ y, m.getD k 0 = y := ⟨_, rfl⟩
      rw [hx] at e1
      rw [hy] at e2
      have HX := Lib.hid hx
      have HY := Lib.hid hy
      clear hx hy hc hc'
      by_cases hxy : x < y
      · have HF := Lib.hid ((lx_ne HT.out (by rw [← HN.out]; exact hlt) (by rw [← HN'.out]; exact hlt') HX.out HY.out (by omega)).trans (nm_lt hxy))
        go_wp2
        first | (go_quiet (fail); go_wp2) | skip
        go_ret
        exact ⟨ret_int (by rw [HF.out]), by first | exact hB | exact below_drewN hB _⟩
      · by_cases hyx : y < x
        · have HF := Lib.hid ((lx_ne HT.out (by rw [← HN.out]; exact hlt) (by rw [← HN'.out]; exact hlt') HX.out HY.out (by omega)).trans (nm_gt hyx))
          go_wp2
          first | (go_quiet (fail); go_wp2; first | (go_quiet (fail); go_wp2) | skip) | skip
          go_ret
          exact ⟨ret_int (by rw [HF.out]), by first | exact hB | exact below_drewN hB _ | exact below_drewN (below_drewN hB _) _⟩
        · have HE := Lib.hid (show x = y by omega)
          go_wp2
          first | (go_quiet (fail); go_wp2; first | (go_quiet (fail); go_wp2) | skip) | skip
          go_roundw
          case rel => exact ⟨k + 1, by omega, by omega, by go_num, take_eq_succ_I HT.out (by rw [← HN.out]; exact hlt) (by rw [← HN'.out]; exact hlt') (by rw [HX.out, HY.out, HE.out]), by first | exact hB | exact below_drewN hB _ | exact below_drewN (below_drewN hB _) _⟩
          case measure => simp [intOf]; omega
    · have HF := Lib.hid (lx_end HT.out (by rw [← HN.out]; exact hk) (by rw [← HN'.out]; exact hk') (by rw [← HN.out, ← HN'.out]; omega))
      have HL := Lib.hid hlt
      clear hc hc'
      by_cases hk1 : k < n
      · have hkn : n' < n := by omega
        have hq1 : (k : Int) < (n : Int) := by omega
        have hq2 : ¬ (k : Int) < (n' : Int) := by omega
        have hq3 : (n' : Int) < (n : Int) := by omega
        go_wp2
        go_ret
        exact ⟨ret_int (by rw [HF.out, ← HN.out, ← HN'.out, if_neg (by omega), if_pos hkn]), hB⟩
      · by_cases hnn : n < n'
        · go_wp2
          go_ret
          exact ⟨ret_int (by rw [HF.out, ← HN.out, ← HN'.out, if_pos hnn]), hB⟩
        · have hq : n = n' := by omega
          have hq3 : ¬ (n' : Int) < (n : Int) := by omega
          go_wp2
          go_ret
          exact ⟨ret_int (by rw [HF.out, ← HN.out, ← HN'.out, if_neg hnn, if_neg (by omega)]), hB⟩
end Go.Proofs.YtaiffofmhfflkaaGreat
