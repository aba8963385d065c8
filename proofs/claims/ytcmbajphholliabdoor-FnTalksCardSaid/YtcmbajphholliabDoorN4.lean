/-
  Lists of prefixes: contracts of the model's test that they are valid and ascending, and of the library's comparison of two lists. Conditions: those in each contract.
-/
import Derived.Test.YtcmbajphholliabDoorN3
import Derived.Laws.StructEq
namespace Go.Proofs.YtcmbajphholliabDoor
open Go.ChangeShapes Go.WideShapes Go.ChangeAt Go.RowKit Go.BigFrame
set_option linter.unusedVariables false
set_option maxRecDepth 100000
set_option linter.unusedSimpArgs false

/-- the library's comparison of two lists of prefixes -/
theorem slP_any (v u : Value) (l m : List (Int × Int)) (w : World) (h1 : RdP w v l) (h2 : RdP w u m) :
    Calls Tryd.prog 99 #[v, u] w fun e w' => e = .returned (.bool (decide (l = m))) ∧ Below w.heap.size w w' := by
  by_cases hlen : l.length = m.length
  · have hm1 := h1.1
    obtain ⟨a, c, rfl, hc⟩ := h1.el
    obtain ⟨a', c', rfl, hc'⟩ := h2.el
    obtain ⟨n, hn⟩ : ∃ n, n = l.length := ⟨_, rfl⟩
    have hn' : n = m.length := hn.trans hlen
    rw [← hn'] at hc' ⊢
    rw [← hn] at hc hm1 ⊢
    have HN := Lib.hid hn
    have HN' := Lib.hid hn'
    clear hn hn' hlen h1 h2
    go_enter Tryd.func99, Tryd.ntmps99
    go_wp2
    go_loopw [13] (fun i wr => ∃ k : Nat, k ≤ n ∧ i = .int .i64 k ∧ l.take k = m.take k ∧ Below w.heap.size w wr) (fun i _ => n - (intOf i).toNat)
    case atStart => exact ⟨0, Nat.zero_le _, rfl, rfl, Below.refl _ _⟩
    case round =>
      obtain ⟨k, hk, rfl, ht, hB⟩ := hrel
      have HT := Lib.hid ht
      clear ht
      by_cases hlt : k < n
      · have hltI : (k : Int) < (n : Int) := by omega
        obtain ⟨b, o, rfl, d0, d1⟩ := hc k hlt
        obtain ⟨b', o', rfl, d0', d1'⟩ := hc' k hlt
        have e0 := cell_keep hB (World.block_lt_of_cell? w _ d0) d0
        have e1 := cell_keep hB (World.block_lt_of_cell? w _ d1) d1
        have e2 := cell_keep hB (World.block_lt_of_cell? w _ d0') d0'
        have e3 := cell_keep hB (World.block_lt_of_cell? w _ d1') d1'
        obtain ⟨⟨x, y⟩, hx⟩ : ∃ q, l.getD k (0, 0) = q := ⟨_, rfl⟩
        obtain ⟨⟨x', y'⟩, hx'⟩ : ∃ q, m.getD k (0, 0) = q := ⟨_, rfl⟩
        rw [hx] at e0 e1
        rw [hx'] at e2 e3
        have HX := Lib.hid hx
        have HY := Lib.hid hx'
        clear hx hx' hc hc' d0 d1 d0' d1'
        by_cases hxy : x = x' ∧ y = y'
        · obtain ⟨rfl, rfl⟩ := hxy
          go_wp2
          go_region
          go_wp2
          go_roundw
          case rel => exact ⟨k + 1, by omega, by go_num, takeP_succ HT.out (by rw [← HN.out]; exact hlt) (by rw [← HN'.out]; exact hlt) (by rw [HX.out, HY.out]), hB.drew⟩
          case measure => simp [intOf]; omega
        · have hlm : decide (l = m) = false := by
            simp only [decide_eq_false_iff_not]
            rintro rfl
            have := HX.out.symm.trans HY.out
            cases this
            exact hxy ⟨rfl, rfl⟩
          have HL := Lib.hid hlm
          clear hlm
          by_cases hx : x = x'
          · have hy : ¬ y = y' := fun e => hxy ⟨hx, e⟩
            subst hx
            clear hxy
            go_wp2
            go_region
            go_wp2
            go_ret
            exact ⟨ret_bool HL.out.symm, hB.drew⟩
          · clear hxy
            go_wp2
            go_region
            go_wp2
            go_ret
            exact ⟨ret_bool HL.out.symm, hB.drew⟩
      · have hkn : k = n := by omega
        have hlm : decide (l = m) = true := by
          have h := HT.out
          rw [hkn, List.take_of_length_le (by rw [HN.out]; exact Nat.le_refl _), List.take_of_length_le (by rw [HN'.out]; exact Nat.le_refl _)] at h
          simp [h]
        have HL := Lib.hid hlm
        clear hlm hkn hc hc'
        go_wp2
        go_ret
        exact ⟨ret_bool HL.out.symm, hB⟩
  · have hd : decide (l = m) = false := by
      simp only [decide_eq_false_iff_not]
      rintro rfl
      exact hlen rfl
    rw [hd]
    clear hd
    obtain ⟨a, c, rfl⟩ := h1.len
    obtain ⟨a', c', rfl⟩ := h2.len
    have hne : ((l.length : Int) != (m.length : Int)) = true := by simp; omega
    clear h1 h2
    go_enter Tryd.func99, Tryd.ntmps99
    go_wp2
    go_ret
    exact ⟨rfl, Below.refl _ _⟩
end Go.Proofs.YtcmbajphholliabDoor
