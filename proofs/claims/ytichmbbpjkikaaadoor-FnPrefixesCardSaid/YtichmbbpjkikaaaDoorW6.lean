/-
  GetPrefix of the program and of the model, at every slice of at most 1048576 bytes and every index: one answer.
-/
import Derived.Test.YtichmbbpjkikaaaDoorW5
namespace Go.Proofs.YtichmbbpjkikaaaDoor
open Go.ChangeShapes Go.WideShapes Go.ChangeAt Go.RowKit Go.BigFrame
set_option linter.unusedVariables false
set_option maxRecDepth 100000

theorem gAns_bad {l : List Int} {k : Nat} (h : ¬ (l.getD k 0 ≤ 16 ∧ (k : Int) + 1 + (l.getD k 0 + 7) / 8 ≤ l.length)) : gAns l k = .tuple #[.agg #[.int .i64 0, .int .i64 0], .int .i64 (-1)] :=
  gAns_no (fun hh => h (by
    have h2 := hh.2.1.2
    simpa [nbytes] using h2))
theorem gAns_pok {l : List Int} {k : Nat} {a n m : Int} (hk : k < l.length) (hl : l.getD k 0 = n) (h : n ≤ 16 ∧ (k : Int) + 1 + (n + 7) / 8 ≤ l.length) (ha : gAddr l k = a) (hm : (n + 7) / 8 = m) (hp : pokB a n = true) :
    gAns l k = .tuple #[.agg #[.int .i64 a, .int .i64 n], .int .i64 (k + 1 + m)] := by
  subst hl ha hm
  have hok : gOk l k := ⟨by omega, by simpa [gHas, nbytes] using ⟨hk, h.1, h.2⟩, by simpa using hp⟩
  rw [gAns_yes hok]
  simp [nbytes]
theorem gAns_npok {l : List Int} {k : Nat} {a n : Int} (hl : l.getD k 0 = n) (ha : gAddr l k = a) (hp : pokB a n = false) :
    gAns l k = .tuple #[.agg #[.int .i64 0, .int .i64 0], .int .i64 (-1)] := by
  subst hl ha
  exact gAns_no (fun hh => by have := hh.2.2; rw [Int.toNat_natCast, hp] at this; cases this)

theorem iget_any (v : Value) (l : List Int) (a : Int) (w : World) (h : Rd w v l) (hn : l.length ≤ 1048576) :
    Calls Tryd.prog 14 #[v, .int .i64 a] w fun e w' => e = .returned (gAns l a) ∧ Below w.heap.size w w' := by
  by_cases ha : 0 ≤ a ∧ a < l.length
  · obtain ⟨k, rfl⟩ := Int.eq_ofNat_of_zero_le ha.1
    have hk : k < l.length := by omega
    obtain ⟨hbd, _, ⟨p, c, rfl, rfl, -⟩ | ⟨b, o, c, rfl, hp, hc⟩⟩ := h
    · simp at hk
    · have bl := World.block_lt_of_cell? w _ (hc k hk)
      obtain ⟨g0, g1⟩ := getD_bd hbd k
      by_cases hs : l.getD k 0 ≤ 16 ∧ (k : Int) + 1 + (l.getD k 0 + 7) / 8 ≤ l.length
      · by_cases z0 : l.getD k 0 = 0
        · have hpk : pokB 0 0 = true := by decide
          have hA : gAddr l k = 0 := by unfold gAddr; rw [if_pos z0]
          rw [gAns_pok hk z0 ⟨by omega, by omega⟩ hA (show ((0 : Int) + 7) / 8 = 0 by decide) hpk]
          refine (iget_0_yes b o c l.length (l.getD k 0) k w hk hn bl (hc k hk) g0 z0 (Lib.hid hpk)).mono ?_
          rintro e w' ⟨rfl, hB⟩
          exact ⟨by simp, hB⟩
        · by_cases z8 : l.getD k 0 ≤ 8
          · have hA : gAddr l k = l.getD (k + 1) 0 * 256 := by unfold gAddr; rw [if_neg z0, if_pos z8]
            have hk2 : k + 2 ≤ l.length := by omega
            obtain ⟨x0, x1⟩ := getD_bd hbd (k + 1)
            cases hpk : pokB (l.getD (k + 1) 0 * 256) (l.getD k 0)
            · rw [gAns_npok rfl hA hpk]
              exact iget_1_no b o c l.length (l.getD k 0) k w hk hn bl (hc k hk) g0 (by omega) z8 _ (hc (k + 1) (by omega)) x0 x1 hk2 (Lib.hid hpk)
            · rw [gAns_pok hk rfl hs hA (show (l.getD k 0 + 7) / 8 = 1 by omega) hpk]
              exact iget_1_yes b o c l.length (l.getD k 0) k w hk hn bl (hc k hk) g0 (by omega) z8 _ (hc (k + 1) (by omega)) x0 x1 hk2 (Lib.hid hpk)
          · have hA : gAddr l k = l.getD (k + 1) 0 * 256 + l.getD (k + 2) 0 := by unfold gAddr; rw [if_neg z0, if_neg z8]
            have hk3 : k + 3 ≤ l.length := by omega
            obtain ⟨x0, x1⟩ := getD_bd hbd (k + 1)
            obtain ⟨y0, y1⟩ := getD_bd hbd (k + 2)
            cases hpk : pokB (l.getD (k + 1) 0 * 256 + l.getD (k + 2) 0) (l.getD k 0)
            · rw [gAns_npok rfl hA hpk]
              exact iget_2_no b o c l.length (l.getD k 0) k w hk hn bl (hc k hk) g0 (by omega) hs.1 _ _ (hc (k + 1) (by omega)) (hc (k + 2) (by omega)) x0 x1 y0 y1 hk3 (Lib.hid hpk)
            · rw [gAns_pok hk rfl hs hA (show (l.getD k 0 + 7) / 8 = 2 by omega) hpk]
              exact iget_2_yes b o c l.length (l.getD k 0) k w hk hn bl (hc k hk) g0 (by omega) hs.1 _ _ (hc (k + 1) (by omega)) (hc (k + 2) (by omega)) x0 x1 y0 y1 hk3 (Lib.hid hpk)
      · rw [gAns_bad hs]
        exact iget_bad b o c l.length (l.getD k 0) k w hk hn bl (hc k hk) g0 g1 hs
  · rw [gAns_no (fun hh => ha ⟨hh.1, by have := hh.2.1.1; omega⟩)]
    exact iget_none v l a w h ha
end Go.Proofs.YtichmbbpjkikaaaDoor
