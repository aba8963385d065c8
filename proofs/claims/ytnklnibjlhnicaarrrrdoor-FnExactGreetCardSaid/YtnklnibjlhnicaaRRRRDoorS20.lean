/-
  The model's step of a session: what it answers to each event. Conditions: those in each contract.
-/
import Derived.Test.YtnklnibjlhnicaaRRRRDoorS19
namespace Go.Proofs.YtnklnibjlhnicaaRRRRDoor
open Go.ChangeShapes Go.WideShapes Go.ChangeAt Go.RowKit Go.BigFrame Go.Joins
set_option linter.unusedVariables false
set_option maxRecDepth 100000
set_option linter.unusedSimpArgs false

theorem sfall_any (s0 s1 s2 s3 s4 c : Int) (w : World) (hc : c ≠ 0) : Calls Tryd.prog 20 #[.agg #[.int .i64 s0, .int .i64 s1, .int .i64 s2, .int .i64 s3, .int .i64 s4], .int .i64 c] w (StR (fallF s0 c) w) := by
  unfold fallF
  split
  · exact sfall_high s0 s1 s2 s3 s4 c w (by assumption) hc
  · exact sfall_low s0 s1 s2 s3 s4 c w (by assumption)
set_option maxHeartbeats 1000000 in
theorem smes_any (xa xi xh xp s0 s1 s2 s3 s4 : Int) (ga ca pa ma : Option Addr) (gx cx px mx : Nat) (gs cs : List (Int × Int)) (ps ms : List Int) (ee kn sa ho ix pr bw er : Int) (w : World) (acc : Bool) (hacc : kn = 1 → ∀ w, Calls Tryd.prog 37 #[.agg #[.int .i64 xa, .int .i64 xi, .int .i64 xh, .int .i64 xp], .agg #[.int .i64 1, .int .i64 sa, .int .i64 ho, .int .i64 ix, .slice ga gs.length gx, .slice ca cs.length cx, .slice pa ps.length px, .int .i64 pr, .slice ma ms.length mx, .int .i64 bw, .int .i64 er]] w fun e w' => e = .returned (.bool acc) ∧ Below w.heap.size w w') (hxh : 3 ≤ xh ∧ xh ≤ 255) (hho : kn = 1 → 3 ≤ ho ∧ ho ≤ 255) (hs0 : 0 ≤ s0 ∧ s0 ≤ 4) : Calls Tryd.prog 22 #[.agg #[.int .i64 xa, .int .i64 xi, .int .i64 xh, .int .i64 xp], .agg #[.int .i64 s0, .int .i64 s1, .int .i64 s2, .int .i64 s3, .int .i64 s4], .agg #[.int .i64 kn, .int .i64 sa, .int .i64 ho, .int .i64 ix, .slice ga gs.length gx, .slice ca cs.length cx, .slice pa ps.length px, .int .i64 pr, .slice ma ms.length mx, .int .i64 bw, .int .i64 er]] w (StR (stepF xa xi xh s0 s1 s2 s3 s4 4 ee kn sa ho acc) w) := by
  by_cases h : 2 ≤ s0
  · by_cases h3 : kn = 3
    · have hR : (stepF xa xi xh s0 s1 s2 s3 s4 4 ee kn sa ho acc) = ⟨0, 0, 0, 0, 0, []⟩ := by simp [stepF, fallF, h, h3]
      rw [hR]
      exact smes_gone xa xi xh xp s0 s1 s2 s3 s4 ga ca pa ma gx cx px mx gs cs ps ms kn sa ho ix pr bw er w h h3
    · rcases (show s0 = 2 ∨ s0 = 3 ∨ s0 = 4 by omega) with rfl | rfl | rfl
      · by_cases h1 : kn = 1
        · have ha := hacc h1
          subst h1
          cases acc
          · have hR : (stepF xa xi xh 2 s1 s2 s3 s4 4 ee 1 sa ho false) = ⟨0, 0, 0, 0, 0, [⟨3, 0, 0, 0, 2⟩]⟩ := by simp [stepF, fallF]
            rw [hR]
            exact smes_2_bad xa xi xh xp s1 s2 s3 s4 ga ca pa ma gx cx px mx gs cs ps ms sa ho ix pr bw er w ha
          · by_cases hm3 : xh ≤ ho
            · have hR : (stepF xa xi xh 2 s1 s2 s3 s4 4 ee 1 sa ho true) = ⟨3, xh, 0, xh / 3, sa, [⟨4, 0, 0, 0, 0⟩]⟩ := by simp [stepF, fallF, hm3]
              rw [hR]
              exact smes_2_mine xa xi xh xp s1 s2 s3 s4 ga ca pa ma gx cx px mx gs cs ps ms sa ho ix pr bw er w ha hm3 hxh
            · have hR : (stepF xa xi xh 2 s1 s2 s3 s4 4 ee 1 sa ho true) = ⟨3, ho, 0, ho / 3, sa, [⟨4, 0, 0, 0, 0⟩]⟩ := by simp [stepF, fallF, hm3]
              rw [hR]
              exact smes_2_yours xa xi xh xp s1 s2 s3 s4 ga ca pa ma gx cx px mx gs cs ps ms sa ho ix pr bw er w ha hm3 (hho rfl)
        · have hR : (stepF xa xi xh 2 s1 s2 s3 s4 4 ee kn sa ho acc) = ⟨0, 0, 0, 0, 0, [⟨3, 0, 0, 0, 5⟩]⟩ := by simp [stepF, fallF, h3, h1]
          rw [hR]
          exact smes_2_no xa xi xh xp s1 s2 s3 s4 ga ca pa ma gx cx px mx gs cs ps ms kn sa ho ix pr bw er w h3 h1
      · by_cases h4 : kn = 4
        · have hR : (stepF xa xi xh 3 s1 s2 s3 s4 4 ee kn sa ho acc) = ⟨4, s1, 0, s3, s4, []⟩ := by simp [stepF, fallF, h3, h4]
          rw [hR]
          exact smes_3_yes xa xi xh xp s1 s2 s3 s4 ga ca pa ma gx cx px mx gs cs ps ms kn sa ho ix pr bw er w h4
        · have hR : (stepF xa xi xh 3 s1 s2 s3 s4 4 ee kn sa ho acc) = ⟨0, 0, 0, 0, 0, [⟨3, 0, 0, 0, 5⟩]⟩ := by simp [stepF, fallF, h3, h4]
          rw [hR]
          exact smes_3_no xa xi xh xp s1 s2 s3 s4 ga ca pa ma gx cx px mx gs cs ps ms kn sa ho ix pr bw er w h3 h4
      · by_cases h1 : kn = 1
        · subst h1
          have hR : (stepF xa xi xh 4 s1 s2 s3 s4 4 ee 1 sa ho acc) = ⟨0, 0, 0, 0, 0, [⟨3, 0, 0, 0, 5⟩]⟩ := by simp [stepF, fallF]
          rw [hR]
          exact smes_4_no xa xi xh xp s1 s2 s3 s4 ga ca pa ma gx cx px mx gs cs ps ms sa ho ix pr bw er w
        · have hR : (stepF xa xi xh 4 s1 s2 s3 s4 4 ee kn sa ho acc) = ⟨4, s1, 0, s3, s4, []⟩ := by simp [stepF, fallF, h3, h1]
          rw [hR]
          exact smes_4_yes xa xi xh xp s1 s2 s3 s4 ga ca pa ma gx cx px mx gs cs ps ms kn sa ho ix pr bw er w h3 h1
  · have hR : (stepF xa xi xh s0 s1 s2 s3 s4 4 ee kn sa ho acc) = ⟨s0, s1, s2, s3, s4, []⟩ := by simp [stepF, fallF, h]
    rw [hR]
    exact smes_low xa xi xh xp s0 s1 s2 s3 s4 ga ca pa ma gx cx px mx gs cs ps ms kn sa ho ix pr bw er w h
theorem stick_any (xa xi xh s0 s1 s2 s3 s4 ee kn sa ho : Int) (acc : Bool) (w : World) (hs0 : 0 ≤ s0 ∧ s0 ≤ 4) (hs2 : 2 ≤ s0 → 3 ≤ s1 ∧ s1 ≤ 255 ∧ 0 ≤ s2 ∧ s2 < s1) (hs3 : 3 ≤ s0 → 1 ≤ s3 ∧ s3 ≤ 255) : Calls Tryd.prog 23 #[.agg #[.int .i64 s0, .int .i64 s1, .int .i64 s2, .int .i64 s3, .int .i64 s4]] w (StR (stepF xa xi xh s0 s1 s2 s3 s4 5 ee kn sa ho acc) w) := by
  by_cases h : 2 ≤ s0
  · obtain ⟨a1, a2, a3, a4⟩ := hs2 h
    by_cases h2 : s2 + 1 = s1
    · have hR : (stepF xa xi xh s0 s1 s2 s3 s4 5 ee kn sa ho acc) = ⟨0, 0, 0, 0, 0, [⟨3, 0, 0, 0, 4⟩]⟩ := by simp [stepF, fallF, h, h2]
      rw [hR]
      exact stick_hold s0 s1 s2 s3 s4 w h a3 (by omega) h2
    · by_cases h0 : s0 = 2
      · subst h0
        have hR : (stepF xa xi xh 2 s1 s2 s3 s4 5 ee kn sa ho acc) = ⟨2, s1, s2 + 1, s3, s4, []⟩ := by simp [stepF, fallF, h2]
        rw [hR]
        exact stick_sent s1 s2 s3 s4 w a3 (by omega) (by omega)
      · have h3 : 3 ≤ s0 := by omega
        obtain ⟨b1, b2⟩ := hs3 h3
        by_cases h4 : s3 - 1 = 0
        · have hR : (stepF xa xi xh s0 s1 s2 s3 s4 5 ee kn sa ho acc) = ⟨s0, s1, s2 + 1, s1 / 3, s4, [⟨4, 0, 0, 0, 0⟩]⟩ := by simp [stepF, fallF, h, h2, h0, h4]
          rw [hR]
          exact stick_keep s0 s1 s2 s3 s4 w h3 a3 (by omega) (by omega) ⟨b1, b2⟩ h4 ⟨a1, a2⟩
        · have hR : (stepF xa xi xh s0 s1 s2 s3 s4 5 ee kn sa ho acc) = ⟨s0, s1, s2 + 1, s3 - 1, s4, []⟩ := by simp [stepF, fallF, h, h2, h0, h4]
          rw [hR]
          exact stick_go s0 s1 s2 s3 s4 w h3 a3 (by omega) (by omega) ⟨b1, b2⟩ (by omega)
  · have hR : (stepF xa xi xh s0 s1 s2 s3 s4 5 ee kn sa ho acc) = ⟨s0, s1, s2, s3, s4, []⟩ := by simp [stepF, fallF, h]
    rw [hR]
    exact stick_low s0 s1 s2 s3 s4 w h
set_option maxHeartbeats 1000000 in
theorem sstep_1 (xa xi xh xp s0 s1 s2 s3 s4 : Int) (ga ca pa ma : Option Addr) (gx cx px mx : Nat) (gs cs : List (Int × Int)) (ps ms : List Int) (ee kn sa ho ix pr bw er : Int) (w : World)  : Calls Tryd.prog 14 #[.agg #[.int .i64 xa, .int .i64 xi, .int .i64 xh, .int .i64 xp], .agg #[.int .i64 s0, .int .i64 s1, .int .i64 s2, .int .i64 s3, .int .i64 s4], .agg #[.int .i64 1, .int .i64 kn, .int .i64 sa, .int .i64 ho, .int .i64 ix, .slice ga gs.length gx, .slice ca cs.length cx, .slice pa ps.length px, .int .i64 pr, .slice ma ms.length mx, .int .i64 bw, .int .i64 er, .int .i64 ee]] w (StR (fallF s0 6) w) := by
  have bR : Bl ((((w.alloc (.cells #[.int .i64 xa, .int .i64 xi, .int .i64 xh, .int .i64 xp] 28)).alloc (.cells #[.int .i64 s0, .int .i64 s1, .int .i64 s2, .int .i64 s3, .int .i64 s4] 25)).alloc (.cells #[.int .i64 1, .int .i64 kn, .int .i64 sa, .int .i64 ho, .int .i64 ix, .slice ga gs.length gx, .slice ca cs.length cx, .slice pa ps.length px, .int .i64 pr, .slice ma ms.length mx, .int .i64 bw, .int .i64 er, .int .i64 ee] 48)).alloc (.cells #[.int .i64 0, .int .i64 0, .int .i64 0, .int .i64 0, .int .i64 0] 25)) (w.heap.size + 1 + 1 + 1) [.int .i64 0, .int .i64 0, .int .i64 0, .int .i64 0, .int .i64 0] := Bl.new (((w.alloc (.cells #[.int .i64 xa, .int .i64 xi, .int .i64 xh, .int .i64 xp] 28)).alloc (.cells #[.int .i64 s0, .int .i64 s1, .int .i64 s2, .int .i64 s3, .int .i64 s4] 25)).alloc (.cells #[.int .i64 1, .int .i64 kn, .int .i64 sa, .int .i64 ho, .int .i64 ix, .slice ga gs.length gx, .slice ca cs.length cx, .slice pa ps.length px, .int .i64 pr, .slice ma ms.length mx, .int .i64 bw, .int .i64 er, .int .i64 ee] 48)) [.int .i64 0, .int .i64 0, .int .i64 0, .int .i64 0, .int .i64 0] 25 (w.heap.size + 1 + 1 + 1) (by simp)
  have B0 : Below w.heap.size w ((((w.alloc (.cells #[.int .i64 xa, .int .i64 xi, .int .i64 xh, .int .i64 xp] 28)).alloc (.cells #[.int .i64 s0, .int .i64 s1, .int .i64 s2, .int .i64 s3, .int .i64 s4] 25)).alloc (.cells #[.int .i64 1, .int .i64 kn, .int .i64 sa, .int .i64 ho, .int .i64 ix, .slice ga gs.length gx, .slice ca cs.length cx, .slice pa ps.length px, .int .i64 pr, .slice ma ms.length mx, .int .i64 bw, .int .i64 er, .int .i64 ee] 48)).alloc (.cells #[.int .i64 0, .int .i64 0, .int .i64 0, .int .i64 0, .int .i64 0] 25)) := (by repeat' (first | exact Below.refl _ _ | (refine Below.setCell ?_ (by simp <;> omega) _) | (refine Below.alloc ?_ (by simp <;> omega) _) | (refine Below.drew ?_)))
  have hz : ((((w.alloc (.cells #[.int .i64 xa, .int .i64 xi, .int .i64 xh, .int .i64 xp] 28)).alloc (.cells #[.int .i64 s0, .int .i64 s1, .int .i64 s2, .int .i64 s3, .int .i64 s4] 25)).alloc (.cells #[.int .i64 1, .int .i64 kn, .int .i64 sa, .int .i64 ho, .int .i64 ix, .slice ga gs.length gx, .slice ca cs.length cx, .slice pa ps.length px, .int .i64 pr, .slice ma ms.length mx, .int .i64 bw, .int .i64 er, .int .i64 ee] 48)).alloc (.cells #[.int .i64 0, .int .i64 0, .int .i64 0, .int .i64 0, .int .i64 0] 25)).heap.size = w.heap.size + 1 + 1 + 1 + 1 := by simp
  obtain ⟨R, hR⟩ : ∃ R, R = fallF s0 6 := ⟨_, rfl⟩
  rw [← hR]
  have HR := Lib.hid hR
  clear hR
  go_enter Tryd.func14, Tryd.ntmps14
  go_wp2_with fail
  refine (sfall_any s0 s1 s2 s3 s4 6 _ (by decide)).mono ?_
  rw [← HR.out]
  rintro e w1 ⟨v, rfl, ho, hb⟩
  rw [hz] at ho
  replace bR := bR.keep hb
  replace B0 := below_step B0 hb
  clear hb hz
  have r0 := bR.c 0 rfl
  have s0f := bR.f 0 (x := _) rfl
  have r1 := bR.c 1 rfl
  have s1f := bR.f 1 (x := _) rfl
  have r2 := bR.c 2 rfl
  have s2f := bR.f 2 (x := _) rfl
  have r3 := bR.c 3 rfl
  have s3f := bR.f 3 (x := _) rfl
  have r4 := bR.c 4 rfl
  have s4f := bR.f 4 (x := _) rfl
  go_wp2
  have bR2 := bR.set5 (.int .i64 R.a) (.int .i64 R.b) (.int .i64 R.c) (.int .i64 R.d) (.int .i64 R.e)
  have B2 := below_set5 B0 (B := w.heap.size + 1 + 1 + 1) (by omega) (.int .i64 R.a) (.int .i64 R.b) (.int .i64 R.c) (.int .i64 R.d) (.int .i64 R.e)
  have ho2 := (ho.far5 (B := w.heap.size + 1 + 1 + 1) (by omega) (.int .i64 R.a) (.int .i64 R.b) (.int .i64 R.c) (.int .i64 R.d) (.int .i64 R.e)).mono (base' := w.heap.size) (by omega)
  clear r0 s0f r1 s1f r2 s2f r3 s3f r4 s4f bR B0 ho
  obtain ⟨W2, hW2⟩ : ∃ W2, W2 = (((((w1.setCell ⟨w.heap.size + 1 + 1 + 1, 0, none⟩ (.int .i64 R.a)).setCell ⟨w.heap.size + 1 + 1 + 1, 1, none⟩ (.int .i64 R.b)).setCell ⟨w.heap.size + 1 + 1 + 1, 2, none⟩ (.int .i64 R.c)).setCell ⟨w.heap.size + 1 + 1 + 1, 3, none⟩ (.int .i64 R.d)).setCell ⟨w.heap.size + 1 + 1 + 1, 4, none⟩ (.int .i64 R.e)) := ⟨_, rfl⟩
  rw [← hW2] at bR2 B2 ho2 ⊢
  clear hW2
  have r0 := bR2.c 0 rfl
  have r1 := bR2.c 1 rfl
  have r2 := bR2.c 2 rfl
  have r3 := bR2.c 3 rfl
  have r4 := bR2.c 4 rfl
  exact bodyPost_ret (v := .tuple #[.agg #[.int .i64 R.a, .int .i64 R.b, .int .i64 R.c, .int .i64 R.d, .int .i64 R.e], v]) (by simp [results, Tryd.results14, go_sem, r0, r1, r2, r3, r4]) rfl ⟨v, rfl, ho2, B2⟩
set_option maxHeartbeats 1000000 in
theorem sstep_6 (xa xi xh xp s0 s1 s2 s3 s4 : Int) (ga ca pa ma : Option Addr) (gx cx px mx : Nat) (gs cs : List (Int × Int)) (ps ms : List Int) (ee kn sa ho ix pr bw er : Int) (w : World) (hee : ee ≠ 0) : Calls Tryd.prog 14 #[.agg #[.int .i64 xa, .int .i64 xi, .int .i64 xh, .int .i64 xp], .agg #[.int .i64 s0, .int .i64 s1, .int .i64 s2, .int .i64 s3, .int .i64 s4], .agg #[.int .i64 6, .int .i64 kn, .int .i64 sa, .int .i64 ho, .int .i64 ix, .slice ga gs.length gx, .slice ca cs.length cx, .slice pa ps.length px, .int .i64 pr, .slice ma ms.length mx, .int .i64 bw, .int .i64 er, .int .i64 ee]] w (StR (fallF s0 ee) w) := by
  have bR : Bl ((((w.alloc (.cells #[.int .i64 xa, .int .i64 xi, .int .i64 xh, .int .i64 xp] 28)).alloc (.cells #[.int .i64 s0, .int .i64 s1, .int .i64 s2, .int .i64 s3, .int .i64 s4] 25)).alloc (.cells #[.int .i64 6, .int .i64 kn, .int .i64 sa, .int .i64 ho, .int .i64 ix, .slice ga gs.length gx, .slice ca cs.length cx, .slice pa ps.length px, .int .i64 pr, .slice ma ms.length mx, .int .i64 bw, .int .i64 er, .int .i64 ee] 48)).alloc (.cells #[.int .i64 0, .int .i64 0, .int .i64 0, .int .i64 0, .int .i64 0] 25)) (w.heap.size + 1 + 1 + 1) [.int .i64 0, .int .i64 0, .int .i64 0, .int .i64 0, .int .i64 0] := Bl.new (((w.alloc (.cells #[.int .i64 xa, .int .i64 xi, .int .i64 xh, .int .i64 xp] 28)).alloc (.cells #[.int .i64 s0, .int .i64 s1, .int .i64 s2, .int .i64 s3, .int .i64 s4] 25)).alloc (.cells #[.int .i64 6, .int .i64 kn, .int .i64 sa, .int .i64 ho, .int .i64 ix, .slice ga gs.length gx, .slice ca cs.length cx, .slice pa ps.length px, .int .i64 pr, .slice ma ms.length mx, .int .i64 bw, .int .i64 er, .int .i64 ee] 48)) [.int .i64 0, .int .i64 0, .int .i64 0, .int .i64 0, .int .i64 0] 25 (w.heap.size + 1 + 1 + 1) (by simp)
  have B0 : Below w.heap.size w ((((w.alloc (.cells #[.int .i64 xa, .int .i64 xi, .int .i64 xh, .int .i64 xp] 28)).alloc (.cells #[.int .i64 s0, .int .i64 s1, .int .i64 s2, .int .i64 s3, .int .i64 s4] 25)).alloc (.cells #[.int .i64 6, .int .i64 kn, .int .i64 sa, .int .i64 ho, .int .i64 ix, .slice ga gs.length gx, .slice ca cs.length cx, .slice pa ps.length px, .int .i64 pr, .slice ma ms.length mx, .int .i64 bw, .int .i64 er, .int .i64 ee] 48)).alloc (.cells #[.int .i64 0, .int .i64 0, .int .i64 0, .int .i64 0, .int .i64 0] 25)) := (by repeat' (first | exact Below.refl _ _ | (refine Below.setCell ?_ (by simp <;> omega) _) | (refine Below.alloc ?_ (by simp <;> omega) _) | (refine Below.drew ?_)))
  have hz : ((((w.alloc (.cells #[.int .i64 xa, .int .i64 xi, .int .i64 xh, .int .i64 xp] 28)).alloc (.cells #[.int .i64 s0, .int .i64 s1, .int .i64 s2, .int .i64 s3, .int .i64 s4] 25)).alloc (.cells #[.int .i64 6, .int .i64 kn, .int .i64 sa, .int .i64 ho, .int .i64 ix, .slice ga gs.length gx, .slice ca cs.length cx, .slice pa ps.length px, .int .i64 pr, .slice ma ms.length mx, .int .i64 bw, .int .i64 er, .int .i64 ee] 48)).alloc (.cells #[.int .i64 0, .int .i64 0, .int .i64 0, .int .i64 0, .int .i64 0] 25)).heap.size = w.heap.size + 1 + 1 + 1 + 1 := by simp
  obtain ⟨R, hR⟩ : ∃ R, R = fallF s0 ee := ⟨_, rfl⟩
  rw [← hR]
  have HR := Lib.hid hR
  clear hR
  have HE := Lib.hid hee
  clear hee
  go_enter Tryd.func14, Tryd.ntmps14
  go_wp2_with fail
  refine (sfall_any s0 s1 s2 s3 s4 ee _ HE.out).mono ?_
  rw [← HR.out]
  rintro e w1 ⟨v, rfl, ho, hb⟩
  rw [hz] at ho
  replace bR := bR.keep hb
  replace B0 := below_step B0 hb
  clear hb hz
  have r0 := bR.c 0 rfl
  have s0f := bR.f 0 (x := _) rfl
  have r1 := bR.c 1 rfl
  have s1f := bR.f 1 (x := _) rfl
  have r2 := bR.c 2 rfl
  have s2f := bR.f 2 (x := _) rfl
  have r3 := bR.c 3 rfl
  have s3f := bR.f 3 (x := _) rfl
  have r4 := bR.c 4 rfl
  have s4f := bR.f 4 (x := _) rfl
  go_wp2
  have bR2 := bR.set5 (.int .i64 R.a) (.int .i64 R.b) (.int .i64 R.c) (.int .i64 R.d) (.int .i64 R.e)
  have B2 := below_set5 B0 (B := w.heap.size + 1 + 1 + 1) (by omega) (.int .i64 R.a) (.int .i64 R.b) (.int .i64 R.c) (.int .i64 R.d) (.int .i64 R.e)
  have ho2 := (ho.far5 (B := w.heap.size + 1 + 1 + 1) (by omega) (.int .i64 R.a) (.int .i64 R.b) (.int .i64 R.c) (.int .i64 R.d) (.int .i64 R.e)).mono (base' := w.heap.size) (by omega)
  clear r0 s0f r1 s1f r2 s2f r3 s3f r4 s4f bR B0 ho
  obtain ⟨W2, hW2⟩ : ∃ W2, W2 = (((((w1.setCell ⟨w.heap.size + 1 + 1 + 1, 0, none⟩ (.int .i64 R.a)).setCell ⟨w.heap.size + 1 + 1 + 1, 1, none⟩ (.int .i64 R.b)).setCell ⟨w.heap.size + 1 + 1 + 1, 2, none⟩ (.int .i64 R.c)).setCell ⟨w.heap.size + 1 + 1 + 1, 3, none⟩ (.int .i64 R.d)).setCell ⟨w.heap.size + 1 + 1 + 1, 4, none⟩ (.int .i64 R.e)) := ⟨_, rfl⟩
  rw [← hW2] at bR2 B2 ho2 ⊢
  clear hW2
  have r0 := bR2.c 0 rfl
  have r1 := bR2.c 1 rfl
  have r2 := bR2.c 2 rfl
  have r3 := bR2.c 3 rfl
  have r4 := bR2.c 4 rfl
  exact bodyPost_ret (v := .tuple #[.agg #[.int .i64 R.a, .int .i64 R.b, .int .i64 R.c, .int .i64 R.d, .int .i64 R.e], v]) (by simp [results, Tryd.results14, go_sem, r0, r1, r2, r3, r4]) rfl ⟨v, rfl, ho2, B2⟩
set_option maxHeartbeats 1000000 in
theorem sstep_4 (xa xi xh xp s0 s1 s2 s3 s4 : Int) (ga ca pa ma : Option Addr) (gx cx px mx : Nat) (gs cs : List (Int × Int)) (ps ms : List Int) (ee kn sa ho ix pr bw er : Int) (w : World) (acc : Bool) (hacc : kn = 1 → ∀ w, Calls Tryd.prog 37 #[.agg #[.int .i64 xa, .int .i64 xi, .int .i64 xh, .int .i64 xp], .agg #[.int .i64 1, .int .i64 sa, .int .i64 ho, .int .i64 ix, .slice ga gs.length gx, .slice ca cs.length cx, .slice pa ps.length px, .int .i64 pr, .slice ma ms.length mx, .int .i64 bw, .int .i64 er]] w fun e w' => e = .returned (.bool acc) ∧ Below w.heap.size w w') (hxh : 3 ≤ xh ∧ xh ≤ 255) (hho : kn = 1 → 3 ≤ ho ∧ ho ≤ 255) (hs0 : 0 ≤ s0 ∧ s0 ≤ 4) : Calls Tryd.prog 14 #[.agg #[.int .i64 xa, .int .i64 xi, .int .i64 xh, .int .i64 xp], .agg #[.int .i64 s0, .int .i64 s1, .int .i64 s2, .int .i64 s3, .int .i64 s4], .agg #[.int .i64 4, .int .i64 kn, .int .i64 sa, .int .i64 ho, .int .i64 ix, .slice ga gs.length gx, .slice ca cs.length cx, .slice pa ps.length px, .int .i64 pr, .slice ma ms.length mx, .int .i64 bw, .int .i64 er, .int .i64 ee]] w (StR (stepF xa xi xh s0 s1 s2 s3 s4 4 ee kn sa ho acc) w) := by
  have bR : Bl ((((w.alloc (.cells #[.int .i64 xa, .int .i64 xi, .int .i64 xh, .int .i64 xp] 28)).alloc (.cells #[.int .i64 s0, .int .i64 s1, .int .i64 s2, .int .i64 s3, .int .i64 s4] 25)).alloc (.cells #[.int .i64 4, .int .i64 kn, .int .i64 sa, .int .i64 ho, .int .i64 ix, .slice ga gs.length gx, .slice ca cs.length cx, .slice pa ps.length px, .int .i64 pr, .slice ma ms.length mx, .int .i64 bw, .int .i64 er, .int .i64 ee] 48)).alloc (.cells #[.int .i64 0, .int .i64 0, .int .i64 0, .int .i64 0, .int .i64 0] 25)) (w.heap.size + 1 + 1 + 1) [.int .i64 0, .int .i64 0, .int .i64 0, .int .i64 0, .int .i64 0] := Bl.new (((w.alloc (.cells #[.int .i64 xa, .int .i64 xi, .int .i64 xh, .int .i64 xp] 28)).alloc (.cells #[.int .i64 s0, .int .i64 s1, .int .i64 s2, .int .i64 s3, .int .i64 s4] 25)).alloc (.cells #[.int .i64 4, .int .i64 kn, .int .i64 sa, .int .i64 ho, .int .i64 ix, .slice ga gs.length gx, .slice ca cs.length cx, .slice pa ps.length px, .int .i64 pr, .slice ma ms.length mx, .int .i64 bw, .int .i64 er, .int .i64 ee] 48)) [.int .i64 0, .int .i64 0, .int .i64 0, .int .i64 0, .int .i64 0] 25 (w.heap.size + 1 + 1 + 1) (by simp)
  have B0 : Below w.heap.size w ((((w.alloc (.cells #[.int .i64 xa, .int .i64 xi, .int .i64 xh, .int .i64 xp] 28)).alloc (.cells #[.int .i64 s0, .int .i64 s1, .int .i64 s2, .int .i64 s3, .int .i64 s4] 25)).alloc (.cells #[.int .i64 4, .int .i64 kn, .int .i64 sa, .int .i64 ho, .int .i64 ix, .slice ga gs.length gx, .slice ca cs.length cx, .slice pa ps.length px, .int .i64 pr, .slice ma ms.length mx, .int .i64 bw, .int .i64 er, .int .i64 ee] 48)).alloc (.cells #[.int .i64 0, .int .i64 0, .int .i64 0, .int .i64 0, .int .i64 0] 25)) := (by repeat' (first | exact Below.refl _ _ | (refine Below.setCell ?_ (by simp <;> omega) _) | (refine Below.alloc ?_ (by simp <;> omega) _) | (refine Below.drew ?_)))
  have hz : ((((w.alloc (.cells #[.int .i64 xa, .int .i64 xi, .int .i64 xh, .int .i64 xp] 28)).alloc (.cells #[.int .i64 s0, .int .i64 s1, .int .i64 s2, .int .i64 s3, .int .i64 s4] 25)).alloc (.cells #[.int .i64 4, .int .i64 kn, .int .i64 sa, .int .i64 ho, .int .i64 ix, .slice ga gs.length gx, .slice ca cs.length cx, .slice pa ps.length px, .int .i64 pr, .slice ma ms.length mx, .int .i64 bw, .int .i64 er, .int .i64 ee] 48)).alloc (.cells #[.int .i64 0, .int .i64 0, .int .i64 0, .int .i64 0, .int .i64 0] 25)).heap.size = w.heap.size + 1 + 1 + 1 + 1 := by simp
  obtain ⟨R, hR⟩ : ∃ R, R = (stepF xa xi xh s0 s1 s2 s3 s4 4 ee kn sa ho acc) := ⟨_, rfl⟩
  rw [← hR]
  have HR := Lib.hid hR
  clear hR
  have H1 := Lib.hid hacc
  have H2 := Lib.hid hxh
  have H3 := Lib.hid hho
  have H4 := Lib.hid hs0
  clear hacc hxh hho hs0
  go_enter Tryd.func14, Tryd.ntmps14
  go_wp2_with fail
  refine (smes_any xa xi xh xp s0 s1 s2 s3 s4 ga ca pa ma gx cx px mx gs cs ps ms ee kn sa ho ix pr bw er _ acc H1.out H2.out H3.out H4.out).mono ?_
  rw [← HR.out]
  rintro e w1 ⟨v, rfl, ho, hb⟩
  rw [hz] at ho
  replace bR := bR.keep hb
  replace B0 := below_step B0 hb
  clear hb hz
  have r0 := bR.c 0 rfl
  have s0f := bR.f 0 (x := _) rfl
  have r1 := bR.c 1 rfl
  have s1f := bR.f 1 (x := _) rfl
  have r2 := bR.c 2 rfl
  have s2f := bR.f 2 (x := _) rfl
  have r3 := bR.c 3 rfl
  have s3f := bR.f 3 (x := _) rfl
  have r4 := bR.c 4 rfl
  have s4f := bR.f 4 (x := _) rfl
  go_wp2
  have bR2 := bR.set5 (.int .i64 R.a) (.int .i64 R.b) (.int .i64 R.c) (.int .i64 R.d) (.int .i64 R.e)
  have B2 := below_set5 B0 (B := w.heap.size + 1 + 1 + 1) (by omega) (.int .i64 R.a) (.int .i64 R.b) (.int .i64 R.c) (.int .i64 R.d) (.int .i64 R.e)
  have ho2 := (ho.far5 (B := w.heap.size + 1 + 1 + 1) (by omega) (.int .i64 R.a) (.int .i64 R.b) (.int .i64 R.c) (.int .i64 R.d) (.int .i64 R.e)).mono (base' := w.heap.size) (by omega)
  clear r0 s0f r1 s1f r2 s2f r3 s3f r4 s4f bR B0 ho
  obtain ⟨W2, hW2⟩ : ∃ W2, W2 = (((((w1.setCell ⟨w.heap.size + 1 + 1 + 1, 0, none⟩ (.int .i64 R.a)).setCell ⟨w.heap.size + 1 + 1 + 1, 1, none⟩ (.int .i64 R.b)).setCell ⟨w.heap.size + 1 + 1 + 1, 2, none⟩ (.int .i64 R.c)).setCell ⟨w.heap.size + 1 + 1 + 1, 3, none⟩ (.int .i64 R.d)).setCell ⟨w.heap.size + 1 + 1 + 1, 4, none⟩ (.int .i64 R.e)) := ⟨_, rfl⟩
  rw [← hW2] at bR2 B2 ho2 ⊢
  clear hW2
  have r0 := bR2.c 0 rfl
  have r1 := bR2.c 1 rfl
  have r2 := bR2.c 2 rfl
  have r3 := bR2.c 3 rfl
  have r4 := bR2.c 4 rfl
  exact bodyPost_ret (v := .tuple #[.agg #[.int .i64 R.a, .int .i64 R.b, .int .i64 R.c, .int .i64 R.d, .int .i64 R.e], v]) (by simp [results, Tryd.results14, go_sem, r0, r1, r2, r3, r4]) rfl ⟨v, rfl, ho2, B2⟩
set_option maxHeartbeats 1000000 in
theorem sstep_5 (xa xi xh xp s0 s1 s2 s3 s4 : Int) (ga ca pa ma : Option Addr) (gx cx px mx : Nat) (gs cs : List (Int × Int)) (ps ms : List Int) (ee kn sa ho ix pr bw er : Int) (w : World) (acc : Bool) (hs0 : 0 ≤ s0 ∧ s0 ≤ 4) (hs2 : 2 ≤ s0 → 3 ≤ s1 ∧ s1 ≤ 255 ∧ 0 ≤ s2 ∧ s2 < s1) (hs3 : 3 ≤ s0 → 1 ≤ s3 ∧ s3 ≤ 255) : Calls Tryd.prog 14 #[.agg #[.int .i64 xa, .int .i64 xi, .int .i64 xh, .int .i64 xp], .agg #[.int .i64 s0, .int .i64 s1, .int .i64 s2, .int .i64 s3, .int .i64 s4], .agg #[.int .i64 5, .int .i64 kn, .int .i64 sa, .int .i64 ho, .int .i64 ix, .slice ga gs.length gx, .slice ca cs.length cx, .slice pa ps.length px, .int .i64 pr, .slice ma ms.length mx, .int .i64 bw, .int .i64 er, .int .i64 ee]] w (StR (stepF xa xi xh s0 s1 s2 s3 s4 5 ee kn sa ho acc) w) := by
  have bR : Bl ((((w.alloc (.cells #[.int .i64 xa, .int .i64 xi, .int .i64 xh, .int .i64 xp] 28)).alloc (.cells #[.int .i64 s0, .int .i64 s1, .int .i64 s2, .int .i64 s3, .int .i64 s4] 25)).alloc (.cells #[.int .i64 5, .int .i64 kn, .int .i64 sa, .int .i64 ho, .int .i64 ix, .slice ga gs.length gx, .slice ca cs.length cx, .slice pa ps.length px, .int .i64 pr, .slice ma ms.length mx, .int .i64 bw, .int .i64 er, .int .i64 ee] 48)).alloc (.cells #[.int .i64 0, .int .i64 0, .int .i64 0, .int .i64 0, .int .i64 0] 25)) (w.heap.size + 1 + 1 + 1) [.int .i64 0, .int .i64 0, .int .i64 0, .int .i64 0, .int .i64 0] := Bl.new (((w.alloc (.cells #[.int .i64 xa, .int .i64 xi, .int .i64 xh, .int .i64 xp] 28)).alloc (.cells #[.int .i64 s0, .int .i64 s1, .int .i64 s2, .int .i64 s3, .int .i64 s4] 25)).alloc (.cells #[.int .i64 5, .int .i64 kn, .int .i64 sa, .int .i64 ho, .int .i64 ix, .slice ga gs.length gx, .slice ca cs.length cx, .slice pa ps.length px, .int .i64 pr, .slice ma ms.length mx, .int .i64 bw, .int .i64 er, .int .i64 ee] 48)) [.int .i64 0, .int .i64 0, .int .i64 0, .int .i64 0, .int .i64 0] 25 (w.heap.size + 1 + 1 + 1) (by simp)
  have B0 : Below w.heap.size w ((((w.alloc (.cells #[.int .i64 xa, .int .i64 xi, .int .i64 xh, .int .i64 xp] 28)).alloc (.cells #[.int .i64 s0, .int .i64 s1, .int .i64 s2, .int .i64 s3, .int .i64 s4] 25)).alloc (.cells #[.int .i64 5, .int .i64 kn, .int .i64 sa, .int .i64 ho, .int .i64 ix, .slice ga gs.length gx, .slice ca cs.length cx, .slice pa ps.length px, .int .i64 pr, .slice ma ms.length mx, .int .i64 bw, .int .i64 er, .int .i64 ee] 48)).alloc (.cells #[.int .i64 0, .int .i64 0, .int .i64 0, .int .i64 0, .int .i64 0] 25)) := (by repeat' (first | exact Below.refl _ _ | (refine Below.setCell ?_ (by simp <;> omega) _) | (refine Below.alloc ?_ (by simp <;> omega) _) | (refine Below.drew ?_)))
  have hz : ((((w.alloc (.cells #[.int .i64 xa, .int .i64 xi, .int .i64 xh, .int .i64 xp] 28)).alloc (.cells #[.int .i64 s0, .int .i64 s1, .int .i64 s2, .int .i64 s3, .int .i64 s4] 25)).alloc (.cells #[.int .i64 5, .int .i64 kn, .int .i64 sa, .int .i64 ho, .int .i64 ix, .slice ga gs.length gx, .slice ca cs.length cx, .slice pa ps.length px, .int .i64 pr, .slice ma ms.length mx, .int .i64 bw, .int .i64 er, .int .i64 ee] 48)).alloc (.cells #[.int .i64 0, .int .i64 0, .int .i64 0, .int .i64 0, .int .i64 0] 25)).heap.size = w.heap.size + 1 + 1 + 1 + 1 := by simp
  obtain ⟨R, hR⟩ : ∃ R, R = (stepF xa xi xh s0 s1 s2 s3 s4 5 ee kn sa ho acc) := ⟨_, rfl⟩
  rw [← hR]
  have HR := Lib.hid hR
  clear hR
  have H2 := Lib.hid hs2
  have H3 := Lib.hid hs3
  have H4 := Lib.hid hs0
  clear hs2 hs3 hs0
  go_enter Tryd.func14, Tryd.ntmps14
  go_wp2_with fail
  refine (stick_any xa xi xh s0 s1 s2 s3 s4 ee kn sa ho acc _ H4.out H2.out H3.out).mono ?_
  rw [← HR.out]
  rintro e w1 ⟨v, rfl, ho, hb⟩
  rw [hz] at ho
  replace bR := bR.keep hb
  replace B0 := below_step B0 hb
  clear hb hz
  have r0 := bR.c 0 rfl
  have s0f := bR.f 0 (x := _) rfl
  have r1 := bR.c 1 rfl
  have s1f := bR.f 1 (x := _) rfl
  have r2 := bR.c 2 rfl
  have s2f := bR.f 2 (x := _) rfl
  have r3 := bR.c 3 rfl
  have s3f := bR.f 3 (x := _) rfl
  have r4 := bR.c 4 rfl
  have s4f := bR.f 4 (x := _) rfl
  go_wp2
  have bR2 := bR.set5 (.int .i64 R.a) (.int .i64 R.b) (.int .i64 R.c) (.int .i64 R.d) (.int .i64 R.e)
  have B2 := below_set5 B0 (B := w.heap.size + 1 + 1 + 1) (by omega) (.int .i64 R.a) (.int .i64 R.b) (.int .i64 R.c) (.int .i64 R.d) (.int .i64 R.e)
  have ho2 := (ho.far5 (B := w.heap.size + 1 + 1 + 1) (by omega) (.int .i64 R.a) (.int .i64 R.b) (.int .i64 R.c) (.int .i64 R.d) (.int .i64 R.e)).mono (base' := w.heap.size) (by omega)
  clear r0 s0f r1 s1f r2 s2f r3 s3f r4 s4f bR B0 ho
  obtain ⟨W2, hW2⟩ : ∃ W2, W2 = (((((w1.setCell ⟨w.heap.size + 1 + 1 + 1, 0, none⟩ (.int .i64 R.a)).setCell ⟨w.heap.size + 1 + 1 + 1, 1, none⟩ (.int .i64 R.b)).setCell ⟨w.heap.size + 1 + 1 + 1, 2, none⟩ (.int .i64 R.c)).setCell ⟨w.heap.size + 1 + 1 + 1, 3, none⟩ (.int .i64 R.d)).setCell ⟨w.heap.size + 1 + 1 + 1, 4, none⟩ (.int .i64 R.e)) := ⟨_, rfl⟩
  rw [← hW2] at bR2 B2 ho2 ⊢
  clear hW2
  have r0 := bR2.c 0 rfl
  have r1 := bR2.c 1 rfl
  have r2 := bR2.c 2 rfl
  have r3 := bR2.c 3 rfl
  have r4 := bR2.c 4 rfl
  exact bodyPost_ret (v := .tuple #[.agg #[.int .i64 R.a, .int .i64 R.b, .int .i64 R.c, .int .i64 R.d, .int .i64 R.e], v]) (by simp [results, Tryd.results14, go_sem, r0, r1, r2, r3, r4]) rfl ⟨v, rfl, ho2, B2⟩
set_option maxHeartbeats 1000000 in
theorem sstep_0_idle (xa xi xh xp s1 s2 s3 s4 : Int) (ga ca pa ma : Option Addr) (gx cx px mx : Nat) (gs cs : List (Int × Int)) (ps ms : List Int) (ee kn sa ho ix pr bw er : Int) (w : World)  : Calls Tryd.prog 14 #[.agg #[.int .i64 xa, .int .i64 xi, .int .i64 xh, .int .i64 xp], .agg #[.int .i64 0, .int .i64 s1, .int .i64 s2, .int .i64 s3, .int .i64 s4], .agg #[.int .i64 0, .int .i64 kn, .int .i64 sa, .int .i64 ho, .int .i64 ix, .slice ga gs.length gx, .slice ca cs.length cx, .slice pa ps.length px, .int .i64 pr, .slice ma ms.length mx, .int .i64 bw, .int .i64 er, .int .i64 ee]] w (StR ⟨1, s1, s2, s3, s4, []⟩ w) := by
  go_enter Tryd.func14, Tryd.ntmps14
  go_wp2
  exact bodyPost_ret (v := .tuple #[.agg #[.int .i64 1, .int .i64 s1, .int .i64 s2, .int .i64 s3, .int .i64 s4], .slice none 0 0]) (by simp [results, Tryd.results14, go_sem]) rfl ⟨_, rfl, OwnG.nil _ _, (by repeat' (first | exact Below.refl _ _ | (refine Below.setCell ?_ (by simp <;> omega) _) | (refine Below.alloc ?_ (by simp <;> omega) _) | (refine Below.drew ?_)))⟩
set_option maxHeartbeats 1000000 in
theorem sstep_0_on (xa xi xh xp s0 s1 s2 s3 s4 : Int) (ga ca pa ma : Option Addr) (gx cx px mx : Nat) (gs cs : List (Int × Int)) (ps ms : List Int) (ee kn sa ho ix pr bw er : Int) (w : World) (h0 : ¬ s0 = 0) : Calls Tryd.prog 14 #[.agg #[.int .i64 xa, .int .i64 xi, .int .i64 xh, .int .i64 xp], .agg #[.int .i64 s0, .int .i64 s1, .int .i64 s2, .int .i64 s3, .int .i64 s4], .agg #[.int .i64 0, .int .i64 kn, .int .i64 sa, .int .i64 ho, .int .i64 ix, .slice ga gs.length gx, .slice ca cs.length cx, .slice pa ps.length px, .int .i64 pr, .slice ma ms.length mx, .int .i64 bw, .int .i64 er, .int .i64 ee]] w (StR ⟨s0, s1, s2, s3, s4, []⟩ w) := by
  have hq : (s0 == 0) = false := by simp [h0]
  clear h0
  go_enter Tryd.func14, Tryd.ntmps14
  go_wp2
  exact bodyPost_ret (v := .tuple #[.agg #[.int .i64 s0, .int .i64 s1, .int .i64 s2, .int .i64 s3, .int .i64 s4], .slice none 0 0]) (by simp [results, Tryd.results14, go_sem]) rfl ⟨_, rfl, OwnG.nil _ _, (by repeat' (first | exact Below.refl _ _ | (refine Below.setCell ?_ (by simp <;> omega) _) | (refine Below.alloc ?_ (by simp <;> omega) _) | (refine Below.drew ?_)))⟩
set_option maxHeartbeats 1000000 in
theorem sstep_3 (xa xi xh xp s0 s1 s2 s3 s4 : Int) (ga ca pa ma : Option Addr) (gx cx px mx : Nat) (gs cs : List (Int × Int)) (ps ms : List Int) (ee kn sa ho ix pr bw er : Int) (w : World)  : Calls Tryd.prog 14 #[.agg #[.int .i64 xa, .int .i64 xi, .int .i64 xh, .int .i64 xp], .agg #[.int .i64 s0, .int .i64 s1, .int .i64 s2, .int .i64 s3, .int .i64 s4], .agg #[.int .i64 3, .int .i64 kn, .int .i64 sa, .int .i64 ho, .int .i64 ix, .slice ga gs.length gx, .slice ca cs.length cx, .slice pa ps.length px, .int .i64 pr, .slice ma ms.length mx, .int .i64 bw, .int .i64 er, .int .i64 ee]] w (StR ⟨0, 0, 0, 0, 0, []⟩ w) := by
  go_enter Tryd.func14, Tryd.ntmps14
  go_wp2
  exact bodyPost_ret (v := .tuple #[.agg #[.int .i64 0, .int .i64 0, .int .i64 0, .int .i64 0, .int .i64 0], .slice none 0 0]) (by simp [results, Tryd.results14, go_sem]) rfl ⟨_, rfl, OwnG.nil _ _, (by repeat' (first | exact Below.refl _ _ | (refine Below.setCell ?_ (by simp <;> omega) _) | (refine Below.alloc ?_ (by simp <;> omega) _) | (refine Below.drew ?_)))⟩
set_option maxHeartbeats 1000000 in
theorem sstep_2_no (xa xi xh xp s0 s1 s2 s3 s4 : Int) (ga ca pa ma : Option Addr) (gx cx px mx : Nat) (gs cs : List (Int × Int)) (ps ms : List Int) (ee kn sa ho ix pr bw er : Int) (w : World) (h0 : ¬ s0 = 1) : Calls Tryd.prog 14 #[.agg #[.int .i64 xa, .int .i64 xi, .int .i64 xh, .int .i64 xp], .agg #[.int .i64 s0, .int .i64 s1, .int .i64 s2, .int .i64 s3, .int .i64 s4], .agg #[.int .i64 2, .int .i64 kn, .int .i64 sa, .int .i64 ho, .int .i64 ix, .slice ga gs.length gx, .slice ca cs.length cx, .slice pa ps.length px, .int .i64 pr, .slice ma ms.length mx, .int .i64 bw, .int .i64 er, .int .i64 ee]] w (StR ⟨s0, s1, s2, s3, s4, []⟩ w) := by
  have hq : (s0 == 1) = false := by simp [h0]
  clear h0
  go_enter Tryd.func14, Tryd.ntmps14
  go_wp2
  exact bodyPost_ret (v := .tuple #[.agg #[.int .i64 s0, .int .i64 s1, .int .i64 s2, .int .i64 s3, .int .i64 s4], .slice none 0 0]) (by simp [results, Tryd.results14, go_sem]) rfl ⟨_, rfl, OwnG.nil _ _, (by repeat' (first | exact Below.refl _ _ | (refine Below.setCell ?_ (by simp <;> omega) _) | (refine Below.alloc ?_ (by simp <;> omega) _) | (refine Below.drew ?_)))⟩
theorem sopen_any (xa xi xh xp : Int) (w : World) : Calls Tryd.prog 21 #[.agg #[.int .i64 xa, .int .i64 xi, .int .i64 xh, .int .i64 xp]] w fun e w' => e = .returned (.agg #[.int .i64 1, .int .i64 xa, .int .i64 xh, .int .i64 xi, .slice none 0 0, .slice none 0 0, .slice none 0 0, .int .i64 0, .slice none 0 0, .int .i64 0, .int .i64 0]) ∧ Below w.heap.size w w' := by
  go_enter Tryd.func21, Tryd.ntmps21
  go_wp2
  exact bodyPost_ret (v := .agg #[.int .i64 1, .int .i64 xa, .int .i64 xh, .int .i64 xi, .slice none 0 0, .slice none 0 0, .slice none 0 0, .int .i64 0, .slice none 0 0, .int .i64 0, .int .i64 0]) (by simp [results, Tryd.results21, go_sem]) rfl ⟨rfl, (by repeat' (first | exact Below.refl _ _ | (refine Below.setCell ?_ (by simp <;> omega) _) | (refine Below.alloc ?_ (by simp <;> omega) _) | (refine Below.drew ?_)))⟩
set_option maxHeartbeats 1000000 in
theorem sstep_2_link (xa xi xh xp s1 s2 s3 s4 : Int) (ga ca pa ma : Option Addr) (gx cx px mx : Nat) (gs cs : List (Int × Int)) (ps ms : List Int) (ee kn sa ho ix pr bw er : Int) (w : World)  : Calls Tryd.prog 14 #[.agg #[.int .i64 xa, .int .i64 xi, .int .i64 xh, .int .i64 xp], .agg #[.int .i64 1, .int .i64 s1, .int .i64 s2, .int .i64 s3, .int .i64 s4], .agg #[.int .i64 2, .int .i64 kn, .int .i64 sa, .int .i64 ho, .int .i64 ix, .slice ga gs.length gx, .slice ca cs.length cx, .slice pa ps.length px, .int .i64 pr, .slice ma ms.length mx, .int .i64 bw, .int .i64 er, .int .i64 ee]] w (StR ⟨2, xh, 0, 0, 0, [⟨1, xa, xh, xi, 0⟩]⟩ w) := by
  have bR : Bl ((((w.alloc (.cells #[.int .i64 xa, .int .i64 xi, .int .i64 xh, .int .i64 xp] 28)).alloc (.cells #[.int .i64 1, .int .i64 s1, .int .i64 s2, .int .i64 s3, .int .i64 s4] 25)).alloc (.cells #[.int .i64 2, .int .i64 kn, .int .i64 sa, .int .i64 ho, .int .i64 ix, .slice ga gs.length gx, .slice ca cs.length cx, .slice pa ps.length px, .int .i64 pr, .slice ma ms.length mx, .int .i64 bw, .int .i64 er, .int .i64 ee] 48)).alloc (.cells #[.int .i64 0, .int .i64 0, .int .i64 0, .int .i64 0, .int .i64 0] 25)) (w.heap.size + 1 + 1 + 1) [.int .i64 0, .int .i64 0, .int .i64 0, .int .i64 0, .int .i64 0] := Bl.new (((w.alloc (.cells #[.int .i64 xa, .int .i64 xi, .int .i64 xh, .int .i64 xp] 28)).alloc (.cells #[.int .i64 1, .int .i64 s1, .int .i64 s2, .int .i64 s3, .int .i64 s4] 25)).alloc (.cells #[.int .i64 2, .int .i64 kn, .int .i64 sa, .int .i64 ho, .int .i64 ix, .slice ga gs.length gx, .slice ca cs.length cx, .slice pa ps.length px, .int .i64 pr, .slice ma ms.length mx, .int .i64 bw, .int .i64 er, .int .i64 ee] 48)) [.int .i64 0, .int .i64 0, .int .i64 0, .int .i64 0, .int .i64 0] 25 (w.heap.size + 1 + 1 + 1) (by simp)
  have B0 : Below w.heap.size w ((((w.alloc (.cells #[.int .i64 xa, .int .i64 xi, .int .i64 xh, .int .i64 xp] 28)).alloc (.cells #[.int .i64 1, .int .i64 s1, .int .i64 s2, .int .i64 s3, .int .i64 s4] 25)).alloc (.cells #[.int .i64 2, .int .i64 kn, .int .i64 sa, .int .i64 ho, .int .i64 ix, .slice ga gs.length gx, .slice ca cs.length cx, .slice pa ps.length px, .int .i64 pr, .slice ma ms.length mx, .int .i64 bw, .int .i64 er, .int .i64 ee] 48)).alloc (.cells #[.int .i64 0, .int .i64 0, .int .i64 0, .int .i64 0, .int .i64 0] 25)) := (by repeat' (first | exact Below.refl _ _ | (refine Below.setCell ?_ (by simp <;> omega) _) | (refine Below.alloc ?_ (by simp <;> omega) _) | (refine Below.drew ?_)))
  have hz : ((((w.alloc (.cells #[.int .i64 xa, .int .i64 xi, .int .i64 xh, .int .i64 xp] 28)).alloc (.cells #[.int .i64 1, .int .i64 s1, .int .i64 s2, .int .i64 s3, .int .i64 s4] 25)).alloc (.cells #[.int .i64 2, .int .i64 kn, .int .i64 sa, .int .i64 ho, .int .i64 ix, .slice ga gs.length gx, .slice ca cs.length cx, .slice pa ps.length px, .int .i64 pr, .slice ma ms.length mx, .int .i64 bw, .int .i64 er, .int .i64 ee] 48)).alloc (.cells #[.int .i64 0, .int .i64 0, .int .i64 0, .int .i64 0, .int .i64 0] 25)).heap.size = w.heap.size + 1 + 1 + 1 + 1 := by simp
  have bS : Bl ((((w.alloc (.cells #[.int .i64 xa, .int .i64 xi, .int .i64 xh, .int .i64 xp] 28)).alloc (.cells #[.int .i64 1, .int .i64 s1, .int .i64 s2, .int .i64 s3, .int .i64 s4] 25)).alloc (.cells #[.int .i64 2, .int .i64 kn, .int .i64 sa, .int .i64 ho, .int .i64 ix, .slice ga gs.length gx, .slice ca cs.length cx, .slice pa ps.length px, .int .i64 pr, .slice ma ms.length mx, .int .i64 bw, .int .i64 er, .int .i64 ee] 48)).alloc (.cells #[.int .i64 0, .int .i64 0, .int .i64 0, .int .i64 0, .int .i64 0] 25)) (w.heap.size) [.int .i64 xa, .int .i64 xi, .int .i64 xh, .int .i64 xp] := (((Bl.new w [.int .i64 xa, .int .i64 xi, .int .i64 xh, .int .i64 xp] 28 (w.heap.size) (by simp)).alloc _).alloc _).alloc _
  go_enter Tryd.func14, Tryd.ntmps14
  go_wp2_with fail
  obtain ⟨V, eV⟩ : ∃ V, V = ((((w.alloc (.cells #[.int .i64 xa, .int .i64 xi, .int .i64 xh, .int .i64 xp] 28)).alloc (.cells #[.int .i64 1, .int .i64 s1, .int .i64 s2, .int .i64 s3, .int .i64 s4] 25)).alloc (.cells #[.int .i64 2, .int .i64 kn, .int .i64 sa, .int .i64 ho, .int .i64 ix, .slice ga gs.length gx, .slice ca cs.length cx, .slice pa ps.length px, .int .i64 pr, .slice ma ms.length mx, .int .i64 bw, .int .i64 er, .int .i64 ee] 48)).alloc (.cells #[.int .i64 0, .int .i64 0, .int .i64 0, .int .i64 0, .int .i64 0] 25)) := ⟨_, rfl⟩
  rw [← eV] at bR B0 hz bS ⊢
  clear eV
  replace hz := Lib.hid (Nat.le_of_eq hz.symm)
  refine wp_region_held_drew (S := fun w' => Bl w' (w.heap.size) [.int .i64 xa, .int .i64 xi, .int .i64 xh, .int .i64 xp]) (by kernel_rfl) (bS.keep (over_drew V)) (fun hHeld => ?_)
  refine wpAnyH_take (i := 0) (v := ?_) rfl (by kernel_rfl) (by kernel_rfl) (by kernel_rfl) (fun _ _ _ h => h) (Or.inl ⟨by rfl, ?_⟩) (by assumption) ?_
  rotate_left
  · intro wq hSq
    (try dsimp only at hSq)

    go_simp
    try rfl
  change wpAnyH _ _ _ _ _ _ _ (Act.put _ (some 28) _) _
  simp only [Act.put, List.setIfInBounds_toArray, List.set_cons_succ, List.set_cons_zero]
  refine wpAnyH_take (i := 1) (v := ?_) rfl (by kernel_rfl) (by kernel_rfl) (by kernel_rfl) (fun _ _ _ h => h) (Or.inl ⟨by rfl, ?_⟩) (by assumption) ?_
  rotate_left
  · intro wq hSq
    (try dsimp only at hSq)
    have q2 := hSq.c 2 rfl
    go_simp
    try rfl
  change wpAnyH _ _ _ _ _ _ _ (Act.put _ (some 29) _) _
  simp only [Act.put, List.setIfInBounds_toArray, List.set_cons_succ, List.set_cons_zero]
  refine wpAnyH_take (i := 2) (v := ?_) rfl (by kernel_rfl) (by kernel_rfl) (by kernel_rfl) (fun _ _ _ h => h) (Or.inl ⟨by rfl, ?_⟩) (by assumption) ?_
  rotate_left
  · intro wq hSq
    (try dsimp only at hSq)

    go_simp
    try rfl
  change wpAnyH _ _ _ _ _ _ _ (Act.put _ (some 30) _) _
  simp only [Act.put, List.setIfInBounds_toArray, List.set_cons_succ, List.set_cons_zero]
  refine wpAnyH_take (i := 3) (v := ?_) rfl (by kernel_rfl) (by kernel_rfl) (by kernel_rfl) (fun _ _ _ h => h) (Or.inl ⟨by rfl, ?_⟩) (by assumption) ?_
  rotate_left
  · intro wq hSq
    (try dsimp only at hSq)
    have q0 := hSq.c 0 rfl
    have q1 := hSq.c 1 rfl
    have q2 := hSq.c 2 rfl
    have q3 := hSq.c 3 rfl
    go_simp
    try rfl
  change wpAnyH _ _ _ _ _ _ _ (Act.put _ (some 31) _) _
  simp only [Act.put, List.setIfInBounds_toArray, List.set_cons_succ, List.set_cons_zero]
  refine wpAnyH_ready (rs := [4]) (by kernel_rfl) (by simp) ?_
  refine (AllReadyH.cons rfl (fun K hK => ?_) AllReadyH.nil)
  go_simp
  refine (sopen_any xa xi xh xp _).mono ?_
  rintro e wz ⟨rfl, hb⟩
  have O1 : Over V wz := over_step (over_drew _) hb
  have hs := O1.size
  have bS1 := bS.keep O1
  have bR1 := bR.keep O1
  have bR2 := bR1.alloc (.cells #[.int .i64 1, .int .i64 xa, .int .i64 xh, .int .i64 xi, .slice none 0 0, .slice none 0 0, .slice none 0 0, .int .i64 0, .slice none 0 0, .int .i64 0, .int .i64 0] 46)
  have B1 := below_step B0 O1
  have r0 := bR1.c 0 rfl
  have r0f := bR1.f 0 (x := _) rfl
  have t0 := bR2.c 0 rfl
  have t0f := bR2.f 0 (x := _) rfl
  have r1 := bR1.c 1 rfl
  have r1f := bR1.f 1 (x := _) rfl
  have t1 := bR2.c 1 rfl
  have t1f := bR2.f 1 (x := _) rfl
  have r2 := bR1.c 2 rfl
  have r2f := bR1.f 2 (x := _) rfl
  have t2 := bR2.c 2 rfl
  have t2f := bR2.f 2 (x := _) rfl
  have r3 := bR1.c 3 rfl
  have r3f := bR1.f 3 (x := _) rfl
  have t3 := bR2.c 3 rfl
  have t3f := bR2.f 3 (x := _) rfl
  have r4 := bR1.c 4 rfl
  have r4f := bR1.f 4 (x := _) rfl
  have t4 := bR2.c 4 rfl
  have t4f := bR2.f 4 (x := _) rfl
  clear hb
  refine hK.out _ _ bS1 (fun hHeld => ?_)
  clear hK K
  try simp only [Act.put, List.setIfInBounds_toArray, List.set_cons_zero, List.set_cons_succ]
  refine wpAnyH_ready (rs := [5, 6]) (by kernel_rfl) (by simp) ?_
  refine (AllReadyH.cons rfl (fun K hK => ?_) (AllReadyH.cons rfl (fun K hK => ?_) AllReadyH.nil))
  · go_simp
    refine hK.out _ _ (bS1.alloc _) (fun hHeld => ?_)
    clear hK K
    try simp only [Act.put, List.setIfInBounds_toArray, List.set_cons_zero, List.set_cons_succ]
    refine wpAnyH_ready (rs := [6]) (by kernel_rfl) (by simp) ?_
    refine (AllReadyH.cons rfl (fun K hK => ?_) AllReadyH.nil)
    go_simp
    refine hK.out _ _ ((((((bS1.alloc _).far (o := 0) (u := .int .i64 2) (by omega)).far (o := 1) (u := .int .i64 xh) (by omega)).far (o := 2) (u := .int .i64 0) (by omega)).far (o := 3) (u := .int .i64 0) (by omega)).far (o := 4) (u := .int .i64 0) (by omega)) (fun hHeld => ?_)
    clear hK K
    try simp only [Act.put, List.setIfInBounds_toArray, List.set_cons_zero, List.set_cons_succ]
    refine wpAnyH_ready (rs := [7]) (by kernel_rfl) (by simp) ?_
    refine (AllReadyH.cons rfl (fun K hK => ?_) AllReadyH.nil)
    go_simp
    refine hK.out _ _ ((((((bS1.alloc _).far (o := 0) (u := .int .i64 2) (by omega)).far (o := 1) (u := .int .i64 xh) (by omega)).far (o := 2) (u := .int .i64 0) (by omega)).far (o := 3) (u := .int .i64 0) (by omega)).far (o := 4) (u := .int .i64 0) (by omega)) (fun hHeld => ?_)
    clear hK K
    try simp only [Act.put, List.setIfInBounds_toArray, List.set_cons_zero, List.set_cons_succ]
    refine wpAnyH_done (by kernel_rfl) ?_ _
    have hbl := bR2.set5 (.int .i64 2) (.int .i64 xh) (.int .i64 0) (.int .i64 0) (.int .i64 0)
    have how := (OwnG.lit wz ⟨1, xa, xh, xi, 0⟩ V.heap.size hs).far5 (B := w.heap.size + 1 + 1 + 1) (by have := hz.out; omega) (.int .i64 2) (.int .i64 xh) (.int .i64 0) (.int .i64 0) (.int .i64 0)
    have hbe := below_set5 (B1.alloc B1.size (.cells #[.int .i64 1, .int .i64 xa, .int .i64 xh, .int .i64 xi, .slice none 0 0, .slice none 0 0, .slice none 0 0, .int .i64 0, .slice none 0 0, .int .i64 0, .int .i64 0] 46)) (B := w.heap.size + 1 + 1 + 1) (by omega) (.int .i64 2) (.int .i64 xh) (.int .i64 0) (.int .i64 0) (.int .i64 0)
    replace how := how.mono (base' := w.heap.size) (by have := hz.out; omega)
    simp only [Bm.cells] at how hbl hbe
    clear r0 r0f t0 t0f r1 r1f t1 t1f r2 r2f t2 t2f r3 r3f t3 t3f r4 r4f t4 t4f
    go_wp2
    obtain ⟨W2, hW2⟩ : ∃ W2, W2 = ((((((wz.alloc (.cells #[.int .i64 1, .int .i64 xa, .int .i64 xh, .int .i64 xi, .slice none 0 0, .slice none 0 0, .slice none 0 0, .int .i64 0, .slice none 0 0, .int .i64 0, .int .i64 0] 46)).setCell ⟨w.heap.size + 1 + 1 + 1, 0, none⟩ (.int .i64 2)).setCell ⟨w.heap.size + 1 + 1 + 1, 1, none⟩ (.int .i64 xh)).setCell ⟨w.heap.size + 1 + 1 + 1, 2, none⟩ (.int .i64 0)).setCell ⟨w.heap.size + 1 + 1 + 1, 3, none⟩ (.int .i64 0)).setCell ⟨w.heap.size + 1 + 1 + 1, 4, none⟩ (.int .i64 0)) := ⟨_, rfl⟩
    rw [← hW2] at hbl how hbe ⊢
    clear hW2
    have r0 := hbl.c 0 rfl
    have r1 := hbl.c 1 rfl
    have r2 := hbl.c 2 rfl
    have r3 := hbl.c 3 rfl
    have r4 := hbl.c 4 rfl
    exact bodyPost_ret (v := .tuple #[.agg #[.int .i64 2, .int .i64 xh, .int .i64 0, .int .i64 0, .int .i64 0], .slice (some ⟨wz.heap.size, 0, none⟩) 1 1]) (by simp [results, Tryd.results14, go_sem, r0, r1, r2, r3, r4]) rfl ⟨_, rfl, how, hbe⟩
  · go_simp
    refine hK.out _ _ (((((bS1.far (o := 0) (u := .int .i64 2) (by omega)).far (o := 1) (u := .int .i64 xh) (by omega)).far (o := 2) (u := .int .i64 0) (by omega)).far (o := 3) (u := .int .i64 0) (by omega)).far (o := 4) (u := .int .i64 0) (by omega)) (fun hHeld => ?_)
    clear hK K
    try simp only [Act.put, List.setIfInBounds_toArray, List.set_cons_zero, List.set_cons_succ]
    refine wpAnyH_ready (rs := [5]) (by kernel_rfl) (by simp) ?_
    refine (AllReadyH.cons rfl (fun K hK => ?_) AllReadyH.nil)
    go_simp
    refine hK.out _ _ ((((((bS1.far (o := 0) (u := .int .i64 2) (by omega)).far (o := 1) (u := .int .i64 xh) (by omega)).far (o := 2) (u := .int .i64 0) (by omega)).far (o := 3) (u := .int .i64 0) (by omega)).far (o := 4) (u := .int .i64 0) (by omega)).alloc _) (fun hHeld => ?_)
    clear hK K
    try simp only [Act.put, List.setIfInBounds_toArray, List.set_cons_zero, List.set_cons_succ]
    refine wpAnyH_ready (rs := [7]) (by kernel_rfl) (by simp) ?_
    refine (AllReadyH.cons rfl (fun K hK => ?_) AllReadyH.nil)
    go_simp
    refine hK.out _ _ ((((((bS1.far (o := 0) (u := .int .i64 2) (by omega)).far (o := 1) (u := .int .i64 xh) (by omega)).far (o := 2) (u := .int .i64 0) (by omega)).far (o := 3) (u := .int .i64 0) (by omega)).far (o := 4) (u := .int .i64 0) (by omega)).alloc _) (fun hHeld => ?_)
    clear hK K
    try simp only [Act.put, List.setIfInBounds_toArray, List.set_cons_zero, List.set_cons_succ]
    refine wpAnyH_done (by kernel_rfl) ?_ _
    have hbl := (bR1.set5 (.int .i64 2) (.int .i64 xh) (.int .i64 0) (.int .i64 0) (.int .i64 0)).alloc (.cells #[.int .i64 1, .int .i64 xa, .int .i64 xh, .int .i64 xi, .slice none 0 0, .slice none 0 0, .slice none 0 0, .int .i64 0, .slice none 0 0, .int .i64 0, .int .i64 0] 46)
    have how := OwnG.lit (((((wz.setCell ⟨w.heap.size + 1 + 1 + 1, 0, none⟩ (.int .i64 2)).setCell ⟨w.heap.size + 1 + 1 + 1, 1, none⟩ (.int .i64 xh)).setCell ⟨w.heap.size + 1 + 1 + 1, 2, none⟩ (.int .i64 0)).setCell ⟨w.heap.size + 1 + 1 + 1, 3, none⟩ (.int .i64 0)).setCell ⟨w.heap.size + 1 + 1 + 1, 4, none⟩ (.int .i64 0)) ⟨1, xa, xh, xi, 0⟩ V.heap.size (by simpa using hs)
    have hbe := (below_set5 B1 (B := w.heap.size + 1 + 1 + 1) (by omega) (.int .i64 2) (.int .i64 xh) (.int .i64 0) (.int .i64 0) (.int .i64 0)).alloc (by have := B1.size; simpa using this) (.cells #[.int .i64 1, .int .i64 xa, .int .i64 xh, .int .i64 xi, .slice none 0 0, .slice none 0 0, .slice none 0 0, .int .i64 0, .slice none 0 0, .int .i64 0, .int .i64 0] 46)
    replace how := how.mono (base' := w.heap.size) (by have := hz.out; omega)
    rw [show ((((((wz.setCell ⟨w.heap.size + 1 + 1 + 1, 0, none⟩ (.int .i64 2)).setCell ⟨w.heap.size + 1 + 1 + 1, 1, none⟩ (.int .i64 xh)).setCell ⟨w.heap.size + 1 + 1 + 1, 2, none⟩ (.int .i64 0)).setCell ⟨w.heap.size + 1 + 1 + 1, 3, none⟩ (.int .i64 0)).setCell ⟨w.heap.size + 1 + 1 + 1, 4, none⟩ (.int .i64 0))).heap.size = wz.heap.size by simp] at how
    simp only [Bm.cells] at how hbl hbe
    clear r0 r0f t0 t0f r1 r1f t1 t1f r2 r2f t2 t2f r3 r3f t3 t3f r4 r4f t4 t4f
    go_wp2
    obtain ⟨W2, hW2⟩ : ∃ W2, W2 = ((((((wz.setCell ⟨w.heap.size + 1 + 1 + 1, 0, none⟩ (.int .i64 2)).setCell ⟨w.heap.size + 1 + 1 + 1, 1, none⟩ (.int .i64 xh)).setCell ⟨w.heap.size + 1 + 1 + 1, 2, none⟩ (.int .i64 0)).setCell ⟨w.heap.size + 1 + 1 + 1, 3, none⟩ (.int .i64 0)).setCell ⟨w.heap.size + 1 + 1 + 1, 4, none⟩ (.int .i64 0)).alloc (.cells #[.int .i64 1, .int .i64 xa, .int .i64 xh, .int .i64 xi, .slice none 0 0, .slice none 0 0, .slice none 0 0, .int .i64 0, .slice none 0 0, .int .i64 0, .int .i64 0] 46)) := ⟨_, rfl⟩
    rw [← hW2] at hbl how hbe ⊢
    clear hW2
    have r0 := hbl.c 0 rfl
    have r1 := hbl.c 1 rfl
    have r2 := hbl.c 2 rfl
    have r3 := hbl.c 3 rfl
    have r4 := hbl.c 4 rfl
    exact bodyPost_ret (v := .tuple #[.agg #[.int .i64 2, .int .i64 xh, .int .i64 0, .int .i64 0, .int .i64 0], .slice (some ⟨wz.heap.size, 0, none⟩) 1 1]) (by simp [results, Tryd.results14, go_sem, r0, r1, r2, r3, r4]) rfl ⟨_, rfl, how, hbe⟩
theorem sstep_any (xa xi xh xp s0 s1 s2 s3 s4 : Int) (ga ca pa ma : Option Addr) (gx cx px mx : Nat) (gs cs : List (Int × Int)) (ps ms : List Int) (ek ee kn sa ho ix pr bw er : Int) (w : World) (acc : Bool) (hacc : kn = 1 → ∀ w, Calls Tryd.prog 37 #[.agg #[.int .i64 xa, .int .i64 xi, .int .i64 xh, .int .i64 xp], .agg #[.int .i64 1, .int .i64 sa, .int .i64 ho, .int .i64 ix, .slice ga gs.length gx, .slice ca cs.length cx, .slice pa ps.length px, .int .i64 pr, .slice ma ms.length mx, .int .i64 bw, .int .i64 er]] w fun e w' => e = .returned (.bool acc) ∧ Below w.heap.size w w') (hxh : 3 ≤ xh ∧ xh ≤ 255) (hho : kn = 1 → 3 ≤ ho ∧ ho ≤ 255) (hs0 : 0 ≤ s0 ∧ s0 ≤ 4) (hs2 : 2 ≤ s0 → 3 ≤ s1 ∧ s1 ≤ 255 ∧ 0 ≤ s2 ∧ s2 < s1) (hs3 : 3 ≤ s0 → 1 ≤ s3 ∧ s3 ≤ 255) (hek : 0 ≤ ek ∧ ek ≤ 6) (hee : ek = 6 → ee ≠ 0) : Calls Tryd.prog 14 #[.agg #[.int .i64 xa, .int .i64 xi, .int .i64 xh, .int .i64 xp], .agg #[.int .i64 s0, .int .i64 s1, .int .i64 s2, .int .i64 s3, .int .i64 s4], .agg #[.int .i64 ek, .int .i64 kn, .int .i64 sa, .int .i64 ho, .int .i64 ix, .slice ga gs.length gx, .slice ca cs.length cx, .slice pa ps.length px, .int .i64 pr, .slice ma ms.length mx, .int .i64 bw, .int .i64 er, .int .i64 ee]] w (StR (stepF xa xi xh s0 s1 s2 s3 s4 ek ee kn sa ho acc) w) := by
  rcases (show ek = 0 ∨ ek = 1 ∨ ek = 2 ∨ ek = 3 ∨ ek = 4 ∨ ek = 5 ∨ ek = 6 by omega) with rfl | rfl | rfl | rfl | rfl | rfl | rfl
  · by_cases h : s0 = 0
    · subst h
      have hR : (stepF xa xi xh 0 s1 s2 s3 s4 0 ee kn sa ho acc) = ⟨1, s1, s2, s3, s4, []⟩ := by simp [stepF, fallF]
      rw [hR]
      exact sstep_0_idle xa xi xh xp s1 s2 s3 s4 ga ca pa ma gx cx px mx gs cs ps ms ee kn sa ho ix pr bw er w
    · have hR : (stepF xa xi xh s0 s1 s2 s3 s4 0 ee kn sa ho acc) = ⟨s0, s1, s2, s3, s4, []⟩ := by simp [stepF, fallF, h]
      rw [hR]
      exact sstep_0_on xa xi xh xp s0 s1 s2 s3 s4 ga ca pa ma gx cx px mx gs cs ps ms ee kn sa ho ix pr bw er w h
  · have hR : (stepF xa xi xh s0 s1 s2 s3 s4 1 ee kn sa ho acc) = fallF s0 6 := by simp [stepF]
    rw [hR]
    exact sstep_1 xa xi xh xp s0 s1 s2 s3 s4 ga ca pa ma gx cx px mx gs cs ps ms ee kn sa ho ix pr bw er w
  · by_cases h : s0 = 1
    · subst h
      have hR : (stepF xa xi xh 1 s1 s2 s3 s4 2 ee kn sa ho acc) = ⟨2, xh, 0, 0, 0, [⟨1, xa, xh, xi, 0⟩]⟩ := by simp [stepF, fallF]
      rw [hR]
      exact sstep_2_link xa xi xh xp s1 s2 s3 s4 ga ca pa ma gx cx px mx gs cs ps ms ee kn sa ho ix pr bw er w
    · have hR : (stepF xa xi xh s0 s1 s2 s3 s4 2 ee kn sa ho acc) = ⟨s0, s1, s2, s3, s4, []⟩ := by simp [stepF, fallF, h]
      rw [hR]
      exact sstep_2_no xa xi xh xp s0 s1 s2 s3 s4 ga ca pa ma gx cx px mx gs cs ps ms ee kn sa ho ix pr bw er w h
  · have hR : (stepF xa xi xh s0 s1 s2 s3 s4 3 ee kn sa ho acc) = ⟨0, 0, 0, 0, 0, []⟩ := by simp [stepF, fallF]
    rw [hR]
    exact sstep_3 xa xi xh xp s0 s1 s2 s3 s4 ga ca pa ma gx cx px mx gs cs ps ms ee kn sa ho ix pr bw er w
  · exact sstep_4 xa xi xh xp s0 s1 s2 s3 s4 ga ca pa ma gx cx px mx gs cs ps ms ee kn sa ho ix pr bw er w acc hacc hxh hho hs0
  · exact sstep_5 xa xi xh xp s0 s1 s2 s3 s4 ga ca pa ma gx cx px mx gs cs ps ms ee kn sa ho ix pr bw er w acc hs0 hs2 hs3
  · have hR : (stepF xa xi xh s0 s1 s2 s3 s4 6 ee kn sa ho acc) = fallF s0 ee := by simp [stepF]
    rw [hR]
    exact sstep_6 xa xi xh xp s0 s1 s2 s3 s4 ga ca pa ma gx cx px mx gs cs ps ms ee kn sa ho ix pr bw er w (hee rfl)
end Go.Proofs.YtnklnibjlhnicaaRRRRDoor
