/-
  The model's greeting. Conditions: those in each contract.
  Greet of the model; equal sessions. Conditions: those in each contract.
-/
import Derived.Test.YtnklnibjlhnicaaRRRRDoorZ9
namespace Go.Proofs.YtnklnibjlhnicaaRRRRDoor
open Go.ChangeShapes Go.WideShapes Go.ChangeAt Go.RowKit Go.BigFrame Go.Joins
set_option linter.unusedVariables false
set_option maxRecDepth 100000
set_option linter.unusedSimpArgs false

theorem Row.cells1 {w : World} {base g o n c : Nat} {m : Bm} {k : List Bm} (h : Row w base (.slice (some ⟨g, o, none⟩) n c) (m :: k)) : k.length + 1 ≤ c ∧ g < w.heap.size ∧ ∀ j x, m.cells[j]? = some x → w.cell? ⟨g, o + j, none⟩ = some x := by
  rcases h with ⟨-, h⟩ | ⟨g', o', c', hv, c1, c2, c3, c4, c5, c6, c7⟩
  · cases h
  · simp at hv
    obtain ⟨⟨rfl, rfl⟩, rfl, rfl⟩ := hv
    refine ⟨by simpa using c1, c4, fun j x hj => c5 j x ?_⟩
    have e : flatM (m :: k) = m.cells ++ flatM k := by simp [flatM]
    rw [e, List.getElem?_append_left (List.getElem?_eq_some_iff.1 hj).1]
    exact hj
set_option maxHeartbeats 16000000 in
theorem sl4greet (aa ai ah ap ba bi bh bp : Int) (w : World) (hsz : 1 < w.heap.size) (HA3 : Hid (3 ≤ ah ∧ ah ≤ 255)) (HB3 : Hid (3 ≤ bh ∧ bh ≤ 255)) (p q t : Bool) (HP : Hid (p = l4B aa ai ap 1 ba bi)) (HQ : Hid (q = l4B ba bi bp 1 aa ai)) (HT : Hid (t = (p && q))) (G J : St) (HG : Hid (G = gF ah ba bh t)) (HJ : Hid (J = gF bh aa ah t)) : Calls Tryd.prog 9 #[.agg #[.int .i64 aa, .int .i64 ai, .int .i64 ah, .int .i64 ap], .agg #[.int .i64 ba, .int .i64 bi, .int .i64 bh, .int .i64 bp]] w fun e w' => e = .returned (.tuple #[.agg #[.int .i64 G.a, .int .i64 G.b, .int .i64 G.c, .int .i64 G.d, .int .i64 G.e], .agg #[.int .i64 J.a, .int .i64 J.b, .int .i64 J.c, .int .i64 J.d, .int .i64 J.e]]) ∧ Below w.heap.size w w' := by
  obtain ⟨bA, bB, bR, bS, B0, z⟩ := four w [.int .i64 aa, .int .i64 ai, .int .i64 ah, .int .i64 ap] [.int .i64 ba, .int .i64 bi, .int .i64 bh, .int .i64 bp] [.int .i64 0, .int .i64 0, .int .i64 0, .int .i64 0, .int .i64 0] [.int .i64 0, .int .i64 0, .int .i64 0, .int .i64 0, .int .i64 0] 28 28 25 25
  clear z
  go_enter Tryd.func9, Tryd.ntmps9
  have fa0 := bA.c 0 rfl
  have fa1 := bA.c 1 rfl
  have fa2 := bA.c 2 rfl
  have fa3 := bA.c 3 rfl
  go_wp2_with fail
  clear fa0 fa1 fa2 fa3
  refine (sst aa ai ah ap HA3.out _).mono ?_
  rintro e w1 ⟨v1, rfl, o1, hb⟩
  clear o1
  replace bA := bA.keep hb
  replace bB := bB.keep hb
  replace bR := bR.keep hb
  replace bS := bS.keep hb
  replace B0 := below_step B0 hb
  clear hb
  have hS1 := bS.lt
  obtain ⟨bX, hb, z⟩ := one w1 [.int .i64 1, .int .i64 0, .int .i64 0, .int .i64 0, .int .i64 0] 25
  clear z
  replace bA := bA.keep hb
  replace bB := bB.keep hb
  replace bR := bR.keep hb
  replace bS := bS.keep hb
  replace B0 := below_step B0 hb
  clear hb
  have fb0 := bB.c 0 rfl
  have fb1 := bB.c 1 rfl
  have fb2 := bB.c 2 rfl
  have fb3 := bB.c 3 rfl
  go_wp2_with fail
  clear fb0 fb1 fb2 fb3
  refine (sst ba bi bh bp HB3.out _).mono ?_
  rintro e w2 ⟨v2, rfl, o2, hb⟩
  clear o2
  replace bA := bA.keep hb
  replace bB := bB.keep hb
  replace bR := bR.keep hb
  replace bS := bS.keep hb
  replace bX := bX.keep hb
  replace B0 := below_step B0 hb
  clear hb
  obtain ⟨bY, hb, z⟩ := one w2 [.int .i64 1, .int .i64 0, .int .i64 0, .int .i64 0, .int .i64 0] 25
  clear z
  have hXY := bX.lt
  replace bA := bA.keep hb
  replace bB := bB.keep hb
  replace bR := bR.keep hb
  replace bS := bS.keep hb
  replace bX := bX.keep hb
  replace B0 := below_step B0 hb
  clear hb
  have fa0 := bA.c 0 rfl
  have fa1 := bA.c 1 rfl
  have fa2 := bA.c 2 rfl
  have fa3 := bA.c 3 rfl
  have lfa := bA.lt
  have gx0 := bX.c 0 (x := _) rfl
  have gxf0 := bX.f 0 (x := _) rfl
  have gx1 := bX.c 1 (x := _) rfl
  have gxf1 := bX.f 1 (x := _) rfl
  have gx2 := bX.c 2 (x := _) rfl
  have gxf2 := bX.f 2 (x := _) rfl
  have gx3 := bX.c 3 (x := _) rfl
  have gxf3 := bX.f 3 (x := _) rfl
  have gx4 := bX.c 4 (x := _) rfl
  have gxf4 := bX.f 4 (x := _) rfl
  have lgx := bX.lt
  go_wp2_with fail
  clear fa0 fa1 fa2 fa3 lfa
  clear gx0 gxf0 gx1 gxf1 gx2 gxf2 gx3 gxf3 gx4 gxf4 lgx
  obtain ⟨W0, eW⟩ : ∃ u, u = w2.alloc (.cells #[.int .i64 1, .int .i64 0, .int .i64 0, .int .i64 0, .int .i64 0] 25) := ⟨_, rfl⟩
  obtain ⟨PX, eX⟩ : ∃ u, u = w1.heap.size := ⟨_, rfl⟩
  obtain ⟨PY, eY⟩ : ∃ u, u = w2.heap.size := ⟨_, rfl⟩
  rw [← eX] at bX hS1 hXY ⊢
  rw [← eY] at bY hXY ⊢
  rw [← eW] at bX bY bA bB bR bS B0 ⊢
  clear eW eX eY
  have hXB := bX.lt
  have hYB := bY.lt
  have H := GS.init (xs := fun _ => [.int .i64 1, .int .i64 0, .int .i64 0, .int .i64 0, .int .i64 0]) (fs := fun _ => [.int .i64 1, .int .i64 0, .int .i64 0, .int .i64 0, .int .i64 0]) bX bY (by omega) (by omega) (by omega)
  have hA : w.heap.size < W0.heap.size ∧ w.heap.size ≠ PX ∧ w.heap.size ≠ PY := by omega
  have hB : w.heap.size + 1 < W0.heap.size ∧ w.heap.size + 1 ≠ PX ∧ w.heap.size + 1 ≠ PY := by omega
  have hR : w.heap.size + 1 + 1 < W0.heap.size ∧ w.heap.size + 1 + 1 ≠ PX ∧ w.heap.size + 1 + 1 ≠ PY := by omega
  have hS : w.heap.size + 1 + 1 + 1 < W0.heap.size ∧ w.heap.size + 1 + 1 + 1 ≠ PX ∧ w.heap.size + 1 + 1 + 1 ≠ PY := by omega
  have HLO := Lib.hid (show w.heap.size ≤ PX ∧ w.heap.size ≤ PY ∧ w.heap.size ≤ W0.heap.size by omega)
  have n1 : PX ≠ PY := by omega
  have n2 : PY ≠ PX := by omega
  have n3 : w.heap.size ≠ PX := by omega
  have n4 : w.heap.size ≠ PY := by omega
  have n5 : w.heap.size + 1 ≠ PX := by omega
  have n6 : w.heap.size + 1 ≠ PY := by omega
  have n7 : PX ≠ w.heap.size := by omega
  have n8 : PY ≠ w.heap.size := by omega
  have n9 : PX ≠ w.heap.size + 1 := by omega
  have n10 : PY ≠ w.heap.size + 1 := by omega
  clear bX bY hS1 hXY hXB hYB
  refine (slk aa ai ah ap HA3.out _).mono ?_
  rintro e w3 ⟨v3, rfl, o3, hb⟩
  obtain ⟨g3, p3, c3, rfl, -, -, -⟩ := (Row.of o3).cap1e
  have H3 := H.link hb o3 (by simp) (.int .i64 2) (.int .i64 ah) (.int .i64 0) (.int .i64 0) (.int .i64 0)
  have bX3 := H.bX.keep hb
  have H3b := H.below hb
  clear hb o3 H
  have gx0 := bX3.c 0 (x := _) rfl
  have gxf0 := bX3.f 0 (x := _) rfl
  have gx1 := bX3.c 1 (x := _) rfl
  have gxf1 := bX3.f 1 (x := _) rfl
  have gx2 := bX3.c 2 (x := _) rfl
  have gxf2 := bX3.f 2 (x := _) rfl
  have gx3 := bX3.c 3 (x := _) rfl
  have gxf3 := bX3.f 3 (x := _) rfl
  have gx4 := bX3.c 4 (x := _) rfl
  have gxf4 := bX3.f 4 (x := _) rfl
  have lgx := bX3.lt
  have bfb := H3b.kp.bl bB hB.1 hB.2.1 hB.2.2
  have fb0 := bfb.c 0 rfl
  have fb1 := bfb.c 1 rfl
  have fb2 := bfb.c 2 rfl
  have fb3 := bfb.c 3 rfl
  have lfb := bfb.lt
  have gy0 := H3b.bF.c 0 (x := _) rfl
  have gyf0 := H3b.bF.f 0 (x := _) rfl
  have gy1 := H3b.bF.c 1 (x := _) rfl
  have gyf1 := H3b.bF.f 1 (x := _) rfl
  have gy2 := H3b.bF.c 2 (x := _) rfl
  have gyf2 := H3b.bF.f 2 (x := _) rfl
  have gy3 := H3b.bF.c 3 (x := _) rfl
  have gyf3 := H3b.bF.f 3 (x := _) rfl
  have gy4 := H3b.bF.c 4 (x := _) rfl
  have gyf4 := H3b.bF.f 4 (x := _) rfl
  have lgy := H3b.bF.lt
  go_wp2_with fail
  clear gx0 gxf0 gx1 gxf1 gx2 gxf2 gx3 gxf3 gx4 gxf4 lgx
  clear fb0 fb1 fb2 fb3 lfb
  clear gy0 gyf0 gy1 gyf1 gy2 gyf2 gy3 gyf3 gy4 gyf4 lgy
  clear bX3 H3b bfb
  refine (slk ba bi bh bp HB3.out _).mono ?_
  rintro e w4 ⟨v4, rfl, o4, hb⟩
  obtain ⟨g4, p4, c4, rfl, -, -, -⟩ := (Row.of o4).cap1e
  have H4 := H3.symm.link hb o4 (by simp) (.int .i64 2) (.int .i64 bh) (.int .i64 0) (.int .i64 0) (.int .i64 0)
  have bY4 := (H3.symm.below hb).bX
  clear hb o4 H3
  have gy0 := bY4.c 0 (x := _) rfl
  have gyf0 := bY4.f 0 (x := _) rfl
  have gy1 := bY4.c 1 (x := _) rfl
  have gyf1 := bY4.f 1 (x := _) rfl
  have gy2 := bY4.c 2 (x := _) rfl
  have gyf2 := bY4.f 2 (x := _) rfl
  have gy3 := bY4.c 3 (x := _) rfl
  have gyf3 := bY4.f 3 (x := _) rfl
  have gy4 := bY4.c 4 (x := _) rfl
  have gyf4 := bY4.f 4 (x := _) rfl
  have lgy := bY4.lt
  go_wp2_with fail
  clear gy0 gyf0 gy1 gyf1 gy2 gyf2 gy3 gyf3 gy4 gyf4 lgy
  clear bY4
  obtain ⟨W4, e4⟩ : ∃ u, u = (((((w4.setCell ⟨PY, 0, none⟩ (.int .i64 2)).setCell ⟨PY, 1, none⟩ (.int .i64 bh)).setCell ⟨PY, 2, none⟩ (.int .i64 0)).setCell ⟨PY, 3, none⟩ (.int .i64 0)).setCell ⟨PY, 4, none⟩ (.int .i64 0)) := ⟨_, rfl⟩
  rw [← e4] at H4 ⊢
  clear e4
  refine wp_loop_rounds 11 ?_
  rw [rounds_succ]
  obtain ⟨Y, eY⟩ : ∃ Y, Y = stepF ba bi bh 2 bh 0 0 0 4 0 1 aa ah q := ⟨_, rfl⟩
  obtain ⟨my, hmy, hky, hoy, hay⟩ := first_out ba bi bh aa ah q Y eY
  have KY := Lib.hid (first_ok ba bi bh aa ah q Y eY HB3.out HA3.out)
  obtain ⟨X, eX⟩ : ∃ X, X = stepF aa ai ah 2 ah 0 0 0 4 0 1 ba bh p := ⟨_, rfl⟩
  obtain ⟨mx, hmx, hkx, hox, hax⟩ := first_out aa ai ah ba bh p X eX
  have KX := Lib.hid (first_ok aa ai ah ba bh p X eX HA3.out HB3.out)
  have HJS : Hid (J = stepF ba bi bh Y.a Y.b Y.c Y.d Y.e 4 0 mx.k mx.a mx.h (l4B ba bi bp mx.k mx.a mx.i)) := Lib.hid (by rw [last_out ba bi bh aa ah q p _ Y eY mx hkx hox, Bool.and_comm q p, ← HT.out]; exact HJ.out)
  have HGS : Hid (G = stepF aa ai ah X.a X.b X.c X.d X.e 4 0 my.k my.a my.h (l4B aa ai ap my.k my.a my.i)) := Lib.hid (by rw [last_out aa ai ah ba bh p q _ X eX my hky hoy, ← HT.out]; exact HG.out)
  have hJl : J.l = [] := by rw [HJ.out]; exact gF_l _ _ _ _
  have hGl : G.l = [] := by rw [HG.out]; exact gF_l _ _ _ _
  have HY := Lib.hid (And.intro hay (And.intro hky hoy))
  have HX := Lib.hid (And.intro hax (And.intro hkx hox))
  replace eY := Lib.hid eY
  replace eX := Lib.hid eX
  clear hky hoy hay hkx hox hax
  obtain ⟨hcc5, lg5, hq5⟩ := Row.cells1 H4.sF.r
  simp at hcc5
  have q0 := hq5 0 (.int .i64 (1)) rfl
  rw [Nat.add_zero] at q0
  have q1 := hq5 1 (.int .i64 (aa)) rfl
  have q2 := hq5 2 (.int .i64 (ah)) rfl
  have q3 := hq5 3 (.int .i64 (ai)) rfl
  have q4 := hq5 4 (.slice none 0 0) rfl
  have q5 := hq5 5 (.slice none 0 0) rfl
  have q6 := hq5 6 (.slice none 0 0) rfl
  have q7 := hq5 7 (.int .i64 0) rfl
  have q8 := hq5 8 (.slice none 0 0) rfl
  have q9 := hq5 9 (.int .i64 0) rfl
  have q10 := hq5 10 (.int .i64 (0)) rfl
  clear hq5
  have bfb := H4.kp.bl bB hB.1 hB.2.2 hB.2.1
  have fb0 := bfb.c 0 rfl
  have fb1 := bfb.c 1 rfl
  have fb2 := bfb.c 2 rfl
  have fb3 := bfb.c 3 rfl
  have lfb := bfb.lt
  have gz0 := H4.bX.c 0 (x := _) rfl
  have gzf0 := H4.bX.f 0 (x := _) rfl
  have gz1 := H4.bX.c 1 (x := _) rfl
  have gzf1 := H4.bX.f 1 (x := _) rfl
  have gz2 := H4.bX.c 2 (x := _) rfl
  have gzf2 := H4.bX.f 2 (x := _) rfl
  have gz3 := H4.bX.c 3 (x := _) rfl
  have gzf3 := H4.bX.f 3 (x := _) rfl
  have gz4 := H4.bX.c 4 (x := _) rfl
  have gzf4 := H4.bX.f 4 (x := _) rfl
  have lgz := H4.bX.lt
  by_cases hc5 : c3 = 1
  · subst hc5
    have D5 := (H4.drop (Row.cut1 H4.sF.r) rfl).below ((Below.refl _ _).alloc (Nat.le_refl _) (.cells #[.int .i64 (1), .int .i64 (aa), .int .i64 (ah), .int .i64 (ai), .slice none 0 0, .slice none 0 0, .slice none 0 0, .int .i64 0, .slice none 0 0, .int .i64 0, .int .i64 (0)] 46))
    go_wp2_with fail
    clear fb0 fb1 fb2 fb3 lfb
    clear gz0 gzf0 gz1 gzf1 gz2 gzf2 gz3 gzf3 gz4 gzf4 lgz
    clear q0 q1 q2 q3 q4 q5 q6 q7 q8 q9 q10 bfb lg5
    refine ((sms ba bi bh bp 2 bh 0 0 0 ⟨1, aa, ah, ai, 0⟩ q HQ.out HB3.out (fun _ => HA3.out) (by decide) (fun _ => by have := HB3.out; omega) (by simp) Y eY.out) _).mono ?_
    rintro e w5 ⟨v5, rfl, o5, hb⟩
    have E5 := D5.put hb (.int .i64 Y.a) (.int .i64 Y.b) (.int .i64 Y.c) (.int .i64 Y.d) (.int .i64 Y.e)
    have bz := (D5.below hb).bX
    have ou := (Row.of o5).grown (grown_set5 w5 PY (.int .i64 Y.a) (.int .i64 Y.b) (.int .i64 Y.c) (.int .i64 Y.d) (.int .i64 Y.e)) D5.bX.lt
    clear hb o5
    have gz0 := bz.c 0 (x := _) rfl
    have gzf0 := bz.f 0 (x := _) rfl
    have gz1 := bz.c 1 (x := _) rfl
    have gzf1 := bz.f 1 (x := _) rfl
    have gz2 := bz.c 2 (x := _) rfl
    have gzf2 := bz.f 2 (x := _) rfl
    have gz3 := bz.c 3 (x := _) rfl
    have gzf3 := bz.f 3 (x := _) rfl
    have gz4 := bz.c 4 (x := _) rfl
    have gzf4 := bz.f 4 (x := _) rfl
    have lgz := bz.lt
    go_wp2_with (at_builtin; refine Hid.out ?_)
    clear gz0 gzf0 gz1 gzf1 gz2 gzf2 gz3 gzf3 gz4 gzf4 lgz
    clear bz
    refine Lib.hid ?_
    refine wp_appT rfl (.tmp 73) (.tmp 74) rfl W0.heap.size _ _ v5 [⟨1, ba, bh, bi, 0⟩] Y.l rfl rfl E5.sX.r ou (by rw [hmy]; simp) (by simp) E5.sX.b ?_
    intro v5b w5b r5b g5b ow5b
    rw [hmy] at r5b
    obtain ⟨g5, p5, c5, rfl, hc5, -, -⟩ := Row.cap2e (m2 := my) r5b
    have F5 := E5.app r5b g5b ow5b (by simp)
    clear r5b g5b ow5b E5 D5 ou
    go_wp2_with fail
    rw [rounds_succ]
    obtain ⟨hcc6, lg6, hq6⟩ := Row.cells1 F5.symm.sF.r
    simp at hcc6
    have q0 := hq6 0 (.int .i64 (1)) rfl
    rw [Nat.add_zero] at q0
    have q1 := hq6 1 (.int .i64 (ba)) rfl
    have q2 := hq6 2 (.int .i64 (bh)) rfl
    have q3 := hq6 3 (.int .i64 (bi)) rfl
    have q4 := hq6 4 (.slice none 0 0) rfl
    have q5 := hq6 5 (.slice none 0 0) rfl
    have q6 := hq6 6 (.slice none 0 0) rfl
    have q7 := hq6 7 (.int .i64 0) rfl
    have q8 := hq6 8 (.slice none 0 0) rfl
    have q9 := hq6 9 (.int .i64 0) rfl
    have q10 := hq6 10 (.int .i64 (0)) rfl
    clear hq6
    have bfa := F5.symm.kp.bl bA hA.1 hA.2.1 hA.2.2
    have fa0 := bfa.c 0 rfl
    have fa1 := bfa.c 1 rfl
    have fa2 := bfa.c 2 rfl
    have fa3 := bfa.c 3 rfl
    have lfa := bfa.lt
    have gz0 := F5.symm.bX.c 0 (x := _) rfl
    have gzf0 := F5.symm.bX.f 0 (x := _) rfl
    have gz1 := F5.symm.bX.c 1 (x := _) rfl
    have gzf1 := F5.symm.bX.f 1 (x := _) rfl
    have gz2 := F5.symm.bX.c 2 (x := _) rfl
    have gzf2 := F5.symm.bX.f 2 (x := _) rfl
    have gz3 := F5.symm.bX.c 3 (x := _) rfl
    have gzf3 := F5.symm.bX.f 3 (x := _) rfl
    have gz4 := F5.symm.bX.c 4 (x := _) rfl
    have gzf4 := F5.symm.bX.f 4 (x := _) rfl
    have lgz := F5.symm.bX.lt
    have hc6 : ¬ c5 = 1 := by omega
    have D6 := (F5.symm.drop (Row.cut (k := [my]) F5.symm.sF.r) rfl).below ((Below.refl _ _).alloc (Nat.le_refl _) (.cells #[.int .i64 (1), .int .i64 (ba), .int .i64 (bh), .int .i64 (bi), .slice none 0 0, .slice none 0 0, .slice none 0 0, .int .i64 0, .slice none 0 0, .int .i64 0, .int .i64 (0)] 46))
    go_wp2_with fail
    clear fa0 fa1 fa2 fa3 lfa
    clear gz0 gzf0 gz1 gzf1 gz2 gzf2 gz3 gzf3 gz4 gzf4 lgz
    clear q0 q1 q2 q3 q4 q5 q6 q7 q8 q9 q10 bfa lg6
    refine ((sms aa ai ah ap 2 ah 0 0 0 ⟨1, ba, bh, bi, 0⟩ p HP.out HA3.out (fun _ => HB3.out) (by decide) (fun _ => by have := HA3.out; omega) (by simp) X eX.out) _).mono ?_
    rintro e w6 ⟨v6, rfl, o6, hb⟩
    have E6 := D6.put hb (.int .i64 X.a) (.int .i64 X.b) (.int .i64 X.c) (.int .i64 X.d) (.int .i64 X.e)
    have bz := (D6.below hb).bX
    have ou := (Row.of o6).grown (grown_set5 w6 PX (.int .i64 X.a) (.int .i64 X.b) (.int .i64 X.c) (.int .i64 X.d) (.int .i64 X.e)) D6.bX.lt
    clear hb o6
    have gz0 := bz.c 0 (x := _) rfl
    have gzf0 := bz.f 0 (x := _) rfl
    have gz1 := bz.c 1 (x := _) rfl
    have gzf1 := bz.f 1 (x := _) rfl
    have gz2 := bz.c 2 (x := _) rfl
    have gzf2 := bz.f 2 (x := _) rfl
    have gz3 := bz.c 3 (x := _) rfl
    have gzf3 := bz.f 3 (x := _) rfl
    have gz4 := bz.c 4 (x := _) rfl
    have gzf4 := bz.f 4 (x := _) rfl
    have lgz := bz.lt
    go_wp2_with (at_builtin; refine Hid.out ?_)
    clear gz0 gzf0 gz1 gzf1 gz2 gzf2 gz3 gzf3 gz4 gzf4 lgz
    clear bz
    refine Lib.hid ?_
    refine wp_appT rfl (.tmp 89) (.tmp 90) rfl W0.heap.size _ _ v6 [] X.l rfl rfl E6.sX.r ou (by rw [hmx]; simp) (by simp) E6.sX.b ?_
    intro v6b w6b r6b g6b ow6b
    rw [hmx] at r6b
    obtain ⟨g6, p6, c6, rfl, hc6, -, -⟩ := Row.cap1e (m := mx) r6b
    have F6 := E6.app r6b g6b ow6b (by simp)
    clear r6b g6b ow6b E6 D6 ou
    go_wp2_with fail
    rw [rounds_succ]
    obtain ⟨hcc7, lg7, hq7⟩ := Row.cells1 F6.symm.sF.r
    simp at hcc7
    have q0 := hq7 0 (.int .i64 (mx.k)) rfl
    rw [Nat.add_zero] at q0
    have q1 := hq7 1 (.int .i64 (mx.a)) rfl
    have q2 := hq7 2 (.int .i64 (mx.h)) rfl
    have q3 := hq7 3 (.int .i64 (mx.i)) rfl
    have q4 := hq7 4 (.slice none 0 0) rfl
    have q5 := hq7 5 (.slice none 0 0) rfl
    have q6 := hq7 6 (.slice none 0 0) rfl
    have q7 := hq7 7 (.int .i64 0) rfl
    have q8 := hq7 8 (.slice none 0 0) rfl
    have q9 := hq7 9 (.int .i64 0) rfl
    have q10 := hq7 10 (.int .i64 (mx.er)) rfl
    clear hq7
    have bfb := F6.symm.kp.bl bB hB.1 hB.2.2 hB.2.1
    have fb0 := bfb.c 0 rfl
    have fb1 := bfb.c 1 rfl
    have fb2 := bfb.c 2 rfl
    have fb3 := bfb.c 3 rfl
    have lfb := bfb.lt
    have gz0 := F6.symm.bX.c 0 (x := _) rfl
    have gzf0 := F6.symm.bX.f 0 (x := _) rfl
    have gz1 := F6.symm.bX.c 1 (x := _) rfl
    have gzf1 := F6.symm.bX.f 1 (x := _) rfl
    have gz2 := F6.symm.bX.c 2 (x := _) rfl
    have gzf2 := F6.symm.bX.f 2 (x := _) rfl
    have gz3 := F6.symm.bX.c 3 (x := _) rfl
    have gzf3 := F6.symm.bX.f 3 (x := _) rfl
    have gz4 := F6.symm.bX.c 4 (x := _) rfl
    have gzf4 := F6.symm.bX.f 4 (x := _) rfl
    have lgz := F6.symm.bX.lt
    by_cases hc7 : c6 = 1
    · subst hc7
      have D7 := (F6.symm.drop (Row.cut1 F6.symm.sF.r) rfl).below ((Below.refl _ _).alloc (Nat.le_refl _) (.cells #[.int .i64 (mx.k), .int .i64 (mx.a), .int .i64 (mx.h), .int .i64 (mx.i), .slice none 0 0, .slice none 0 0, .slice none 0 0, .int .i64 0, .slice none 0 0, .int .i64 0, .int .i64 (mx.er)] 46))
      go_wp2_with fail
      clear fb0 fb1 fb2 fb3 lfb
      clear gz0 gzf0 gz1 gzf1 gz2 gzf2 gz3 gzf3 gz4 gzf4 lgz
      clear q0 q1 q2 q3 q4 q5 q6 q7 q8 q9 q10 bfb lg7
      refine ((sms ba bi bh bp Y.a Y.b Y.c Y.d Y.e mx _ rfl HB3.out (fun h => by have := HX.out.2.1; omega) KY.out.1 KY.out.2.1 KY.out.2.2 J HJS.out) _).mono ?_
      rintro e w7 ⟨v7, rfl, o7, hb⟩
      have E7 := D7.put hb (.int .i64 J.a) (.int .i64 J.b) (.int .i64 J.c) (.int .i64 J.d) (.int .i64 J.e)
      have bz := (D7.below hb).bX
      have ou := (Row.of o7).grown (grown_set5 w7 PY (.int .i64 J.a) (.int .i64 J.b) (.int .i64 J.c) (.int .i64 J.d) (.int .i64 J.e)) D7.bX.lt
      clear hb o7
      have gz0 := bz.c 0 (x := _) rfl
      have gzf0 := bz.f 0 (x := _) rfl
      have gz1 := bz.c 1 (x := _) rfl
      have gzf1 := bz.f 1 (x := _) rfl
      have gz2 := bz.c 2 (x := _) rfl
      have gzf2 := bz.f 2 (x := _) rfl
      have gz3 := bz.c 3 (x := _) rfl
      have gzf3 := bz.f 3 (x := _) rfl
      have gz4 := bz.c 4 (x := _) rfl
      have gzf4 := bz.f 4 (x := _) rfl
      have lgz := bz.lt
      go_wp2_with (at_builtin; refine Hid.out ?_)
      clear gz0 gzf0 gz1 gzf1 gz2 gzf2 gz3 gzf3 gz4 gzf4 lgz
      clear bz
      refine Lib.hid ?_
      refine wp_appT rfl (.tmp 73) (.tmp 74) rfl W0.heap.size _ _ v7 [my] J.l rfl rfl E7.sX.r ou (by rw [hJl]; simp) (by simp) E7.sX.b ?_
      intro v7b w7b r7b g7b ow7b
      rw [hJl] at r7b
      obtain ⟨g7, p7, c7, rfl, hc7, -, -⟩ := Row.cap1e (m := my) r7b
      have F7 := E7.app r7b g7b ow7b (by simp)
      clear r7b g7b ow7b E7 D7 ou
      go_wp2_with fail
      rw [rounds_succ]
      obtain ⟨hcc8, lg8, hq8⟩ := Row.cells1 F7.symm.sF.r
      simp at hcc8
      have q0 := hq8 0 (.int .i64 (my.k)) rfl
      rw [Nat.add_zero] at q0
      have q1 := hq8 1 (.int .i64 (my.a)) rfl
      have q2 := hq8 2 (.int .i64 (my.h)) rfl
      have q3 := hq8 3 (.int .i64 (my.i)) rfl
      have q4 := hq8 4 (.slice none 0 0) rfl
      have q5 := hq8 5 (.slice none 0 0) rfl
      have q6 := hq8 6 (.slice none 0 0) rfl
      have q7 := hq8 7 (.int .i64 0) rfl
      have q8 := hq8 8 (.slice none 0 0) rfl
      have q9 := hq8 9 (.int .i64 0) rfl
      have q10 := hq8 10 (.int .i64 (my.er)) rfl
      clear hq8
      have bfa := F7.symm.kp.bl bA hA.1 hA.2.1 hA.2.2
      have fa0 := bfa.c 0 rfl
      have fa1 := bfa.c 1 rfl
      have fa2 := bfa.c 2 rfl
      have fa3 := bfa.c 3 rfl
      have lfa := bfa.lt
      have gz0 := F7.symm.bX.c 0 (x := _) rfl
      have gzf0 := F7.symm.bX.f 0 (x := _) rfl
      have gz1 := F7.symm.bX.c 1 (x := _) rfl
      have gzf1 := F7.symm.bX.f 1 (x := _) rfl
      have gz2 := F7.symm.bX.c 2 (x := _) rfl
      have gzf2 := F7.symm.bX.f 2 (x := _) rfl
      have gz3 := F7.symm.bX.c 3 (x := _) rfl
      have gzf3 := F7.symm.bX.f 3 (x := _) rfl
      have gz4 := F7.symm.bX.c 4 (x := _) rfl
      have gzf4 := F7.symm.bX.f 4 (x := _) rfl
      have lgz := F7.symm.bX.lt
      by_cases hc8 : c7 = 1
      · subst hc8
        have D8 := (F7.symm.drop (Row.cut1 F7.symm.sF.r) rfl).below ((Below.refl _ _).alloc (Nat.le_refl _) (.cells #[.int .i64 (my.k), .int .i64 (my.a), .int .i64 (my.h), .int .i64 (my.i), .slice none 0 0, .slice none 0 0, .slice none 0 0, .int .i64 0, .slice none 0 0, .int .i64 0, .int .i64 (my.er)] 46))
        go_wp2_with fail
        clear fa0 fa1 fa2 fa3 lfa
        clear gz0 gzf0 gz1 gzf1 gz2 gzf2 gz3 gzf3 gz4 gzf4 lgz
        clear q0 q1 q2 q3 q4 q5 q6 q7 q8 q9 q10 bfa lg8
        refine ((sms aa ai ah ap X.a X.b X.c X.d X.e my _ rfl HA3.out (fun h => by have := HY.out.2.1; omega) KX.out.1 KX.out.2.1 KX.out.2.2 G HGS.out) _).mono ?_
        rintro e w8 ⟨v8, rfl, o8, hb⟩
        have E8 := D8.put hb (.int .i64 G.a) (.int .i64 G.b) (.int .i64 G.c) (.int .i64 G.d) (.int .i64 G.e)
        have bz := (D8.below hb).bX
        have ou := (Row.of o8).grown (grown_set5 w8 PX (.int .i64 G.a) (.int .i64 G.b) (.int .i64 G.c) (.int .i64 G.d) (.int .i64 G.e)) D8.bX.lt
        clear hb o8
        have gz0 := bz.c 0 (x := _) rfl
        have gzf0 := bz.f 0 (x := _) rfl
        have gz1 := bz.c 1 (x := _) rfl
        have gzf1 := bz.f 1 (x := _) rfl
        have gz2 := bz.c 2 (x := _) rfl
        have gzf2 := bz.f 2 (x := _) rfl
        have gz3 := bz.c 3 (x := _) rfl
        have gzf3 := bz.f 3 (x := _) rfl
        have gz4 := bz.c 4 (x := _) rfl
        have gzf4 := bz.f 4 (x := _) rfl
        have lgz := bz.lt
        go_wp2_with (at_builtin; refine Hid.out ?_)
        clear gz0 gzf0 gz1 gzf1 gz2 gzf2 gz3 gzf3 gz4 gzf4 lgz
        clear bz
        refine Lib.hid ?_
        refine wp_appT rfl (.tmp 89) (.tmp 90) rfl W0.heap.size _ _ v8 [] G.l rfl rfl E8.sX.r ou (by rw [hGl]; simp) (by simp) E8.sX.b ?_
        intro v8b w8b r8b g8b ow8b
        rw [hGl] at r8b
        obtain ⟨a8, c8, rfl⟩ := Row.cap0e r8b
        have F8 := E8.app r8b g8b ow8b (by simp)
        clear r8b g8b ow8b E8 D8 ou
        go_wp2_with fail
        rw [rounds_succ]
        go_wp2_with fail
        have bXf := F8.bX
        have bYf := F8.bF
        have bR12 := F8.kp.bl bR hR.1 hR.2.1 hR.2.2
        have bS12 := F8.kp.bl bS hS.1 hS.2.1 hS.2.2
        have B12 := F8.kp.out B0 HLO.out.1 HLO.out.2.1 HLO.out.2.2
        have hPR := hR.2.1.symm
        have hPS := hS.2.1.symm
        have hQR := hR.2.2.symm
        have hQS := hS.2.2.symm
        clear F8 bR bS B0 bA bB
        refine wp_region_held_drew (S := fun w' => Bl w' PX [.int .i64 G.a, .int .i64 G.b, .int .i64 G.c, .int .i64 G.d, .int .i64 G.e] ∧ Bl w' PY [.int .i64 J.a, .int .i64 J.b, .int .i64 J.c, .int .i64 J.d, .int .i64 J.e]) (by kernel_rfl) ⟨bXf.keep (over_drew w8b), bYf.keep (over_drew w8b)⟩ (fun hHeld => ?_)
        refine wpAnyH_take (i := 0) (v := ?_) rfl (by kernel_rfl) (by kernel_rfl) (by kernel_rfl) (fun _ _ _ h => h) (Or.inl ⟨by rfl, ?_⟩) (by assumption) ?_
        rotate_left
        · intro wq hSq
          (try dsimp only at hSq)
          have q0 := hSq.1.c 0 rfl
          have q1 := hSq.1.c 1 rfl
          have q2 := hSq.1.c 2 rfl
          have q3 := hSq.1.c 3 rfl
          have q4 := hSq.1.c 4 rfl
          go_simp
          try rfl
        change wpAnyH _ _ _ _ _ _ _ (Act.put _ (some 92) _) _
        simp only [Act.put, List.setIfInBounds_toArray, List.set_cons_succ, List.set_cons_zero]
        refine wpAnyH_take (i := 1) (v := ?_) rfl (by kernel_rfl) (by kernel_rfl) (by kernel_rfl) (fun _ _ _ h => h) (Or.inl ⟨by rfl, ?_⟩) (by assumption) ?_
        rotate_left
        · intro wq hSq
          (try dsimp only at hSq)
          have q0 := hSq.2.c 0 rfl
          have q1 := hSq.2.c 1 rfl
          have q2 := hSq.2.c 2 rfl
          have q3 := hSq.2.c 3 rfl
          have q4 := hSq.2.c 4 rfl
          go_simp
          try rfl
        change wpAnyH _ _ _ _ _ _ _ (Act.put _ (some 93) _) _
        simp only [Act.put, List.setIfInBounds_toArray, List.set_cons_succ, List.set_cons_zero]
        obtain ⟨w15, e15⟩ : ∃ u, u = w8b.drew := ⟨_, rfl⟩
        have O15 : Over w8b w15 := by rw [e15]; exact over_drew w8b
        rw [← e15]
        clear e15 hHeld
        replace bXf := bXf.keep O15
        replace bYf := bYf.keep O15
        have bR := bR12.keep O15
        have bS := bS12.keep O15
        have B0 := below_step B12 O15
        clear bR12 bS12 B12 O15
        have r0 := bR.c 0 rfl
        have s0f := bR.f 0 (x := _) rfl
        have t0 := bS.c 0 rfl
        have t0f := bS.f 0 (x := _) rfl
        have r1 := bR.c 1 rfl
        have s1f := bR.f 1 (x := _) rfl
        have t1 := bS.c 1 rfl
        have t1f := bS.f 1 (x := _) rfl
        have r2 := bR.c 2 rfl
        have s2f := bR.f 2 (x := _) rfl
        have t2 := bS.c 2 rfl
        have t2f := bS.f 2 (x := _) rfl
        have r3 := bR.c 3 rfl
        have s3f := bR.f 3 (x := _) rfl
        have t3 := bS.c 3 rfl
        have t3f := bS.f 3 (x := _) rfl
        have r4 := bR.c 4 rfl
        have s4f := bR.f 4 (x := _) rfl
        have t4 := bS.c 4 rfl
        have t4f := bS.f 4 (x := _) rfl
        refine wpAnyH_ready (rs := [2]) (by kernel_rfl) (by simp) ?_
        refine (AllReadyH.cons rfl (fun K hK => ?_) AllReadyH.nil)
        go_simp
        refine hK.out _ _ ⟨((((((bXf.far (C := w.heap.size + 1 + 1) (o := 0) (u := .int .i64 G.a) hPR).far (C := w.heap.size + 1 + 1) (o := 1) (u := .int .i64 G.b) hPR).far (C := w.heap.size + 1 + 1) (o := 2) (u := .int .i64 G.c) hPR).far (C := w.heap.size + 1 + 1) (o := 3) (u := .int .i64 G.d) hPR).far (C := w.heap.size + 1 + 1) (o := 4) (u := .int .i64 G.e) hPR)), ((((((bYf.far (C := w.heap.size + 1 + 1) (o := 0) (u := .int .i64 G.a) hQR).far (C := w.heap.size + 1 + 1) (o := 1) (u := .int .i64 G.b) hQR).far (C := w.heap.size + 1 + 1) (o := 2) (u := .int .i64 G.c) hQR).far (C := w.heap.size + 1 + 1) (o := 3) (u := .int .i64 G.d) hQR).far (C := w.heap.size + 1 + 1) (o := 4) (u := .int .i64 G.e) hQR))⟩ (fun _ => ?_)
        clear hK K
        try simp only [Act.put, List.setIfInBounds_toArray, List.set_cons_zero, List.set_cons_succ]
        refine wpAnyH_ready (rs := [3]) (by kernel_rfl) (by simp) ?_
        refine (AllReadyH.cons rfl (fun K hK => ?_) AllReadyH.nil)
        go_simp
        refine hK.out _ _ ⟨((((((((((((bXf.far (C := w.heap.size + 1 + 1) (o := 0) (u := .int .i64 G.a) hPR).far (C := w.heap.size + 1 + 1) (o := 1) (u := .int .i64 G.b) hPR).far (C := w.heap.size + 1 + 1) (o := 2) (u := .int .i64 G.c) hPR).far (C := w.heap.size + 1 + 1) (o := 3) (u := .int .i64 G.d) hPR).far (C := w.heap.size + 1 + 1) (o := 4) (u := .int .i64 G.e) hPR)).far (C := w.heap.size + 1 + 1 + 1) (o := 0) (u := .int .i64 J.a) hPS).far (C := w.heap.size + 1 + 1 + 1) (o := 1) (u := .int .i64 J.b) hPS).far (C := w.heap.size + 1 + 1 + 1) (o := 2) (u := .int .i64 J.c) hPS).far (C := w.heap.size + 1 + 1 + 1) (o := 3) (u := .int .i64 J.d) hPS).far (C := w.heap.size + 1 + 1 + 1) (o := 4) (u := .int .i64 J.e) hPS)), ((((((((((((bYf.far (C := w.heap.size + 1 + 1) (o := 0) (u := .int .i64 G.a) hQR).far (C := w.heap.size + 1 + 1) (o := 1) (u := .int .i64 G.b) hQR).far (C := w.heap.size + 1 + 1) (o := 2) (u := .int .i64 G.c) hQR).far (C := w.heap.size + 1 + 1) (o := 3) (u := .int .i64 G.d) hQR).far (C := w.heap.size + 1 + 1) (o := 4) (u := .int .i64 G.e) hQR)).far (C := w.heap.size + 1 + 1 + 1) (o := 0) (u := .int .i64 J.a) hQS).far (C := w.heap.size + 1 + 1 + 1) (o := 1) (u := .int .i64 J.b) hQS).far (C := w.heap.size + 1 + 1 + 1) (o := 2) (u := .int .i64 J.c) hQS).far (C := w.heap.size + 1 + 1 + 1) (o := 3) (u := .int .i64 J.d) hQS).far (C := w.heap.size + 1 + 1 + 1) (o := 4) (u := .int .i64 J.e) hQS))⟩ (fun _ => ?_)
        clear hK K
        try simp only [Act.put, List.setIfInBounds_toArray, List.set_cons_zero, List.set_cons_succ]
        refine wpAnyH_done (by kernel_rfl) ?_ _
        have bR2 := ((((((bR.set5 (.int .i64 G.a) (.int .i64 G.b) (.int .i64 G.c) (.int .i64 G.d) (.int .i64 G.e)).far (C := w.heap.size + 1 + 1 + 1) (o := 0) (u := .int .i64 J.a) (by omega)).far (C := w.heap.size + 1 + 1 + 1) (o := 1) (u := .int .i64 J.b) (by omega)).far (C := w.heap.size + 1 + 1 + 1) (o := 2) (u := .int .i64 J.c) (by omega)).far (C := w.heap.size + 1 + 1 + 1) (o := 3) (u := .int .i64 J.d) (by omega)).far (C := w.heap.size + 1 + 1 + 1) (o := 4) (u := .int .i64 J.e) (by omega))
        have bS2 := ((((((bS.far (C := w.heap.size + 1 + 1) (o := 0) (u := .int .i64 G.a) (by omega)).far (C := w.heap.size + 1 + 1) (o := 1) (u := .int .i64 G.b) (by omega)).far (C := w.heap.size + 1 + 1) (o := 2) (u := .int .i64 G.c) (by omega)).far (C := w.heap.size + 1 + 1) (o := 3) (u := .int .i64 G.d) (by omega)).far (C := w.heap.size + 1 + 1) (o := 4) (u := .int .i64 G.e) (by omega))).set5 (.int .i64 J.a) (.int .i64 J.b) (.int .i64 J.c) (.int .i64 J.d) (.int .i64 J.e)
        have B2 := below_set5 (below_set5 B0 (B := w.heap.size + 1 + 1) (by omega) (.int .i64 G.a) (.int .i64 G.b) (.int .i64 G.c) (.int .i64 G.d) (.int .i64 G.e)) (B := w.heap.size + 1 + 1 + 1) (by omega) (.int .i64 J.a) (.int .i64 J.b) (.int .i64 J.c) (.int .i64 J.d) (.int .i64 J.e)
        clear r0 s0f t0 t0f r1 s1f t1 t1f r2 s2f t2 t2f r3 s3f t3 t3f r4 s4f t4 t4f
        clear bR bS B0
        go_wp2
        obtain ⟨W2, hW2⟩ : ∃ W2, W2 = ((((((((((w15.setCell ⟨w.heap.size + 1 + 1, 0, none⟩ (.int .i64 G.a)).setCell ⟨w.heap.size + 1 + 1, 1, none⟩ (.int .i64 G.b)).setCell ⟨w.heap.size + 1 + 1, 2, none⟩ (.int .i64 G.c)).setCell ⟨w.heap.size + 1 + 1, 3, none⟩ (.int .i64 G.d)).setCell ⟨w.heap.size + 1 + 1, 4, none⟩ (.int .i64 G.e)).setCell ⟨w.heap.size + 1 + 1 + 1, 0, none⟩ (.int .i64 J.a)).setCell ⟨w.heap.size + 1 + 1 + 1, 1, none⟩ (.int .i64 J.b)).setCell ⟨w.heap.size + 1 + 1 + 1, 2, none⟩ (.int .i64 J.c)).setCell ⟨w.heap.size + 1 + 1 + 1, 3, none⟩ (.int .i64 J.d)).setCell ⟨w.heap.size + 1 + 1 + 1, 4, none⟩ (.int .i64 J.e)) := ⟨_, rfl⟩
        rw [← hW2] at bR2 bS2 B2 ⊢
        clear hW2
        have r0 := bR2.c 0 rfl
        have t0 := bS2.c 0 rfl
        have r1 := bR2.c 1 rfl
        have t1 := bS2.c 1 rfl
        have r2 := bR2.c 2 rfl
        have t2 := bS2.c 2 rfl
        have r3 := bR2.c 3 rfl
        have t3 := bS2.c 3 rfl
        have r4 := bR2.c 4 rfl
        have t4 := bS2.c 4 rfl
        exact bodyPost_ret (v := .tuple #[.agg #[.int .i64 G.a, .int .i64 G.b, .int .i64 G.c, .int .i64 G.d, .int .i64 G.e], .agg #[.int .i64 J.a, .int .i64 J.b, .int .i64 J.c, .int .i64 J.d, .int .i64 J.e]]) (by simp [results, Tryd.results9, go_sem, r0, t0, r1, t1, r2, t2, r3, t3, r4, t4]) rfl ⟨rfl, B2⟩
      · have D8 := (F7.symm.drop (Row.cut (k := []) F7.symm.sF.r) rfl).below ((Below.refl _ _).alloc (Nat.le_refl _) (.cells #[.int .i64 (my.k), .int .i64 (my.a), .int .i64 (my.h), .int .i64 (my.i), .slice none 0 0, .slice none 0 0, .slice none 0 0, .int .i64 0, .slice none 0 0, .int .i64 0, .int .i64 (my.er)] 46))
        go_wp2_with fail
        clear fa0 fa1 fa2 fa3 lfa
        clear gz0 gzf0 gz1 gzf1 gz2 gzf2 gz3 gzf3 gz4 gzf4 lgz
        clear q0 q1 q2 q3 q4 q5 q6 q7 q8 q9 q10 bfa lg8
        refine ((sms aa ai ah ap X.a X.b X.c X.d X.e my _ rfl HA3.out (fun h => by have := HY.out.2.1; omega) KX.out.1 KX.out.2.1 KX.out.2.2 G HGS.out) _).mono ?_
        rintro e w8 ⟨v8, rfl, o8, hb⟩
        have E8 := D8.put hb (.int .i64 G.a) (.int .i64 G.b) (.int .i64 G.c) (.int .i64 G.d) (.int .i64 G.e)
        have bz := (D8.below hb).bX
        have ou := (Row.of o8).grown (grown_set5 w8 PX (.int .i64 G.a) (.int .i64 G.b) (.int .i64 G.c) (.int .i64 G.d) (.int .i64 G.e)) D8.bX.lt
        clear hb o8
        have gz0 := bz.c 0 (x := _) rfl
        have gzf0 := bz.f 0 (x := _) rfl
        have gz1 := bz.c 1 (x := _) rfl
        have gzf1 := bz.f 1 (x := _) rfl
        have gz2 := bz.c 2 (x := _) rfl
        have gzf2 := bz.f 2 (x := _) rfl
        have gz3 := bz.c 3 (x := _) rfl
        have gzf3 := bz.f 3 (x := _) rfl
        have gz4 := bz.c 4 (x := _) rfl
        have gzf4 := bz.f 4 (x := _) rfl
        have lgz := bz.lt
        go_wp2_with (at_builtin; refine Hid.out ?_)
        clear gz0 gzf0 gz1 gzf1 gz2 gzf2 gz3 gzf3 gz4 gzf4 lgz
        clear bz
        refine Lib.hid ?_
        refine wp_appT rfl (.tmp 89) (.tmp 90) rfl W0.heap.size _ _ v8 [] G.l rfl rfl E8.sX.r ou (by rw [hGl]; simp) (by simp) E8.sX.b ?_
        intro v8b w8b r8b g8b ow8b
        rw [hGl] at r8b
        obtain ⟨a8, c8, rfl⟩ := Row.cap0e r8b
        have F8 := E8.app r8b g8b ow8b (by simp)
        clear r8b g8b ow8b E8 D8 ou
        go_wp2_with fail
        rw [rounds_succ]
        go_wp2_with fail
        have bXf := F8.bX
        have bYf := F8.bF
        have bR12 := F8.kp.bl bR hR.1 hR.2.1 hR.2.2
        have bS12 := F8.kp.bl bS hS.1 hS.2.1 hS.2.2
        have B12 := F8.kp.out B0 HLO.out.1 HLO.out.2.1 HLO.out.2.2
        have hPR := hR.2.1.symm
        have hPS := hS.2.1.symm
        have hQR := hR.2.2.symm
        have hQS := hS.2.2.symm
        clear F8 bR bS B0 bA bB
        refine wp_region_held_drew (S := fun w' => Bl w' PX [.int .i64 G.a, .int .i64 G.b, .int .i64 G.c, .int .i64 G.d, .int .i64 G.e] ∧ Bl w' PY [.int .i64 J.a, .int .i64 J.b, .int .i64 J.c, .int .i64 J.d, .int .i64 J.e]) (by kernel_rfl) ⟨bXf.keep (over_drew w8b), bYf.keep (over_drew w8b)⟩ (fun hHeld => ?_)
        refine wpAnyH_take (i := 0) (v := ?_) rfl (by kernel_rfl) (by kernel_rfl) (by kernel_rfl) (fun _ _ _ h => h) (Or.inl ⟨by rfl, ?_⟩) (by assumption) ?_
        rotate_left
        · intro wq hSq
          (try dsimp only at hSq)
          have q0 := hSq.1.c 0 rfl
          have q1 := hSq.1.c 1 rfl
          have q2 := hSq.1.c 2 rfl
          have q3 := hSq.1.c 3 rfl
          have q4 := hSq.1.c 4 rfl
          go_simp
          try rfl
        change wpAnyH _ _ _ _ _ _ _ (Act.put _ (some 92) _) _
        simp only [Act.put, List.setIfInBounds_toArray, List.set_cons_succ, List.set_cons_zero]
        refine wpAnyH_take (i := 1) (v := ?_) rfl (by kernel_rfl) (by kernel_rfl) (by kernel_rfl) (fun _ _ _ h => h) (Or.inl ⟨by rfl, ?_⟩) (by assumption) ?_
        rotate_left
        · intro wq hSq
          (try dsimp only at hSq)
          have q0 := hSq.2.c 0 rfl
          have q1 := hSq.2.c 1 rfl
          have q2 := hSq.2.c 2 rfl
          have q3 := hSq.2.c 3 rfl
          have q4 := hSq.2.c 4 rfl
          go_simp
          try rfl
        change wpAnyH _ _ _ _ _ _ _ (Act.put _ (some 93) _) _
        simp only [Act.put, List.setIfInBounds_toArray, List.set_cons_succ, List.set_cons_zero]
        obtain ⟨w15, e15⟩ : ∃ u, u = w8b.drew := ⟨_, rfl⟩
        have O15 : Over w8b w15 := by rw [e15]; exact over_drew w8b
        rw [← e15]
        clear e15 hHeld
        replace bXf := bXf.keep O15
        replace bYf := bYf.keep O15
        have bR := bR12.keep O15
        have bS := bS12.keep O15
        have B0 := below_step B12 O15
        clear bR12 bS12 B12 O15
        have r0 := bR.c 0 rfl
        have s0f := bR.f 0 (x := _) rfl
        have t0 := bS.c 0 rfl
        have t0f := bS.f 0 (x := _) rfl
        have r1 := bR.c 1 rfl
        have s1f := bR.f 1 (x := _) rfl
        have t1 := bS.c 1 rfl
        have t1f := bS.f 1 (x := _) rfl
        have r2 := bR.c 2 rfl
        have s2f := bR.f 2 (x := _) rfl
        have t2 := bS.c 2 rfl
        have t2f := bS.f 2 (x := _) rfl
        have r3 := bR.c 3 rfl
        have s3f := bR.f 3 (x := _) rfl
        have t3 := bS.c 3 rfl
        have t3f := bS.f 3 (x := _) rfl
        have r4 := bR.c 4 rfl
        have s4f := bR.f 4 (x := _) rfl
        have t4 := bS.c 4 rfl
        have t4f := bS.f 4 (x := _) rfl
        refine wpAnyH_ready (rs := [2]) (by kernel_rfl) (by simp) ?_
        refine (AllReadyH.cons rfl (fun K hK => ?_) AllReadyH.nil)
        go_simp
        refine hK.out _ _ ⟨((((((bXf.far (C := w.heap.size + 1 + 1) (o := 0) (u := .int .i64 G.a) hPR).far (C := w.heap.size + 1 + 1) (o := 1) (u := .int .i64 G.b) hPR).far (C := w.heap.size + 1 + 1) (o := 2) (u := .int .i64 G.c) hPR).far (C := w.heap.size + 1 + 1) (o := 3) (u := .int .i64 G.d) hPR).far (C := w.heap.size + 1 + 1) (o := 4) (u := .int .i64 G.e) hPR)), ((((((bYf.far (C := w.heap.size + 1 + 1) (o := 0) (u := .int .i64 G.a) hQR).far (C := w.heap.size + 1 + 1) (o := 1) (u := .int .i64 G.b) hQR).far (C := w.heap.size + 1 + 1) (o := 2) (u := .int .i64 G.c) hQR).far (C := w.heap.size + 1 + 1) (o := 3) (u := .int .i64 G.d) hQR).far (C := w.heap.size + 1 + 1) (o := 4) (u := .int .i64 G.e) hQR))⟩ (fun _ => ?_)
        clear hK K
        try simp only [Act.put, List.setIfInBounds_toArray, List.set_cons_zero, List.set_cons_succ]
        refine wpAnyH_ready (rs := [3]) (by kernel_rfl) (by simp) ?_
        refine (AllReadyH.cons rfl (fun K hK => ?_) AllReadyH.nil)
        go_simp
        refine hK.out _ _ ⟨((((((((((((bXf.far (C := w.heap.size + 1 + 1) (o := 0) (u := .int .i64 G.a) hPR).far (C := w.heap.size + 1 + 1) (o := 1) (u := .int .i64 G.b) hPR).far (C := w.heap.size + 1 + 1) (o := 2) (u := .int .i64 G.c) hPR).far (C := w.heap.size + 1 + 1) (o := 3) (u := .int .i64 G.d) hPR).far (C := w.heap.size + 1 + 1) (o := 4) (u := .int .i64 G.e) hPR)).far (C := w.heap.size + 1 + 1 + 1) (o := 0) (u := .int .i64 J.a) hPS).far (C := w.heap.size + 1 + 1 + 1) (o := 1) (u := .int .i64 J.b) hPS).far (C := w.heap.size + 1 + 1 + 1) (o := 2) (u := .int .i64 J.c) hPS).far (C := w.heap.size + 1 + 1 + 1) (o := 3) (u := .int .i64 J.d) hPS).far (C := w.heap.size + 1 + 1 + 1) (o := 4) (u := .int .i64 J.e) hPS)), ((((((((((((bYf.far (C := w.heap.size + 1 + 1) (o := 0) (u := .int .i64 G.a) hQR).far (C := w.heap.size + 1 + 1) (o := 1) (u := .int .i64 G.b) hQR).far (C := w.heap.size + 1 + 1) (o := 2) (u := .int .i64 G.c) hQR).far (C := w.heap.size + 1 + 1) (o := 3) (u := .int .i64 G.d) hQR).far (C := w.heap.size + 1 + 1) (o := 4) (u := .int .i64 G.e) hQR)).far (C := w.heap.size + 1 + 1 + 1) (o := 0) (u := .int .i64 J.a) hQS).far (C := w.heap.size + 1 + 1 + 1) (o := 1) (u := .int .i64 J.b) hQS).far (C := w.heap.size + 1 + 1 + 1) (o := 2) (u := .int .i64 J.c) hQS).far (C := w.heap.size + 1 + 1 + 1) (o := 3) (u := .int .i64 J.d) hQS).far (C := w.heap.size + 1 + 1 + 1) (o := 4) (u := .int .i64 J.e) hQS))⟩ (fun _ => ?_)
        clear hK K
        try simp only [Act.put, List.setIfInBounds_toArray, List.set_cons_zero, List.set_cons_succ]
        refine wpAnyH_done (by kernel_rfl) ?_ _
        have bR2 := ((((((bR.set5 (.int .i64 G.a) (.int .i64 G.b) (.int .i64 G.c) (.int .i64 G.d) (.int .i64 G.e)).far (C := w.heap.size + 1 + 1 + 1) (o := 0) (u := .int .i64 J.a) (by omega)).far (C := w.heap.size + 1 + 1 + 1) (o := 1) (u := .int .i64 J.b) (by omega)).far (C := w.heap.size + 1 + 1 + 1) (o := 2) (u := .int .i64 J.c) (by omega)).far (C := w.heap.size + 1 + 1 + 1) (o := 3) (u := .int .i64 J.d) (by omega)).far (C := w.heap.size + 1 + 1 + 1) (o := 4) (u := .int .i64 J.e) (by omega))
        have bS2 := ((((((bS.far (C := w.heap.size + 1 + 1) (o := 0) (u := .int .i64 G.a) (by omega)).far (C := w.heap.size + 1 + 1) (o := 1) (u := .int .i64 G.b) (by omega)).far (C := w.heap.size + 1 + 1) (o := 2) (u := .int .i64 G.c) (by omega)).far (C := w.heap.size + 1 + 1) (o := 3) (u := .int .i64 G.d) (by omega)).far (C := w.heap.size + 1 + 1) (o := 4) (u := .int .i64 G.e) (by omega))).set5 (.int .i64 J.a) (.int .i64 J.b) (.int .i64 J.c) (.int .i64 J.d) (.int .i64 J.e)
        have B2 := below_set5 (below_set5 B0 (B := w.heap.size + 1 + 1) (by omega) (.int .i64 G.a) (.int .i64 G.b) (.int .i64 G.c) (.int .i64 G.d) (.int .i64 G.e)) (B := w.heap.size + 1 + 1 + 1) (by omega) (.int .i64 J.a) (.int .i64 J.b) (.int .i64 J.c) (.int .i64 J.d) (.int .i64 J.e)
        clear r0 s0f t0 t0f r1 s1f t1 t1f r2 s2f t2 t2f r3 s3f t3 t3f r4 s4f t4 t4f
        clear bR bS B0
        go_wp2
        obtain ⟨W2, hW2⟩ : ∃ W2, W2 = ((((((((((w15.setCell ⟨w.heap.size + 1 + 1, 0, none⟩ (.int .i64 G.a)).setCell ⟨w.heap.size + 1 + 1, 1, none⟩ (.int .i64 G.b)).setCell ⟨w.heap.size + 1 + 1, 2, none⟩ (.int .i64 G.c)).setCell ⟨w.heap.size + 1 + 1, 3, none⟩ (.int .i64 G.d)).setCell ⟨w.heap.size + 1 + 1, 4, none⟩ (.int .i64 G.e)).setCell ⟨w.heap.size + 1 + 1 + 1, 0, none⟩ (.int .i64 J.a)).setCell ⟨w.heap.size + 1 + 1 + 1, 1, none⟩ (.int .i64 J.b)).setCell ⟨w.heap.size + 1 + 1 + 1, 2, none⟩ (.int .i64 J.c)).setCell ⟨w.heap.size + 1 + 1 + 1, 3, none⟩ (.int .i64 J.d)).setCell ⟨w.heap.size + 1 + 1 + 1, 4, none⟩ (.int .i64 J.e)) := ⟨_, rfl⟩
        rw [← hW2] at bR2 bS2 B2 ⊢
        clear hW2
        have r0 := bR2.c 0 rfl
        have t0 := bS2.c 0 rfl
        have r1 := bR2.c 1 rfl
        have t1 := bS2.c 1 rfl
        have r2 := bR2.c 2 rfl
        have t2 := bS2.c 2 rfl
        have r3 := bR2.c 3 rfl
        have t3 := bS2.c 3 rfl
        have r4 := bR2.c 4 rfl
        have t4 := bS2.c 4 rfl
        exact bodyPost_ret (v := .tuple #[.agg #[.int .i64 G.a, .int .i64 G.b, .int .i64 G.c, .int .i64 G.d, .int .i64 G.e], .agg #[.int .i64 J.a, .int .i64 J.b, .int .i64 J.c, .int .i64 J.d, .int .i64 J.e]]) (by simp [results, Tryd.results9, go_sem, r0, t0, r1, t1, r2, t2, r3, t3, r4, t4]) rfl ⟨rfl, B2⟩
    · have D7 := (F6.symm.drop (Row.cut (k := []) F6.symm.sF.r) rfl).below ((Below.refl _ _).alloc (Nat.le_refl _) (.cells #[.int .i64 (mx.k), .int .i64 (mx.a), .int .i64 (mx.h), .int .i64 (mx.i), .slice none 0 0, .slice none 0 0, .slice none 0 0, .int .i64 0, .slice none 0 0, .int .i64 0, .int .i64 (mx.er)] 46))
      go_wp2_with fail
      clear fb0 fb1 fb2 fb3 lfb
      clear gz0 gzf0 gz1 gzf1 gz2 gzf2 gz3 gzf3 gz4 gzf4 lgz
      clear q0 q1 q2 q3 q4 q5 q6 q7 q8 q9 q10 bfb lg7
      refine ((sms ba bi bh bp Y.a Y.b Y.c Y.d Y.e mx _ rfl HB3.out (fun h => by have := HX.out.2.1; omega) KY.out.1 KY.out.2.1 KY.out.2.2 J HJS.out) _).mono ?_
      rintro e w7 ⟨v7, rfl, o7, hb⟩
      have E7 := D7.put hb (.int .i64 J.a) (.int .i64 J.b) (.int .i64 J.c) (.int .i64 J.d) (.int .i64 J.e)
      have bz := (D7.below hb).bX
      have ou := (Row.of o7).grown (grown_set5 w7 PY (.int .i64 J.a) (.int .i64 J.b) (.int .i64 J.c) (.int .i64 J.d) (.int .i64 J.e)) D7.bX.lt
      clear hb o7
      have gz0 := bz.c 0 (x := _) rfl
      have gzf0 := bz.f 0 (x := _) rfl
      have gz1 := bz.c 1 (x := _) rfl
      have gzf1 := bz.f 1 (x := _) rfl
      have gz2 := bz.c 2 (x := _) rfl
      have gzf2 := bz.f 2 (x := _) rfl
      have gz3 := bz.c 3 (x := _) rfl
      have gzf3 := bz.f 3 (x := _) rfl
      have gz4 := bz.c 4 (x := _) rfl
      have gzf4 := bz.f 4 (x := _) rfl
      have lgz := bz.lt
      go_wp2_with (at_builtin; refine Hid.out ?_)
      clear gz0 gzf0 gz1 gzf1 gz2 gzf2 gz3 gzf3 gz4 gzf4 lgz
      clear bz
      refine Lib.hid ?_
      refine wp_appT rfl (.tmp 73) (.tmp 74) rfl W0.heap.size _ _ v7 [my] J.l rfl rfl E7.sX.r ou (by rw [hJl]; simp) (by simp) E7.sX.b ?_
      intro v7b w7b r7b g7b ow7b
      rw [hJl] at r7b
      obtain ⟨g7, p7, c7, rfl, hc7, -, -⟩ := Row.cap1e (m := my) r7b
      have F7 := E7.app r7b g7b ow7b (by simp)
      clear r7b g7b ow7b E7 D7 ou
      go_wp2_with fail
      rw [rounds_succ]
      obtain ⟨hcc8, lg8, hq8⟩ := Row.cells1 F7.symm.sF.r
      simp at hcc8
      have q0 := hq8 0 (.int .i64 (my.k)) rfl
      rw [Nat.add_zero] at q0
      have q1 := hq8 1 (.int .i64 (my.a)) rfl
      have q2 := hq8 2 (.int .i64 (my.h)) rfl
      have q3 := hq8 3 (.int .i64 (my.i)) rfl
      have q4 := hq8 4 (.slice none 0 0) rfl
      have q5 := hq8 5 (.slice none 0 0) rfl
      have q6 := hq8 6 (.slice none 0 0) rfl
      have q7 := hq8 7 (.int .i64 0) rfl
      have q8 := hq8 8 (.slice none 0 0) rfl
      have q9 := hq8 9 (.int .i64 0) rfl
      have q10 := hq8 10 (.int .i64 (my.er)) rfl
      clear hq8
      have bfa := F7.symm.kp.bl bA hA.1 hA.2.1 hA.2.2
      have fa0 := bfa.c 0 rfl
      have fa1 := bfa.c 1 rfl
      have fa2 := bfa.c 2 rfl
      have fa3 := bfa.c 3 rfl
      have lfa := bfa.lt
      have gz0 := F7.symm.bX.c 0 (x := _) rfl
      have gzf0 := F7.symm.bX.f 0 (x := _) rfl
      have gz1 := F7.symm.bX.c 1 (x := _) rfl
      have gzf1 := F7.symm.bX.f 1 (x := _) rfl
      have gz2 := F7.symm.bX.c 2 (x := _) rfl
      have gzf2 := F7.symm.bX.f 2 (x := _) rfl
      have gz3 := F7.symm.bX.c 3 (x := _) rfl
      have gzf3 := F7.symm.bX.f 3 (x := _) rfl
      have gz4 := F7.symm.bX.c 4 (x := _) rfl
      have gzf4 := F7.symm.bX.f 4 (x := _) rfl
      have lgz := F7.symm.bX.lt
      by_cases hc8 : c7 = 1
      · subst hc8
        have D8 := (F7.symm.drop (Row.cut1 F7.symm.sF.r) rfl).below ((Below.refl _ _).alloc (Nat.le_refl _) (.cells #[.int .i64 (my.k), .int .i64 (my.a), .int .i64 (my.h), .int .i64 (my.i), .slice none 0 0, .slice none 0 0, .slice none 0 0, .int .i64 0, .slice none 0 0, .int .i64 0, .int .i64 (my.er)] 46))
        go_wp2_with fail
        clear fa0 fa1 fa2 fa3 lfa
        clear gz0 gzf0 gz1 gzf1 gz2 gzf2 gz3 gzf3 gz4 gzf4 lgz
        clear q0 q1 q2 q3 q4 q5 q6 q7 q8 q9 q10 bfa lg8
        refine ((sms aa ai ah ap X.a X.b X.c X.d X.e my _ rfl HA3.out (fun h => by have := HY.out.2.1; omega) KX.out.1 KX.out.2.1 KX.out.2.2 G HGS.out) _).mono ?_
        rintro e w8 ⟨v8, rfl, o8, hb⟩
        have E8 := D8.put hb (.int .i64 G.a) (.int .i64 G.b) (.int .i64 G.c) (.int .i64 G.d) (.int .i64 G.e)
        have bz := (D8.below hb).bX
        have ou := (Row.of o8).grown (grown_set5 w8 PX (.int .i64 G.a) (.int .i64 G.b) (.int .i64 G.c) (.int .i64 G.d) (.int .i64 G.e)) D8.bX.lt
        clear hb o8
        have gz0 := bz.c 0 (x := _) rfl
        have gzf0 := bz.f 0 (x := _) rfl
        have gz1 := bz.c 1 (x := _) rfl
        have gzf1 := bz.f 1 (x := _) rfl
        have gz2 := bz.c 2 (x := _) rfl
        have gzf2 := bz.f 2 (x := _) rfl
        have gz3 := bz.c 3 (x := _) rfl
        have gzf3 := bz.f 3 (x := _) rfl
        have gz4 := bz.c 4 (x := _) rfl
        have gzf4 := bz.f 4 (x := _) rfl
        have lgz := bz.lt
        go_wp2_with (at_builtin; refine Hid.out ?_)
        clear gz0 gzf0 gz1 gzf1 gz2 gzf2 gz3 gzf3 gz4 gzf4 lgz
        clear bz
        refine Lib.hid ?_
        refine wp_appT rfl (.tmp 89) (.tmp 90) rfl W0.heap.size _ _ v8 [] G.l rfl rfl E8.sX.r ou (by rw [hGl]; simp) (by simp) E8.sX.b ?_
        intro v8b w8b r8b g8b ow8b
        rw [hGl] at r8b
        obtain ⟨a8, c8, rfl⟩ := Row.cap0e r8b
        have F8 := E8.app r8b g8b ow8b (by simp)
        clear r8b g8b ow8b E8 D8 ou
        go_wp2_with fail
        rw [rounds_succ]
        go_wp2_with fail
        have bXf := F8.bX
        have bYf := F8.bF
        have bR12 := F8.kp.bl bR hR.1 hR.2.1 hR.2.2
        have bS12 := F8.kp.bl bS hS.1 hS.2.1 hS.2.2
        have B12 := F8.kp.out B0 HLO.out.1 HLO.out.2.1 HLO.out.2.2
        have hPR := hR.2.1.symm
        have hPS := hS.2.1.symm
        have hQR := hR.2.2.symm
        have hQS := hS.2.2.symm
        clear F8 bR bS B0 bA bB
        refine wp_region_held_drew (S := fun w' => Bl w' PX [.int .i64 G.a, .int .i64 G.b, .int .i64 G.c, .int .i64 G.d, .int .i64 G.e] ∧ Bl w' PY [.int .i64 J.a, .int .i64 J.b, .int .i64 J.c, .int .i64 J.d, .int .i64 J.e]) (by kernel_rfl) ⟨bXf.keep (over_drew w8b), bYf.keep (over_drew w8b)⟩ (fun hHeld => ?_)
        refine wpAnyH_take (i := 0) (v := ?_) rfl (by kernel_rfl) (by kernel_rfl) (by kernel_rfl) (fun _ _ _ h => h) (Or.inl ⟨by rfl, ?_⟩) (by assumption) ?_
        rotate_left
        · intro wq hSq
          (try dsimp only at hSq)
          have q0 := hSq.1.c 0 rfl
          have q1 := hSq.1.c 1 rfl
          have q2 := hSq.1.c 2 rfl
          have q3 := hSq.1.c 3 rfl
          have q4 := hSq.1.c 4 rfl
          go_simp
          try rfl
        change wpAnyH _ _ _ _ _ _ _ (Act.put _ (some 92) _) _
        simp only [Act.put, List.setIfInBounds_toArray, List.set_cons_succ, List.set_cons_zero]
        refine wpAnyH_take (i := 1) (v := ?_) rfl (by kernel_rfl) (by kernel_rfl) (by kernel_rfl) (fun _ _ _ h => h) (Or.inl ⟨by rfl, ?_⟩) (by assumption) ?_
        rotate_left
        · intro wq hSq
          (try dsimp only at hSq)
          have q0 := hSq.2.c 0 rfl
          have q1 := hSq.2.c 1 rfl
          have q2 := hSq.2.c 2 rfl
          have q3 := hSq.2.c 3 rfl
          have q4 := hSq.2.c 4 rfl
          go_simp
          try rfl
        change wpAnyH _ _ _ _ _ _ _ (Act.put _ (some 93) _) _
        simp only [Act.put, List.setIfInBounds_toArray, List.set_cons_succ, List.set_cons_zero]
        obtain ⟨w15, e15⟩ : ∃ u, u = w8b.drew := ⟨_, rfl⟩
        have O15 : Over w8b w15 := by rw [e15]; exact over_drew w8b
        rw [← e15]
        clear e15 hHeld
        replace bXf := bXf.keep O15
        replace bYf := bYf.keep O15
        have bR := bR12.keep O15
        have bS := bS12.keep O15
        have B0 := below_step B12 O15
        clear bR12 bS12 B12 O15
        have r0 := bR.c 0 rfl
        have s0f := bR.f 0 (x := _) rfl
        have t0 := bS.c 0 rfl
        have t0f := bS.f 0 (x := _) rfl
        have r1 := bR.c 1 rfl
        have s1f := bR.f 1 (x := _) rfl
        have t1 := bS.c 1 rfl
        have t1f := bS.f 1 (x := _) rfl
        have r2 := bR.c 2 rfl
        have s2f := bR.f 2 (x := _) rfl
        have t2 := bS.c 2 rfl
        have t2f := bS.f 2 (x := _) rfl
        have r3 := bR.c 3 rfl
        have s3f := bR.f 3 (x := _) rfl
        have t3 := bS.c 3 rfl
        have t3f := bS.f 3 (x := _) rfl
        have r4 := bR.c 4 rfl
        have s4f := bR.f 4 (x := _) rfl
        have t4 := bS.c 4 rfl
        have t4f := bS.f 4 (x := _) rfl
        refine wpAnyH_ready (rs := [2]) (by kernel_rfl) (by simp) ?_
        refine (AllReadyH.cons rfl (fun K hK => ?_) AllReadyH.nil)
        go_simp
        refine hK.out _ _ ⟨((((((bXf.far (C := w.heap.size + 1 + 1) (o := 0) (u := .int .i64 G.a) hPR).far (C := w.heap.size + 1 + 1) (o := 1) (u := .int .i64 G.b) hPR).far (C := w.heap.size + 1 + 1) (o := 2) (u := .int .i64 G.c) hPR).far (C := w.heap.size + 1 + 1) (o := 3) (u := .int .i64 G.d) hPR).far (C := w.heap.size + 1 + 1) (o := 4) (u := .int .i64 G.e) hPR)), ((((((bYf.far (C := w.heap.size + 1 + 1) (o := 0) (u := .int .i64 G.a) hQR).far (C := w.heap.size + 1 + 1) (o := 1) (u := .int .i64 G.b) hQR).far (C := w.heap.size + 1 + 1) (o := 2) (u := .int .i64 G.c) hQR).far (C := w.heap.size + 1 + 1) (o := 3) (u := .int .i64 G.d) hQR).far (C := w.heap.size + 1 + 1) (o := 4) (u := .int .i64 G.e) hQR))⟩ (fun _ => ?_)
        clear hK K
        try simp only [Act.put, List.setIfInBounds_toArray, List.set_cons_zero, List.set_cons_succ]
        refine wpAnyH_ready (rs := [3]) (by kernel_rfl) (by simp) ?_
        refine (AllReadyH.cons rfl (fun K hK => ?_) AllReadyH.nil)
        go_simp
        refine hK.out _ _ ⟨((((((((((((bXf.far (C := w.heap.size + 1 + 1) (o := 0) (u := .int .i64 G.a) hPR).far (C := w.heap.size + 1 + 1) (o := 1) (u := .int .i64 G.b) hPR).far (C := w.heap.size + 1 + 1) (o := 2) (u := .int .i64 G.c) hPR).far (C := w.heap.size + 1 + 1) (o := 3) (u := .int .i64 G.d) hPR).far (C := w.heap.size + 1 + 1) (o := 4) (u := .int .i64 G.e) hPR)).far (C := w.heap.size + 1 + 1 + 1) (o := 0) (u := .int .i64 J.a) hPS).far (C := w.heap.size + 1 + 1 + 1) (o := 1) (u := .int .i64 J.b) hPS).far (C := w.heap.size + 1 + 1 + 1) (o := 2) (u := .int .i64 J.c) hPS).far (C := w.heap.size + 1 + 1 + 1) (o := 3) (u := .int .i64 J.d) hPS).far (C := w.heap.size + 1 + 1 + 1) (o := 4) (u := .int .i64 J.e) hPS)), ((((((((((((bYf.far (C := w.heap.size + 1 + 1) (o := 0) (u := .int .i64 G.a) hQR).far (C := w.heap.size + 1 + 1) (o := 1) (u := .int .i64 G.b) hQR).far (C := w.heap.size + 1 + 1) (o := 2) (u := .int .i64 G.c) hQR).far (C := w.heap.size + 1 + 1) (o := 3) (u := .int .i64 G.d) hQR).far (C := w.heap.size + 1 + 1) (o := 4) (u := .int .i64 G.e) hQR)).far (C := w.heap.size + 1 + 1 + 1) (o := 0) (u := .int .i64 J.a) hQS).far (C := w.heap.size + 1 + 1 + 1) (o := 1) (u := .int .i64 J.b) hQS).far (C := w.heap.size + 1 + 1 + 1) (o := 2) (u := .int .i64 J.c) hQS).far (C := w.heap.size + 1 + 1 + 1) (o := 3) (u := .int .i64 J.d) hQS).far (C := w.heap.size + 1 + 1 + 1) (o := 4) (u := .int .i64 J.e) hQS))⟩ (fun _ => ?_)
        clear hK K
        try simp only [Act.put, List.setIfInBounds_toArray, List.set_cons_zero, List.set_cons_succ]
        refine wpAnyH_done (by kernel_rfl) ?_ _
        have bR2 := ((((((bR.set5 (.int .i64 G.a) (.int .i64 G.b) (.int .i64 G.c) (.int .i64 G.d) (.int .i64 G.e)).far (C := w.heap.size + 1 + 1 + 1) (o := 0) (u := .int .i64 J.a) (by omega)).far (C := w.heap.size + 1 + 1 + 1) (o := 1) (u := .int .i64 J.b) (by omega)).far (C := w.heap.size + 1 + 1 + 1) (o := 2) (u := .int .i64 J.c) (by omega)).far (C := w.heap.size + 1 + 1 + 1) (o := 3) (u := .int .i64 J.d) (by omega)).far (C := w.heap.size + 1 + 1 + 1) (o := 4) (u := .int .i64 J.e) (by omega))
        have bS2 := ((((((bS.far (C := w.heap.size + 1 + 1) (o := 0) (u := .int .i64 G.a) (by omega)).far (C := w.heap.size + 1 + 1) (o := 1) (u := .int .i64 G.b) (by omega)).far (C := w.heap.size + 1 + 1) (o := 2) (u := .int .i64 G.c) (by omega)).far (C := w.heap.size + 1 + 1) (o := 3) (u := .int .i64 G.d) (by omega)).far (C := w.heap.size + 1 + 1) (o := 4) (u := .int .i64 G.e) (by omega))).set5 (.int .i64 J.a) (.int .i64 J.b) (.int .i64 J.c) (.int .i64 J.d) (.int .i64 J.e)
        have B2 := below_set5 (below_set5 B0 (B := w.heap.size + 1 + 1) (by omega) (.int .i64 G.a) (.int .i64 G.b) (.int .i64 G.c) (.int .i64 G.d) (.int .i64 G.e)) (B := w.heap.size + 1 + 1 + 1) (by omega) (.int .i64 J.a) (.int .i64 J.b) (.int .i64 J.c) (.int .i64 J.d) (.int .i64 J.e)
        clear r0 s0f t0 t0f r1 s1f t1 t1f r2 s2f t2 t2f r3 s3f t3 t3f r4 s4f t4 t4f
        clear bR bS B0
        go_wp2
        obtain ⟨W2, hW2⟩ : ∃ W2, W2 = ((((((((((w15.setCell ⟨w.heap.size + 1 + 1, 0, none⟩ (.int .i64 G.a)).setCell ⟨w.heap.size + 1 + 1, 1, none⟩ (.int .i64 G.b)).setCell ⟨w.heap.size + 1 + 1, 2, none⟩ (.int .i64 G.c)).setCell ⟨w.heap.size + 1 + 1, 3, none⟩ (.int .i64 G.d)).setCell ⟨w.heap.size + 1 + 1, 4, none⟩ (.int .i64 G.e)).setCell ⟨w.heap.size + 1 + 1 + 1, 0, none⟩ (.int .i64 J.a)).setCell ⟨w.heap.size + 1 + 1 + 1, 1, none⟩ (.int .i64 J.b)).setCell ⟨w.heap.size + 1 + 1 + 1, 2, none⟩ (.int .i64 J.c)).setCell ⟨w.heap.size + 1 + 1 + 1, 3, none⟩ (.int .i64 J.d)).setCell ⟨w.heap.size + 1 + 1 + 1, 4, none⟩ (.int .i64 J.e)) := ⟨_, rfl⟩
        rw [← hW2] at bR2 bS2 B2 ⊢
        clear hW2
        have r0 := bR2.c 0 rfl
        have t0 := bS2.c 0 rfl
        have r1 := bR2.c 1 rfl
        have t1 := bS2.c 1 rfl
        have r2 := bR2.c 2 rfl
        have t2 := bS2.c 2 rfl
        have r3 := bR2.c 3 rfl
        have t3 := bS2.c 3 rfl
        have r4 := bR2.c 4 rfl
        have t4 := bS2.c 4 rfl
        exact bodyPost_ret (v := .tuple #[.agg #[.int .i64 G.a, .int .i64 G.b, .int .i64 G.c, .int .i64 G.d, .int .i64 G.e], .agg #[.int .i64 J.a, .int .i64 J.b, .int .i64 J.c, .int .i64 J.d, .int .i64 J.e]]) (by simp [results, Tryd.results9, go_sem, r0, t0, r1, t1, r2, t2, r3, t3, r4, t4]) rfl ⟨rfl, B2⟩
      · have D8 := (F7.symm.drop (Row.cut (k := []) F7.symm.sF.r) rfl).below ((Below.refl _ _).alloc (Nat.le_refl _) (.cells #[.int .i64 (my.k), .int .i64 (my.a), .int .i64 (my.h), .int .i64 (my.i), .slice none 0 0, .slice none 0 0, .slice none 0 0, .int .i64 0, .slice none 0 0, .int .i64 0, .int .i64 (my.er)] 46))
        go_wp2_with fail
        clear fa0 fa1 fa2 fa3 lfa
        clear gz0 gzf0 gz1 gzf1 gz2 gzf2 gz3 gzf3 gz4 gzf4 lgz
        clear q0 q1 q2 q3 q4 q5 q6 q7 q8 q9 q10 bfa lg8
        refine ((sms aa ai ah ap X.a X.b X.c X.d X.e my _ rfl HA3.out (fun h => by have := HY.out.2.1; omega) KX.out.1 KX.out.2.1 KX.out.2.2 G HGS.out) _).mono ?_
        rintro e w8 ⟨v8, rfl, o8, hb⟩
        have E8 := D8.put hb (.int .i64 G.a) (.int .i64 G.b) (.int .i64 G.c) (.int .i64 G.d) (.int .i64 G.e)
        have bz := (D8.below hb).bX
        have ou := (Row.of o8).grown (grown_set5 w8 PX (.int .i64 G.a) (.int .i64 G.b) (.int .i64 G.c) (.int .i64 G.d) (.int .i64 G.e)) D8.bX.lt
        clear hb o8
        have gz0 := bz.c 0 (x := _) rfl
        have gzf0 := bz.f 0 (x := _) rfl
        have gz1 := bz.c 1 (x := _) rfl
        have gzf1 := bz.f 1 (x := _) rfl
        have gz2 := bz.c 2 (x := _) rfl
        have gzf2 := bz.f 2 (x := _) rfl
        have gz3 := bz.c 3 (x := _) rfl
        have gzf3 := bz.f 3 (x := _) rfl
        have gz4 := bz.c 4 (x := _) rfl
        have gzf4 := bz.f 4 (x := _) rfl
        have lgz := bz.lt
        go_wp2_with (at_builtin; refine Hid.out ?_)
        clear gz0 gzf0 gz1 gzf1 gz2 gzf2 gz3 gzf3 gz4 gzf4 lgz
        clear bz
        refine Lib.hid ?_
        refine wp_appT rfl (.tmp 89) (.tmp 90) rfl W0.heap.size _ _ v8 [] G.l rfl rfl E8.sX.r ou (by rw [hGl]; simp) (by simp) E8.sX.b ?_
        intro v8b w8b r8b g8b ow8b
        rw [hGl] at r8b
        obtain ⟨a8, c8, rfl⟩ := Row.cap0e r8b
        have F8 := E8.app r8b g8b ow8b (by simp)
        clear r8b g8b ow8b E8 D8 ou
        go_wp2_with fail
        rw [rounds_succ]
        go_wp2_with fail
        have bXf := F8.bX
        have bYf := F8.bF
        have bR12 := F8.kp.bl bR hR.1 hR.2.1 hR.2.2
        have bS12 := F8.kp.bl bS hS.1 hS.2.1 hS.2.2
        have B12 := F8.kp.out B0 HLO.out.1 HLO.out.2.1 HLO.out.2.2
        have hPR := hR.2.1.symm
        have hPS := hS.2.1.symm
        have hQR := hR.2.2.symm
        have hQS := hS.2.2.symm
        clear F8 bR bS B0 bA bB
        refine wp_region_held_drew (S := fun w' => Bl w' PX [.int .i64 G.a, .int .i64 G.b, .int .i64 G.c, .int .i64 G.d, .int .i64 G.e] ∧ Bl w' PY [.int .i64 J.a, .int .i64 J.b, .int .i64 J.c, .int .i64 J.d, .int .i64 J.e]) (by kernel_rfl) ⟨bXf.keep (over_drew w8b), bYf.keep (over_drew w8b)⟩ (fun hHeld => ?_)
        refine wpAnyH_take (i := 0) (v := ?_) rfl (by kernel_rfl) (by kernel_rfl) (by kernel_rfl) (fun _ _ _ h => h) (Or.inl ⟨by rfl, ?_⟩) (by assumption) ?_
        rotate_left
        · intro wq hSq
          (try dsimp only at hSq)
          have q0 := hSq.1.c 0 rfl
          have q1 := hSq.1.c 1 rfl
          have q2 := hSq.1.c 2 rfl
          have q3 := hSq.1.c 3 rfl
          have q4 := hSq.1.c 4 rfl
          go_simp
          try rfl
        change wpAnyH _ _ _ _ _ _ _ (Act.put _ (some 92) _) _
        simp only [Act.put, List.setIfInBounds_toArray, List.set_cons_succ, List.set_cons_zero]
        refine wpAnyH_take (i := 1) (v := ?_) rfl (by kernel_rfl) (by kernel_rfl) (by kernel_rfl) (fun _ _ _ h => h) (Or.inl ⟨by rfl, ?_⟩) (by assumption) ?_
        rotate_left
        · intro wq hSq
          (try dsimp only at hSq)
          have q0 := hSq.2.c 0 rfl
          have q1 := hSq.2.c 1 rfl
          have q2 := hSq.2.c 2 rfl
          have q3 := hSq.2.c 3 rfl
          have q4 := hSq.2.c 4 rfl
          go_simp
          try rfl
        change wpAnyH _ _ _ _ _ _ _ (Act.put _ (some 93) _) _
        simp only [Act.put, List.setIfInBounds_toArray, List.set_cons_succ, List.set_cons_zero]
        obtain ⟨w15, e15⟩ : ∃ u, u = w8b.drew := ⟨_, rfl⟩
        have O15 : Over w8b w15 := by rw [e15]; exact over_drew w8b
        rw [← e15]
        clear e15 hHeld
        replace bXf := bXf.keep O15
        replace bYf := bYf.keep O15
        have bR := bR12.keep O15
        have bS := bS12.keep O15
        have B0 := below_step B12 O15
        clear bR12 bS12 B12 O15
        have r0 := bR.c 0 rfl
        have s0f := bR.f 0 (x := _) rfl
        have t0 := bS.c 0 rfl
        have t0f := bS.f 0 (x := _) rfl
        have r1 := bR.c 1 rfl
        have s1f := bR.f 1 (x := _) rfl
        have t1 := bS.c 1 rfl
        have t1f := bS.f 1 (x := _) rfl
        have r2 := bR.c 2 rfl
        have s2f := bR.f 2 (x := _) rfl
        have t2 := bS.c 2 rfl
        have t2f := bS.f 2 (x := _) rfl
        have r3 := bR.c 3 rfl
        have s3f := bR.f 3 (x := _) rfl
        have t3 := bS.c 3 rfl
        have t3f := bS.f 3 (x := _) rfl
        have r4 := bR.c 4 rfl
        have s4f := bR.f 4 (x := _) rfl
        have t4 := bS.c 4 rfl
        have t4f := bS.f 4 (x := _) rfl
        refine wpAnyH_ready (rs := [2]) (by kernel_rfl) (by simp) ?_
        refine (AllReadyH.cons rfl (fun K hK => ?_) AllReadyH.nil)
        go_simp
        refine hK.out _ _ ⟨((((((bXf.far (C := w.heap.size + 1 + 1) (o := 0) (u := .int .i64 G.a) hPR).far (C := w.heap.size + 1 + 1) (o := 1) (u := .int .i64 G.b) hPR).far (C := w.heap.size + 1 + 1) (o := 2) (u := .int .i64 G.c) hPR).far (C := w.heap.size + 1 + 1) (o := 3) (u := .int .i64 G.d) hPR).far (C := w.heap.size + 1 + 1) (o := 4) (u := .int .i64 G.e) hPR)), ((((((bYf.far (C := w.heap.size + 1 + 1) (o := 0) (u := .int .i64 G.a) hQR).far (C := w.heap.size + 1 + 1) (o := 1) (u := .int .i64 G.b) hQR).far (C := w.heap.size + 1 + 1) (o := 2) (u := .int .i64 G.c) hQR).far (C := w.heap.size + 1 + 1) (o := 3) (u := .int .i64 G.d) hQR).far (C := w.heap.size + 1 + 1) (o := 4) (u := .int .i64 G.e) hQR))⟩ (fun _ => ?_)
        clear hK K
        try simp only [Act.put, List.setIfInBounds_toArray, List.set_cons_zero, List.set_cons_succ]
        refine wpAnyH_ready (rs := [3]) (by kernel_rfl) (by simp) ?_
        refine (AllReadyH.cons rfl (fun K hK => ?_) AllReadyH.nil)
        go_simp
        refine hK.out _ _ ⟨((((((((((((bXf.far (C := w.heap.size + 1 + 1) (o := 0) (u := .int .i64 G.a) hPR).far (C := w.heap.size + 1 + 1) (o := 1) (u := .int .i64 G.b) hPR).far (C := w.heap.size + 1 + 1) (o := 2) (u := .int .i64 G.c) hPR).far (C := w.heap.size + 1 + 1) (o := 3) (u := .int .i64 G.d) hPR).far (C := w.heap.size + 1 + 1) (o := 4) (u := .int .i64 G.e) hPR)).far (C := w.heap.size + 1 + 1 + 1) (o := 0) (u := .int .i64 J.a) hPS).far (C := w.heap.size + 1 + 1 + 1) (o := 1) (u := .int .i64 J.b) hPS).far (C := w.heap.size + 1 + 1 + 1) (o := 2) (u := .int .i64 J.c) hPS).far (C := w.heap.size + 1 + 1 + 1) (o := 3) (u := .int .i64 J.d) hPS).far (C := w.heap.size + 1 + 1 + 1) (o := 4) (u := .int .i64 J.e) hPS)), ((((((((((((bYf.far (C := w.heap.size + 1 + 1) (o := 0) (u := .int .i64 G.a) hQR).far (C := w.heap.size + 1 + 1) (o := 1) (u := .int .i64 G.b) hQR).far (C := w.heap.size + 1 + 1) (o := 2) (u := .int .i64 G.c) hQR).far (C := w.heap.size + 1 + 1) (o := 3) (u := .int .i64 G.d) hQR).far (C := w.heap.size + 1 + 1) (o := 4) (u := .int .i64 G.e) hQR)).far (C := w.heap.size + 1 + 1 + 1) (o := 0) (u := .int .i64 J.a) hQS).far (C := w.heap.size + 1 + 1 + 1) (o := 1) (u := .int .i64 J.b) hQS).far (C := w.heap.size + 1 + 1 + 1) (o := 2) (u := .int .i64 J.c) hQS).far (C := w.heap.size + 1 + 1 + 1) (o := 3) (u := .int .i64 J.d) hQS).far (C := w.heap.size + 1 + 1 + 1) (o := 4) (u := .int .i64 J.e) hQS))⟩ (fun _ => ?_)
        clear hK K
        try simp only [Act.put, List.setIfInBounds_toArray, List.set_cons_zero, List.set_cons_succ]
        refine wpAnyH_done (by kernel_rfl) ?_ _
        have bR2 := ((((((bR.set5 (.int .i64 G.a) (.int .i64 G.b) (.int .i64 G.c) (.int .i64 G.d) (.int .i64 G.e)).far (C := w.heap.size + 1 + 1 + 1) (o := 0) (u := .int .i64 J.a) (by omega)).far (C := w.heap.size + 1 + 1 + 1) (o := 1) (u := .int .i64 J.b) (by omega)).far (C := w.heap.size + 1 + 1 + 1) (o := 2) (u := .int .i64 J.c) (by omega)).far (C := w.heap.size + 1 + 1 + 1) (o := 3) (u := .int .i64 J.d) (by omega)).far (C := w.heap.size + 1 + 1 + 1) (o := 4) (u := .int .i64 J.e) (by omega))
        have bS2 := ((((((bS.far (C := w.heap.size + 1 + 1) (o := 0) (u := .int .i64 G.a) (by omega)).far (C := w.heap.size + 1 + 1) (o := 1) (u := .int .i64 G.b) (by omega)).far (C := w.heap.size + 1 + 1) (o := 2) (u := .int .i64 G.c) (by omega)).far (C := w.heap.size + 1 + 1) (o := 3) (u := .int .i64 G.d) (by omega)).far (C := w.heap.size + 1 + 1) (o := 4) (u := .int .i64 G.e) (by omega))).set5 (.int .i64 J.a) (.int .i64 J.b) (.int .i64 J.c) (.int .i64 J.d) (.int .i64 J.e)
        have B2 := below_set5 (below_set5 B0 (B := w.heap.size + 1 + 1) (by omega) (.int .i64 G.a) (.int .i64 G.b) (.int .i64 G.c) (.int .i64 G.d) (.int .i64 G.e)) (B := w.heap.size + 1 + 1 + 1) (by omega) (.int .i64 J.a) (.int .i64 J.b) (.int .i64 J.c) (.int .i64 J.d) (.int .i64 J.e)
        clear r0 s0f t0 t0f r1 s1f t1 t1f r2 s2f t2 t2f r3 s3f t3 t3f r4 s4f t4 t4f
        clear bR bS B0
        go_wp2
        obtain ⟨W2, hW2⟩ : ∃ W2, W2 = ((((((((((w15.setCell ⟨w.heap.size + 1 + 1, 0, none⟩ (.int .i64 G.a)).setCell ⟨w.heap.size + 1 + 1, 1, none⟩ (.int .i64 G.b)).setCell ⟨w.heap.size + 1 + 1, 2, none⟩ (.int .i64 G.c)).setCell ⟨w.heap.size + 1 + 1, 3, none⟩ (.int .i64 G.d)).setCell ⟨w.heap.size + 1 + 1, 4, none⟩ (.int .i64 G.e)).setCell ⟨w.heap.size + 1 + 1 + 1, 0, none⟩ (.int .i64 J.a)).setCell ⟨w.heap.size + 1 + 1 + 1, 1, none⟩ (.int .i64 J.b)).setCell ⟨w.heap.size + 1 + 1 + 1, 2, none⟩ (.int .i64 J.c)).setCell ⟨w.heap.size + 1 + 1 + 1, 3, none⟩ (.int .i64 J.d)).setCell ⟨w.heap.size + 1 + 1 + 1, 4, none⟩ (.int .i64 J.e)) := ⟨_, rfl⟩
        rw [← hW2] at bR2 bS2 B2 ⊢
        clear hW2
        have r0 := bR2.c 0 rfl
        have t0 := bS2.c 0 rfl
        have r1 := bR2.c 1 rfl
        have t1 := bS2.c 1 rfl
        have r2 := bR2.c 2 rfl
        have t2 := bS2.c 2 rfl
        have r3 := bR2.c 3 rfl
        have t3 := bS2.c 3 rfl
        have r4 := bR2.c 4 rfl
        have t4 := bS2.c 4 rfl
        exact bodyPost_ret (v := .tuple #[.agg #[.int .i64 G.a, .int .i64 G.b, .int .i64 G.c, .int .i64 G.d, .int .i64 G.e], .agg #[.int .i64 J.a, .int .i64 J.b, .int .i64 J.c, .int .i64 J.d, .int .i64 J.e]]) (by simp [results, Tryd.results9, go_sem, r0, t0, r1, t1, r2, t2, r3, t3, r4, t4]) rfl ⟨rfl, B2⟩
  · have D5 := (H4.drop (Row.cut (k := []) H4.sF.r) rfl).below ((Below.refl _ _).alloc (Nat.le_refl _) (.cells #[.int .i64 (1), .int .i64 (aa), .int .i64 (ah), .int .i64 (ai), .slice none 0 0, .slice none 0 0, .slice none 0 0, .int .i64 0, .slice none 0 0, .int .i64 0, .int .i64 (0)] 46))
    go_wp2_with fail
    clear fb0 fb1 fb2 fb3 lfb
    clear gz0 gzf0 gz1 gzf1 gz2 gzf2 gz3 gzf3 gz4 gzf4 lgz
    clear q0 q1 q2 q3 q4 q5 q6 q7 q8 q9 q10 bfb lg5
    refine ((sms ba bi bh bp 2 bh 0 0 0 ⟨1, aa, ah, ai, 0⟩ q HQ.out HB3.out (fun _ => HA3.out) (by decide) (fun _ => by have := HB3.out; omega) (by simp) Y eY.out) _).mono ?_
    rintro e w5 ⟨v5, rfl, o5, hb⟩
    have E5 := D5.put hb (.int .i64 Y.a) (.int .i64 Y.b) (.int .i64 Y.c) (.int .i64 Y.d) (.int .i64 Y.e)
    have bz := (D5.below hb).bX
    have ou := (Row.of o5).grown (grown_set5 w5 PY (.int .i64 Y.a) (.int .i64 Y.b) (.int .i64 Y.c) (.int .i64 Y.d) (.int .i64 Y.e)) D5.bX.lt
    clear hb o5
    have gz0 := bz.c 0 (x := _) rfl
    have gzf0 := bz.f 0 (x := _) rfl
    have gz1 := bz.c 1 (x := _) rfl
    have gzf1 := bz.f 1 (x := _) rfl
    have gz2 := bz.c 2 (x := _) rfl
    have gzf2 := bz.f 2 (x := _) rfl
    have gz3 := bz.c 3 (x := _) rfl
    have gzf3 := bz.f 3 (x := _) rfl
    have gz4 := bz.c 4 (x := _) rfl
    have gzf4 := bz.f 4 (x := _) rfl
    have lgz := bz.lt
    go_wp2_with (at_builtin; refine Hid.out ?_)
    clear gz0 gzf0 gz1 gzf1 gz2 gzf2 gz3 gzf3 gz4 gzf4 lgz
    clear bz
    refine Lib.hid ?_
    refine wp_appT rfl (.tmp 73) (.tmp 74) rfl W0.heap.size _ _ v5 [⟨1, ba, bh, bi, 0⟩] Y.l rfl rfl E5.sX.r ou (by rw [hmy]; simp) (by simp) E5.sX.b ?_
    intro v5b w5b r5b g5b ow5b
    rw [hmy] at r5b
    obtain ⟨g5, p5, c5, rfl, hc5, -, -⟩ := Row.cap2e (m2 := my) r5b
    have F5 := E5.app r5b g5b ow5b (by simp)
    clear r5b g5b ow5b E5 D5 ou
    go_wp2_with fail
    rw [rounds_succ]
    obtain ⟨hcc6, lg6, hq6⟩ := Row.cells1 F5.symm.sF.r
    simp at hcc6
    have q0 := hq6 0 (.int .i64 (1)) rfl
    rw [Nat.add_zero] at q0
    have q1 := hq6 1 (.int .i64 (ba)) rfl
    have q2 := hq6 2 (.int .i64 (bh)) rfl
    have q3 := hq6 3 (.int .i64 (bi)) rfl
    have q4 := hq6 4 (.slice none 0 0) rfl
    have q5 := hq6 5 (.slice none 0 0) rfl
    have q6 := hq6 6 (.slice none 0 0) rfl
    have q7 := hq6 7 (.int .i64 0) rfl
    have q8 := hq6 8 (.slice none 0 0) rfl
    have q9 := hq6 9 (.int .i64 0) rfl
    have q10 := hq6 10 (.int .i64 (0)) rfl
    clear hq6
    have bfa := F5.symm.kp.bl bA hA.1 hA.2.1 hA.2.2
    have fa0 := bfa.c 0 rfl
    have fa1 := bfa.c 1 rfl
    have fa2 := bfa.c 2 rfl
    have fa3 := bfa.c 3 rfl
    have lfa := bfa.lt
    have gz0 := F5.symm.bX.c 0 (x := _) rfl
    have gzf0 := F5.symm.bX.f 0 (x := _) rfl
    have gz1 := F5.symm.bX.c 1 (x := _) rfl
    have gzf1 := F5.symm.bX.f 1 (x := _) rfl
    have gz2 := F5.symm.bX.c 2 (x := _) rfl
    have gzf2 := F5.symm.bX.f 2 (x := _) rfl
    have gz3 := F5.symm.bX.c 3 (x := _) rfl
    have gzf3 := F5.symm.bX.f 3 (x := _) rfl
    have gz4 := F5.symm.bX.c 4 (x := _) rfl
    have gzf4 := F5.symm.bX.f 4 (x := _) rfl
    have lgz := F5.symm.bX.lt
    have hc6 : ¬ c5 = 1 := by omega
    have D6 := (F5.symm.drop (Row.cut (k := [my]) F5.symm.sF.r) rfl).below ((Below.refl _ _).alloc (Nat.le_refl _) (.cells #[.int .i64 (1), .int .i64 (ba), .int .i64 (bh), .int .i64 (bi), .slice none 0 0, .slice none 0 0, .slice none 0 0, .int .i64 0, .slice none 0 0, .int .i64 0, .int .i64 (0)] 46))
    go_wp2_with fail
    clear fa0 fa1 fa2 fa3 lfa
    clear gz0 gzf0 gz1 gzf1 gz2 gzf2 gz3 gzf3 gz4 gzf4 lgz
    clear q0 q1 q2 q3 q4 q5 q6 q7 q8 q9 q10 bfa lg6
    refine ((sms aa ai ah ap 2 ah 0 0 0 ⟨1, ba, bh, bi, 0⟩ p HP.out HA3.out (fun _ => HB3.out) (by decide) (fun _ => by have := HA3.out; omega) (by simp) X eX.out) _).mono ?_
    rintro e w6 ⟨v6, rfl, o6, hb⟩
    have E6 := D6.put hb (.int .i64 X.a) (.int .i64 X.b) (.int .i64 X.c) (.int .i64 X.d) (.int .i64 X.e)
    have bz := (D6.below hb).bX
    have ou := (Row.of o6).grown (grown_set5 w6 PX (.int .i64 X.a) (.int .i64 X.b) (.int .i64 X.c) (.int .i64 X.d) (.int .i64 X.e)) D6.bX.lt
    clear hb o6
    have gz0 := bz.c 0 (x := _) rfl
    have gzf0 := bz.f 0 (x := _) rfl
    have gz1 := bz.c 1 (x := _) rfl
    have gzf1 := bz.f 1 (x := _) rfl
    have gz2 := bz.c 2 (x := _) rfl
    have gzf2 := bz.f 2 (x := _) rfl
    have gz3 := bz.c 3 (x := _) rfl
    have gzf3 := bz.f 3 (x := _) rfl
    have gz4 := bz.c 4 (x := _) rfl
    have gzf4 := bz.f 4 (x := _) rfl
    have lgz := bz.lt
    go_wp2_with (at_builtin; refine Hid.out ?_)
    clear gz0 gzf0 gz1 gzf1 gz2 gzf2 gz3 gzf3 gz4 gzf4 lgz
    clear bz
    refine Lib.hid ?_
    refine wp_appT rfl (.tmp 89) (.tmp 90) rfl W0.heap.size _ _ v6 [] X.l rfl rfl E6.sX.r ou (by rw [hmx]; simp) (by simp) E6.sX.b ?_
    intro v6b w6b r6b g6b ow6b
    rw [hmx] at r6b
    obtain ⟨g6, p6, c6, rfl, hc6, -, -⟩ := Row.cap1e (m := mx) r6b
    have F6 := E6.app r6b g6b ow6b (by simp)
    clear r6b g6b ow6b E6 D6 ou
    go_wp2_with fail
    rw [rounds_succ]
    obtain ⟨hcc7, lg7, hq7⟩ := Row.cells1 F6.symm.sF.r
    simp at hcc7
    have q0 := hq7 0 (.int .i64 (mx.k)) rfl
    rw [Nat.add_zero] at q0
    have q1 := hq7 1 (.int .i64 (mx.a)) rfl
    have q2 := hq7 2 (.int .i64 (mx.h)) rfl
    have q3 := hq7 3 (.int .i64 (mx.i)) rfl
    have q4 := hq7 4 (.slice none 0 0) rfl
    have q5 := hq7 5 (.slice none 0 0) rfl
    have q6 := hq7 6 (.slice none 0 0) rfl
    have q7 := hq7 7 (.int .i64 0) rfl
    have q8 := hq7 8 (.slice none 0 0) rfl
    have q9 := hq7 9 (.int .i64 0) rfl
    have q10 := hq7 10 (.int .i64 (mx.er)) rfl
    clear hq7
    have bfb := F6.symm.kp.bl bB hB.1 hB.2.2 hB.2.1
    have fb0 := bfb.c 0 rfl
    have fb1 := bfb.c 1 rfl
    have fb2 := bfb.c 2 rfl
    have fb3 := bfb.c 3 rfl
    have lfb := bfb.lt
    have gz0 := F6.symm.bX.c 0 (x := _) rfl
    have gzf0 := F6.symm.bX.f 0 (x := _) rfl
    have gz1 := F6.symm.bX.c 1 (x := _) rfl
    have gzf1 := F6.symm.bX.f 1 (x := _) rfl
    have gz2 := F6.symm.bX.c 2 (x := _) rfl
    have gzf2 := F6.symm.bX.f 2 (x := _) rfl
    have gz3 := F6.symm.bX.c 3 (x := _) rfl
    have gzf3 := F6.symm.bX.f 3 (x := _) rfl
    have gz4 := F6.symm.bX.c 4 (x := _) rfl
    have gzf4 := F6.symm.bX.f 4 (x := _) rfl
    have lgz := F6.symm.bX.lt
    by_cases hc7 : c6 = 1
    · subst hc7
      have D7 := (F6.symm.drop (Row.cut1 F6.symm.sF.r) rfl).below ((Below.refl _ _).alloc (Nat.le_refl _) (.cells #[.int .i64 (mx.k), .int .i64 (mx.a), .int .i64 (mx.h), .int .i64 (mx.i), .slice none 0 0, .slice none 0 0, .slice none 0 0, .int .i64 0, .slice none 0 0, .int .i64 0, .int .i64 (mx.er)] 46))
      go_wp2_with fail
      clear fb0 fb1 fb2 fb3 lfb
      clear gz0 gzf0 gz1 gzf1 gz2 gzf2 gz3 gzf3 gz4 gzf4 lgz
      clear q0 q1 q2 q3 q4 q5 q6 q7 q8 q9 q10 bfb lg7
      refine ((sms ba bi bh bp Y.a Y.b Y.c Y.d Y.e mx _ rfl HB3.out (fun h => by have := HX.out.2.1; omega) KY.out.1 KY.out.2.1 KY.out.2.2 J HJS.out) _).mono ?_
      rintro e w7 ⟨v7, rfl, o7, hb⟩
      have E7 := D7.put hb (.int .i64 J.a) (.int .i64 J.b) (.int .i64 J.c) (.int .i64 J.d) (.int .i64 J.e)
      have bz := (D7.below hb).bX
      have ou := (Row.of o7).grown (grown_set5 w7 PY (.int .i64 J.a) (.int .i64 J.b) (.int .i64 J.c) (.int .i64 J.d) (.int .i64 J.e)) D7.bX.lt
      clear hb o7
      have gz0 := bz.c 0 (x := _) rfl
      have gzf0 := bz.f 0 (x := _) rfl
      have gz1 := bz.c 1 (x := _) rfl
      have gzf1 := bz.f 1 (x := _) rfl
      have gz2 := bz.c 2 (x := _) rfl
      have gzf2 := bz.f 2 (x := _) rfl
      have gz3 := bz.c 3 (x := _) rfl
      have gzf3 := bz.f 3 (x := _) rfl
      have gz4 := bz.c 4 (x := _) rfl
      have gzf4 := bz.f 4 (x := _) rfl
      have lgz := bz.lt
      go_wp2_with (at_builtin; refine Hid.out ?_)
      clear gz0 gzf0 gz1 gzf1 gz2 gzf2 gz3 gzf3 gz4 gzf4 lgz
      clear bz
      refine Lib.hid ?_
      refine wp_appT rfl (.tmp 73) (.tmp 74) rfl W0.heap.size _ _ v7 [my] J.l rfl rfl E7.sX.r ou (by rw [hJl]; simp) (by simp) E7.sX.b ?_
      intro v7b w7b r7b g7b ow7b
      rw [hJl] at r7b
      obtain ⟨g7, p7, c7, rfl, hc7, -, -⟩ := Row.cap1e (m := my) r7b
      have F7 := E7.app r7b g7b ow7b (by simp)
      clear r7b g7b ow7b E7 D7 ou
      go_wp2_with fail
      rw [rounds_succ]
      obtain ⟨hcc8, lg8, hq8⟩ := Row.cells1 F7.symm.sF.r
      simp at hcc8
      have q0 := hq8 0 (.int .i64 (my.k)) rfl
      rw [Nat.add_zero] at q0
      have q1 := hq8 1 (.int .i64 (my.a)) rfl
      have q2 := hq8 2 (.int .i64 (my.h)) rfl
      have q3 := hq8 3 (.int .i64 (my.i)) rfl
      have q4 := hq8 4 (.slice none 0 0) rfl
      have q5 := hq8 5 (.slice none 0 0) rfl
      have q6 := hq8 6 (.slice none 0 0) rfl
      have q7 := hq8 7 (.int .i64 0) rfl
      have q8 := hq8 8 (.slice none 0 0) rfl
      have q9 := hq8 9 (.int .i64 0) rfl
      have q10 := hq8 10 (.int .i64 (my.er)) rfl
      clear hq8
      have bfa := F7.symm.kp.bl bA hA.1 hA.2.1 hA.2.2
      have fa0 := bfa.c 0 rfl
      have fa1 := bfa.c 1 rfl
      have fa2 := bfa.c 2 rfl
      have fa3 := bfa.c 3 rfl
      have lfa := bfa.lt
      have gz0 := F7.symm.bX.c 0 (x := _) rfl
      have gzf0 := F7.symm.bX.f 0 (x := _) rfl
      have gz1 := F7.symm.bX.c 1 (x := _) rfl
      have gzf1 := F7.symm.bX.f 1 (x := _) rfl
      have gz2 := F7.symm.bX.c 2 (x := _) rfl
      have gzf2 := F7.symm.bX.f 2 (x := _) rfl
      have gz3 := F7.symm.bX.c 3 (x := _) rfl
      have gzf3 := F7.symm.bX.f 3 (x := _) rfl
      have gz4 := F7.symm.bX.c 4 (x := _) rfl
      have gzf4 := F7.symm.bX.f 4 (x := _) rfl
      have lgz := F7.symm.bX.lt
      by_cases hc8 : c7 = 1
      · subst hc8
        have D8 := (F7.symm.drop (Row.cut1 F7.symm.sF.r) rfl).below ((Below.refl _ _).alloc (Nat.le_refl _) (.cells #[.int .i64 (my.k), .int .i64 (my.a), .int .i64 (my.h), .int .i64 (my.i), .slice none 0 0, .slice none 0 0, .slice none 0 0, .int .i64 0, .slice none 0 0, .int .i64 0, .int .i64 (my.er)] 46))
        go_wp2_with fail
        clear fa0 fa1 fa2 fa3 lfa
        clear gz0 gzf0 gz1 gzf1 gz2 gzf2 gz3 gzf3 gz4 gzf4 lgz
        clear q0 q1 q2 q3 q4 q5 q6 q7 q8 q9 q10 bfa lg8
        refine ((sms aa ai ah ap X.a X.b X.c X.d X.e my _ rfl HA3.out (fun h => by have := HY.out.2.1; omega) KX.out.1 KX.out.2.1 KX.out.2.2 G HGS.out) _).mono ?_
        rintro e w8 ⟨v8, rfl, o8, hb⟩
        have E8 := D8.put hb (.int .i64 G.a) (.int .i64 G.b) (.int .i64 G.c) (.int .i64 G.d) (.int .i64 G.e)
        have bz := (D8.below hb).bX
        have ou := (Row.of o8).grown (grown_set5 w8 PX (.int .i64 G.a) (.int .i64 G.b) (.int .i64 G.c) (.int .i64 G.d) (.int .i64 G.e)) D8.bX.lt
        clear hb o8
        have gz0 := bz.c 0 (x := _) rfl
        have gzf0 := bz.f 0 (x := _) rfl
        have gz1 := bz.c 1 (x := _) rfl
        have gzf1 := bz.f 1 (x := _) rfl
        have gz2 := bz.c 2 (x := _) rfl
        have gzf2 := bz.f 2 (x := _) rfl
        have gz3 := bz.c 3 (x := _) rfl
        have gzf3 := bz.f 3 (x := _) rfl
        have gz4 := bz.c 4 (x := _) rfl
        have gzf4 := bz.f 4 (x := _) rfl
        have lgz := bz.lt
        go_wp2_with (at_builtin; refine Hid.out ?_)
        clear gz0 gzf0 gz1 gzf1 gz2 gzf2 gz3 gzf3 gz4 gzf4 lgz
        clear bz
        refine Lib.hid ?_
        refine wp_appT rfl (.tmp 89) (.tmp 90) rfl W0.heap.size _ _ v8 [] G.l rfl rfl E8.sX.r ou (by rw [hGl]; simp) (by simp) E8.sX.b ?_
        intro v8b w8b r8b g8b ow8b
        rw [hGl] at r8b
        obtain ⟨a8, c8, rfl⟩ := Row.cap0e r8b
        have F8 := E8.app r8b g8b ow8b (by simp)
        clear r8b g8b ow8b E8 D8 ou
        go_wp2_with fail
        rw [rounds_succ]
        go_wp2_with fail
        have bXf := F8.bX
        have bYf := F8.bF
        have bR12 := F8.kp.bl bR hR.1 hR.2.1 hR.2.2
        have bS12 := F8.kp.bl bS hS.1 hS.2.1 hS.2.2
        have B12 := F8.kp.out B0 HLO.out.1 HLO.out.2.1 HLO.out.2.2
        have hPR := hR.2.1.symm
        have hPS := hS.2.1.symm
        have hQR := hR.2.2.symm
        have hQS := hS.2.2.symm
        clear F8 bR bS B0 bA bB
        refine wp_region_held_drew (S := fun w' => Bl w' PX [.int .i64 G.a, .int .i64 G.b, .int .i64 G.c, .int .i64 G.d, .int .i64 G.e] ∧ Bl w' PY [.int .i64 J.a, .int .i64 J.b, .int .i64 J.c, .int .i64 J.d, .int .i64 J.e]) (by kernel_rfl) ⟨bXf.keep (over_drew w8b), bYf.keep (over_drew w8b)⟩ (fun hHeld => ?_)
        refine wpAnyH_take (i := 0) (v := ?_) rfl (by kernel_rfl) (by kernel_rfl) (by kernel_rfl) (fun _ _ _ h => h) (Or.inl ⟨by rfl, ?_⟩) (by assumption) ?_
        rotate_left
        · intro wq hSq
          (try dsimp only at hSq)
          have q0 := hSq.1.c 0 rfl
          have q1 := hSq.1.c 1 rfl
          have q2 := hSq.1.c 2 rfl
          have q3 := hSq.1.c 3 rfl
          have q4 := hSq.1.c 4 rfl
          go_simp
          try rfl
        change wpAnyH _ _ _ _ _ _ _ (Act.put _ (some 92) _) _
        simp only [Act.put, List.setIfInBounds_toArray, List.set_cons_succ, List.set_cons_zero]
        refine wpAnyH_take (i := 1) (v := ?_) rfl (by kernel_rfl) (by kernel_rfl) (by kernel_rfl) (fun _ _ _ h => h) (Or.inl ⟨by rfl, ?_⟩) (by assumption) ?_
        rotate_left
        · intro wq hSq
          (try dsimp only at hSq)
          have q0 := hSq.2.c 0 rfl
          have q1 := hSq.2.c 1 rfl
          have q2 := hSq.2.c 2 rfl
          have q3 := hSq.2.c 3 rfl
          have q4 := hSq.2.c 4 rfl
          go_simp
          try rfl
        change wpAnyH _ _ _ _ _ _ _ (Act.put _ (some 93) _) _
        simp only [Act.put, List.setIfInBounds_toArray, List.set_cons_succ, List.set_cons_zero]
        obtain ⟨w15, e15⟩ : ∃ u, u = w8b.drew := ⟨_, rfl⟩
        have O15 : Over w8b w15 := by rw [e15]; exact over_drew w8b
        rw [← e15]
        clear e15 hHeld
        replace bXf := bXf.keep O15
        replace bYf := bYf.keep O15
        have bR := bR12.keep O15
        have bS := bS12.keep O15
        have B0 := below_step B12 O15
        clear bR12 bS12 B12 O15
        have r0 := bR.c 0 rfl
        have s0f := bR.f 0 (x := _) rfl
        have t0 := bS.c 0 rfl
        have t0f := bS.f 0 (x := _) rfl
        have r1 := bR.c 1 rfl
        have s1f := bR.f 1 (x := _) rfl
        have t1 := bS.c 1 rfl
        have t1f := bS.f 1 (x := _) rfl
        have r2 := bR.c 2 rfl
        have s2f := bR.f 2 (x := _) rfl
        have t2 := bS.c 2 rfl
        have t2f := bS.f 2 (x := _) rfl
        have r3 := bR.c 3 rfl
        have s3f := bR.f 3 (x := _) rfl
        have t3 := bS.c 3 rfl
        have t3f := bS.f 3 (x := _) rfl
        have r4 := bR.c 4 rfl
        have s4f := bR.f 4 (x := _) rfl
        have t4 := bS.c 4 rfl
        have t4f := bS.f 4 (x := _) rfl
        refine wpAnyH_ready (rs := [2]) (by kernel_rfl) (by simp) ?_
        refine (AllReadyH.cons rfl (fun K hK => ?_) AllReadyH.nil)
        go_simp
        refine hK.out _ _ ⟨((((((bXf.far (C := w.heap.size + 1 + 1) (o := 0) (u := .int .i64 G.a) hPR).far (C := w.heap.size + 1 + 1) (o := 1) (u := .int .i64 G.b) hPR).far (C := w.heap.size + 1 + 1) (o := 2) (u := .int .i64 G.c) hPR).far (C := w.heap.size + 1 + 1) (o := 3) (u := .int .i64 G.d) hPR).far (C := w.heap.size + 1 + 1) (o := 4) (u := .int .i64 G.e) hPR)), ((((((bYf.far (C := w.heap.size + 1 + 1) (o := 0) (u := .int .i64 G.a) hQR).far (C := w.heap.size + 1 + 1) (o := 1) (u := .int .i64 G.b) hQR).far (C := w.heap.size + 1 + 1) (o := 2) (u := .int .i64 G.c) hQR).far (C := w.heap.size + 1 + 1) (o := 3) (u := .int .i64 G.d) hQR).far (C := w.heap.size + 1 + 1) (o := 4) (u := .int .i64 G.e) hQR))⟩ (fun _ => ?_)
        clear hK K
        try simp only [Act.put, List.setIfInBounds_toArray, List.set_cons_zero, List.set_cons_succ]
        refine wpAnyH_ready (rs := [3]) (by kernel_rfl) (by simp) ?_
        refine (AllReadyH.cons rfl (fun K hK => ?_) AllReadyH.nil)
        go_simp
        refine hK.out _ _ ⟨((((((((((((bXf.far (C := w.heap.size + 1 + 1) (o := 0) (u := .int .i64 G.a) hPR).far (C := w.heap.size + 1 + 1) (o := 1) (u := .int .i64 G.b) hPR).far (C := w.heap.size + 1 + 1) (o := 2) (u := .int .i64 G.c) hPR).far (C := w.heap.size + 1 + 1) (o := 3) (u := .int .i64 G.d) hPR).far (C := w.heap.size + 1 + 1) (o := 4) (u := .int .i64 G.e) hPR)).far (C := w.heap.size + 1 + 1 + 1) (o := 0) (u := .int .i64 J.a) hPS).far (C := w.heap.size + 1 + 1 + 1) (o := 1) (u := .int .i64 J.b) hPS).far (C := w.heap.size + 1 + 1 + 1) (o := 2) (u := .int .i64 J.c) hPS).far (C := w.heap.size + 1 + 1 + 1) (o := 3) (u := .int .i64 J.d) hPS).far (C := w.heap.size + 1 + 1 + 1) (o := 4) (u := .int .i64 J.e) hPS)), ((((((((((((bYf.far (C := w.heap.size + 1 + 1) (o := 0) (u := .int .i64 G.a) hQR).far (C := w.heap.size + 1 + 1) (o := 1) (u := .int .i64 G.b) hQR).far (C := w.heap.size + 1 + 1) (o := 2) (u := .int .i64 G.c) hQR).far (C := w.heap.size + 1 + 1) (o := 3) (u := .int .i64 G.d) hQR).far (C := w.heap.size + 1 + 1) (o := 4) (u := .int .i64 G.e) hQR)).far (C := w.heap.size + 1 + 1 + 1) (o := 0) (u := .int .i64 J.a) hQS).far (C := w.heap.size + 1 + 1 + 1) (o := 1) (u := .int .i64 J.b) hQS).far (C := w.heap.size + 1 + 1 + 1) (o := 2) (u := .int .i64 J.c) hQS).far (C := w.heap.size + 1 + 1 + 1) (o := 3) (u := .int .i64 J.d) hQS).far (C := w.heap.size + 1 + 1 + 1) (o := 4) (u := .int .i64 J.e) hQS))⟩ (fun _ => ?_)
        clear hK K
        try simp only [Act.put, List.setIfInBounds_toArray, List.set_cons_zero, List.set_cons_succ]
        refine wpAnyH_done (by kernel_rfl) ?_ _
        have bR2 := ((((((bR.set5 (.int .i64 G.a) (.int .i64 G.b) (.int .i64 G.c) (.int .i64 G.d) (.int .i64 G.e)).far (C := w.heap.size + 1 + 1 + 1) (o := 0) (u := .int .i64 J.a) (by omega)).far (C := w.heap.size + 1 + 1 + 1) (o := 1) (u := .int .i64 J.b) (by omega)).far (C := w.heap.size + 1 + 1 + 1) (o := 2) (u := .int .i64 J.c) (by omega)).far (C := w.heap.size + 1 + 1 + 1) (o := 3) (u := .int .i64 J.d) (by omega)).far (C := w.heap.size + 1 + 1 + 1) (o := 4) (u := .int .i64 J.e) (by omega))
        have bS2 := ((((((bS.far (C := w.heap.size + 1 + 1) (o := 0) (u := .int .i64 G.a) (by omega)).far (C := w.heap.size + 1 + 1) (o := 1) (u := .int .i64 G.b) (by omega)).far (C := w.heap.size + 1 + 1) (o := 2) (u := .int .i64 G.c) (by omega)).far (C := w.heap.size + 1 + 1) (o := 3) (u := .int .i64 G.d) (by omega)).far (C := w.heap.size + 1 + 1) (o := 4) (u := .int .i64 G.e) (by omega))).set5 (.int .i64 J.a) (.int .i64 J.b) (.int .i64 J.c) (.int .i64 J.d) (.int .i64 J.e)
        have B2 := below_set5 (below_set5 B0 (B := w.heap.size + 1 + 1) (by omega) (.int .i64 G.a) (.int .i64 G.b) (.int .i64 G.c) (.int .i64 G.d) (.int .i64 G.e)) (B := w.heap.size + 1 + 1 + 1) (by omega) (.int .i64 J.a) (.int .i64 J.b) (.int .i64 J.c) (.int .i64 J.d) (.int .i64 J.e)
        clear r0 s0f t0 t0f r1 s1f t1 t1f r2 s2f t2 t2f r3 s3f t3 t3f r4 s4f t4 t4f
        clear bR bS B0
        go_wp2
        obtain ⟨W2, hW2⟩ : ∃ W2, W2 = ((((((((((w15.setCell ⟨w.heap.size + 1 + 1, 0, none⟩ (.int .i64 G.a)).setCell ⟨w.heap.size + 1 + 1, 1, none⟩ (.int .i64 G.b)).setCell ⟨w.heap.size + 1 + 1, 2, none⟩ (.int .i64 G.c)).setCell ⟨w.heap.size + 1 + 1, 3, none⟩ (.int .i64 G.d)).setCell ⟨w.heap.size + 1 + 1, 4, none⟩ (.int .i64 G.e)).setCell ⟨w.heap.size + 1 + 1 + 1, 0, none⟩ (.int .i64 J.a)).setCell ⟨w.heap.size + 1 + 1 + 1, 1, none⟩ (.int .i64 J.b)).setCell ⟨w.heap.size + 1 + 1 + 1, 2, none⟩ (.int .i64 J.c)).setCell ⟨w.heap.size + 1 + 1 + 1, 3, none⟩ (.int .i64 J.d)).setCell ⟨w.heap.size + 1 + 1 + 1, 4, none⟩ (.int .i64 J.e)) := ⟨_, rfl⟩
        rw [← hW2] at bR2 bS2 B2 ⊢
        clear hW2
        have r0 := bR2.c 0 rfl
        have t0 := bS2.c 0 rfl
        have r1 := bR2.c 1 rfl
        have t1 := bS2.c 1 rfl
        have r2 := bR2.c 2 rfl
        have t2 := bS2.c 2 rfl
        have r3 := bR2.c 3 rfl
        have t3 := bS2.c 3 rfl
        have r4 := bR2.c 4 rfl
        have t4 := bS2.c 4 rfl
        exact bodyPost_ret (v := .tuple #[.agg #[.int .i64 G.a, .int .i64 G.b, .int .i64 G.c, .int .i64 G.d, .int .i64 G.e], .agg #[.int .i64 J.a, .int .i64 J.b, .int .i64 J.c, .int .i64 J.d, .int .i64 J.e]]) (by simp [results, Tryd.results9, go_sem, r0, t0, r1, t1, r2, t2, r3, t3, r4, t4]) rfl ⟨rfl, B2⟩
      · have D8 := (F7.symm.drop (Row.cut (k := []) F7.symm.sF.r) rfl).below ((Below.refl _ _).alloc (Nat.le_refl _) (.cells #[.int .i64 (my.k), .int .i64 (my.a), .int .i64 (my.h), .int .i64 (my.i), .slice none 0 0, .slice none 0 0, .slice none 0 0, .int .i64 0, .slice none 0 0, .int .i64 0, .int .i64 (my.er)] 46))
        go_wp2_with fail
        clear fa0 fa1 fa2 fa3 lfa
        clear gz0 gzf0 gz1 gzf1 gz2 gzf2 gz3 gzf3 gz4 gzf4 lgz
        clear q0 q1 q2 q3 q4 q5 q6 q7 q8 q9 q10 bfa lg8
        refine ((sms aa ai ah ap X.a X.b X.c X.d X.e my _ rfl HA3.out (fun h => by have := HY.out.2.1; omega) KX.out.1 KX.out.2.1 KX.out.2.2 G HGS.out) _).mono ?_
        rintro e w8 ⟨v8, rfl, o8, hb⟩
        have E8 := D8.put hb (.int .i64 G.a) (.int .i64 G.b) (.int .i64 G.c) (.int .i64 G.d) (.int .i64 G.e)
        have bz := (D8.below hb).bX
        have ou := (Row.of o8).grown (grown_set5 w8 PX (.int .i64 G.a) (.int .i64 G.b) (.int .i64 G.c) (.int .i64 G.d) (.int .i64 G.e)) D8.bX.lt
        clear hb o8
        have gz0 := bz.c 0 (x := _) rfl
        have gzf0 := bz.f 0 (x := _) rfl
        have gz1 := bz.c 1 (x := _) rfl
        have gzf1 := bz.f 1 (x := _) rfl
        have gz2 := bz.c 2 (x := _) rfl
        have gzf2 := bz.f 2 (x := _) rfl
        have gz3 := bz.c 3 (x := _) rfl
        have gzf3 := bz.f 3 (x := _) rfl
        have gz4 := bz.c 4 (x := _) rfl
        have gzf4 := bz.f 4 (x := _) rfl
        have lgz := bz.lt
        go_wp2_with (at_builtin; refine Hid.out ?_)
        clear gz0 gzf0 gz1 gzf1 gz2 gzf2 gz3 gzf3 gz4 gzf4 lgz
        clear bz
        refine Lib.hid ?_
        refine wp_appT rfl (.tmp 89) (.tmp 90) rfl W0.heap.size _ _ v8 [] G.l rfl rfl E8.sX.r ou (by rw [hGl]; simp) (by simp) E8.sX.b ?_
        intro v8b w8b r8b g8b ow8b
        rw [hGl] at r8b
        obtain ⟨a8, c8, rfl⟩ := Row.cap0e r8b
        have F8 := E8.app r8b g8b ow8b (by simp)
        clear r8b g8b ow8b E8 D8 ou
        go_wp2_with fail
        rw [rounds_succ]
        go_wp2_with fail
        have bXf := F8.bX
        have bYf := F8.bF
        have bR12 := F8.kp.bl bR hR.1 hR.2.1 hR.2.2
        have bS12 := F8.kp.bl bS hS.1 hS.2.1 hS.2.2
        have B12 := F8.kp.out B0 HLO.out.1 HLO.out.2.1 HLO.out.2.2
        have hPR := hR.2.1.symm
        have hPS := hS.2.1.symm
        have hQR := hR.2.2.symm
        have hQS := hS.2.2.symm
        clear F8 bR bS B0 bA bB
        refine wp_region_held_drew (S := fun w' => Bl w' PX [.int .i64 G.a, .int .i64 G.b, .int .i64 G.c, .int .i64 G.d, .int .i64 G.e] ∧ Bl w' PY [.int .i64 J.a, .int .i64 J.b, .int .i64 J.c, .int .i64 J.d, .int .i64 J.e]) (by kernel_rfl) ⟨bXf.keep (over_drew w8b), bYf.keep (over_drew w8b)⟩ (fun hHeld => ?_)
        refine wpAnyH_take (i := 0) (v := ?_) rfl (by kernel_rfl) (by kernel_rfl) (by kernel_rfl) (fun _ _ _ h => h) (Or.inl ⟨by rfl, ?_⟩) (by assumption) ?_
        rotate_left
        · intro wq hSq
          (try dsimp only at hSq)
          have q0 := hSq.1.c 0 rfl
          have q1 := hSq.1.c 1 rfl
          have q2 := hSq.1.c 2 rfl
          have q3 := hSq.1.c 3 rfl
          have q4 := hSq.1.c 4 rfl
          go_simp
          try rfl
        change wpAnyH _ _ _ _ _ _ _ (Act.put _ (some 92) _) _
        simp only [Act.put, List.setIfInBounds_toArray, List.set_cons_succ, List.set_cons_zero]
        refine wpAnyH_take (i := 1) (v := ?_) rfl (by kernel_rfl) (by kernel_rfl) (by kernel_rfl) (fun _ _ _ h => h) (Or.inl ⟨by rfl, ?_⟩) (by assumption) ?_
        rotate_left
        · intro wq hSq
          (try dsimp only at hSq)
          have q0 := hSq.2.c 0 rfl
          have q1 := hSq.2.c 1 rfl
          have q2 := hSq.2.c 2 rfl
          have q3 := hSq.2.c 3 rfl
          have q4 := hSq.2.c 4 rfl
          go_simp
          try rfl
        change wpAnyH _ _ _ _ _ _ _ (Act.put _ (some 93) _) _
        simp only [Act.put, List.setIfInBounds_toArray, List.set_cons_succ, List.set_cons_zero]
        obtain ⟨w15, e15⟩ : ∃ u, u = w8b.drew := ⟨_, rfl⟩
        have O15 : Over w8b w15 := by rw [e15]; exact over_drew w8b
        rw [← e15]
        clear e15 hHeld
        replace bXf := bXf.keep O15
        replace bYf := bYf.keep O15
        have bR := bR12.keep O15
        have bS := bS12.keep O15
        have B0 := below_step B12 O15
        clear bR12 bS12 B12 O15
        have r0 := bR.c 0 rfl
        have s0f := bR.f 0 (x := _) rfl
        have t0 := bS.c 0 rfl
        have t0f := bS.f 0 (x := _) rfl
        have r1 := bR.c 1 rfl
        have s1f := bR.f 1 (x := _) rfl
        have t1 := bS.c 1 rfl
        have t1f := bS.f 1 (x := _) rfl
        have r2 := bR.c 2 rfl
        have s2f := bR.f 2 (x := _) rfl
        have t2 := bS.c 2 rfl
        have t2f := bS.f 2 (x := _) rfl
        have r3 := bR.c 3 rfl
        have s3f := bR.f 3 (x := _) rfl
        have t3 := bS.c 3 rfl
        have t3f := bS.f 3 (x := _) rfl
        have r4 := bR.c 4 rfl
        have s4f := bR.f 4 (x := _) rfl
        have t4 := bS.c 4 rfl
        have t4f := bS.f 4 (x := _) rfl
        refine wpAnyH_ready (rs := [2]) (by kernel_rfl) (by simp) ?_
        refine (AllReadyH.cons rfl (fun K hK => ?_) AllReadyH.nil)
        go_simp
        refine hK.out _ _ ⟨((((((bXf.far (C := w.heap.size + 1 + 1) (o := 0) (u := .int .i64 G.a) hPR).far (C := w.heap.size + 1 + 1) (o := 1) (u := .int .i64 G.b) hPR).far (C := w.heap.size + 1 + 1) (o := 2) (u := .int .i64 G.c) hPR).far (C := w.heap.size + 1 + 1) (o := 3) (u := .int .i64 G.d) hPR).far (C := w.heap.size + 1 + 1) (o := 4) (u := .int .i64 G.e) hPR)), ((((((bYf.far (C := w.heap.size + 1 + 1) (o := 0) (u := .int .i64 G.a) hQR).far (C := w.heap.size + 1 + 1) (o := 1) (u := .int .i64 G.b) hQR).far (C := w.heap.size + 1 + 1) (o := 2) (u := .int .i64 G.c) hQR).far (C := w.heap.size + 1 + 1) (o := 3) (u := .int .i64 G.d) hQR).far (C := w.heap.size + 1 + 1) (o := 4) (u := .int .i64 G.e) hQR))⟩ (fun _ => ?_)
        clear hK K
        try simp only [Act.put, List.setIfInBounds_toArray, List.set_cons_zero, List.set_cons_succ]
        refine wpAnyH_ready (rs := [3]) (by kernel_rfl) (by simp) ?_
        refine (AllReadyH.cons rfl (fun K hK => ?_) AllReadyH.nil)
        go_simp
        refine hK.out _ _ ⟨((((((((((((bXf.far (C := w.heap.size + 1 + 1) (o := 0) (u := .int .i64 G.a) hPR).far (C := w.heap.size + 1 + 1) (o := 1) (u := .int .i64 G.b) hPR).far (C := w.heap.size + 1 + 1) (o := 2) (u := .int .i64 G.c) hPR).far (C := w.heap.size + 1 + 1) (o := 3) (u := .int .i64 G.d) hPR).far (C := w.heap.size + 1 + 1) (o := 4) (u := .int .i64 G.e) hPR)).far (C := w.heap.size + 1 + 1 + 1) (o := 0) (u := .int .i64 J.a) hPS).far (C := w.heap.size + 1 + 1 + 1) (o := 1) (u := .int .i64 J.b) hPS).far (C := w.heap.size + 1 + 1 + 1) (o := 2) (u := .int .i64 J.c) hPS).far (C := w.heap.size + 1 + 1 + 1) (o := 3) (u := .int .i64 J.d) hPS).far (C := w.heap.size + 1 + 1 + 1) (o := 4) (u := .int .i64 J.e) hPS)), ((((((((((((bYf.far (C := w.heap.size + 1 + 1) (o := 0) (u := .int .i64 G.a) hQR).far (C := w.heap.size + 1 + 1) (o := 1) (u := .int .i64 G.b) hQR).far (C := w.heap.size + 1 + 1) (o := 2) (u := .int .i64 G.c) hQR).far (C := w.heap.size + 1 + 1) (o := 3) (u := .int .i64 G.d) hQR).far (C := w.heap.size + 1 + 1) (o := 4) (u := .int .i64 G.e) hQR)).far (C := w.heap.size + 1 + 1 + 1) (o := 0) (u := .int .i64 J.a) hQS).far (C := w.heap.size + 1 + 1 + 1) (o := 1) (u := .int .i64 J.b) hQS).far (C := w.heap.size + 1 + 1 + 1) (o := 2) (u := .int .i64 J.c) hQS).far (C := w.heap.size + 1 + 1 + 1) (o := 3) (u := .int .i64 J.d) hQS).far (C := w.heap.size + 1 + 1 + 1) (o := 4) (u := .int .i64 J.e) hQS))⟩ (fun _ => ?_)
        clear hK K
        try simp only [Act.put, List.setIfInBounds_toArray, List.set_cons_zero, List.set_cons_succ]
        refine wpAnyH_done (by kernel_rfl) ?_ _
        have bR2 := ((((((bR.set5 (.int .i64 G.a) (.int .i64 G.b) (.int .i64 G.c) (.int .i64 G.d) (.int .i64 G.e)).far (C := w.heap.size + 1 + 1 + 1) (o := 0) (u := .int .i64 J.a) (by omega)).far (C := w.heap.size + 1 + 1 + 1) (o := 1) (u := .int .i64 J.b) (by omega)).far (C := w.heap.size + 1 + 1 + 1) (o := 2) (u := .int .i64 J.c) (by omega)).far (C := w.heap.size + 1 + 1 + 1) (o := 3) (u := .int .i64 J.d) (by omega)).far (C := w.heap.size + 1 + 1 + 1) (o := 4) (u := .int .i64 J.e) (by omega))
        have bS2 := ((((((bS.far (C := w.heap.size + 1 + 1) (o := 0) (u := .int .i64 G.a) (by omega)).far (C := w.heap.size + 1 + 1) (o := 1) (u := .int .i64 G.b) (by omega)).far (C := w.heap.size + 1 + 1) (o := 2) (u := .int .i64 G.c) (by omega)).far (C := w.heap.size + 1 + 1) (o := 3) (u := .int .i64 G.d) (by omega)).far (C := w.heap.size + 1 + 1) (o := 4) (u := .int .i64 G.e) (by omega))).set5 (.int .i64 J.a) (.int .i64 J.b) (.int .i64 J.c) (.int .i64 J.d) (.int .i64 J.e)
        have B2 := below_set5 (below_set5 B0 (B := w.heap.size + 1 + 1) (by omega) (.int .i64 G.a) (.int .i64 G.b) (.int .i64 G.c) (.int .i64 G.d) (.int .i64 G.e)) (B := w.heap.size + 1 + 1 + 1) (by omega) (.int .i64 J.a) (.int .i64 J.b) (.int .i64 J.c) (.int .i64 J.d) (.int .i64 J.e)
        clear r0 s0f t0 t0f r1 s1f t1 t1f r2 s2f t2 t2f r3 s3f t3 t3f r4 s4f t4 t4f
        clear bR bS B0
        go_wp2
        obtain ⟨W2, hW2⟩ : ∃ W2, W2 = ((((((((((w15.setCell ⟨w.heap.size + 1 + 1, 0, none⟩ (.int .i64 G.a)).setCell ⟨w.heap.size + 1 + 1, 1, none⟩ (.int .i64 G.b)).setCell ⟨w.heap.size + 1 + 1, 2, none⟩ (.int .i64 G.c)).setCell ⟨w.heap.size + 1 + 1, 3, none⟩ (.int .i64 G.d)).setCell ⟨w.heap.size + 1 + 1, 4, none⟩ (.int .i64 G.e)).setCell ⟨w.heap.size + 1 + 1 + 1, 0, none⟩ (.int .i64 J.a)).setCell ⟨w.heap.size + 1 + 1 + 1, 1, none⟩ (.int .i64 J.b)).setCell ⟨w.heap.size + 1 + 1 + 1, 2, none⟩ (.int .i64 J.c)).setCell ⟨w.heap.size + 1 + 1 + 1, 3, none⟩ (.int .i64 J.d)).setCell ⟨w.heap.size + 1 + 1 + 1, 4, none⟩ (.int .i64 J.e)) := ⟨_, rfl⟩
        rw [← hW2] at bR2 bS2 B2 ⊢
        clear hW2
        have r0 := bR2.c 0 rfl
        have t0 := bS2.c 0 rfl
        have r1 := bR2.c 1 rfl
        have t1 := bS2.c 1 rfl
        have r2 := bR2.c 2 rfl
        have t2 := bS2.c 2 rfl
        have r3 := bR2.c 3 rfl
        have t3 := bS2.c 3 rfl
        have r4 := bR2.c 4 rfl
        have t4 := bS2.c 4 rfl
        exact bodyPost_ret (v := .tuple #[.agg #[.int .i64 G.a, .int .i64 G.b, .int .i64 G.c, .int .i64 G.d, .int .i64 G.e], .agg #[.int .i64 J.a, .int .i64 J.b, .int .i64 J.c, .int .i64 J.d, .int .i64 J.e]]) (by simp [results, Tryd.results9, go_sem, r0, t0, r1, t1, r2, t2, r3, t3, r4, t4]) rfl ⟨rfl, B2⟩
    · have D7 := (F6.symm.drop (Row.cut (k := []) F6.symm.sF.r) rfl).below ((Below.refl _ _).alloc (Nat.le_refl _) (.cells #[.int .i64 (mx.k), .int .i64 (mx.a), .int .i64 (mx.h), .int .i64 (mx.i), .slice none 0 0, .slice none 0 0, .slice none 0 0, .int .i64 0, .slice none 0 0, .int .i64 0, .int .i64 (mx.er)] 46))
      go_wp2_with fail
      clear fb0 fb1 fb2 fb3 lfb
      clear gz0 gzf0 gz1 gzf1 gz2 gzf2 gz3 gzf3 gz4 gzf4 lgz
      clear q0 q1 q2 q3 q4 q5 q6 q7 q8 q9 q10 bfb lg7
      refine ((sms ba bi bh bp Y.a Y.b Y.c Y.d Y.e mx _ rfl HB3.out (fun h => by have := HX.out.2.1; omega) KY.out.1 KY.out.2.1 KY.out.2.2 J HJS.out) _).mono ?_
      rintro e w7 ⟨v7, rfl, o7, hb⟩
      have E7 := D7.put hb (.int .i64 J.a) (.int .i64 J.b) (.int .i64 J.c) (.int .i64 J.d) (.int .i64 J.e)
      have bz := (D7.below hb).bX
      have ou := (Row.of o7).grown (grown_set5 w7 PY (.int .i64 J.a) (.int .i64 J.b) (.int .i64 J.c) (.int .i64 J.d) (.int .i64 J.e)) D7.bX.lt
      clear hb o7
      have gz0 := bz.c 0 (x := _) rfl
      have gzf0 := bz.f 0 (x := _) rfl
      have gz1 := bz.c 1 (x := _) rfl
      have gzf1 := bz.f 1 (x := _) rfl
      have gz2 := bz.c 2 (x := _) rfl
      have gzf2 := bz.f 2 (x := _) rfl
      have gz3 := bz.c 3 (x := _) rfl
      have gzf3 := bz.f 3 (x := _) rfl
      have gz4 := bz.c 4 (x := _) rfl
      have gzf4 := bz.f 4 (x := _) rfl
      have lgz := bz.lt
      go_wp2_with (at_builtin; refine Hid.out ?_)
      clear gz0 gzf0 gz1 gzf1 gz2 gzf2 gz3 gzf3 gz4 gzf4 lgz
      clear bz
      refine Lib.hid ?_
      refine wp_appT rfl (.tmp 73) (.tmp 74) rfl W0.heap.size _ _ v7 [my] J.l rfl rfl E7.sX.r ou (by rw [hJl]; simp) (by simp) E7.sX.b ?_
      intro v7b w7b r7b g7b ow7b
      rw [hJl] at r7b
      obtain ⟨g7, p7, c7, rfl, hc7, -, -⟩ := Row.cap1e (m := my) r7b
      have F7 := E7.app r7b g7b ow7b (by simp)
      clear r7b g7b ow7b E7 D7 ou
      go_wp2_with fail
      rw [rounds_succ]
      obtain ⟨hcc8, lg8, hq8⟩ := Row.cells1 F7.symm.sF.r
      simp at hcc8
      have q0 := hq8 0 (.int .i64 (my.k)) rfl
      rw [Nat.add_zero] at q0
      have q1 := hq8 1 (.int .i64 (my.a)) rfl
      have q2 := hq8 2 (.int .i64 (my.h)) rfl
      have q3 := hq8 3 (.int .i64 (my.i)) rfl
      have q4 := hq8 4 (.slice none 0 0) rfl
      have q5 := hq8 5 (.slice none 0 0) rfl
      have q6 := hq8 6 (.slice none 0 0) rfl
      have q7 := hq8 7 (.int .i64 0) rfl
      have q8 := hq8 8 (.slice none 0 0) rfl
      have q9 := hq8 9 (.int .i64 0) rfl
      have q10 := hq8 10 (.int .i64 (my.er)) rfl
      clear hq8
      have bfa := F7.symm.kp.bl bA hA.1 hA.2.1 hA.2.2
      have fa0 := bfa.c 0 rfl
      have fa1 := bfa.c 1 rfl
      have fa2 := bfa.c 2 rfl
      have fa3 := bfa.c 3 rfl
      have lfa := bfa.lt
      have gz0 := F7.symm.bX.c 0 (x := _) rfl
      have gzf0 := F7.symm.bX.f 0 (x := _) rfl
      have gz1 := F7.symm.bX.c 1 (x := _) rfl
      have gzf1 := F7.symm.bX.f 1 (x := _) rfl
      have gz2 := F7.symm.bX.c 2 (x := _) rfl
      have gzf2 := F7.symm.bX.f 2 (x := _) rfl
      have gz3 := F7.symm.bX.c 3 (x := _) rfl
      have gzf3 := F7.symm.bX.f 3 (x := _) rfl
      have gz4 := F7.symm.bX.c 4 (x := _) rfl
      have gzf4 := F7.symm.bX.f 4 (x := _) rfl
      have lgz := F7.symm.bX.lt
      by_cases hc8 : c7 = 1
      · subst hc8
        have D8 := (F7.symm.drop (Row.cut1 F7.symm.sF.r) rfl).below ((Below.refl _ _).alloc (Nat.le_refl _) (.cells #[.int .i64 (my.k), .int .i64 (my.a), .int .i64 (my.h), .int .i64 (my.i), .slice none 0 0, .slice none 0 0, .slice none 0 0, .int .i64 0, .slice none 0 0, .int .i64 0, .int .i64 (my.er)] 46))
        go_wp2_with fail
        clear fa0 fa1 fa2 fa3 lfa
        clear gz0 gzf0 gz1 gzf1 gz2 gzf2 gz3 gzf3 gz4 gzf4 lgz
        clear q0 q1 q2 q3 q4 q5 q6 q7 q8 q9 q10 bfa lg8
        refine ((sms aa ai ah ap X.a X.b X.c X.d X.e my _ rfl HA3.out (fun h => by have := HY.out.2.1; omega) KX.out.1 KX.out.2.1 KX.out.2.2 G HGS.out) _).mono ?_
        rintro e w8 ⟨v8, rfl, o8, hb⟩
        have E8 := D8.put hb (.int .i64 G.a) (.int .i64 G.b) (.int .i64 G.c) (.int .i64 G.d) (.int .i64 G.e)
        have bz := (D8.below hb).bX
        have ou := (Row.of o8).grown (grown_set5 w8 PX (.int .i64 G.a) (.int .i64 G.b) (.int .i64 G.c) (.int .i64 G.d) (.int .i64 G.e)) D8.bX.lt
        clear hb o8
        have gz0 := bz.c 0 (x := _) rfl
        have gzf0 := bz.f 0 (x := _) rfl
        have gz1 := bz.c 1 (x := _) rfl
        have gzf1 := bz.f 1 (x := _) rfl
        have gz2 := bz.c 2 (x := _) rfl
        have gzf2 := bz.f 2 (x := _) rfl
        have gz3 := bz.c 3 (x := _) rfl
        have gzf3 := bz.f 3 (x := _) rfl
        have gz4 := bz.c 4 (x := _) rfl
        have gzf4 := bz.f 4 (x := _) rfl
        have lgz := bz.lt
        go_wp2_with (at_builtin; refine Hid.out ?_)
        clear gz0 gzf0 gz1 gzf1 gz2 gzf2 gz3 gzf3 gz4 gzf4 lgz
        clear bz
        refine Lib.hid ?_
        refine wp_appT rfl (.tmp 89) (.tmp 90) rfl W0.heap.size _ _ v8 [] G.l rfl rfl E8.sX.r ou (by rw [hGl]; simp) (by simp) E8.sX.b ?_
        intro v8b w8b r8b g8b ow8b
        rw [hGl] at r8b
        obtain ⟨a8, c8, rfl⟩ := Row.cap0e r8b
        have F8 := E8.app r8b g8b ow8b (by simp)
        clear r8b g8b ow8b E8 D8 ou
        go_wp2_with fail
        rw [rounds_succ]
        go_wp2_with fail
        have bXf := F8.bX
        have bYf := F8.bF
        have bR12 := F8.kp.bl bR hR.1 hR.2.1 hR.2.2
        have bS12 := F8.kp.bl bS hS.1 hS.2.1 hS.2.2
        have B12 := F8.kp.out B0 HLO.out.1 HLO.out.2.1 HLO.out.2.2
        have hPR := hR.2.1.symm
        have hPS := hS.2.1.symm
        have hQR := hR.2.2.symm
        have hQS := hS.2.2.symm
        clear F8 bR bS B0 bA bB
        refine wp_region_held_drew (S := fun w' => Bl w' PX [.int .i64 G.a, .int .i64 G.b, .int .i64 G.c, .int .i64 G.d, .int .i64 G.e] ∧ Bl w' PY [.int .i64 J.a, .int .i64 J.b, .int .i64 J.c, .int .i64 J.d, .int .i64 J.e]) (by kernel_rfl) ⟨bXf.keep (over_drew w8b), bYf.keep (over_drew w8b)⟩ (fun hHeld => ?_)
        refine wpAnyH_take (i := 0) (v := ?_) rfl (by kernel_rfl) (by kernel_rfl) (by kernel_rfl) (fun _ _ _ h => h) (Or.inl ⟨by rfl, ?_⟩) (by assumption) ?_
        rotate_left
        · intro wq hSq
          (try dsimp only at hSq)
          have q0 := hSq.1.c 0 rfl
          have q1 := hSq.1.c 1 rfl
          have q2 := hSq.1.c 2 rfl
          have q3 := hSq.1.c 3 rfl
          have q4 := hSq.1.c 4 rfl
          go_simp
          try rfl
        change wpAnyH _ _ _ _ _ _ _ (Act.put _ (some 92) _) _
        simp only [Act.put, List.setIfInBounds_toArray, List.set_cons_succ, List.set_cons_zero]
        refine wpAnyH_take (i := 1) (v := ?_) rfl (by kernel_rfl) (by kernel_rfl) (by kernel_rfl) (fun _ _ _ h => h) (Or.inl ⟨by rfl, ?_⟩) (by assumption) ?_
        rotate_left
        · intro wq hSq
          (try dsimp only at hSq)
          have q0 := hSq.2.c 0 rfl
          have q1 := hSq.2.c 1 rfl
          have q2 := hSq.2.c 2 rfl
          have q3 := hSq.2.c 3 rfl
          have q4 := hSq.2.c 4 rfl
          go_simp
          try rfl
        change wpAnyH _ _ _ _ _ _ _ (Act.put _ (some 93) _) _
        simp only [Act.put, List.setIfInBounds_toArray, List.set_cons_succ, List.set_cons_zero]
        obtain ⟨w15, e15⟩ : ∃ u, u = w8b.drew := ⟨_, rfl⟩
        have O15 : Over w8b w15 := by rw [e15]; exact over_drew w8b
        rw [← e15]
        clear e15 hHeld
        replace bXf := bXf.keep O15
        replace bYf := bYf.keep O15
        have bR := bR12.keep O15
        have bS := bS12.keep O15
        have B0 := below_step B12 O15
        clear bR12 bS12 B12 O15
        have r0 := bR.c 0 rfl
        have s0f := bR.f 0 (x := _) rfl
        have t0 := bS.c 0 rfl
        have t0f := bS.f 0 (x := _) rfl
        have r1 := bR.c 1 rfl
        have s1f := bR.f 1 (x := _) rfl
        have t1 := bS.c 1 rfl
        have t1f := bS.f 1 (x := _) rfl
        have r2 := bR.c 2 rfl
        have s2f := bR.f 2 (x := _) rfl
        have t2 := bS.c 2 rfl
        have t2f := bS.f 2 (x := _) rfl
        have r3 := bR.c 3 rfl
        have s3f := bR.f 3 (x := _) rfl
        have t3 := bS.c 3 rfl
        have t3f := bS.f 3 (x := _) rfl
        have r4 := bR.c 4 rfl
        have s4f := bR.f 4 (x := _) rfl
        have t4 := bS.c 4 rfl
        have t4f := bS.f 4 (x := _) rfl
        refine wpAnyH_ready (rs := [2]) (by kernel_rfl) (by simp) ?_
        refine (AllReadyH.cons rfl (fun K hK => ?_) AllReadyH.nil)
        go_simp
        refine hK.out _ _ ⟨((((((bXf.far (C := w.heap.size + 1 + 1) (o := 0) (u := .int .i64 G.a) hPR).far (C := w.heap.size + 1 + 1) (o := 1) (u := .int .i64 G.b) hPR).far (C := w.heap.size + 1 + 1) (o := 2) (u := .int .i64 G.c) hPR).far (C := w.heap.size + 1 + 1) (o := 3) (u := .int .i64 G.d) hPR).far (C := w.heap.size + 1 + 1) (o := 4) (u := .int .i64 G.e) hPR)), ((((((bYf.far (C := w.heap.size + 1 + 1) (o := 0) (u := .int .i64 G.a) hQR).far (C := w.heap.size + 1 + 1) (o := 1) (u := .int .i64 G.b) hQR).far (C := w.heap.size + 1 + 1) (o := 2) (u := .int .i64 G.c) hQR).far (C := w.heap.size + 1 + 1) (o := 3) (u := .int .i64 G.d) hQR).far (C := w.heap.size + 1 + 1) (o := 4) (u := .int .i64 G.e) hQR))⟩ (fun _ => ?_)
        clear hK K
        try simp only [Act.put, List.setIfInBounds_toArray, List.set_cons_zero, List.set_cons_succ]
        refine wpAnyH_ready (rs := [3]) (by kernel_rfl) (by simp) ?_
        refine (AllReadyH.cons rfl (fun K hK => ?_) AllReadyH.nil)
        go_simp
        refine hK.out _ _ ⟨((((((((((((bXf.far (C := w.heap.size + 1 + 1) (o := 0) (u := .int .i64 G.a) hPR).far (C := w.heap.size + 1 + 1) (o := 1) (u := .int .i64 G.b) hPR).far (C := w.heap.size + 1 + 1) (o := 2) (u := .int .i64 G.c) hPR).far (C := w.heap.size + 1 + 1) (o := 3) (u := .int .i64 G.d) hPR).far (C := w.heap.size + 1 + 1) (o := 4) (u := .int .i64 G.e) hPR)).far (C := w.heap.size + 1 + 1 + 1) (o := 0) (u := .int .i64 J.a) hPS).far (C := w.heap.size + 1 + 1 + 1) (o := 1) (u := .int .i64 J.b) hPS).far (C := w.heap.size + 1 + 1 + 1) (o := 2) (u := .int .i64 J.c) hPS).far (C := w.heap.size + 1 + 1 + 1) (o := 3) (u := .int .i64 J.d) hPS).far (C := w.heap.size + 1 + 1 + 1) (o := 4) (u := .int .i64 J.e) hPS)), ((((((((((((bYf.far (C := w.heap.size + 1 + 1) (o := 0) (u := .int .i64 G.a) hQR).far (C := w.heap.size + 1 + 1) (o := 1) (u := .int .i64 G.b) hQR).far (C := w.heap.size + 1 + 1) (o := 2) (u := .int .i64 G.c) hQR).far (C := w.heap.size + 1 + 1) (o := 3) (u := .int .i64 G.d) hQR).far (C := w.heap.size + 1 + 1) (o := 4) (u := .int .i64 G.e) hQR)).far (C := w.heap.size + 1 + 1 + 1) (o := 0) (u := .int .i64 J.a) hQS).far (C := w.heap.size + 1 + 1 + 1) (o := 1) (u := .int .i64 J.b) hQS).far (C := w.heap.size + 1 + 1 + 1) (o := 2) (u := .int .i64 J.c) hQS).far (C := w.heap.size + 1 + 1 + 1) (o := 3) (u := .int .i64 J.d) hQS).far (C := w.heap.size + 1 + 1 + 1) (o := 4) (u := .int .i64 J.e) hQS))⟩ (fun _ => ?_)
        clear hK K
        try simp only [Act.put, List.setIfInBounds_toArray, List.set_cons_zero, List.set_cons_succ]
        refine wpAnyH_done (by kernel_rfl) ?_ _
        have bR2 := ((((((bR.set5 (.int .i64 G.a) (.int .i64 G.b) (.int .i64 G.c) (.int .i64 G.d) (.int .i64 G.e)).far (C := w.heap.size + 1 + 1 + 1) (o := 0) (u := .int .i64 J.a) (by omega)).far (C := w.heap.size + 1 + 1 + 1) (o := 1) (u := .int .i64 J.b) (by omega)).far (C := w.heap.size + 1 + 1 + 1) (o := 2) (u := .int .i64 J.c) (by omega)).far (C := w.heap.size + 1 + 1 + 1) (o := 3) (u := .int .i64 J.d) (by omega)).far (C := w.heap.size + 1 + 1 + 1) (o := 4) (u := .int .i64 J.e) (by omega))
        have bS2 := ((((((bS.far (C := w.heap.size + 1 + 1) (o := 0) (u := .int .i64 G.a) (by omega)).far (C := w.heap.size + 1 + 1) (o := 1) (u := .int .i64 G.b) (by omega)).far (C := w.heap.size + 1 + 1) (o := 2) (u := .int .i64 G.c) (by omega)).far (C := w.heap.size + 1 + 1) (o := 3) (u := .int .i64 G.d) (by omega)).far (C := w.heap.size + 1 + 1) (o := 4) (u := .int .i64 G.e) (by omega))).set5 (.int .i64 J.a) (.int .i64 J.b) (.int .i64 J.c) (.int .i64 J.d) (.int .i64 J.e)
        have B2 := below_set5 (below_set5 B0 (B := w.heap.size + 1 + 1) (by omega) (.int .i64 G.a) (.int .i64 G.b) (.int .i64 G.c) (.int .i64 G.d) (.int .i64 G.e)) (B := w.heap.size + 1 + 1 + 1) (by omega) (.int .i64 J.a) (.int .i64 J.b) (.int .i64 J.c) (.int .i64 J.d) (.int .i64 J.e)
        clear r0 s0f t0 t0f r1 s1f t1 t1f r2 s2f t2 t2f r3 s3f t3 t3f r4 s4f t4 t4f
        clear bR bS B0
        go_wp2
        obtain ⟨W2, hW2⟩ : ∃ W2, W2 = ((((((((((w15.setCell ⟨w.heap.size + 1 + 1, 0, none⟩ (.int .i64 G.a)).setCell ⟨w.heap.size + 1 + 1, 1, none⟩ (.int .i64 G.b)).setCell ⟨w.heap.size + 1 + 1, 2, none⟩ (.int .i64 G.c)).setCell ⟨w.heap.size + 1 + 1, 3, none⟩ (.int .i64 G.d)).setCell ⟨w.heap.size + 1 + 1, 4, none⟩ (.int .i64 G.e)).setCell ⟨w.heap.size + 1 + 1 + 1, 0, none⟩ (.int .i64 J.a)).setCell ⟨w.heap.size + 1 + 1 + 1, 1, none⟩ (.int .i64 J.b)).setCell ⟨w.heap.size + 1 + 1 + 1, 2, none⟩ (.int .i64 J.c)).setCell ⟨w.heap.size + 1 + 1 + 1, 3, none⟩ (.int .i64 J.d)).setCell ⟨w.heap.size + 1 + 1 + 1, 4, none⟩ (.int .i64 J.e)) := ⟨_, rfl⟩
        rw [← hW2] at bR2 bS2 B2 ⊢
        clear hW2
        have r0 := bR2.c 0 rfl
        have t0 := bS2.c 0 rfl
        have r1 := bR2.c 1 rfl
        have t1 := bS2.c 1 rfl
        have r2 := bR2.c 2 rfl
        have t2 := bS2.c 2 rfl
        have r3 := bR2.c 3 rfl
        have t3 := bS2.c 3 rfl
        have r4 := bR2.c 4 rfl
        have t4 := bS2.c 4 rfl
        exact bodyPost_ret (v := .tuple #[.agg #[.int .i64 G.a, .int .i64 G.b, .int .i64 G.c, .int .i64 G.d, .int .i64 G.e], .agg #[.int .i64 J.a, .int .i64 J.b, .int .i64 J.c, .int .i64 J.d, .int .i64 J.e]]) (by simp [results, Tryd.results9, go_sem, r0, t0, r1, t1, r2, t2, r3, t3, r4, t4]) rfl ⟨rfl, B2⟩
      · have D8 := (F7.symm.drop (Row.cut (k := []) F7.symm.sF.r) rfl).below ((Below.refl _ _).alloc (Nat.le_refl _) (.cells #[.int .i64 (my.k), .int .i64 (my.a), .int .i64 (my.h), .int .i64 (my.i), .slice none 0 0, .slice none 0 0, .slice none 0 0, .int .i64 0, .slice none 0 0, .int .i64 0, .int .i64 (my.er)] 46))
        go_wp2_with fail
        clear fa0 fa1 fa2 fa3 lfa
        clear gz0 gzf0 gz1 gzf1 gz2 gzf2 gz3 gzf3 gz4 gzf4 lgz
        clear q0 q1 q2 q3 q4 q5 q6 q7 q8 q9 q10 bfa lg8
        refine ((sms aa ai ah ap X.a X.b X.c X.d X.e my _ rfl HA3.out (fun h => by have := HY.out.2.1; omega) KX.out.1 KX.out.2.1 KX.out.2.2 G HGS.out) _).mono ?_
        rintro e w8 ⟨v8, rfl, o8, hb⟩
        have E8 := D8.put hb (.int .i64 G.a) (.int .i64 G.b) (.int .i64 G.c) (.int .i64 G.d) (.int .i64 G.e)
        have bz := (D8.below hb).bX
        have ou := (Row.of o8).grown (grown_set5 w8 PX (.int .i64 G.a) (.int .i64 G.b) (.int .i64 G.c) (.int .i64 G.d) (.int .i64 G.e)) D8.bX.lt
        clear hb o8
        have gz0 := bz.c 0 (x := _) rfl
        have gzf0 := bz.f 0 (x := _) rfl
        have gz1 := bz.c 1 (x := _) rfl
        have gzf1 := bz.f 1 (x := _) rfl
        have gz2 := bz.c 2 (x := _) rfl
        have gzf2 := bz.f 2 (x := _) rfl
        have gz3 := bz.c 3 (x := _) rfl
        have gzf3 := bz.f 3 (x := _) rfl
        have gz4 := bz.c 4 (x := _) rfl
        have gzf4 := bz.f 4 (x := _) rfl
        have lgz := bz.lt
        go_wp2_with (at_builtin; refine Hid.out ?_)
        clear gz0 gzf0 gz1 gzf1 gz2 gzf2 gz3 gzf3 gz4 gzf4 lgz
        clear bz
        refine Lib.hid ?_
        refine wp_appT rfl (.tmp 89) (.tmp 90) rfl W0.heap.size _ _ v8 [] G.l rfl rfl E8.sX.r ou (by rw [hGl]; simp) (by simp) E8.sX.b ?_
        intro v8b w8b r8b g8b ow8b
        rw [hGl] at r8b
        obtain ⟨a8, c8, rfl⟩ := Row.cap0e r8b
        have F8 := E8.app r8b g8b ow8b (by simp)
        clear r8b g8b ow8b E8 D8 ou
        go_wp2_with fail
        rw [rounds_succ]
        go_wp2_with fail
        have bXf := F8.bX
        have bYf := F8.bF
        have bR12 := F8.kp.bl bR hR.1 hR.2.1 hR.2.2
        have bS12 := F8.kp.bl bS hS.1 hS.2.1 hS.2.2
        have B12 := F8.kp.out B0 HLO.out.1 HLO.out.2.1 HLO.out.2.2
        have hPR := hR.2.1.symm
        have hPS := hS.2.1.symm
        have hQR := hR.2.2.symm
        have hQS := hS.2.2.symm
        clear F8 bR bS B0 bA bB
        refine wp_region_held_drew (S := fun w' => Bl w' PX [.int .i64 G.a, .int .i64 G.b, .int .i64 G.c, .int .i64 G.d, .int .i64 G.e] ∧ Bl w' PY [.int .i64 J.a, .int .i64 J.b, .int .i64 J.c, .int .i64 J.d, .int .i64 J.e]) (by kernel_rfl) ⟨bXf.keep (over_drew w8b), bYf.keep (over_drew w8b)⟩ (fun hHeld => ?_)
        refine wpAnyH_take (i := 0) (v := ?_) rfl (by kernel_rfl) (by kernel_rfl) (by kernel_rfl) (fun _ _ _ h => h) (Or.inl ⟨by rfl, ?_⟩) (by assumption) ?_
        rotate_left
        · intro wq hSq
          (try dsimp only at hSq)
          have q0 := hSq.1.c 0 rfl
          have q1 := hSq.1.c 1 rfl
          have q2 := hSq.1.c 2 rfl
          have q3 := hSq.1.c 3 rfl
          have q4 := hSq.1.c 4 rfl
          go_simp
          try rfl
        change wpAnyH _ _ _ _ _ _ _ (Act.put _ (some 92) _) _
        simp only [Act.put, List.setIfInBounds_toArray, List.set_cons_succ, List.set_cons_zero]
        refine wpAnyH_take (i := 1) (v := ?_) rfl (by kernel_rfl) (by kernel_rfl) (by kernel_rfl) (fun _ _ _ h => h) (Or.inl ⟨by rfl, ?_⟩) (by assumption) ?_
        rotate_left
        · intro wq hSq
          (try dsimp only at hSq)
          have q0 := hSq.2.c 0 rfl
          have q1 := hSq.2.c 1 rfl
          have q2 := hSq.2.c 2 rfl
          have q3 := hSq.2.c 3 rfl
          have q4 := hSq.2.c 4 rfl
          go_simp
          try rfl
        change wpAnyH _ _ _ _ _ _ _ (Act.put _ (some 93) _) _
        simp only [Act.put, List.setIfInBounds_toArray, List.set_cons_succ, List.set_cons_zero]
        obtain ⟨w15, e15⟩ : ∃ u, u = w8b.drew := ⟨_, rfl⟩
        have O15 : Over w8b w15 := by rw [e15]; exact over_drew w8b
        rw [← e15]
        clear e15 hHeld
        replace bXf := bXf.keep O15
        replace bYf := bYf.keep O15
        have bR := bR12.keep O15
        have bS := bS12.keep O15
        have B0 := below_step B12 O15
        clear bR12 bS12 B12 O15
        have r0 := bR.c 0 rfl
        have s0f := bR.f 0 (x := _) rfl
        have t0 := bS.c 0 rfl
        have t0f := bS.f 0 (x := _) rfl
        have r1 := bR.c 1 rfl
        have s1f := bR.f 1 (x := _) rfl
        have t1 := bS.c 1 rfl
        have t1f := bS.f 1 (x := _) rfl
        have r2 := bR.c 2 rfl
        have s2f := bR.f 2 (x := _) rfl
        have t2 := bS.c 2 rfl
        have t2f := bS.f 2 (x := _) rfl
        have r3 := bR.c 3 rfl
        have s3f := bR.f 3 (x := _) rfl
        have t3 := bS.c 3 rfl
        have t3f := bS.f 3 (x := _) rfl
        have r4 := bR.c 4 rfl
        have s4f := bR.f 4 (x := _) rfl
        have t4 := bS.c 4 rfl
        have t4f := bS.f 4 (x := _) rfl
        refine wpAnyH_ready (rs := [2]) (by kernel_rfl) (by simp) ?_
        refine (AllReadyH.cons rfl (fun K hK => ?_) AllReadyH.nil)
        go_simp
        refine hK.out _ _ ⟨((((((bXf.far (C := w.heap.size + 1 + 1) (o := 0) (u := .int .i64 G.a) hPR).far (C := w.heap.size + 1 + 1) (o := 1) (u := .int .i64 G.b) hPR).far (C := w.heap.size + 1 + 1) (o := 2) (u := .int .i64 G.c) hPR).far (C := w.heap.size + 1 + 1) (o := 3) (u := .int .i64 G.d) hPR).far (C := w.heap.size + 1 + 1) (o := 4) (u := .int .i64 G.e) hPR)), ((((((bYf.far (C := w.heap.size + 1 + 1) (o := 0) (u := .int .i64 G.a) hQR).far (C := w.heap.size + 1 + 1) (o := 1) (u := .int .i64 G.b) hQR).far (C := w.heap.size + 1 + 1) (o := 2) (u := .int .i64 G.c) hQR).far (C := w.heap.size + 1 + 1) (o := 3) (u := .int .i64 G.d) hQR).far (C := w.heap.size + 1 + 1) (o := 4) (u := .int .i64 G.e) hQR))⟩ (fun _ => ?_)
        clear hK K
        try simp only [Act.put, List.setIfInBounds_toArray, List.set_cons_zero, List.set_cons_succ]
        refine wpAnyH_ready (rs := [3]) (by kernel_rfl) (by simp) ?_
        refine (AllReadyH.cons rfl (fun K hK => ?_) AllReadyH.nil)
        go_simp
        refine hK.out _ _ ⟨((((((((((((bXf.far (C := w.heap.size + 1 + 1) (o := 0) (u := .int .i64 G.a) hPR).far (C := w.heap.size + 1 + 1) (o := 1) (u := .int .i64 G.b) hPR).far (C := w.heap.size + 1 + 1) (o := 2) (u := .int .i64 G.c) hPR).far (C := w.heap.size + 1 + 1) (o := 3) (u := .int .i64 G.d) hPR).far (C := w.heap.size + 1 + 1) (o := 4) (u := .int .i64 G.e) hPR)).far (C := w.heap.size + 1 + 1 + 1) (o := 0) (u := .int .i64 J.a) hPS).far (C := w.heap.size + 1 + 1 + 1) (o := 1) (u := .int .i64 J.b) hPS).far (C := w.heap.size + 1 + 1 + 1) (o := 2) (u := .int .i64 J.c) hPS).far (C := w.heap.size + 1 + 1 + 1) (o := 3) (u := .int .i64 J.d) hPS).far (C := w.heap.size + 1 + 1 + 1) (o := 4) (u := .int .i64 J.e) hPS)), ((((((((((((bYf.far (C := w.heap.size + 1 + 1) (o := 0) (u := .int .i64 G.a) hQR).far (C := w.heap.size + 1 + 1) (o := 1) (u := .int .i64 G.b) hQR).far (C := w.heap.size + 1 + 1) (o := 2) (u := .int .i64 G.c) hQR).far (C := w.heap.size + 1 + 1) (o := 3) (u := .int .i64 G.d) hQR).far (C := w.heap.size + 1 + 1) (o := 4) (u := .int .i64 G.e) hQR)).far (C := w.heap.size + 1 + 1 + 1) (o := 0) (u := .int .i64 J.a) hQS).far (C := w.heap.size + 1 + 1 + 1) (o := 1) (u := .int .i64 J.b) hQS).far (C := w.heap.size + 1 + 1 + 1) (o := 2) (u := .int .i64 J.c) hQS).far (C := w.heap.size + 1 + 1 + 1) (o := 3) (u := .int .i64 J.d) hQS).far (C := w.heap.size + 1 + 1 + 1) (o := 4) (u := .int .i64 J.e) hQS))⟩ (fun _ => ?_)
        clear hK K
        try simp only [Act.put, List.setIfInBounds_toArray, List.set_cons_zero, List.set_cons_succ]
        refine wpAnyH_done (by kernel_rfl) ?_ _
        have bR2 := ((((((bR.set5 (.int .i64 G.a) (.int .i64 G.b) (.int .i64 G.c) (.int .i64 G.d) (.int .i64 G.e)).far (C := w.heap.size + 1 + 1 + 1) (o := 0) (u := .int .i64 J.a) (by omega)).far (C := w.heap.size + 1 + 1 + 1) (o := 1) (u := .int .i64 J.b) (by omega)).far (C := w.heap.size + 1 + 1 + 1) (o := 2) (u := .int .i64 J.c) (by omega)).far (C := w.heap.size + 1 + 1 + 1) (o := 3) (u := .int .i64 J.d) (by omega)).far (C := w.heap.size + 1 + 1 + 1) (o := 4) (u := .int .i64 J.e) (by omega))
        have bS2 := ((((((bS.far (C := w.heap.size + 1 + 1) (o := 0) (u := .int .i64 G.a) (by omega)).far (C := w.heap.size + 1 + 1) (o := 1) (u := .int .i64 G.b) (by omega)).far (C := w.heap.size + 1 + 1) (o := 2) (u := .int .i64 G.c) (by omega)).far (C := w.heap.size + 1 + 1) (o := 3) (u := .int .i64 G.d) (by omega)).far (C := w.heap.size + 1 + 1) (o := 4) (u := .int .i64 G.e) (by omega))).set5 (.int .i64 J.a) (.int .i64 J.b) (.int .i64 J.c) (.int .i64 J.d) (.int .i64 J.e)
        have B2 := below_set5 (below_set5 B0 (B := w.heap.size + 1 + 1) (by omega) (.int .i64 G.a) (.int .i64 G.b) (.int .i64 G.c) (.int .i64 G.d) (.int .i64 G.e)) (B := w.heap.size + 1 + 1 + 1) (by omega) (.int .i64 J.a) (.int .i64 J.b) (.int .i64 J.c) (.int .i64 J.d) (.int .i64 J.e)
        clear r0 s0f t0 t0f r1 s1f t1 t1f r2 s2f t2 t2f r3 s3f t3 t3f r4 s4f t4 t4f
        clear bR bS B0
        go_wp2
        obtain ⟨W2, hW2⟩ : ∃ W2, W2 = ((((((((((w15.setCell ⟨w.heap.size + 1 + 1, 0, none⟩ (.int .i64 G.a)).setCell ⟨w.heap.size + 1 + 1, 1, none⟩ (.int .i64 G.b)).setCell ⟨w.heap.size + 1 + 1, 2, none⟩ (.int .i64 G.c)).setCell ⟨w.heap.size + 1 + 1, 3, none⟩ (.int .i64 G.d)).setCell ⟨w.heap.size + 1 + 1, 4, none⟩ (.int .i64 G.e)).setCell ⟨w.heap.size + 1 + 1 + 1, 0, none⟩ (.int .i64 J.a)).setCell ⟨w.heap.size + 1 + 1 + 1, 1, none⟩ (.int .i64 J.b)).setCell ⟨w.heap.size + 1 + 1 + 1, 2, none⟩ (.int .i64 J.c)).setCell ⟨w.heap.size + 1 + 1 + 1, 3, none⟩ (.int .i64 J.d)).setCell ⟨w.heap.size + 1 + 1 + 1, 4, none⟩ (.int .i64 J.e)) := ⟨_, rfl⟩
        rw [← hW2] at bR2 bS2 B2 ⊢
        clear hW2
        have r0 := bR2.c 0 rfl
        have t0 := bS2.c 0 rfl
        have r1 := bR2.c 1 rfl
        have t1 := bS2.c 1 rfl
        have r2 := bR2.c 2 rfl
        have t2 := bS2.c 2 rfl
        have r3 := bR2.c 3 rfl
        have t3 := bS2.c 3 rfl
        have r4 := bR2.c 4 rfl
        have t4 := bS2.c 4 rfl
        exact bodyPost_ret (v := .tuple #[.agg #[.int .i64 G.a, .int .i64 G.b, .int .i64 G.c, .int .i64 G.d, .int .i64 G.e], .agg #[.int .i64 J.a, .int .i64 J.b, .int .i64 J.c, .int .i64 J.d, .int .i64 J.e]]) (by simp [results, Tryd.results9, go_sem, r0, t0, r1, t1, r2, t2, r3, t3, r4, t4]) rfl ⟨rfl, B2⟩
end Go.Proofs.YtnklnibjlhnicaaRRRRDoor
namespace Go.Proofs.YtnklnibjlhnicaaRRRRDoor
open Go.ChangeShapes Go.WideShapes Go.ChangeAt Go.RowKit Go.BigFrame Go.Joins
set_option linter.unusedVariables false
set_option linter.unusedSimpArgs false
set_option maxRecDepth 100000

set_option maxHeartbeats 2000000 in
theorem sGreet_noA (aa ai ah ap ba bi bh bp : Int) (w : World) (HA : Hid (cokB aa ai ah ap = false)) : Calls Tryd.prog 4 #[.agg #[.int .i64 aa, .int .i64 ai, .int .i64 ah, .int .i64 ap], .agg #[.int .i64 ba, .int .i64 bi, .int .i64 bh, .int .i64 bp]] w fun e w' => e = .returned (.tuple #[.agg #[.int .i64 0, .int .i64 0, .int .i64 0, .int .i64 0, .int .i64 0], .agg #[.int .i64 0, .int .i64 0, .int .i64 0, .int .i64 0, .int .i64 0], .bool false]) ∧ Below w.heap.size w w' := by
  obtain ⟨bA, bB, bR, bS, B0, z⟩ := four w [.int .i64 aa, .int .i64 ai, .int .i64 ah, .int .i64 ap] [.int .i64 ba, .int .i64 bi, .int .i64 bh, .int .i64 bp] [.int .i64 0, .int .i64 0, .int .i64 0, .int .i64 0, .int .i64 0] [.int .i64 0, .int .i64 0, .int .i64 0, .int .i64 0, .int .i64 0] 28 28 25 25
  clear z
  go_enter Tryd.func4, Tryd.ntmps4
  have fa0 := bA.c 0 rfl
  have fa1 := bA.c 1 rfl
  have fa2 := bA.c 2 rfl
  have fa3 := bA.c 3 rfl
  go_wp2_with fail
  clear fa0 fa1 fa2 fa3
  refine (sCf_t _ HA).mono ?_
  rintro e w1 ⟨rfl, hb⟩
  replace bA := bA.keep hb
  replace bB := bB.keep hb
  replace bR := bR.keep hb
  replace bS := bS.keep hb
  replace B0 := below_step B0 hb
  clear hb
  have r0 := bR.c 0 rfl
  have s0f := bR.f 0 (x := _) rfl
  have t0 := bS.c 0 rfl
  have t0f := bS.f 0 (x := _) rfl
  have r1 := bR.c 1 rfl
  have s1f := bR.f 1 (x := _) rfl
  have t1 := bS.c 1 rfl
  have t1f := bS.f 1 (x := _) rfl
  have r2 := bR.c 2 rfl
  have s2f := bR.f 2 (x := _) rfl
  have t2 := bS.c 2 rfl
  have t2f := bS.f 2 (x := _) rfl
  have r3 := bR.c 3 rfl
  have s3f := bR.f 3 (x := _) rfl
  have t3 := bS.c 3 rfl
  have t3f := bS.f 3 (x := _) rfl
  have r4 := bR.c 4 rfl
  have s4f := bR.f 4 (x := _) rfl
  have t4 := bS.c 4 rfl
  have t4f := bS.f 4 (x := _) rfl
  go_wp2
  have bR2 := ((((((bR.set5 (.int .i64 0) (.int .i64 0) (.int .i64 0) (.int .i64 0) (.int .i64 0)).far (C := w.heap.size + 1 + 1 + 1) (o := 0) (u := .int .i64 0) (by omega)).far (C := w.heap.size + 1 + 1 + 1) (o := 1) (u := .int .i64 0) (by omega)).far (C := w.heap.size + 1 + 1 + 1) (o := 2) (u := .int .i64 0) (by omega)).far (C := w.heap.size + 1 + 1 + 1) (o := 3) (u := .int .i64 0) (by omega)).far (C := w.heap.size + 1 + 1 + 1) (o := 4) (u := .int .i64 0) (by omega))
  have bS2 := ((((((bS.far (C := w.heap.size + 1 + 1) (o := 0) (u := .int .i64 0) (by omega)).far (C := w.heap.size + 1 + 1) (o := 1) (u := .int .i64 0) (by omega)).far (C := w.heap.size + 1 + 1) (o := 2) (u := .int .i64 0) (by omega)).far (C := w.heap.size + 1 + 1) (o := 3) (u := .int .i64 0) (by omega)).far (C := w.heap.size + 1 + 1) (o := 4) (u := .int .i64 0) (by omega))).set5 (.int .i64 0) (.int .i64 0) (.int .i64 0) (.int .i64 0) (.int .i64 0)
  have B2 := below_set5 (below_set5 B0 (B := w.heap.size + 1 + 1) (by omega) (.int .i64 0) (.int .i64 0) (.int .i64 0) (.int .i64 0) (.int .i64 0)) (B := w.heap.size + 1 + 1 + 1) (by omega) (.int .i64 0) (.int .i64 0) (.int .i64 0) (.int .i64 0) (.int .i64 0)
  clear r0 s0f t0 t0f r1 s1f t1 t1f r2 s2f t2 t2f r3 s3f t3 t3f r4 s4f t4 t4f
  clear bR bS B0
  obtain ⟨W2, hW2⟩ : ∃ W2, W2 = ((((((((((w1.setCell ⟨w.heap.size + 1 + 1, 0, none⟩ (.int .i64 0)).setCell ⟨w.heap.size + 1 + 1, 1, none⟩ (.int .i64 0)).setCell ⟨w.heap.size + 1 + 1, 2, none⟩ (.int .i64 0)).setCell ⟨w.heap.size + 1 + 1, 3, none⟩ (.int .i64 0)).setCell ⟨w.heap.size + 1 + 1, 4, none⟩ (.int .i64 0)).setCell ⟨w.heap.size + 1 + 1 + 1, 0, none⟩ (.int .i64 0)).setCell ⟨w.heap.size + 1 + 1 + 1, 1, none⟩ (.int .i64 0)).setCell ⟨w.heap.size + 1 + 1 + 1, 2, none⟩ (.int .i64 0)).setCell ⟨w.heap.size + 1 + 1 + 1, 3, none⟩ (.int .i64 0)).setCell ⟨w.heap.size + 1 + 1 + 1, 4, none⟩ (.int .i64 0)) := ⟨_, rfl⟩
  rw [← hW2] at bR2 bS2 B2 ⊢
  clear hW2
  have r0 := bR2.c 0 rfl
  have t0 := bS2.c 0 rfl
  have r1 := bR2.c 1 rfl
  have t1 := bS2.c 1 rfl
  have r2 := bR2.c 2 rfl
  have t2 := bS2.c 2 rfl
  have r3 := bR2.c 3 rfl
  have t3 := bS2.c 3 rfl
  have r4 := bR2.c 4 rfl
  have t4 := bS2.c 4 rfl
  exact bodyPost_ret (v := .tuple #[.agg #[.int .i64 0, .int .i64 0, .int .i64 0, .int .i64 0, .int .i64 0], .agg #[.int .i64 0, .int .i64 0, .int .i64 0, .int .i64 0, .int .i64 0], .bool false]) (by simp [results, Tryd.results4, go_sem, r0, t0, r1, t1, r2, t2, r3, t3, r4, t4]) rfl ⟨rfl, B2⟩
set_option maxHeartbeats 2000000 in
theorem sGreet_noB (aa ai ah ap ba bi bh bp : Int) (w : World) (HA : Hid (cokB aa ai ah ap = true)) (HB : Hid (cokB ba bi bh bp = false)) : Calls Tryd.prog 4 #[.agg #[.int .i64 aa, .int .i64 ai, .int .i64 ah, .int .i64 ap], .agg #[.int .i64 ba, .int .i64 bi, .int .i64 bh, .int .i64 bp]] w fun e w' => e = .returned (.tuple #[.agg #[.int .i64 0, .int .i64 0, .int .i64 0, .int .i64 0, .int .i64 0], .agg #[.int .i64 0, .int .i64 0, .int .i64 0, .int .i64 0, .int .i64 0], .bool false]) ∧ Below w.heap.size w w' := by
  obtain ⟨bA, bB, bR, bS, B0, z⟩ := four w [.int .i64 aa, .int .i64 ai, .int .i64 ah, .int .i64 ap] [.int .i64 ba, .int .i64 bi, .int .i64 bh, .int .i64 bp] [.int .i64 0, .int .i64 0, .int .i64 0, .int .i64 0, .int .i64 0] [.int .i64 0, .int .i64 0, .int .i64 0, .int .i64 0, .int .i64 0] 28 28 25 25
  clear z
  go_enter Tryd.func4, Tryd.ntmps4
  have fa0 := bA.c 0 rfl
  have fa1 := bA.c 1 rfl
  have fa2 := bA.c 2 rfl
  have fa3 := bA.c 3 rfl
  go_wp2_with fail
  clear fa0 fa1 fa2 fa3
  refine (sCf_t _ HA).mono ?_
  rintro e w1 ⟨rfl, hb⟩
  replace bA := bA.keep hb
  replace bB := bB.keep hb
  replace bR := bR.keep hb
  replace bS := bS.keep hb
  replace B0 := below_step B0 hb
  clear hb
  have fb0 := bB.c 0 rfl
  have fb1 := bB.c 1 rfl
  have fb2 := bB.c 2 rfl
  have fb3 := bB.c 3 rfl
  go_wp2_with fail
  clear fb0 fb1 fb2 fb3
  refine (sCf_t _ HB).mono ?_
  rintro e w2 ⟨rfl, hb⟩
  replace bA := bA.keep hb
  replace bB := bB.keep hb
  replace bR := bR.keep hb
  replace bS := bS.keep hb
  replace B0 := below_step B0 hb
  clear hb
  have r0 := bR.c 0 rfl
  have s0f := bR.f 0 (x := _) rfl
  have t0 := bS.c 0 rfl
  have t0f := bS.f 0 (x := _) rfl
  have r1 := bR.c 1 rfl
  have s1f := bR.f 1 (x := _) rfl
  have t1 := bS.c 1 rfl
  have t1f := bS.f 1 (x := _) rfl
  have r2 := bR.c 2 rfl
  have s2f := bR.f 2 (x := _) rfl
  have t2 := bS.c 2 rfl
  have t2f := bS.f 2 (x := _) rfl
  have r3 := bR.c 3 rfl
  have s3f := bR.f 3 (x := _) rfl
  have t3 := bS.c 3 rfl
  have t3f := bS.f 3 (x := _) rfl
  have r4 := bR.c 4 rfl
  have s4f := bR.f 4 (x := _) rfl
  have t4 := bS.c 4 rfl
  have t4f := bS.f 4 (x := _) rfl
  go_wp2
  have bR2 := ((((((bR.set5 (.int .i64 0) (.int .i64 0) (.int .i64 0) (.int .i64 0) (.int .i64 0)).far (C := w.heap.size + 1 + 1 + 1) (o := 0) (u := .int .i64 0) (by omega)).far (C := w.heap.size + 1 + 1 + 1) (o := 1) (u := .int .i64 0) (by omega)).far (C := w.heap.size + 1 + 1 + 1) (o := 2) (u := .int .i64 0) (by omega)).far (C := w.heap.size + 1 + 1 + 1) (o := 3) (u := .int .i64 0) (by omega)).far (C := w.heap.size + 1 + 1 + 1) (o := 4) (u := .int .i64 0) (by omega))
  have bS2 := ((((((bS.far (C := w.heap.size + 1 + 1) (o := 0) (u := .int .i64 0) (by omega)).far (C := w.heap.size + 1 + 1) (o := 1) (u := .int .i64 0) (by omega)).far (C := w.heap.size + 1 + 1) (o := 2) (u := .int .i64 0) (by omega)).far (C := w.heap.size + 1 + 1) (o := 3) (u := .int .i64 0) (by omega)).far (C := w.heap.size + 1 + 1) (o := 4) (u := .int .i64 0) (by omega))).set5 (.int .i64 0) (.int .i64 0) (.int .i64 0) (.int .i64 0) (.int .i64 0)
  have B2 := below_set5 (below_set5 B0 (B := w.heap.size + 1 + 1) (by omega) (.int .i64 0) (.int .i64 0) (.int .i64 0) (.int .i64 0) (.int .i64 0)) (B := w.heap.size + 1 + 1 + 1) (by omega) (.int .i64 0) (.int .i64 0) (.int .i64 0) (.int .i64 0) (.int .i64 0)
  clear r0 s0f t0 t0f r1 s1f t1 t1f r2 s2f t2 t2f r3 s3f t3 t3f r4 s4f t4 t4f
  clear bR bS B0
  obtain ⟨W2, hW2⟩ : ∃ W2, W2 = ((((((((((w2.setCell ⟨w.heap.size + 1 + 1, 0, none⟩ (.int .i64 0)).setCell ⟨w.heap.size + 1 + 1, 1, none⟩ (.int .i64 0)).setCell ⟨w.heap.size + 1 + 1, 2, none⟩ (.int .i64 0)).setCell ⟨w.heap.size + 1 + 1, 3, none⟩ (.int .i64 0)).setCell ⟨w.heap.size + 1 + 1, 4, none⟩ (.int .i64 0)).setCell ⟨w.heap.size + 1 + 1 + 1, 0, none⟩ (.int .i64 0)).setCell ⟨w.heap.size + 1 + 1 + 1, 1, none⟩ (.int .i64 0)).setCell ⟨w.heap.size + 1 + 1 + 1, 2, none⟩ (.int .i64 0)).setCell ⟨w.heap.size + 1 + 1 + 1, 3, none⟩ (.int .i64 0)).setCell ⟨w.heap.size + 1 + 1 + 1, 4, none⟩ (.int .i64 0)) := ⟨_, rfl⟩
  rw [← hW2] at bR2 bS2 B2 ⊢
  clear hW2
  have r0 := bR2.c 0 rfl
  have t0 := bS2.c 0 rfl
  have r1 := bR2.c 1 rfl
  have t1 := bS2.c 1 rfl
  have r2 := bR2.c 2 rfl
  have t2 := bS2.c 2 rfl
  have r3 := bR2.c 3 rfl
  have t3 := bS2.c 3 rfl
  have r4 := bR2.c 4 rfl
  have t4 := bS2.c 4 rfl
  exact bodyPost_ret (v := .tuple #[.agg #[.int .i64 0, .int .i64 0, .int .i64 0, .int .i64 0, .int .i64 0], .agg #[.int .i64 0, .int .i64 0, .int .i64 0, .int .i64 0, .int .i64 0], .bool false]) (by simp [results, Tryd.results4, go_sem, r0, t0, r1, t1, r2, t2, r3, t3, r4, t4]) rfl ⟨rfl, B2⟩
set_option maxHeartbeats 8000000 in
theorem sGreet_true (aa ai ah ap ba bi bh bp : Int) (w : World) (hsz : 1 < w.heap.size) (HA : Hid (cokB aa ai ah ap = true)) (HB : Hid (cokB ba bi bh bp = true)) (p q : Bool) (hp : p = l4B aa ai ap 1 ba bi) (hq : q = l4B ba bi bp 1 aa ai) (ht : true = (p && q)) (G J : St) (hG : G = gF ah ba bh true) (hJ : J = gF bh aa ah true) :
    Calls Tryd.prog 4 #[.agg #[.int .i64 aa, .int .i64 ai, .int .i64 ah, .int .i64 ap], .agg #[.int .i64 ba, .int .i64 bi, .int .i64 bh, .int .i64 bp]] w fun e w' => e = .returned (.tuple #[.agg #[.int .i64 G.a, .int .i64 G.b, .int .i64 G.c, .int .i64 G.d, .int .i64 G.e], .agg #[.int .i64 J.a, .int .i64 J.b, .int .i64 J.c, .int .i64 J.d, .int .i64 J.e], .bool true]) ∧ Below w.heap.size w w' := by
  have hga : (G.a == 4) = true := by rw [hG]; exact gF_a _ _ _ _
  have hja : (J.a == 4) = true := by rw [hJ]; exact gF_a _ _ _ _
  have HA3 := Lib.hid (cokB_ho HA.out)
  have HB3 := Lib.hid (cokB_ho HB.out)
  have HL := Lib.hid (And.intro hp (And.intro hq (And.intro ht (And.intro hG hJ))))
  clear hp hq ht hG hJ
  obtain ⟨bA, bB, bR, bS, B0, z⟩ := four w [.int .i64 aa, .int .i64 ai, .int .i64 ah, .int .i64 ap] [.int .i64 ba, .int .i64 bi, .int .i64 bh, .int .i64 bp] [.int .i64 0, .int .i64 0, .int .i64 0, .int .i64 0, .int .i64 0] [.int .i64 0, .int .i64 0, .int .i64 0, .int .i64 0, .int .i64 0] 28 28 25 25
  clear z
  go_enter Tryd.func4, Tryd.ntmps4
  have fa0 := bA.c 0 rfl
  have fa1 := bA.c 1 rfl
  have fa2 := bA.c 2 rfl
  have fa3 := bA.c 3 rfl
  go_wp2_with fail
  clear fa0 fa1 fa2 fa3
  refine (sCf_t _ HA).mono ?_
  rintro e w1 ⟨rfl, hb⟩
  replace bA := bA.keep hb
  replace bB := bB.keep hb
  replace bR := bR.keep hb
  replace bS := bS.keep hb
  replace B0 := below_step B0 hb
  clear hb
  have fb0 := bB.c 0 rfl
  have fb1 := bB.c 1 rfl
  have fb2 := bB.c 2 rfl
  have fb3 := bB.c 3 rfl
  go_wp2_with fail
  clear fb0 fb1 fb2 fb3
  refine (sCf_t _ HB).mono ?_
  rintro e w2 ⟨rfl, hb⟩
  replace bA := bA.keep hb
  replace bB := bB.keep hb
  replace bR := bR.keep hb
  replace bS := bS.keep hb
  replace B0 := below_step B0 hb
  clear hb
  have fa0 := bA.c 0 rfl
  have fa1 := bA.c 1 rfl
  have fa2 := bA.c 2 rfl
  have fa3 := bA.c 3 rfl
  have fb0 := bB.c 0 rfl
  have fb1 := bB.c 1 rfl
  have fb2 := bB.c 2 rfl
  have fb3 := bB.c 3 rfl
  go_wp2_with fail
  clear fa0 fa1 fa2 fa3
  clear fb0 fb1 fb2 fb3
  refine (sl4greet aa ai ah ap ba bi bh bp w2 (Nat.lt_of_lt_of_le hsz B0.size) HA3 HB3 p q true (Lib.hid HL.out.1) (Lib.hid HL.out.2.1) (Lib.hid HL.out.2.2.1) G J (Lib.hid HL.out.2.2.2.1) (Lib.hid HL.out.2.2.2.2)).mono ?_
  rintro e w3 ⟨rfl, hb⟩
  replace bA := bA.keep hb
  replace bB := bB.keep hb
  replace bR := bR.keep hb
  replace bS := bS.keep hb
  replace B0 := below_step B0 hb
  clear hb
  have hS3 := bS.lt
  obtain ⟨bP, bQ, hb, z⟩ := two w3 [.int .i64 G.a, .int .i64 G.b, .int .i64 G.c, .int .i64 G.d, .int .i64 G.e] [.int .i64 J.a, .int .i64 J.b, .int .i64 J.c, .int .i64 J.d, .int .i64 J.e] 25 25
  clear z
  replace bR := bR.keep hb
  replace bS := bS.keep hb
  replace B0 := below_step B0 hb
  clear hb
  go_wp2_with fail
  clear bA bB
  have hPR : w3.heap.size ≠ w.heap.size + 1 + 1 := by omega
  have hPS : w3.heap.size ≠ w.heap.size + 1 + 1 + 1 := by omega
  have hQR : w3.heap.size + 1 ≠ w.heap.size + 1 + 1 := by omega
  have hQS : w3.heap.size + 1 ≠ w.heap.size + 1 + 1 + 1 := by omega
  refine wp_region_held_drew (S := fun w' => Bl w' (w3.heap.size) [.int .i64 G.a, .int .i64 G.b, .int .i64 G.c, .int .i64 G.d, .int .i64 G.e] ∧ Bl w' (w3.heap.size + 1) [.int .i64 J.a, .int .i64 J.b, .int .i64 J.c, .int .i64 J.d, .int .i64 J.e]) (by kernel_rfl) ⟨bP.keep (over_drew _), bQ.keep (over_drew _)⟩ (fun hHeld => ?_)
  refine wpAnyH_take (i := 0) (v := ?_) rfl (by kernel_rfl) (by kernel_rfl) (by kernel_rfl) (fun _ _ _ h => h) (Or.inl ⟨by rfl, ?_⟩) (by assumption) ?_
  rotate_left
  · intro wq hSq
    (try dsimp only at hSq)
    have q0 := hSq.1.c 0 rfl
    have q1 := hSq.1.c 1 rfl
    have q2 := hSq.1.c 2 rfl
    have q3 := hSq.1.c 3 rfl
    have q4 := hSq.1.c 4 rfl
    go_simp
    try rfl
  change wpAnyH _ _ _ _ _ _ _ (Act.put _ (some 25) _) _
  simp only [Act.put, List.setIfInBounds_toArray, List.set_cons_succ, List.set_cons_zero]
  refine wpAnyH_take (i := 1) (v := ?_) rfl (by kernel_rfl) (by kernel_rfl) (by kernel_rfl) (fun _ _ _ h => h) (Or.inl ⟨by rfl, ?_⟩) (by assumption) ?_
  rotate_left
  · intro wq hSq
    (try dsimp only at hSq)
    have q0 := hSq.2.c 0 rfl
    have q1 := hSq.2.c 1 rfl
    have q2 := hSq.2.c 2 rfl
    have q3 := hSq.2.c 3 rfl
    have q4 := hSq.2.c 4 rfl
    go_simp
    try rfl
  change wpAnyH _ _ _ _ _ _ _ (Act.put _ (some 26) _) _
  simp only [Act.put, List.setIfInBounds_toArray, List.set_cons_succ, List.set_cons_zero]
  refine wpAnyH_take (i := 2) (v := ?_) rfl (by kernel_rfl) (by kernel_rfl) (by kernel_rfl) (fun _ _ _ h => h) (Or.inl ⟨by rfl, ?_⟩) (by assumption) ?_
  rotate_left
  · intro wq hSq
    (try dsimp only at hSq)

    go_simp
    try rfl
  change wpAnyH _ _ _ _ _ _ _ (Act.put _ (some 27) _) _
  simp only [Act.put, List.setIfInBounds_toArray, List.set_cons_succ, List.set_cons_zero]
  refine wpAnyH_take (i := 3) (v := ?_) rfl (by kernel_rfl) (by kernel_rfl) (by kernel_rfl) (fun _ _ _ h => h) (Or.inl ⟨by rfl, ?_⟩) (by assumption) ?_
  rotate_left
  · intro wq hSq
    (try dsimp only at hSq)
    have q0 := hSq.1.c 0 rfl
    go_simp
    try rfl
  change wpAnyH _ _ _ _ _ _ _ (Act.put _ (some 28) _) _
  simp only [Act.put, List.setIfInBounds_toArray, List.set_cons_succ, List.set_cons_zero]
  refine wpAnyH_take (i := 4) (v := ?_) rfl (by kernel_rfl) (by kernel_rfl) (by kernel_rfl) (fun _ _ _ h => h) (Or.inl ⟨by rfl, ?_⟩) (by assumption) ?_
  rotate_left
  · intro wq hSq
    (try dsimp only at hSq)

    go_simp
    try rfl
  change wpAnyH _ _ _ _ _ _ _ (Act.put _ (some 29) _) _
  simp only [Act.put, List.setIfInBounds_toArray, List.set_cons_succ, List.set_cons_zero]
  refine wpAnyH_take (i := 5) (v := ?_) rfl (by kernel_rfl) (by kernel_rfl) (by kernel_rfl) (fun _ _ _ h => h) (Or.inl ⟨by rfl, ?_⟩) (by assumption) ?_
  rotate_left
  · intro wq hSq
    (try dsimp only at hSq)

    go_simp
    try rfl
  change wpAnyH _ _ _ _ _ _ _ (Act.put _ (some 30) _) _
  simp only [Act.put, List.setIfInBounds_toArray, List.set_cons_succ, List.set_cons_zero]
  refine wpAnyH_take (i := 6) (v := ?_) rfl (by kernel_rfl) (by kernel_rfl) (by kernel_rfl) (fun _ _ _ h => h) (Or.inl ⟨by rfl, ?_⟩) (by assumption) ?_
  rotate_left
  · intro wq hSq
    (try dsimp only at hSq)

    go_simp
    try rfl
  change wpAnyH _ _ _ _ _ _ _ (Act.put _ (some 31) _) _
  simp only [Act.put, List.setIfInBounds_toArray, List.set_cons_succ, List.set_cons_zero]
  refine wpAnyH_take (i := 7) (v := ?_) rfl (by kernel_rfl) (by kernel_rfl) (by kernel_rfl) (fun _ _ _ h => h) (Or.inl ⟨by rfl, ?_⟩) (by assumption) ?_
  rotate_left
  · intro wq hSq
    (try dsimp only at hSq)
    have q0 := hSq.2.c 0 rfl
    go_simp
    try rfl
  change wpAnyH _ _ _ _ _ _ _ (Act.put _ (some 32) _) _
  simp only [Act.put, List.setIfInBounds_toArray, List.set_cons_succ, List.set_cons_zero]
  refine wpAnyH_take (i := 8) (v := ?_) rfl (by kernel_rfl) (by kernel_rfl) (by kernel_rfl) (fun _ _ _ h => h) (Or.inl ⟨by rfl, ?_⟩) (by assumption) ?_
  rotate_left
  · intro wq hSq
    (try dsimp only at hSq)

    go_simp
    try rfl
  change wpAnyH _ _ _ _ _ _ _ (Act.put _ (some 33) _) _
  simp only [Act.put, List.setIfInBounds_toArray, List.set_cons_succ, List.set_cons_zero]
  refine wpAnyH_take (i := 9) (v := ?_) rfl (by kernel_rfl) (by kernel_rfl) (by kernel_rfl) (fun _ _ _ h => h) (Or.inl ⟨by rfl, ?_⟩) (by assumption) ?_
  rotate_left
  · intro wq hSq
    (try dsimp only at hSq)

    go_simp
    try rfl
  change wpAnyH _ _ _ _ _ _ _ (Act.put _ (some 34) _) _
  simp only [Act.put, List.setIfInBounds_toArray, List.set_cons_succ, List.set_cons_zero]
  obtain ⟨w15, e15⟩ : ∃ u, u = ((w3.alloc (.cells #[.int .i64 G.a, .int .i64 G.b, .int .i64 G.c, .int .i64 G.d, .int .i64 G.e] 25)).alloc (.cells #[.int .i64 J.a, .int .i64 J.b, .int .i64 J.c, .int .i64 J.d, .int .i64 J.e] 25)).drew := ⟨_, rfl⟩
  have O15 : Over ((w3.alloc (.cells #[.int .i64 G.a, .int .i64 G.b, .int .i64 G.c, .int .i64 G.d, .int .i64 G.e] 25)).alloc (.cells #[.int .i64 J.a, .int .i64 J.b, .int .i64 J.c, .int .i64 J.d, .int .i64 J.e] 25)) w15 := by rw [e15]; exact over_drew _
  rw [← e15]
  clear e15 hHeld
  replace bP := bP.keep O15
  replace bQ := bQ.keep O15
  replace bR := bR.keep O15
  replace bS := bS.keep O15
  replace B0 := below_step B0 O15
  clear O15
  have r0 := bR.c 0 rfl
  have s0f := bR.f 0 (x := _) rfl
  have t0 := bS.c 0 rfl
  have t0f := bS.f 0 (x := _) rfl
  have r1 := bR.c 1 rfl
  have s1f := bR.f 1 (x := _) rfl
  have t1 := bS.c 1 rfl
  have t1f := bS.f 1 (x := _) rfl
  have r2 := bR.c 2 rfl
  have s2f := bR.f 2 (x := _) rfl
  have t2 := bS.c 2 rfl
  have t2f := bS.f 2 (x := _) rfl
  have r3 := bR.c 3 rfl
  have s3f := bR.f 3 (x := _) rfl
  have t3 := bS.c 3 rfl
  have t3f := bS.f 3 (x := _) rfl
  have r4 := bR.c 4 rfl
  have s4f := bR.f 4 (x := _) rfl
  have t4 := bS.c 4 rfl
  have t4f := bS.f 4 (x := _) rfl
  refine wpAnyH_ready (rs := [10]) (by kernel_rfl) (by simp) ?_
  refine (AllReadyH.cons rfl (fun K hK => ?_) AllReadyH.nil)
  go_simp
  refine hK.out _ _ ⟨((((((bP.far (C := w.heap.size + 1 + 1) (o := 0) (u := .int .i64 G.a) hPR).far (C := w.heap.size + 1 + 1) (o := 1) (u := .int .i64 G.b) hPR).far (C := w.heap.size + 1 + 1) (o := 2) (u := .int .i64 G.c) hPR).far (C := w.heap.size + 1 + 1) (o := 3) (u := .int .i64 G.d) hPR).far (C := w.heap.size + 1 + 1) (o := 4) (u := .int .i64 G.e) hPR)), ((((((bQ.far (C := w.heap.size + 1 + 1) (o := 0) (u := .int .i64 G.a) hQR).far (C := w.heap.size + 1 + 1) (o := 1) (u := .int .i64 G.b) hQR).far (C := w.heap.size + 1 + 1) (o := 2) (u := .int .i64 G.c) hQR).far (C := w.heap.size + 1 + 1) (o := 3) (u := .int .i64 G.d) hQR).far (C := w.heap.size + 1 + 1) (o := 4) (u := .int .i64 G.e) hQR))⟩ (fun _ => ?_)
  clear hK K
  try simp only [Act.put, List.setIfInBounds_toArray, List.set_cons_zero, List.set_cons_succ]
  refine wpAnyH_ready (rs := [11]) (by kernel_rfl) (by simp) ?_
  refine (AllReadyH.cons rfl (fun K hK => ?_) AllReadyH.nil)
  go_simp
  refine hK.out _ _ ⟨((((((((((((bP.far (C := w.heap.size + 1 + 1) (o := 0) (u := .int .i64 G.a) hPR).far (C := w.heap.size + 1 + 1) (o := 1) (u := .int .i64 G.b) hPR).far (C := w.heap.size + 1 + 1) (o := 2) (u := .int .i64 G.c) hPR).far (C := w.heap.size + 1 + 1) (o := 3) (u := .int .i64 G.d) hPR).far (C := w.heap.size + 1 + 1) (o := 4) (u := .int .i64 G.e) hPR)).far (C := w.heap.size + 1 + 1 + 1) (o := 0) (u := .int .i64 J.a) hPS).far (C := w.heap.size + 1 + 1 + 1) (o := 1) (u := .int .i64 J.b) hPS).far (C := w.heap.size + 1 + 1 + 1) (o := 2) (u := .int .i64 J.c) hPS).far (C := w.heap.size + 1 + 1 + 1) (o := 3) (u := .int .i64 J.d) hPS).far (C := w.heap.size + 1 + 1 + 1) (o := 4) (u := .int .i64 J.e) hPS)), ((((((((((((bQ.far (C := w.heap.size + 1 + 1) (o := 0) (u := .int .i64 G.a) hQR).far (C := w.heap.size + 1 + 1) (o := 1) (u := .int .i64 G.b) hQR).far (C := w.heap.size + 1 + 1) (o := 2) (u := .int .i64 G.c) hQR).far (C := w.heap.size + 1 + 1) (o := 3) (u := .int .i64 G.d) hQR).far (C := w.heap.size + 1 + 1) (o := 4) (u := .int .i64 G.e) hQR)).far (C := w.heap.size + 1 + 1 + 1) (o := 0) (u := .int .i64 J.a) hQS).far (C := w.heap.size + 1 + 1 + 1) (o := 1) (u := .int .i64 J.b) hQS).far (C := w.heap.size + 1 + 1 + 1) (o := 2) (u := .int .i64 J.c) hQS).far (C := w.heap.size + 1 + 1 + 1) (o := 3) (u := .int .i64 J.d) hQS).far (C := w.heap.size + 1 + 1 + 1) (o := 4) (u := .int .i64 J.e) hQS))⟩ (fun _ => ?_)
  clear hK K
  try simp only [Act.put, List.setIfInBounds_toArray, List.set_cons_zero, List.set_cons_succ]
  refine wpAnyH_ready (rs := [12]) (by kernel_rfl) (by simp) ?_
  refine (AllReadyH.cons rfl (fun K hK => ?_) AllReadyH.nil)
  go_simp
  refine hK.out _ _ ⟨((((((((((((bP.far (C := w.heap.size + 1 + 1) (o := 0) (u := .int .i64 G.a) hPR).far (C := w.heap.size + 1 + 1) (o := 1) (u := .int .i64 G.b) hPR).far (C := w.heap.size + 1 + 1) (o := 2) (u := .int .i64 G.c) hPR).far (C := w.heap.size + 1 + 1) (o := 3) (u := .int .i64 G.d) hPR).far (C := w.heap.size + 1 + 1) (o := 4) (u := .int .i64 G.e) hPR)).far (C := w.heap.size + 1 + 1 + 1) (o := 0) (u := .int .i64 J.a) hPS).far (C := w.heap.size + 1 + 1 + 1) (o := 1) (u := .int .i64 J.b) hPS).far (C := w.heap.size + 1 + 1 + 1) (o := 2) (u := .int .i64 J.c) hPS).far (C := w.heap.size + 1 + 1 + 1) (o := 3) (u := .int .i64 J.d) hPS).far (C := w.heap.size + 1 + 1 + 1) (o := 4) (u := .int .i64 J.e) hPS)), ((((((((((((bQ.far (C := w.heap.size + 1 + 1) (o := 0) (u := .int .i64 G.a) hQR).far (C := w.heap.size + 1 + 1) (o := 1) (u := .int .i64 G.b) hQR).far (C := w.heap.size + 1 + 1) (o := 2) (u := .int .i64 G.c) hQR).far (C := w.heap.size + 1 + 1) (o := 3) (u := .int .i64 G.d) hQR).far (C := w.heap.size + 1 + 1) (o := 4) (u := .int .i64 G.e) hQR)).far (C := w.heap.size + 1 + 1 + 1) (o := 0) (u := .int .i64 J.a) hQS).far (C := w.heap.size + 1 + 1 + 1) (o := 1) (u := .int .i64 J.b) hQS).far (C := w.heap.size + 1 + 1 + 1) (o := 2) (u := .int .i64 J.c) hQS).far (C := w.heap.size + 1 + 1 + 1) (o := 3) (u := .int .i64 J.d) hQS).far (C := w.heap.size + 1 + 1 + 1) (o := 4) (u := .int .i64 J.e) hQS))⟩ (fun _ => ?_)
  clear hK K
  try simp only [Act.put, List.setIfInBounds_toArray, List.set_cons_zero, List.set_cons_succ]
  refine wpAnyH_done (by kernel_rfl) ?_ _
  have bR2 := ((((((bR.set5 (.int .i64 G.a) (.int .i64 G.b) (.int .i64 G.c) (.int .i64 G.d) (.int .i64 G.e)).far (C := w.heap.size + 1 + 1 + 1) (o := 0) (u := .int .i64 J.a) (by omega)).far (C := w.heap.size + 1 + 1 + 1) (o := 1) (u := .int .i64 J.b) (by omega)).far (C := w.heap.size + 1 + 1 + 1) (o := 2) (u := .int .i64 J.c) (by omega)).far (C := w.heap.size + 1 + 1 + 1) (o := 3) (u := .int .i64 J.d) (by omega)).far (C := w.heap.size + 1 + 1 + 1) (o := 4) (u := .int .i64 J.e) (by omega))
  have bS2 := ((((((bS.far (C := w.heap.size + 1 + 1) (o := 0) (u := .int .i64 G.a) (by omega)).far (C := w.heap.size + 1 + 1) (o := 1) (u := .int .i64 G.b) (by omega)).far (C := w.heap.size + 1 + 1) (o := 2) (u := .int .i64 G.c) (by omega)).far (C := w.heap.size + 1 + 1) (o := 3) (u := .int .i64 G.d) (by omega)).far (C := w.heap.size + 1 + 1) (o := 4) (u := .int .i64 G.e) (by omega))).set5 (.int .i64 J.a) (.int .i64 J.b) (.int .i64 J.c) (.int .i64 J.d) (.int .i64 J.e)
  have B2 := below_set5 (below_set5 B0 (B := w.heap.size + 1 + 1) (by omega) (.int .i64 G.a) (.int .i64 G.b) (.int .i64 G.c) (.int .i64 G.d) (.int .i64 G.e)) (B := w.heap.size + 1 + 1 + 1) (by omega) (.int .i64 J.a) (.int .i64 J.b) (.int .i64 J.c) (.int .i64 J.d) (.int .i64 J.e)
  clear r0 s0f t0 t0f r1 s1f t1 t1f r2 s2f t2 t2f r3 s3f t3 t3f r4 s4f t4 t4f
  clear bR bS B0
  go_wp2
  obtain ⟨W2, hW2⟩ : ∃ W2, W2 = ((((((((((w15.setCell ⟨w.heap.size + 1 + 1, 0, none⟩ (.int .i64 G.a)).setCell ⟨w.heap.size + 1 + 1, 1, none⟩ (.int .i64 G.b)).setCell ⟨w.heap.size + 1 + 1, 2, none⟩ (.int .i64 G.c)).setCell ⟨w.heap.size + 1 + 1, 3, none⟩ (.int .i64 G.d)).setCell ⟨w.heap.size + 1 + 1, 4, none⟩ (.int .i64 G.e)).setCell ⟨w.heap.size + 1 + 1 + 1, 0, none⟩ (.int .i64 J.a)).setCell ⟨w.heap.size + 1 + 1 + 1, 1, none⟩ (.int .i64 J.b)).setCell ⟨w.heap.size + 1 + 1 + 1, 2, none⟩ (.int .i64 J.c)).setCell ⟨w.heap.size + 1 + 1 + 1, 3, none⟩ (.int .i64 J.d)).setCell ⟨w.heap.size + 1 + 1 + 1, 4, none⟩ (.int .i64 J.e)) := ⟨_, rfl⟩
  rw [← hW2] at bR2 bS2 B2 ⊢
  clear hW2
  have r0 := bR2.c 0 rfl
  have t0 := bS2.c 0 rfl
  have r1 := bR2.c 1 rfl
  have t1 := bS2.c 1 rfl
  have r2 := bR2.c 2 rfl
  have t2 := bS2.c 2 rfl
  have r3 := bR2.c 3 rfl
  have t3 := bS2.c 3 rfl
  have r4 := bR2.c 4 rfl
  have t4 := bS2.c 4 rfl
  exact bodyPost_ret (v := .tuple #[.agg #[.int .i64 G.a, .int .i64 G.b, .int .i64 G.c, .int .i64 G.d, .int .i64 G.e], .agg #[.int .i64 J.a, .int .i64 J.b, .int .i64 J.c, .int .i64 J.d, .int .i64 J.e], .bool true]) (by simp [results, Tryd.results4, go_sem, r0, t0, r1, t1, r2, t2, r3, t3, r4, t4]) rfl ⟨rfl, B2⟩
set_option maxHeartbeats 8000000 in
theorem sGreet_false (aa ai ah ap ba bi bh bp : Int) (w : World) (hsz : 1 < w.heap.size) (HA : Hid (cokB aa ai ah ap = true)) (HB : Hid (cokB ba bi bh bp = true)) (p q : Bool) (hp : p = l4B aa ai ap 1 ba bi) (hq : q = l4B ba bi bp 1 aa ai) (ht : false = (p && q)) (G J : St) (hG : G = gF ah ba bh false) (hJ : J = gF bh aa ah false) :
    Calls Tryd.prog 4 #[.agg #[.int .i64 aa, .int .i64 ai, .int .i64 ah, .int .i64 ap], .agg #[.int .i64 ba, .int .i64 bi, .int .i64 bh, .int .i64 bp]] w fun e w' => e = .returned (.tuple #[.agg #[.int .i64 G.a, .int .i64 G.b, .int .i64 G.c, .int .i64 G.d, .int .i64 G.e], .agg #[.int .i64 J.a, .int .i64 J.b, .int .i64 J.c, .int .i64 J.d, .int .i64 J.e], .bool false]) ∧ Below w.heap.size w w' := by
  have hga : (G.a == 4) = false := by rw [hG]; exact gF_a _ _ _ _
  have hja : (J.a == 4) = false := by rw [hJ]; exact gF_a _ _ _ _
  have HA3 := Lib.hid (cokB_ho HA.out)
  have HB3 := Lib.hid (cokB_ho HB.out)
  have HL := Lib.hid (And.intro hp (And.intro hq (And.intro ht (And.intro hG hJ))))
  clear hp hq ht hG hJ
  obtain ⟨bA, bB, bR, bS, B0, z⟩ := four w [.int .i64 aa, .int .i64 ai, .int .i64 ah, .int .i64 ap] [.int .i64 ba, .int .i64 bi, .int .i64 bh, .int .i64 bp] [.int .i64 0, .int .i64 0, .int .i64 0, .int .i64 0, .int .i64 0] [.int .i64 0, .int .i64 0, .int .i64 0, .int .i64 0, .int .i64 0] 28 28 25 25
  clear z
  go_enter Tryd.func4, Tryd.ntmps4
  have fa0 := bA.c 0 rfl
  have fa1 := bA.c 1 rfl
  have fa2 := bA.c 2 rfl
  have fa3 := bA.c 3 rfl
  go_wp2_with fail
  clear fa0 fa1 fa2 fa3
  refine (sCf_t _ HA).mono ?_
  rintro e w1 ⟨rfl, hb⟩
  replace bA := bA.keep hb
  replace bB := bB.keep hb
  replace bR := bR.keep hb
  replace bS := bS.keep hb
  replace B0 := below_step B0 hb
  clear hb
  have fb0 := bB.c 0 rfl
  have fb1 := bB.c 1 rfl
  have fb2 := bB.c 2 rfl
  have fb3 := bB.c 3 rfl
  go_wp2_with fail
  clear fb0 fb1 fb2 fb3
  refine (sCf_t _ HB).mono ?_
  rintro e w2 ⟨rfl, hb⟩
  replace bA := bA.keep hb
  replace bB := bB.keep hb
  replace bR := bR.keep hb
  replace bS := bS.keep hb
  replace B0 := below_step B0 hb
  clear hb
  have fa0 := bA.c 0 rfl
  have fa1 := bA.c 1 rfl
  have fa2 := bA.c 2 rfl
  have fa3 := bA.c 3 rfl
  have fb0 := bB.c 0 rfl
  have fb1 := bB.c 1 rfl
  have fb2 := bB.c 2 rfl
  have fb3 := bB.c 3 rfl
  go_wp2_with fail
  clear fa0 fa1 fa2 fa3
  clear fb0 fb1 fb2 fb3
  refine (sl4greet aa ai ah ap ba bi bh bp w2 (Nat.lt_of_lt_of_le hsz B0.size) HA3 HB3 p q false (Lib.hid HL.out.1) (Lib.hid HL.out.2.1) (Lib.hid HL.out.2.2.1) G J (Lib.hid HL.out.2.2.2.1) (Lib.hid HL.out.2.2.2.2)).mono ?_
  rintro e w3 ⟨rfl, hb⟩
  replace bA := bA.keep hb
  replace bB := bB.keep hb
  replace bR := bR.keep hb
  replace bS := bS.keep hb
  replace B0 := below_step B0 hb
  clear hb
  have hS3 := bS.lt
  obtain ⟨bP, bQ, hb, z⟩ := two w3 [.int .i64 G.a, .int .i64 G.b, .int .i64 G.c, .int .i64 G.d, .int .i64 G.e] [.int .i64 J.a, .int .i64 J.b, .int .i64 J.c, .int .i64 J.d, .int .i64 J.e] 25 25
  clear z
  replace bR := bR.keep hb
  replace bS := bS.keep hb
  replace B0 := below_step B0 hb
  clear hb
  go_wp2_with fail
  clear bA bB
  have hPR : w3.heap.size ≠ w.heap.size + 1 + 1 := by omega
  have hPS : w3.heap.size ≠ w.heap.size + 1 + 1 + 1 := by omega
  have hQR : w3.heap.size + 1 ≠ w.heap.size + 1 + 1 := by omega
  have hQS : w3.heap.size + 1 ≠ w.heap.size + 1 + 1 + 1 := by omega
  refine wp_region_held_drew (S := fun w' => Bl w' (w3.heap.size) [.int .i64 G.a, .int .i64 G.b, .int .i64 G.c, .int .i64 G.d, .int .i64 G.e] ∧ Bl w' (w3.heap.size + 1) [.int .i64 J.a, .int .i64 J.b, .int .i64 J.c, .int .i64 J.d, .int .i64 J.e]) (by kernel_rfl) ⟨bP.keep (over_drew _), bQ.keep (over_drew _)⟩ (fun hHeld => ?_)
  refine wpAnyH_take (i := 0) (v := ?_) rfl (by kernel_rfl) (by kernel_rfl) (by kernel_rfl) (fun _ _ _ h => h) (Or.inl ⟨by rfl, ?_⟩) (by assumption) ?_
  rotate_left
  · intro wq hSq
    (try dsimp only at hSq)
    have q0 := hSq.1.c 0 rfl
    have q1 := hSq.1.c 1 rfl
    have q2 := hSq.1.c 2 rfl
    have q3 := hSq.1.c 3 rfl
    have q4 := hSq.1.c 4 rfl
    go_simp
    try rfl
  change wpAnyH _ _ _ _ _ _ _ (Act.put _ (some 25) _) _
  simp only [Act.put, List.setIfInBounds_toArray, List.set_cons_succ, List.set_cons_zero]
  refine wpAnyH_take (i := 1) (v := ?_) rfl (by kernel_rfl) (by kernel_rfl) (by kernel_rfl) (fun _ _ _ h => h) (Or.inl ⟨by rfl, ?_⟩) (by assumption) ?_
  rotate_left
  · intro wq hSq
    (try dsimp only at hSq)
    have q0 := hSq.2.c 0 rfl
    have q1 := hSq.2.c 1 rfl
    have q2 := hSq.2.c 2 rfl
    have q3 := hSq.2.c 3 rfl
    have q4 := hSq.2.c 4 rfl
    go_simp
    try rfl
  change wpAnyH _ _ _ _ _ _ _ (Act.put _ (some 26) _) _
  simp only [Act.put, List.setIfInBounds_toArray, List.set_cons_succ, List.set_cons_zero]
  refine wpAnyH_take (i := 2) (v := ?_) rfl (by kernel_rfl) (by kernel_rfl) (by kernel_rfl) (fun _ _ _ h => h) (Or.inl ⟨by rfl, ?_⟩) (by assumption) ?_
  rotate_left
  · intro wq hSq
    (try dsimp only at hSq)

    go_simp
    try rfl
  change wpAnyH _ _ _ _ _ _ _ (Act.put _ (some 27) _) _
  simp only [Act.put, List.setIfInBounds_toArray, List.set_cons_succ, List.set_cons_zero]
  refine wpAnyH_take (i := 3) (v := ?_) rfl (by kernel_rfl) (by kernel_rfl) (by kernel_rfl) (fun _ _ _ h => h) (Or.inl ⟨by rfl, ?_⟩) (by assumption) ?_
  rotate_left
  · intro wq hSq
    (try dsimp only at hSq)
    have q0 := hSq.1.c 0 rfl
    go_simp
    try rfl
  change wpAnyH _ _ _ _ _ _ _ (Act.put _ (some 28) _) _
  simp only [Act.put, List.setIfInBounds_toArray, List.set_cons_succ, List.set_cons_zero]
  refine wpAnyH_take (i := 4) (v := ?_) rfl (by kernel_rfl) (by kernel_rfl) (by kernel_rfl) (fun _ _ _ h => h) (Or.inl ⟨by rfl, ?_⟩) (by assumption) ?_
  rotate_left
  · intro wq hSq
    (try dsimp only at hSq)

    go_simp
    try rfl
  change wpAnyH _ _ _ _ _ _ _ (Act.put _ (some 29) _) _
  simp only [Act.put, List.setIfInBounds_toArray, List.set_cons_succ, List.set_cons_zero]
  refine wpAnyH_take (i := 5) (v := ?_) rfl (by kernel_rfl) (by kernel_rfl) (by kernel_rfl) (fun _ _ _ h => h) (Or.inl ⟨by rfl, ?_⟩) (by assumption) ?_
  rotate_left
  · intro wq hSq
    (try dsimp only at hSq)

    go_simp
    try rfl
  change wpAnyH _ _ _ _ _ _ _ (Act.put _ (some 30) _) _
  simp only [Act.put, List.setIfInBounds_toArray, List.set_cons_succ, List.set_cons_zero]
  refine wpAnyH_take (i := 6) (v := undef) rfl (by kernel_rfl) (by kernel_rfl) (by kernel_rfl) (fun _ _ _ h => h) (Or.inr ⟨by rfl, rfl⟩) (by assumption) ?_
  change wpAnyH _ _ _ _ _ _ _ (Act.put _ (some 31) _) _
  simp only [Act.put, List.setIfInBounds_toArray, List.set_cons_succ, List.set_cons_zero]
  refine wpAnyH_take (i := 7) (v := undef) rfl (by kernel_rfl) (by kernel_rfl) (by kernel_rfl) (fun _ _ _ h => h) (Or.inr ⟨by rfl, rfl⟩) (by assumption) ?_
  change wpAnyH _ _ _ _ _ _ _ (Act.put _ (some 32) _) _
  simp only [Act.put, List.setIfInBounds_toArray, List.set_cons_succ, List.set_cons_zero]
  refine wpAnyH_take (i := 8) (v := undef) rfl (by kernel_rfl) (by kernel_rfl) (by kernel_rfl) (fun _ _ _ h => h) (Or.inr ⟨by rfl, rfl⟩) (by assumption) ?_
  change wpAnyH _ _ _ _ _ _ _ (Act.put _ (some 33) _) _
  simp only [Act.put, List.setIfInBounds_toArray, List.set_cons_succ, List.set_cons_zero]
  refine wpAnyH_take (i := 9) (v := ?_) rfl (by kernel_rfl) (by kernel_rfl) (by kernel_rfl) (fun _ _ _ h => h) (Or.inl ⟨by rfl, ?_⟩) (by assumption) ?_
  rotate_left
  · intro wq hSq
    (try dsimp only at hSq)

    go_simp
    try rfl
  change wpAnyH _ _ _ _ _ _ _ (Act.put _ (some 34) _) _
  simp only [Act.put, List.setIfInBounds_toArray, List.set_cons_succ, List.set_cons_zero]
  obtain ⟨w15, e15⟩ : ∃ u, u = ((w3.alloc (.cells #[.int .i64 G.a, .int .i64 G.b, .int .i64 G.c, .int .i64 G.d, .int .i64 G.e] 25)).alloc (.cells #[.int .i64 J.a, .int .i64 J.b, .int .i64 J.c, .int .i64 J.d, .int .i64 J.e] 25)).drew := ⟨_, rfl⟩
  have O15 : Over ((w3.alloc (.cells #[.int .i64 G.a, .int .i64 G.b, .int .i64 G.c, .int .i64 G.d, .int .i64 G.e] 25)).alloc (.cells #[.int .i64 J.a, .int .i64 J.b, .int .i64 J.c, .int .i64 J.d, .int .i64 J.e] 25)) w15 := by rw [e15]; exact over_drew _
  rw [← e15]
  clear e15 hHeld
  replace bP := bP.keep O15
  replace bQ := bQ.keep O15
  replace bR := bR.keep O15
  replace bS := bS.keep O15
  replace B0 := below_step B0 O15
  clear O15
  have r0 := bR.c 0 rfl
  have s0f := bR.f 0 (x := _) rfl
  have t0 := bS.c 0 rfl
  have t0f := bS.f 0 (x := _) rfl
  have r1 := bR.c 1 rfl
  have s1f := bR.f 1 (x := _) rfl
  have t1 := bS.c 1 rfl
  have t1f := bS.f 1 (x := _) rfl
  have r2 := bR.c 2 rfl
  have s2f := bR.f 2 (x := _) rfl
  have t2 := bS.c 2 rfl
  have t2f := bS.f 2 (x := _) rfl
  have r3 := bR.c 3 rfl
  have s3f := bR.f 3 (x := _) rfl
  have t3 := bS.c 3 rfl
  have t3f := bS.f 3 (x := _) rfl
  have r4 := bR.c 4 rfl
  have s4f := bR.f 4 (x := _) rfl
  have t4 := bS.c 4 rfl
  have t4f := bS.f 4 (x := _) rfl
  refine wpAnyH_ready (rs := [10]) (by kernel_rfl) (by simp) ?_
  refine (AllReadyH.cons rfl (fun K hK => ?_) AllReadyH.nil)
  go_simp
  refine hK.out _ _ ⟨((((((bP.far (C := w.heap.size + 1 + 1) (o := 0) (u := .int .i64 G.a) hPR).far (C := w.heap.size + 1 + 1) (o := 1) (u := .int .i64 G.b) hPR).far (C := w.heap.size + 1 + 1) (o := 2) (u := .int .i64 G.c) hPR).far (C := w.heap.size + 1 + 1) (o := 3) (u := .int .i64 G.d) hPR).far (C := w.heap.size + 1 + 1) (o := 4) (u := .int .i64 G.e) hPR)), ((((((bQ.far (C := w.heap.size + 1 + 1) (o := 0) (u := .int .i64 G.a) hQR).far (C := w.heap.size + 1 + 1) (o := 1) (u := .int .i64 G.b) hQR).far (C := w.heap.size + 1 + 1) (o := 2) (u := .int .i64 G.c) hQR).far (C := w.heap.size + 1 + 1) (o := 3) (u := .int .i64 G.d) hQR).far (C := w.heap.size + 1 + 1) (o := 4) (u := .int .i64 G.e) hQR))⟩ (fun _ => ?_)
  clear hK K
  try simp only [Act.put, List.setIfInBounds_toArray, List.set_cons_zero, List.set_cons_succ]
  refine wpAnyH_ready (rs := [11]) (by kernel_rfl) (by simp) ?_
  refine (AllReadyH.cons rfl (fun K hK => ?_) AllReadyH.nil)
  go_simp
  refine hK.out _ _ ⟨((((((((((((bP.far (C := w.heap.size + 1 + 1) (o := 0) (u := .int .i64 G.a) hPR).far (C := w.heap.size + 1 + 1) (o := 1) (u := .int .i64 G.b) hPR).far (C := w.heap.size + 1 + 1) (o := 2) (u := .int .i64 G.c) hPR).far (C := w.heap.size + 1 + 1) (o := 3) (u := .int .i64 G.d) hPR).far (C := w.heap.size + 1 + 1) (o := 4) (u := .int .i64 G.e) hPR)).far (C := w.heap.size + 1 + 1 + 1) (o := 0) (u := .int .i64 J.a) hPS).far (C := w.heap.size + 1 + 1 + 1) (o := 1) (u := .int .i64 J.b) hPS).far (C := w.heap.size + 1 + 1 + 1) (o := 2) (u := .int .i64 J.c) hPS).far (C := w.heap.size + 1 + 1 + 1) (o := 3) (u := .int .i64 J.d) hPS).far (C := w.heap.size + 1 + 1 + 1) (o := 4) (u := .int .i64 J.e) hPS)), ((((((((((((bQ.far (C := w.heap.size + 1 + 1) (o := 0) (u := .int .i64 G.a) hQR).far (C := w.heap.size + 1 + 1) (o := 1) (u := .int .i64 G.b) hQR).far (C := w.heap.size + 1 + 1) (o := 2) (u := .int .i64 G.c) hQR).far (C := w.heap.size + 1 + 1) (o := 3) (u := .int .i64 G.d) hQR).far (C := w.heap.size + 1 + 1) (o := 4) (u := .int .i64 G.e) hQR)).far (C := w.heap.size + 1 + 1 + 1) (o := 0) (u := .int .i64 J.a) hQS).far (C := w.heap.size + 1 + 1 + 1) (o := 1) (u := .int .i64 J.b) hQS).far (C := w.heap.size + 1 + 1 + 1) (o := 2) (u := .int .i64 J.c) hQS).far (C := w.heap.size + 1 + 1 + 1) (o := 3) (u := .int .i64 J.d) hQS).far (C := w.heap.size + 1 + 1 + 1) (o := 4) (u := .int .i64 J.e) hQS))⟩ (fun _ => ?_)
  clear hK K
  try simp only [Act.put, List.setIfInBounds_toArray, List.set_cons_zero, List.set_cons_succ]
  refine wpAnyH_ready (rs := [12]) (by kernel_rfl) (by simp) ?_
  refine (AllReadyH.cons rfl (fun K hK => ?_) AllReadyH.nil)
  go_simp
  refine hK.out _ _ ⟨((((((((((((bP.far (C := w.heap.size + 1 + 1) (o := 0) (u := .int .i64 G.a) hPR).far (C := w.heap.size + 1 + 1) (o := 1) (u := .int .i64 G.b) hPR).far (C := w.heap.size + 1 + 1) (o := 2) (u := .int .i64 G.c) hPR).far (C := w.heap.size + 1 + 1) (o := 3) (u := .int .i64 G.d) hPR).far (C := w.heap.size + 1 + 1) (o := 4) (u := .int .i64 G.e) hPR)).far (C := w.heap.size + 1 + 1 + 1) (o := 0) (u := .int .i64 J.a) hPS).far (C := w.heap.size + 1 + 1 + 1) (o := 1) (u := .int .i64 J.b) hPS).far (C := w.heap.size + 1 + 1 + 1) (o := 2) (u := .int .i64 J.c) hPS).far (C := w.heap.size + 1 + 1 + 1) (o := 3) (u := .int .i64 J.d) hPS).far (C := w.heap.size + 1 + 1 + 1) (o := 4) (u := .int .i64 J.e) hPS)), ((((((((((((bQ.far (C := w.heap.size + 1 + 1) (o := 0) (u := .int .i64 G.a) hQR).far (C := w.heap.size + 1 + 1) (o := 1) (u := .int .i64 G.b) hQR).far (C := w.heap.size + 1 + 1) (o := 2) (u := .int .i64 G.c) hQR).far (C := w.heap.size + 1 + 1) (o := 3) (u := .int .i64 G.d) hQR).far (C := w.heap.size + 1 + 1) (o := 4) (u := .int .i64 G.e) hQR)).far (C := w.heap.size + 1 + 1 + 1) (o := 0) (u := .int .i64 J.a) hQS).far (C := w.heap.size + 1 + 1 + 1) (o := 1) (u := .int .i64 J.b) hQS).far (C := w.heap.size + 1 + 1 + 1) (o := 2) (u := .int .i64 J.c) hQS).far (C := w.heap.size + 1 + 1 + 1) (o := 3) (u := .int .i64 J.d) hQS).far (C := w.heap.size + 1 + 1 + 1) (o := 4) (u := .int .i64 J.e) hQS))⟩ (fun _ => ?_)
  clear hK K
  try simp only [Act.put, List.setIfInBounds_toArray, List.set_cons_zero, List.set_cons_succ]
  refine wpAnyH_done (by kernel_rfl) ?_ _
  have bR2 := ((((((bR.set5 (.int .i64 G.a) (.int .i64 G.b) (.int .i64 G.c) (.int .i64 G.d) (.int .i64 G.e)).far (C := w.heap.size + 1 + 1 + 1) (o := 0) (u := .int .i64 J.a) (by omega)).far (C := w.heap.size + 1 + 1 + 1) (o := 1) (u := .int .i64 J.b) (by omega)).far (C := w.heap.size + 1 + 1 + 1) (o := 2) (u := .int .i64 J.c) (by omega)).far (C := w.heap.size + 1 + 1 + 1) (o := 3) (u := .int .i64 J.d) (by omega)).far (C := w.heap.size + 1 + 1 + 1) (o := 4) (u := .int .i64 J.e) (by omega))
  have bS2 := ((((((bS.far (C := w.heap.size + 1 + 1) (o := 0) (u := .int .i64 G.a) (by omega)).far (C := w.heap.size + 1 + 1) (o := 1) (u := .int .i64 G.b) (by omega)).far (C := w.heap.size + 1 + 1) (o := 2) (u := .int .i64 G.c) (by omega)).far (C := w.heap.size + 1 + 1) (o := 3) (u := .int .i64 G.d) (by omega)).far (C := w.heap.size + 1 + 1) (o := 4) (u := .int .i64 G.e) (by omega))).set5 (.int .i64 J.a) (.int .i64 J.b) (.int .i64 J.c) (.int .i64 J.d) (.int .i64 J.e)
  have B2 := below_set5 (below_set5 B0 (B := w.heap.size + 1 + 1) (by omega) (.int .i64 G.a) (.int .i64 G.b) (.int .i64 G.c) (.int .i64 G.d) (.int .i64 G.e)) (B := w.heap.size + 1 + 1 + 1) (by omega) (.int .i64 J.a) (.int .i64 J.b) (.int .i64 J.c) (.int .i64 J.d) (.int .i64 J.e)
  clear r0 s0f t0 t0f r1 s1f t1 t1f r2 s2f t2 t2f r3 s3f t3 t3f r4 s4f t4 t4f
  clear bR bS B0
  go_wp2
  obtain ⟨W2, hW2⟩ : ∃ W2, W2 = ((((((((((w15.setCell ⟨w.heap.size + 1 + 1, 0, none⟩ (.int .i64 G.a)).setCell ⟨w.heap.size + 1 + 1, 1, none⟩ (.int .i64 G.b)).setCell ⟨w.heap.size + 1 + 1, 2, none⟩ (.int .i64 G.c)).setCell ⟨w.heap.size + 1 + 1, 3, none⟩ (.int .i64 G.d)).setCell ⟨w.heap.size + 1 + 1, 4, none⟩ (.int .i64 G.e)).setCell ⟨w.heap.size + 1 + 1 + 1, 0, none⟩ (.int .i64 J.a)).setCell ⟨w.heap.size + 1 + 1 + 1, 1, none⟩ (.int .i64 J.b)).setCell ⟨w.heap.size + 1 + 1 + 1, 2, none⟩ (.int .i64 J.c)).setCell ⟨w.heap.size + 1 + 1 + 1, 3, none⟩ (.int .i64 J.d)).setCell ⟨w.heap.size + 1 + 1 + 1, 4, none⟩ (.int .i64 J.e)) := ⟨_, rfl⟩
  rw [← hW2] at bR2 bS2 B2 ⊢
  clear hW2
  have r0 := bR2.c 0 rfl
  have t0 := bS2.c 0 rfl
  have r1 := bR2.c 1 rfl
  have t1 := bS2.c 1 rfl
  have r2 := bR2.c 2 rfl
  have t2 := bS2.c 2 rfl
  have r3 := bR2.c 3 rfl
  have t3 := bS2.c 3 rfl
  have r4 := bR2.c 4 rfl
  have t4 := bS2.c 4 rfl
  exact bodyPost_ret (v := .tuple #[.agg #[.int .i64 G.a, .int .i64 G.b, .int .i64 G.c, .int .i64 G.d, .int .i64 G.e], .agg #[.int .i64 J.a, .int .i64 J.b, .int .i64 J.c, .int .i64 J.d, .int .i64 J.e], .bool false]) (by simp [results, Tryd.results4, go_sem, r0, t0, r1, t1, r2, t2, r3, t3, r4, t4]) rfl ⟨rfl, B2⟩
theorem eqSn_sameG (s0 s1 s2 s3 s4 : Int) (w : World) : Calls Tryd.prog 7 #[.agg #[.int .i64 s0, .int .i64 s1, .int .i64 s2, .int .i64 s3, .int .i64 s4], .agg #[.int .i64 s0, .int .i64 s1, .int .i64 s2, .int .i64 s3, .int .i64 s4]] w fun e w' => e = .returned (.bool true) ∧ Below w.heap.size w w' := by
  have q0 : (s0 != s0) = false := by simp
  have q1 : (s1 != s1) = false := by simp
  have q2 : (s2 != s2) = false := by simp
  have q3 : (s3 != s3) = false := by simp
  have q4 : (s4 != s4) = false := by simp
  go_enter Tryd.func7, Tryd.ntmps7
  go_wp2
  go_ret
  exact ⟨rfl, (by repeat' (first | exact Below.refl _ _ | (refine Below.setCell ?_ (by simp <;> omega) _) | (refine Below.alloc ?_ (by simp <;> omega) _) | (refine Below.drew ?_)))⟩
theorem acc_open {aa ai ah ap ba bi bh bp : Int} (ha : cokB aa ai ah ap = true) (hb : cokB ba bi bh bp = true) : accB aa ai ah ap [] [] [] [] 1 ba bh bi 0 0 0 = l4B aa ai ap 1 ba bi := by
  have hm : mokB [] [] [] [] 1 ba bh bi 0 0 0 = true := by
    unfold cokB valO at hb
    simp only [Bool.and_eq_true] at hb
    exact mok_1.mpr ⟨⟨hb.1.1.1, hb.1.1.2, hb.1.2⟩, rfl, rfl, by simp [zA], rfl⟩
  unfold accB
  rw [ha, hm]
  simp
/-- what Greet answers -/
def GrIs (aa ai ah ap ba bi bh bp : Int) (G J : St) (t : Bool) : Prop := t = (cokB aa ai ah ap && cokB ba bi bh bp && (l4B aa ai ap 1 ba bi && l4B ba bi bp 1 aa ai)) ∧ G = gF ah ba bh t ∧ J = gF bh aa ah t
theorem iGreet_t {aa ai ah ap ba bi bh bp : Int} {G J : St} {t : Bool} (u : Value) (w : World) (hu0 : w.cell? ⟨0, 0, none⟩ = some (.iface 122 u)) (hg0 : w.cell? ⟨1, 0, none⟩ = some (.iface 98 (.agg #[.pointer (some ⟨2, 62, none⟩)]))) (H : Hid (GrIs aa ai ah ap ba bi bh bp G J t)) :
    Calls Tryd.prog 6 #[.agg #[.int .i64 aa, .int .i64 ai, .int .i64 ah, .int .i64 ap], .agg #[.int .i64 ba, .int .i64 bi, .int .i64 bh, .int .i64 bp]] w fun e w' => e = .returned (.tuple #[.agg #[.int .i64 G.a, .int .i64 G.b, .int .i64 G.c, .int .i64 G.d, .int .i64 G.e], .agg #[.int .i64 J.a, .int .i64 J.b, .int .i64 J.c, .int .i64 J.d, .int .i64 J.e], .bool t]) ∧ Below w.heap.size w w' := by
  obtain ⟨ht, hG, hJ⟩ := H.out
  by_cases ha : cokB aa ai ah ap = true
  · by_cases hb : cokB ba bi bh bp = true
    · rw [ha, hb, ← acc_open ha hb, ← acc_open hb ha] at ht
      simp only [Bool.true_and] at ht
      cases t
      · exact iGreet_false aa ai ah ap ba bi bh bp u w hu0 hg0 (Lib.hid ha) (Lib.hid hb) _ _ rfl rfl ht G J hG hJ
      · exact iGreet_true aa ai ah ap ba bi bh bp u w hu0 hg0 (Lib.hid ha) (Lib.hid hb) _ _ rfl rfl ht G J hG hJ
    · have hb := eq_false_of_ne_true hb
      rw [ha, hb] at ht
      obtain rfl : t = false := by simpa using ht
      subst hG hJ
      exact iGreet_noB aa ai ah ap ba bi bh bp u w (Lib.hid ha) (Lib.hid hb)
  · have ha := eq_false_of_ne_true ha
    rw [ha] at ht
    obtain rfl : t = false := by simpa using ht
    subst hG hJ
    exact iGreet_noA aa ai ah ap ba bi bh bp u w (Lib.hid ha)
theorem sGreet_t {aa ai ah ap ba bi bh bp : Int} {G J : St} {t : Bool} (w : World) (hsz : 1 < w.heap.size) (H : Hid (GrIs aa ai ah ap ba bi bh bp G J t)) :
    Calls Tryd.prog 4 #[.agg #[.int .i64 aa, .int .i64 ai, .int .i64 ah, .int .i64 ap], .agg #[.int .i64 ba, .int .i64 bi, .int .i64 bh, .int .i64 bp]] w fun e w' => e = .returned (.tuple #[.agg #[.int .i64 G.a, .int .i64 G.b, .int .i64 G.c, .int .i64 G.d, .int .i64 G.e], .agg #[.int .i64 J.a, .int .i64 J.b, .int .i64 J.c, .int .i64 J.d, .int .i64 J.e], .bool t]) ∧ Below w.heap.size w w' := by
  obtain ⟨ht, hG, hJ⟩ := H.out
  by_cases ha : cokB aa ai ah ap = true
  · by_cases hb : cokB ba bi bh bp = true
    · rw [ha, hb] at ht
      simp only [Bool.true_and] at ht
      cases t
      · exact sGreet_false aa ai ah ap ba bi bh bp w hsz (Lib.hid ha) (Lib.hid hb) _ _ rfl rfl ht G J hG hJ
      · exact sGreet_true aa ai ah ap ba bi bh bp w hsz (Lib.hid ha) (Lib.hid hb) _ _ rfl rfl ht G J hG hJ
    · have hb := eq_false_of_ne_true hb
      rw [ha, hb] at ht
      obtain rfl : t = false := by simpa using ht
      subst hG hJ
      exact sGreet_noB aa ai ah ap ba bi bh bp w (Lib.hid ha) (Lib.hid hb)
  · have ha := eq_false_of_ne_true ha
    rw [ha] at ht
    obtain rfl : t = false := by simpa using ht
    subst hG hJ
    exact sGreet_noA aa ai ah ap ba bi bh bp w (Lib.hid ha)
/-- what a region leaves that keeps an answer of Greet -/
def KeptG (V wx : World) (G J : St) (t : Bool) (a b c : Value) : Prop := ∃ P Q, a = .pointer (some ⟨P, 0, none⟩) ∧ b = .pointer (some ⟨Q, 0, none⟩) ∧ c = .bool t ∧ Over V wx ∧ Bl wx P [.int .i64 G.a, .int .i64 G.b, .int .i64 G.c, .int .i64 G.d, .int .i64 G.e] ∧ Bl wx Q [.int .i64 J.a, .int .i64 J.b, .int .i64 J.c, .int .i64 J.d, .int .i64 J.e]
end Go.Proofs.YtnklnibjlhnicaaRRRRDoor
