/-
  Marks on the messages that a step sends, and on an event. Conditions: those in each contract.
-/
import Derived.Test.YtaffcicgljoajaaGreatDoorS6
import Derived.Test.YtaffcicgljoajaaGreatDoorS23
namespace Go.Proofs.YtaffcicgljoajaaGreatDoor
open Go.ChangeShapes Go.WideShapes Go.ChangeAt Go.RowKit Go.BigFrame Go.Joins
set_option linter.unusedVariables false
set_option maxRecDepth 100000
set_option linter.unusedSimpArgs false

set_option maxHeartbeats 2000000 in
theorem markGS (v : Value) (l : List Bm) (lo hi : Nat) (w : World) (h : GM w lo hi v l) : Calls Tryz.prog 24 #[v, .int .i64 1] w fun e w' => ∃ k : Int, e = .returned (.int .i64 k) ∧ 1 ≤ k ∧ Mid lo hi w w' ∧ Mk w' lo hi v k := by
  rcases h with ⟨rfl, a, c, rfl⟩ | ⟨m, g, c, rfl, rfl, h1, h2, hB⟩
  · go_enter Tryz.func24, Tryz.ntmps24
    go_wp2
    refine wp_loop_rounds 1 ?_
    rw [rounds_succ]
    go_wp2
    go_ret
    exact ⟨1, rfl, by decide, Mid.below (Below.refl _ _), .inl ⟨rfl, a, c, rfl⟩⟩
  · have H12 := Lib.hid (And.intro h1 h2)
    clear h1 h2
    have x0 := hB.c 0 rfl
    have y0 := hB.f 0 (x := _) rfl
    have x1 := hB.c 1 rfl
    have y1 := hB.f 1 (x := _) rfl
    have x2 := hB.c 2 rfl
    have y2 := hB.f 2 (x := _) rfl
    have x3 := hB.c 3 rfl
    have y3 := hB.f 3 (x := _) rfl
    have x4 := hB.c 4 rfl
    have y4 := hB.f 4 (x := _) rfl
    have x5 := hB.c 5 rfl
    have y5 := hB.f 5 (x := _) rfl
    have x6 := hB.c 6 rfl
    have y6 := hB.f 6 (x := _) rfl
    have x7 := hB.c 7 rfl
    have y7 := hB.f 7 (x := _) rfl
    have x8 := hB.c 8 rfl
    have y8 := hB.f 8 (x := _) rfl
    have x9 := hB.c 9 rfl
    have y9 := hB.f 9 (x := _) rfl
    have x10 := hB.c 10 rfl
    have y10 := hB.f 10 (x := _) rfl
    go_enter Tryz.func24, Tryz.ntmps24
    go_wp2
    refine wp_loop_rounds 2 ?_
    rw [rounds_succ]
    go_wp2_with fail
    refine (markPrefixS_0 5 _).mono ?_
    rintro e w1 ⟨rfl, rfl⟩
    go_wp2_with fail
    refine (markPrefixS_0 5 _).mono ?_
    rintro e w1 ⟨rfl, rfl⟩
    go_wp2_with fail
    refine (markIntS_0 5 _).mono ?_
    rintro e w1 ⟨rfl, rfl⟩
    go_wp2_with fail
    refine (markIntS_0 6 _).mono ?_
    rintro e w1 ⟨rfl, rfl⟩
    go_wp2
    clear x0 y0 x1 y1 x2 y2 x3 y3 x4 y4 x5 y5 x6 y6 x7 y7 x8 y8 x9 y9 x10 y10
    rw [rounds_succ]
    go_wp2
    go_ret
    have hB2 := (((((((hB.set 0 (.int .i64 1)).set 1 (.int .i64 2)).set 2 (.int .i64 3)).set 3 (.int .i64 4)).set 7 (.int .i64 5)).set 9 (.int .i64 6)).set 10 (.int .i64 7))
    simp only [Bm.cells, List.set_cons_zero, List.set_cons_succ] at hB2
    have hM := (Mid.trans ((Mid.trans ((Mid.trans ((Mid.trans ((Mid.trans ((Mid.trans (Mid.set (w := w) (B := g) (o := 0) (.int .i64 1)) (Mid.set (o := 1) (.int .i64 2)))) (Mid.set (o := 2) (.int .i64 3)))) (Mid.set (o := 3) (.int .i64 4)))) (Mid.set (o := 7) (.int .i64 5)))) (Mid.set (o := 9) (.int .i64 6)))) (Mid.set (o := 10) (.int .i64 7)))
    exact ⟨8, rfl, by decide, ⟨hM.os, hM.tape, hM.output, hM.size, fun i hi hc => hM.block i hi (by have := H12.out; omega)⟩, .inr ⟨g, c, rfl, rfl, H12.out.1, H12.out.2, hB2⟩⟩
set_option maxHeartbeats 2000000 in
theorem heldGS (v : Value) (k : Int) (lo hi : Nat) (w : World) (h : Mk w lo hi v k) : Calls Tryz.prog 25 #[v, .int .i64 1] w fun e w' => e = .returned (.int .i64 k) ∧ w = w' := by
  rcases h with ⟨rfl, a, c, rfl⟩ | ⟨g, c, rfl, rfl, -, -, hB⟩
  · go_enter Tryz.func25, Tryz.ntmps25
    go_wp2
    refine wp_loop_rounds 1 ?_
    rw [rounds_succ]
    go_wp2
    go_ret
    exact ⟨rfl, rfl⟩
  · have x0 := hB.c 0 rfl
    have x1 := hB.c 1 rfl
    have x2 := hB.c 2 rfl
    have x3 := hB.c 3 rfl
    have x4 := hB.c 4 rfl
    have x5 := hB.c 5 rfl
    have x6 := hB.c 6 rfl
    have x7 := hB.c 7 rfl
    have x8 := hB.c 8 rfl
    have x9 := hB.c 9 rfl
    have x10 := hB.c 10 rfl
    go_enter Tryz.func25, Tryz.ntmps25
    go_wp2
    refine wp_loop_rounds 2 ?_
    rw [rounds_succ]
    go_wp2_with fail
    refine (heldPrefixS_0 5 _).mono ?_
    rintro e w1 ⟨rfl, rfl⟩
    go_wp2_with fail
    refine (heldPrefixS_0 5 _).mono ?_
    rintro e w1 ⟨rfl, rfl⟩
    go_wp2_with fail
    refine (heldIntS_0 5 _).mono ?_
    rintro e w1 ⟨rfl, rfl⟩
    go_wp2_with fail
    refine (heldIntS_0 6 _).mono ?_
    rintro e w1 ⟨rfl, rfl⟩
    go_wp2
    clear x0 x1 x2 x3 x4 x5 x6 x7 x8 x9 x10
    rw [rounds_succ]
    go_wp2
    go_ret
    exact ⟨rfl, rfl⟩
theorem markEv_any (gv cv pv mv : Value) (gs cs : List (Int × Int)) (ps ms : List Int) (ek ee kn sa ho ix pr bw er : Int) (base N : Nat) (w : World) (hG : OwnP w base gv gs) (hC : OwnP w base cv cs) (hP : OwnI w base pv ps) (hM : OwnI w base mv ms)
    (gc : Apart gv cv) (gp : Apart gv pv) (gm : Apart gv mv) (cp : Apart cv pv) (cm : Apart cv mv) (pm : Apart pv mv) (hb : base ≤ w.heap.size) (hN : N ≤ w.heap.size)
    (nG : ∀ k, gv.ownBlock = some k → k < N) (nC : ∀ k, cv.ownBlock = some k → k < N) (nP : ∀ k, pv.ownBlock = some k → k < N) (nM : ∀ k, mv.ownBlock = some k → k < N)
    (l0 : gs.length ≤ 1048576) (l1 : cs.length ≤ 1048576) (l2 : ps.length ≤ 1048576) (l3 : ms.length ≤ 1048576) :
    Calls Tryz.prog 23 #[.agg #[.int .i64 ek, .int .i64 kn, .int .i64 sa, .int .i64 ho, .int .i64 ix, gv, cv, pv, .int .i64 pr, mv, .int .i64 bw, .int .i64 er, .int .i64 ee], .int .i64 1] w fun e w' => ∃ k : Int, e = .returned (.int .i64 k) ∧ 0 ≤ k ∧ Mid base N w w' := by
  obtain ⟨bA, B0, z⟩ := one w [.int .i64 ek, .int .i64 kn, .int .i64 sa, .int .i64 ho, .int .i64 ix, gv, cv, pv, .int .i64 pr, mv, .int .i64 bw, .int .i64 er, .int .i64 ee] 34
  have hs := B0.size
  have x0 := bA.c 0 rfl
  have x1 := bA.c 1 rfl
  have x2 := bA.c 2 rfl
  have x3 := bA.c 3 rfl
  have x4 := bA.c 4 rfl
  have x5 := bA.c 5 rfl
  have x6 := bA.c 6 rfl
  have x7 := bA.c 7 rfl
  have x8 := bA.c 8 rfl
  have x9 := bA.c 9 rfl
  have x10 := bA.c 10 rfl
  have x11 := bA.c 11 rfl
  have x12 := bA.c 12 rfl
  have HG := Lib.hid (hG.keep B0)
  have HC := Lib.hid (hC.keep B0)
  have HP := Lib.hid (hP.keep B0)
  have HM := Lib.hid (hM.keep B0)
  have NG := Lib.hid nG
  have NC := Lib.hid nC
  have NP := Lib.hid nP
  have NM := Lib.hid nM
  have HB := Lib.hid (And.intro (Nat.le_trans hb hs) (Nat.le_trans hN hs))
  have HL := Lib.hid (And.intro (And.intro l0 l1) (And.intro l2 l3))
  have MB : Mid base N w _ := Mid.below B0
  clear hG hC hP hM nG nC nP nM hb hN l0 l1 l2 l3 z hs
  go_enter Tryz.func23, Tryz.ntmps23
  go_wp2_with fail
  clear x0 x1 x2 x3 x4 x5 x6 x7 x8 x9 x10 x11 x12
  refine (markM_any gv cv pv mv gs cs ps ms kn sa ho ix pr bw er base N _ HG.out HC.out HP.out HM.out gc gp gm cp cm pm HB.out.1 HB.out.2 NG.out NC.out NP.out NM.out HL.out.1.1 HL.out.1.2 HL.out.2.1 HL.out.2.2).mono ?_
  rintro e w1 ⟨k, rfl, hk, hm⟩
  have MM := MB.trans hm
  clear hm MB bA B0
  have HK := Lib.hid hk
  clear hk
  go_wp2
  go_ret
  exact ⟨k, rfl, HK.out, MM⟩
end Go.Proofs.YtaffcicgljoajaaGreatDoor
