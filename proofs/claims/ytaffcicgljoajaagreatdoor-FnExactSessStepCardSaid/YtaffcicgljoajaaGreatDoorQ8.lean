/-
  A message is marked: what else lies in memory. Conditions: those in each contract.
-/
import Derived.Test.YtaffcicgljoajaaGreatDoorQ7
namespace Go.Proofs.YtaffcicgljoajaaGreatDoor
open Go.ChangeShapes Go.WideShapes Go.ChangeAt Go.RowKit Go.BigFrame
set_option linter.unusedVariables false
set_option maxRecDepth 100000
set_option linter.unusedSimpArgs false

/-- the rows of an attribute are marked: no other block turns -/
theorem markA_rows (pv cv : Value) (p c : List Int) (pr bw k : Int) (base : Nat) (w : World) (hp : OwnI w base pv p) (hc : OwnI w base cv c) (hap : Apart pv cv) (hb : base ≤ w.heap.size) (hk0 : 0 ≤ k) (hk : k + p.length + c.length ≤ 4294967296) :
    Calls Tryz.prog 80 #[.agg #[pv, .int .i64 pr, cv, .int .i64 bw], .int .i64 k] w fun e w' => e = .returned (.int .i64 (k + p.length + c.length)) ∧
      ∃ o wm, (w.alloc o).grownBy wm pv.ownBlock ∧ wm.grownBy w' cv.ownBlock := by
  have bA := Bx.new w pv (.int .i64 pr) cv (.int .i64 bw) 30 w.heap.size rfl
  have hp1 := hp.alloc (.cells #[pv, .int .i64 pr, cv, .int .i64 bw] 30)
  have hc1 := hc.alloc (.cells #[pv, .int .i64 pr, cv, .int .i64 bw] 30)
  have hpl := fun k h => (World.ownsRow.lt hp k h)
  go_enter Tryz.func80, Tryz.ntmps80
  go_wp2_with fail
  refine (markB_any_I _ p base _ _ hp1 hk0 (by omega)).mono ?_
  rintro e w1 ⟨rfl, hp2, hg1⟩
  replace hc1 := hc1.kept hg1 hap.2
  replace bA := bA.grown hg1 (fun h => by have := (hpl _ h.symm).2; omega)
  have a2 := bA.c2
  have HG := Lib.hid hg1
  clear hg1 hp1
  go_wp2_with fail
  refine (markB_any_I _ c base _ _ hc1 (by omega) (by omega)).mono ?_
  rintro e w2 ⟨rfl, hc2, hg2⟩
  have HG2 := Lib.hid hg2
  clear hg2 hc1 a2 bA
  go_wp2
  go_ret
  exact ⟨rfl, _, _, HG.out, HG2.out⟩

theorem Mid.alloc {base N : Nat} (w : World) (o : Obj) : Mid base N w (w.alloc o) := Mid.of_grown (row := none) (grown_alloc (World.grownBy.refl w none) o) (fun k h => by cases h)
theorem markM_any (gv cv pv mv : Value) (gs cs : List (Int × Int)) (ps ms : List Int) (kn sa ho ix pr bw er : Int) (base N : Nat) (w : World) (hG : OwnP w base gv gs) (hC : OwnP w base cv cs) (hP : OwnI w base pv ps) (hM : OwnI w base mv ms)
    (gc : Apart gv cv) (gp : Apart gv pv) (gm : Apart gv mv) (cp : Apart cv pv) (cm : Apart cv mv) (pm : Apart pv mv) (hb : base ≤ w.heap.size) (hN : N ≤ w.heap.size)
    (nG : ∀ k, gv.ownBlock = some k → k < N) (nC : ∀ k, cv.ownBlock = some k → k < N) (nP : ∀ k, pv.ownBlock = some k → k < N) (nM : ∀ k, mv.ownBlock = some k → k < N)
    (l0 : gs.length ≤ 1048576) (l1 : cs.length ≤ 1048576) (l2 : ps.length ≤ 1048576) (l3 : ms.length ≤ 1048576) :
    Calls Tryz.prog 50 #[.agg #[.int .i64 kn, .int .i64 sa, .int .i64 ho, .int .i64 ix, gv, cv, pv, .int .i64 pr, mv, .int .i64 bw, .int .i64 er], .int .i64 1] w fun e w' => ∃ k : Int, e = .returned (.int .i64 k) ∧ 0 ≤ k ∧ Mid base N w w' := by
  obtain ⟨bA, B0, z⟩ := one w [.int .i64 kn, .int .i64 sa, .int .i64 ho, .int .i64 ix, gv, cv, pv, .int .i64 pr, mv, .int .i64 bw, .int .i64 er] 32
  have HG := Lib.hid (fun k h => And.intro (World.ownsRow.lt hG k h).1 (nG k h))
  have HC := Lib.hid (fun k h => And.intro (World.ownsRow.lt hC k h).1 (nC k h))
  have HP := Lib.hid (fun k h => And.intro (World.ownsRow.lt hP k h).1 (nP k h))
  have HM := Lib.hid (fun k h => And.intro (World.ownsRow.lt hM k h).1 (nM k h))
  have neG : some w.heap.size ≠ gv.ownBlock := fun e => by have := nG _ e.symm; omega
  have neC : some w.heap.size ≠ cv.ownBlock := fun e => by have := nC _ e.symm; omega
  have m0 : Mid base N w (w.alloc (.cells #[.int .i64 kn, .int .i64 sa, .int .i64 ho, .int .i64 ix, gv, cv, pv, .int .i64 pr, mv, .int .i64 bw, .int .i64 er] 32)) := Mid.alloc w _
  have hbs : base ≤ (w.alloc (.cells #[.int .i64 kn, .int .i64 sa, .int .i64 ho, .int .i64 ix, gv, cv, pv, .int .i64 pr, mv, .int .i64 bw, .int .i64 er] 32)).heap.size := Nat.le_trans hb B0.size
  replace hG := hG.keep B0
  replace hC := hC.keep B0
  replace hP := hP.keep B0
  replace hM := hM.keep B0
  have E1 := Lib.hid (And.intro neG neC)
  have a5 := bA.c 5 rfl
  clear nG nC nP nM B0 z neG neC
  go_enter Tryz.func50, Tryz.ntmps50
  go_wp2_with fail
  refine (markP_any _ gs base _ _ hG (by decide) (by omega)).mono ?_
  rintro e w1 ⟨rfl, -, g1⟩
  have m1 := m0.trans (Mid.of_grown g1 HG.out)
  have bA1 := bA.grown g1 E1.out.1
  replace hC := hC.kept g1 gc.2
  replace hP := hP.kept g1 gp.2
  replace hM := hM.kept g1 gm.2
  have hb1 := Nat.le_trans hbs g1.size
  clear g1 hG m0 a5 bA
  have b5 := bA1.c 5 rfl
  go_wp2_with fail
  refine (markP_any _ cs base _ _ hC (by omega) (by omega)).mono ?_
  rintro e w2 ⟨rfl, -, g2⟩
  have m2 := m1.trans (Mid.of_grown g2 HC.out)
  have bA2 := bA1.grown g2 E1.out.2
  replace hP := hP.kept g2 cp.2
  replace hM := hM.kept g2 cm.2
  have hb2 := Nat.le_trans hb1 g2.size
  clear g2 hC m1 b5 bA1
  have c6 := bA2.c 6 rfl
  have c7 := bA2.c 7 rfl
  have c8 := bA2.c 8 rfl
  have c9 := bA2.c 9 rfl
  go_wp2_with fail
  refine (markA_rows _ _ ps ms pr bw _ base _ hP hM pm hb2 (by omega) (by omega)).mono ?_
  rintro e w3 ⟨rfl, o, wm, g3, g4⟩
  have m3 := m2.trans ((Mid.alloc w2 o).trans ((Mid.of_grown g3 HP.out).trans (Mid.of_grown g4 HM.out)))
  have HM3 := Lib.hid m3
  have hnn : (0 : Int) ≤ 1 + (gs.length : Int) * 2 + (cs.length : Int) * 2 + (ps.length : Int) + (ms.length : Int) := by omega
  have HNN := Lib.hid hnn
  clear g3 g4 m2 m3 bA2 c6 c7 c8 c9 hP hM hnn
  go_wp2
  go_ret
  exact ⟨_, rfl, by first | exact HNN.out | (have := HNN.out; omega), HM3.out⟩
end Go.Proofs.YtaffcicgljoajaaGreatDoor
