/-
  The law 'FnExactMsgBytes' returns true for every input, and its arguments read afterwards as before: the given statement 'Rows.FnExactMsgBytesSaid'. No condition.
-/
import Derived.Test.YthecdnfloahoaaaO1
import Derived.Test.YthecdnfloahoaaaQ9
namespace Go.Proofs.Ythecdnfloahoaaa.fnExactMsgBytes
open Go.ChangeShapes Go.WideShapes Go.ChangeAt Go.RowKit Go.Proofs.Ythecdnfloahoaaa
set_option linter.unusedVariables false
set_option maxRecDepth 100000
set_option maxHeartbeats 4000000 in
theorem walk (W : World) (v0 : Value) (w0 : Is_Msg W v0) :
    Calls Try.prog 6 #[v0] W fun e w' => e = .returned (.bool true) ∧ Below W.heap.size W w' := by
  obtain ⟨gv, cv, pv, mv, gs, cs, ps, ms, kn, sa, ho, ix, pr, bw, er, rfl, hg, hc, hp, hm⟩ := w0
  obtain ⟨ga, gx, rfl⟩ := hg.len
  obtain ⟨ca, cx, rfl⟩ := hc.len
  obtain ⟨pa, px, rfl⟩ := hp.len
  obtain ⟨ma, mx, rfl⟩ := hm.len
  obtain ⟨bA, B0, z⟩ := one W [.int .i64 kn, .int .i64 sa, .int .i64 ho, .int .i64 ix, .slice ga gs.length gx, .slice ca cs.length cx, .slice pa ps.length px, .int .i64 pr, .slice ma ms.length mx, .int .i64 bw, .int .i64 er] 49
  replace hg := hg.keep B0
  replace hc := hc.keep B0
  replace hp := hp.keep B0
  replace hm := hm.keep B0
  clear z
  obtain ⟨t, ht⟩ : ∃ t, mokB gs cs ps ms kn sa ho ix pr bw er = t := ⟨_, rfl⟩
  obtain ⟨L, hL⟩ : ∃ L, mbL gs cs ps ms kn sa ho ix pr bw er = L := ⟨_, rfl⟩
  have hLn : L.length ≤ 100 := by rw [← hL]; exact mbL_len _ _ _ _ _ _ _ _ _ _ _
  have hLb : ∀ x ∈ L, 0 ≤ x ∧ x ≤ 255 := by rw [← hL]; exact mbL_bd _ _ _ _ _ _ _ _ _ _ _
  have HT := Lib.hid ht
  have HL := Lib.hid hL
  have HLB := Lib.hid hLb
  have htt : (t != t) = false := by simp
  clear ht hL hLb
  go_enter Try.func6, Try.ntmps6
  go_wp2_with fail
  refine (szM_any _ _ _ _ gs cs ps ms kn sa ho ix pr bw er _ hg hc hp hm).mono ?_
  rintro e w1 ⟨r, rfl, hlen, hb⟩
  replace bA := bA.keep hb
  replace hg := hg.keep hb
  replace hc := hc.keep hb
  replace hp := hp.keep hb
  replace hm := hm.keep hb
  replace B0 := below_step B0 hb
  clear hb
  by_cases hr : r < 0
  · clear hlen
    go_wp2
    go_ret
    exact ⟨rfl, B0⟩
  obtain ⟨l0, l1, l2, l3⟩ := hlen hr
  have L0 := Lib.hid l0
  have L1 := Lib.hid l1
  have L2 := Lib.hid l2
  have L3 := Lib.hid l3
  clear hlen l0 l1 l2 l3
  have fa0 := bA.c 0 rfl
  have fa1 := bA.c 1 rfl
  have fa2 := bA.c 2 rfl
  have fa3 := bA.c 3 rfl
  have fa4 := bA.c 4 rfl
  have fa5 := bA.c 5 rfl
  have fa6 := bA.c 6 rfl
  have fa7 := bA.c 7 rfl
  have fa8 := bA.c 8 rfl
  have fa9 := bA.c 9 rfl
  have fa10 := bA.c 10 rfl
  go_wp2_with fail
  clear fa0 fa1 fa2 fa3 fa4 fa5 fa6 fa7 fa8 fa9 fa10
  refine (toM_any _ _ _ _ gs cs ps ms kn sa ho ix pr bw er _ hg hc hp hm L0.out L1.out L2.out L3.out).mono ?_
  rintro e w2 ⟨g2, gx2, c2, cx2, p2, px2, m2, mx2, rfl, hG2, hC2, hP2, hM2, ap20, ap21, ap22, ap23, ap24, ap25, hb⟩
  replace bA := bA.keep hb
  replace hg := hg.keep hb
  replace hc := hc.keep hb
  replace hp := hp.keep hb
  replace hm := hm.keep hb
  replace B0 := below_step B0 hb
  clear hb
  have fa0 := bA.c 0 rfl
  have fa1 := bA.c 1 rfl
  have fa2 := bA.c 2 rfl
  have fa3 := bA.c 3 rfl
  have fa4 := bA.c 4 rfl
  have fa5 := bA.c 5 rfl
  have fa6 := bA.c 6 rfl
  have fa7 := bA.c 7 rfl
  have fa8 := bA.c 8 rfl
  have fa9 := bA.c 9 rfl
  have fa10 := bA.c 10 rfl
  go_wp2_with fail
  clear fa0 fa1 fa2 fa3 fa4 fa5 fa6 fa7 fa8 fa9 fa10
  refine (smb_all _ _ _ _ _ _ _ _ gs cs ps ms kn sa ho ix pr bw er _ hG2.rd hC2.rd (hP2.rd hp.1) (hM2.rd hm.1) L2.out L3.out).mono ?_
  rw [HT.out, HL.out]
  rintro e w3 ⟨uw, rfl, how, hb⟩
  clear hG2 hC2 hP2 hM2 ap20 ap21 ap22 ap23 ap24 ap25
  replace bA := bA.keep hb
  replace hg := hg.keep hb
  replace hc := hc.keep hb
  replace hp := hp.keep hb
  replace hm := hm.keep hb
  replace B0 := below_step B0 hb
  clear hb
  obtain ⟨xw, cw, rfl, -⟩ := Own.cap how
  have RS := Own.rd how HLB.out
  have oS : Over w3 w3 := over_refl _
  clear how
  have fa0 := bA.c 0 rfl
  have fa1 := bA.c 1 rfl
  have fa2 := bA.c 2 rfl
  have fa3 := bA.c 3 rfl
  have fa4 := bA.c 4 rfl
  have fa5 := bA.c 5 rfl
  have fa6 := bA.c 6 rfl
  have fa7 := bA.c 7 rfl
  have fa8 := bA.c 8 rfl
  have fa9 := bA.c 9 rfl
  have fa10 := bA.c 10 rfl
  go_wp2_with fail
  clear fa0 fa1 fa2 fa3 fa4 fa5 fa6 fa7 fa8 fa9 fa10
  refine (toM_any _ _ _ _ gs cs ps ms kn sa ho ix pr bw er _ hg hc hp hm L0.out L1.out L2.out L3.out).mono ?_
  rintro e w4 ⟨g4, gx4, c4, cx4, p4, px4, m4, mx4, rfl, hG4, hC4, hP4, hM4, ap40, ap41, ap42, ap43, ap44, ap45, hb⟩
  replace oS := over_step oS hb
  clear hb
  have n4 : ∀ {v : Value}, (∀ k, v.ownBlock = some k → k < w4.heap.size) → ∀ k, v.ownBlock = some k → k < w4.heap.size + 1 := fun h k hk => Nat.lt_succ_of_lt (h k hk)
  have nG := Lib.hid (n4 fun k h => (World.ownsRow.lt hG4 k h).2)
  have nC := Lib.hid (n4 fun k h => (World.ownsRow.lt hC4 k h).2)
  have nP := Lib.hid (n4 fun k h => (World.ownsRow.lt hP4 k h).2)
  have nM := Lib.hid (n4 fun k h => (World.ownsRow.lt hM4 k h).2)
  clear n4
  have bW := bA.keep oS
  have fa0 := bW.c 0 rfl
  have fa1 := bW.c 1 rfl
  have fa2 := bW.c 2 rfl
  have fa3 := bW.c 3 rfl
  have fa4 := bW.c 4 rfl
  have fa5 := bW.c 5 rfl
  have fa6 := bW.c 6 rfl
  have fa7 := bW.c 7 rfl
  have fa8 := bW.c 8 rfl
  have fa9 := bW.c 9 rfl
  have fa10 := bW.c 10 rfl
  go_wp2_with fail
  clear fa0 fa1 fa2 fa3 fa4 fa5 fa6 fa7 fa8 fa9 fa10
  obtain ⟨bX, hb, z⟩ := one w4 [.int .i64 kn, .int .i64 sa, .int .i64 ho, .int .i64 ix, .slice g4 gs.length gx4, .slice c4 cs.length cx4, .slice p4 ps.length px4, .int .i64 pr, .slice m4 ms.length mx4, .int .i64 bw, .int .i64 er] 41
  have HZ := Lib.hid z
  clear z bW
  replace hG4 := hG4.keep hb
  replace hC4 := hC4.keep hb
  replace hP4 := hP4.keep hb
  replace hM4 := hM4.keep hb
  replace oS := over_step oS hb
  clear hb
  have sG := oS.size
  refine (imbx_all _ _ _ _ _ _ _ _ gs cs ps ms kn sa ho ix pr bw er _ hG4.rd hC4.rd (hP4.rd hp.1) (hM4.rd hm.1)).mono ?_
  rw [HT.out, HL.out]
  rintro e w5 ⟨ug, rfl, hog, hb⟩
  rw [HZ.out] at hog sG
  obtain ⟨xg, cg, rfl, -⟩ := Own.cap hog
  replace bX := bX.keep hb
  replace hG4 := hG4.keep hb
  replace hC4 := hC4.keep hb
  replace hP4 := hP4.keep hb
  replace hM4 := hM4.keep hb
  replace oS := over_step oS hb
  have sB := hb.size
  rw [HZ.out] at sB
  clear hb
  obtain ⟨X, eX⟩ : ∃ X, X = w4.heap.size := ⟨_, rfl⟩
  rw [← eX] at bX hog sG sB nG nC nP nM ⊢
  clear eX HZ
  have bW := bA.keep oS
  have fa0 := bW.c 0 rfl
  have fa1 := bW.c 1 rfl
  have fa2 := bW.c 2 rfl
  have fa3 := bW.c 3 rfl
  have fa4 := bW.c 4 rfl
  have fa5 := bW.c 5 rfl
  have fa6 := bW.c 6 rfl
  have fa7 := bW.c 7 rfl
  have fa8 := bW.c 8 rfl
  have fa9 := bW.c 9 rfl
  have fa10 := bW.c 10 rfl
  go_wp2_with fail
  clear fa0 fa1 fa2 fa3 fa4 fa5 fa6 fa7 fa8 fa9 fa10
  have oT : Over w5 w5 := over_refl _
  have RW := RS.keep oS
  refine (eqB_same _ _ L _ (Own.rd hog HLB.out) RW).mono ?_
  rintro e w6 ⟨rfl, hb⟩
  clear RW bW
  replace bX := bX.keep hb
  replace hG4 := hG4.keep hb
  replace hC4 := hC4.keep hb
  replace hP4 := hP4.keep hb
  replace hM4 := hM4.keep hb
  replace hog := hog.keep hb
  replace oT := over_step oT hb
  replace oS := over_step oS hb
  clear hb
  have bW := bA.keep oS
  have HGS := Lib.hid (hg.keep oS)
  have HCS := Lib.hid (hc.keep oS)
  have HPS := Lib.hid (hp.keep oS)
  have HMS := Lib.hid (hm.keep oS)
  go_wp2_with fail
  go_region_held3 (fun w' => Over w6 w' ∧ w'.cell? ⟨W.heap.size, 0, none⟩ = some (.int .i64 kn) ∧ w'.cell? ⟨W.heap.size, 1, none⟩ = some (.int .i64 sa) ∧ w'.cell? ⟨W.heap.size, 2, none⟩ = some (.int .i64 ho) ∧ w'.cell? ⟨W.heap.size, 3, none⟩ = some (.int .i64 ix) ∧ w'.cell? ⟨W.heap.size, 4, none⟩ = some (.slice ga gs.length gx) ∧ w'.cell? ⟨W.heap.size, 5, none⟩ = some (.slice ca cs.length cx) ∧ w'.cell? ⟨W.heap.size, 6, none⟩ = some (.slice pa ps.length px) ∧ w'.cell? ⟨W.heap.size, 7, none⟩ = some (.int .i64 pr) ∧ w'.cell? ⟨W.heap.size, 8, none⟩ = some (.slice ma ms.length mx) ∧ w'.cell? ⟨W.heap.size, 9, none⟩ = some (.int .i64 bw) ∧ w'.cell? ⟨W.heap.size, 10, none⟩ = some (.int .i64 er) ∧ w'.cell? ⟨X, 0, none⟩ = some (.int .i64 kn) ∧ w'.cell? ⟨X, 1, none⟩ = some (.int .i64 sa) ∧ w'.cell? ⟨X, 2, none⟩ = some (.int .i64 ho) ∧ w'.cell? ⟨X, 3, none⟩ = some (.int .i64 ix) ∧ w'.cell? ⟨X, 4, none⟩ = some (.slice g4 gs.length gx4) ∧ w'.cell? ⟨X, 5, none⟩ = some (.slice c4 cs.length cx4) ∧ w'.cell? ⟨X, 6, none⟩ = some (.slice p4 ps.length px4) ∧ w'.cell? ⟨X, 7, none⟩ = some (.int .i64 pr) ∧ w'.cell? ⟨X, 8, none⟩ = some (.slice m4 ms.length mx4) ∧ w'.cell? ⟨X, 9, none⟩ = some (.int .i64 bw) ∧ w'.cell? ⟨X, 10, none⟩ = some (.int .i64 er))
    ((first | exact ⟨over_drew _, bW.c 0 rfl, bW.c 1 rfl, bW.c 2 rfl, bW.c 3 rfl, bW.c 4 rfl, bW.c 5 rfl, bW.c 6 rfl, bW.c 7 rfl, bW.c 8 rfl, bW.c 9 rfl, bW.c 10 rfl, bX.c 0 rfl, bX.c 1 rfl, bX.c 2 rfl, bX.c 3 rfl, bX.c 4 rfl, bX.c 5 rfl, bX.c 6 rfl, bX.c 7 rfl, bX.c 8 rfl, bX.c 9 rfl, bX.c 10 rfl⟩ | exact (fun o => ⟨o, bW.o o 0 rfl, bW.o o 1 rfl, bW.o o 2 rfl, bW.o o 3 rfl, bW.o o 4 rfl, bW.o o 5 rfl, bW.o o 6 rfl, bW.o o 7 rfl, bW.o o 8 rfl, bW.o o 9 rfl, bW.o o 10 rfl, bX.o o 0 rfl, bX.o o 1 rfl, bX.o o 2 rfl, bX.o o 3 rfl, bX.o o 4 rfl, bX.o o 5 rfl, bX.o o 6 rfl, bX.o o 7 rfl, bX.o o 8 rfl, bX.o o 9 rfl, bX.o o 10 rfl⟩) (over_step (‹Over w6 _ ∧ _›).1 (by assumption)) | fail))
    ((first | (go_at_call 24; refine (toM_any _ _ _ _ gs cs ps ms kn sa ho ix pr bw er _ (HGS.out.keep (‹Over w6 _ ∧ _›).1) (HCS.out.keep (‹Over w6 _ ∧ _›).1) (HPS.out.keep (‹Over w6 _ ∧ _›).1) (HMS.out.keep (‹Over w6 _ ∧ _›).1) L0.out L1.out L2.out L3.out).mono ?_; rintro e wa ⟨g6, gx6, c6, cx6, p6, px6, m6, mx6, rfl, hG6, hC6, hP6, hM6, ap60, ap61, ap62, ap63, ap64, ap65, hba⟩) | (go_at_call 26; refine (eqM_same _ _ _ _ gs cs ps ms kn sa ho ix pr bw er _ _ _ _ _ (hG4.rd.keep (‹Over w6 _ ∧ _›).1) (hC4.rd.keep (‹Over w6 _ ∧ _›).1) ((hP4.rd hp.1).keep (‹Over w6 _ ∧ _›).1) ((hM4.rd hm.1).keep (‹Over w6 _ ∧ _›).1) hG6.rd hC6.rd (hP6.rd hp.1) (hM6.rd hm.1)).mono ?_; rintro e wb ⟨rfl, hbb⟩) | fail))
  rename_i hH
  replace hH := hH.1
  clear hba hG6 hC6 hP6 hM6 ap60 ap61 ap62 ap63 ap64 ap65 HGS HCS HPS HMS bW
  have hb := hH
  clear hH hbb
  replace bX := bX.keep hb
  replace hG4 := hG4.keep hb
  replace hC4 := hC4.keep hb
  replace hP4 := hP4.keep hb
  replace hM4 := hM4.keep hb
  replace hog := hog.keep hb
  replace oT := over_step oT hb
  replace oS := over_step oS hb
  clear hb
  have fx0 := bX.c 0 rfl
  have fx1 := bX.c 1 rfl
  have fx2 := bX.c 2 rfl
  have fx3 := bX.c 3 rfl
  have fx4 := bX.c 4 rfl
  have fx5 := bX.c 5 rfl
  have fx6 := bX.c 6 rfl
  have fx7 := bX.c 7 rfl
  have fx8 := bX.c 8 rfl
  have fx9 := bX.c 9 rfl
  have fx10 := bX.c 10 rfl
  go_wp2_with fail
  clear fx0 fx1 fx2 fx3 fx4 fx5 fx6 fx7 fx8 fx9 fx10
  have sN := Nat.le_trans sB oT.size
  have sM := oS.size
  refine (markM_any _ _ _ _ gs cs ps ms kn sa ho ix pr bw er w3.heap.size (X + 1) _ hG4 hC4 hP4 hM4 ap40 ap41 ap42 ap43 ap44 ap45 sM sN nG.out nC.out nP.out nM.out L0.out L1.out L2.out L3.out).mono ?_
  rintro e w8 ⟨k8, rfl, hk8, m8⟩
  replace oS := Mid.over oS m8 (Nat.le_refl _)
  replace hog := Mid.own hog m8 (Nat.le_refl _)
  have hkn : ¬ k8 < 0 := by omega
  have sP : X + 1 ≤ w8.heap.size := Nat.le_trans sN m8.size
  clear m8 hG4 hC4 hP4 hM4 bX nG nC nP nM ap40 ap41 ap42 ap43 ap44 ap45 hk8 oT
  go_wp2_with fail
  have RW := RS.keep oS
  refine (eqB_same _ _ L _ (Own.rd hog HLB.out) RW).mono ?_
  rintro e w9 ⟨rfl, hb⟩
  replace hog := hog.keep hb
  replace oS := over_step oS hb
  clear hb RW
  go_wp2_with fail
  refine (markB_any _ L (X + 1) 1 _ hog (by decide) (by omega)).mono ?_
  rintro e w10 ⟨rfl, hmk, hg10⟩
  replace oS := over_grown oS hog sG hg10
  have hnn : ¬ (1 + (L.length : Int)) < 0 := by omega
  have hmb := Lib.hid (marks_bd 1 L.length)
  clear hog hg10
  go_wp2_with fail
  refine (heldB_any _ 1 L.length _ (Own.rd hmk hmb.out) (by decide) (by omega)).mono ?_
  rintro e w11 ⟨rfl, hb⟩
  replace hmk := hmk.keep hb
  replace oS := over_step oS hb
  clear hb
  have bW := bA.keep oS
  have HGS := Lib.hid (hg.keep oS)
  have HCS := Lib.hid (hc.keep oS)
  have HPS := Lib.hid (hp.keep oS)
  have HMS := Lib.hid (hm.keep oS)
  have fa0 := bW.c 0 rfl
  have fa1 := bW.c 1 rfl
  have fa2 := bW.c 2 rfl
  have fa3 := bW.c 3 rfl
  have fa4 := bW.c 4 rfl
  have fa5 := bW.c 5 rfl
  have fa6 := bW.c 6 rfl
  have fa7 := bW.c 7 rfl
  have fa8 := bW.c 8 rfl
  have fa9 := bW.c 9 rfl
  have fa10 := bW.c 10 rfl
  go_wp2_with fail
  clear fa0 fa1 fa2 fa3 fa4 fa5 fa6 fa7 fa8 fa9 fa10
  clear bW
  refine (toM_any _ _ _ _ gs cs ps ms kn sa ho ix pr bw er _ HGS.out HCS.out HPS.out HMS.out L0.out L1.out L2.out L3.out).mono ?_
  rintro e w12 ⟨g9, gx9, c9, cx9, p9, px9, m9, mx9, rfl, hG9, hC9, hP9, hM9, ap90, ap91, ap92, ap93, ap94, ap95, hb⟩
  replace hmk := hmk.keep hb
  replace oS := over_step oS hb
  clear hb HGS HCS HPS HMS
  go_wp2_with fail
  refine (imbx_all _ _ _ _ _ _ _ _ gs cs ps ms kn sa ho ix pr bw er _ hG9.rd hC9.rd (hP9.rd hp.1) (hM9.rd hm.1)).mono ?_
  rw [HT.out, HL.out]
  rintro e w13 ⟨uh, rfl, hoh, hb⟩
  replace hmk := hmk.keep hb
  replace oS := over_step oS hb
  clear hb
  clear hG9 hC9 hP9 hM9 ap90 ap91 ap92 ap93 ap94 ap95
  have RW := RS.keep oS
  go_wp2_with fail
  refine (eqB_same _ _ L _ (Own.rd hoh HLB.out) RW).mono ?_
  rintro e w14 ⟨rfl, hb⟩
  replace hmk := hmk.keep hb
  replace oS := over_step oS hb
  clear hb RW hoh
  go_wp2_with fail
  refine (heldB_any _ 1 L.length _ (Own.rd hmk hmb.out) (by decide) (by omega)).mono ?_
  rintro e w15 ⟨rfl, hb⟩
  replace oS := over_step oS hb
  clear hb hmk
  go_wp2
  go_ret
  exact ⟨rfl, below_step B0 oS⟩

set_option maxRecDepth 100000 in
theorem lifted (os : Os) (started : os.Started) (H : Type) (enc : TypeId × Value → H) :
    ReturnsInHanded {} Try.checked os 6 .any (Rows.fnExactMsgBytesSpec.pre6 enc Try.prog Try.f6 Rows.fnExactMsgBytesRow.domain false) (Rows.fnExactMsgBytesSpec.post enc Try.prog Try.f6 false true false false) := by
  refine returnsInHanded_of_change (C := Try.checked) own started (by kernel_rfl) Try.func6
    (ChangeSpec.witness6 (enc := enc) (C := Try.checked) false ⟨#[], #[.agg #[.int .i64 0, .int .i64 0, .int .i64 0, .int .i64 0, .slice none 0 0, .slice none 0 0, .slice none 0 0, .int .i64 0, .slice none 0 0, .int .i64 0, .int .i64 0]], []⟩ 8 (by kernel_rfl) (by kernel_rfl) (by kernel_rfl) (by kernel_rfl)) ?_
  intro W base args ds gs before hval0 hW hcnd _
  have hval : ∀ (j : Nat) t v, Try.f6.params[j]? = some t → args[j]? = some v → Value.okWide Try.prog W .any base t v := hval0
  have hW' := hW
  obtain ⟨p, q, hA0, hV, rfl, hfz, hnd⟩ := hW
  have hA : DataW.TrodAll enc Try.prog W 0 (fun _ => true) true Try.f6.params.toList args.toList ds p := hA0
  rw [Try.params6] at hA hval
  obtain ⟨v0, vs0, d0, ds0, p0, q0, hargs, rfl, rfl, h0, r0⟩ := trodAll_cons hA
  obtain ⟨rfl, rfl, rfl⟩ := trodAll_nil r0
  obtain rfl : args = #[v0] := by cases args; simp_all
  obtain ⟨rfl, rfl⟩ := trodVars_none hV
  have lt0 : ∀ x ∈ p0, x.block < W.heap.size := by obtain ⟨m, hm⟩ := h0; exact DataW.trod_lt m _ _ _ hm
  have w0 := is_Msg (hval 0 49 v0 rfl rfl) h0
  clear hA0 hval0 hval
  refine (walk W v0 w0).mono fun e W' ⟨he, bel⟩ => ?_
  subst he
  exact ⟨_, rfl, _, _, _, [], _, [], hW', trodAll_mk1 (shut_bool Try.underlying4 _), (trodAll_cons_mk (Below.trod laidOut (by kernel_rfl) (of_decide_eq_true (by kernel_rfl)) h0 bel lt0) trodAll_mk0), rfl, bel.frame _, fun h => by cases h⟩

theorem over : Rows.fnExactMsgBytesRow.holds Try.pinned (OpenSpec.ofChange Rows.fnExactMsgBytesSpec) :=
  OpenClaim.holds_of_wide 6 Try.f6 rfl rfl rfl rfl rfl rfl rfl ⟨rfl, rfl, rfl, rfl, rfl⟩ rfl rfl rfl rfl rfl (by kernel_rfl) Try.func6 (by kernel_rfl)
    (of_decide_eq_true (by kernel_rfl)) (by unfold Func.isWrapper; first | (rw [if_pos (by decide +kernel)]; kernel_rfl) | (rw [if_neg (by decide +kernel)]; exact ⟨rfl, rfl⟩))
    (fun os started H enc _ => lifted os started H enc)

theorem proved : Rows.FnExactMsgBytesSaid := over
end Go.Proofs.Ythecdnfloahoaaa.fnExactMsgBytes
