/-
  The law 'FnExactAccepts' returns true for every input, and its arguments read afterwards as before: the given statement 'Rows.FnExactAcceptsSaid'. No condition.
-/
import Derived.Test.YtaffcicgljoajaaO1
import Derived.Test.YtaffcicgljoajaaS5
namespace Go.Proofs.Ytaffcicgljoajaa.fnExactAccepts
open Go.ChangeShapes Go.WideShapes Go.ChangeAt Go.RowKit Go.Proofs.Ytaffcicgljoajaa
set_option linter.unusedVariables false
set_option maxRecDepth 100000
set_option maxHeartbeats 4000000 in
theorem walk (W : World) (v0 v1 : Value) (w0 : Is_Conf W v0) (w1 : Is_Msg W v1) :
    Calls Try.prog 8 #[v0, v1] W fun e w' => e = .returned (.bool true) ∧ Below W.heap.size W w' := by
  obtain ⟨xa, xi, xh, xp, rfl⟩ := w0
  obtain ⟨gv, cv, pv, mv, gs, cs, ps, ms, kn, sa, ho, ix, pr, bw, er, rfl, hg, hc, hp, hm⟩ := w1
  obtain ⟨ga, gx, rfl⟩ := hg.len
  obtain ⟨ca, cx, rfl⟩ := hc.len
  obtain ⟨pa, px, rfl⟩ := hp.len
  obtain ⟨ma, mx, rfl⟩ := hm.len
  obtain ⟨bX, bA, B0, z⟩ := two W [.int .i64 xa, .int .i64 xi, .int .i64 xh, .int .i64 xp] [.int .i64 kn, .int .i64 sa, .int .i64 ho, .int .i64 ix, .slice ga gs.length gx, .slice ca cs.length cx, .slice pa ps.length px, .int .i64 pr, .slice ma ms.length mx, .int .i64 bw, .int .i64 er] 38 52
  replace hg := hg.keep B0
  replace hc := hc.keep B0
  replace hp := hp.keep B0
  replace hm := hm.keep B0
  clear z
  obtain ⟨t, ht⟩ : ∃ t, accB xa xi xh xp gs cs ps ms kn sa ho ix pr bw er = t := ⟨_, rfl⟩
  have HT := Lib.hid ht
  have htt : (t != t) = false := by simp
  clear ht
  go_enter Try.func8, Try.ntmps8
  go_wp2_with fail
  refine (szM_any _ _ _ _ gs cs ps ms kn sa ho ix pr bw er _ hg hc hp hm).mono ?_
  rintro e w1 ⟨r, rfl, hlen, hb⟩
  replace bX := bX.keep hb
  replace bA := bA.keep hb
  replace hg := hg.keep hb
  replace hc := hc.keep hb
  replace hp := hp.keep hb
  replace hm := hm.keep hb
  replace B0 := below_step B0 hb
  clear hb
  by_cases hr : r < 0
  · clear hlen
    go_wp2
    go_ret
    exact ⟨rfl, B0⟩
  obtain ⟨l0, l1, l2, l3⟩ := hlen hr
  have L0 := Lib.hid l0
  have L1 := Lib.hid l1
  have L2 := Lib.hid l2
  have L3 := Lib.hid l3
  clear hlen l0 l1 l2 l3
  go_wp2_with fail
  go_region_held3 (fun w' => Over w1 w' ∧ w'.cell? ⟨W.heap.size, 0, none⟩ = some (.int .i64 xa) ∧ w'.cell? ⟨W.heap.size, 1, none⟩ = some (.int .i64 xi) ∧ w'.cell? ⟨W.heap.size, 2, none⟩ = some (.int .i64 xh) ∧ w'.cell? ⟨W.heap.size, 3, none⟩ = some (.int .i64 xp) ∧ w'.cell? ⟨W.heap.size + 1, 0, none⟩ = some (.int .i64 kn) ∧ w'.cell? ⟨W.heap.size + 1, 1, none⟩ = some (.int .i64 sa) ∧ w'.cell? ⟨W.heap.size + 1, 2, none⟩ = some (.int .i64 ho) ∧ w'.cell? ⟨W.heap.size + 1, 3, none⟩ = some (.int .i64 ix) ∧ w'.cell? ⟨W.heap.size + 1, 4, none⟩ = some (.slice ga gs.length gx) ∧ w'.cell? ⟨W.heap.size + 1, 5, none⟩ = some (.slice ca cs.length cx) ∧ w'.cell? ⟨W.heap.size + 1, 6, none⟩ = some (.slice pa ps.length px) ∧ w'.cell? ⟨W.heap.size + 1, 7, none⟩ = some (.int .i64 pr) ∧ w'.cell? ⟨W.heap.size + 1, 8, none⟩ = some (.slice ma ms.length mx) ∧ w'.cell? ⟨W.heap.size + 1, 9, none⟩ = some (.int .i64 bw) ∧ w'.cell? ⟨W.heap.size + 1, 10, none⟩ = some (.int .i64 er))
    ((first | exact ⟨over_drew _, bX.c 0 rfl, bX.c 1 rfl, bX.c 2 rfl, bX.c 3 rfl, bA.c 0 rfl, bA.c 1 rfl, bA.c 2 rfl, bA.c 3 rfl, bA.c 4 rfl, bA.c 5 rfl, bA.c 6 rfl, bA.c 7 rfl, bA.c 8 rfl, bA.c 9 rfl, bA.c 10 rfl⟩ | exact (fun o => ⟨o, bX.o o 0 rfl, bX.o o 1 rfl, bX.o o 2 rfl, bX.o o 3 rfl, bA.o o 0 rfl, bA.o o 1 rfl, bA.o o 2 rfl, bA.o o 3 rfl, bA.o o 4 rfl, bA.o o 5 rfl, bA.o o 6 rfl, bA.o o 7 rfl, bA.o o 8 rfl, bA.o o 9 rfl, bA.o o 10 rfl⟩) (over_step (‹Over w1 _ ∧ _›).1 (by assumption))))
    ((first | (go_at_call 18; refine (toCf_any _ _ _ _ _).mono ?_; rintro e wc ⟨rfl, hbc⟩) | (go_at_call 32; refine (toM_any _ _ _ _ gs cs ps ms kn sa ho ix pr bw er _ (hg.keep (‹Over w1 _ ∧ _›).1) (hc.keep (‹Over w1 _ ∧ _›).1) (hp.keep (‹Over w1 _ ∧ _›).1) (hm.keep (‹Over w1 _ ∧ _›).1) L0.out L1.out L2.out L3.out).mono ?_; rintro e wa ⟨g6, gx6, c6, cx6, p6, px6, m6, mx6, rfl, hG6, hC6, hP6, hM6, ap60, ap61, ap62, ap63, ap64, ap65, hba⟩) | (go_at_call 31; refine (sAcc_t _ hG6.rd hC6.rd (hP6.rd hp.1) (hM6.rd hm.1) L2.out L3.out HT).mono ?_; rintro e w6 ⟨rfl, hbb⟩) | fail))
  clear hba hG6 hC6 hP6 hM6 ap60 ap61 ap62 ap63 ap64 ap65 hbb
  rename_i hH
  have hb := hH.1
  clear hH hbc
  replace bX := bX.keep hb
  replace bA := bA.keep hb
  replace hg := hg.keep hb
  replace hc := hc.keep hb
  replace hp := hp.keep hb
  replace hm := hm.keep hb
  replace B0 := below_step B0 hb
  clear hb
  have fa0 := bA.c 0 rfl
  have fa1 := bA.c 1 rfl
  have fa2 := bA.c 2 rfl
  have fa3 := bA.c 3 rfl
  have fa4 := bA.c 4 rfl
  have fa5 := bA.c 5 rfl
  have fa6 := bA.c 6 rfl
  have fa7 := bA.c 7 rfl
  have fa8 := bA.c 8 rfl
  have fa9 := bA.c 9 rfl
  have fa10 := bA.c 10 rfl
  go_wp2_with fail
  clear fa0 fa1 fa2 fa3 fa4 fa5 fa6 fa7 fa8 fa9 fa10
  refine (toM_any _ _ _ _ gs cs ps ms kn sa ho ix pr bw er _ hg hc hp hm L0.out L1.out L2.out L3.out).mono ?_
  rintro e w7 ⟨g4, gx4, c4, cx4, p4, px4, m4, mx4, rfl, hG4, hC4, hP4, hM4, ap40, ap41, ap42, ap43, ap44, ap45, hb⟩
  replace bA := bA.keep hb
  replace hg := hg.keep hb
  replace hc := hc.keep hb
  replace hp := hp.keep hb
  replace hm := hm.keep hb
  replace bX := bX.keep hb
  replace B0 := below_step B0 hb
  clear hb
  have fa0 := bA.c 0 rfl
  have fa1 := bA.c 1 rfl
  have fa2 := bA.c 2 rfl
  have fa3 := bA.c 3 rfl
  have fa4 := bA.c 4 rfl
  have fa5 := bA.c 5 rfl
  have fa6 := bA.c 6 rfl
  have fa7 := bA.c 7 rfl
  have fa8 := bA.c 8 rfl
  have fa9 := bA.c 9 rfl
  have fa10 := bA.c 10 rfl
  have fx0 := bX.c 0 rfl
  have fx1 := bX.c 1 rfl
  have fx2 := bX.c 2 rfl
  have fx3 := bX.c 3 rfl
  go_wp2_with fail
  clear fa0 fa1 fa2 fa3 fa4 fa5 fa6 fa7 fa8 fa9 fa10
  clear fx0 fx1 fx2 fx3
  obtain ⟨bY, hb, z⟩ := one w7 [.int .i64 kn, .int .i64 sa, .int .i64 ho, .int .i64 ix, .slice g4 gs.length gx4, .slice c4 cs.length cx4, .slice p4 ps.length px4, .int .i64 pr, .slice m4 ms.length mx4, .int .i64 bw, .int .i64 er] 28
  obtain ⟨Y, eY⟩ : ∃ Y, Y = w7.heap.size := ⟨_, rfl⟩
  obtain ⟨V, eV⟩ : ∃ V, V = w7.alloc (.cells #[.int .i64 kn, .int .i64 sa, .int .i64 ho, .int .i64 ix, .slice g4 gs.length gx4, .slice c4 cs.length cx4, .slice p4 ps.length px4, .int .i64 pr, .slice m4 ms.length mx4, .int .i64 bw, .int .i64 er] 28) := ⟨_, rfl⟩
  clear z
  replace bX := bX.keep hb
  replace bA := bA.keep hb
  replace hg := hg.keep hb
  replace hc := hc.keep hb
  replace hp := hp.keep hb
  replace hm := hm.keep hb
  replace B0 := below_step B0 hb
  replace hG4 := hG4.keep hb
  replace hC4 := hC4.keep hb
  replace hP4 := hP4.keep hb
  replace hM4 := hM4.keep hb
  clear hb
  rw [← eV] at bX bA hg hc hp hm B0 bY hG4 hC4 hP4 hM4 ⊢
  rw [← eY] at bY ⊢
  clear eV eY
  go_region_held3 (fun w' => Over V w' ∧ w'.cell? ⟨W.heap.size, 0, none⟩ = some (.int .i64 xa) ∧ w'.cell? ⟨W.heap.size, 1, none⟩ = some (.int .i64 xi) ∧ w'.cell? ⟨W.heap.size, 2, none⟩ = some (.int .i64 xh) ∧ w'.cell? ⟨W.heap.size, 3, none⟩ = some (.int .i64 xp) ∧ w'.cell? ⟨W.heap.size + 1, 0, none⟩ = some (.int .i64 kn) ∧ w'.cell? ⟨W.heap.size + 1, 1, none⟩ = some (.int .i64 sa) ∧ w'.cell? ⟨W.heap.size + 1, 2, none⟩ = some (.int .i64 ho) ∧ w'.cell? ⟨W.heap.size + 1, 3, none⟩ = some (.int .i64 ix) ∧ w'.cell? ⟨W.heap.size + 1, 4, none⟩ = some (.slice ga gs.length gx) ∧ w'.cell? ⟨W.heap.size + 1, 5, none⟩ = some (.slice ca cs.length cx) ∧ w'.cell? ⟨W.heap.size + 1, 6, none⟩ = some (.slice pa ps.length px) ∧ w'.cell? ⟨W.heap.size + 1, 7, none⟩ = some (.int .i64 pr) ∧ w'.cell? ⟨W.heap.size + 1, 8, none⟩ = some (.slice ma ms.length mx) ∧ w'.cell? ⟨W.heap.size + 1, 9, none⟩ = some (.int .i64 bw) ∧ w'.cell? ⟨W.heap.size + 1, 10, none⟩ = some (.int .i64 er) ∧ w'.cell? ⟨Y, 0, none⟩ = some (.int .i64 kn) ∧ w'.cell? ⟨Y, 1, none⟩ = some (.int .i64 sa) ∧ w'.cell? ⟨Y, 2, none⟩ = some (.int .i64 ho) ∧ w'.cell? ⟨Y, 3, none⟩ = some (.int .i64 ix) ∧ w'.cell? ⟨Y, 4, none⟩ = some (.slice g4 gs.length gx4) ∧ w'.cell? ⟨Y, 5, none⟩ = some (.slice c4 cs.length cx4) ∧ w'.cell? ⟨Y, 6, none⟩ = some (.slice p4 ps.length px4) ∧ w'.cell? ⟨Y, 7, none⟩ = some (.int .i64 pr) ∧ w'.cell? ⟨Y, 8, none⟩ = some (.slice m4 ms.length mx4) ∧ w'.cell? ⟨Y, 9, none⟩ = some (.int .i64 bw) ∧ w'.cell? ⟨Y, 10, none⟩ = some (.int .i64 er))
    ((first | exact ⟨over_drew _, bX.c 0 rfl, bX.c 1 rfl, bX.c 2 rfl, bX.c 3 rfl, bA.c 0 rfl, bA.c 1 rfl, bA.c 2 rfl, bA.c 3 rfl, bA.c 4 rfl, bA.c 5 rfl, bA.c 6 rfl, bA.c 7 rfl, bA.c 8 rfl, bA.c 9 rfl, bA.c 10 rfl, bY.c 0 rfl, bY.c 1 rfl, bY.c 2 rfl, bY.c 3 rfl, bY.c 4 rfl, bY.c 5 rfl, bY.c 6 rfl, bY.c 7 rfl, bY.c 8 rfl, bY.c 9 rfl, bY.c 10 rfl⟩ | exact (fun o => ⟨o, bX.o o 0 rfl, bX.o o 1 rfl, bX.o o 2 rfl, bX.o o 3 rfl, bA.o o 0 rfl, bA.o o 1 rfl, bA.o o 2 rfl, bA.o o 3 rfl, bA.o o 4 rfl, bA.o o 5 rfl, bA.o o 6 rfl, bA.o o 7 rfl, bA.o o 8 rfl, bA.o o 9 rfl, bA.o o 10 rfl, bY.o o 0 rfl, bY.o o 1 rfl, bY.o o 2 rfl, bY.o o 3 rfl, bY.o o 4 rfl, bY.o o 5 rfl, bY.o o 6 rfl, bY.o o 7 rfl, bY.o o 8 rfl, bY.o o 9 rfl, bY.o o 10 rfl⟩) (over_step (‹Over V _ ∧ _›).1 (by assumption))))
    ((first | (go_at_call 18; refine (toCf_any _ _ _ _ _).mono ?_; rintro e wc ⟨rfl, hbc⟩) | (go_at_call 33; refine (iAcc_t _ (hG4.rd.keep (‹Over V _ ∧ _›).1) (hC4.rd.keep (‹Over V _ ∧ _›).1) ((hP4.rd hp.1).keep (‹Over V _ ∧ _›).1) ((hM4.rd hm.1).keep (‹Over V _ ∧ _›).1) HT).mono ?_; rintro e w8 ⟨rfl, hbb⟩) | fail))
  rename_i hH
  have hb := hH.1
  clear hH hbc hbb
  replace bY := bY.keep hb
  replace bX := bX.keep hb
  replace bA := bA.keep hb
  replace hg := hg.keep hb
  replace hc := hc.keep hb
  replace hp := hp.keep hb
  replace hm := hm.keep hb
  replace B0 := below_step B0 hb
  replace hG4 := hG4.keep hb
  replace hC4 := hC4.keep hb
  replace hP4 := hP4.keep hb
  replace hM4 := hM4.keep hb
  clear hb
  go_wp2_with fail
  go_region_held3 (fun w' => Over w8 w' ∧ w'.cell? ⟨W.heap.size, 0, none⟩ = some (.int .i64 xa) ∧ w'.cell? ⟨W.heap.size, 1, none⟩ = some (.int .i64 xi) ∧ w'.cell? ⟨W.heap.size, 2, none⟩ = some (.int .i64 xh) ∧ w'.cell? ⟨W.heap.size, 3, none⟩ = some (.int .i64 xp) ∧ w'.cell? ⟨W.heap.size + 1, 0, none⟩ = some (.int .i64 kn) ∧ w'.cell? ⟨W.heap.size + 1, 1, none⟩ = some (.int .i64 sa) ∧ w'.cell? ⟨W.heap.size + 1, 2, none⟩ = some (.int .i64 ho) ∧ w'.cell? ⟨W.heap.size + 1, 3, none⟩ = some (.int .i64 ix) ∧ w'.cell? ⟨W.heap.size + 1, 4, none⟩ = some (.slice ga gs.length gx) ∧ w'.cell? ⟨W.heap.size + 1, 5, none⟩ = some (.slice ca cs.length cx) ∧ w'.cell? ⟨W.heap.size + 1, 6, none⟩ = some (.slice pa ps.length px) ∧ w'.cell? ⟨W.heap.size + 1, 7, none⟩ = some (.int .i64 pr) ∧ w'.cell? ⟨W.heap.size + 1, 8, none⟩ = some (.slice ma ms.length mx) ∧ w'.cell? ⟨W.heap.size + 1, 9, none⟩ = some (.int .i64 bw) ∧ w'.cell? ⟨W.heap.size + 1, 10, none⟩ = some (.int .i64 er) ∧ w'.cell? ⟨Y, 0, none⟩ = some (.int .i64 kn) ∧ w'.cell? ⟨Y, 1, none⟩ = some (.int .i64 sa) ∧ w'.cell? ⟨Y, 2, none⟩ = some (.int .i64 ho) ∧ w'.cell? ⟨Y, 3, none⟩ = some (.int .i64 ix) ∧ w'.cell? ⟨Y, 4, none⟩ = some (.slice g4 gs.length gx4) ∧ w'.cell? ⟨Y, 5, none⟩ = some (.slice c4 cs.length cx4) ∧ w'.cell? ⟨Y, 6, none⟩ = some (.slice p4 ps.length px4) ∧ w'.cell? ⟨Y, 7, none⟩ = some (.int .i64 pr) ∧ w'.cell? ⟨Y, 8, none⟩ = some (.slice m4 ms.length mx4) ∧ w'.cell? ⟨Y, 9, none⟩ = some (.int .i64 bw) ∧ w'.cell? ⟨Y, 10, none⟩ = some (.int .i64 er))
    ((first | exact ⟨over_drew _, bX.c 0 rfl, bX.c 1 rfl, bX.c 2 rfl, bX.c 3 rfl, bA.c 0 rfl, bA.c 1 rfl, bA.c 2 rfl, bA.c 3 rfl, bA.c 4 rfl, bA.c 5 rfl, bA.c 6 rfl, bA.c 7 rfl, bA.c 8 rfl, bA.c 9 rfl, bA.c 10 rfl, bY.c 0 rfl, bY.c 1 rfl, bY.c 2 rfl, bY.c 3 rfl, bY.c 4 rfl, bY.c 5 rfl, bY.c 6 rfl, bY.c 7 rfl, bY.c 8 rfl, bY.c 9 rfl, bY.c 10 rfl⟩ | exact (fun o => ⟨o, bX.o o 0 rfl, bX.o o 1 rfl, bX.o o 2 rfl, bX.o o 3 rfl, bA.o o 0 rfl, bA.o o 1 rfl, bA.o o 2 rfl, bA.o o 3 rfl, bA.o o 4 rfl, bA.o o 5 rfl, bA.o o 6 rfl, bA.o o 7 rfl, bA.o o 8 rfl, bA.o o 9 rfl, bA.o o 10 rfl, bY.o o 0 rfl, bY.o o 1 rfl, bY.o o 2 rfl, bY.o o 3 rfl, bY.o o 4 rfl, bY.o o 5 rfl, bY.o o 6 rfl, bY.o o 7 rfl, bY.o o 8 rfl, bY.o o 9 rfl, bY.o o 10 rfl⟩) (over_step (‹Over w8 _ ∧ _›).1 (by assumption))))
    ((first | (go_at_call 32; refine (toM_any _ _ _ _ gs cs ps ms kn sa ho ix pr bw er _ (hg.keep (‹Over w8 _ ∧ _›).1) (hc.keep (‹Over w8 _ ∧ _›).1) (hp.keep (‹Over w8 _ ∧ _›).1) (hm.keep (‹Over w8 _ ∧ _›).1) L0.out L1.out L2.out L3.out).mono ?_; rintro e wa ⟨g6, gx6, c6, cx6, p6, px6, m6, mx6, rfl, hG6, hC6, hP6, hM6, ap60, ap61, ap62, ap63, ap64, ap65, hba⟩) | (go_at_call 12; refine (eqM_same _ _ _ _ gs cs ps ms kn sa ho ix pr bw er _ _ _ _ _ (hG4.rd.keep (‹Over w8 _ ∧ _›).1) (hC4.rd.keep (‹Over w8 _ ∧ _›).1) ((hP4.rd hp.1).keep (‹Over w8 _ ∧ _›).1) ((hM4.rd hm.1).keep (‹Over w8 _ ∧ _›).1) hG6.rd hC6.rd (hP6.rd hp.1) (hM6.rd hm.1)).mono ?_; rintro e w9 ⟨rfl, hbb⟩) | fail))
  clear hba hG6 hC6 hP6 hM6 ap60 ap61 ap62 ap63 ap64 ap65 hbb
  rename_i hH
  have hb := hH.1
  clear hH
  replace B0 := below_step B0 hb
  clear hb
  go_wp2
  go_ret
  exact ⟨rfl, B0⟩

set_option maxRecDepth 100000 in
theorem lifted (os : Os) (started : os.Started) (H : Type) (enc : TypeId × Value → H) :
    ReturnsInHanded {} Try.checked os 8 .any (Rows.fnExactAcceptsSpec.pre6 enc Try.prog Try.f8 Rows.fnExactAcceptsRow.domain false) (Rows.fnExactAcceptsSpec.post enc Try.prog Try.f8 false true false false) := by
  refine returnsInHanded_of_change (C := Try.checked) own started (by kernel_rfl) Try.func8
    (ChangeSpec.witness6 (enc := enc) (C := Try.checked) false ⟨#[], #[.agg #[.int .i64 0, .int .i64 0, .int .i64 0, .int .i64 0], .agg #[.int .i64 0, .int .i64 0, .int .i64 0, .int .i64 0, .slice none 0 0, .slice none 0 0, .slice none 0 0, .int .i64 0, .slice none 0 0, .int .i64 0, .int .i64 0]], []⟩ 8 (by kernel_rfl) (by kernel_rfl) (by kernel_rfl) (by kernel_rfl)) ?_
  intro W base args ds gs before hval0 hW hcnd _
  have hval : ∀ (j : Nat) t v, Try.f8.params[j]? = some t → args[j]? = some v → Value.okWide Try.prog W .any base t v := hval0
  have hW' := hW
  obtain ⟨p, q, hA0, hV, rfl, hfz, hnd⟩ := hW
  have hA : DataW.TrodAll enc Try.prog W 0 (fun _ => true) true Try.f8.params.toList args.toList ds p := hA0
  rw [Try.params8] at hA hval
  obtain ⟨v0, vs0, d0, ds0, p0, q0, hargs, rfl, rfl, h0, r0⟩ := trodAll_cons hA
  obtain ⟨v1, vs1, d1, ds1, p1, q1, rfl, rfl, rfl, h1, r1⟩ := trodAll_cons r0
  obtain ⟨rfl, rfl, rfl⟩ := trodAll_nil r1
  obtain rfl : args = #[v0, v1] := by cases args; simp_all
  obtain ⟨rfl, rfl⟩ := trodVars_none hV
  have lt0 : ∀ x ∈ p0, x.block < W.heap.size := by obtain ⟨m, hm⟩ := h0; exact DataW.trod_lt m _ _ _ hm
  have w0 := is_Conf (hval 0 38 v0 rfl rfl) h0
  have lt1 : ∀ x ∈ p1, x.block < W.heap.size := by obtain ⟨m, hm⟩ := h1; exact DataW.trod_lt m _ _ _ hm
  have w1 := is_Msg (hval 1 52 v1 rfl rfl) h1
  clear hA0 hval0 hval
  refine (walk W v0 v1 w0 w1).mono fun e W' ⟨he, bel⟩ => ?_
  subst he
  exact ⟨_, rfl, _, _, _, [], _, [], hW', trodAll_mk1 (shut_bool Try.underlying4 _), (trodAll_cons_mk (Below.trod laidOut (by kernel_rfl) (of_decide_eq_true (by kernel_rfl)) h0 bel lt0) (trodAll_cons_mk (Below.trod laidOut (by kernel_rfl) (of_decide_eq_true (by kernel_rfl)) h1 bel lt1) trodAll_mk0)), rfl, bel.frame _, fun h => by cases h⟩

theorem over : Rows.fnExactAcceptsRow.holds Try.pinned (OpenSpec.ofChange Rows.fnExactAcceptsSpec) :=
  OpenClaim.holds_of_wide 8 Try.f8 rfl rfl rfl rfl rfl rfl rfl ⟨rfl, rfl, rfl, rfl, rfl⟩ rfl rfl rfl rfl rfl (by kernel_rfl) Try.func8 (by kernel_rfl)
    (of_decide_eq_true (by kernel_rfl)) (by unfold Func.isWrapper; first | (rw [if_pos (by decide +kernel)]; kernel_rfl) | (rw [if_neg (by decide +kernel)]; exact ⟨rfl, rfl⟩))
    (fun os started H enc _ => lifted os started H enc)

theorem proved : Rows.FnExactAcceptsSaid := over
end Go.Proofs.Ytaffcicgljoajaa.fnExactAccepts
