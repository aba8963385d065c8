/-
  The law 'FnExactEventOk' returns true for every input, and its arguments read afterwards as before: the given statement 'Rows.FnExactEventOkSaid'. No condition.
-/
import Derived.Test.YtaffcicgljoajaaO1
import Derived.Test.YtaffcicgljoajaaS7
namespace Go.Proofs.Ytaffcicgljoajaa.fnExactEventOk
open Go.ChangeShapes Go.WideShapes Go.ChangeAt Go.RowKit Go.Proofs.Ytaffcicgljoajaa
set_option linter.unusedVariables false
set_option maxRecDepth 100000
set_option maxHeartbeats 4000000 in
theorem walk (W : World) (v0 : Value) (w0 : Is_Event W v0) :
    Calls Try.prog 6 #[v0] W fun e w' => e = .returned (.bool true) ∧ Below W.heap.size W w' := by
  obtain ⟨gv, cv, pv, mv, gs, cs, ps, ms, ek, ee, kn, sa, ho, ix, pr, bw, er, rfl, hg, hc, hp, hm⟩ := w0
  obtain ⟨ga, gx, rfl⟩ := hg.len
  obtain ⟨ca, cx, rfl⟩ := hc.len
  obtain ⟨pa, px, rfl⟩ := hp.len
  obtain ⟨ma, mx, rfl⟩ := hm.len
  obtain ⟨bA, B0, z⟩ := one W [.int .i64 ek, .int .i64 kn, .int .i64 sa, .int .i64 ho, .int .i64 ix, .slice ga gs.length gx, .slice ca cs.length cx, .slice pa ps.length px, .int .i64 pr, .slice ma ms.length mx, .int .i64 bw, .int .i64 er, .int .i64 ee] 54
  replace hg := hg.keep B0
  replace hc := hc.keep B0
  replace hp := hp.keep B0
  replace hm := hm.keep B0
  clear z
  obtain ⟨t, ht⟩ : ∃ t, evB gs cs ps ms ek ee kn sa ho ix pr bw er = t := ⟨_, rfl⟩
  have HT := Lib.hid ht
  have htt : (t != t) = false := by simp
  clear ht
  go_enter Try.func6, Try.ntmps6
  go_wp2_with fail
  refine (szE_any _ _ _ _ gs cs ps ms ek ee kn sa ho ix pr bw er _ hg hc hp hm).mono ?_
  rintro e w1 ⟨r, rfl, hlen, hb⟩
  replace bA := bA.keep hb
  replace hg := hg.keep hb
  replace hc := hc.keep hb
  replace hp := hp.keep hb
  replace hm := hm.keep hb
  replace B0 := below_step B0 hb
  clear hb
  by_cases hr : r < 0
  · clear hlen
    go_wp2
    go_ret
    exact ⟨rfl, B0⟩
  obtain ⟨l0, l1, l2, l3⟩ := hlen hr
  have L0 := Lib.hid l0
  have L1 := Lib.hid l1
  have L2 := Lib.hid l2
  have L3 := Lib.hid l3
  clear hlen l0 l1 l2 l3
  have fa0 := bA.c 0 rfl
  have fa1 := bA.c 1 rfl
  have fa2 := bA.c 2 rfl
  have fa3 := bA.c 3 rfl
  have fa4 := bA.c 4 rfl
  have fa5 := bA.c 5 rfl
  have fa6 := bA.c 6 rfl
  have fa7 := bA.c 7 rfl
  have fa8 := bA.c 8 rfl
  have fa9 := bA.c 9 rfl
  have fa10 := bA.c 10 rfl
  have fa11 := bA.c 11 rfl
  have fa12 := bA.c 12 rfl
  go_wp2_with fail
  clear fa0 fa1 fa2 fa3 fa4 fa5 fa6 fa7 fa8 fa9 fa10 fa11 fa12
  refine (toE_any _ _ _ _ gs cs ps ms ek ee kn sa ho ix pr bw er _ hg hc hp hm L0.out L1.out L2.out L3.out).mono ?_
  rintro e w2 ⟨g2, gx2, c2, cx2, p2, px2, m2, mx2, rfl, hG2, hC2, hP2, hM2, ap20, ap21, ap22, ap23, ap24, ap25, hb⟩
  replace bA := bA.keep hb
  replace hg := hg.keep hb
  replace hc := hc.keep hb
  replace hp := hp.keep hb
  replace hm := hm.keep hb
  replace B0 := below_step B0 hb
  clear hb
  have fa0 := bA.c 0 rfl
  have fa1 := bA.c 1 rfl
  have fa2 := bA.c 2 rfl
  have fa3 := bA.c 3 rfl
  have fa4 := bA.c 4 rfl
  have fa5 := bA.c 5 rfl
  have fa6 := bA.c 6 rfl
  have fa7 := bA.c 7 rfl
  have fa8 := bA.c 8 rfl
  have fa9 := bA.c 9 rfl
  have fa10 := bA.c 10 rfl
  have fa11 := bA.c 11 rfl
  have fa12 := bA.c 12 rfl
  go_wp2_with fail
  clear fa0 fa1 fa2 fa3 fa4 fa5 fa6 fa7 fa8 fa9 fa10 fa11 fa12
  refine (sEv_t _ hG2.rd hC2.rd (hP2.rd hp.1) (hM2.rd hm.1) L0.out L1.out L2.out L3.out HT).mono ?_
  rintro e w3 ⟨rfl, hb⟩
  clear hG2 hC2 hP2 hM2 ap20 ap21 ap22 ap23 ap24 ap25
  replace bA := bA.keep hb
  replace hg := hg.keep hb
  replace hc := hc.keep hb
  replace hp := hp.keep hb
  replace hm := hm.keep hb
  replace B0 := below_step B0 hb
  clear hb
  have fa0 := bA.c 0 rfl
  have fa1 := bA.c 1 rfl
  have fa2 := bA.c 2 rfl
  have fa3 := bA.c 3 rfl
  have fa4 := bA.c 4 rfl
  have fa5 := bA.c 5 rfl
  have fa6 := bA.c 6 rfl
  have fa7 := bA.c 7 rfl
  have fa8 := bA.c 8 rfl
  have fa9 := bA.c 9 rfl
  have fa10 := bA.c 10 rfl
  have fa11 := bA.c 11 rfl
  have fa12 := bA.c 12 rfl
  go_wp2_with fail
  clear fa0 fa1 fa2 fa3 fa4 fa5 fa6 fa7 fa8 fa9 fa10 fa11 fa12
  refine (toE_any _ _ _ _ gs cs ps ms ek ee kn sa ho ix pr bw er _ hg hc hp hm L0.out L1.out L2.out L3.out).mono ?_
  rintro e w4 ⟨g4, gx4, c4, cx4, p4, px4, m4, mx4, rfl, hG4, hC4, hP4, hM4, ap40, ap41, ap42, ap43, ap44, ap45, hb⟩
  replace bA := bA.keep hb
  replace hg := hg.keep hb
  replace hc := hc.keep hb
  replace hp := hp.keep hb
  replace hm := hm.keep hb
  replace B0 := below_step B0 hb
  clear hb
  obtain ⟨bY, hb, z⟩ := one w4 [.int .i64 ek, .int .i64 kn, .int .i64 sa, .int .i64 ho, .int .i64 ix, .slice g4 gs.length gx4, .slice c4 cs.length cx4, .slice p4 ps.length px4, .int .i64 pr, .slice m4 ms.length mx4, .int .i64 bw, .int .i64 er, .int .i64 ee] 58
  clear z
  replace bA := bA.keep hb
  replace hg := hg.keep hb
  replace hc := hc.keep hb
  replace hp := hp.keep hb
  replace hm := hm.keep hb
  replace B0 := below_step B0 hb
  replace hG4 := hG4.keep hb
  replace hC4 := hC4.keep hb
  replace hP4 := hP4.keep hb
  replace hM4 := hM4.keep hb
  clear hb
  have fb0 := bY.c 0 rfl
  have fb1 := bY.c 1 rfl
  have fb2 := bY.c 2 rfl
  have fb3 := bY.c 3 rfl
  have fb4 := bY.c 4 rfl
  have fb5 := bY.c 5 rfl
  have fb6 := bY.c 6 rfl
  have fb7 := bY.c 7 rfl
  have fb8 := bY.c 8 rfl
  have fb9 := bY.c 9 rfl
  have fb10 := bY.c 10 rfl
  have fb11 := bY.c 11 rfl
  have fb12 := bY.c 12 rfl
  go_wp2_with fail
  clear fb0 fb1 fb2 fb3 fb4 fb5 fb6 fb7 fb8 fb9 fb10 fb11 fb12
  refine (iEv_t _ hG4.rd hC4.rd (hP4.rd hp.1) (hM4.rd hm.1) HT).mono ?_
  rintro e w5 ⟨rfl, hb⟩
  obtain ⟨Y, eY⟩ : ∃ Y, Y = w4.heap.size := ⟨_, rfl⟩
  replace bA := bA.keep hb
  replace bY := bY.keep hb
  replace hg := hg.keep hb
  replace hc := hc.keep hb
  replace hp := hp.keep hb
  replace hm := hm.keep hb
  replace B0 := below_step B0 hb
  replace hG4 := hG4.keep hb
  replace hC4 := hC4.keep hb
  replace hP4 := hP4.keep hb
  replace hM4 := hM4.keep hb
  clear hb
  rw [← eY] at bY ⊢
  clear eY
  go_wp2_with fail
  go_region_held3 (fun w' => Over w5 w' ∧ w'.cell? ⟨W.heap.size, 0, none⟩ = some (.int .i64 ek) ∧ w'.cell? ⟨W.heap.size, 1, none⟩ = some (.int .i64 kn) ∧ w'.cell? ⟨W.heap.size, 2, none⟩ = some (.int .i64 sa) ∧ w'.cell? ⟨W.heap.size, 3, none⟩ = some (.int .i64 ho) ∧ w'.cell? ⟨W.heap.size, 4, none⟩ = some (.int .i64 ix) ∧ w'.cell? ⟨W.heap.size, 5, none⟩ = some (.slice ga gs.length gx) ∧ w'.cell? ⟨W.heap.size, 6, none⟩ = some (.slice ca cs.length cx) ∧ w'.cell? ⟨W.heap.size, 7, none⟩ = some (.slice pa ps.length px) ∧ w'.cell? ⟨W.heap.size, 8, none⟩ = some (.int .i64 pr) ∧ w'.cell? ⟨W.heap.size, 9, none⟩ = some (.slice ma ms.length mx) ∧ w'.cell? ⟨W.heap.size, 10, none⟩ = some (.int .i64 bw) ∧ w'.cell? ⟨W.heap.size, 11, none⟩ = some (.int .i64 er) ∧ w'.cell? ⟨W.heap.size, 12, none⟩ = some (.int .i64 ee) ∧ w'.cell? ⟨Y, 0, none⟩ = some (.int .i64 ek) ∧ w'.cell? ⟨Y, 1, none⟩ = some (.int .i64 kn) ∧ w'.cell? ⟨Y, 2, none⟩ = some (.int .i64 sa) ∧ w'.cell? ⟨Y, 3, none⟩ = some (.int .i64 ho) ∧ w'.cell? ⟨Y, 4, none⟩ = some (.int .i64 ix) ∧ w'.cell? ⟨Y, 5, none⟩ = some (.slice g4 gs.length gx4) ∧ w'.cell? ⟨Y, 6, none⟩ = some (.slice c4 cs.length cx4) ∧ w'.cell? ⟨Y, 7, none⟩ = some (.slice p4 ps.length px4) ∧ w'.cell? ⟨Y, 8, none⟩ = some (.int .i64 pr) ∧ w'.cell? ⟨Y, 9, none⟩ = some (.slice m4 ms.length mx4) ∧ w'.cell? ⟨Y, 10, none⟩ = some (.int .i64 bw) ∧ w'.cell? ⟨Y, 11, none⟩ = some (.int .i64 er) ∧ w'.cell? ⟨Y, 12, none⟩ = some (.int .i64 ee))
    ((first | exact ⟨over_drew _, bA.c 0 rfl, bA.c 1 rfl, bA.c 2 rfl, bA.c 3 rfl, bA.c 4 rfl, bA.c 5 rfl, bA.c 6 rfl, bA.c 7 rfl, bA.c 8 rfl, bA.c 9 rfl, bA.c 10 rfl, bA.c 11 rfl, bA.c 12 rfl, bY.c 0 rfl, bY.c 1 rfl, bY.c 2 rfl, bY.c 3 rfl, bY.c 4 rfl, bY.c 5 rfl, bY.c 6 rfl, bY.c 7 rfl, bY.c 8 rfl, bY.c 9 rfl, bY.c 10 rfl, bY.c 11 rfl, bY.c 12 rfl⟩ | exact (fun o => ⟨o, bA.o o 0 rfl, bA.o o 1 rfl, bA.o o 2 rfl, bA.o o 3 rfl, bA.o o 4 rfl, bA.o o 5 rfl, bA.o o 6 rfl, bA.o o 7 rfl, bA.o o 8 rfl, bA.o o 9 rfl, bA.o o 10 rfl, bA.o o 11 rfl, bA.o o 12 rfl, bY.o o 0 rfl, bY.o o 1 rfl, bY.o o 2 rfl, bY.o o 3 rfl, bY.o o 4 rfl, bY.o o 5 rfl, bY.o o 6 rfl, bY.o o 7 rfl, bY.o o 8 rfl, bY.o o 9 rfl, bY.o o 10 rfl, bY.o o 11 rfl, bY.o o 12 rfl⟩) (over_step (‹Over w5 _ ∧ _›).1 (by assumption))))
    ((first | (go_at_call 25; refine (toE_any _ _ _ _ gs cs ps ms ek ee kn sa ho ix pr bw er _ (hg.keep (‹Over w5 _ ∧ _›).1) (hc.keep (‹Over w5 _ ∧ _›).1) (hp.keep (‹Over w5 _ ∧ _›).1) (hm.keep (‹Over w5 _ ∧ _›).1) L0.out L1.out L2.out L3.out).mono ?_; rintro e wa ⟨g6, gx6, c6, cx6, p6, px6, m6, mx6, rfl, hG6, hC6, hP6, hM6, ap60, ap61, ap62, ap63, ap64, ap65, hba⟩) | (go_at_call 27; refine (eqE_same _ _ _ _ gs cs ps ms ek ee kn sa ho ix pr bw er _ _ _ _ _ (hG4.rd.keep (‹Over w5 _ ∧ _›).1) (hC4.rd.keep (‹Over w5 _ ∧ _›).1) ((hP4.rd hp.1).keep (‹Over w5 _ ∧ _›).1) ((hM4.rd hm.1).keep (‹Over w5 _ ∧ _›).1) hG6.rd hC6.rd (hP6.rd hp.1) (hM6.rd hm.1)).mono ?_; rintro e w9 ⟨rfl, hbb⟩) | fail))
  clear hba hG6 hC6 hP6 hM6 ap60 ap61 ap62 ap63 ap64 ap65 hbb
  rename_i hH
  have hb := hH.1
  clear hH
  replace B0 := below_step B0 hb
  clear hb
  go_wp2
  go_ret
  exact ⟨rfl, B0⟩

set_option maxRecDepth 100000 in
theorem lifted (os : Os) (started : os.Started) (H : Type) (enc : TypeId × Value → H) :
    ReturnsInHanded {} Try.checked os 6 .any (Rows.fnExactEventOkSpec.pre6 enc Try.prog Try.f6 Rows.fnExactEventOkRow.domain false) (Rows.fnExactEventOkSpec.post enc Try.prog Try.f6 false true false false) := by
  refine returnsInHanded_of_change (C := Try.checked) own started (by kernel_rfl) Try.func6
    (ChangeSpec.witness6 (enc := enc) (C := Try.checked) false ⟨#[], #[.agg #[.int .i64 0, .int .i64 0, .int .i64 0, .int .i64 0, .int .i64 0, .slice none 0 0, .slice none 0 0, .slice none 0 0, .int .i64 0, .slice none 0 0, .int .i64 0, .int .i64 0, .int .i64 0]], []⟩ 8 (by kernel_rfl) (by kernel_rfl) (by kernel_rfl) (by kernel_rfl)) ?_
  intro W base args ds gs before hval0 hW hcnd _
  have hval : ∀ (j : Nat) t v, Try.f6.params[j]? = some t → args[j]? = some v → Value.okWide Try.prog W .any base t v := hval0
  have hW' := hW
  obtain ⟨p, q, hA0, hV, rfl, hfz, hnd⟩ := hW
  have hA : DataW.TrodAll enc Try.prog W 0 (fun _ => true) true Try.f6.params.toList args.toList ds p := hA0
  rw [Try.params6] at hA hval
  obtain ⟨v0, vs0, d0, ds0, p0, q0, hargs, rfl, rfl, h0, r0⟩ := trodAll_cons hA
  obtain ⟨rfl, rfl, rfl⟩ := trodAll_nil r0
  obtain rfl : args = #[v0] := by cases args; simp_all
  obtain ⟨rfl, rfl⟩ := trodVars_none hV
  have lt0 : ∀ x ∈ p0, x.block < W.heap.size := by obtain ⟨m, hm⟩ := h0; exact DataW.trod_lt m _ _ _ hm
  have w0 := is_Event (hval 0 54 v0 rfl rfl) h0
  clear hA0 hval0 hval
  refine (walk W v0 w0).mono fun e W' ⟨he, bel⟩ => ?_
  subst he
  exact ⟨_, rfl, _, _, _, [], _, [], hW', trodAll_mk1 (shut_bool Try.underlying4 _), (trodAll_cons_mk (Below.trod laidOut (by kernel_rfl) (of_decide_eq_true (by kernel_rfl)) h0 bel lt0) trodAll_mk0), rfl, bel.frame _, fun h => by cases h⟩

theorem over : Rows.fnExactEventOkRow.holds Try.pinned (OpenSpec.ofChange Rows.fnExactEventOkSpec) :=
  OpenClaim.holds_of_wide 6 Try.f6 rfl rfl rfl rfl rfl rfl rfl ⟨rfl, rfl, rfl, rfl, rfl⟩ rfl rfl rfl rfl rfl (by kernel_rfl) Try.func6 (by kernel_rfl)
    (of_decide_eq_true (by kernel_rfl)) (by unfold Func.isWrapper; first | (rw [if_pos (by decide +kernel)]; kernel_rfl) | (rw [if_neg (by decide +kernel)]; exact ⟨rfl, rfl⟩))
    (fun os started H enc _ => lifted os started H enc)

theorem proved : Rows.FnExactEventOkSaid := over
end Go.Proofs.Ytaffcicgljoajaa.fnExactEventOk
