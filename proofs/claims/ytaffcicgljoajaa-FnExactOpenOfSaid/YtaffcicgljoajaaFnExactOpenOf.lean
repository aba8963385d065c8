/-
  The law 'FnExactOpenOf' returns true for every input, and its arguments read afterwards as before: the given statement 'Rows.FnExactOpenOfSaid'. No condition.
-/
import Derived.Test.YtaffcicgljoajaaO1
import Derived.Test.YtaffcicgljoajaaB3
import Derived.Test.YtaffcicgljoajaaS4
namespace Go.Proofs.Ytaffcicgljoajaa.fnExactOpenOf
open Go.ChangeShapes Go.WideShapes Go.ChangeAt Go.RowKit Go.Proofs.Ytaffcicgljoajaa
set_option linter.unusedVariables false
set_option maxRecDepth 100000
set_option maxHeartbeats 2000000 in
theorem walk (W : World) (v0 : Value) (w0 : Is_Conf W v0) :
    Calls Try.prog 7 #[v0] W fun e w' => e = .returned (.bool true) ∧ Below W.heap.size W w' := by
  obtain ⟨sa, ix, ho, pe, rfl⟩ := w0
  obtain ⟨k, a, h, i, t, hop⟩ := opIs_ex sa ix ho pe
  have HO := Lib.hid hop
  have htt : (t != t) = false := by simp
  clear hop
  obtain ⟨bA, B0, z⟩ := one W [.int .i64 sa, .int .i64 ix, .int .i64 ho, .int .i64 pe] 38
  clear z
  go_enter Try.func7, Try.ntmps7
  have fa0 := bA.c 0 rfl
  have fa1 := bA.c 1 rfl
  have fa2 := bA.c 2 rfl
  have fa3 := bA.c 3 rfl
  go_wp2_with fail
  clear fa0 fa1 fa2 fa3
  refine (toCf_any sa ix ho pe _).mono ?_
  rintro e w1 ⟨rfl, hb⟩
  replace bA := bA.keep hb
  replace B0 := below_step B0 hb
  clear hb
  go_wp2_with fail
  refine (specOp_any _ HO).mono ?_
  rintro e w2 ⟨rfl, hb⟩
  replace bA := bA.keep hb
  replace B0 := below_step B0 hb
  clear hb
  obtain ⟨bW, hb, z⟩ := one w2 [.int .i64 k, .int .i64 a, .int .i64 h, .int .i64 i, .slice none 0 0, .slice none 0 0, .slice none 0 0, .int .i64 0, .slice none 0 0, .int .i64 0, .int .i64 0] 28
  clear z
  replace bA := bA.keep hb
  replace B0 := below_step B0 hb
  clear hb
  have fa0 := bA.c 0 rfl
  have fa1 := bA.c 1 rfl
  have fa2 := bA.c 2 rfl
  have fa3 := bA.c 3 rfl
  go_wp2_with fail
  clear fa0 fa1 fa2 fa3
  refine (toCf_any sa ix ho pe _).mono ?_
  rintro e w3 ⟨rfl, hb⟩
  replace bA := bA.keep hb
  replace bW := bW.keep hb
  replace B0 := below_step B0 hb
  clear hb
  go_wp2_with fail
  refine (implOp_any _ HO).mono ?_
  rintro e w4 ⟨rfl, hb⟩
  replace bA := bA.keep hb
  replace bW := bW.keep hb
  replace B0 := below_step B0 hb
  clear hb
  obtain ⟨bG, hb, z⟩ := one w4 [.int .i64 k, .int .i64 a, .int .i64 h, .int .i64 i, .slice none 0 0, .slice none 0 0, .slice none 0 0, .int .i64 0, .slice none 0 0, .int .i64 0, .int .i64 0] 28
  clear z
  replace bA := bA.keep hb
  replace bW := bW.keep hb
  replace B0 := below_step B0 hb
  clear hb
  have x0 := bG.c 0 rfl
  have x1 := bG.c 1 rfl
  have x2 := bG.c 2 rfl
  have x3 := bG.c 3 rfl
  have x4 := bG.c 4 rfl
  have x5 := bG.c 5 rfl
  have x6 := bG.c 6 rfl
  have x7 := bG.c 7 rfl
  have x8 := bG.c 8 rfl
  have x9 := bG.c 9 rfl
  have x10 := bG.c 10 rfl
  have y0 := bW.c 0 rfl
  have y1 := bW.c 1 rfl
  have y2 := bW.c 2 rfl
  have y3 := bW.c 3 rfl
  have y4 := bW.c 4 rfl
  have y5 := bW.c 5 rfl
  have y6 := bW.c 6 rfl
  have y7 := bW.c 7 rfl
  have y8 := bW.c 8 rfl
  have y9 := bW.c 9 rfl
  have y10 := bW.c 10 rfl
  go_wp2_with fail
  clear x0 x1 x2 x3 x4 x5 x6 x7 x8 x9 x10
  clear y0 y1 y2 y3 y4 y5 y6 y7 y8 y9 y10
  refine (eqM_0 _ _ _ _ _ _).mono ?_
  rintro e w5 ⟨rfl, hb⟩
  replace bA := bA.keep hb
  replace bW := bW.keep hb
  replace bG := bG.keep hb
  replace B0 := below_step B0 hb
  clear hb
  have g0 := bG.c 0 rfl
  have g1 := bG.c 1 rfl
  have g2 := bG.c 2 rfl
  have g3 := bG.c 3 rfl
  have g4 := bG.c 4 rfl
  have g5 := bG.c 5 rfl
  have g6 := bG.c 6 rfl
  have g7 := bG.c 7 rfl
  have g8 := bG.c 8 rfl
  have g9 := bG.c 9 rfl
  have g10 := bG.c 10 rfl
  go_wp2_with fail
  clear g0 g1 g2 g3 g4 g5 g6 g7 g8 g9 g10
  refine (markM_0 _ _ _ _ _ 1 _ (by decide)).mono ?_
  rintro e w6 ⟨rfl, hb⟩
  replace bA := bA.keep hb
  replace bW := bW.keep hb
  replace bG := bG.keep hb
  replace B0 := below_step B0 hb
  clear hb
  have g0 := bG.c 0 rfl
  have g1 := bG.c 1 rfl
  have g2 := bG.c 2 rfl
  have g3 := bG.c 3 rfl
  have g4 := bG.c 4 rfl
  have g5 := bG.c 5 rfl
  have g6 := bG.c 6 rfl
  have g7 := bG.c 7 rfl
  have g8 := bG.c 8 rfl
  have g9 := bG.c 9 rfl
  have g10 := bG.c 10 rfl
  go_wp2_with fail
  clear g0 g1 g2 g3 g4 g5 g6 g7 g8 g9 g10
  refine (heldM_0 _ _ _ _ _ 1 _ (by decide)).mono ?_
  rintro e w7 ⟨rfl, hb⟩
  replace bA := bA.keep hb
  replace bW := bW.keep hb
  replace bG := bG.keep hb
  replace B0 := below_step B0 hb
  clear hb
  have fa0 := bA.c 0 rfl
  have fa1 := bA.c 1 rfl
  have fa2 := bA.c 2 rfl
  have fa3 := bA.c 3 rfl
  go_wp2_with fail
  clear fa0 fa1 fa2 fa3
  refine (toCf_any sa ix ho pe _).mono ?_
  rintro e w8 ⟨rfl, hb⟩
  replace bA := bA.keep hb
  replace bW := bW.keep hb
  replace bG := bG.keep hb
  replace B0 := below_step B0 hb
  clear hb
  go_wp2_with fail
  refine (implOp_any _ HO).mono ?_
  rintro e w9 ⟨rfl, hb⟩
  replace bA := bA.keep hb
  replace bW := bW.keep hb
  replace bG := bG.keep hb
  replace B0 := below_step B0 hb
  clear hb
  obtain ⟨bH, hb, z⟩ := one w9 [.int .i64 k, .int .i64 a, .int .i64 h, .int .i64 i, .slice none 0 0, .slice none 0 0, .slice none 0 0, .int .i64 0, .slice none 0 0, .int .i64 0, .int .i64 0] 28
  clear z
  replace bA := bA.keep hb
  replace bW := bW.keep hb
  replace bG := bG.keep hb
  replace B0 := below_step B0 hb
  clear hb
  have x0 := bH.c 0 rfl
  have x1 := bH.c 1 rfl
  have x2 := bH.c 2 rfl
  have x3 := bH.c 3 rfl
  have x4 := bH.c 4 rfl
  have x5 := bH.c 5 rfl
  have x6 := bH.c 6 rfl
  have x7 := bH.c 7 rfl
  have x8 := bH.c 8 rfl
  have x9 := bH.c 9 rfl
  have x10 := bH.c 10 rfl
  have y0 := bW.c 0 rfl
  have y1 := bW.c 1 rfl
  have y2 := bW.c 2 rfl
  have y3 := bW.c 3 rfl
  have y4 := bW.c 4 rfl
  have y5 := bW.c 5 rfl
  have y6 := bW.c 6 rfl
  have y7 := bW.c 7 rfl
  have y8 := bW.c 8 rfl
  have y9 := bW.c 9 rfl
  have y10 := bW.c 10 rfl
  go_wp2_with fail
  clear x0 x1 x2 x3 x4 x5 x6 x7 x8 x9 x10
  clear y0 y1 y2 y3 y4 y5 y6 y7 y8 y9 y10
  refine (eqM_0 _ _ _ _ _ _).mono ?_
  rintro e w10 ⟨rfl, hb⟩
  replace bA := bA.keep hb
  replace bW := bW.keep hb
  replace bG := bG.keep hb
  replace bH := bH.keep hb
  replace B0 := below_step B0 hb
  clear hb
  have g0 := bG.c 0 rfl
  have g1 := bG.c 1 rfl
  have g2 := bG.c 2 rfl
  have g3 := bG.c 3 rfl
  have g4 := bG.c 4 rfl
  have g5 := bG.c 5 rfl
  have g6 := bG.c 6 rfl
  have g7 := bG.c 7 rfl
  have g8 := bG.c 8 rfl
  have g9 := bG.c 9 rfl
  have g10 := bG.c 10 rfl
  go_wp2_with fail
  clear g0 g1 g2 g3 g4 g5 g6 g7 g8 g9 g10
  refine (heldM_0 _ _ _ _ _ 1 _ (by decide)).mono ?_
  rintro e w11 ⟨rfl, hb⟩
  replace bA := bA.keep hb
  replace bW := bW.keep hb
  replace bG := bG.keep hb
  replace bH := bH.keep hb
  replace B0 := below_step B0 hb
  clear hb
  go_wp2
  go_ret
  exact ⟨rfl, B0⟩

set_option maxRecDepth 100000 in
theorem lifted (os : Os) (started : os.Started) (H : Type) (enc : TypeId × Value → H) :
    ReturnsInHanded {} Try.checked os 7 .any (Rows.fnExactOpenOfSpec.pre6 enc Try.prog Try.f7 Rows.fnExactOpenOfRow.domain false) (Rows.fnExactOpenOfSpec.post enc Try.prog Try.f7 false true false false) := by
  refine returnsInHanded_of_change (C := Try.checked) own started (by kernel_rfl) Try.func7
    (ChangeSpec.witness6 (enc := enc) (C := Try.checked) false ⟨#[], #[.agg #[.int .i64 0, .int .i64 0, .int .i64 0, .int .i64 0]], []⟩ 8 (by kernel_rfl) (by kernel_rfl) (by kernel_rfl) (by kernel_rfl)) ?_
  intro W base args ds gs before hval0 hW hcnd _
  have hval : ∀ (j : Nat) t v, Try.f7.params[j]? = some t → args[j]? = some v → Value.okWide Try.prog W .any base t v := hval0
  have hW' := hW
  obtain ⟨p, q, hA0, hV, rfl, hfz, hnd⟩ := hW
  have hA : DataW.TrodAll enc Try.prog W 0 (fun _ => true) true Try.f7.params.toList args.toList ds p := hA0
  rw [Try.params7] at hA hval
  obtain ⟨v0, vs0, d0, ds0, p0, q0, hargs, rfl, rfl, h0, r0⟩ := trodAll_cons hA
  obtain ⟨rfl, rfl, rfl⟩ := trodAll_nil r0
  obtain rfl : args = #[v0] := by cases args; simp_all
  obtain ⟨rfl, rfl⟩ := trodVars_none hV
  have lt0 : ∀ x ∈ p0, x.block < W.heap.size := by obtain ⟨m, hm⟩ := h0; exact DataW.trod_lt m _ _ _ hm
  have w0 := is_Conf (hval 0 38 v0 rfl rfl) h0
  clear hA0 hval0 hval
  refine (walk W v0 w0).mono fun e W' ⟨he, bel⟩ => ?_
  subst he
  exact ⟨_, rfl, _, _, _, [], _, [], hW', trodAll_mk1 (shut_bool Try.underlying4 _), (trodAll_cons_mk (Below.trod laidOut (by kernel_rfl) (of_decide_eq_true (by kernel_rfl)) h0 bel lt0) trodAll_mk0), rfl, bel.frame _, fun h => by cases h⟩

theorem over : Rows.fnExactOpenOfRow.holds Try.pinned (OpenSpec.ofChange Rows.fnExactOpenOfSpec) :=
  OpenClaim.holds_of_wide 7 Try.f7 rfl rfl rfl rfl rfl rfl rfl ⟨rfl, rfl, rfl, rfl, rfl⟩ rfl rfl rfl rfl rfl (by kernel_rfl) Try.func7 (by kernel_rfl)
    (of_decide_eq_true (by kernel_rfl)) (by unfold Func.isWrapper; first | (rw [if_pos (by decide +kernel)]; kernel_rfl) | (rw [if_neg (by decide +kernel)]; exact ⟨rfl, rfl⟩))
    (fun os started H enc _ => lifted os started H enc)

theorem proved : Rows.FnExactOpenOfSaid := over
end Go.Proofs.Ytaffcicgljoajaa.fnExactOpenOf
