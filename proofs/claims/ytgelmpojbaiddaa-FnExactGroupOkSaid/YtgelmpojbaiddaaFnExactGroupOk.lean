/-
  The law 'FnExactGroupOk' returns true for every input, and its arguments read afterwards as before: the given statement 'Rows.FnExactGroupOkSaid'. No condition.
-/
import Derived.Test.YtgelmpojbaiddaaO1
import Derived.Test.YtgelmpojbaiddaaGC
namespace Go.Proofs.Ytgelmpojbaiddaa.fnExactGroupOk
open Go.ChangeShapes Go.WideShapes Go.ChangeAt Go.RowKit Go.Proofs.Ytgelmpojbaiddaa
set_option linter.unusedVariables false
set_option maxRecDepth 100000
set_option maxHeartbeats 2000000 in
theorem walk (W : World) (v0 : Value) (w0 : Is_Group W v0) :
    Calls Try.prog 3 #[v0] W fun e w' => e = .returned (.bool true) ∧ Below W.heap.size W w' := by
  obtain ⟨u, E, rfl, hR⟩ := w0
  obtain ⟨bA, B0, z⟩ := one W [.int .i64 E.a, .int .i64 E.n, u] 26
  replace hR := hR.keep B0
  clear z
  obtain ⟨g, hg⟩ : ∃ g, grpB E.a E.n E.h = g := ⟨_, rfl⟩
  have HG := Lib.hid hg
  have hgg : (g != g) = false := by simp
  clear hg
  obtain ⟨x, c, hv⟩ := hR.len
  rw [hv] at hR bA B0 ⊢
  clear hv
  obtain ⟨r, hr⟩ : ∃ r, szN 1048576 E.h.length = r := ⟨_, rfl⟩
  have hneg1 : ¬ r < 0 → E.h.length ≤ 1048576 := by
    rw [← hr]
    unfold szN
    split <;> omega
  have HR := Lib.hid hr
  have HN1 := Lib.hid hneg1
  clear hr hneg1
  go_enter Try.func3, Try.ntmps3
  go_wp2_with fail
  refine (szGrp_any _ E.h _ _ _ _ hR (by decide) (by decide)).mono ?_
  rw [HR.out]
  rintro e w1 ⟨rfl, hb⟩
  replace bA := bA.keep hb
  replace hR := hR.keep hb
  replace B0 := below_step B0 hb
  clear hb
  by_cases hneg : r < 0
  · go_wp2_with fail
    go_ret
    exact ⟨rfl, B0⟩
  · have hlen := HN1.out (by omega)
    have a0 := bA.c 0 rfl
    have a1 := bA.c 1 rfl
    have a2 := bA.c 2 rfl
    go_wp2_with fail
    clear a0 a1 a2
    refine (toGrp_any _ E.h _ _ _ hR hlen).mono ?_
    rintro e w2 ⟨x2, c2, rfl, h2, hb⟩
    replace bA := bA.keep hb
    replace hR := hR.keep hb
    replace B0 := below_step B0 hb
    clear hb
    have a0 := bA.c 0 rfl
    have a1 := bA.c 1 rfl
    have a2 := bA.c 2 rfl
    go_wp2_with fail
    clear a0 a1 a2
    refine (sgrp_t _ h2.rd HG).mono ?_
    rintro e w3 ⟨rfl, hb⟩
    replace bA := bA.keep hb
    replace hR := hR.keep hb
    replace B0 := below_step B0 hb
    clear hb h2
    have a0 := bA.c 0 rfl
    have a1 := bA.c 1 rfl
    have a2 := bA.c 2 rfl
    go_wp2_with fail
    clear a0 a1 a2
    refine (toGrp_any _ E.h _ _ _ hR hlen).mono ?_
    rintro e w4 ⟨x4, c4, rfl, h4, hb⟩
    replace bA := bA.keep hb
    replace hR := hR.keep hb
    replace B0 := below_step B0 hb
    clear hb
    replace h4 := h4.rd
    have a0 := bA.c 0 rfl
    have a1 := bA.c 1 rfl
    have a2 := bA.c 2 rfl
    go_wp2_with fail
    clear a0 a1 a2
    obtain ⟨X, eX⟩ : ∃ X, X = w4.heap.size := ⟨_, rfl⟩
    obtain ⟨bX, bW, z⟩ := one w4 [.int .i64 E.a, .int .i64 E.n, .slice x4 E.h.length c4] 32
    rw [← eX] at bX bW ⊢
    clear z eX
    replace bA := bA.keep (w' := w4.alloc (.cells #[.int .i64 E.a, .int .i64 E.n, .slice x4 E.h.length c4] 32)) ((Below.refl _ _).alloc (Nat.le_refl _) _)
    replace hR := hR.alloc (.cells #[.int .i64 E.a, .int .i64 E.n, .slice x4 E.h.length c4] 32)
    replace h4 := h4.alloc (.cells #[.int .i64 E.a, .int .i64 E.n, .slice x4 E.h.length c4] 32)
    replace B0 := B0.alloc B0.size (.cells #[.int .i64 E.a, .int .i64 E.n, .slice x4 E.h.length c4] 32)
    clear bW
    refine (igrp_t _ h4 HG).mono ?_
    rintro e w5 ⟨rfl, hb⟩
    replace bX := bX.keep hb
    replace h4 := h4.keep hb
    replace bA := bA.keep hb
    replace hR := hR.keep hb
    replace B0 := below_step B0 hb
    clear hb
    go_wp2_with fail
    go_region_held3 (fun w' => Over w5 w' ∧ w'.cell? ⟨W.heap.size, 0, none⟩ = some (.int .i64 E.a) ∧ w'.cell? ⟨W.heap.size, 1, none⟩ = some (.int .i64 E.n) ∧ w'.cell? ⟨W.heap.size, 2, none⟩ = some (.slice x E.h.length c) ∧ w'.cell? ⟨X, 0, none⟩ = some (.int .i64 E.a) ∧ w'.cell? ⟨X, 1, none⟩ = some (.int .i64 E.n) ∧ w'.cell? ⟨X, 2, none⟩ = some (.slice x4 E.h.length c4))
      ((first | exact ⟨over_drew _, bA.c 0 rfl, bA.c 1 rfl, bA.c 2 rfl, bX.c 0 rfl, bX.c 1 rfl, bX.c 2 rfl⟩ | exact (fun o => ⟨o, bA.o o 0 rfl, bA.o o 1 rfl, bA.o o 2 rfl, bX.o o 0 rfl, bX.o o 1 rfl, bX.o o 2 rfl⟩) (over_step (‹Over w5 _ ∧ _›).1 (by assumption))))
      ((first | (go_at_call 12; refine (toGrp_any _ E.h _ _ _ (hR.keep (‹Over w5 _ ∧ _›).1) hlen).mono ?_; rintro e wa ⟨xa, ca, rfl, hxa, hba⟩) | (go_at_call 14; refine (eqGrp_same _ _ E.h _ _ _ (h4.keep (‹Over w5 _ ∧ _›).1) hxa.rd).mono ?_; rintro e w6 ⟨rfl, hbb⟩)))
    rename_i hH
    replace hH := hH.1
    clear hbb hba hxa
    replace B0 := below_step B0 hH
    clear hH
    go_wp2
    go_ret
    exact ⟨rfl, B0⟩

set_option maxRecDepth 100000 in
theorem lifted (os : Os) (started : os.Started) (H : Type) (enc : TypeId × Value → H) :
    ReturnsInHanded {} Try.checked os 3 .any (Rows.fnExactGroupOkSpec.pre6 enc Try.prog Try.f3 Rows.fnExactGroupOkRow.domain false) (Rows.fnExactGroupOkSpec.post enc Try.prog Try.f3 false true false false) := by
  refine returnsInHanded_of_change (C := Try.checked) own started (by kernel_rfl) Try.func3
    (ChangeSpec.witness6 (enc := enc) (C := Try.checked) false ⟨#[], #[.agg #[.int .i64 0, .int .i64 0, .slice none 0 0]], []⟩ 8 (by kernel_rfl) (by kernel_rfl) (by kernel_rfl) (by kernel_rfl)) ?_
  intro W base args ds gs before hval0 hW hcnd _
  have hval : ∀ (j : Nat) t v, Try.f3.params[j]? = some t → args[j]? = some v → Value.okWide Try.prog W .any base t v := hval0
  have hW' := hW
  obtain ⟨p, q, hA0, hV, rfl, hfz, hnd⟩ := hW
  have hA : DataW.TrodAll enc Try.prog W 0 (fun _ => true) true Try.f3.params.toList args.toList ds p := hA0
  rw [Try.params3] at hA hval
  obtain ⟨v0, vs0, d0, ds0, p0, q0, hargs, rfl, rfl, h0, r0⟩ := trodAll_cons hA
  obtain ⟨rfl, rfl, rfl⟩ := trodAll_nil r0
  obtain rfl : args = #[v0] := by cases args; simp_all
  obtain ⟨rfl, rfl⟩ := trodVars_none hV
  have lt0 : ∀ x ∈ p0, x.block < W.heap.size := by obtain ⟨m, hm⟩ := h0; exact DataW.trod_lt m _ _ _ hm
  have w0 := is_Group (hval 0 26 v0 rfl rfl) h0
  clear hA0 hval0 hval
  refine (walk W v0 w0).mono fun e W' ⟨he, bel⟩ => ?_
  subst he
  exact ⟨_, rfl, _, _, _, [], _, [], hW', trodAll_mk1 (shut_bool Try.underlying4 _), (trodAll_cons_mk (Below.trod laidOut (by kernel_rfl) (of_decide_eq_true (by kernel_rfl)) h0 bel lt0) trodAll_mk0), rfl, bel.frame _, fun h => by cases h⟩

theorem over : Rows.fnExactGroupOkRow.holds Try.pinned (OpenSpec.ofChange Rows.fnExactGroupOkSpec) :=
  OpenClaim.holds_of_wide 3 Try.f3 rfl rfl rfl rfl rfl rfl rfl ⟨rfl, rfl, rfl, rfl, rfl⟩ rfl rfl rfl rfl rfl (by kernel_rfl) Try.func3 (by kernel_rfl)
    (of_decide_eq_true (by kernel_rfl)) (by unfold Func.isWrapper; first | (rw [if_pos (by decide +kernel)]; kernel_rfl) | (rw [if_neg (by decide +kernel)]; exact ⟨rfl, rfl⟩))
    (fun os started H enc _ => lifted os started H enc)

theorem proved : Rows.FnExactGroupOkSaid := over
end Go.Proofs.Ytgelmpojbaiddaa.fnExactGroupOk
