/-
  The law 'FnExactPick' returns true for every input, and its arguments read afterwards as before: the given statement 'Rows.FnExactPickSaid'. No condition.
-/
import Derived.Test.YtbcmoofpgffbhaaO1
import Derived.Test.YtbcmoofpgffbhaaQC
namespace Go.Proofs.Ytbcmoofpgffbhaa.fnExactPick
open Go.ChangeShapes Go.WideShapes Go.ChangeAt Go.RowKit Go.Proofs.Ytbcmoofpgffbhaa
set_option linter.unusedVariables false
set_option maxRecDepth 100000
set_option linter.unusedSimpArgs false
set_option maxHeartbeats 4000000 in
theorem walk (W : World) (v0 v1 : Value) (w0 : Is_Group W v0) (w1 : Is_int W v1) :
    Calls Try.prog 6 #[v0, v1] W fun e w' => e = .returned (.bool true) ∧ Below W.heap.size W w' := by
  obtain ⟨u, E, rfl, hR⟩ := w0
  obtain ⟨h, rfl, -, -⟩ := w1
  obtain ⟨bA, B0, z⟩ := one W [.int .i64 E.a, .int .i64 E.n, u] 65
  replace hR := hR.keep B0
  clear z
  obtain ⟨g, hg⟩ : ∃ g, pickF E.a E.n E.h h = g := ⟨_, rfl⟩
  have HG := Lib.hid hg
  have hgg : (g != g) = false := by simp
  clear hg
  obtain ⟨x, c, hv⟩ := hR.len
  rw [hv] at hR bA B0 ⊢
  clear hv
  obtain ⟨r, hr⟩ : ∃ r, szN 1048576 E.h.length = r := ⟨_, rfl⟩
  have hneg1 : ¬ r < 0 → E.h.length ≤ 1048576 := by
    rw [← hr]
    unfold szN
    split <;> omega
  have HR := Lib.hid hr
  have HN1 := Lib.hid hneg1
  clear hr hneg1
  go_enter Try.func6, Try.ntmps6
  go_wp2_with fail
  refine (szGrp_any _ E.h _ _ _ _ hR (by decide) (by decide)).mono ?_
  rw [HR.out]
  rintro e w1 ⟨rfl, hb⟩
  replace bA := bA.keep hb
  replace hR := hR.keep hb
  replace B0 := below_step B0 hb
  clear hb
  by_cases hneg : r < 0
  · go_wp2_with fail
    go_ret
    exact ⟨rfl, B0⟩
  · have hlen := HN1.out (by omega)
    have a0 := bA.c 0 rfl
    have a1 := bA.c 1 rfl
    have a2 := bA.c 2 rfl
    go_wp2_with fail
    clear a0 a1 a2
    refine (toGrp_any _ E.h _ _ _ hR hlen).mono ?_
    rintro e w2 ⟨x2, c2, rfl, h2, hb⟩
    replace bA := bA.keep hb
    replace hR := hR.keep hb
    replace B0 := below_step B0 hb
    clear hb
    go_wp2_with fail
    refine (spick_any _ E.h _ _ _ _ h2.rd).mono ?_
    rw [HG.out]
    rintro e w3 ⟨rfl, hb⟩
    clear h2
    replace bA := bA.keep hb
    replace hR := hR.keep hb
    replace B0 := below_step B0 hb
    clear hb
    have a0 := bA.c 0 rfl
    have a1 := bA.c 1 rfl
    have a2 := bA.c 2 rfl
    go_wp2_with fail
    clear a0 a1 a2
    refine (toGrp_any _ E.h _ _ _ hR hlen).mono ?_
    rintro e w4 ⟨x4, c4, rfl, h4, hb⟩
    replace bA := bA.keep hb
    replace hR := hR.keep hb
    replace B0 := below_step B0 hb
    clear hb
    replace h4 := h4.rd
    obtain ⟨bX, bW, z⟩ := one w4 [.int .i64 E.a, .int .i64 E.n, .slice x4 E.h.length c4] 70
    have x0 := bX.c 0 rfl
    have x1 := bX.c 1 rfl
    have x2 := bX.c 2 rfl
    go_wp2_with fail
    clear x0 x1 x2
    obtain ⟨X, eX⟩ : ∃ X, X = w4.heap.size := ⟨_, rfl⟩
    rw [← eX] at bX bW ⊢
    clear z eX
    replace bA := bA.keep (w' := w4.alloc (.cells #[.int .i64 E.a, .int .i64 E.n, .slice x4 E.h.length c4] 70)) ((Below.refl _ _).alloc (Nat.le_refl _) _)
    replace hR := hR.alloc (.cells #[.int .i64 E.a, .int .i64 E.n, .slice x4 E.h.length c4] 70)
    replace h4 := h4.alloc (.cells #[.int .i64 E.a, .int .i64 E.n, .slice x4 E.h.length c4] 70)
    replace B0 := B0.alloc B0.size (.cells #[.int .i64 E.a, .int .i64 E.n, .slice x4 E.h.length c4] 70)
    clear bW
    refine (ipick_any _ E.h _ _ _ _ h4).mono ?_
    rw [HG.out]
    rintro e w5 ⟨rfl, hb⟩
    replace bX := bX.keep hb
    replace h4 := h4.keep hb
    replace bA := bA.keep hb
    replace hR := hR.keep hb
    replace B0 := below_step B0 hb
    clear hb
    go_wp2_with fail
    go_region_held3 (fun w' => Over w5 w' ∧ w'.cell? ⟨W.heap.size, 0, none⟩ = some (.int .i64 E.a) ∧ w'.cell? ⟨W.heap.size, 1, none⟩ = some (.int .i64 E.n) ∧ w'.cell? ⟨W.heap.size, 2, none⟩ = some (.slice x E.h.length c) ∧ w'.cell? ⟨X, 0, none⟩ = some (.int .i64 E.a) ∧ w'.cell? ⟨X, 1, none⟩ = some (.int .i64 E.n) ∧ w'.cell? ⟨X, 2, none⟩ = some (.slice x4 E.h.length c4))
      ((first | exact ⟨over_drew _, bA.c 0 rfl, bA.c 1 rfl, bA.c 2 rfl, bX.c 0 rfl, bX.c 1 rfl, bX.c 2 rfl⟩ | exact (fun o => ⟨o, bA.o o 0 rfl, bA.o o 1 rfl, bA.o o 2 rfl, bX.o o 0 rfl, bX.o o 1 rfl, bX.o o 2 rfl⟩) (over_step (‹Over w5 _ ∧ _›).1 (by assumption))))
      ((first | (go_at_call 34; refine (toGrp_any _ E.h _ _ _ (hR.keep (‹Over w5 _ ∧ _›).1) hlen).mono ?_; rintro e wa ⟨xa, ca, rfl, hxa, hba⟩) | (go_at_call 36; refine (eqGrp_same _ _ E.h _ _ _ (h4.keep (‹Over w5 _ ∧ _›).1) hxa.rd).mono ?_; rintro e w6 ⟨rfl, hbb⟩)))
    rename_i hH
    replace hH := hH.1
    clear hbb hba hxa
    replace B0 := below_step B0 hH
    clear hH
    go_wp2
    go_ret
    exact ⟨rfl, B0⟩

set_option maxRecDepth 100000 in
theorem lifted (os : Os) (started : os.Started) (H : Type) (enc : TypeId × Value → H) :
    ReturnsInHanded {} Try.checked os 6 .any (Rows.fnExactPickSpec.pre6 enc Try.prog Try.f6 Rows.fnExactPickRow.domain false) (Rows.fnExactPickSpec.post enc Try.prog Try.f6 false true false false) := by
  refine returnsInHanded_of_change (C := Try.checked) own started (by kernel_rfl) Try.func6
    (ChangeSpec.witness6 (enc := enc) (C := Try.checked) false ⟨#[], #[.agg #[.int .i64 0, .int .i64 0, .slice none 0 0], .int .i64 0], []⟩ 8 (by kernel_rfl) (by kernel_rfl) (by kernel_rfl) (by kernel_rfl)) ?_
  intro W base args ds gs before hval0 hW hcnd _
  have hval : ∀ (j : Nat) t v, Try.f6.params[j]? = some t → args[j]? = some v → Value.okWide Try.prog W .any base t v := hval0
  have hW' := hW
  obtain ⟨p, q, hA0, hV, rfl, hfz, hnd⟩ := hW
  have hA : DataW.TrodAll enc Try.prog W 0 (fun _ => true) true Try.f6.params.toList args.toList ds p := hA0
  rw [Try.params6] at hA hval
  obtain ⟨v0, vs0, d0, ds0, p0, q0, hargs, rfl, rfl, h0, r0⟩ := trodAll_cons hA
  obtain ⟨v1, vs1, d1, ds1, p1, q1, rfl, rfl, rfl, h1, r1⟩ := trodAll_cons r0
  obtain ⟨rfl, rfl, rfl⟩ := trodAll_nil r1
  obtain rfl : args = #[v0, v1] := by cases args; simp_all
  obtain ⟨rfl, rfl⟩ := trodVars_none hV
  have lt0 : ∀ x ∈ p0, x.block < W.heap.size := by obtain ⟨m, hm⟩ := h0; exact DataW.trod_lt m _ _ _ hm
  have w0 := is_Group (hval 0 65 v0 rfl rfl) h0
  have lt1 : ∀ x ∈ p1, x.block < W.heap.size := by obtain ⟨m, hm⟩ := h1; exact DataW.trod_lt m _ _ _ hm
  have w1 := is_int (hval 1 3 v1 rfl rfl) h1
  clear hA0 hval0 hval
  refine (walk W v0 v1 w0 w1).mono fun e W' ⟨he, bel⟩ => ?_
  subst he
  exact ⟨_, rfl, _, _, _, [], _, [], hW', trodAll_mk1 (shut_bool Try.underlying4 _), (trodAll_cons_mk (Below.trod laidOut (by kernel_rfl) (of_decide_eq_true (by kernel_rfl)) h0 bel lt0) (trodAll_cons_mk (Below.trod laidOut (by kernel_rfl) (of_decide_eq_true (by kernel_rfl)) h1 bel lt1) trodAll_mk0)), rfl, bel.frame _, fun h => by cases h⟩

theorem over : Rows.fnExactPickRow.holds Try.pinned (OpenSpec.ofChange Rows.fnExactPickSpec) :=
  OpenClaim.holds_of_wide 6 Try.f6 rfl rfl rfl rfl rfl rfl rfl ⟨rfl, rfl, rfl, rfl, rfl⟩ rfl rfl rfl rfl rfl (by kernel_rfl) Try.func6 (by kernel_rfl)
    (of_decide_eq_true (by kernel_rfl)) (by unfold Func.isWrapper; first | (rw [if_pos (by decide +kernel)]; kernel_rfl) | (rw [if_neg (by decide +kernel)]; exact ⟨rfl, rfl⟩))
    (fun os started H enc _ => lifted os started H enc)

theorem proved : Rows.FnExactPickSaid := over
end Go.Proofs.Ytbcmoofpgffbhaa.fnExactPick
