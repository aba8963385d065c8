/-
  The law 'FnExactPathHas' returns true for every input, and its arguments read afterwards as before: the given statement 'Rows.FnExactPathHasSaid'. No condition.
-/
import Derived.Test.YtnobdcikkejeiaaI8
namespace Go.Proofs.Ytnobdcikkejeiaa.fnExactPathHas
open Go.ChangeShapes Go.WideShapes Go.ChangeAt Go.RowKit Go.Proofs.Ytnobdcikkejeiaa
set_option linter.unusedVariables false
set_option maxHeartbeats 1000000 in
theorem walk (W : World) (v0 v1 : Value) (w0 : Is_Attr W v0) (w1 : Is_int W v1) :
    Calls Try.prog 4 #[v0, v1] W fun e w' => e = .returned (.bool true) ∧ Below W.heap.size W w' := by
  obtain ⟨pv, cv, p, c, pr, bw, rfl, hp, hc, -, -⟩ := w0
  obtain ⟨an, rfl, -, -⟩ := w1
  have bA := Bx.new W pv (.int .i64 pr) cv (.int .i64 bw) 24 W.heap.size rfl
  have B0 : Below W.heap.size W (W.alloc (.cells #[pv, .int .i64 pr, cv, .int .i64 bw] 24)) := (Below.refl _ _).alloc (Nat.le_refl _) _
  replace hp := hp.alloc (.cells #[pv, .int .i64 pr, cv, .int .i64 bw] 24)
  replace hc := hc.alloc (.cells #[pv, .int .i64 pr, cv, .int .i64 bw] 24)
  by_cases hsz : szA 1048576 p c < 0
  · have g1 : szA 1048576 p c < 0 := hsz
    go_enter Try.func4, Try.ntmps4
    go_wp2_with fail
    refine (szA_any pv cv p c pr bw _ _ hp hc (by decide) (by decide)).mono ?_
    rintro e w1 ⟨rfl, hb⟩
    replace bA := bA.keep hb
    replace hp := hp.keep hb
    replace hc := hc.keep hb
    replace B0 := below_step B0 hb
    clear hb
    go_wp2
    go_ret
    exact ⟨rfl, B0⟩
  · have hpl := szA_p hsz
    have hcl := szA_c hsz
    have g1 : ¬ szA 1048576 p c < 0 := hsz
    go_enter Try.func4, Try.ntmps4
    go_wp2_with fail
    refine (szA_any pv cv p c pr bw _ _ hp hc (by decide) (by decide)).mono ?_
    rintro e w1 ⟨rfl, hb⟩
    replace bA := bA.keep hb
    replace hp := hp.keep hb
    replace hc := hc.keep hb
    replace B0 := below_step B0 hb
    clear hb
    have kA0 := bA.c0
    have kA1 := bA.c1
    have kA2 := bA.c2
    have kA3 := bA.c3
    go_wp2_with fail
    clear kA0 kA1 kA2 kA3
    refine (toA_any pv cv p c pr bw _ hp hc hpl hcl).mono ?_
    rintro e w2 ⟨ua2, ud2, ub2, uf2, rfl, hx2, hy2, hap2, hb⟩
    replace bA := bA.keep hb
    replace hp := hp.keep hb
    replace hc := hc.keep hb
    replace B0 := below_step B0 hb
    clear hb
    have kA0 := bA.c0
    have kA1 := bA.c1
    have kA2 := bA.c2
    have kA3 := bA.c3
    go_wp2_with fail
    clear kA0 kA1 kA2 kA3
    refine (spath_any _ _ p c pr bw an _ (hx2.rd hp.1) (hy2.rd hc.1)).mono ?_
    rintro e w3 ⟨rfl, hb⟩
    replace bA := bA.keep hb
    replace hx2 := hx2.keep hb
    replace hy2 := hy2.keep hb
    replace hp := hp.keep hb
    replace hc := hc.keep hb
    replace B0 := below_step B0 hb
    clear hb
    clear hx2 hy2 hap2
    have kA0 := bA.c0
    have kA1 := bA.c1
    have kA2 := bA.c2
    have kA3 := bA.c3
    go_wp2_with fail
    clear kA0 kA1 kA2 kA3
    refine (toA_any pv cv p c pr bw _ hp hc hpl hcl).mono ?_
    rintro e w4 ⟨ua4, ud4, ub4, uf4, rfl, hx4, hy4, hap4, hb⟩
    replace bA := bA.keep hb
    replace hp := hp.keep hb
    replace hc := hc.keep hb
    replace B0 := below_step B0 hb
    clear hb
    have kA0 := bA.c0
    have kA1 := bA.c1
    have kA2 := bA.c2
    have kA3 := bA.c3
    go_wp2_with fail
    clear kA0 kA1 kA2 kA3
    obtain ⟨X, eX⟩ : ∃ X, X = w4.heap.size := ⟨_, rfl⟩
    rw [← eX]
    have bX := Bx.new w4 (.slice ua4 p.length ud4) (.int .i64 pr) (.slice ub4 c.length uf4) (.int .i64 bw) 27 X eX
    clear eX
    replace bA := bA.alloc (.cells #[.slice ua4 p.length ud4, .int .i64 pr, .slice ub4 c.length uf4, .int .i64 bw] 27)
    replace hx4 := hx4.alloc (.cells #[.slice ua4 p.length ud4, .int .i64 pr, .slice ub4 c.length uf4, .int .i64 bw] 27)
    replace hy4 := hy4.alloc (.cells #[.slice ua4 p.length ud4, .int .i64 pr, .slice ub4 c.length uf4, .int .i64 bw] 27)
    replace hp := hp.alloc (.cells #[.slice ua4 p.length ud4, .int .i64 pr, .slice ub4 c.length uf4, .int .i64 bw] 27)
    replace hc := hc.alloc (.cells #[.slice ua4 p.length ud4, .int .i64 pr, .slice ub4 c.length uf4, .int .i64 bw] 27)
    replace B0 := B0.alloc B0.size (.cells #[.slice ua4 p.length ud4, .int .i64 pr, .slice ub4 c.length uf4, .int .i64 bw] 27)
    refine (ipath_any _ _ p c pr bw an _ (hx4.rd hp.1) (hy4.rd hc.1)).mono ?_
    rintro e w5 ⟨rfl, hb⟩
    replace bA := bA.keep hb
    replace bX := bX.keep hb
    replace hx4 := hx4.keep hb
    replace hy4 := hy4.keep hb
    replace hp := hp.keep hb
    replace hc := hc.keep hb
    replace B0 := below_step B0 hb
    clear hb
    go_wp2_with fail
    go_region_held3 (fun w' => Over w5 w' ∧ w'.cell? ⟨W.heap.size, 0, none⟩ = some (pv) ∧ w'.cell? ⟨W.heap.size, 1, none⟩ = some (.int .i64 pr) ∧ w'.cell? ⟨W.heap.size, 2, none⟩ = some (cv) ∧ w'.cell? ⟨W.heap.size, 3, none⟩ = some (.int .i64 bw) ∧ w'.cell? ⟨X, 0, none⟩ = some (.slice ua4 p.length ud4) ∧ w'.cell? ⟨X, 1, none⟩ = some (.int .i64 pr) ∧ w'.cell? ⟨X, 2, none⟩ = some (.slice ub4 c.length uf4) ∧ w'.cell? ⟨X, 3, none⟩ = some (.int .i64 bw))
      ((first | exact held8_0 bA bX | exact held8_S bA bX (by assumption) (by assumption)))
      ((first | (go_at_call 13; refine (toA_any pv cv p c pr bw _ (rdI_over hp (‹Over w5 _ ∧ _›).1) (rdI_over hc (‹Over w5 _ ∧ _›).1) hpl hcl).mono ?_; rintro e wa ⟨ua, ud, ub, uf, rfl, hxa, hya, hapa, hba⟩) | (go_at_call 15; refine (eqA_same _ _ _ _ p c pr bw _ (rdI_over (hx4.rd hp.1) (‹Over w5 _ ∧ _›).1) (rdI_over (hy4.rd hc.1) (‹Over w5 _ ∧ _›).1) (hxa.rd hp.1) (hya.rd hc.1)).mono ?_; rintro e w6 ⟨rfl, hbb⟩)))
    rename_i hH
    replace hH := hH.1
    clear hbb hba hxa hya hapa
    replace bA := bA.keep hH
    replace bX := bX.keep hH
    replace hx4 := hx4.keep hH
    replace hy4 := hy4.keep hH
    replace hp := hp.keep hH
    replace hc := hc.keep hH
    replace B0 := below_step B0 hH
    clear hH
    go_wp2
    go_ret
    exact ⟨rfl, B0⟩

set_option maxRecDepth 100000 in
theorem lifted (os : Os) (started : os.Started) (H : Type) (enc : TypeId × Value → H) :
    ReturnsInHanded {} Try.checked os 4 .any (Rows.fnExactPathHasSpec.pre6 enc Try.prog Try.f4 Rows.fnExactPathHasRow.domain false) (Rows.fnExactPathHasSpec.post enc Try.prog Try.f4 false true false false) := by
  refine returnsInHanded_of_change (C := Try.checked) own started (by kernel_rfl) Try.func4
    (ChangeSpec.witness6 (enc := enc) (C := Try.checked) false ⟨#[], #[.agg #[.slice none 0 0, .int .i64 0, .slice none 0 0, .int .i64 0], .int .i64 0], []⟩ 8 (by kernel_rfl) (by kernel_rfl) (by kernel_rfl) (by kernel_rfl)) ?_
  intro W base args ds gs before hval0 hW hcnd _
  have hval : ∀ (j : Nat) t v, Try.f4.params[j]? = some t → args[j]? = some v → Value.okWide Try.prog W .any base t v := hval0
  have hW' := hW
  obtain ⟨p, q, hA0, hV, rfl, hfz, hnd⟩ := hW
  have hA : DataW.TrodAll enc Try.prog W 0 (fun _ => true) true Try.f4.params.toList args.toList ds p := hA0
  rw [Try.params4] at hA hval
  obtain ⟨v0, vs0, d0, ds0, p0, q0, hargs, rfl, rfl, h0, r0⟩ := trodAll_cons hA
  obtain ⟨v1, vs1, d1, ds1, p1, q1, rfl, rfl, rfl, h1, r1⟩ := trodAll_cons r0
  obtain ⟨rfl, rfl, rfl⟩ := trodAll_nil r1
  obtain rfl : args = #[v0, v1] := by cases args; simp_all
  obtain ⟨rfl, rfl⟩ := trodVars_none hV
  have lt0 : ∀ x ∈ p0, x.block < W.heap.size := by obtain ⟨m, hm⟩ := h0; exact DataW.trod_lt m _ _ _ hm
  have w0 := is_Attr (hval 0 24 v0 rfl rfl) h0
  have lt1 : ∀ x ∈ p1, x.block < W.heap.size := by obtain ⟨m, hm⟩ := h1; exact DataW.trod_lt m _ _ _ hm
  have w1 := is_int (hval 1 3 v1 rfl rfl) h1
  clear hA0 hval0 hval
  refine (walk W v0 v1 w0 w1).mono fun e W' ⟨he, bel⟩ => ?_
  subst he
  exact ⟨_, rfl, _, _, _, [], _, [], hW', trodAll_mk1 (shut_bool Try.underlying4 _), (trodAll_cons_mk (Below.trod laidOut (by kernel_rfl) (of_decide_eq_true (by kernel_rfl)) h0 bel lt0) (trodAll_cons_mk (Below.trod laidOut (by kernel_rfl) (of_decide_eq_true (by kernel_rfl)) h1 bel lt1) trodAll_mk0)), rfl, bel.frame _, fun h => by cases h⟩

theorem over : Rows.fnExactPathHasRow.holds Try.pinned (OpenSpec.ofChange Rows.fnExactPathHasSpec) :=
  OpenClaim.holds_of_wide 4 Try.f4 rfl rfl rfl rfl rfl rfl rfl ⟨rfl, rfl, rfl, rfl, rfl⟩ rfl rfl rfl rfl rfl (by kernel_rfl) Try.func4 (by kernel_rfl)
    (of_decide_eq_true (by kernel_rfl)) (by unfold Func.isWrapper; first | (rw [if_pos (by decide +kernel)]; kernel_rfl) | (rw [if_neg (by decide +kernel)]; exact ⟨rfl, rfl⟩))
    (fun os started H enc _ => lifted os started H enc)

theorem proved : Rows.FnExactPathHasSaid := over
end Go.Proofs.Ytnobdcikkejeiaa.fnExactPathHas
