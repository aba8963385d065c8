/-
  The law 'FnExactFrameSize' returns true for every input, and its arguments read afterwards as before: the given statement 'Rows.FnExactFrameSizeSaid'. No condition.
-/
import Derived.Test.YthecdnfloahoaaaO2
import Derived.Test.YthecdnfloahoaaaK1
namespace Go.Proofs.Ythecdnfloahoaaa.fnExactFrameSize
open Go.ChangeShapes Go.WideShapes Go.ChangeAt Go.RowKit Go.Proofs.Ythecdnfloahoaaa
set_option linter.unusedVariables false
set_option maxRecDepth 100000
theorem walk (W : World) (v0 : Value) (w0 : Is_bytes W v0) :
    Calls Try.prog 8 #[v0] W fun e w' => e = .returned (.bool true) ∧ Below W.heap.size W w' := by
  obtain ⟨l, hR⟩ := w0.rd
  by_cases hbig : l.length ≤ 1048576
  · obtain ⟨r, hg⟩ : ∃ r, fsz l = r := ⟨_, rfl⟩
    have HG := Lib.hid hg
    have hr : (r != r) = false := by simp
    obtain ⟨x, c, hv⟩ := hR.len
    clear hg
    rw [hv] at hR ⊢
    clear hv
    go_enter Try.func8, Try.ntmps8
    go_wp2_with fail
    refine (toB_new _ l _ hR hbig).mono ?_
    rintro e w1 ⟨u1, rfl, ho1, hb1⟩
    have R1 := ho1.rd hR.1
    have RV1 := hR.keep hb1
    have B1 := hb1
    clear hb1 ho1
    go_wp2_with fail
    refine (sfr_any _ l _ R1).mono ?_
    rw [HG.out]
    rintro e w2 ⟨rfl, hb2⟩
    have RV2 := RV1.keep hb2
    have B2 := below_step B1 hb2
    clear hb2 R1 RV1 B1
    go_wp2_with fail
    refine (toB_new _ l _ RV2 hbig).mono ?_
    rintro e w3 ⟨u3, rfl, ho3, hb3⟩
    have R3 := ho3.rd hR.1
    have C3 := ho3.cap
    have RV3 := RV2.keep hb3
    have B3 := below_step B2 hb3
    clear hb3 ho3 RV2 B2
    go_wp2_with fail
    refine (ifr_any _ l _ R3 C3).mono ?_
    rw [HG.out]
    rintro e w4 ⟨rfl, hb4⟩
    have R4 := R3.keep hb4
    have RV4 := RV3.keep hb4
    have B4 := below_step B3 hb4
    clear hb4 R3 RV3 B3 C3
    go_wp2_with fail
    refine (toB_new _ l _ RV4 hbig).mono ?_
    rintro e w6 ⟨u6, rfl, ho6, hb6⟩
    have R6 := R4.keep hb6
    have RV6 := ho6.rd hR.1
    have B6 := below_step B4 hb6
    clear hb6 ho6 R4 RV4 B4
    go_wp2_with fail
    refine (eqB_same _ _ l _ R6 RV6).mono ?_
    rintro e w7 ⟨rfl, hb7⟩
    have B7 := below_step B6 hb7
    clear hb7 R6 RV6 B6
    go_wp2_with fail
    go_ret
    exact ⟨rfl, B7⟩
  · obtain ⟨x, c, rfl⟩ := hR.len
    have hbI : (1048576 : Int) < (l.length : Int) := by omega
    go_enter Try.func8, Try.ntmps8
    go_wp2_with fail
    go_ret
    exact ⟨rfl, Below.refl _ _⟩

set_option maxRecDepth 100000 in
theorem lifted (os : Os) (started : os.Started) (H : Type) (enc : TypeId × Value → H) :
    ReturnsInHanded {} Try.checked os 8 .any (Rows.fnExactFrameSizeSpec.pre6 enc Try.prog Try.f8 Rows.fnExactFrameSizeRow.domain false) (Rows.fnExactFrameSizeSpec.post enc Try.prog Try.f8 false true false false) := by
  refine returnsInHanded_of_change (C := Try.checked) own started (by kernel_rfl) Try.func8
    (ChangeSpec.witness6 (enc := enc) (C := Try.checked) false ⟨#[], #[.slice none 0 0], []⟩ 8 (by kernel_rfl) (by kernel_rfl) (by kernel_rfl) (by kernel_rfl)) ?_
  intro W base args ds gs before hval0 hW hcnd _
  have hval : ∀ (j : Nat) t v, Try.f8.params[j]? = some t → args[j]? = some v → Value.okWide Try.prog W .any base t v := hval0
  have hW' := hW
  obtain ⟨p, q, hA0, hV, rfl, hfz, hnd⟩ := hW
  have hA : DataW.TrodAll enc Try.prog W 0 (fun _ => true) true Try.f8.params.toList args.toList ds p := hA0
  rw [Try.params8] at hA hval
  obtain ⟨v0, vs0, d0, ds0, p0, q0, hargs, rfl, rfl, h0, r0⟩ := trodAll_cons hA
  obtain ⟨rfl, rfl, rfl⟩ := trodAll_nil r0
  obtain rfl : args = #[v0] := by cases args; simp_all
  obtain ⟨rfl, rfl⟩ := trodVars_none hV
  have lt0 : ∀ x ∈ p0, x.block < W.heap.size := by obtain ⟨m, hm⟩ := h0; exact DataW.trod_lt m _ _ _ hm
  have w0 := is_bytes (hval 0 22 v0 rfl rfl) h0
  clear hA0 hval0 hval
  refine (walk W v0 w0).mono fun e W' ⟨he, bel⟩ => ?_
  subst he
  exact ⟨_, rfl, _, _, _, [], _, [], hW', trodAll_mk1 (shut_bool Try.underlying4 _), (trodAll_cons_mk (Below.trod laidOut (by kernel_rfl) (of_decide_eq_true (by kernel_rfl)) h0 bel lt0) trodAll_mk0), rfl, bel.frame _, fun h => by cases h⟩

theorem over : Rows.fnExactFrameSizeRow.holds Try.pinned (OpenSpec.ofChange Rows.fnExactFrameSizeSpec) :=
  OpenClaim.holds_of_wide 8 Try.f8 rfl rfl rfl rfl rfl rfl rfl ⟨rfl, rfl, rfl, rfl, rfl⟩ rfl rfl rfl rfl rfl (by kernel_rfl) Try.func8 (by kernel_rfl)
    (of_decide_eq_true (by kernel_rfl)) (by unfold Func.isWrapper; first | (rw [if_pos (by decide +kernel)]; kernel_rfl) | (rw [if_neg (by decide +kernel)]; exact ⟨rfl, rfl⟩))
    (fun os started H enc _ => lifted os started H enc)

theorem proved : Rows.FnExactFrameSizeSaid := over
end Go.Proofs.Ythecdnfloahoaaa.fnExactFrameSize
