/-
  The law 'FnExactGetPrefix' returns true for every input, and its arguments read afterwards as before: the given statement 'Rows.FnExactGetPrefixSaid'. No condition.
-/
import Derived.Test.YtcolclomhklokaaO2
import Derived.Test.YtcolclomhklokaaW6
namespace Go.Proofs.Ytcolclomhklokaa.fnExactGetPrefix
open Go.ChangeShapes Go.WideShapes Go.ChangeAt Go.RowKit Go.Proofs.Ytcolclomhklokaa
set_option linter.unusedVariables false
theorem walk (W : World) (v0 v1 : Value) (w0 : Is_bytes W v0) (w1 : Is_int W v1) :
    Calls Try.prog 9 #[v0, v1] W fun e w' => e = .returned (.bool true) ∧ Below W.heap.size W w' := by
  obtain ⟨l, hR⟩ := w0.rd
  obtain ⟨a, rfl, -, -⟩ := w1
  by_cases hbig : l.length ≤ 1048576
  · obtain ⟨p, q, r, hg⟩ : ∃ p q r : Int, gAns l a = .tuple #[.agg #[.int .i64 p, .int .i64 q], .int .i64 r] := by
      by_cases hok : gOk l a
      · exact ⟨_, _, _, gAns_yes hok⟩
      · exact ⟨_, _, _, gAns_no hok⟩
    have HG := Lib.hid hg
    have hr : (r != r) = false := by simp
    obtain ⟨x, c, hv⟩ := hR.len
    clear hg
    rw [hv] at hR ⊢
    clear hv
    go_enter Try.func9, Try.ntmps9
    go_wp2_with fail
    refine (toB_new _ l _ hR hbig).mono ?_
    rintro e w1 ⟨u1, rfl, ho1, hb1⟩
    have R1 := ho1.rd hR.1
    have RV1 := hR.keep hb1
    have B1 := hb1
    clear hb1 ho1
    go_wp2_with fail
    refine (sget_any _ l a _ R1 hbig).mono ?_
    rw [HG.out]
    rintro e w2 ⟨rfl, hb2⟩
    have RV2 := RV1.keep hb2
    have B2 := below_step B1 hb2
    clear hb2 R1 RV1 B1
    go_wp2_with fail
    refine (toB_new _ l _ (RV2.alloc _) hbig).mono ?_
    rintro e w3 ⟨u3, rfl, ho3, hb3⟩
    have c0 : w3.cell? ⟨w2.heap.size, 0, none⟩ = some (.int .i64 p) := cell_keep hb3 (by simp) (by simp)
    have c1 : w3.cell? ⟨w2.heap.size, 1, none⟩ = some (.int .i64 q) := cell_keep hb3 (by simp) (by simp)
    have l3 : w2.heap.size < w3.heap.size := by have := hb3.size; simp at this; omega
    have R3 := ho3.rd hR.1
    have RV3 := (RV2.alloc _).keep hb3
    have B3 := below_step (B2.alloc B2.size _) hb3
    clear hb3 ho3 RV2 B2
    go_wp2_with fail
    refine (iget_any _ l a _ R3 hbig).mono ?_
    rw [HG.out]
    rintro e w4 ⟨rfl, hb4⟩
    have R4 := R3.keep hb4
    have RV4 := RV3.keep hb4
    have B4 := below_step B3 hb4
    have d0 := cell_keep hb4 l3 c0
    have d1 := cell_keep hb4 l3 c1
    have l4 := Nat.lt_of_lt_of_le l3 hb4.size
    clear hb4 c0 c1 l3 R3 RV3 B3
    go_wp2_with fail
    refine (eqP_same p q _).mono ?_
    rintro e w5 ⟨rfl, hb5⟩
    have R5 := (R4.alloc (.cells #[.int .i64 p, .int .i64 q] 25)).keep hb5
    have RV5 := (RV4.alloc (.cells #[.int .i64 p, .int .i64 q] 25)).keep hb5
    have B5 := below_step (B4.alloc B4.size _) hb5
    clear hb5 d0 d1 l4 R4 RV4 B4
    go_wp2_with fail
    refine (toB_new _ l _ RV5 hbig).mono ?_
    rintro e w6 ⟨u6, rfl, ho6, hb6⟩
    have R6 := R5.keep hb6
    have RV6 := ho6.rd hR.1
    have B6 := below_step B5 hb6
    clear hb6 ho6 R5 RV5 B5
    go_wp2_with fail
    refine (eqB_same _ _ l _ R6 RV6).mono ?_
    rintro e w7 ⟨rfl, hb7⟩
    have B7 := below_step B6 hb7
    clear hb7 R6 RV6 B6
    go_wp2_with fail
    go_ret
    exact ⟨rfl, B7⟩
  · obtain ⟨x, c, rfl⟩ := hR.len
    have hbI : (1048576 : Int) < (l.length : Int) := by omega
    go_enter Try.func9, Try.ntmps9
    go_wp2_with fail
    go_ret
    exact ⟨rfl, Below.refl _ _⟩

set_option maxRecDepth 100000 in
theorem lifted (os : Os) (started : os.Started) (H : Type) (enc : TypeId × Value → H) :
    ReturnsInHanded {} Try.checked os 9 .any (Rows.fnExactGetPrefixSpec.pre6 enc Try.prog Try.f9 Rows.fnExactGetPrefixRow.domain false) (Rows.fnExactGetPrefixSpec.post enc Try.prog Try.f9 false true false false) := by
  refine returnsInHanded_of_change (C := Try.checked) own started (by kernel_rfl) Try.func9
    (ChangeSpec.witness6 (enc := enc) (C := Try.checked) false ⟨#[], #[.slice none 0 0, .int .i64 0], []⟩ 8 (by kernel_rfl) (by kernel_rfl) (by kernel_rfl) (by kernel_rfl)) ?_
  intro W base args ds gs before hval0 hW hcnd _
  have hval : ∀ (j : Nat) t v, Try.f9.params[j]? = some t → args[j]? = some v → Value.okWide Try.prog W .any base t v := hval0
  have hW' := hW
  obtain ⟨p, q, hA0, hV, rfl, hfz, hnd⟩ := hW
  have hA : DataW.TrodAll enc Try.prog W 0 (fun _ => true) true Try.f9.params.toList args.toList ds p := hA0
  rw [Try.params9] at hA hval
  obtain ⟨v0, vs0, d0, ds0, p0, q0, hargs, rfl, rfl, h0, r0⟩ := trodAll_cons hA
  obtain ⟨v1, vs1, d1, ds1, p1, q1, rfl, rfl, rfl, h1, r1⟩ := trodAll_cons r0
  obtain ⟨rfl, rfl, rfl⟩ := trodAll_nil r1
  obtain rfl : args = #[v0, v1] := by cases args; simp_all
  obtain ⟨rfl, rfl⟩ := trodVars_none hV
  have lt0 : ∀ x ∈ p0, x.block < W.heap.size := by obtain ⟨m, hm⟩ := h0; exact DataW.trod_lt m _ _ _ hm
  have w0 := is_bytes (hval 0 34 v0 rfl rfl) h0
  have lt1 : ∀ x ∈ p1, x.block < W.heap.size := by obtain ⟨m, hm⟩ := h1; exact DataW.trod_lt m _ _ _ hm
  have w1 := is_int (hval 1 3 v1 rfl rfl) h1
  clear hA0 hval0 hval
  refine (walk W v0 v1 w0 w1).mono fun e W' ⟨he, bel⟩ => ?_
  subst he
  exact ⟨_, rfl, _, _, _, [], _, [], hW', trodAll_mk1 (shut_bool Try.underlying4 _), (trodAll_cons_mk (Below.trod laidOut (by kernel_rfl) (of_decide_eq_true (by kernel_rfl)) h0 bel lt0) (trodAll_cons_mk (Below.trod laidOut (by kernel_rfl) (of_decide_eq_true (by kernel_rfl)) h1 bel lt1) trodAll_mk0)), rfl, bel.frame _, fun h => by cases h⟩

theorem over : Rows.fnExactGetPrefixRow.holds Try.pinned (OpenSpec.ofChange Rows.fnExactGetPrefixSpec) :=
  OpenClaim.holds_of_wide 9 Try.f9 rfl rfl rfl rfl rfl rfl rfl ⟨rfl, rfl, rfl, rfl, rfl⟩ rfl rfl rfl rfl rfl (by kernel_rfl) Try.func9 (by kernel_rfl)
    (of_decide_eq_true (by kernel_rfl)) (by unfold Func.isWrapper; first | (rw [if_pos (by decide +kernel)]; kernel_rfl) | (rw [if_neg (by decide +kernel)]; exact ⟨rfl, rfl⟩))
    (fun os started H enc _ => lifted os started H enc)

theorem proved : Rows.FnExactGetPrefixSaid := over
end Go.Proofs.Ytcolclomhklokaa.fnExactGetPrefix
