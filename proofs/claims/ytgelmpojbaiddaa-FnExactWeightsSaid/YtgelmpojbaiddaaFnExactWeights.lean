/-
  The law 'FnExactWeights' returns true for every input, and its arguments read afterwards as before: the given statement 'Rows.FnExactWeightsSaid'. No condition.
-/
import Derived.Test.YtgelmpojbaiddaaO1
import Derived.Test.YtgelmpojbaiddaaGW
namespace Go.Proofs.Ytgelmpojbaiddaa.fnExactWeights
open Go.ChangeShapes Go.WideShapes Go.ChangeAt Go.RowKit Go.Proofs.Ytgelmpojbaiddaa
set_option linter.unusedVariables false
set_option maxRecDepth 100000
def Is_ints (W : World) (v : Value) : Prop := ∃ l, RdI W v l
section
variable {H : Type} {enc : TypeId × Value → H} {W : World} {base : Nat} {d : DataW H} {p : List MemPlace} {v : Value}
theorem is_ints (hv : Value.okWide Try.prog W .any base 47 v) (h : DataW.Trod enc Try.prog W 0 (fun _ => true) true 47 v d p) : Is_ints W v := by
  obtain ⟨a0, len0, cap0, rfl⟩ := okWide_slice Try.underlying47 hv
  obtain ⟨fuel, hf⟩ := h
  exact rdI_trod (W := W) (fuel := fuel) (y := (d, p)) (by simpa [Value.cells] using hf)
end
set_option maxHeartbeats 2000000 in
theorem walk (W : World) (v0 : Value) (w0 : Is_ints W v0) :
    Calls Try.prog 5 #[v0] W fun e w' => e = .returned (.bool true) ∧ Below W.heap.size W w' := by
  obtain ⟨l, hR⟩ := w0
  by_cases hbig : l.length ≤ 1048576
  · obtain ⟨x, c, hv⟩ := hR.len
    rw [hv] at hR ⊢
    clear hv
    obtain ⟨L, hL⟩ : ∃ L, weiL l = L := ⟨_, rfl⟩
    have hLb : ∀ x ∈ L, -9223372036854775808 ≤ x ∧ x ≤ 9223372036854775807 := by rw [← hL]; exact weiL_bd l
    have hLn : L.length ≤ 4 := by rw [← hL]; exact weiL_len l
    have HL := Lib.hid hL
    clear hL
    have hnb : ¬ (1048576 : Int) < (l.length : Int) := by omega
    have o := over_refl W
    go_enter Try.func5, Try.ntmps5
    go_wp2_with fail
    refine (toB_any_I _ l _ (rdI_over hR o) hbig).mono ?_
    rintro e w1 ⟨rfl, h1, hb⟩
    have b_h1 := o.size
    replace o := over_step o hb
    clear hb
    go_wp2_with fail
    refine (swei_any _ l _ (h1.rd hR.1)).mono ?_
    rintro e w1 ⟨u_hw, rfl, hw, hb⟩
    rw [HL.out] at hw
    have b_hw := o.size
    have ap_h1_hw := apartI h1 hw (Nat.le_refl _)
    replace h1 := h1.keep hb
    replace o := over_step o hb
    clear hb
    clear h1
    go_wp2_with fail
    refine (toB_any_I _ l _ (rdI_over hR o) hbig).mono ?_
    rintro e w1 ⟨rfl, h2, hb⟩
    have b_h2 := o.size
    have ap_hw_h2 := apartI hw h2 (Nat.le_refl _)
    replace hw := hw.keep hb
    replace o := over_step o hb
    clear hb
    go_wp2_with fail
    refine (iwei_any _ l _ (h2.rd hR.1)).mono ?_
    rintro e w1 ⟨u_hi, rfl, hi, hb⟩
    rw [HL.out] at hi
    have b_hi := o.size
    have ap_hw_hi := apartI hw hi (Nat.le_refl _)
    have ap_h2_hi := apartI h2 hi (Nat.le_refl _)
    replace hw := hw.keep hb
    replace h2 := h2.keep hb
    replace o := over_step o hb
    clear hb
    go_wp2_with fail
    refine (eqB_any_I _ _ L L _ (hi.rd hLb) (hw.rd hLb)).mono ?_
    rw [show decide (L = L) = true by simp]
    rintro e w1 ⟨rfl, hb⟩
    replace hw := hw.keep hb
    replace h2 := h2.keep hb
    replace hi := hi.keep hb
    replace o := over_step o hb
    clear hb
    go_wp2_with fail
    refine (toB_any_I _ l _ (rdI_over hR o) hbig).mono ?_
    rintro e w1 ⟨rfl, h3, hb⟩
    have b_h3 := o.size
    have ap_hw_h3 := apartI hw h3 (Nat.le_refl _)
    have ap_h2_h3 := apartI h2 h3 (Nat.le_refl _)
    have ap_hi_h3 := apartI hi h3 (Nat.le_refl _)
    replace hw := hw.keep hb
    replace h2 := h2.keep hb
    replace hi := hi.keep hb
    replace o := over_step o hb
    clear hb
    go_wp2_with fail
    refine (eqB_any_I _ _ l l _ (h2.rd hR.1) (h3.rd hR.1)).mono ?_
    rw [show decide (l = l) = true by simp]
    rintro e w1 ⟨rfl, hb⟩
    replace hw := hw.keep hb
    replace h2 := h2.keep hb
    replace hi := hi.keep hb
    replace h3 := h3.keep hb
    replace o := over_step o hb
    clear hb
    clear h3
    go_wp2_with fail
    refine (markB_any_I _ l _ 1 _ h2 (by omega) (by omega)).mono ?_
    rintro e w1 ⟨rfl, h2m, hg⟩
    replace o := below_grownI o h2 b_h2 o.size hg
    replace hw := hw.kept hg ap_hw_h2.1
    replace hi := hi.kept hg ap_h2_hi.2
    clear hg h2
    go_wp2_with fail
    refine (eqB_any_I _ _ L L _ (hi.rd hLb) (hw.rd hLb)).mono ?_
    rw [show decide (L = L) = true by simp]
    rintro e w1 ⟨rfl, hb⟩
    replace hw := hw.keep hb
    replace hi := hi.keep hb
    replace h2m := h2m.keep hb
    replace o := over_step o hb
    clear hb
    clear h2m
    go_wp2_with fail
    refine (markB_any_I _ L _ 1 _ hi (by omega) (by omega)).mono ?_
    rintro e w1 ⟨rfl, him, hg⟩
    replace o := below_grownI o hi b_hi o.size hg
    replace hw := hw.kept hg ap_hw_hi.1
    clear hg hi
    go_wp2_with fail
    refine (heldB_any_I _ 1 L.length _ (him.rd (imarks_bd 1 _ (by omega) (by omega))) (by omega) (by omega)).mono ?_
    rintro e w1 ⟨rfl, hb⟩
    replace hw := hw.keep hb
    replace him := him.keep hb
    replace o := over_step o hb
    clear hb
    have hq1 : ¬ (1 + (L.length : Int)) < 0 := by omega
    have hq2 : ((1 + (L.length : Int)) != (1 + (L.length : Int))) = false := by simp
    go_wp2_with fail
    refine (toB_any_I _ l _ (rdI_over hR o) hbig).mono ?_
    rintro e w1 ⟨rfl, h4, hb⟩
    have b_h4 := o.size
    have ap_hw_h4 := apartI hw h4 (Nat.le_refl _)
    have ap_him_h4 := apartI him h4 (Nat.le_refl _)
    replace hw := hw.keep hb
    replace him := him.keep hb
    replace o := over_step o hb
    clear hb
    go_wp2_with fail
    refine (iwei_any _ l _ (h4.rd hR.1)).mono ?_
    rintro e w1 ⟨u_hj, rfl, hj, hb⟩
    rw [HL.out] at hj
    have b_hj := o.size
    have ap_hw_hj := apartI hw hj (Nat.le_refl _)
    have ap_him_hj := apartI him hj (Nat.le_refl _)
    have ap_h4_hj := apartI h4 hj (Nat.le_refl _)
    replace hw := hw.keep hb
    replace him := him.keep hb
    replace h4 := h4.keep hb
    replace o := over_step o hb
    clear hb
    clear h4
    go_wp2_with fail
    refine (eqB_any_I _ _ L L _ (hj.rd hLb) (hw.rd hLb)).mono ?_
    rw [show decide (L = L) = true by simp]
    rintro e w1 ⟨rfl, hb⟩
    replace hw := hw.keep hb
    replace him := him.keep hb
    replace hj := hj.keep hb
    replace o := over_step o hb
    clear hb
    go_wp2_with fail
    refine (heldB_any_I _ 1 L.length _ (him.rd (imarks_bd 1 _ (by omega) (by omega))) (by omega) (by omega)).mono ?_
    rintro e w1 ⟨rfl, hb⟩
    replace hw := hw.keep hb
    replace him := him.keep hb
    replace hj := hj.keep hb
    replace o := over_step o hb
    clear hb
    go_wp2_with fail
    go_ret
    exact ⟨rfl, o⟩
  · obtain ⟨x, c, rfl⟩ := hR.len
    have hb2 : (1048576 : Int) < (l.length : Int) := by omega
    clear hR
    go_enter Try.func5, Try.ntmps5
    go_wp2
    go_ret
    exact ⟨rfl, Below.refl _ _⟩

set_option maxRecDepth 100000 in
theorem lifted (os : Os) (started : os.Started) (H : Type) (enc : TypeId × Value → H) :
    ReturnsInHanded {} Try.checked os 5 .any (Rows.fnExactWeightsSpec.pre6 enc Try.prog Try.f5 Rows.fnExactWeightsRow.domain false) (Rows.fnExactWeightsSpec.post enc Try.prog Try.f5 false true false false) := by
  refine returnsInHanded_of_change (C := Try.checked) own started (by kernel_rfl) Try.func5
    (ChangeSpec.witness6 (enc := enc) (C := Try.checked) false ⟨#[], #[.slice none 0 0], []⟩ 8 (by kernel_rfl) (by kernel_rfl) (by kernel_rfl) (by kernel_rfl)) ?_
  intro W base args ds gs before hval0 hW hcnd _
  have hval : ∀ (j : Nat) t v, Try.f5.params[j]? = some t → args[j]? = some v → Value.okWide Try.prog W .any base t v := hval0
  have hW' := hW
  obtain ⟨p, q, hA0, hV, rfl, hfz, hnd⟩ := hW
  have hA : DataW.TrodAll enc Try.prog W 0 (fun _ => true) true Try.f5.params.toList args.toList ds p := hA0
  rw [Try.params5] at hA hval
  obtain ⟨v0, vs0, d0, ds0, p0, q0, hargs, rfl, rfl, h0, r0⟩ := trodAll_cons hA
  obtain ⟨rfl, rfl, rfl⟩ := trodAll_nil r0
  obtain rfl : args = #[v0] := by cases args; simp_all
  obtain ⟨rfl, rfl⟩ := trodVars_none hV
  have lt0 : ∀ x ∈ p0, x.block < W.heap.size := by obtain ⟨m, hm⟩ := h0; exact DataW.trod_lt m _ _ _ hm
  have w0 := is_ints (hval 0 47 v0 rfl rfl) h0
  clear hA0 hval0 hval
  refine (walk W v0 w0).mono fun e W' ⟨he, bel⟩ => ?_
  subst he
  exact ⟨_, rfl, _, _, _, [], _, [], hW', trodAll_mk1 (shut_bool Try.underlying4 _), (trodAll_cons_mk (Below.trod laidOut (by kernel_rfl) (of_decide_eq_true (by kernel_rfl)) h0 bel lt0) trodAll_mk0), rfl, bel.frame _, fun h => by cases h⟩

theorem over : Rows.fnExactWeightsRow.holds Try.pinned (OpenSpec.ofChange Rows.fnExactWeightsSpec) :=
  OpenClaim.holds_of_wide 5 Try.f5 rfl rfl rfl rfl rfl rfl rfl ⟨rfl, rfl, rfl, rfl, rfl⟩ rfl rfl rfl rfl rfl (by kernel_rfl) Try.func5 (by kernel_rfl)
    (of_decide_eq_true (by kernel_rfl)) (by unfold Func.isWrapper; first | (rw [if_pos (by decide +kernel)]; kernel_rfl) | (rw [if_neg (by decide +kernel)]; exact ⟨rfl, rfl⟩))
    (fun os started H enc _ => lifted os started H enc)

theorem proved : Rows.FnExactWeightsSaid := over
end Go.Proofs.Ytgelmpojbaiddaa.fnExactWeights
