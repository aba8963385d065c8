/-
  The law 'FnExactRibPrefixes' returns true for every input, and its arguments read afterwards as before: the given statement 'Rows.FnExactRibPrefixesSaid'. No condition.
-/
import Derived.Test.YtcmbajphholliaaO1
import Derived.Test.YtcmbajphholliaaF9
namespace Go.Proofs.Ytcmbajphholliaa.fnExactRibPrefixes
open Go.ChangeShapes Go.WideShapes Go.ChangeAt Go.RowKit Go.Proofs.Ytcmbajphholliaa
set_option linter.unusedVariables false
set_option maxRecDepth 100000
set_option maxHeartbeats 2000000 in
theorem walk (W : World) (v0 : Value) (w0 : Is_Rib W v0) :
    Calls Try.prog 7 #[v0] W fun e w' => e = .returned (.bool true) ∧ Below W.heap.size W w' := by
  obtain ⟨u, L, rfl, hR⟩ := w0
  obtain ⟨bA, B0, z⟩ := one W [u] 24
  replace hR := hR.keep B0
  clear z
  obtain ⟨x, c, hv⟩ := hR.len
  rw [hv] at hR bA B0 ⊢
  clear hv
  go_enter Try.func7, Try.ntmps7
  go_wp2_with fail
  refine (szRb_any _ L _ hR).mono ?_
  rintro e w1 ⟨r, rfl, hsz, hb⟩
  replace bA := bA.keep hb
  replace hR := hR.keep hb
  replace B0 := below_step B0 hb
  clear hb
  have HSZ := Lib.hid hsz
  clear hsz
  by_cases hneg : r < 0
  · go_wp2_with fail
    go_ret
    exact ⟨rfl, B0⟩
  · have hlen := HSZ.out hneg
    have a0 := bA.c 0 rfl
    go_wp2_with fail
    clear a0
    refine (toRb_any _ L _ hR hlen).mono ?_
    rintro e w2 ⟨u2, rfl, h2, hb⟩
    replace bA := bA.keep hb
    replace hR := hR.keep hb
    replace B0 := below_step B0 hb
    clear hb
    have hd := hR.bd
    have hn : L.length ≤ 1048576 := by omega
    have r2 := h2.rd hd hn
    obtain ⟨x2, c2, rfl⟩ := r2.len
    have a0 := bA.c 0 rfl
    go_wp2_with fail
    clear a0
    refine (srp_any _ L _ r2).mono ?_
    rintro e V ⟨u3, rfl, o3, hb⟩
    replace bA := bA.keep hb
    replace hR := hR.keep hb
    replace B0 := below_step B0 hb
    clear hb h2 r2
    have q3 := o3.rd
    obtain ⟨P, hP⟩ : ∃ P, P = ansP L := ⟨_, rfl⟩
    have hPn : P.length ≤ 60 := by
      rw [hP]
      unfold ansP
      split
      · rename_i hy
        have := kp_len (pfx L) L.length
        have := ribB_len hy
        omega
      · simp
    rw [← hP] at q3
    have HP := Lib.hid hP
    clear hP o3
    have a0 := bA.c 0 rfl
    go_wp2_with fail
    clear a0
    refine (toRb_any _ L _ hR hlen).mono ?_
    rintro e w4 ⟨u4, rfl, h4, hb⟩
    have OV : Over V w4 := hb
    clear hb
    have r4 := h4.rd hd hn
    obtain ⟨x4, c4, rfl⟩ := r4.len
    have a0 := (bA.keep OV).c 0 rfl
    go_wp2_with fail
    clear a0
    obtain ⟨X, eX⟩ : ∃ X, X = w4.heap.size := ⟨_, rfl⟩
    obtain ⟨W5, eW⟩ : ∃ W5, W5 = w4.alloc (.cells #[.slice x4 L.length c4] 29) := ⟨_, rfl⟩
    obtain ⟨bX, bW, z⟩ := one w4 [.slice x4 L.length c4] 29
    rw [← eX] at bX ⊢
    rw [← eW] at bX bW z ⊢
    have h45 : w4.heap.size ≤ W5.heap.size := bW.size
    have O4 : Over w4 W5 := bW
    clear z eX eW bW
    replace OV := over_trans OV O4
    replace r4 := r4.keep O4
    refine (irp_any _ L _ r4).mono ?_
    rintro e w5 ⟨u5, rfl, o5, hb⟩
    rw [← HP.out] at o5
    have hVs : V.heap.size ≤ W5.heap.size := OV.size
    replace bX := bX.keep hb
    replace r4 := r4.keep hb
    replace O4 := over_step O4 hb
    replace OV := over_step OV hb
    clear hb
    go_wp2_with fail
    refine (eqPS_same _ _ P _ o5.rd (q3.keep OV)).mono ?_
    rintro e w6 ⟨rfl, hb⟩
    replace bX := bX.keep hb
    replace r4 := r4.keep hb
    replace o5 := o5.keep hb
    replace O4 := over_step O4 hb
    replace OV := over_step OV hb
    clear hb
    have bA6 := bA.keep OV
    have hR6 := hR.keep OV
    go_wp2_with fail
    go_region_held3 (fun w' => Over w6 w' ∧ w'.cell? ⟨W.heap.size, 0, none⟩ = some (.slice x L.length c) ∧ w'.cell? ⟨X, 0, none⟩ = some (.slice x4 L.length c4))
      ((first | exact ⟨over_drew _, bA6.c 0 rfl, bX.c 0 rfl⟩ | exact (fun o => ⟨o, bA6.o o 0 rfl, bX.o o 0 rfl⟩) (over_step (‹Over w6 _ ∧ _›).1 (by assumption))))
      ((first | (go_at_call 12; refine (toRb_any _ L _ (hR6.keep (‹Over w6 _ ∧ _›).1) hlen).mono ?_; rintro e wa ⟨ua, rfl, hxa, hba⟩) | (go_at_call 14; refine (eqRb_same _ _ L _ (r4.keep (‹Over w6 _ ∧ _›).1) (hxa.rd hd hn)).mono ?_; rintro e w7 ⟨rfl, hbb⟩)))
    rename_i hH
    replace hH := hH.1
    clear hbb hba hxa bA6 hR6
    replace bX := bX.keep hH
    replace o5 := o5.keep hH
    replace O4 := over_step O4 hH
    replace OV := over_step OV hH
    clear hH r4
    have x0 := bX.c 0 rfl
    go_wp2_with fail
    clear x0
    refine (markRb_later _ L 1 V.heap.size w4 _ h4 O4 hlen (by omega) (by omega)).mono ?_
    rintro e w8 ⟨k8, rfl, hk8, hs⟩
    replace OV : Over V w8 := Below.trans OV (hs.below OV.size)
    replace o5 := o5.soft hs h45
    clear hs O4 bX h4
    have hk8n : ¬ k8 < 0 := by omega
    have q8 := q3.keep OV
    have r8 := o5.rd
    go_wp2_with fail
    refine (eqPS_same _ _ P _ r8 q8).mono ?_
    rintro e w9 ⟨rfl, hC⟩
    replace OV := over_step OV hC
    replace o5 := o5.keep hC
    clear hC q8 r8
    go_wp2_with fail
    refine (markP_is _ P _ 1 _ o5 (by omega) (by omega)).mono ?_
    rintro e w10 ⟨rfl, ⟨l', hl', hmk, o6⟩, hg⟩
    replace OV := over_grownP OV o5 hVs hg
    clear hg o5 hk8 hk8n
    obtain ⟨M, hM⟩ : ∃ M : Int, M = 1 + (P.length : Int) * 2 := ⟨_, rfl⟩
    have hMn : ¬ M < 0 := by omega
    have hMM : (M != M) = false := by simp
    rw [← hM]
    have HM := Lib.hid (show (1 : Int) + (l'.length : Int) * 2 = M by rw [hl']; exact hM.symm)
    have HMK := Lib.hid hmk
    have hl6 : l'.length ≤ 1048576 := by omega
    clear hM hmk hl'
    go_wp2_with fail
    refine (heldP_is _ l' 1 _ o6.rd HMK.out hl6 (by omega) (by omega)).mono ?_
    rintro e w11 ⟨rfl, hb⟩
    rw [HM.out]
    replace o6 := o6.keep hb
    replace OV := over_step OV hb
    clear hb
    have a0 := (bA.keep OV).c 0 rfl
    go_wp2_with fail
    clear a0
    refine (toRb_any _ L _ (hR.keep OV) hlen).mono ?_
    rintro e w12 ⟨u12, rfl, h12, hb⟩
    replace o6 := o6.keep hb
    replace OV := over_step OV hb
    clear hb
    replace h12 := h12.rd hd hn
    obtain ⟨x12, c12, rfl⟩ := h12.len
    go_wp2_with fail
    refine (irp_any _ L _ h12).mono ?_
    rintro e w13 ⟨u13, rfl, o13, hb⟩
    rw [← HP.out] at o13
    replace o6 := o6.keep hb
    replace OV := over_step OV hb
    clear hb h12
    go_wp2_with fail
    refine (eqPS_same _ _ P _ o13.rd (q3.keep OV)).mono ?_
    rintro e w14 ⟨rfl, hb⟩
    replace o6 := o6.keep hb
    replace OV := over_step OV hb
    clear hb o13
    go_wp2_with fail
    refine (heldP_is _ l' 1 _ o6.rd HMK.out hl6 (by omega) (by omega)).mono ?_
    rintro e w15 ⟨rfl, hb⟩
    rw [HM.out]
    replace OV := over_step OV hb
    clear hb
    go_wp2
    go_ret
    exact ⟨rfl, below_step B0 OV⟩

set_option maxRecDepth 100000 in
theorem lifted (os : Os) (started : os.Started) (H : Type) (enc : TypeId × Value → H) :
    ReturnsInHanded {} Try.checked os 7 .any (Rows.fnExactRibPrefixesSpec.pre6 enc Try.prog Try.f7 Rows.fnExactRibPrefixesRow.domain false) (Rows.fnExactRibPrefixesSpec.post enc Try.prog Try.f7 false true false false) := by
  refine returnsInHanded_of_change (C := Try.checked) own started (by kernel_rfl) Try.func7
    (ChangeSpec.witness6 (enc := enc) (C := Try.checked) false ⟨#[], #[.agg #[.slice none 0 0]], []⟩ 8 (by kernel_rfl) (by kernel_rfl) (by kernel_rfl) (by kernel_rfl)) ?_
  intro W base args ds gs before hval0 hW hcnd _
  have hval : ∀ (j : Nat) t v, Try.f7.params[j]? = some t → args[j]? = some v → Value.okWide Try.prog W .any base t v := hval0
  have hW' := hW
  obtain ⟨p, q, hA0, hV, rfl, hfz, hnd⟩ := hW
  have hA : DataW.TrodAll enc Try.prog W 0 (fun _ => true) true Try.f7.params.toList args.toList ds p := hA0
  rw [Try.params7] at hA hval
  obtain ⟨v0, vs0, d0, ds0, p0, q0, hargs, rfl, rfl, h0, r0⟩ := trodAll_cons hA
  obtain ⟨rfl, rfl, rfl⟩ := trodAll_nil r0
  obtain rfl : args = #[v0] := by cases args; simp_all
  obtain ⟨rfl, rfl⟩ := trodVars_none hV
  have lt0 : ∀ x ∈ p0, x.block < W.heap.size := by obtain ⟨m, hm⟩ := h0; exact DataW.trod_lt m _ _ _ hm
  have w0 := is_Rib (hval 0 24 v0 rfl rfl) h0
  clear hA0 hval0 hval
  refine (walk W v0 w0).mono fun e W' ⟨he, bel⟩ => ?_
  subst he
  exact ⟨_, rfl, _, _, _, [], _, [], hW', trodAll_mk1 (shut_bool Try.underlying4 _), (trodAll_cons_mk (Below.trod laidOut (by kernel_rfl) (of_decide_eq_true (by kernel_rfl)) h0 bel lt0) trodAll_mk0), rfl, bel.frame _, fun h => by cases h⟩

theorem over : Rows.fnExactRibPrefixesRow.holds Try.pinned (OpenSpec.ofChange Rows.fnExactRibPrefixesSpec) :=
  OpenClaim.holds_of_wide 7 Try.f7 rfl rfl rfl rfl rfl rfl rfl ⟨rfl, rfl, rfl, rfl, rfl⟩ rfl rfl rfl rfl rfl (by kernel_rfl) Try.func7 (by kernel_rfl)
    (of_decide_eq_true (by kernel_rfl)) (by unfold Func.isWrapper; first | (rw [if_pos (by decide +kernel)]; kernel_rfl) | (rw [if_neg (by decide +kernel)]; exact ⟨rfl, rfl⟩))
    (fun os started H enc _ => lifted os started H enc)

theorem proved : Rows.FnExactRibPrefixesSaid := over
end Go.Proofs.Ytcmbajphholliaa.fnExactRibPrefixes
