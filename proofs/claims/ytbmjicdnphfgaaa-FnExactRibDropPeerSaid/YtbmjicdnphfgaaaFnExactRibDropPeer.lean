/-
  The law 'FnExactRibDropPeer' returns true for every input, and its arguments read afterwards as before: the given statement 'Rows.FnExactRibDropPeerSaid'. No condition.
-/
import Derived.Test.YtbmjicdnphfgaaaO1
import Derived.Test.YtbmjicdnphfgaaaEL
namespace Go.Proofs.Ytbmjicdnphfgaaa.fnExactRibDropPeer
open Go.ChangeShapes Go.WideShapes Go.ChangeAt Go.RowKit Go.Proofs.Ytbmjicdnphfgaaa
set_option linter.unusedVariables false
set_option maxRecDepth 100000
set_option linter.unusedSimpArgs false
set_option maxHeartbeats 8000000 in
theorem walk (W : World) (v0 v1 : Value) (w0 : Is_Rib W v0) (w1 : Is_int W v1) :
    Calls Try.prog 5 #[v0, v1] W fun e w' => e = .returned (.bool true) ∧ Below W.heap.size W w' := by
  obtain ⟨u, L, rfl, hR⟩ := w0
  obtain ⟨pe, rfl, -, -⟩ := w1
  obtain ⟨bA, B0, z⟩ := one W [u] 24
  replace hR := hR.keep B0
  clear z
  obtain ⟨x, c, hv⟩ := hR.len
  rw [hv] at hR bA B0 ⊢
  clear hv
  go_enter Try.func5, Try.ntmps5
  go_wp2_with fail
  refine (szRb_any _ L _ hR).mono ?_
  rintro e w1 ⟨r, rfl, hsz, hb⟩
  replace bA := bA.keep hb
  replace hR := hR.keep hb
  replace B0 := below_step B0 hb
  clear hb
  have HSZ := Lib.hid hsz
  clear hsz
  by_cases hneg : r < 0
  · go_wp2_with fail
    go_ret
    exact ⟨rfl, B0⟩
  · have hlen := HSZ.out hneg
    have a0 := bA.c 0 rfl
    go_wp2_with fail
    clear a0
    refine (toRb_any _ L _ hR hlen).mono ?_
    rintro e w2 ⟨u2, rfl, h2, hb⟩
    replace bA := bA.keep hb
    replace hR := hR.keep hb
    replace B0 := below_step B0 hb
    clear hb
    have hd := hR.bd
    have hn : L.length ≤ 1048576 := by omega
    have r2 := h2.rd hd hn
    obtain ⟨x2, c2, rfl⟩ := r2.len
    go_wp2_with fail
    refine (srdp_any _ L pe _ r2 (lens_of hlen)).mono ?_
    rintro e w3 ⟨s, T0, rfl, hT0, hE0, hb⟩
    replace bA := bA.keep hb
    replace hR := hR.keep hb
    replace B0 := below_step B0 hb
    clear hb h2 r2
    obtain ⟨xs, cs, rfl⟩ := hT0.lenV
    obtain ⟨D, hD⟩ : ∃ D, D = dropP L pe := ⟨_, rfl⟩
    rw [← hD] at hE0
    have hdD : ∀ E ∈ D, BdE E := fun E hE => bd_mem hd (dropP_sub (hD ▸ hE))
    have hwD : (D.map wE).sum ≤ 8000000 := by rw [hD]; exact wE_drop hlen pe
    have HDD := Lib.hid hD
    clear hD
    have q3 : RdE w3 (.slice xs T0.length cs) D := hE0 ▸ hT0.rd fun t ht => hdD _ (hE0 ▸ entT_mem ht)
    clear hE0 hT0
    obtain ⟨bW, N1, z1⟩ := one w3 [.slice xs T0.length cs] 35
    have a0 := (bA.keep N1).c 0 rfl
    go_wp2_with fail
    clear a0 z1
    obtain ⟨WB, hWB⟩ : ∃ WB, WB = w3.heap.size := ⟨_, rfl⟩
    obtain ⟨V, hV⟩ : ∃ V, V = w3.alloc (.cells #[.slice xs T0.length cs] 35) := ⟨_, rfl⟩
    rw [← hV] at bW N1 ⊢
    rw [← hWB] at bW
    try rw [← hWB]
    replace q3 := q3.keep N1
    replace bA := bA.keep N1
    replace hR := hR.keep N1
    replace B0 := below_step B0 N1
    clear hV hWB N1
    refine (toRb_any _ L _ hR hlen).mono ?_
    rintro e w4 ⟨u4, rfl, h4, hb⟩
    have OV : Over V w4 := hb
    clear hb
    have r4 := h4.rd hd hn
    obtain ⟨x4, c4, rfl⟩ := r4.len
    obtain ⟨bX, N2, z2⟩ := one w4 [.slice x4 L.length c4] 35
    have x0 := bX.c 0 rfl
    go_wp2_with fail
    clear x0 z2
    obtain ⟨X, eX⟩ : ∃ X, X = w4.heap.size := ⟨_, rfl⟩
    obtain ⟨W5, eW⟩ : ∃ W5, W5 = w4.alloc (.cells #[.slice x4 L.length c4] 35) := ⟨_, rfl⟩
    rw [← eW] at bX N2 ⊢
    rw [← eX] at bX
    try rw [← eX]
    have h45 : w4.heap.size ≤ W5.heap.size := N2.size
    have O4 : Over w4 W5 := N2
    clear eX eW N2
    replace OV := over_trans OV O4
    replace r4 := r4.keep O4
    have hVW5 : V.heap.size ≤ W5.heap.size := OV.size
    refine (irdp_any _ L pe _ r4 (lens_of hlen)).mono ?_
    rintro e w5 ⟨g, T, rfl, hT, hE, hb⟩
    obtain ⟨xg, cg, rfl⟩ := hT.lenV
    rw [← HDD.out] at hE
    have HE := Lib.hid hE
    clear hE
    replace bX := bX.keep hb
    replace r4 := r4.keep hb
    replace O4 := over_step O4 hb
    replace OV := over_step OV hb
    have hIn := hT.inH
    have h55 := hb.size
    clear hb
    obtain ⟨bG, N3, z3⟩ := one w5 [.slice xg T.length cg] 35
    have g0 := bG.c 0 rfl
    have s0 := (bW.keep (over_step OV N3)).c 0 rfl
    go_wp2_with fail
    clear g0 s0 z3
    obtain ⟨G, hG⟩ : ∃ G, G = w5.heap.size := ⟨_, rfl⟩
    obtain ⟨W6, hW6⟩ : ∃ W6, W6 = w5.alloc (.cells #[.slice xg T.length cg] 35) := ⟨_, rfl⟩
    rw [← hW6] at bG N3 ⊢
    rw [← hG] at bG hIn h55
    try rw [← hG]
    replace hT := hT.keep N3
    replace bX := bX.keep N3
    replace r4 := r4.keep N3
    replace O4 := over_step O4 N3
    replace OV := over_step OV N3
    have hGs : w4.heap.size ≤ G := Nat.le_trans h45 h55
    clear hW6 hG N3
    have rg : ∀ w' : World, OwnT w' W5.heap.size (.slice xg T.length cg) T → RdE w' (.slice xg T.length cg) D := fun w' h => HE.out ▸ h.rd fun t ht => hdD _ (HE.out ▸ entT_mem ht)
    have RG := Lib.hid rg
    clear rg
    refine (eqRb_same _ _ D _ (RG.out _ hT) (q3.keep OV)).mono ?_
    rintro e w7 ⟨rfl, hb⟩
    replace bX := bX.keep hb
    replace bG := bG.keep hb
    replace r4 := r4.keep hb
    replace hT := hT.keep hb
    replace O4 := over_step O4 hb
    replace OV := over_step OV hb
    clear hb
    have bA6 := bA.keep OV
    have hR6 := hR.keep OV
    go_wp2_with fail
    go_region_held3 (fun w' => Over w7 w' ∧ w'.cell? ⟨W.heap.size, 0, none⟩ = some (.slice x L.length c) ∧ w'.cell? ⟨X, 0, none⟩ = some (.slice x4 L.length c4))
      ((first | exact ⟨over_drew _, bA6.c 0 rfl, bX.c 0 rfl⟩ | exact (fun o => ⟨o, bA6.o o 0 rfl, bX.o o 0 rfl⟩) (over_step (‹Over w7 _ ∧ _›).1 (by assumption))))
      ((first | (go_at_call 10; refine (toRb_any _ L _ (hR6.keep (‹Over w7 _ ∧ _›).1) hlen).mono ?_; rintro e wa ⟨ua, rfl, hxa, hba⟩) | (go_at_call 14; refine (eqRb_same _ _ L _ (r4.keep (‹Over w7 _ ∧ _›).1) (hxa.rd hd hn)).mono ?_; rintro e wb ⟨rfl, hbb⟩)))
    rename_i hH
    replace hH := hH.1
    clear hbb hba hxa bA6 hR6
    replace bX := bX.keep hH
    replace bG := bG.keep hH
    replace hT := hT.keep hH
    replace O4 := over_step O4 hH
    replace OV := over_step OV hH
    clear hH r4
    have x0 := bX.c 0 rfl
    go_wp2_with fail
    clear x0
    refine (markRb_later _ L 1 V.heap.size w4 _ h4 O4 hlen (by omega) (by omega)).mono ?_
    rintro e w8 ⟨k8, rfl, hk8, hs⟩
    replace OV : Over V w8 := Below.trans OV (hs.below OV.size)
    replace hT := hT.soft hs h45
    replace bG := blSoftT bG hs hGs
    clear hs O4 bX h4
    have hk8n : ¬ k8 < 0 := by omega
    have g0 := bG.c 0 rfl
    have s0 := (bW.keep OV).c 0 rfl
    go_wp2_with fail
    clear g0 s0
    refine (eqRb_same _ _ D _ (RG.out _ hT) (q3.keep OV)).mono ?_
    rintro e w9 ⟨rfl, hb⟩
    replace bG := bG.keep hb
    replace hT := hT.keep hb
    replace OV := over_step OV hb
    clear hb
    obtain ⟨WW, hWW⟩ : ∃ WW, WW = (entT T).map wE := ⟨_, rfl⟩
    have hWs : WW.sum ≤ 8000000 := by rw [hWW, HE.out]; exact hwD
    have HWW := Lib.hid hWW.symm
    clear hWW
    have g0 := bG.c 0 rfl
    go_wp2_with fail
    clear g0
    refine (mkRb_is _ T WW W5.heap.size G _ hT hIn HWW.out hWs).mono ?_
    rintro e w10 ⟨S, rfl, hSl, hMk, oS, hMid⟩
    replace OV : Over V w10 := Below.trans OV (hMid.below hVW5 OV.size)
    replace bG := hMid.bl bG (.inr (Nat.le_refl _))
    clear hMid hT hIn hk8 hk8n
    have rS := oS.rd (marked_bd hMk hSl.symm (by omega) (by omega) hWs)
    have HMK : Hid (MarkedW 1 WW (entT S) (entT S).length) := Lib.hid (by rw [entT_len, hSl]; exact hMk)
    clear hMk oS hSl
    obtain ⟨M, hM⟩ : ∃ M : Int, M = 1 + (WW.sum : Nat) := ⟨_, rfl⟩
    have hMn : ¬ M < 0 := by omega
    have hMM : (M != M) = false := by simp
    rw [← hM]
    have HM := Lib.hid hM
    clear hM
    have g0 := bG.c 0 rfl
    go_wp2_with fail
    clear g0
    refine (hdRb_is _ (entT S) WW _ rS HMK.out hWs).mono ?_
    rintro e w11 ⟨rfl, hb⟩
    rw [← HM.out]
    replace bG := bG.keep hb
    replace rS := rS.keep hb
    replace OV := over_step OV hb
    clear hb
    have a0 := (bA.keep OV).c 0 rfl
    go_wp2_with fail
    clear a0
    refine (toRb_any _ L _ (hR.keep OV) hlen).mono ?_
    rintro e w12 ⟨u12, rfl, h12, hb⟩
    replace bG := bG.keep hb
    replace rS := rS.keep hb
    replace OV := over_step OV hb
    clear hb
    replace h12 := h12.rd hd hn
    obtain ⟨x12, c12, rfl⟩ := h12.len
    go_wp2_with fail
    refine (irdp_any _ L pe _ h12 (lens_of hlen)).mono ?_
    rintro e w13 ⟨h, Th, rfl, hTh, hEh, hb⟩
    obtain ⟨xh, ch, rfl⟩ := hTh.lenV
    rw [← HDD.out] at hEh
    have rh : RdE w13 (.slice xh Th.length ch) D := hEh ▸ hTh.rd fun t ht => hdD _ (hEh ▸ entT_mem ht)
    replace bG := bG.keep hb
    replace rS := rS.keep hb
    replace OV := over_step OV hb
    clear hb h12 hTh hEh
    obtain ⟨bH, N4, z4⟩ := one w13 [.slice xh Th.length ch] 35
    have t0 := bH.c 0 rfl
    have s0 := (bW.keep (over_step OV N4)).c 0 rfl
    go_wp2_with fail
    clear t0 s0 z4
    replace bG := bG.keep N4
    replace rS := rS.keep N4
    replace rh := rh.keep N4
    replace OV := over_step OV N4
    clear N4
    refine (eqRb_same _ _ D _ rh (q3.keep OV)).mono ?_
    rintro e w14 ⟨rfl, hb⟩
    replace bG := bG.keep hb
    replace rS := rS.keep hb
    replace OV := over_step OV hb
    clear hb rh bH
    have g0 := bG.c 0 rfl
    go_wp2_with fail
    clear g0
    refine (hdRb_is _ (entT S) WW _ rS HMK.out hWs).mono ?_
    rintro e w15 ⟨rfl, hb⟩
    rw [← HM.out]
    replace OV := over_step OV hb
    clear hb
    go_wp2
    go_ret
    exact ⟨rfl, below_step B0 OV⟩

set_option maxRecDepth 100000 in
theorem lifted (os : Os) (started : os.Started) (H : Type) (enc : TypeId × Value → H) :
    ReturnsInHanded {} Try.checked os 5 .any (Rows.fnExactRibDropPeerSpec.pre6 enc Try.prog Try.f5 Rows.fnExactRibDropPeerRow.domain false) (Rows.fnExactRibDropPeerSpec.post enc Try.prog Try.f5 false true false false) := by
  refine returnsInHanded_of_change (C := Try.checked) own started (by kernel_rfl) Try.func5
    (ChangeSpec.witness6 (enc := enc) (C := Try.checked) false ⟨#[], #[.agg #[.slice none 0 0], .int .i64 0], []⟩ 8 (by kernel_rfl) (by kernel_rfl) (by kernel_rfl) (by kernel_rfl)) ?_
  intro W base args ds gs before hval0 hW hcnd _
  have hval : ∀ (j : Nat) t v, Try.f5.params[j]? = some t → args[j]? = some v → Value.okWide Try.prog W .any base t v := hval0
  have hW' := hW
  obtain ⟨p, q, hA0, hV, rfl, hfz, hnd⟩ := hW
  have hA : DataW.TrodAll enc Try.prog W 0 (fun _ => true) true Try.f5.params.toList args.toList ds p := hA0
  rw [Try.params5] at hA hval
  obtain ⟨v0, vs0, d0, ds0, p0, q0, hargs, rfl, rfl, h0, r0⟩ := trodAll_cons hA
  obtain ⟨v1, vs1, d1, ds1, p1, q1, rfl, rfl, rfl, h1, r1⟩ := trodAll_cons r0
  obtain ⟨rfl, rfl, rfl⟩ := trodAll_nil r1
  obtain rfl : args = #[v0, v1] := by cases args; simp_all
  obtain ⟨rfl, rfl⟩ := trodVars_none hV
  have lt0 : ∀ x ∈ p0, x.block < W.heap.size := by obtain ⟨m, hm⟩ := h0; exact DataW.trod_lt m _ _ _ hm
  have w0 := is_Rib (hval 0 24 v0 rfl rfl) h0
  have lt1 : ∀ x ∈ p1, x.block < W.heap.size := by obtain ⟨m, hm⟩ := h1; exact DataW.trod_lt m _ _ _ hm
  have w1 := is_int (hval 1 3 v1 rfl rfl) h1
  clear hA0 hval0 hval
  refine (walk W v0 v1 w0 w1).mono fun e W' ⟨he, bel⟩ => ?_
  subst he
  exact ⟨_, rfl, _, _, _, [], _, [], hW', trodAll_mk1 (shut_bool Try.underlying4 _), (trodAll_cons_mk (Below.trod laidOut (by kernel_rfl) (of_decide_eq_true (by kernel_rfl)) h0 bel lt0) (trodAll_cons_mk (Below.trod laidOut (by kernel_rfl) (of_decide_eq_true (by kernel_rfl)) h1 bel lt1) trodAll_mk0)), rfl, bel.frame _, fun h => by cases h⟩

theorem over : Rows.fnExactRibDropPeerRow.holds Try.pinned (OpenSpec.ofChange Rows.fnExactRibDropPeerSpec) :=
  OpenClaim.holds_of_wide 5 Try.f5 rfl rfl rfl rfl rfl rfl rfl ⟨rfl, rfl, rfl, rfl, rfl⟩ rfl rfl rfl rfl rfl (by kernel_rfl) Try.func5 (by kernel_rfl)
    (of_decide_eq_true (by kernel_rfl)) (by unfold Func.isWrapper; first | (rw [if_pos (by decide +kernel)]; kernel_rfl) | (rw [if_neg (by decide +kernel)]; exact ⟨rfl, rfl⟩))
    (fun os started H enc _ => lifted os started H enc)

theorem proved : Rows.FnExactRibDropPeerSaid := over
end Go.Proofs.Ytbmjicdnphfgaaa.fnExactRibDropPeer
