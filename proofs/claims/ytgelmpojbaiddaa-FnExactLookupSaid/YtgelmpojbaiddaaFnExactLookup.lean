/-
  The law 'FnExactLookup' returns true for every input, and its arguments read afterwards as before: the given statement 'Rows.FnExactLookupSaid'. No condition.
-/
import Derived.Test.YtgelmpojbaiddaaO1
import Derived.Test.YtgelmpojbaiddaaLD
import Derived.Test.YtgelmpojbaiddaaGM
namespace Go.Proofs.Ytgelmpojbaiddaa.fnExactLookup
open Go.ChangeShapes Go.WideShapes Go.ChangeAt Go.RowKit Go.Proofs.Ytgelmpojbaiddaa
set_option linter.unusedVariables false
set_option maxRecDepth 100000
set_option linter.unusedSimpArgs false
set_option maxHeartbeats 4000000 in
theorem walk (W : World) (v0 v1 : Value) (w0 : Is_Fib W v0) (w1 : Is_int W v1) :
    Calls Try.prog 7 #[v0, v1] W fun e w' => e = .returned (.bool true) ∧ Below W.heap.size W w' := by
  obtain ⟨u, L, rfl, hR⟩ := w0
  obtain ⟨y, rfl, -, -⟩ := w1
  obtain ⟨bA, B0, z⟩ := one W [u] 38
  replace hR := hR.keep B0
  clear z
  obtain ⟨x, c, hv⟩ := hR.len
  rw [hv] at hR bA B0 ⊢
  clear hv
  go_enter Try.func7, Try.ntmps7
  go_wp2_with fail
  refine (szFb_any _ L _ _ hR (by decide) (by decide)).mono ?_
  rintro e w1 ⟨r, rfl, hsz, hb⟩
  replace bA := bA.keep hb
  replace hR := hR.keep hb
  replace B0 := below_step B0 hb
  clear hb
  have HSZ := Lib.hid hsz
  clear hsz
  by_cases hneg : r < 0
  · go_wp2_with fail
    go_ret
    exact ⟨rfl, B0⟩
  · have hlen : L.length + wtG L ≤ 1048576 := by have := HSZ.out (by omega); omega
    have a0 := bA.c 0 rfl
    go_wp2_with fail
    clear a0
    refine (toFb_any _ L _ hR hlen).mono ?_
    rintro e w2 ⟨u2, rfl, h2, hb⟩
    replace bA := bA.keep hb
    replace hR := hR.keep hb
    replace B0 := below_step B0 hb
    clear hb
    have hn : L.length ≤ 1048576 := by omega
    have hln : ∀ j, j < L.length → (L.getD j gr0).h.length ≤ 1048576 := fun j hj => by have := wtG_at hj; omega
    have HLN := Lib.hid hln
    clear hln
    have r2 := h2.rd hn
    obtain ⟨x2, c2, rfl⟩ := r2.len
    go_wp2_with fail
    refine (slook_any _ L y _ r2 HLN.out).mono ?_
    rintro e w3 ⟨pa, px, rfl, o3, hb⟩
    replace bA := bA.keep hb
    replace hR := hR.keep hb
    replace B0 := below_step B0 hb
    clear hb h2 r2
    obtain ⟨E, hE⟩ : ∃ E, lookG L y = E := ⟨_, rfl⟩
    obtain ⟨fb, hfb⟩ : ∃ fb, (lookJ L y).isSome = fb := ⟨_, rfl⟩
    have hEl : E.h.length ≤ 1048576 := by
      rw [← hE]
      unfold lookG
      split
      · rename_i j hj
        unfold lookJ at hj
        split at hj
        · exact HLN.out j (lastC_lt hj).1
        · cases hj
      · exact Nat.zero_le _
    rw [hE] at o3
    have HE := Lib.hid (And.intro hE hfb)
    have hff : (fb != fb) = false := by simp
    rw [hE, hfb]
    clear hE hfb
    have q3 := o3.rd
    clear o3
    have f0 := bA.c 0 rfl
    have lA := bA.lt
    go_wp2_with fail
    clear f0 lA
    obtain ⟨X, eX⟩ : ∃ X, X = w3.heap.size := ⟨_, rfl⟩
    obtain ⟨V, eV⟩ : ∃ V, V = w3.alloc (.cells #[.int .i64 E.a, .int .i64 E.n, .slice pa E.h.length px] GI) := ⟨_, rfl⟩
    obtain ⟨bX, bW, z⟩ := one w3 [.int .i64 E.a, .int .i64 E.n, .slice pa E.h.length px] GI
    rw [← eX] at bX ⊢
    rw [← eV] at bX bW z ⊢
    have OX : Over w3 V := bW
    have sX : X < V.heap.size := bX.lt
    have tX : w3.heap.size ≤ X := Nat.le_of_eq eX.symm
    clear z eX eV bW
    replace q3 := q3.keep OX
    replace bA := bA.keep OX
    replace hR := hR.keep OX
    replace B0 := below_step B0 OX
    clear OX
    refine (toFb_any _ L _ hR hlen).mono ?_
    rintro e w4 ⟨u4, rfl, h4, hb⟩
    have OV : Over V w4 := hb
    clear hb
    have r4 := h4.rd hn
    obtain ⟨x4, c4, rfl⟩ := r4.len
    have a0 := (bA.keep OV).c 0 rfl
    go_wp2_with fail
    clear a0
    obtain ⟨Y, eY⟩ : ∃ Y, Y = w4.heap.size := ⟨_, rfl⟩
    obtain ⟨W5, eW⟩ : ∃ W5, W5 = w4.alloc (.cells #[.slice x4 L.length c4] 43) := ⟨_, rfl⟩
    obtain ⟨bY, bW, z⟩ := one w4 [.slice x4 L.length c4] 43
    rw [← eY] at bY ⊢
    rw [← eW] at bY bW z ⊢
    have h45 : w4.heap.size ≤ W5.heap.size := bW.size
    have O4 : Over w4 W5 := bW
    have hY4 : w4.heap.size ≤ Y := Nat.le_of_eq eY.symm
    clear z eY eW bW
    replace OV := over_trans OV O4
    replace r4 := r4.keep O4
    refine (ilook_any _ L y _ r4 HLN.out).mono ?_
    rintro e w5 ⟨p5, x5, rfl, o5, hb⟩
    rw [HE.out.1] at o5
    rw [HE.out.1, HE.out.2]
    have hVs : V.heap.size ≤ W5.heap.size := OV.size
    have HZ := Lib.hid (fun k hk => (World.ownsRow.lt o5 k hk).2 : ∀ k, (Value.slice p5 E.h.length x5).ownBlock = some k → k < w5.heap.size)
    replace bY := bY.keep hb
    replace r4 := r4.keep hb
    replace O4 := over_step O4 hb
    replace OV := over_step OV hb
    clear hb
    have bX5 := bX.keep OV
    have lX := bX5.lt
    have bX50 := bX5.c 0 rfl
    have bX51 := bX5.c 1 rfl
    have bX52 := bX5.c 2 rfl
    go_wp2_with fail
    clear bX50 bX51 bX52 bX5 lX
    obtain ⟨Z, eZ⟩ : ∃ Z, Z = w5.heap.size := ⟨_, rfl⟩
    obtain ⟨WZ, eWZ⟩ : ∃ WZ, WZ = w5.alloc (.cells #[.int .i64 E.a, .int .i64 E.n, .slice p5 E.h.length x5] GI) := ⟨_, rfl⟩
    obtain ⟨bZ, bW, z⟩ := one w5 [.int .i64 E.a, .int .i64 E.n, .slice p5 E.h.length x5] GI
    rw [← eZ] at bZ ⊢
    rw [← eWZ] at bZ bW z ⊢
    have OZ : Over w5 WZ := bW
    have sZ : Z < WZ.heap.size := bZ.lt
    have tZ : w5.heap.size ≤ Z := Nat.le_of_eq eZ.symm
    clear z eZ eWZ bW
    have h4Z : w4.heap.size ≤ Z := Nat.le_trans O4.size tZ
    replace bY := bY.keep OZ
    replace r4 := r4.keep OZ
    replace o5 := o5.keep OZ
    replace O4 := over_trans O4 OZ
    replace OV := over_trans OV OZ
    clear OZ
    have q5 := q3.keep OV
    refine (eqGrp_same _ _ E.h _ _ _ o5.rd q5).mono ?_
    rintro e w6 ⟨rfl, hb⟩
    replace bY := bY.keep hb
    replace bZ := bZ.keep hb
    replace r4 := r4.keep hb
    replace o5 := o5.keep hb
    replace O4 := over_step O4 hb
    replace OV := over_step OV hb
    clear hb q5
    have bA6 := bA.keep OV
    have hR6 := hR.keep OV
    go_wp2_with fail
    go_region_held3 (fun w' => Over w6 w' ∧ w'.cell? ⟨W.heap.size, 0, none⟩ = some (.slice x L.length c) ∧ w'.cell? ⟨Y, 0, none⟩ = some (.slice x4 L.length c4))
      ((first | exact ⟨over_drew _, bA6.c 0 rfl, bY.c 0 rfl⟩ | exact (fun o => ⟨o, bA6.o o 0 rfl, bY.o o 0 rfl⟩) (over_step (‹Over w6 _ ∧ _›).1 (by assumption))))
      ((first | (go_at_call 17; refine (toFb_any _ L _ (hR6.keep (‹Over w6 _ ∧ _›).1) hlen).mono ?_; rintro e wa ⟨ua, rfl, hxa, hba⟩) | (go_at_call 19; refine (eqFb_same _ _ L _ (r4.keep (‹Over w6 _ ∧ _›).1) (hxa.rd hn)).mono ?_; rintro e w7 ⟨rfl, hbb⟩)))
    rename_i hH
    replace hH := hH.1
    clear hbb hba hxa bA6 hR6
    replace bY := bY.keep hH
    replace bZ := bZ.keep hH
    replace o5 := o5.keep hH
    replace O4 := over_step O4 hH
    replace OV := over_step OV hH
    clear hH r4
    have x0 := bY.c 0 rfl
    go_wp2_with fail
    clear x0
    refine (markFb_later _ L 1 V.heap.size w4 _ h4 O4 hlen (by omega) (by omega)).mono ?_
    rintro e w8 ⟨k8, rfl, hk8, hs⟩
    replace OV : Over V w8 := Below.trans OV (hs.below OV.size)
    replace o5 := o5.soft hs h45
    replace bZ := bZ.soft hs h4Z
    clear hs O4 bY h4
    have hk8n : ¬ k8 < 0 := by omega
    have q8 := q3.keep OV
    have r8 := o5.rd
    have bX8 := bX.keep OV
    have bZ0 := bZ.c 0 rfl
    have bZ1 := bZ.c 1 rfl
    have bZ2 := bZ.c 2 rfl
    have bX80 := bX8.c 0 rfl
    have bX81 := bX8.c 1 rfl
    have bX82 := bX8.c 2 rfl
    go_wp2_with fail
    refine (eqGrp_same _ _ E.h _ _ _ r8 q8).mono ?_
    rintro e w9 ⟨rfl, hC⟩
    replace OV := over_step OV hC
    replace o5 := o5.keep hC
    replace bZ := bZ.keep hC
    clear hC q8 r8 bZ0 bZ1 bZ2 bX80 bX81 bX82 bX8
    have bZ0 := bZ.c 0 rfl
    have bZ1 := bZ.c 1 rfl
    have bZ2 := bZ.c 2 rfl
    go_wp2_with fail
    refine (markGrp_is _ E.h _ _ _ 1 V _ OV hVs o5 (by omega) (by omega)).mono ?_
    rintro e w10 ⟨rfl, ⟨l', hl', hmk, o6⟩, OV2, hgr⟩
    have hZne : some Z ≠ (Value.slice p5 E.h.length x5).ownBlock := by
      intro e
      have := HZ.out Z e.symm
      omega
    replace bZ := bZ.grown hgr hZne
    replace OV := OV2
    clear OV2 hgr o5 hk8 hk8n bZ0 bZ1 bZ2 hZne
    obtain ⟨M, hM⟩ : ∃ M : Int, M = 1 + (E.h.length : Int) * 2 := ⟨_, rfl⟩
    have hMn : ¬ M < 0 := by omega
    have hMM : (M != M) = false := by simp
    rw [← hM]
    have HM := Lib.hid (show (1 : Int) + (l'.length : Int) * 2 = M by rw [hl']; exact hM.symm)
    have HMK := Lib.hid hmk
    have hl6 : l'.length ≤ 1048576 := by omega
    clear hM hmk hl'
    have bZ0 := bZ.c 0 rfl
    have bZ1 := bZ.c 1 rfl
    have bZ2 := bZ.c 2 rfl
    go_wp2_with fail
    refine (heldGrp_is _ l' _ _ 1 _ o6.rd HMK.out hl6 (by omega) (by omega)).mono ?_
    rintro e w11 ⟨rfl, hb⟩
    rw [HM.out]
    replace o6 := o6.keep hb
    replace bZ := bZ.keep hb
    replace OV := over_step OV hb
    clear hb bZ0 bZ1 bZ2
    have a0 := (bA.keep OV).c 0 rfl
    go_wp2_with fail
    clear a0
    refine (toFb_any _ L _ (hR.keep OV) hlen).mono ?_
    rintro e w12 ⟨u12, rfl, h12, hb⟩
    replace o6 := o6.keep hb
    replace bZ := bZ.keep hb
    replace OV := over_step OV hb
    clear hb
    replace h12 := h12.rd hn
    obtain ⟨x12, c12, rfl⟩ := h12.len
    go_wp2_with fail
    refine (ilook_any _ L y _ h12 HLN.out).mono ?_
    rintro e w13 ⟨p13, x13, rfl, o13, hb⟩
    rw [HE.out.1] at o13
    rw [HE.out.1, HE.out.2]
    replace o6 := o6.keep hb
    replace bZ := bZ.keep hb
    replace OV := over_step OV hb
    clear hb h12
    have bX13 := bX.keep OV
    have lX := bX13.lt
    have bX130 := bX13.c 0 rfl
    have bX131 := bX13.c 1 rfl
    have bX132 := bX13.c 2 rfl
    go_wp2_with fail
    clear bX130 bX131 bX132 bX13 lX
    obtain ⟨T, eT⟩ : ∃ T, T = w13.heap.size := ⟨_, rfl⟩
    obtain ⟨WT, eWT⟩ : ∃ WT, WT = w13.alloc (.cells #[.int .i64 E.a, .int .i64 E.n, .slice p13 E.h.length x13] GI) := ⟨_, rfl⟩
    obtain ⟨bT, bW, z⟩ := one w13 [.int .i64 E.a, .int .i64 E.n, .slice p13 E.h.length x13] GI
    rw [← eT] at bT ⊢
    rw [← eWT] at bT bW z ⊢
    have OT : Over w13 WT := bW
    have sT : T < WT.heap.size := bT.lt
    have tT : w13.heap.size ≤ T := Nat.le_of_eq eT.symm
    clear z eT eWT bW
    replace o6 := o6.keep OT
    replace o13 := o13.keep OT
    replace bZ := bZ.keep OT
    replace OV := over_trans OV OT
    clear OT
    have bX14 := bX.keep OV
    have bX140 := bX14.c 0 rfl
    have bX141 := bX14.c 1 rfl
    have bX142 := bX14.c 2 rfl
    have bT0 := bT.c 0 rfl
    have bT1 := bT.c 1 rfl
    have bT2 := bT.c 2 rfl
    try go_wp2_with fail
    refine (eqGrp_same _ _ E.h _ _ _ o13.rd (q3.keep OV)).mono ?_
    rintro e w14 ⟨rfl, hb⟩
    replace o6 := o6.keep hb
    replace bZ := bZ.keep hb
    replace OV := over_step OV hb
    clear hb o13 bX140 bX141 bX142 bX14 bT0 bT1 bT2 bT
    have bZ0 := bZ.c 0 rfl
    have bZ1 := bZ.c 1 rfl
    have bZ2 := bZ.c 2 rfl
    go_wp2_with fail
    refine (heldGrp_is _ l' _ _ 1 _ o6.rd HMK.out hl6 (by omega) (by omega)).mono ?_
    rintro e w15 ⟨rfl, hb⟩
    rw [HM.out]
    replace OV := over_step OV hb
    clear hb
    go_wp2
    go_ret
    exact ⟨rfl, below_step B0 OV⟩

set_option maxRecDepth 100000 in
theorem lifted (os : Os) (started : os.Started) (H : Type) (enc : TypeId × Value → H) :
    ReturnsInHanded {} Try.checked os 7 .any (Rows.fnExactLookupSpec.pre6 enc Try.prog Try.f7 Rows.fnExactLookupRow.domain false) (Rows.fnExactLookupSpec.post enc Try.prog Try.f7 false true false false) := by
  refine returnsInHanded_of_change (C := Try.checked) own started (by kernel_rfl) Try.func7
    (ChangeSpec.witness6 (enc := enc) (C := Try.checked) false ⟨#[], #[.agg #[.slice none 0 0], .int .i64 0], []⟩ 8 (by kernel_rfl) (by kernel_rfl) (by kernel_rfl) (by kernel_rfl)) ?_
  intro W base args ds gs before hval0 hW hcnd _
  have hval : ∀ (j : Nat) t v, Try.f7.params[j]? = some t → args[j]? = some v → Value.okWide Try.prog W .any base t v := hval0
  have hW' := hW
  obtain ⟨p, q, hA0, hV, rfl, hfz, hnd⟩ := hW
  have hA : DataW.TrodAll enc Try.prog W 0 (fun _ => true) true Try.f7.params.toList args.toList ds p := hA0
  rw [Try.params7] at hA hval
  obtain ⟨v0, vs0, d0, ds0, p0, q0, hargs, rfl, rfl, h0, r0⟩ := trodAll_cons hA
  obtain ⟨v1, vs1, d1, ds1, p1, q1, rfl, rfl, rfl, h1, r1⟩ := trodAll_cons r0
  obtain ⟨rfl, rfl, rfl⟩ := trodAll_nil r1
  obtain rfl : args = #[v0, v1] := by cases args; simp_all
  obtain ⟨rfl, rfl⟩ := trodVars_none hV
  have lt0 : ∀ x ∈ p0, x.block < W.heap.size := by obtain ⟨m, hm⟩ := h0; exact DataW.trod_lt m _ _ _ hm
  have w0 := is_Fib (hval 0 38 v0 rfl rfl) h0
  have lt1 : ∀ x ∈ p1, x.block < W.heap.size := by obtain ⟨m, hm⟩ := h1; exact DataW.trod_lt m _ _ _ hm
  have w1 := is_int (hval 1 3 v1 rfl rfl) h1
  clear hA0 hval0 hval
  refine (walk W v0 v1 w0 w1).mono fun e W' ⟨he, bel⟩ => ?_
  subst he
  exact ⟨_, rfl, _, _, _, [], _, [], hW', trodAll_mk1 (shut_bool Try.underlying4 _), (trodAll_cons_mk (Below.trod laidOut (by kernel_rfl) (of_decide_eq_true (by kernel_rfl)) h0 bel lt0) (trodAll_cons_mk (Below.trod laidOut (by kernel_rfl) (of_decide_eq_true (by kernel_rfl)) h1 bel lt1) trodAll_mk0)), rfl, bel.frame _, fun h => by cases h⟩

theorem over : Rows.fnExactLookupRow.holds Try.pinned (OpenSpec.ofChange Rows.fnExactLookupSpec) :=
  OpenClaim.holds_of_wide 7 Try.f7 rfl rfl rfl rfl rfl rfl rfl ⟨rfl, rfl, rfl, rfl, rfl⟩ rfl rfl rfl rfl rfl (by kernel_rfl) Try.func7 (by kernel_rfl)
    (of_decide_eq_true (by kernel_rfl)) (by unfold Func.isWrapper; first | (rw [if_pos (by decide +kernel)]; kernel_rfl) | (rw [if_neg (by decide +kernel)]; exact ⟨rfl, rfl⟩))
    (fun os started H enc _ => lifted os started H enc)

theorem proved : Rows.FnExactLookupSaid := over
end Go.Proofs.Ytgelmpojbaiddaa.fnExactLookup
