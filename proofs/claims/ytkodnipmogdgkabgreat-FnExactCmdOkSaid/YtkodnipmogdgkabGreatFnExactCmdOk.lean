/-
  The law 'FnExactCmdOk' returns true for every input, and its arguments read afterwards as before: the given statement 'Rows.FnExactCmdOkSaid'. No condition.
-/
import Derived.Test.YtkodnipmogdgkabGreatFCa
import Derived.Test.YtkodnipmogdgkabGreatCO
import Derived.Deep.RegionHeld
namespace Go.Proofs.YtkodnipmogdgkabGreat.fnExactCmdOk
open Go.ChangeShapes Go.WideShapes Go.ChangeAt Go.RowKit Go.Proofs.YtkodnipmogdgkabGreat
set_option linter.unusedVariables false
set_option maxRecDepth 100000
set_option linter.unusedSimpArgs false
set_option maxHeartbeats 4000000 in
theorem walk (W : World) (v0 v1 : Value) (w0 : Is_Fabric W v0) (w1 : Is_Cmd W v1) :
    Calls Tryz.prog 3 #[v0, v1] W fun e w' => e = .returned (.bool true) ∧ Below W.heap.size W w' := by
  obtain ⟨X, nv, lv, rfl, hR⟩ := w0
  obtain ⟨k, at9, on, ad, ha, rfl⟩ := w1
  obtain ⟨na, nx, rfl⟩ := hR.1.len
  obtain ⟨la, lx, rfl⟩ := hR.2.len
  obtain ⟨bA, bC, B0, z⟩ := two W [.slice na X.nodes.length nx, .slice la X.links.length lx, .int .i64 X.width] [.int .i64 k, .int .i64 at9, .bool on, .int .i64 ad, .int .i64 ha] 25 27
  replace hR := hR.keep B0
  clear z
  obtain ⟨g, hg⟩ : ∃ g, cmdB X k at9 on ad ha = g := ⟨_, rfl⟩
  have HG := Lib.hid hg
  have hgg : (g != g) = false := by simp
  clear hg
  have a0 := (bA).c 0 rfl
  have a1 := (bA).c 1 rfl
  have a2 := (bA).c 2 rfl
  go_enter Tryz.func3, Tryz.ntmps3
  go_wp2_with fail
  clear a0 a1 a2
  refine (szFabric_l _ _ X _ hR).mono ?_
  rintro e w1 ⟨r, rfl, hsz, hb⟩
  replace bA := bA.keep hb
  replace bC := bC.keep hb
  replace hR := hR.keep hb
  replace B0 := below_step B0 hb
  clear hb
  have HSZ := Lib.hid hsz
  clear hsz
  by_cases hneg : r < 0
  · go_wp2_with fail
    go_ret
    exact ⟨rfl, B0⟩
  · have hlen := HSZ.out hneg
    have HLN := Lib.hid hlen
    clear hlen
    obtain ⟨PA, hPA⟩ : ∃ P, P = W.heap.size := ⟨_, rfl⟩
    obtain ⟨PC, hPC⟩ : ∃ P, P = W.heap.size + 1 := ⟨_, rfl⟩
    rw [← hPA] at bA
    rw [← hPC] at bC
    try rw [← hPC]
    try rw [← hPA]
    clear hPA hPC
    go_wp2_with fail
    go_region_held3 (fun w' => Over w1 w' ∧ w'.cell? ⟨PA, 0, none⟩ = some (.slice na X.nodes.length nx) ∧ w'.cell? ⟨PA, 1, none⟩ = some (.slice la X.links.length lx) ∧ w'.cell? ⟨PA, 2, none⟩ = some (.int .i64 X.width) ∧ w'.cell? ⟨PC, 0, none⟩ = some (.int .i64 k) ∧ w'.cell? ⟨PC, 1, none⟩ = some (.int .i64 at9) ∧ w'.cell? ⟨PC, 2, none⟩ = some (.bool on) ∧ w'.cell? ⟨PC, 3, none⟩ = some (.int .i64 ad) ∧ w'.cell? ⟨PC, 4, none⟩ = some (.int .i64 ha))
      ((first | exact ⟨over_drew _, bA.c 0 rfl, bA.c 1 rfl, bA.c 2 rfl, bC.c 0 rfl, bC.c 1 rfl, bC.c 2 rfl, bC.c 3 rfl, bC.c 4 rfl⟩ | exact (fun o => ⟨o, bA.o o 0 rfl, bA.o o 1 rfl, bA.o o 2 rfl, bC.o o 0 rfl, bC.o o 1 rfl, bC.o o 2 rfl, bC.o o 3 rfl, bC.o o 4 rfl⟩) (over_step (‹Over w1 _ ∧ _›).1 (by assumption))))
      ((first | (go_at_call 6; refine (toFabric_f _ _ X _ (hR.keep (‹Over w1 _ ∧ _›).1) HLN.out).mono ?_; rintro e wa ⟨t0, t1, rfl, hxa, hba⟩) | (go_at_call 7; refine (toCm_any _ _ _ _ _ _).mono ?_; rintro e wc ⟨rfl, hbc⟩) | (go_at_call 5; refine (scmd_t _ (by first | exact hxa.now.keep hbc | exact hxa.now) HLN.out HG).mono ?_; rintro e wd ⟨rfl, hbd⟩)))
    rename_i hH
    replace bA := bA.keep hH.1
    replace bC := bC.keep hH.1
    replace hR := hR.keep hH.1
    replace B0 := below_step B0 hH.1
    clear hH hba hbc hbd hxa
    have a0 := (bA).c 0 rfl
    have a1 := (bA).c 1 rfl
    have a2 := (bA).c 2 rfl
    go_wp2_with fail
    clear a0 a1 a2
    refine (toFabric_f _ _ X _ hR HLN.out).mono ?_
    rintro e w4 ⟨s0, s1, rfl, hf, hb⟩
    have h4 := hf.now
    replace bA := bA.keep hb
    replace bC := bC.keep hb
    replace hR := hR.keep hb
    replace B0 := below_step B0 hb
    clear hb hf
    obtain ⟨ua, ub, rfl⟩ := h4.1.len
    obtain ⟨va, vb, rfl⟩ := h4.2.len
    obtain ⟨Y, eY⟩ : ∃ Y, Y = w4.heap.size := ⟨_, rfl⟩
    obtain ⟨bX, bW, z⟩ := one w4 [.slice ua X.nodes.length ub, .slice va X.links.length vb, .int .i64 X.width] 33
    have x0 := (bX).c 0 rfl
    have x1 := (bX).c 1 rfl
    have x2 := (bX).c 2 rfl
    go_wp2_with fail
    clear x0 x1 x2
    obtain ⟨w5, hw5⟩ : ∃ w5, w5 = w4.alloc (.cells #[.slice ua X.nodes.length ub, .slice va X.links.length vb, .int .i64 X.width] 33) := ⟨_, rfl⟩
    rw [← hw5] at bX bW ⊢
    rw [← eY] at bX
    try rw [← eY]
    replace bA := bA.keep bW
    replace bC := bC.keep bW
    replace hR := hR.keep bW
    replace h4 := h4.keep bW
    replace B0 := below_step B0 bW
    clear bW z hw5 eY
    go_region_held3 (fun w' => Over w5 w' ∧ w'.cell? ⟨Y, 0, none⟩ = some (.slice ua X.nodes.length ub) ∧ w'.cell? ⟨Y, 1, none⟩ = some (.slice va X.links.length vb) ∧ w'.cell? ⟨Y, 2, none⟩ = some (.int .i64 X.width) ∧ w'.cell? ⟨PC, 0, none⟩ = some (.int .i64 k) ∧ w'.cell? ⟨PC, 1, none⟩ = some (.int .i64 at9) ∧ w'.cell? ⟨PC, 2, none⟩ = some (.bool on) ∧ w'.cell? ⟨PC, 3, none⟩ = some (.int .i64 ad) ∧ w'.cell? ⟨PC, 4, none⟩ = some (.int .i64 ha))
      ((first | exact ⟨over_drew _, bX.c 0 rfl, bX.c 1 rfl, bX.c 2 rfl, bC.c 0 rfl, bC.c 1 rfl, bC.c 2 rfl, bC.c 3 rfl, bC.c 4 rfl⟩ | exact (fun o => ⟨o, bX.o o 0 rfl, bX.o o 1 rfl, bX.o o 2 rfl, bC.o o 0 rfl, bC.o o 1 rfl, bC.o o 2 rfl, bC.o o 3 rfl, bC.o o 4 rfl⟩) (over_step (‹Over w5 _ ∧ _›).1 (by assumption))))
      ((first | (go_at_call 7; refine (toCm_any _ _ _ _ _ _).mono ?_; rintro e wc ⟨rfl, hbc⟩) | (go_at_call 8; refine (icmd_t _ (h4.keep (‹Over w5 _ ∧ _›).1) HLN.out HG).mono ?_; rintro e wd ⟨rfl, hbd⟩)))
    rename_i hH
    replace bA := bA.keep hH.1
    replace bX := bX.keep hH.1
    replace hR := hR.keep hH.1
    replace h4 := h4.keep hH.1
    replace B0 := below_step B0 hH.1
    clear hH hbc hbd

    go_wp2_with fail
    go_region_held3 (fun w' => Over wd w' ∧ w'.cell? ⟨PA, 0, none⟩ = some (.slice na X.nodes.length nx) ∧ w'.cell? ⟨PA, 1, none⟩ = some (.slice la X.links.length lx) ∧ w'.cell? ⟨PA, 2, none⟩ = some (.int .i64 X.width) ∧ w'.cell? ⟨Y, 0, none⟩ = some (.slice ua X.nodes.length ub) ∧ w'.cell? ⟨Y, 1, none⟩ = some (.slice va X.links.length vb) ∧ w'.cell? ⟨Y, 2, none⟩ = some (.int .i64 X.width))
      ((first | exact ⟨over_drew _, bA.c 0 rfl, bA.c 1 rfl, bA.c 2 rfl, bX.c 0 rfl, bX.c 1 rfl, bX.c 2 rfl⟩ | exact (fun o => ⟨o, bA.o o 0 rfl, bA.o o 1 rfl, bA.o o 2 rfl, bX.o o 0 rfl, bX.o o 1 rfl, bX.o o 2 rfl⟩) (over_step (‹Over wd _ ∧ _›).1 (by assumption))))
      ((first | (go_at_call 6; refine (toFabric_f _ _ X _ (hR.keep (‹Over wd _ ∧ _›).1) HLN.out).mono ?_; rintro e wa ⟨t0, t1, rfl, hxa, hba⟩) | (go_at_call 9; refine (eqF_same _ _ _ _ X _ (h4.keep (‹Over wd _ ∧ _›).1) hxa.now).mono ?_; rintro e wb ⟨rfl, hbb⟩)))
    rename_i hH
    replace B0 := below_step B0 hH.1
    clear hH hbb hba hxa
    go_wp2
    go_ret
    exact ⟨rfl, B0⟩

set_option maxRecDepth 100000 in
theorem lifted (os : Os) (started : os.Started) (H : Type) (enc : TypeId × Value → H) :
    ReturnsInHanded {} Tryz.checked os 3 .any (Rows.fnExactCmdOkSpec.pre6 enc Tryz.prog Tryz.f3 Rows.fnExactCmdOkRow.domain false) (Rows.fnExactCmdOkSpec.post enc Tryz.prog Tryz.f3 false true false false) := by
  refine returnsInHanded_of_change (C := Tryz.checked) own started (by kernel_rfl) Tryz.func3
    (ChangeSpec.witness6 (enc := enc) (C := Tryz.checked) false ⟨#[], #[.agg #[.slice none 0 0, .slice none 0 0, .int .i64 0], .agg #[.int .i64 0, .int .i64 0, .bool false, .int .i64 0, .int .i64 0]], []⟩ 8 (by kernel_rfl) (by kernel_rfl) (by kernel_rfl) (by kernel_rfl)) ?_
  intro W base args ds gs before hval0 hW hcnd _
  have hval : ∀ (j : Nat) t v, Tryz.f3.params[j]? = some t → args[j]? = some v → Value.okWide Tryz.prog W .any base t v := hval0
  have hW' := hW
  obtain ⟨p, q, hA0, hV, rfl, hfz, hnd⟩ := hW
  have hA : DataW.TrodAll enc Tryz.prog W 0 (fun _ => true) true Tryz.f3.params.toList args.toList ds p := hA0
  rw [Tryz.params3] at hA hval
  obtain ⟨v0, vs0, d0, ds0, p0, q0, hargs, rfl, rfl, h0, r0⟩ := trodAll_cons hA
  obtain ⟨v1, vs1, d1, ds1, p1, q1, rfl, rfl, rfl, h1, r1⟩ := trodAll_cons r0
  obtain ⟨rfl, rfl, rfl⟩ := trodAll_nil r1
  obtain rfl : args = #[v0, v1] := by cases args; simp_all
  obtain ⟨rfl, rfl⟩ := trodVars_none hV
  have lt0 : ∀ x ∈ p0, x.block < W.heap.size := by obtain ⟨m, hm⟩ := h0; exact DataW.trod_lt m _ _ _ hm
  have w0 := is_Fabric (hval 0 25 v0 rfl rfl) h0
  have lt1 : ∀ x ∈ p1, x.block < W.heap.size := by obtain ⟨m, hm⟩ := h1; exact DataW.trod_lt m _ _ _ hm
  have w1 := is_Cmd (hval 1 27 v1 rfl rfl) h1
  clear hA0 hval0 hval
  refine (walk W v0 v1 w0 w1).mono fun e W' ⟨he, bel⟩ => ?_
  subst he
  exact ⟨_, rfl, _, _, _, [], _, [], hW', trodAll_mk1 (shut_bool Tryz.underlying4 _), (trodAll_cons_mk (Below.trod laidOut (by kernel_rfl) (of_decide_eq_true (by kernel_rfl)) h0 bel lt0) (trodAll_cons_mk (Below.trod laidOut (by kernel_rfl) (of_decide_eq_true (by kernel_rfl)) h1 bel lt1) trodAll_mk0)), rfl, bel.frame _, fun h => by cases h⟩

theorem over : Rows.fnExactCmdOkRow.holds Tryz.pinned (OpenSpec.ofChange Rows.fnExactCmdOkSpec) :=
  OpenClaim.holds_of_wide 3 Tryz.f3 rfl rfl rfl rfl rfl rfl rfl ⟨rfl, rfl, rfl, rfl, rfl⟩ rfl rfl rfl rfl rfl (by kernel_rfl) Tryz.func3 (by kernel_rfl)
    (of_decide_eq_true (by kernel_rfl)) (by unfold Func.isWrapper; first | (rw [if_pos (by decide +kernel)]; kernel_rfl) | (rw [if_neg (by decide +kernel)]; exact ⟨rfl, rfl⟩))
    (fun os started H enc _ => lifted os started H enc)

theorem proved : Rows.FnExactCmdOkSaid := over
end Go.Proofs.YtkodnipmogdgkabGreat.fnExactCmdOk
