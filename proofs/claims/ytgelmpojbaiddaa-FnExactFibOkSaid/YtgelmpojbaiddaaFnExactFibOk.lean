/-
  The law 'FnExactFibOk' returns true for every input, and its arguments read afterwards as before: the given statement 'Rows.FnExactFibOkSaid'. No condition.
-/
import Derived.Test.YtgelmpojbaiddaaO1
import Derived.Test.YtgelmpojbaiddaaGD
namespace Go.Proofs.Ytgelmpojbaiddaa.fnExactFibOk
open Go.ChangeShapes Go.WideShapes Go.ChangeAt Go.RowKit Go.Proofs.Ytgelmpojbaiddaa
set_option linter.unusedVariables false
set_option maxRecDepth 100000
set_option maxHeartbeats 2000000 in
theorem walk (W : World) (v0 : Value) (w0 : Is_Fib W v0) :
    Calls Try.prog 4 #[v0] W fun e w' => e = .returned (.bool true) ∧ Below W.heap.size W w' := by
  obtain ⟨u, L, rfl, hR⟩ := w0
  obtain ⟨bA, B0, z⟩ := one W [u] 38
  replace hR := hR.keep B0
  clear z
  obtain ⟨g, hg⟩ : ∃ g, fibB L = g := ⟨_, rfl⟩
  have HG := Lib.hid hg
  have hgg : (g != g) = false := by simp
  clear hg
  obtain ⟨x, c, hv⟩ := hR.len
  rw [hv] at hR bA B0 ⊢
  clear hv
  go_enter Try.func4, Try.ntmps4
  go_wp2_with fail
  refine (szFb_any _ L _ _ hR (by decide) (by decide)).mono ?_
  rintro e w1 ⟨r, rfl, hsz, hb⟩
  replace bA := bA.keep hb
  replace hR := hR.keep hb
  replace B0 := below_step B0 hb
  clear hb
  have HSZ := Lib.hid hsz
  clear hsz
  by_cases hneg : r < 0
  · go_wp2_with fail
    go_ret
    exact ⟨rfl, B0⟩
  · have hlen : L.length + wtG L ≤ 1048576 := by have := HSZ.out (by omega); omega
    have a0 := bA.c 0 rfl
    go_wp2_with fail
    clear a0
    refine (toFb_any _ L _ hR hlen).mono ?_
    rintro e w2 ⟨u2, rfl, h2, hb⟩
    replace bA := bA.keep hb
    replace hR := hR.keep hb
    replace B0 := below_step B0 hb
    clear hb
    have hn : L.length ≤ 1048576 := by omega
    have r2 := h2.rd hn
    obtain ⟨x2, c2, rfl⟩ := r2.len
    have a0 := bA.c 0 rfl
    go_wp2_with fail
    clear a0
    refine (sfib_t _ r2 HG).mono ?_
    rintro e w3 ⟨rfl, hb⟩
    replace bA := bA.keep hb
    replace hR := hR.keep hb
    replace B0 := below_step B0 hb
    clear hb h2 r2
    have a0 := bA.c 0 rfl
    go_wp2_with fail
    clear a0
    refine (toFb_any _ L _ hR hlen).mono ?_
    rintro e w4 ⟨u4, rfl, h4, hb⟩
    replace bA := bA.keep hb
    replace hR := hR.keep hb
    replace B0 := below_step B0 hb
    clear hb
    replace h4 := h4.rd hn
    obtain ⟨x4, c4, rfl⟩ := h4.len
    have a0 := bA.c 0 rfl
    go_wp2_with fail
    clear a0
    obtain ⟨X, eX⟩ : ∃ X, X = w4.heap.size := ⟨_, rfl⟩
    obtain ⟨bX, bW, z⟩ := one w4 [.slice x4 L.length c4] 43
    rw [← eX] at bX bW ⊢
    clear z eX
    replace bA := bA.keep (w' := w4.alloc (.cells #[.slice x4 L.length c4] 43)) ((Below.refl _ _).alloc (Nat.le_refl _) _)
    replace hR := hR.alloc (.cells #[.slice x4 L.length c4] 43)
    replace h4 := h4.alloc (.cells #[.slice x4 L.length c4] 43)
    replace B0 := B0.alloc B0.size (.cells #[.slice x4 L.length c4] 43)
    clear bW
    refine (ifib_t _ h4 HG).mono ?_
    rintro e w5 ⟨rfl, hb⟩
    replace bX := bX.keep hb
    replace h4 := h4.keep hb
    replace bA := bA.keep hb
    replace hR := hR.keep hb
    replace B0 := below_step B0 hb
    clear hb
    go_wp2_with fail
    go_region_held3 (fun w' => Over w5 w' ∧ w'.cell? ⟨W.heap.size, 0, none⟩ = some (.slice x L.length c) ∧ w'.cell? ⟨X, 0, none⟩ = some (.slice x4 L.length c4))
      ((first | exact ⟨over_drew _, bA.c 0 rfl, bX.c 0 rfl⟩ | exact (fun o => ⟨o, bA.o o 0 rfl, bX.o o 0 rfl⟩) (over_step (‹Over w5 _ ∧ _›).1 (by assumption))))
      ((first | (go_at_call 17; refine (toFb_any _ L _ (hR.keep (‹Over w5 _ ∧ _›).1) hlen).mono ?_; rintro e wa ⟨ua, rfl, hxa, hba⟩) | (go_at_call 19; refine (eqFb_same _ _ L _ (h4.keep (‹Over w5 _ ∧ _›).1) (hxa.rd hn)).mono ?_; rintro e w6 ⟨rfl, hbb⟩)))
    rename_i hH
    replace hH := hH.1
    clear hbb hba hxa
    replace B0 := below_step B0 hH
    clear hH
    go_wp2
    go_ret
    exact ⟨rfl, B0⟩

set_option maxRecDepth 100000 in
theorem lifted (os : Os) (started : os.Started) (H : Type) (enc : TypeId × Value → H) :
    ReturnsInHanded {} Try.checked os 4 .any (Rows.fnExactFibOkSpec.pre6 enc Try.prog Try.f4 Rows.fnExactFibOkRow.domain false) (Rows.fnExactFibOkSpec.post enc Try.prog Try.f4 false true false false) := by
  refine returnsInHanded_of_change (C := Try.checked) own started (by kernel_rfl) Try.func4
    (ChangeSpec.witness6 (enc := enc) (C := Try.checked) false ⟨#[], #[.agg #[.slice none 0 0]], []⟩ 8 (by kernel_rfl) (by kernel_rfl) (by kernel_rfl) (by kernel_rfl)) ?_
  intro W base args ds gs before hval0 hW hcnd _
  have hval : ∀ (j : Nat) t v, Try.f4.params[j]? = some t → args[j]? = some v → Value.okWide Try.prog W .any base t v := hval0
  have hW' := hW
  obtain ⟨p, q, hA0, hV, rfl, hfz, hnd⟩ := hW
  have hA : DataW.TrodAll enc Try.prog W 0 (fun _ => true) true Try.f4.params.toList args.toList ds p := hA0
  rw [Try.params4] at hA hval
  obtain ⟨v0, vs0, d0, ds0, p0, q0, hargs, rfl, rfl, h0, r0⟩ := trodAll_cons hA
  obtain ⟨rfl, rfl, rfl⟩ := trodAll_nil r0
  obtain rfl : args = #[v0] := by cases args; simp_all
  obtain ⟨rfl, rfl⟩ := trodVars_none hV
  have lt0 : ∀ x ∈ p0, x.block < W.heap.size := by obtain ⟨m, hm⟩ := h0; exact DataW.trod_lt m _ _ _ hm
  have w0 := is_Fib (hval 0 38 v0 rfl rfl) h0
  clear hA0 hval0 hval
  refine (walk W v0 w0).mono fun e W' ⟨he, bel⟩ => ?_
  subst he
  exact ⟨_, rfl, _, _, _, [], _, [], hW', trodAll_mk1 (shut_bool Try.underlying4 _), (trodAll_cons_mk (Below.trod laidOut (by kernel_rfl) (of_decide_eq_true (by kernel_rfl)) h0 bel lt0) trodAll_mk0), rfl, bel.frame _, fun h => by cases h⟩

theorem over : Rows.fnExactFibOkRow.holds Try.pinned (OpenSpec.ofChange Rows.fnExactFibOkSpec) :=
  OpenClaim.holds_of_wide 4 Try.f4 rfl rfl rfl rfl rfl rfl rfl ⟨rfl, rfl, rfl, rfl, rfl⟩ rfl rfl rfl rfl rfl (by kernel_rfl) Try.func4 (by kernel_rfl)
    (of_decide_eq_true (by kernel_rfl)) (by unfold Func.isWrapper; first | (rw [if_pos (by decide +kernel)]; kernel_rfl) | (rw [if_neg (by decide +kernel)]; exact ⟨rfl, rfl⟩))
    (fun os started H enc _ => lifted os started H enc)

theorem proved : Rows.FnExactFibOkSaid := over
end Go.Proofs.Ytgelmpojbaiddaa.fnExactFibOk
