/-
  The law 'FnExactNodeOk' returns true for every input, and its arguments read afterwards as before: the given statement 'Rows.FnExactNodeOkSaid'. No condition.
-/
import Derived.Test.YtaiffofmhfflkaaO1
import Derived.Test.YtaiffofmhfflkaaZI
namespace Go.Proofs.Ytaiffofmhfflkaa.fnExactNodeOk
open Go.ChangeShapes Go.WideShapes Go.ChangeAt Go.RowKit Go.Proofs.Ytaiffofmhfflkaa
set_option linter.unusedVariables false
set_option maxRecDepth 100000
set_option linter.unusedSimpArgs false
set_option maxHeartbeats 8000000 in
theorem walk (W : World) (v0 : Value) (w0 : Is_Node W v0) :
    Calls Try.prog 3 #[v0] W fun e w' => e = .returned (.bool true) ∧ Below W.heap.size W w' := by
  obtain ⟨N, ov, rv, sv, rfl, hR⟩ := w0
  obtain ⟨oa, oc, hov⟩ := hR.1.len
  obtain ⟨ra, rc, hrv⟩ := hR.2.1.len
  obtain ⟨sa, sc, hsv⟩ := hR.2.2.len
  obtain ⟨on, hon⟩ : ∃ on, on = N.own.length := ⟨_, rfl⟩
  obtain ⟨rn, hrn⟩ : ∃ rn, rn = N.rib.length := ⟨_, rfl⟩
  obtain ⟨sn, hsn⟩ : ∃ sn, sn = N.sent.length := ⟨_, rfl⟩
  rw [← hon] at hov
  rw [← hrn] at hrv
  rw [← hsn] at hsv
  subst hov hrv hsv
  clear hon hrn hsn
  obtain ⟨bA, B0, z⟩ := one W [.int .i64 N.an, .slice oa on oc, .int .i64 N.bw, .bool N.dr, .slice ra rn rc, .slice sa sn sc] 27
  replace hR := hR.keep B0
  clear z
  obtain ⟨g, hg⟩ : ∃ g, ndB N = g := ⟨_, rfl⟩
  have HG := Lib.hid hg
  have hgg : (g != g) = false := by simp
  clear hg
  go_enter Try.func3, Try.ntmps3
  go_wp2_with fail
  refine (szNd_any _ _ _ N _ hR).mono ?_
  rintro e w1 ⟨r, rfl, hsz, hb⟩
  replace bA := bA.keep hb
  replace hR := hR.keep hb
  replace B0 := below_step B0 hb
  clear hb
  have HSZ := Lib.hid hsz
  clear hsz
  by_cases hneg : r < 0
  · go_wp2_with fail
    go_ret
    exact ⟨rfl, B0⟩
  · have hlen := HSZ.out hneg
    have a0 := bA.c 0 rfl
    have a1 := bA.c 1 rfl
    have a2 := bA.c 2 rfl
    have a3 := bA.c 3 rfl
    have a4 := bA.c 4 rfl
    have a5 := bA.c 5 rfl
    go_wp2_with fail
    clear a0 a1 a2 a3 a4 a5
    have hdN := hR.bd
    refine (toNd_any _ _ _ N _ hR hlen).mono ?_
    rintro e w2 hD
    obtain ⟨o2, r2, s2, rfl, h2, hb⟩ := newNd_open hD hdN hlen
    replace bA := bA.keep hb
    replace hR := hR.keep hb
    replace B0 := below_step B0 hb
    clear hb hD
    obtain ⟨x1, y1, hv1⟩ := h2.1.len
    obtain ⟨x2, y2, hv2⟩ := h2.2.1.len
    obtain ⟨x3, y3, hv3⟩ := h2.2.2.len
    subst hv1 hv2 hv3
    go_wp2_with fail
    refine (sndok_t _ h2 HG).mono ?_
    rintro e w3 ⟨rfl, hb⟩
    replace bA := bA.keep hb
    replace hR := hR.keep hb
    replace B0 := below_step B0 hb
    clear hb h2
    have a0 := bA.c 0 rfl
    have a1 := bA.c 1 rfl
    have a2 := bA.c 2 rfl
    have a3 := bA.c 3 rfl
    have a4 := bA.c 4 rfl
    have a5 := bA.c 5 rfl
    go_wp2_with fail
    clear a0 a1 a2 a3 a4 a5
    refine (toNd_any _ _ _ N _ hR hlen).mono ?_
    rintro e w4 hD
    obtain ⟨o4, r4, s4, rfl, h4, hb⟩ := newNd_open hD hdN hlen
    replace bA := bA.keep hb
    replace hR := hR.keep hb
    replace B0 := below_step B0 hb
    clear hb hD
    obtain ⟨x1, y1, hv1⟩ := h4.1.len
    obtain ⟨x2, y2, hv2⟩ := h4.2.1.len
    obtain ⟨x3, y3, hv3⟩ := h4.2.2.len
    subst hv1 hv2 hv3
    obtain ⟨X, eX⟩ : ∃ X, X = w4.heap.size := ⟨_, rfl⟩
    obtain ⟨bX, bW, z⟩ := one w4 [.int .i64 N.an, .slice x1 N.own.length y1, .int .i64 N.bw, .bool N.dr, .slice x2 N.rib.length y2, .slice x3 N.sent.length y3] 35
    have x0 := bX.c 0 rfl
    have x1 := bX.c 1 rfl
    have x2 := bX.c 2 rfl
    have x3 := bX.c 3 rfl
    have x4 := bX.c 4 rfl
    have x5 := bX.c 5 rfl
    go_wp2_with fail
    clear x0 x1 x2 x3 x4 x5
    obtain ⟨w5, hw5⟩ : ∃ w5, w5 = w4.alloc (.cells #[.int .i64 N.an, .slice x1 N.own.length y1, .int .i64 N.bw, .bool N.dr, .slice x2 N.rib.length y2, .slice x3 N.sent.length y3] 35) := ⟨_, rfl⟩
    rw [← hw5] at bX bW ⊢
    rw [← eX] at bX
    try rw [← eX]
    replace bA := bA.keep bW
    replace hR := hR.keep bW
    replace h4 := h4.keep bW
    replace B0 := below_step B0 bW
    clear z eX hw5 bW
    refine (indok_t _ h4 HG).mono ?_
    rintro e w6 ⟨rfl, hb⟩
    replace bX := bX.keep hb
    replace h4 := h4.keep hb
    replace bA := bA.keep hb
    replace hR := hR.keep hb
    replace B0 := below_step B0 hb
    clear hb
    go_wp2_with fail
    go_region_held3 (fun w' => Over w6 w' ∧ w'.cell? ⟨W.heap.size, 0, none⟩ = some (.int .i64 N.an) ∧ w'.cell? ⟨W.heap.size, 1, none⟩ = some (.slice oa on oc) ∧ w'.cell? ⟨W.heap.size, 2, none⟩ = some (.int .i64 N.bw) ∧ w'.cell? ⟨W.heap.size, 3, none⟩ = some (.bool N.dr) ∧ w'.cell? ⟨W.heap.size, 4, none⟩ = some (.slice ra rn rc) ∧ w'.cell? ⟨W.heap.size, 5, none⟩ = some (.slice sa sn sc) ∧ w'.cell? ⟨X, 0, none⟩ = some (.int .i64 N.an) ∧ w'.cell? ⟨X, 1, none⟩ = some (.slice x1 N.own.length y1) ∧ w'.cell? ⟨X, 2, none⟩ = some (.int .i64 N.bw) ∧ w'.cell? ⟨X, 3, none⟩ = some (.bool N.dr) ∧ w'.cell? ⟨X, 4, none⟩ = some (.slice x2 N.rib.length y2) ∧ w'.cell? ⟨X, 5, none⟩ = some (.slice x3 N.sent.length y3))
      ((first | exact ⟨over_drew _, bA.c 0 rfl, bA.c 1 rfl, bA.c 2 rfl, bA.c 3 rfl, bA.c 4 rfl, bA.c 5 rfl, bX.c 0 rfl, bX.c 1 rfl, bX.c 2 rfl, bX.c 3 rfl, bX.c 4 rfl, bX.c 5 rfl⟩ | exact (fun o => ⟨o, bA.o o 0 rfl, bA.o o 1 rfl, bA.o o 2 rfl, bA.o o 3 rfl, bA.o o 4 rfl, bA.o o 5 rfl, bX.o o 0 rfl, bX.o o 1 rfl, bX.o o 2 rfl, bX.o o 3 rfl, bX.o o 4 rfl, bX.o o 5 rfl⟩) (over_step (‹Over w6 _ ∧ _›).1 (by assumption))))
      ((first | (go_at_call 10; refine (toNd_p (hR.keep (‹Over w6 _ ∧ _›).1) hdN hlen).mono ?_; rintro e wa ⟨oz, rz, sz, rfl, hxa, hba⟩) | (go_at_call 12; refine (eqNd_same _ _ _ _ _ _ N _ (h4.keep (‹Over w6 _ ∧ _›).1) hxa).mono ?_; rintro e w7 ⟨rfl, hbb⟩)))
    rename_i hH
    replace hH := hH.1
    clear hbb hba hxa
    replace B0 := below_step B0 hH
    clear hH
    go_wp2
    go_ret
    exact ⟨rfl, B0⟩

set_option maxRecDepth 100000 in
theorem lifted (os : Os) (started : os.Started) (H : Type) (enc : TypeId × Value → H) :
    ReturnsInHanded {} Try.checked os 3 .any (Rows.fnExactNodeOkSpec.pre6 enc Try.prog Try.f3 Rows.fnExactNodeOkRow.domain false) (Rows.fnExactNodeOkSpec.post enc Try.prog Try.f3 false true false false) := by
  refine returnsInHanded_of_change (C := Try.checked) own started (by kernel_rfl) Try.func3
    (ChangeSpec.witness6 (enc := enc) (C := Try.checked) false ⟨#[], #[.agg #[.int .i64 0, .slice none 0 0, .int .i64 0, .bool false, .slice none 0 0, .slice none 0 0]], []⟩ 8 (by kernel_rfl) (by kernel_rfl) (by kernel_rfl) (by kernel_rfl)) ?_
  intro W base args ds gs before hval0 hW hcnd _
  have hval : ∀ (j : Nat) t v, Try.f3.params[j]? = some t → args[j]? = some v → Value.okWide Try.prog W .any base t v := hval0
  have hW' := hW
  obtain ⟨p, q, hA0, hV, rfl, hfz, hnd⟩ := hW
  have hA : DataW.TrodAll enc Try.prog W 0 (fun _ => true) true Try.f3.params.toList args.toList ds p := hA0
  rw [Try.params3] at hA hval
  obtain ⟨v0, vs0, d0, ds0, p0, q0, hargs, rfl, rfl, h0, r0⟩ := trodAll_cons hA
  obtain ⟨rfl, rfl, rfl⟩ := trodAll_nil r0
  obtain rfl : args = #[v0] := by cases args; simp_all
  obtain ⟨rfl, rfl⟩ := trodVars_none hV
  have lt0 : ∀ x ∈ p0, x.block < W.heap.size := by obtain ⟨m, hm⟩ := h0; exact DataW.trod_lt m _ _ _ hm
  have w0 := is_Node (hval 0 27 v0 rfl rfl) h0
  clear hA0 hval0 hval
  refine (walk W v0 w0).mono fun e W' ⟨he, bel⟩ => ?_
  subst he
  exact ⟨_, rfl, _, _, _, [], _, [], hW', trodAll_mk1 (shut_bool Try.underlying4 _), (trodAll_cons_mk (Below.trod laidOut (by kernel_rfl) (of_decide_eq_true (by kernel_rfl)) h0 bel lt0) trodAll_mk0), rfl, bel.frame _, fun h => by cases h⟩

theorem over : Rows.fnExactNodeOkRow.holds Try.pinned (OpenSpec.ofChange Rows.fnExactNodeOkSpec) :=
  OpenClaim.holds_of_wide 3 Try.f3 rfl rfl rfl rfl rfl rfl rfl ⟨rfl, rfl, rfl, rfl, rfl⟩ rfl rfl rfl rfl rfl (by kernel_rfl) Try.func3 (by kernel_rfl)
    (of_decide_eq_true (by kernel_rfl)) (by unfold Func.isWrapper; first | (rw [if_pos (by decide +kernel)]; kernel_rfl) | (rw [if_neg (by decide +kernel)]; exact ⟨rfl, rfl⟩))
    (fun os started H enc _ => lifted os started H enc)

theorem proved : Rows.FnExactNodeOkSaid := over
end Go.Proofs.Ytaiffofmhfflkaa.fnExactNodeOk
