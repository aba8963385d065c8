/-
  The law 'FnExactPutPrefix' returns true for every input, and its arguments read afterwards as before: the given statement 'Rows.FnExactPutPrefixSaid'. No condition.
-/
import Derived.Test.YtcolclomhklokaaW7
namespace Go.Proofs.Ytcolclomhklokaa.fnExactPutPrefix
open Go.ChangeShapes Go.WideShapes Go.ChangeAt Go.RowKit Go.Proofs.Ytcolclomhklokaa
set_option linter.unusedVariables false
set_option maxHeartbeats 1000000 in
theorem walk (W : World) (v0 v1 : Value) (w0 : Is_bytes W v0) (w1 : Is_Prefix W v1) :
    Calls Try.prog 8 #[v0, v1] W fun e w' => e = .returned (.bool true) ∧ Below W.heap.size W w' := by
  obtain ⟨l, hR⟩ := w0.rd
  obtain ⟨a, n, rfl, -, -⟩ := w1
  by_cases hbig : l.length ≤ 1048576
  · obtain ⟨x, c, hv⟩ := hR.len
    rw [hv] at hR ⊢
    clear hv
    obtain ⟨L, hL⟩ : ∃ L, l ++ putL a n = L := ⟨_, rfl⟩
    have hLb : ∀ x ∈ L, 0 ≤ x ∧ x ≤ 255 := by
      rw [← hL]
      intro x hx
      rcases List.mem_append.1 hx with h | h
      · exact hR.1 x h
      · exact putL_bd a n x h
    have hLn : L.length ≤ 1048579 := by
      have := putL_len a n
      rw [← hL, List.length_append]
      omega
    have HL := Lib.hid hL
    clear hL
    obtain ⟨c0, c1, lt, B0⟩ := box2 W (.int .i64 a) (.int .i64 n) 23
    have hRV := hR.alloc (.cells #[.int .i64 a, .int .i64 n] 23)
    go_enter Try.func8, Try.ntmps8
    go_wp2_with fail
    go_region_held3 (fun w' => Over (W.alloc (.cells #[.int .i64 a, .int .i64 n] 23)) w' ∧ w'.cell? ⟨W.heap.size, 0, none⟩ = some (.int .i64 a) ∧ w'.cell? ⟨W.heap.size, 1, none⟩ = some (.int .i64 n))
      ((first | exact held0 lt c0 c1 | exact heldS lt c0 c1 (by assumption) (by assumption)))
      ((first | (go_at_call 22; refine (toB_new _ l _ (rd_over hRV (‹Over (W.alloc (.cells #[.int .i64 a, .int .i64 n] 23)) _ ∧ _ ∧ _›).1) hbig).mono ?_; rintro e wa ⟨ua, rfl, hoa, hba⟩) | (go_at_call 11; refine (to_any a n _).mono ?_; rintro e wb ⟨rfl, hbb⟩) | (go_at_call 21; refine (sput_any _ l a n _ ((hoa.keep hbb).rd hR.1) hbig).mono ?_; rintro e wc ⟨uc, rfl, hoc, hbc⟩)))
    rename_i hH
    obtain ⟨o, e0, e1⟩ := hH
    clear hba hbb hbc hoa
    rw [HL.out] at hoc
    go_wp2_with fail
    refine (toB_new _ l _ (rd_over hRV o) hbig).mono ?_
    rintro e w1 ⟨u1, rfl, ho1, hb1⟩
    have p1 := sepO hoc ho1 (Nat.le_refl _)
    have p2 := sepY hoc ho1 (Nat.le_refl _)
    have q1 := hb1.size
    have oc1 := o.size
    have o1 := over_step o hb1
    replace hoc := hoc.keep hb1
    clear hb1
    replace e0 := over_cell o1 lt c0
    replace e1 := over_cell o1 lt c1
    go_wp2_with fail
    refine (to_any a n _).mono ?_
    rintro e w2 ⟨rfl, hb2⟩
    have o2 := over_step o1 hb2
    replace hoc := hoc.keep hb2
    replace ho1 := ho1.keep hb2
    clear hb2 o1
    go_wp2_with fail
    refine (iput_any _ l a n _ (ho1.rd hR.1) hbig).mono ?_
    rintro e w3 ⟨u3, rfl, ho3, hb3⟩
    rw [HL.out] at ho3
    have p3 := sepO ho1 ho3 (Nat.le_refl _)
    have p4 := sepY ho1 ho3 (Nat.le_refl _)
    have p5 := sepO hoc ho3 (Nat.le_refl _)
    have p6 := sepY hoc ho3 (Nat.le_refl _)
    have oc3 := o2.size
    have o3 := over_step o2 hb3
    replace hoc := hoc.keep hb3
    replace ho1 := ho1.keep hb3
    clear hb3 o2
    go_wp2_with fail
    refine (eqB_same _ _ L _ (ho3.rd hLb) (hoc.rd hLb)).mono ?_
    rintro e w4 ⟨rfl, hb4⟩
    have o4 := over_step o3 hb4
    replace hoc := hoc.keep hb4
    replace ho1 := ho1.keep hb4
    replace ho3 := ho3.keep hb4
    clear hb4 o3
    go_wp2_with fail
    refine (toB_new _ l _ (rd_over hRV o4) hbig).mono ?_
    rintro e w5 ⟨u5, rfl, ho5, hb5⟩
    have o5 := over_step o4 hb5
    replace hoc := hoc.keep hb5
    replace ho1 := ho1.keep hb5
    replace ho3 := ho3.keep hb5
    clear hb5 o4
    go_wp2_with fail
    refine (eqB_same _ _ l _ (ho1.rd hR.1) (ho5.rd hR.1)).mono ?_
    rintro e w6 ⟨rfl, hb6⟩
    have o6 := over_step o5 hb6
    replace hoc := hoc.keep hb6
    replace ho1 := ho1.keep hb6
    replace ho3 := ho3.keep hb6
    replace ho5 := ho5.keep hb6
    clear hb6 o5
    clear ho5
    go_wp2_with fail
    refine (markB_any _ l _ 1 _ ho1 (by omega) (by omega)).mono ?_
    rintro e w7 ⟨rfl, ho1m, hg7⟩
    have o7 := over_grown o6 ho1 oc1 hg7
    replace hoc := hoc.kept hg7 p1
    replace ho3 := ho3.kept hg7 p4
    clear hg7 ho1 o6
    go_wp2_with fail
    refine (eqB_same _ _ L _ (ho3.rd hLb) (hoc.rd hLb)).mono ?_
    rintro e w8 ⟨rfl, hb8⟩
    have o8 := over_step o7 hb8
    replace hoc := hoc.keep hb8
    replace ho3 := ho3.keep hb8
    clear hb8 o7
    go_wp2_with fail
    refine (markB_any _ L _ 1 _ ho3 (by omega) (by omega)).mono ?_
    rintro e w9 ⟨rfl, ho3m, hg9⟩
    have o9 := over_grown o8 ho3 oc3 hg9
    replace hoc := hoc.kept hg9 p5
    clear hg9 ho3 o8
    go_wp2_with fail
    refine (heldB_any _ 1 L.length _ (ho3m.rd (marks_bd 1 _)) (by omega) (by omega)).mono ?_
    rintro e w10 ⟨rfl, hb10⟩
    have o10 := over_step o9 hb10
    replace hoc := hoc.keep hb10
    replace ho3m := ho3m.keep hb10
    clear hb10 o9
    have g0 := over_cell o10 lt c0
    have g1 := over_cell o10 lt c1
    have lt10 : W.heap.size < w10.heap.size := Nat.lt_of_lt_of_le lt (over_below o10).size
    have hRV10 := rd_over hRV o10
    go_wp2_with fail
    go_region_held3 (fun w' => Over (w10) w' ∧ w'.cell? ⟨W.heap.size, 0, none⟩ = some (.int .i64 a) ∧ w'.cell? ⟨W.heap.size, 1, none⟩ = some (.int .i64 n))
      ((first | exact held0 lt10 g0 g1 | exact heldS lt10 g0 g1 (by assumption) (by assumption)))
      ((first | (go_at_call 22; refine (toB_new _ l _ (rd_over hRV10 (‹Over (w10) _ ∧ _ ∧ _›).1) hbig).mono ?_; rintro e waz ⟨uaz, rfl, hoaz, hbaz⟩) | (go_at_call 11; refine (to_any a n _).mono ?_; rintro e wbz ⟨rfl, hbbz⟩) | (go_at_call 23; refine (iput_any _ l a n _ ((hoaz.keep hbbz).rd hR.1) hbig).mono ?_; rintro e wcz ⟨ucz, rfl, hocz, hbcz⟩)))
    rename_i hHz
    obtain ⟨oz, e0z, e1z⟩ := hHz
    clear hbaz hbbz hbcz hoaz
    rw [HL.out] at hocz
    have o11 := over_trans o10 oz
    replace hoc := hoc.keep (over_below oz)
    replace ho3m := ho3m.keep (over_below oz)
    clear o10 g0 g1 lt10 hRV10 oz e0z e1z
    go_wp2_with fail
    refine (eqB_same _ _ L _ (hocz.rd hLb) (hoc.rd hLb)).mono ?_
    rintro e w12 ⟨rfl, hb12⟩
    have o12 := over_step o11 hb12
    replace hoc := hoc.keep hb12
    replace ho3m := ho3m.keep hb12
    replace hocz := hocz.keep hb12
    clear hb12 o11
    go_wp2_with fail
    refine (heldB_any _ 1 L.length _ (ho3m.rd (marks_bd 1 _)) (by omega) (by omega)).mono ?_
    rintro e w13 ⟨rfl, hb13⟩
    have o13 := over_step o12 hb13
    replace hoc := hoc.keep hb13
    replace ho3m := ho3m.keep hb13
    replace hocz := hocz.keep hb13
    clear hb13 o12
    go_wp2_with fail
    go_ret
    exact ⟨rfl, below_step B0 (over_below o13)⟩
  · obtain ⟨x, c, rfl⟩ := hR.len
    have hbI : (1048576 : Int) < (l.length : Int) := by omega
    go_enter Try.func8, Try.ntmps8
    go_wp2_with fail
    go_ret
    exact ⟨rfl, (Below.refl _ _).alloc (Nat.le_refl _) _⟩

set_option maxRecDepth 100000 in
theorem lifted (os : Os) (started : os.Started) (H : Type) (enc : TypeId × Value → H) :
    ReturnsInHanded {} Try.checked os 8 .any (Rows.fnExactPutPrefixSpec.pre6 enc Try.prog Try.f8 Rows.fnExactPutPrefixRow.domain false) (Rows.fnExactPutPrefixSpec.post enc Try.prog Try.f8 false true false false) := by
  refine returnsInHanded_of_change (C := Try.checked) own started (by kernel_rfl) Try.func8
    (ChangeSpec.witness6 (enc := enc) (C := Try.checked) false ⟨#[], #[.slice none 0 0, .agg #[.int .i64 0, .int .i64 0]], []⟩ 8 (by kernel_rfl) (by kernel_rfl) (by kernel_rfl) (by kernel_rfl)) ?_
  intro W base args ds gs before hval0 hW hcnd _
  have hval : ∀ (j : Nat) t v, Try.f8.params[j]? = some t → args[j]? = some v → Value.okWide Try.prog W .any base t v := hval0
  have hW' := hW
  obtain ⟨p, q, hA0, hV, rfl, hfz, hnd⟩ := hW
  have hA : DataW.TrodAll enc Try.prog W 0 (fun _ => true) true Try.f8.params.toList args.toList ds p := hA0
  rw [Try.params8] at hA hval
  obtain ⟨v0, vs0, d0, ds0, p0, q0, hargs, rfl, rfl, h0, r0⟩ := trodAll_cons hA
  obtain ⟨v1, vs1, d1, ds1, p1, q1, rfl, rfl, rfl, h1, r1⟩ := trodAll_cons r0
  obtain ⟨rfl, rfl, rfl⟩ := trodAll_nil r1
  obtain rfl : args = #[v0, v1] := by cases args; simp_all
  obtain ⟨rfl, rfl⟩ := trodVars_none hV
  have lt0 : ∀ x ∈ p0, x.block < W.heap.size := by obtain ⟨m, hm⟩ := h0; exact DataW.trod_lt m _ _ _ hm
  have w0 := is_bytes (hval 0 34 v0 rfl rfl) h0
  have lt1 : ∀ x ∈ p1, x.block < W.heap.size := by obtain ⟨m, hm⟩ := h1; exact DataW.trod_lt m _ _ _ hm
  have w1 := is_Prefix (hval 1 23 v1 rfl rfl) h1
  clear hA0 hval0 hval
  refine (walk W v0 v1 w0 w1).mono fun e W' ⟨he, bel⟩ => ?_
  subst he
  exact ⟨_, rfl, _, _, _, [], _, [], hW', trodAll_mk1 (shut_bool Try.underlying4 _), (trodAll_cons_mk (Below.trod laidOut (by kernel_rfl) (of_decide_eq_true (by kernel_rfl)) h0 bel lt0) (trodAll_cons_mk (Below.trod laidOut (by kernel_rfl) (of_decide_eq_true (by kernel_rfl)) h1 bel lt1) trodAll_mk0)), rfl, bel.frame _, fun h => by cases h⟩

theorem over : Rows.fnExactPutPrefixRow.holds Try.pinned (OpenSpec.ofChange Rows.fnExactPutPrefixSpec) :=
  OpenClaim.holds_of_wide 8 Try.f8 rfl rfl rfl rfl rfl rfl rfl ⟨rfl, rfl, rfl, rfl, rfl⟩ rfl rfl rfl rfl rfl (by kernel_rfl) Try.func8 (by kernel_rfl)
    (of_decide_eq_true (by kernel_rfl)) (by unfold Func.isWrapper; first | (rw [if_pos (by decide +kernel)]; kernel_rfl) | (rw [if_neg (by decide +kernel)]; exact ⟨rfl, rfl⟩))
    (fun os started H enc _ => lifted os started H enc)

theorem proved : Rows.FnExactPutPrefixSaid := over
end Go.Proofs.Ytcolclomhklokaa.fnExactPutPrefix
