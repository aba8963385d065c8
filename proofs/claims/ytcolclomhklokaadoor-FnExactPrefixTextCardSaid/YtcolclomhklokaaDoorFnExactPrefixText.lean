/-
  The law 'FnExactPrefixText' returns true for every input, and its arguments read afterwards as before, the listed tables holding what the program's text lays: the given statement 'Rows.FnExactPrefixTextCardSaid'. No condition.
-/
import Derived.Test.YtcolclomhklokaaDoorCards
import Derived.Test.YtcolclomhklokaaDoorTie
import Derived.Deep.DeepHandedRow
import Derived.Lib.LaidTab
import Derived.Test.YtcolclomhklokaaDoorO2
import Derived.Test.YtcolclomhklokaaDoorT2
import Derived.Test.YtcolclomhklokaaDoorT3
namespace Go.Proofs.YtcolclomhklokaaDoor.fnExactPrefixText
open Go.ChangeShapes Go.WideShapes Go.ChangeAt Go.RowKit Go.Proofs.YtcolclomhklokaaDoor
set_option linter.unusedVariables false
theorem gPow : Tryd.prog.globalNamed "internal/strconv.uint64pow10" = some 0 := by kernel_rfl
theorem gPowType : (Tryd.prog.globals[0]?).map (·.type) = some 82 := by kernel_rfl
theorem cellsPow : Tryd.prog.cellsOf 82 = 20 := by kernel_rfl
theorem cellsU64 : Tryd.prog.cellsOf 76 = 1 := by kernel_rfl
theorem tab_of {W : World} (h : laidMetH Tryd.prog Rows.fnExactPrefixTextRow.laid W) : Tab W := by
  have h2 : laidMetH Tryd.prog [("internal/strconv.uint64pow10", Rows.laid_internal_strconv_uint64pow10)] W := h.filter (fun x => x.1 == "internal/strconv.uint64pow10")
  exact Lib.tabIs_of_head (rest := []) gPow gPowType Tryd.underlying82 Tryd.underlying76 cellsU64 cellsPow h2
set_option maxHeartbeats 1000000 in
theorem walk (W : World) (v0 : Value) (w0 : Is_Prefix W v0) (hL : laidMetH Tryd.prog Rows.fnExactPrefixTextRow.laid W) :
    Calls Tryd.prog 5 #[v0] W fun e w' => e = .returned (.bool true) ∧ Below W.heap.size W w' := by
  obtain ⟨a, n, rfl, -, -⟩ := w0
  have ht : Tab W := tab_of hL
  obtain ⟨c0, c1, lt, B0⟩ := box2 W (.int .i64 a) (.int .i64 n) 46
  obtain ⟨L, hLe⟩ : ∃ L, textL a n = L := ⟨_, rfl⟩
  have hLb : ∀ x ∈ L, 0 ≤ x ∧ x ≤ 255 := by rw [← hLe]; exact textL_bd a n
  have hLn : L.length ≤ 16 := by rw [← hLe]; exact textL_len a n
  have HL := Lib.hid hLe
  clear hLe hL
  go_enter Tryd.func5, Tryd.ntmps5
  go_wp2_with fail
  refine (to_any a n _).mono ?_
  rintro e w1 ⟨rfl, hb1⟩
  have k0 := cell_keep hb1 lt c0
  have k1 := cell_keep hb1 lt c1
  have l1 := Nat.lt_of_lt_of_le lt hb1.size
  have B1 := below_step B0 hb1
  clear hb1 c0 c1 lt B0
  go_wp2_with fail
  refine (stext_any a n _).mono ?_
  rw [HL.out]
  rintro e w2 ⟨uc, rfl, hoc, hb2⟩
  have R2 := hoc.rd
  replace k0 := cell_keep hb2 l1 k0
  replace k1 := cell_keep hb2 l1 k1
  replace l1 := Nat.lt_of_lt_of_le l1 hb2.size
  replace B1 := below_step B1 hb2
  clear hoc hb2
  go_wp2_with fail
  refine (to_any a n _).mono ?_
  rintro e w3 ⟨rfl, hb3⟩
  replace R2 := R2.keep hb3
  replace k0 := cell_keep hb3 l1 k0
  replace k1 := cell_keep hb3 l1 k1
  replace l1 := Nat.lt_of_lt_of_le l1 hb3.size
  replace B1 := below_step B1 hb3
  clear hb3
  go_wp2_with fail
  refine (itext_any a n _ (ht.keep B1)).mono ?_
  rw [HL.out]
  rintro e w4 ⟨ug, rfl, hog, hb4⟩
  have oB : Over w3 w4 := hb4
  clear hb4
  go_wp2_with fail
  refine (eqB_same _ _ L _ hog.rd (rd_over R2 oB)).mono ?_
  rintro e w5 ⟨rfl, hb5⟩
  replace oB := over_step oB hb5
  replace hog := hog.keep hb5
  clear hb5
  go_wp2_with fail
  refine (markM_any _ L _ 1 _ hog (by omega) (by omega)).mono ?_
  rintro e w6 ⟨rfl, hogm, hm6⟩
  replace oB := over_mark oB (Nat.le_refl _) hm6
  clear hm6 hog
  go_wp2_with fail
  refine (heldB_any _ 1 L.length _ hogm.rd (by omega) (by omega)).mono ?_
  rintro e w7 ⟨rfl, hb7⟩
  replace oB := over_step oB hb7
  replace hogm := hogm.keep hb7
  clear hb7
  have m0 := over_cell oB l1 k0
  have m1 := over_cell oB l1 k1
  go_wp2_with fail
  refine (to_any a n _).mono ?_
  rintro e w8 ⟨rfl, hb8⟩
  replace oB := over_step oB hb8
  replace hogm := hogm.keep hb8
  clear hb8 m0 m1
  go_wp2_with fail
  refine (itext_any a n _ (ht.keep (below_step B1 (over_below oB)))).mono ?_
  rw [HL.out]
  rintro e w9 ⟨uh, rfl, hoh, hb9⟩
  replace oB := over_step oB hb9
  replace hogm := hogm.keep hb9
  clear hb9
  go_wp2_with fail
  refine (eqB_same _ _ L _ hoh.rd (rd_over R2 oB)).mono ?_
  rintro e w10 ⟨rfl, hb10⟩
  replace oB := over_step oB hb10
  replace hogm := hogm.keep hb10
  clear hb10 hoh
  go_wp2_with fail
  refine (heldB_any _ 1 L.length _ hogm.rd (by omega) (by omega)).mono ?_
  rintro e w11 ⟨rfl, hb11⟩
  replace oB := over_step oB hb11
  clear hb11 hogm
  go_wp2_with fail
  go_ret
  exact ⟨rfl, below_step B1 (over_below oB)⟩

theorem contract (H : Type) (enc : TypeId × Value → H) (W : World) (base : Nat) (args : Array Value) (ds gs : List (DataW H)) (before : List MemPlace)
    (hval : ∀ (j : Nat) t v, Tryd.f5.params[j]? = some t → args[j]? = some v → Value.okWide Tryd.prog W .any base t v)
    (hW : DataW.Whole enc Tryd.prog Tryd.f5.params.toList Rows.fnExactPrefixTextSpec.vars false W args.toList ds gs before) (hL : laidMetH Tryd.prog Rows.fnExactPrefixTextRow.laid W) :
    Calls Tryd.prog 5 args W fun e W' => ∃ v, e = .returned v ∧ Rows.fnExactPrefixTextSpec.post enc Tryd.prog Tryd.f5 false true false false W args v W' := by
  have hW' := hW
  obtain ⟨p, q, hA0, hV, rfl, hfz, hnd⟩ := hW
  have hA : DataW.TrodAll enc Tryd.prog W 0 (fun _ => true) true Tryd.f5.params.toList args.toList ds p := hA0
  rw [Tryd.params5] at hA hval
  obtain ⟨v0, vs0, d0, ds0, p0, q0, hargs, rfl, rfl, h0, r0⟩ := trodAll_cons hA
  obtain ⟨rfl, rfl, rfl⟩ := trodAll_nil r0
  obtain rfl : args = #[v0] := by cases args; simp_all
  obtain ⟨rfl, rfl⟩ := trodVars_none hV
  have lt0 : ∀ x ∈ p0, x.block < W.heap.size := by obtain ⟨m, hm⟩ := h0; exact DataW.trod_lt m _ _ _ hm
  have w0 := is_Prefix (hval 0 46 v0 rfl rfl) h0
  clear hA0
  refine (walk W v0 w0 hL).mono fun e W' ⟨he, bel⟩ => ?_
  subst he
  exact ⟨_, rfl, _, _, _, [], _, [], hW', trodAll_mk1 (shut_bool Tryd.underlying4 _), (trodAll_cons_mk (Below.trod laidOut (by kernel_rfl) (of_decide_eq_true (by kernel_rfl)) h0 bel lt0) trodAll_mk0), rfl, bel.frame _, fun h => by cases h⟩

/-- a world for the witness: each listed table holds what its initialiser lays -/
noncomputable def laidWorld (os : Os) : World :=
  { World.holding Tryd.prog os ⟨#[], #[], []⟩ with heap := ((((World.holding Tryd.prog os ⟨#[], #[], []⟩).heap.modify 1 fun | .cells _ t frozen => .cells #[.int .u8 0, .int .u8 1, .int .u8 28, .int .u8 2, .int .u8 29, .int .u8 14, .int .u8 24, .int .u8 3, .int .u8 30, .int .u8 22, .int .u8 20, .int .u8 15, .int .u8 25, .int .u8 17, .int .u8 4, .int .u8 8, .int .u8 31, .int .u8 27, .int .u8 13, .int .u8 23, .int .u8 21, .int .u8 19, .int .u8 16, .int .u8 7, .int .u8 26, .int .u8 12, .int .u8 18, .int .u8 6, .int .u8 11, .int .u8 5, .int .u8 10, .int .u8 9] t frozen | o => o).modify 2 fun | .cells _ t frozen => .cells #[.int .u8 0, .int .u8 1, .int .u8 56, .int .u8 2, .int .u8 57, .int .u8 49, .int .u8 28, .int .u8 3, .int .u8 61, .int .u8 58, .int .u8 42, .int .u8 50, .int .u8 38, .int .u8 29, .int .u8 17, .int .u8 4, .int .u8 62, .int .u8 47, .int .u8 59, .int .u8 36, .int .u8 45, .int .u8 43, .int .u8 51, .int .u8 22, .int .u8 53, .int .u8 39, .int .u8 33, .int .u8 30, .int .u8 24, .int .u8 18, .int .u8 12, .int .u8 5, .int .u8 63, .int .u8 55, .int .u8 48, .int .u8 27, .int .u8 60, .int .u8 41, .int .u8 37, .int .u8 16, .int .u8 46, .int .u8 35, .int .u8 44, .int .u8 21, .int .u8 52, .int .u8 32, .int .u8 23, .int .u8 11, .int .u8 54, .int .u8 26, .int .u8 40, .int .u8 15, .int .u8 34, .int .u8 20, .int .u8 31, .int .u8 10, .int .u8 25, .int .u8 14, .int .u8 19, .int .u8 9, .int .u8 13, .int .u8 8, .int .u8 7, .int .u8 6] t frozen | o => o).modify 0 fun | .cells _ t frozen => .cells #[.int .u64 1, .int .u64 10, .int .u64 100, .int .u64 1000, .int .u64 10000, .int .u64 100000, .int .u64 1000000, .int .u64 10000000, .int .u64 100000000, .int .u64 1000000000, .int .u64 10000000000, .int .u64 100000000000, .int .u64 1000000000000, .int .u64 10000000000000, .int .u64 100000000000000, .int .u64 1000000000000000, .int .u64 10000000000000000, .int .u64 100000000000000000, .int .u64 1000000000000000000, .int .u64 10000000000000000000] t frozen | o => o) }

theorem laid_met (os : Os) : laidMet Tryd.prog Rows.fnExactPrefixTextRow.laid ((laidWorld os).forCall (fun _ _ => 0) ⟨#[], #[.agg #[.int .i64 0, .int .i64 0]], []⟩).memory :=
  laidMet_of_run' 8 (by kernel_rfl) (by kernel_rfl)
theorem reads (os : Os) {H : Type} (enc : TypeId × Value → H) : ∃ places, DataW.whole enc Tryd.prog ((laidWorld os).forCall (fun _ _ => 0) ⟨#[], #[.agg #[.int .i64 0, .int .i64 0]], []⟩).memory Tryd.f5.params.toList Rows.fnExactPrefixTextSpec.vars false (#[.agg #[.int .i64 0, .int .i64 0]] : Array Value).toList 8 = some ([.agg [.lit (.int .i64 0), .lit (.int .i64 0)]], [], places) :=
  ⟨[], by kernel_rfl⟩

set_option maxRecDepth 100000 in
theorem lifted (os : Os) (started : os.Started) (H : Type) (enc : TypeId × Value → H) (F : Stop.Interp) :
    ReturnsInHanded {} Tryd.checked os 5 .any ((OpenSpec.ofChange Rows.fnExactPrefixTextSpec).preRow enc Tryd.prog Tryd.f5 Rows.fnExactPrefixTextRow.domain false Rows.fnExactPrefixTextRow.laid) (((OpenSpec.ofChange Rows.fnExactPrefixTextSpec).at F).post enc Tryd.prog Tryd.f5 false true false false) := by
  obtain ⟨places, hx⟩ := reads os enc
  refine returnsInHanded_of_row (C := Tryd.checked) (s := OpenSpec.ofChange Rows.fnExactPrefixTextSpec) own started (by kernel_rfl) Tryd.func5
    (witness_row_at (enc := enc) (C := Tryd.checked) false (laidWorld os) #[.agg #[.int .i64 0, .int .i64 0]] rfl (by kernel_rfl) (by kernel_rfl) (by kernel_rfl)
      (OpenSpec.preRow_of_cond 8 hx (by kernel_rfl) (fun k hk => by cases hk) (by kernel_rfl) (laid_met os))) ?_
  intro W base args ds gs before hval hW _ _ _ hL _ _
  exact contract H enc W base args ds gs before hval hW hL

theorem said : Rows.FnExactPrefixTextSaid :=
  OpenClaim.holds_of_cond 5 Tryd.f5 rfl rfl rfl rfl rfl rfl rfl ⟨rfl, rfl, rfl, rfl, rfl⟩ rfl rfl rfl rfl rfl (by kernel_rfl) Tryd.func5 (by kernel_rfl)
    (of_decide_eq_true (by kernel_rfl)) (by unfold Func.isWrapper; first | (rw [if_pos (by decide +kernel)]; kernel_rfl) | (rw [if_neg (by decide +kernel)]; exact ⟨rfl, rfl⟩))
    (fun os started H enc _ F => by rw [OpenClaim.pre_eq_preRow]; exact lifted os started H enc F)

theorem plain (f : FuncId) (fn : Func) (hf : Tryd.pinned.checked.prog.funcNamed "loop.example/g00557/laws.FnExactPrefixText" = some f) (hfn : Tryd.pinned.checked.prog.funcs[f]? = some fn) :
    false = Tryd.pinned.checked.prog.looks [] ∧ ∀ (j : Nat) t, fn.params[j]? = some t → Tryd.pinned.checked.prog.wantsStandIn t = false := by
  obtain rfl : f = 5 := Option.some.inj ((show Tryd.prog.funcNamed "loop.example/g00557/laws.FnExactPrefixText" = some 5 by kernel_rfl).symm.trans hf) |>.symm
  obtain rfl : fn = Tryd.f5 := (Option.some.inj (Tryd.func5.symm.trans hfn)).symm
  refine ⟨by kernel_rfl, fun j t ht => ?_⟩
  rw [Tryd.params5] at ht
  have hm := Array.mem_of_getElem? ht
  simp at hm
  rcases hm with rfl
  · exact (show Tryd.prog.wantsStandIn 46 = false by kernel_rfl)

theorem proved : Rows.FnExactPrefixTextCardSaid :=
  Claim7.holds_tied_plain_at .later [] _ _ _ _ said (fun _ h => by cases h) (by kernel_rfl) (fun _ h => by cases h) fnExactPrefixText_row_tie rfl ⟨rfl, rfl⟩ (by kernel_rfl) rfl plain (by kernel_rfl)
end Go.Proofs.YtcolclomhklokaaDoor.fnExactPrefixText
