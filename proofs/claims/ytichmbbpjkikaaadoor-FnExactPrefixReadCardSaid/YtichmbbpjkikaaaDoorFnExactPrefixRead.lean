/-
  The law 'FnExactPrefixRead' returns true for every input, and its arguments read afterwards as before, the listed tables holding what the program's text lays: the given statement 'Rows.FnExactPrefixReadCardSaid'. No condition.
-/
import Derived.Test.YtichmbbpjkikaaaDoorCards
import Derived.Test.YtichmbbpjkikaaaDoorTie
import Derived.Deep.DeepHandedRow
import Derived.Lib.LaidTab
import Derived.Test.YtichmbbpjkikaaaDoorO2
import Derived.Test.YtichmbbpjkikaaaDoorR6
import Derived.Test.YtichmbbpjkikaaaDoorD3
namespace Go.Proofs.YtichmbbpjkikaaaDoor.fnExactPrefixRead
open Go.ChangeShapes Go.WideShapes Go.ChangeAt Go.RowKit Go.Proofs.YtichmbbpjkikaaaDoor
set_option linter.unusedVariables false
set_option maxRecDepth 100000
theorem gPow : Tryd.prog.globalNamed "internal/strconv.uint64pow10" = some 0 := by kernel_rfl
theorem gPowType : (Tryd.prog.globals[0]?).map (·.type) = some 129 := by kernel_rfl
theorem cellsPow : Tryd.prog.cellsOf 129 = 20 := by kernel_rfl
theorem cellsU64 : Tryd.prog.cellsOf 120 = 1 := by kernel_rfl
theorem tab_of {W : World} (h : laidMetH Tryd.prog Rows.fnExactPrefixReadRow.laid W) : Tab W := by
  have h2 : laidMetH Tryd.prog [("internal/strconv.uint64pow10", Rows.laid_internal_strconv_uint64pow10)] W := h.filter (fun x => x.1 == "internal/strconv.uint64pow10")
  exact Lib.tabIs_of_head (rest := []) gPow gPowType Tryd.underlying129 Tryd.underlying120 cellsU64 cellsPow h2
set_option maxHeartbeats 4000000 in
theorem walk (W : World) (v0 : Value) (w0 : Is_bytes W v0) (hL : laidMetH Tryd.prog Rows.fnExactPrefixReadRow.laid W) :
    Calls Tryd.prog 7 #[v0] W fun e w' => e = .returned (.bool true) ∧ Below W.heap.size W w' := by
  obtain ⟨l, hrd⟩ := w0.rd
  have ht : Tab W := tab_of hL
  clear hL w0
  obtain ⟨ad, c, rfl⟩ := hrd.len
  by_cases hl : l.length ≤ 1048576
  · have hlI : ¬ (1048576 : Int) < (l.length : Int) := by omega
    have hlN : ¬ 1048576 < l.length := by omega
    go_enter Tryd.func7, Tryd.ntmps7
    go_wp2_with fail
    refine (toB_new _ l _ hrd hl).mono ?_
    rintro e w1 ⟨u1, rfl, ho1, hb1⟩
    have o1 : Over W w1 := hb1
    clear hb1
    go_wp2_with fail
    refine (sread_any _ l _ (ho1.rd hrd.1) hl).mono ?_
    rintro e w2 ⟨r2, rfl, hr2, hb2⟩
    replace o1 := over_step o1 hb2
    clear hb2 ho1
    have hc := hr2
    rcases hc with ⟨a, n, -, -, rfl⟩ | ⟨-, rfl⟩
    · go_wp2_with fail
      obtain ⟨P, hP⟩ : ∃ P, P = w2.heap.size := ⟨_, rfl⟩
      have bP := Box.new w2 (.int .i64 a) (.int .i64 n) 24 P hP
      replace o1 := over_alloc o1 (.cells #[.int .i64 a, .int .i64 n] 24)
      rw [← hP]
      clear hP
      generalize w2.alloc (.cells #[.int .i64 a, .int .i64 n] 24) = w2' at bP o1 ⊢
      refine (toB_new _ l _ (rd_over hrd o1) hl).mono ?_
      rintro e w3 ⟨u3, rfl, ho3, hb3⟩
      have o3 := over_step o1 hb3
      replace bP := bP.grown (grown_below hb3 none) (by simp)
      clear hb3
      go_wp2_with fail
      refine (iread_any _ l _ (ho3.rd hrd.1) hl (ht.keep (over_below o3))).mono ?_
      rintro e w4 ⟨r4, rfl, hr4, hb4⟩
      obtain rfl := TextOf.one hr4.text hr2
      have o4 := over_step o3 hb4
      replace bP := bP.grown (grown_below hb4 none) (by simp)
      replace ho3 := ho3.keep hb4
      clear hb4 hr4
      have bP4 := bP.alloc (.cells #[.int .i64 a, .int .i64 n] 24)
      have k0 := bP4.c0
      have k1 := bP4.c1
      obtain ⟨lP, p0, p1, -, -⟩ := bP
      go_wp2_with fail
      replace o4 := over_alloc o4 (.cells #[.int .i64 a, .int .i64 n] 24)
      replace ho3 := ho3.alloc (.cells #[.int .i64 a, .int .i64 n] 24)
      generalize w4.alloc (.cells #[.int .i64 a, .int .i64 n] 24) = w4' at o4 ho3 ⊢
      clear k0 k1 p0 p1 lP bP4
      refine (eqP_same _ _ _).mono ?_
      rintro e w5 ⟨rfl, hb5⟩
      have o5 := over_step o4 hb5
      replace ho3 := ho3.keep hb5
      clear hb5
      go_wp2_with fail
      refine (toB_new _ l _ (rd_over hrd o5) hl).mono ?_
      rintro e w6 ⟨u6, rfl, ho6, hb6⟩
      have o6 := over_step o5 hb6
      replace ho3 := ho3.keep hb6
      clear hb6
      go_wp2_with fail
      refine (eqB_same _ _ l _ (ho3.rd hrd.1) (ho6.rd hrd.1)).mono ?_
      rintro e w7 ⟨rfl, hb7⟩
      have o7 := over_step o6 hb7
      clear hb7
      go_wp2_with fail
      go_ret
      exact ⟨rfl, over_below o7⟩
    · go_wp2_with fail
      obtain ⟨P, hP⟩ : ∃ P, P = w2.heap.size := ⟨_, rfl⟩
      have bP := Box.new w2 (.int .i64 0) (.int .i64 0) 24 P hP
      replace o1 := over_alloc o1 (.cells #[.int .i64 0, .int .i64 0] 24)
      rw [← hP]
      clear hP
      generalize w2.alloc (.cells #[.int .i64 0, .int .i64 0] 24) = w2' at bP o1 ⊢
      refine (toB_new _ l _ (rd_over hrd o1) hl).mono ?_
      rintro e w3 ⟨u3, rfl, ho3, hb3⟩
      have o3 := over_step o1 hb3
      replace bP := bP.grown (grown_below hb3 none) (by simp)
      clear hb3
      go_wp2_with fail
      refine (iread_any _ l _ (ho3.rd hrd.1) hl (ht.keep (over_below o3))).mono ?_
      rintro e w4 ⟨r4, rfl, hr4, hb4⟩
      obtain rfl := TextOf.one hr4.text hr2
      have o4 := over_step o3 hb4
      replace bP := bP.grown (grown_below hb4 none) (by simp)
      replace ho3 := ho3.keep hb4
      clear hb4 hr4
      have bP4 := bP.alloc (.cells #[.int .i64 0, .int .i64 0] 24)
      have k0 := bP4.c0
      have k1 := bP4.c1
      obtain ⟨lP, p0, p1, -, -⟩ := bP
      go_wp2_with fail
      replace o4 := over_alloc o4 (.cells #[.int .i64 0, .int .i64 0] 24)
      replace ho3 := ho3.alloc (.cells #[.int .i64 0, .int .i64 0] 24)
      generalize w4.alloc (.cells #[.int .i64 0, .int .i64 0] 24) = w4' at o4 ho3 ⊢
      clear k0 k1 p0 p1 lP bP4
      refine (eqP_same _ _ _).mono ?_
      rintro e w5 ⟨rfl, hb5⟩
      have o5 := over_step o4 hb5
      replace ho3 := ho3.keep hb5
      clear hb5
      go_wp2_with fail
      refine (toB_new _ l _ (rd_over hrd o5) hl).mono ?_
      rintro e w6 ⟨u6, rfl, ho6, hb6⟩
      have o6 := over_step o5 hb6
      replace ho3 := ho3.keep hb6
      clear hb6
      go_wp2_with fail
      refine (eqB_same _ _ l _ (ho3.rd hrd.1) (ho6.rd hrd.1)).mono ?_
      rintro e w7 ⟨rfl, hb7⟩
      have o7 := over_step o6 hb7
      clear hb7
      go_wp2_with fail
      go_ret
      exact ⟨rfl, over_below o7⟩
  · have hlI : (1048576 : Int) < (l.length : Int) := by omega
    have hlN : 1048576 < l.length := by omega
    go_enter Tryd.func7, Tryd.ntmps7
    go_wp2_with fail
    go_ret
    exact ⟨rfl, Below.refl _ _⟩

theorem contract (H : Type) (enc : TypeId × Value → H) (W : World) (base : Nat) (args : Array Value) (ds gs : List (DataW H)) (before : List MemPlace)
    (hval : ∀ (j : Nat) t v, Tryd.f7.params[j]? = some t → args[j]? = some v → Value.okWide Tryd.prog W .any base t v)
    (hW : DataW.Whole enc Tryd.prog Tryd.f7.params.toList Rows.fnExactPrefixReadSpec.vars false W args.toList ds gs before) (hL : laidMetH Tryd.prog Rows.fnExactPrefixReadRow.laid W) :
    Calls Tryd.prog 7 args W fun e W' => ∃ v, e = .returned v ∧ Rows.fnExactPrefixReadSpec.post enc Tryd.prog Tryd.f7 false true false false W args v W' := by
  have hW' := hW
  obtain ⟨p, q, hA0, hV, rfl, hfz, hnd⟩ := hW
  have hA : DataW.TrodAll enc Tryd.prog W 0 (fun _ => true) true Tryd.f7.params.toList args.toList ds p := hA0
  rw [Tryd.params7] at hA hval
  obtain ⟨v0, vs0, d0, ds0, p0, q0, hargs, rfl, rfl, h0, r0⟩ := trodAll_cons hA
  obtain ⟨rfl, rfl, rfl⟩ := trodAll_nil r0
  obtain rfl : args = #[v0] := by cases args; simp_all
  obtain ⟨rfl, rfl⟩ := trodVars_none hV
  have lt0 : ∀ x ∈ p0, x.block < W.heap.size := by obtain ⟨m, hm⟩ := h0; exact DataW.trod_lt m _ _ _ hm
  have w0 := is_bytes (hval 0 22 v0 rfl rfl) h0
  clear hA0
  refine (walk W v0 w0 hL).mono fun e W' ⟨he, bel⟩ => ?_
  subst he
  exact ⟨_, rfl, _, _, _, [], _, [], hW', trodAll_mk1 (shut_bool Tryd.underlying4 _), (trodAll_cons_mk (Below.trod laidOut (by kernel_rfl) (of_decide_eq_true (by kernel_rfl)) h0 bel lt0) trodAll_mk0), rfl, bel.frame _, fun h => by cases h⟩

/-- a world for the witness: each listed table holds what its initialiser lays -/
noncomputable def laidWorld (os : Os) : World :=
  { World.holding Tryd.prog os ⟨#[], #[], []⟩ with heap := ((((World.holding Tryd.prog os ⟨#[], #[], []⟩).heap.modify 2 fun | .cells _ t frozen => .cells #[.int .u8 0, .int .u8 1, .int .u8 28, .int .u8 2, .int .u8 29, .int .u8 14, .int .u8 24, .int .u8 3, .int .u8 30, .int .u8 22, .int .u8 20, .int .u8 15, .int .u8 25, .int .u8 17, .int .u8 4, .int .u8 8, .int .u8 31, .int .u8 27, .int .u8 13, .int .u8 23, .int .u8 21, .int .u8 19, .int .u8 16, .int .u8 7, .int .u8 26, .int .u8 12, .int .u8 18, .int .u8 6, .int .u8 11, .int .u8 5, .int .u8 10, .int .u8 9] t frozen | o => o).modify 3 fun | .cells _ t frozen => .cells #[.int .u8 0, .int .u8 1, .int .u8 56, .int .u8 2, .int .u8 57, .int .u8 49, .int .u8 28, .int .u8 3, .int .u8 61, .int .u8 58, .int .u8 42, .int .u8 50, .int .u8 38, .int .u8 29, .int .u8 17, .int .u8 4, .int .u8 62, .int .u8 47, .int .u8 59, .int .u8 36, .int .u8 45, .int .u8 43, .int .u8 51, .int .u8 22, .int .u8 53, .int .u8 39, .int .u8 33, .int .u8 30, .int .u8 24, .int .u8 18, .int .u8 12, .int .u8 5, .int .u8 63, .int .u8 55, .int .u8 48, .int .u8 27, .int .u8 60, .int .u8 41, .int .u8 37, .int .u8 16, .int .u8 46, .int .u8 35, .int .u8 44, .int .u8 21, .int .u8 52, .int .u8 32, .int .u8 23, .int .u8 11, .int .u8 54, .int .u8 26, .int .u8 40, .int .u8 15, .int .u8 34, .int .u8 20, .int .u8 31, .int .u8 10, .int .u8 25, .int .u8 14, .int .u8 19, .int .u8 9, .int .u8 13, .int .u8 8, .int .u8 7, .int .u8 6] t frozen | o => o).modify 0 fun | .cells _ t frozen => .cells #[.int .u64 1, .int .u64 10, .int .u64 100, .int .u64 1000, .int .u64 10000, .int .u64 100000, .int .u64 1000000, .int .u64 10000000, .int .u64 100000000, .int .u64 1000000000, .int .u64 10000000000, .int .u64 100000000000, .int .u64 1000000000000, .int .u64 10000000000000, .int .u64 100000000000000, .int .u64 1000000000000000, .int .u64 10000000000000000, .int .u64 100000000000000000, .int .u64 1000000000000000000, .int .u64 10000000000000000000] t frozen | o => o) }

theorem laid_met (os : Os) : laidMet Tryd.prog Rows.fnExactPrefixReadRow.laid ((laidWorld os).forCall (fun _ _ => 0) ⟨#[], #[.slice none 0 0], []⟩).memory :=
  laidMet_of_run' 8 (by kernel_rfl) (by kernel_rfl)
theorem reads (os : Os) {H : Type} (enc : TypeId × Value → H) : ∃ places, DataW.whole enc Tryd.prog ((laidWorld os).forCall (fun _ _ => 0) ⟨#[], #[.slice none 0 0], []⟩).memory Tryd.f7.params.toList Rows.fnExactPrefixReadSpec.vars false (#[.slice none 0 0] : Array Value).toList 8 = some ([.nil], [], places) :=
  ⟨[], by kernel_rfl⟩

set_option maxRecDepth 100000 in
theorem lifted (os : Os) (started : os.Started) (H : Type) (enc : TypeId × Value → H) (F : Stop.Interp) :
    ReturnsInHanded {} Tryd.checked os 7 .any ((OpenSpec.ofChange Rows.fnExactPrefixReadSpec).preRow enc Tryd.prog Tryd.f7 Rows.fnExactPrefixReadRow.domain false Rows.fnExactPrefixReadRow.laid) (((OpenSpec.ofChange Rows.fnExactPrefixReadSpec).at F).post enc Tryd.prog Tryd.f7 false true false false) := by
  obtain ⟨places, hx⟩ := reads os enc
  refine returnsInHanded_of_row (C := Tryd.checked) (s := OpenSpec.ofChange Rows.fnExactPrefixReadSpec) own started (by kernel_rfl) Tryd.func7
    (witness_row_at (enc := enc) (C := Tryd.checked) false (laidWorld os) #[.slice none 0 0] rfl (by kernel_rfl) (by kernel_rfl) (by kernel_rfl)
      (OpenSpec.preRow_of_cond 8 hx (by kernel_rfl) (fun k hk => by cases hk) (by kernel_rfl) (laid_met os))) ?_
  intro W base args ds gs before hval hW _ _ _ hL _ _
  exact contract H enc W base args ds gs before hval hW hL

theorem said : Rows.FnExactPrefixReadSaid :=
  OpenClaim.holds_of_cond 7 Tryd.f7 rfl rfl rfl rfl rfl rfl rfl ⟨rfl, rfl, rfl, rfl, rfl⟩ rfl rfl rfl rfl rfl (by kernel_rfl) Tryd.func7 (by kernel_rfl)
    (of_decide_eq_true (by kernel_rfl)) (by unfold Func.isWrapper; first | (rw [if_pos (by decide +kernel)]; kernel_rfl) | (rw [if_neg (by decide +kernel)]; exact ⟨rfl, rfl⟩))
    (fun os started H enc _ F => by rw [OpenClaim.pre_eq_preRow]; exact lifted os started H enc F)

theorem plain (f : FuncId) (fn : Func) (hf : Tryd.pinned.checked.prog.funcNamed "loop.example/g00557/laws.FnExactPrefixRead" = some f) (hfn : Tryd.pinned.checked.prog.funcs[f]? = some fn) :
    false = Tryd.pinned.checked.prog.looks [] ∧ ∀ (j : Nat) t, fn.params[j]? = some t → Tryd.pinned.checked.prog.wantsStandIn t = false := by
  obtain rfl : f = 7 := Option.some.inj ((show Tryd.prog.funcNamed "loop.example/g00557/laws.FnExactPrefixRead" = some 7 by kernel_rfl).symm.trans hf) |>.symm
  obtain rfl : fn = Tryd.f7 := (Option.some.inj (Tryd.func7.symm.trans hfn)).symm
  refine ⟨by kernel_rfl, fun j t ht => ?_⟩
  rw [Tryd.params7] at ht
  have hm := Array.mem_of_getElem? ht
  simp at hm
  rcases hm with rfl
  · exact (show Tryd.prog.wantsStandIn 22 = false by kernel_rfl)

theorem proved : Rows.FnExactPrefixReadCardSaid :=
  Claim7.holds_tied_plain_at .later [] _ _ _ _ said (fun _ h => by cases h) (by kernel_rfl) (fun _ h => by cases h) fnExactPrefixRead_row_tie rfl ⟨rfl, rfl⟩ (by kernel_rfl) rfl plain (by kernel_rfl)
end Go.Proofs.YtichmbbpjkikaaaDoor.fnExactPrefixRead
