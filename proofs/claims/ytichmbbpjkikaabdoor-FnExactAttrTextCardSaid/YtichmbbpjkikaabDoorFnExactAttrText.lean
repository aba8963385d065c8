/-
  The law 'FnExactAttrText' returns true for every input, and its arguments read afterwards as before, the listed tables holding what the program's text lays: the given statement 'Rows.FnExactAttrTextCardSaid'. No condition.
-/
import Derived.Test.YtichmbbpjkikaabDoorCards
import Derived.Test.YtichmbbpjkikaabDoorTie
import Derived.Deep.DeepHandedRow
import Derived.Lib.LaidTab
import Derived.Test.YtichmbbpjkikaabDoorO2
import Derived.Test.YtichmbbpjkikaabDoorJ4
import Derived.Test.YtichmbbpjkikaabDoorI2
namespace Go.Proofs.YtichmbbpjkikaabDoor.fnExactAttrText
open Go.ChangeShapes Go.WideShapes Go.ChangeAt Go.RowKit Go.Proofs.YtichmbbpjkikaabDoor
set_option linter.unusedVariables false
set_option maxRecDepth 100000
theorem gPow : Tryd.prog.globalNamed "internal/strconv.uint64pow10" = some 0 := by kernel_rfl
theorem gPowType : (Tryd.prog.globals[0]?).map (·.type) = some 70 := by kernel_rfl
theorem cellsPow : Tryd.prog.cellsOf 70 = 20 := by kernel_rfl
theorem cellsU64 : Tryd.prog.cellsOf 61 = 1 := by kernel_rfl
theorem tab_of {W : World} (h : laidMetH Tryd.prog Rows.fnExactAttrTextRow.laid W) : Tab W := by
  have h2 : laidMetH Tryd.prog [("internal/strconv.uint64pow10", Rows.laid_internal_strconv_uint64pow10)] W := h.filter (fun x => x.1 == "internal/strconv.uint64pow10")
  exact Lib.tabIs_of_head (rest := []) gPow gPowType Tryd.underlying70 Tryd.underlying61 cellsU64 cellsPow h2
set_option maxHeartbeats 4000000 in
theorem walk (W : World) (v0 : Value) (w0 : Is_Attr W v0) (hL : laidMetH Tryd.prog Rows.fnExactAttrTextRow.laid W) :
    Calls Tryd.prog 3 #[v0] W fun e w' => e = .returned (.bool true) ∧ Below W.heap.size W w' := by
  obtain ⟨pv, cv, p, c, pr, bw, rfl, hp, hc, -, -⟩ := w0
  have ht : Tab W := tab_of hL
  clear hL
  have bA := Bx.new W (pv) (.int .i64 pr) (cv) (.int .i64 bw) 24 W.heap.size rfl
  have B0 : Below W.heap.size W (W.alloc (.cells #[pv, .int .i64 pr, cv, .int .i64 bw] 24)) := (Below.refl _ _).alloc (Nat.le_refl _) _
  have hpV := hp.keep B0
  have hcV := hc.keep B0
  have o : Over (W.alloc (.cells #[pv, .int .i64 pr, cv, .int .i64 bw] 24)) (W.alloc (.cells #[pv, .int .i64 pr, cv, .int .i64 bw] 24)) := over_refl _
  obtain ⟨L, hLe⟩ : ∃ L, atextL p pr c bw = L := ⟨_, rfl⟩
  have hLb : ∀ x ∈ L, 0 ≤ x ∧ x ≤ 255 := by rw [← hLe]; exact atextL_bd p pr c bw
  have hLn : L.length ≤ 200 := by rw [← hLe]; exact atextL_len p pr c bw
  have HL := Lib.hid hLe
  clear hLe
  by_cases hsz : szA 1048576 p c < 0
  · have g1 : szA 1048576 p c < 0 := hsz
    go_enter Tryd.func3, Tryd.ntmps3
    go_wp2_with fail
    refine (szA_any pv cv p c pr bw _ _ (rdI_over hpV o) (rdI_over hcV o) (by decide) (by decide)).mono ?_
    rintro e w1 ⟨rfl, hb⟩
    replace bA := bA.keep hb
    replace o := over_step o hb
    clear hb
    go_wp2
    go_ret
    exact ⟨rfl, below_step B0 o⟩
  · have hpl := szA_p hsz
    have hcl := szA_c hsz
    have g1 : ¬ szA 1048576 p c < 0 := hsz
    go_enter Tryd.func3, Tryd.ntmps3
    go_wp2_with fail
    refine (szA_any pv cv p c pr bw _ _ (rdI_over hpV o) (rdI_over hcV o) (by decide) (by decide)).mono ?_
    rintro e w1 ⟨rfl, hb⟩
    replace bA := bA.keep hb
    replace o := over_step o hb
    clear hb
    have kA0 := bA.c0
    have kA1 := bA.c1
    have kA2 := bA.c2
    have kA3 := bA.c3
    have lA := bA.lt
    go_wp2_with fail
    clear kA0 kA1 kA2 kA3 lA
    refine (toA_any pv cv p c pr bw _ (rdI_over hpV o) (rdI_over hcV o) hpl hcl).mono ?_
    rintro e w2 ⟨ua1, ud1, ub1, uf1, rfl, hx1, hy1, hap1, hb⟩
    replace bA := bA.keep hb
    replace o := over_step o hb
    clear hb
    have kA0 := bA.c0
    have kA1 := bA.c1
    have kA2 := bA.c2
    have kA3 := bA.c3
    have lA := bA.lt
    go_wp2_with fail
    clear kA0 kA1 kA2 kA3 lA
    refine (satext_any _ _ p c pr bw _ (hx1.rd hpV.1) (hy1.rd hcV.1)).mono ?_
    rw [HL.out]
    rintro e w3 ⟨uw, rfl, how, hb⟩
    replace bA := bA.keep hb
    replace hx1 := hx1.keep hb
    replace hy1 := hy1.keep hb
    replace o := over_step o hb
    clear hb
    have RS := how.rd hLb
    have oS : Over w3 w3 := over_refl _
    clear how hx1 hy1 hap1
    have kA0 := bA.c0
    have kA1 := bA.c1
    have kA2 := bA.c2
    have kA3 := bA.c3
    have lA := bA.lt
    go_wp2_with fail
    clear kA0 kA1 kA2 kA3 lA
    have baseV := o.size
    have baseS := oS.size
    have ltA := bA.lt
    refine (toA_any pv cv p c pr bw _ (rdI_over hpV o) (rdI_over hcV o) hpl hcl).mono ?_
    rintro e w4 ⟨ua2, ud2, ub2, uf2, rfl, hx2, hy2, hap2, hb⟩
    replace bA := bA.keep hb
    replace o := over_step o hb
    replace oS := over_step oS hb
    clear hb
    have oB : Over w3 w4 := by exact (show Over w3 w4 from oS)
    have kA0 := bA.c0
    have kA1 := bA.c1
    have kA2 := bA.c2
    have kA3 := bA.c3
    have lA := bA.lt
    go_wp2_with fail
    clear kA0 kA1 kA2 kA3 lA
    obtain ⟨X, eX⟩ : ∃ X, X = w4.heap.size := ⟨_, rfl⟩
    rw [← eX]
    have bX := Bx.new w4 (.slice ua2 p.length ud2) (.int .i64 pr) (.slice ub2 c.length uf2) (.int .i64 bw) 28 X eX
    clear eX
    replace bA := bA.alloc (.cells #[.slice ua2 p.length ud2, .int .i64 pr, .slice ub2 c.length uf2, .int .i64 bw] 28)
    replace hx2 := hx2.keep ((Below.refl _ _).alloc (Nat.le_refl _) (.cells #[.slice ua2 p.length ud2, .int .i64 pr, .slice ub2 c.length uf2, .int .i64 bw] 28))
    replace hy2 := hy2.keep ((Below.refl _ _).alloc (Nat.le_refl _) (.cells #[.slice ua2 p.length ud2, .int .i64 pr, .slice ub2 c.length uf2, .int .i64 bw] 28))
    replace o := over_alloc o (.cells #[.slice ua2 p.length ud2, .int .i64 pr, .slice ub2 c.length uf2, .int .i64 bw] 28)
    replace oS := over_alloc oS (.cells #[.slice ua2 p.length ud2, .int .i64 pr, .slice ub2 c.length uf2, .int .i64 bw] 28)
    replace oB := over_alloc oB (.cells #[.slice ua2 p.length ud2, .int .i64 pr, .slice ub2 c.length uf2, .int .i64 bw] 28)
    have lx := fun k h => (World.ownsRow.lt hx2 k h).2
    have ly := fun k h => (World.ownsRow.lt hy2 k h).2
    have baseG := o.size
    have baseGS := oS.size
    have ltAG := bA.lt
    refine (iatext_any _ _ p c pr bw _ (hx2.rd hpV.1) (hy2.rd hcV.1) (ht.keep (below_step B0 (over_below o)))).mono ?_
    rw [HL.out]
    rintro e w5 ⟨ug, rfl, hog, hb⟩
    replace bA := bA.keep hb
    replace bX := bX.keep hb
    replace hx2 := hx2.keep hb
    replace hy2 := hy2.keep hb
    replace o := over_step o hb
    replace oS := over_step oS hb
    replace oB := over_step oB hb
    clear hb
    have kA0 := bA.c0
    have kA1 := bA.c1
    have kA2 := bA.c2
    have kA3 := bA.c3
    have lA := bA.lt
    have kX0 := bX.c0
    have kX1 := bX.c1
    have kX2 := bX.c2
    have kX3 := bX.c3
    have lX := bX.lt
    go_wp2_with fail
    clear kA0 kA1 kA2 kA3 kX0 kX1 kX2 kX3 lA lX
    refine (eqB_same _ _ L _ hog.rd (rd_over RS oS)).mono ?_
    rintro e w6 ⟨rfl, hb⟩
    replace bA := bA.keep hb
    replace bX := bX.keep hb
    replace hx2 := hx2.keep hb
    replace hy2 := hy2.keep hb
    replace hog := hog.keep hb
    replace o := over_step o hb
    replace oS := over_step oS hb
    replace oB := over_step oB hb
    clear hb
    have lA := bA.lt
    have lX := bX.lt
    go_wp2_with fail
    clear lA lX
    go_region_held3 (fun w' => Over w6 w' ∧ w'.cell? ⟨W.heap.size, 0, none⟩ = some (pv) ∧ w'.cell? ⟨W.heap.size, 1, none⟩ = some (.int .i64 pr) ∧ w'.cell? ⟨W.heap.size, 2, none⟩ = some (cv) ∧ w'.cell? ⟨W.heap.size, 3, none⟩ = some (.int .i64 bw) ∧ w'.cell? ⟨X, 0, none⟩ = some (.slice ua2 p.length ud2) ∧ w'.cell? ⟨X, 1, none⟩ = some (.int .i64 pr) ∧ w'.cell? ⟨X, 2, none⟩ = some (.slice ub2 c.length uf2) ∧ w'.cell? ⟨X, 3, none⟩ = some (.int .i64 bw))
      ((first | exact held8_0 bA bX | exact held8_S bA bX (by assumption) (by assumption)))
      ((first | (go_at_call 6; refine (toA_any pv cv p c pr bw _ (rdI_over hpV (over_trans o (‹Over w6 _ ∧ _›).1)) (rdI_over hcV (over_trans o (‹Over w6 _ ∧ _›).1)) hpl hcl).mono ?_; rintro e wa ⟨ua4, ud4, ub4, uf4, rfl, hxa, hya, hapa, hba⟩) | (go_at_call 9; refine (eqA_same _ _ _ _ p c pr bw _ (rdI_over (hx2.rd hpV.1) (‹Over w6 _ ∧ _›).1) (rdI_over (hy2.rd hcV.1) (‹Over w6 _ ∧ _›).1) (hxa.rd hpV.1) (hya.rd hcV.1)).mono ?_; rintro e w7 ⟨rfl, hbb⟩)))
    rename_i hH
    replace hH := hH.1
    clear hbb hba hxa hya hapa
    replace bA := bA.keep hH
    replace bX := bX.keep hH
    replace hx2 := hx2.keep hH
    replace hy2 := hy2.keep hH
    replace hog := hog.keep hH
    replace o := over_step o hH
    replace oS := over_step oS hH
    replace oB := over_step oB hH
    clear hH
    have kA0 := bA.c0
    have kA1 := bA.c1
    have kA2 := bA.c2
    have kA3 := bA.c3
    have lA := bA.lt
    have kX0 := bX.c0
    have kX1 := bX.c1
    have kX2 := bX.c2
    have kX3 := bX.c3
    have lX := bX.lt
    go_wp2_with fail
    clear kA0 kA1 kA2 kA3 kX0 kX1 kX2 kX3 lA lX
    refine (markA_two _ _ p c pr bw 1 _ _ hx2 hy2 hap2 oB.size (by decide) (by omega)).mono ?_
    rintro e w8 ⟨rfl, om, wm, g2, g3⟩
    replace o := over_two o hx2 hy2 baseV g2 g3
    replace oS := over_two oS hx2 hy2 baseS g2 g3
    replace bA := bx_two bA hx2 hy2 ltA g2 g3
    replace hog := hog.two lx ly g2 g3
    clear g2 g3 hx2 hy2 hap2 bX oB lx ly baseV baseS ltA
    have kA0 := bA.c0
    have kA1 := bA.c1
    have kA2 := bA.c2
    have kA3 := bA.c3
    have lA := bA.lt
    go_wp2_with fail
    clear kA0 kA1 kA2 kA3 lA
    refine (eqB_same _ _ L _ hog.rd (rd_over RS oS)).mono ?_
    rintro e w9 ⟨rfl, hb⟩
    replace bA := bA.keep hb
    replace hog := hog.keep hb
    replace o := over_step o hb
    replace oS := over_step oS hb
    clear hb
    have kA0 := bA.c0
    have kA1 := bA.c1
    have kA2 := bA.c2
    have kA3 := bA.c3
    have lA := bA.lt
    go_wp2_with fail
    clear kA0 kA1 kA2 kA3 lA
    refine (markM_any _ L _ 1 _ hog (by decide) (by omega)).mono ?_
    rintro e w10 ⟨rfl, hogm, hm⟩
    replace o := over_mark o baseG hm
    replace oS := over_mark oS baseGS hm
    replace bA := bx_below bA hm ltAG
    clear hm hog baseG baseGS ltAG
    have kA0 := bA.c0
    have kA1 := bA.c1
    have kA2 := bA.c2
    have kA3 := bA.c3
    have lA := bA.lt
    go_wp2_with fail
    clear kA0 kA1 kA2 kA3 lA
    refine (heldB_any _ 1 L.length _ hogm.rd (by decide) (by omega)).mono ?_
    rintro e w11 ⟨rfl, hb⟩
    replace bA := bA.keep hb
    replace hogm := hogm.keep hb
    replace o := over_step o hb
    replace oS := over_step oS hb
    clear hb
    have kA0 := bA.c0
    have kA1 := bA.c1
    have kA2 := bA.c2
    have kA3 := bA.c3
    have lA := bA.lt
    go_wp2_with fail
    clear kA0 kA1 kA2 kA3 lA
    refine (toA_any pv cv p c pr bw _ (rdI_over hpV o) (rdI_over hcV o) hpl hcl).mono ?_
    rintro e w12 ⟨ua5, ud5, ub5, uf5, rfl, hx5, hy5, hap5, hb⟩
    replace bA := bA.keep hb
    replace hogm := hogm.keep hb
    replace o := over_step o hb
    replace oS := over_step oS hb
    clear hb
    have kA0 := bA.c0
    have kA1 := bA.c1
    have kA2 := bA.c2
    have kA3 := bA.c3
    have lA := bA.lt
    go_wp2_with fail
    clear kA0 kA1 kA2 kA3 lA
    refine (iatext_any _ _ p c pr bw _ (hx5.rd hpV.1) (hy5.rd hcV.1) (ht.keep (below_step B0 (over_below o)))).mono ?_
    rw [HL.out]
    rintro e w13 ⟨uh, rfl, hoh, hb⟩
    replace bA := bA.keep hb
    replace hogm := hogm.keep hb
    replace hx5 := hx5.keep hb
    replace hy5 := hy5.keep hb
    replace o := over_step o hb
    replace oS := over_step oS hb
    clear hb
    have kA0 := bA.c0
    have kA1 := bA.c1
    have kA2 := bA.c2
    have kA3 := bA.c3
    have lA := bA.lt
    go_wp2_with fail
    clear kA0 kA1 kA2 kA3 lA
    refine (eqB_same _ _ L _ hoh.rd (rd_over RS oS)).mono ?_
    rintro e w14 ⟨rfl, hb⟩
    replace bA := bA.keep hb
    replace hogm := hogm.keep hb
    replace hx5 := hx5.keep hb
    replace hy5 := hy5.keep hb
    replace hoh := hoh.keep hb
    replace o := over_step o hb
    replace oS := over_step oS hb
    clear hb
    have kA0 := bA.c0
    have kA1 := bA.c1
    have kA2 := bA.c2
    have kA3 := bA.c3
    have lA := bA.lt
    go_wp2_with fail
    clear kA0 kA1 kA2 kA3 lA
    refine (heldB_any _ 1 L.length _ hogm.rd (by decide) (by omega)).mono ?_
    rintro e w15 ⟨rfl, hb⟩
    replace bA := bA.keep hb
    replace hogm := hogm.keep hb
    replace hx5 := hx5.keep hb
    replace hy5 := hy5.keep hb
    replace hoh := hoh.keep hb
    replace o := over_step o hb
    replace oS := over_step oS hb
    clear hb
    go_wp2
    go_ret
    exact ⟨rfl, below_step B0 o⟩

theorem contract (H : Type) (enc : TypeId × Value → H) (W : World) (base : Nat) (args : Array Value) (ds gs : List (DataW H)) (before : List MemPlace)
    (hval : ∀ (j : Nat) t v, Tryd.f3.params[j]? = some t → args[j]? = some v → Value.okWide Tryd.prog W .any base t v)
    (hW : DataW.Whole enc Tryd.prog Tryd.f3.params.toList Rows.fnExactAttrTextSpec.vars false W args.toList ds gs before) (hL : laidMetH Tryd.prog Rows.fnExactAttrTextRow.laid W) :
    Calls Tryd.prog 3 args W fun e W' => ∃ v, e = .returned v ∧ Rows.fnExactAttrTextSpec.post enc Tryd.prog Tryd.f3 false true false false W args v W' := by
  have hW' := hW
  obtain ⟨p, q, hA0, hV, rfl, hfz, hnd⟩ := hW
  have hA : DataW.TrodAll enc Tryd.prog W 0 (fun _ => true) true Tryd.f3.params.toList args.toList ds p := hA0
  rw [Tryd.params3] at hA hval
  obtain ⟨v0, vs0, d0, ds0, p0, q0, hargs, rfl, rfl, h0, r0⟩ := trodAll_cons hA
  obtain ⟨rfl, rfl, rfl⟩ := trodAll_nil r0
  obtain rfl : args = #[v0] := by cases args; simp_all
  obtain ⟨rfl, rfl⟩ := trodVars_none hV
  have lt0 : ∀ x ∈ p0, x.block < W.heap.size := by obtain ⟨m, hm⟩ := h0; exact DataW.trod_lt m _ _ _ hm
  have w0 := is_Attr (hval 0 24 v0 rfl rfl) h0
  clear hA0
  refine (walk W v0 w0 hL).mono fun e W' ⟨he, bel⟩ => ?_
  subst he
  exact ⟨_, rfl, _, _, _, [], _, [], hW', trodAll_mk1 (shut_bool Tryd.underlying4 _), (trodAll_cons_mk (Below.trod laidOut (by kernel_rfl) (of_decide_eq_true (by kernel_rfl)) h0 bel lt0) trodAll_mk0), rfl, bel.frame _, fun h => by cases h⟩

/-- a world for the witness: each listed table holds what its initialiser lays -/
noncomputable def laidWorld (os : Os) : World :=
  { World.holding Tryd.prog os ⟨#[], #[], []⟩ with heap := ((((World.holding Tryd.prog os ⟨#[], #[], []⟩).heap.modify 2 fun | .cells _ t frozen => .cells #[.int .u8 0, .int .u8 1, .int .u8 28, .int .u8 2, .int .u8 29, .int .u8 14, .int .u8 24, .int .u8 3, .int .u8 30, .int .u8 22, .int .u8 20, .int .u8 15, .int .u8 25, .int .u8 17, .int .u8 4, .int .u8 8, .int .u8 31, .int .u8 27, .int .u8 13, .int .u8 23, .int .u8 21, .int .u8 19, .int .u8 16, .int .u8 7, .int .u8 26, .int .u8 12, .int .u8 18, .int .u8 6, .int .u8 11, .int .u8 5, .int .u8 10, .int .u8 9] t frozen | o => o).modify 3 fun | .cells _ t frozen => .cells #[.int .u8 0, .int .u8 1, .int .u8 56, .int .u8 2, .int .u8 57, .int .u8 49, .int .u8 28, .int .u8 3, .int .u8 61, .int .u8 58, .int .u8 42, .int .u8 50, .int .u8 38, .int .u8 29, .int .u8 17, .int .u8 4, .int .u8 62, .int .u8 47, .int .u8 59, .int .u8 36, .int .u8 45, .int .u8 43, .int .u8 51, .int .u8 22, .int .u8 53, .int .u8 39, .int .u8 33, .int .u8 30, .int .u8 24, .int .u8 18, .int .u8 12, .int .u8 5, .int .u8 63, .int .u8 55, .int .u8 48, .int .u8 27, .int .u8 60, .int .u8 41, .int .u8 37, .int .u8 16, .int .u8 46, .int .u8 35, .int .u8 44, .int .u8 21, .int .u8 52, .int .u8 32, .int .u8 23, .int .u8 11, .int .u8 54, .int .u8 26, .int .u8 40, .int .u8 15, .int .u8 34, .int .u8 20, .int .u8 31, .int .u8 10, .int .u8 25, .int .u8 14, .int .u8 19, .int .u8 9, .int .u8 13, .int .u8 8, .int .u8 7, .int .u8 6] t frozen | o => o).modify 0 fun | .cells _ t frozen => .cells #[.int .u64 1, .int .u64 10, .int .u64 100, .int .u64 1000, .int .u64 10000, .int .u64 100000, .int .u64 1000000, .int .u64 10000000, .int .u64 100000000, .int .u64 1000000000, .int .u64 10000000000, .int .u64 100000000000, .int .u64 1000000000000, .int .u64 10000000000000, .int .u64 100000000000000, .int .u64 1000000000000000, .int .u64 10000000000000000, .int .u64 100000000000000000, .int .u64 1000000000000000000, .int .u64 10000000000000000000] t frozen | o => o) }

theorem laid_met (os : Os) : laidMet Tryd.prog Rows.fnExactAttrTextRow.laid ((laidWorld os).forCall (fun _ _ => 0) ⟨#[], #[.agg #[.slice none 0 0, .int .i64 0, .slice none 0 0, .int .i64 0]], []⟩).memory :=
  laidMet_of_run' 8 (by kernel_rfl) (by kernel_rfl)
theorem reads (os : Os) {H : Type} (enc : TypeId × Value → H) : ∃ places, DataW.whole enc Tryd.prog ((laidWorld os).forCall (fun _ _ => 0) ⟨#[], #[.agg #[.slice none 0 0, .int .i64 0, .slice none 0 0, .int .i64 0]], []⟩).memory Tryd.f3.params.toList Rows.fnExactAttrTextSpec.vars false (#[.agg #[.slice none 0 0, .int .i64 0, .slice none 0 0, .int .i64 0]] : Array Value).toList 8 = some ([.agg [.nil, .lit (.int .i64 0), .nil, .lit (.int .i64 0)]], [], places) :=
  ⟨[], by kernel_rfl⟩

set_option maxRecDepth 100000 in
theorem lifted (os : Os) (started : os.Started) (H : Type) (enc : TypeId × Value → H) (F : Stop.Interp) :
    ReturnsInHanded {} Tryd.checked os 3 .any ((OpenSpec.ofChange Rows.fnExactAttrTextSpec).preRow enc Tryd.prog Tryd.f3 Rows.fnExactAttrTextRow.domain false Rows.fnExactAttrTextRow.laid) (((OpenSpec.ofChange Rows.fnExactAttrTextSpec).at F).post enc Tryd.prog Tryd.f3 false true false false) := by
  obtain ⟨places, hx⟩ := reads os enc
  refine returnsInHanded_of_row (C := Tryd.checked) (s := OpenSpec.ofChange Rows.fnExactAttrTextSpec) own started (by kernel_rfl) Tryd.func3
    (witness_row_at (enc := enc) (C := Tryd.checked) false (laidWorld os) #[.agg #[.slice none 0 0, .int .i64 0, .slice none 0 0, .int .i64 0]] rfl (by kernel_rfl) (by kernel_rfl) (by kernel_rfl)
      (OpenSpec.preRow_of_cond 8 hx (by kernel_rfl) (fun k hk => by cases hk) (by kernel_rfl) (laid_met os))) ?_
  intro W base args ds gs before hval hW _ _ _ hL _ _
  exact contract H enc W base args ds gs before hval hW hL

theorem said : Rows.FnExactAttrTextSaid :=
  OpenClaim.holds_of_cond 3 Tryd.f3 rfl rfl rfl rfl rfl rfl rfl ⟨rfl, rfl, rfl, rfl, rfl⟩ rfl rfl rfl rfl rfl (by kernel_rfl) Tryd.func3 (by kernel_rfl)
    (of_decide_eq_true (by kernel_rfl)) (by unfold Func.isWrapper; first | (rw [if_pos (by decide +kernel)]; kernel_rfl) | (rw [if_neg (by decide +kernel)]; exact ⟨rfl, rfl⟩))
    (fun os started H enc _ F => by rw [OpenClaim.pre_eq_preRow]; exact lifted os started H enc F)

theorem plain (f : FuncId) (fn : Func) (hf : Tryd.pinned.checked.prog.funcNamed "loop.example/g00557/laws.FnExactAttrText" = some f) (hfn : Tryd.pinned.checked.prog.funcs[f]? = some fn) :
    false = Tryd.pinned.checked.prog.looks [] ∧ ∀ (j : Nat) t, fn.params[j]? = some t → Tryd.pinned.checked.prog.wantsStandIn t = false := by
  obtain rfl : f = 3 := Option.some.inj ((show Tryd.prog.funcNamed "loop.example/g00557/laws.FnExactAttrText" = some 3 by kernel_rfl).symm.trans hf) |>.symm
  obtain rfl : fn = Tryd.f3 := (Option.some.inj (Tryd.func3.symm.trans hfn)).symm
  refine ⟨by kernel_rfl, fun j t ht => ?_⟩
  rw [Tryd.params3] at ht
  have hm := Array.mem_of_getElem? ht
  simp at hm
  rcases hm with rfl
  · exact (show Tryd.prog.wantsStandIn 24 = false by kernel_rfl)

theorem proved : Rows.FnExactAttrTextCardSaid :=
  Claim7.holds_tied_plain_at .later [] _ _ _ _ said (fun _ h => by cases h) (by kernel_rfl) (fun _ h => by cases h) fnExactAttrText_row_tie rfl ⟨rfl, rfl⟩ (by kernel_rfl) rfl plain (by kernel_rfl)
end Go.Proofs.YtichmbbpjkikaabDoor.fnExactAttrText
