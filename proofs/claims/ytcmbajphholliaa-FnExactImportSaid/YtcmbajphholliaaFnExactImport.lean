/-
  The law 'FnExactImport' returns true for every input, and its arguments read afterwards as before: the given statement 'Rows.FnExactImportSaid'. No condition.
-/
import Derived.Test.YtcmbajphholliaaF1
namespace Go.Proofs.Ytcmbajphholliaa.fnExactImport
open Go.ChangeShapes Go.WideShapes Go.ChangeAt Go.RowKit Go.Proofs.Ytcmbajphholliaa
set_option linter.unusedVariables false
set_option maxRecDepth 100000
set_option maxHeartbeats 2000000 in
theorem walk (W : World) (v0 v1 : Value) (w0 : Is_int W v0) (w1 : Is_Attr W v1) :
    Calls Try.prog 8 #[v0, v1] W fun e w' => e = .returned (.bool true) ∧ Below W.heap.size W w' := by
  obtain ⟨pv, cv, p, c, pr, bw, rfl, hp, hc, -, -⟩ := w1
  obtain ⟨an, rfl, han0, han1⟩ := w0
  have han : I64 an := ⟨han0, han1⟩
  have bA := Bx.new W (pv) (.int .i64 pr) (cv) (.int .i64 bw) 37 W.heap.size rfl
  have B0 : Below W.heap.size W (W.alloc (.cells #[pv, .int .i64 pr, cv, .int .i64 bw] 37)) := (Below.refl _ _).alloc (Nat.le_refl _) _
  have hpV := hp.keep B0
  have hcV := hc.keep B0
  have o : Over (W.alloc (.cells #[pv, .int .i64 pr, cv, .int .i64 bw] 37)) (W.alloc (.cells #[pv, .int .i64 pr, cv, .int .i64 bw] 37)) := over_refl _
  by_cases hsz : szA 1048576 p c < 0
  · have g1 : szA 1048576 p c < 0 := hsz
    go_enter Try.func8, Try.ntmps8
    go_wp2_with fail
    refine (szA_any pv cv p c pr bw _ _ (rdI_over hpV o) (rdI_over hcV o) (by decide) (by decide)).mono ?_
    rintro e w1 ⟨rfl, hb⟩
    replace bA := bA.keep hb
    replace o := over_step o hb
    clear hb
    go_wp2
    go_ret
    exact ⟨rfl, below_step B0 o⟩
  · have hpl := szA_p hsz
    have hcl := szA_c hsz
    have g1 : ¬ szA 1048576 p c < 0 := hsz
    obtain ⟨P, hP⟩ : ∃ P, (if ((asB an && aokB p pr c bw) && !decide (an ∈ p)) then (p) else []) = P := ⟨_, rfl⟩
    obtain ⟨C, hC⟩ : ∃ C, (if ((asB an && aokB p pr c bw) && !decide (an ∈ p)) then c else []) = C := ⟨_, rfl⟩
    obtain ⟨PR, hPR⟩ : ∃ PR, (if ((asB an && aokB p pr c bw) && !decide (an ∈ p)) then shutP 100 c else 0) = PR := ⟨_, rfl⟩
    obtain ⟨BW, hBW⟩ : ∃ BW, (if ((asB an && aokB p pr c bw) && !decide (an ∈ p)) then bw else 0) = BW := ⟨_, rfl⟩
    obtain ⟨OK, hOK⟩ : ∃ OK, ((asB an && aokB p pr c bw) && !decide (an ∈ p)) = OK := ⟨_, rfl⟩
    have hPb : ∀ x ∈ P, -9223372036854775808 ≤ x ∧ x ≤ 9223372036854775807 := by
      rw [← hP]
      split
      · exact hp.1
      · simp
    have hCb : ∀ x ∈ C, -9223372036854775808 ≤ x ∧ x ≤ 9223372036854775807 := by rw [← hC]; split; exact hc.1; simp
    have hPn : P.length ≤ 1048577 := by
      rw [← hP]
      split
      · omega
      · simp
    have hCn : C.length ≤ 1048577 := by rw [← hC]; split; omega; simp
    have HR := Lib.hid (And.intro hP (And.intro hPR (And.intro hC (And.intro hBW hOK))))
    clear hP hC hPR hBW hOK
    go_enter Try.func8, Try.ntmps8
    go_wp2_with fail
    refine (szA_any pv cv p c pr bw _ _ (rdI_over hpV o) (rdI_over hcV o) (by decide) (by decide)).mono ?_
    rintro e w1 ⟨rfl, hb⟩
    replace bA := bA.keep hb
    replace o := over_step o hb
    clear hb
    have kA0 := bA.c0
    have kA1 := bA.c1
    have kA2 := bA.c2
    have kA3 := bA.c3
    have lA := bA.lt
    go_wp2_with fail
    clear kA0 kA1 kA2 kA3 lA
    obtain ⟨A, eA⟩ : ∃ A, A = W.heap.size := ⟨_, rfl⟩
    rw [← eA] at bA
    try rw [← eA]
    clear eA
    skip
    refine (toA_any pv cv p c pr bw _ (rdI_over hpV o) (rdI_over hcV o) hpl hcl).mono ?_
    rintro e w2 ⟨ua1, ud1, ub1, uf1, rfl, hx1, hy1, ap_hx1_hy1, hb⟩
    have shx1A := OwnI.sepLt hx1 bA.lt
    have shy1A := OwnI.sepLt hy1 bA.lt
    have base2 := o.size
    replace bA := bA.keep hb
    replace o := over_step o hb
    clear hb
    have kA0 := bA.c0
    have kA1 := bA.c1
    have kA2 := bA.c2
    have kA3 := bA.c3
    have lA := bA.lt
    go_wp2_with fail
    clear kA0 kA1 kA2 kA3 lA
    refine (simport_t HR han _ _ p c pr bw an _ (hx1.rd hpV.1) (hy1.rd hcV.1)).mono ?_
    rintro e w3 ⟨gaw, gdw, gbw, gfw, rfl, hwp, hwc, ap_hwp_hwc, hb⟩
    have ap_hx1_hwp := apartI hx1 hwp (Nat.le_refl _)
    have ap_hy1_hwp := apartI hy1 hwp (Nat.le_refl _)
    have shwpA := OwnI.sepLt hwp bA.lt
    have ap_hx1_hwc := apartI hx1 hwc (Nat.le_refl _)
    have ap_hy1_hwc := apartI hy1 hwc (Nat.le_refl _)
    have shwcA := OwnI.sepLt hwc bA.lt
    have base3 := o.size
    replace bA := bA.keep hb
    replace hx1 := hx1.keep hb
    replace hy1 := hy1.keep hb
    replace o := over_step o hb
    clear hb

    clear hx1
    clear hy1
    have kA0 := bA.c0
    have kA1 := bA.c1
    have kA2 := bA.c2
    have kA3 := bA.c3
    have lA := bA.lt
    go_wp2_with fail
    clear kA0 kA1 kA2 kA3 lA
    obtain ⟨Z, eZ⟩ : ∃ Z, Z = w3.heap.size := ⟨_, rfl⟩
    rw [← eZ]
    have bZ := Bx.new w3 (.slice gaw P.length gdw) (.int .i64 PR) (.slice gbw C.length gfw) (.int .i64 BW) 44 Z eZ
    have shwpZ := OwnI.sepGe hwp (Nat.le_of_eq eZ.symm)
    have shwcZ := OwnI.sepGe hwc (Nat.le_of_eq eZ.symm)
    clear eZ
    replace bA := bA.alloc (.cells #[.slice gaw P.length gdw, .int .i64 PR, .slice gbw C.length gfw, .int .i64 BW] 44)
    replace hwp := hwp.alloc (.cells #[.slice gaw P.length gdw, .int .i64 PR, .slice gbw C.length gfw, .int .i64 BW] 44)
    replace hwc := hwc.alloc (.cells #[.slice gaw P.length gdw, .int .i64 PR, .slice gbw C.length gfw, .int .i64 BW] 44)
    replace o := over_alloc o (.cells #[.slice gaw P.length gdw, .int .i64 PR, .slice gbw C.length gfw, .int .i64 BW] 44)
    refine (toA_any pv cv p c pr bw _ (rdI_over hpV o) (rdI_over hcV o) hpl hcl).mono ?_
    rintro e w4 ⟨ua2, ud2, ub2, uf2, rfl, hx2, hy2, ap_hx2_hy2, hb⟩
    have ap_hwp_hx2 := apartI hwp hx2 (Nat.le_refl _)
    have ap_hwc_hx2 := apartI hwc hx2 (Nat.le_refl _)
    have shx2A := OwnI.sepLt hx2 bA.lt
    have shx2Z := OwnI.sepLt hx2 bZ.lt
    have ap_hwp_hy2 := apartI hwp hy2 (Nat.le_refl _)
    have ap_hwc_hy2 := apartI hwc hy2 (Nat.le_refl _)
    have shy2A := OwnI.sepLt hy2 bA.lt
    have shy2Z := OwnI.sepLt hy2 bZ.lt
    have base4 := o.size
    replace bA := bA.keep hb
    replace bZ := bZ.keep hb
    replace hwp := hwp.keep hb
    replace hwc := hwc.keep hb
    replace o := over_step o hb
    clear hb
    have kA0 := bA.c0
    have kA1 := bA.c1
    have kA2 := bA.c2
    have kA3 := bA.c3
    have lA := bA.lt
    have kZ0 := bZ.c0
    have kZ1 := bZ.c1
    have kZ2 := bZ.c2
    have kZ3 := bZ.c3
    have lZ := bZ.lt
    go_wp2_with fail
    clear kA0 kA1 kA2 kA3 kZ0 kZ1 kZ2 kZ3 lA lZ
    obtain ⟨X, eX⟩ : ∃ X, X = w4.heap.size := ⟨_, rfl⟩
    rw [← eX]
    have bX := Bx.new w4 (.slice ua2 p.length ud2) (.int .i64 pr) (.slice ub2 c.length uf2) (.int .i64 bw) 44 X eX
    have shwpX := OwnI.sepGe hwp (Nat.le_of_eq eX.symm)
    have shwcX := OwnI.sepGe hwc (Nat.le_of_eq eX.symm)
    have shx2X := OwnI.sepGe hx2 (Nat.le_of_eq eX.symm)
    have shy2X := OwnI.sepGe hy2 (Nat.le_of_eq eX.symm)
    clear eX
    replace bA := bA.alloc (.cells #[.slice ua2 p.length ud2, .int .i64 pr, .slice ub2 c.length uf2, .int .i64 bw] 44)
    replace bZ := bZ.alloc (.cells #[.slice ua2 p.length ud2, .int .i64 pr, .slice ub2 c.length uf2, .int .i64 bw] 44)
    replace hwp := hwp.alloc (.cells #[.slice ua2 p.length ud2, .int .i64 pr, .slice ub2 c.length uf2, .int .i64 bw] 44)
    replace hwc := hwc.alloc (.cells #[.slice ua2 p.length ud2, .int .i64 pr, .slice ub2 c.length uf2, .int .i64 bw] 44)
    replace hx2 := hx2.alloc (.cells #[.slice ua2 p.length ud2, .int .i64 pr, .slice ub2 c.length uf2, .int .i64 bw] 44)
    replace hy2 := hy2.alloc (.cells #[.slice ua2 p.length ud2, .int .i64 pr, .slice ub2 c.length uf2, .int .i64 bw] 44)
    replace o := over_alloc o (.cells #[.slice ua2 p.length ud2, .int .i64 pr, .slice ub2 c.length uf2, .int .i64 bw] 44)
    refine (iimport_t HR han _ _ p c pr bw an _ (hx2.rd hpV.1) (hy2.rd hcV.1)).mono ?_
    rintro e w5 ⟨gag, gdg, gbg, gfg, rfl, hgp, hgc, ap_hgp_hgc, hb⟩
    have ap_hwp_hgp := apartI hwp hgp (Nat.le_refl _)
    have ap_hwc_hgp := apartI hwc hgp (Nat.le_refl _)
    have ap_hx2_hgp := apartI hx2 hgp (Nat.le_refl _)
    have ap_hy2_hgp := apartI hy2 hgp (Nat.le_refl _)
    have shgpA := OwnI.sepLt hgp bA.lt
    have shgpZ := OwnI.sepLt hgp bZ.lt
    have shgpX := OwnI.sepLt hgp bX.lt
    have ap_hwp_hgc := apartI hwp hgc (Nat.le_refl _)
    have ap_hwc_hgc := apartI hwc hgc (Nat.le_refl _)
    have ap_hx2_hgc := apartI hx2 hgc (Nat.le_refl _)
    have ap_hy2_hgc := apartI hy2 hgc (Nat.le_refl _)
    have shgcA := OwnI.sepLt hgc bA.lt
    have shgcZ := OwnI.sepLt hgc bZ.lt
    have shgcX := OwnI.sepLt hgc bX.lt
    have base5 := o.size
    replace bA := bA.keep hb
    replace bZ := bZ.keep hb
    replace bX := bX.keep hb
    replace hwp := hwp.keep hb
    replace hwc := hwc.keep hb
    replace hx2 := hx2.keep hb
    replace hy2 := hy2.keep hb
    replace o := over_step o hb
    clear hb

    have kA0 := bA.c0
    have kA1 := bA.c1
    have kA2 := bA.c2
    have kA3 := bA.c3
    have lA := bA.lt
    have kZ0 := bZ.c0
    have kZ1 := bZ.c1
    have kZ2 := bZ.c2
    have kZ3 := bZ.c3
    have lZ := bZ.lt
    have kX0 := bX.c0
    have kX1 := bX.c1
    have kX2 := bX.c2
    have kX3 := bX.c3
    have lX := bX.lt
    go_wp2_with fail
    clear kA0 kA1 kA2 kA3 kZ0 kZ1 kZ2 kZ3 kX0 kX1 kX2 kX3 lA lZ lX
    obtain ⟨G, eG⟩ : ∃ G, G = w5.heap.size := ⟨_, rfl⟩
    rw [← eG]
    have bG := Bx.new w5 (.slice gag P.length gdg) (.int .i64 PR) (.slice gbg C.length gfg) (.int .i64 BW) 44 G eG
    have shwpG := OwnI.sepGe hwp (Nat.le_of_eq eG.symm)
    have shwcG := OwnI.sepGe hwc (Nat.le_of_eq eG.symm)
    have shx2G := OwnI.sepGe hx2 (Nat.le_of_eq eG.symm)
    have shy2G := OwnI.sepGe hy2 (Nat.le_of_eq eG.symm)
    have shgpG := OwnI.sepGe hgp (Nat.le_of_eq eG.symm)
    have shgcG := OwnI.sepGe hgc (Nat.le_of_eq eG.symm)
    clear eG
    replace bA := bA.alloc (.cells #[.slice gag P.length gdg, .int .i64 PR, .slice gbg C.length gfg, .int .i64 BW] 44)
    replace bZ := bZ.alloc (.cells #[.slice gag P.length gdg, .int .i64 PR, .slice gbg C.length gfg, .int .i64 BW] 44)
    replace bX := bX.alloc (.cells #[.slice gag P.length gdg, .int .i64 PR, .slice gbg C.length gfg, .int .i64 BW] 44)
    replace hwp := hwp.alloc (.cells #[.slice gag P.length gdg, .int .i64 PR, .slice gbg C.length gfg, .int .i64 BW] 44)
    replace hwc := hwc.alloc (.cells #[.slice gag P.length gdg, .int .i64 PR, .slice gbg C.length gfg, .int .i64 BW] 44)
    replace hx2 := hx2.alloc (.cells #[.slice gag P.length gdg, .int .i64 PR, .slice gbg C.length gfg, .int .i64 BW] 44)
    replace hy2 := hy2.alloc (.cells #[.slice gag P.length gdg, .int .i64 PR, .slice gbg C.length gfg, .int .i64 BW] 44)
    replace hgp := hgp.alloc (.cells #[.slice gag P.length gdg, .int .i64 PR, .slice gbg C.length gfg, .int .i64 BW] 44)
    replace hgc := hgc.alloc (.cells #[.slice gag P.length gdg, .int .i64 PR, .slice gbg C.length gfg, .int .i64 BW] 44)
    replace o := over_alloc o (.cells #[.slice gag P.length gdg, .int .i64 PR, .slice gbg C.length gfg, .int .i64 BW] 44)
    refine (eqA_same _ _ _ _ P C PR BW _ (hgp.rd hPb) (hgc.rd hCb) (hwp.rd hPb) (hwc.rd hCb)).mono ?_
    rintro e w6 ⟨rfl, hb⟩
    replace bA := bA.keep hb
    replace bZ := bZ.keep hb
    replace bX := bX.keep hb
    replace bG := bG.keep hb
    replace hwp := hwp.keep hb
    replace hwc := hwc.keep hb
    replace hx2 := hx2.keep hb
    replace hy2 := hy2.keep hb
    replace hgp := hgp.keep hb
    replace hgc := hgc.keep hb
    replace o := over_step o hb
    clear hb
    have kA0 := bA.c0
    have kA1 := bA.c1
    have kA2 := bA.c2
    have kA3 := bA.c3
    have lA := bA.lt
    have kZ0 := bZ.c0
    have kZ1 := bZ.c1
    have kZ2 := bZ.c2
    have kZ3 := bZ.c3
    have lZ := bZ.lt
    have kX0 := bX.c0
    have kX1 := bX.c1
    have kX2 := bX.c2
    have kX3 := bX.c3
    have lX := bX.lt
    have kG0 := bG.c0
    have kG1 := bG.c1
    have kG2 := bG.c2
    have kG3 := bG.c3
    have lG := bG.lt
    go_wp2_with fail
    clear kA0 kA1 kA2 kA3 kZ0 kZ1 kZ2 kZ3 kX0 kX1 kX2 kX3 kG0 kG1 kG2 kG3 lA lZ lX lG
    go_region_held3 (fun w' => Over w6 w' ∧ w'.cell? ⟨A, 0, none⟩ = some (pv) ∧ w'.cell? ⟨A, 1, none⟩ = some (.int .i64 pr) ∧ w'.cell? ⟨A, 2, none⟩ = some (cv) ∧ w'.cell? ⟨A, 3, none⟩ = some (.int .i64 bw) ∧ w'.cell? ⟨X, 0, none⟩ = some (.slice ua2 p.length ud2) ∧ w'.cell? ⟨X, 1, none⟩ = some (.int .i64 pr) ∧ w'.cell? ⟨X, 2, none⟩ = some (.slice ub2 c.length uf2) ∧ w'.cell? ⟨X, 3, none⟩ = some (.int .i64 bw))
      ((first | exact held8_0 bA bX | exact held8_S bA bX (by assumption) (by assumption)))
      ((first | (go_at_call 35; refine (toA_any pv cv p c pr bw _ (rdI_over hpV (over_trans o (‹Over w6 _ ∧ _›).1)) (rdI_over hcV (over_trans o (‹Over w6 _ ∧ _›).1)) hpl hcl).mono ?_; rintro e wa4 ⟨ua4, ud4, ub4, uf4, rfl, hxa4, hya4, hapa4, hba4⟩) | (go_at_call 37; refine (eqA_same _ _ _ _ p c pr bw _ (rdI_over (hx2.rd hpV.1) (‹Over w6 _ ∧ _›).1) (rdI_over (hy2.rd hcV.1) (‹Over w6 _ ∧ _›).1) (hxa4.rd hpV.1) (hya4.rd hcV.1)).mono ?_; rintro e w7 ⟨rfl, hbe4⟩)))
    rename_i hH
    replace hH := hH.1
    clear hbe4 hba4 hxa4 hya4 hapa4
    replace bA := bA.keep hH
    replace bZ := bZ.keep hH
    replace bX := bX.keep hH
    replace bG := bG.keep hH
    replace hwp := hwp.keep hH
    replace hwc := hwc.keep hH
    replace hx2 := hx2.keep hH
    replace hy2 := hy2.keep hH
    replace hgp := hgp.keep hH
    replace hgc := hgc.keep hH
    replace o := over_step o hH
    clear hH
    have kA0 := bA.c0
    have kA1 := bA.c1
    have kA2 := bA.c2
    have kA3 := bA.c3
    have lA := bA.lt
    have kZ0 := bZ.c0
    have kZ1 := bZ.c1
    have kZ2 := bZ.c2
    have kZ3 := bZ.c3
    have lZ := bZ.lt
    have kX0 := bX.c0
    have kX1 := bX.c1
    have kX2 := bX.c2
    have kX3 := bX.c3
    have lX := bX.lt
    have kG0 := bG.c0
    have kG1 := bG.c1
    have kG2 := bG.c2
    have kG3 := bG.c3
    have lG := bG.lt
    go_wp2_with fail
    clear kA0 kA1 kA2 kA3 kZ0 kZ1 kZ2 kZ3 kX0 kX1 kX2 kX3 kG0 kG1 kG2 kG3 lA lZ lX lG
    refine (markA_any (.slice ua2 p.length ud2) (.slice ub2 c.length uf2) p c pr bw 1 (W.alloc (.cells #[pv, .int .i64 pr, cv, .int .i64 bw] 37)).heap.size _ (hx2.mono base4) (hy2.mono base4) ap_hx2_hy2 o.size (by decide) (by omega)).mono ?_
    rintro e w8 ⟨rfl, mhx2, mhy2, hB, kO, kB⟩
    replace hwp := kO _ _ _ hwp ap_hwp_hx2 ap_hwp_hy2
    replace hwc := kO _ _ _ hwc ap_hwc_hx2 ap_hwc_hy2
    replace hgp := kO _ _ _ hgp ap_hx2_hgp.symm ap_hy2_hgp.symm
    replace hgc := kO _ _ _ hgc ap_hx2_hgc.symm ap_hy2_hgc.symm
    replace bA := kB _ _ _ _ _ bA shx2A shy2A
    replace bZ := kB _ _ _ _ _ bZ shx2Z shy2Z
    replace bX := kB _ _ _ _ _ bX shx2X shy2X
    replace bG := kB _ _ _ _ _ bG shx2G shy2G
    replace o := Below.trans o hB
    clear hB kO kB hx2 hy2
    have smhx2A := shx2A
    have smhy2A := shy2A
    have smhx2Z := shx2Z
    have smhy2Z := shy2Z
    have smhx2X := shx2X
    have smhy2X := shy2X
    have smhx2G := shx2G
    have smhy2G := shy2G
    clear mhx2
    clear mhy2
    have kA0 := bA.c0
    have kA1 := bA.c1
    have kA2 := bA.c2
    have kA3 := bA.c3
    have lA := bA.lt
    have kZ0 := bZ.c0
    have kZ1 := bZ.c1
    have kZ2 := bZ.c2
    have kZ3 := bZ.c3
    have lZ := bZ.lt
    have kX0 := bX.c0
    have kX1 := bX.c1
    have kX2 := bX.c2
    have kX3 := bX.c3
    have lX := bX.lt
    have kG0 := bG.c0
    have kG1 := bG.c1
    have kG2 := bG.c2
    have kG3 := bG.c3
    have lG := bG.lt
    go_wp2_with fail
    clear kA0 kA1 kA2 kA3 kZ0 kZ1 kZ2 kZ3 kX0 kX1 kX2 kX3 kG0 kG1 kG2 kG3 lA lZ lX lG
    refine (eqA_same _ _ _ _ P C PR BW _ (hgp.rd hPb) (hgc.rd hCb) (hwp.rd hPb) (hwc.rd hCb)).mono ?_
    rintro e w9 ⟨rfl, hb⟩
    replace bA := bA.keep hb
    replace bZ := bZ.keep hb
    replace bX := bX.keep hb
    replace bG := bG.keep hb
    replace hwp := hwp.keep hb
    replace hwc := hwc.keep hb
    replace hgp := hgp.keep hb
    replace hgc := hgc.keep hb
    replace o := over_step o hb
    clear hb
    have kA0 := bA.c0
    have kA1 := bA.c1
    have kA2 := bA.c2
    have kA3 := bA.c3
    have lA := bA.lt
    have kZ0 := bZ.c0
    have kZ1 := bZ.c1
    have kZ2 := bZ.c2
    have kZ3 := bZ.c3
    have lZ := bZ.lt
    have kX0 := bX.c0
    have kX1 := bX.c1
    have kX2 := bX.c2
    have kX3 := bX.c3
    have lX := bX.lt
    have kG0 := bG.c0
    have kG1 := bG.c1
    have kG2 := bG.c2
    have kG3 := bG.c3
    have lG := bG.lt
    go_wp2_with fail
    clear kA0 kA1 kA2 kA3 kZ0 kZ1 kZ2 kZ3 kX0 kX1 kX2 kX3 kG0 kG1 kG2 kG3 lA lZ lX lG
    refine (markA_any (.slice gag P.length gdg) (.slice gbg C.length gfg) P C PR BW 1 (W.alloc (.cells #[pv, .int .i64 pr, cv, .int .i64 bw] 37)).heap.size _ (hgp.mono base5) (hgc.mono base5) ap_hgp_hgc o.size (by decide) (by omega)).mono ?_
    rintro e w10 ⟨rfl, mhgp, mhgc, hB, kO, kB⟩
    replace hwp := kO _ _ _ hwp ap_hwp_hgp ap_hwp_hgc
    replace hwc := kO _ _ _ hwc ap_hwc_hgp ap_hwc_hgc
    replace bA := kB _ _ _ _ _ bA shgpA shgcA
    replace bZ := kB _ _ _ _ _ bZ shgpZ shgcZ
    replace bX := kB _ _ _ _ _ bX shgpX shgcX
    replace bG := kB _ _ _ _ _ bG shgpG shgcG
    replace o := Below.trans o hB
    clear hB kO kB hgp hgc
    have smhgpA := shgpA
    have smhgcA := shgcA
    have smhgpZ := shgpZ
    have smhgcZ := shgcZ
    have smhgpX := shgpX
    have smhgcX := shgcX
    have smhgpG := shgpG
    have smhgcG := shgcG
    have kA0 := bA.c0
    have kA1 := bA.c1
    have kA2 := bA.c2
    have kA3 := bA.c3
    have lA := bA.lt
    have kZ0 := bZ.c0
    have kZ1 := bZ.c1
    have kZ2 := bZ.c2
    have kZ3 := bZ.c3
    have lZ := bZ.lt
    have kX0 := bX.c0
    have kX1 := bX.c1
    have kX2 := bX.c2
    have kX3 := bX.c3
    have lX := bX.lt
    have kG0 := bG.c0
    have kG1 := bG.c1
    have kG2 := bG.c2
    have kG3 := bG.c3
    have lG := bG.lt
    go_wp2_with fail
    clear kA0 kA1 kA2 kA3 kZ0 kZ1 kZ2 kZ3 kX0 kX1 kX2 kX3 kG0 kG1 kG2 kG3 lA lZ lX lG
    refine (heldA_any _ _ P.length C.length PR BW 1 _ (mhgp.rd (imarks_bd 1 _ (by decide) (by omega))) (mhgc.rd (imarks_bd _ _ (by omega) (by omega))) (by decide) (by omega)).mono ?_
    rintro e w11 ⟨rfl, hb⟩
    replace bA := bA.keep hb
    replace bZ := bZ.keep hb
    replace bX := bX.keep hb
    replace bG := bG.keep hb
    replace hwp := hwp.keep hb
    replace hwc := hwc.keep hb
    replace mhgp := mhgp.keep hb
    replace mhgc := mhgc.keep hb
    replace o := over_step o hb
    clear hb
    have kA0 := bA.c0
    have kA1 := bA.c1
    have kA2 := bA.c2
    have kA3 := bA.c3
    have lA := bA.lt
    have kZ0 := bZ.c0
    have kZ1 := bZ.c1
    have kZ2 := bZ.c2
    have kZ3 := bZ.c3
    have lZ := bZ.lt
    have kX0 := bX.c0
    have kX1 := bX.c1
    have kX2 := bX.c2
    have kX3 := bX.c3
    have lX := bX.lt
    have kG0 := bG.c0
    have kG1 := bG.c1
    have kG2 := bG.c2
    have kG3 := bG.c3
    have lG := bG.lt
    go_wp2_with fail
    clear kA0 kA1 kA2 kA3 kZ0 kZ1 kZ2 kZ3 kX0 kX1 kX2 kX3 kG0 kG1 kG2 kG3 lA lZ lX lG
    refine (toA_any pv cv p c pr bw _ (rdI_over hpV o) (rdI_over hcV o) hpl hcl).mono ?_
    rintro e w12 ⟨ua5, ud5, ub5, uf5, rfl, hx5, hy5, ap_hx5_hy5, hb⟩
    have ap_hwp_hx5 := apartI hwp hx5 (Nat.le_refl _)
    have ap_hwc_hx5 := apartI hwc hx5 (Nat.le_refl _)
    have ap_mhgp_hx5 := apartI mhgp hx5 (Nat.le_refl _)
    have ap_mhgc_hx5 := apartI mhgc hx5 (Nat.le_refl _)
    have shx5A := OwnI.sepLt hx5 bA.lt
    have shx5Z := OwnI.sepLt hx5 bZ.lt
    have shx5X := OwnI.sepLt hx5 bX.lt
    have shx5G := OwnI.sepLt hx5 bG.lt
    have ap_hwp_hy5 := apartI hwp hy5 (Nat.le_refl _)
    have ap_hwc_hy5 := apartI hwc hy5 (Nat.le_refl _)
    have ap_mhgp_hy5 := apartI mhgp hy5 (Nat.le_refl _)
    have ap_mhgc_hy5 := apartI mhgc hy5 (Nat.le_refl _)
    have shy5A := OwnI.sepLt hy5 bA.lt
    have shy5Z := OwnI.sepLt hy5 bZ.lt
    have shy5X := OwnI.sepLt hy5 bX.lt
    have shy5G := OwnI.sepLt hy5 bG.lt
    have base12 := o.size
    replace bA := bA.keep hb
    replace bZ := bZ.keep hb
    replace bX := bX.keep hb
    replace bG := bG.keep hb
    replace hwp := hwp.keep hb
    replace hwc := hwc.keep hb
    replace mhgp := mhgp.keep hb
    replace mhgc := mhgc.keep hb
    replace o := over_step o hb
    clear hb
    have kA0 := bA.c0
    have kA1 := bA.c1
    have kA2 := bA.c2
    have kA3 := bA.c3
    have lA := bA.lt
    have kZ0 := bZ.c0
    have kZ1 := bZ.c1
    have kZ2 := bZ.c2
    have kZ3 := bZ.c3
    have lZ := bZ.lt
    have kX0 := bX.c0
    have kX1 := bX.c1
    have kX2 := bX.c2
    have kX3 := bX.c3
    have lX := bX.lt
    have kG0 := bG.c0
    have kG1 := bG.c1
    have kG2 := bG.c2
    have kG3 := bG.c3
    have lG := bG.lt
    go_wp2_with fail
    clear kA0 kA1 kA2 kA3 kZ0 kZ1 kZ2 kZ3 kX0 kX1 kX2 kX3 kG0 kG1 kG2 kG3 lA lZ lX lG
    refine (iimport_t HR han _ _ p c pr bw an _ (hx5.rd hpV.1) (hy5.rd hcV.1)).mono ?_
    rintro e w13 ⟨gah, gdh, gbh, gfh, rfl, hhp, hhc, ap_hhp_hhc, hb⟩
    have ap_hwp_hhp := apartI hwp hhp (Nat.le_refl _)
    have ap_hwc_hhp := apartI hwc hhp (Nat.le_refl _)
    have ap_mhgp_hhp := apartI mhgp hhp (Nat.le_refl _)
    have ap_mhgc_hhp := apartI mhgc hhp (Nat.le_refl _)
    have ap_hx5_hhp := apartI hx5 hhp (Nat.le_refl _)
    have ap_hy5_hhp := apartI hy5 hhp (Nat.le_refl _)
    have shhpA := OwnI.sepLt hhp bA.lt
    have shhpZ := OwnI.sepLt hhp bZ.lt
    have shhpX := OwnI.sepLt hhp bX.lt
    have shhpG := OwnI.sepLt hhp bG.lt
    have ap_hwp_hhc := apartI hwp hhc (Nat.le_refl _)
    have ap_hwc_hhc := apartI hwc hhc (Nat.le_refl _)
    have ap_mhgp_hhc := apartI mhgp hhc (Nat.le_refl _)
    have ap_mhgc_hhc := apartI mhgc hhc (Nat.le_refl _)
    have ap_hx5_hhc := apartI hx5 hhc (Nat.le_refl _)
    have ap_hy5_hhc := apartI hy5 hhc (Nat.le_refl _)
    have shhcA := OwnI.sepLt hhc bA.lt
    have shhcZ := OwnI.sepLt hhc bZ.lt
    have shhcX := OwnI.sepLt hhc bX.lt
    have shhcG := OwnI.sepLt hhc bG.lt
    have base13 := o.size
    replace bA := bA.keep hb
    replace bZ := bZ.keep hb
    replace bX := bX.keep hb
    replace bG := bG.keep hb
    replace hwp := hwp.keep hb
    replace hwc := hwc.keep hb
    replace mhgp := mhgp.keep hb
    replace mhgc := mhgc.keep hb
    replace hx5 := hx5.keep hb
    replace hy5 := hy5.keep hb
    replace o := over_step o hb
    clear hb

    clear hx5
    clear hy5
    have kA0 := bA.c0
    have kA1 := bA.c1
    have kA2 := bA.c2
    have kA3 := bA.c3
    have lA := bA.lt
    have kZ0 := bZ.c0
    have kZ1 := bZ.c1
    have kZ2 := bZ.c2
    have kZ3 := bZ.c3
    have lZ := bZ.lt
    have kX0 := bX.c0
    have kX1 := bX.c1
    have kX2 := bX.c2
    have kX3 := bX.c3
    have lX := bX.lt
    have kG0 := bG.c0
    have kG1 := bG.c1
    have kG2 := bG.c2
    have kG3 := bG.c3
    have lG := bG.lt
    go_wp2_with fail
    clear kA0 kA1 kA2 kA3 kZ0 kZ1 kZ2 kZ3 kX0 kX1 kX2 kX3 kG0 kG1 kG2 kG3 lA lZ lX lG
    obtain ⟨H, eH⟩ : ∃ H, H = w13.heap.size := ⟨_, rfl⟩
    rw [← eH]
    have bH := Bx.new w13 (.slice gah P.length gdh) (.int .i64 PR) (.slice gbh C.length gfh) (.int .i64 BW) 44 H eH
    have shwpH := OwnI.sepGe hwp (Nat.le_of_eq eH.symm)
    have shwcH := OwnI.sepGe hwc (Nat.le_of_eq eH.symm)
    have smhgpH := OwnI.sepGe mhgp (Nat.le_of_eq eH.symm)
    have smhgcH := OwnI.sepGe mhgc (Nat.le_of_eq eH.symm)
    have shhpH := OwnI.sepGe hhp (Nat.le_of_eq eH.symm)
    have shhcH := OwnI.sepGe hhc (Nat.le_of_eq eH.symm)
    clear eH
    replace bA := bA.alloc (.cells #[.slice gah P.length gdh, .int .i64 PR, .slice gbh C.length gfh, .int .i64 BW] 44)
    replace bZ := bZ.alloc (.cells #[.slice gah P.length gdh, .int .i64 PR, .slice gbh C.length gfh, .int .i64 BW] 44)
    replace bX := bX.alloc (.cells #[.slice gah P.length gdh, .int .i64 PR, .slice gbh C.length gfh, .int .i64 BW] 44)
    replace bG := bG.alloc (.cells #[.slice gah P.length gdh, .int .i64 PR, .slice gbh C.length gfh, .int .i64 BW] 44)
    replace hwp := hwp.alloc (.cells #[.slice gah P.length gdh, .int .i64 PR, .slice gbh C.length gfh, .int .i64 BW] 44)
    replace hwc := hwc.alloc (.cells #[.slice gah P.length gdh, .int .i64 PR, .slice gbh C.length gfh, .int .i64 BW] 44)
    replace mhgp := mhgp.alloc (.cells #[.slice gah P.length gdh, .int .i64 PR, .slice gbh C.length gfh, .int .i64 BW] 44)
    replace mhgc := mhgc.alloc (.cells #[.slice gah P.length gdh, .int .i64 PR, .slice gbh C.length gfh, .int .i64 BW] 44)
    replace hhp := hhp.alloc (.cells #[.slice gah P.length gdh, .int .i64 PR, .slice gbh C.length gfh, .int .i64 BW] 44)
    replace hhc := hhc.alloc (.cells #[.slice gah P.length gdh, .int .i64 PR, .slice gbh C.length gfh, .int .i64 BW] 44)
    replace o := over_alloc o (.cells #[.slice gah P.length gdh, .int .i64 PR, .slice gbh C.length gfh, .int .i64 BW] 44)
    refine (eqA_same _ _ _ _ P C PR BW _ (hhp.rd hPb) (hhc.rd hCb) (hwp.rd hPb) (hwc.rd hCb)).mono ?_
    rintro e w14 ⟨rfl, hb⟩
    replace bA := bA.keep hb
    replace bZ := bZ.keep hb
    replace bX := bX.keep hb
    replace bG := bG.keep hb
    replace bH := bH.keep hb
    replace hwp := hwp.keep hb
    replace hwc := hwc.keep hb
    replace mhgp := mhgp.keep hb
    replace mhgc := mhgc.keep hb
    replace hhp := hhp.keep hb
    replace hhc := hhc.keep hb
    replace o := over_step o hb
    clear hb
    have kA0 := bA.c0
    have kA1 := bA.c1
    have kA2 := bA.c2
    have kA3 := bA.c3
    have lA := bA.lt
    have kZ0 := bZ.c0
    have kZ1 := bZ.c1
    have kZ2 := bZ.c2
    have kZ3 := bZ.c3
    have lZ := bZ.lt
    have kX0 := bX.c0
    have kX1 := bX.c1
    have kX2 := bX.c2
    have kX3 := bX.c3
    have lX := bX.lt
    have kG0 := bG.c0
    have kG1 := bG.c1
    have kG2 := bG.c2
    have kG3 := bG.c3
    have lG := bG.lt
    have kH0 := bH.c0
    have kH1 := bH.c1
    have kH2 := bH.c2
    have kH3 := bH.c3
    have lH := bH.lt
    go_wp2_with fail
    clear kA0 kA1 kA2 kA3 kZ0 kZ1 kZ2 kZ3 kX0 kX1 kX2 kX3 kG0 kG1 kG2 kG3 kH0 kH1 kH2 kH3 lA lZ lX lG lH
    refine (heldA_any _ _ P.length C.length PR BW 1 _ (mhgp.rd (imarks_bd 1 _ (by decide) (by omega))) (mhgc.rd (imarks_bd _ _ (by omega) (by omega))) (by decide) (by omega)).mono ?_
    rintro e w15 ⟨rfl, hb⟩
    replace bA := bA.keep hb
    replace bZ := bZ.keep hb
    replace bX := bX.keep hb
    replace bG := bG.keep hb
    replace bH := bH.keep hb
    replace hwp := hwp.keep hb
    replace hwc := hwc.keep hb
    replace mhgp := mhgp.keep hb
    replace mhgc := mhgc.keep hb
    replace hhp := hhp.keep hb
    replace hhc := hhc.keep hb
    replace o := over_step o hb
    clear hb
    go_wp2
    go_ret
    exact ⟨rfl, below_step B0 o⟩

set_option maxRecDepth 100000 in
theorem lifted (os : Os) (started : os.Started) (H : Type) (enc : TypeId × Value → H) :
    ReturnsInHanded {} Try.checked os 8 .any (Rows.fnExactImportSpec.pre6 enc Try.prog Try.f8 Rows.fnExactImportRow.domain false) (Rows.fnExactImportSpec.post enc Try.prog Try.f8 false true false false) := by
  refine returnsInHanded_of_change (C := Try.checked) own started (by kernel_rfl) Try.func8
    (ChangeSpec.witness6 (enc := enc) (C := Try.checked) false ⟨#[], #[.int .i64 0, .agg #[.slice none 0 0, .int .i64 0, .slice none 0 0, .int .i64 0]], []⟩ 8 (by kernel_rfl) (by kernel_rfl) (by kernel_rfl) (by kernel_rfl)) ?_
  intro W base args ds gs before hval0 hW hcnd _
  have hval : ∀ (j : Nat) t v, Try.f8.params[j]? = some t → args[j]? = some v → Value.okWide Try.prog W .any base t v := hval0
  have hW' := hW
  obtain ⟨p, q, hA0, hV, rfl, hfz, hnd⟩ := hW
  have hA : DataW.TrodAll enc Try.prog W 0 (fun _ => true) true Try.f8.params.toList args.toList ds p := hA0
  rw [Try.params8] at hA hval
  obtain ⟨v0, vs0, d0, ds0, p0, q0, hargs, rfl, rfl, h0, r0⟩ := trodAll_cons hA
  obtain ⟨v1, vs1, d1, ds1, p1, q1, rfl, rfl, rfl, h1, r1⟩ := trodAll_cons r0
  obtain ⟨rfl, rfl, rfl⟩ := trodAll_nil r1
  obtain rfl : args = #[v0, v1] := by cases args; simp_all
  obtain ⟨rfl, rfl⟩ := trodVars_none hV
  have lt0 : ∀ x ∈ p0, x.block < W.heap.size := by obtain ⟨m, hm⟩ := h0; exact DataW.trod_lt m _ _ _ hm
  have w0 := is_int (hval 0 3 v0 rfl rfl) h0
  have lt1 : ∀ x ∈ p1, x.block < W.heap.size := by obtain ⟨m, hm⟩ := h1; exact DataW.trod_lt m _ _ _ hm
  have w1 := is_Attr (hval 1 37 v1 rfl rfl) h1
  clear hA0 hval0 hval
  refine (walk W v0 v1 w0 w1).mono fun e W' ⟨he, bel⟩ => ?_
  subst he
  exact ⟨_, rfl, _, _, _, [], _, [], hW', trodAll_mk1 (shut_bool Try.underlying4 _), (trodAll_cons_mk (Below.trod laidOut (by kernel_rfl) (of_decide_eq_true (by kernel_rfl)) h0 bel lt0) (trodAll_cons_mk (Below.trod laidOut (by kernel_rfl) (of_decide_eq_true (by kernel_rfl)) h1 bel lt1) trodAll_mk0)), rfl, bel.frame _, fun h => by cases h⟩

theorem over : Rows.fnExactImportRow.holds Try.pinned (OpenSpec.ofChange Rows.fnExactImportSpec) :=
  OpenClaim.holds_of_wide 8 Try.f8 rfl rfl rfl rfl rfl rfl rfl ⟨rfl, rfl, rfl, rfl, rfl⟩ rfl rfl rfl rfl rfl (by kernel_rfl) Try.func8 (by kernel_rfl)
    (of_decide_eq_true (by kernel_rfl)) (by unfold Func.isWrapper; first | (rw [if_pos (by decide +kernel)]; kernel_rfl) | (rw [if_neg (by decide +kernel)]; exact ⟨rfl, rfl⟩))
    (fun os started H enc _ => lifted os started H enc)

theorem proved : Rows.FnExactImportSaid := over
end Go.Proofs.Ytcmbajphholliaa.fnExactImport
