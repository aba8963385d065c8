/-
  The law 'FnExactAttrCmp' returns true for every input, and its arguments read afterwards as before: the given statement 'Rows.FnExactAttrCmpSaid'. No condition.
-/
import Derived.Test.YtnobdcikkejeiaaI12
namespace Go.Proofs.Ytnobdcikkejeiaa.fnExactAttrCmp
open Go.ChangeShapes Go.WideShapes Go.ChangeAt Go.RowKit Go.Proofs.Ytnobdcikkejeiaa
set_option linter.unusedVariables false
set_option maxHeartbeats 2000000 in
theorem walk (W : World) (v0 v1 : Value) (w0 : Is_Attr W v0) (w1 : Is_Attr W v1) :
    Calls Try.prog 8 #[v0, v1] W fun e w' => e = .returned (.bool true) ∧ Below W.heap.size W w' := by
  obtain ⟨pv, cv, p, c, pr, bw, rfl, hp, hc, -, -⟩ := w0
  obtain ⟨qv, dv, q, d, pr', bw', rfl, hq, hd, -, -⟩ := w1
  have bA := Bx.new W (pv) (.int .i64 pr) (cv) (.int .i64 bw) 24 W.heap.size rfl
  have zz : (W.alloc (.cells #[pv, .int .i64 pr, cv, .int .i64 bw] 24)).heap.size = W.heap.size + 1 := by simp
  have bB := Bx.new (W.alloc (.cells #[pv, .int .i64 pr, cv, .int .i64 bw] 24)) (qv) (.int .i64 pr') (dv) (.int .i64 bw') 24 (W.heap.size + 1) zz.symm
  replace bA := bA.alloc (.cells #[qv, .int .i64 pr', dv, .int .i64 bw'] 24)
  have B0 : Below W.heap.size W ((W.alloc (.cells #[pv, .int .i64 pr, cv, .int .i64 bw] 24)).alloc (.cells #[qv, .int .i64 pr', dv, .int .i64 bw'] 24)) := ((Below.refl _ _).alloc (Nat.le_refl _) _).alloc (by rw [zz]; omega) _
  clear zz
  replace hp := hp.keep B0
  replace hc := hc.keep B0
  replace hq := hq.keep B0
  replace hd := hd.keep B0
  by_cases hsz : szA 1048576 p c < 0
  · have g1 : szA 1048576 p c < 0 := hsz
    go_enter Try.func8, Try.ntmps8
    go_wp2_with fail
    refine (szA_any pv cv p c pr bw _ _ hp hc (by decide) (by decide)).mono ?_
    rintro e w1 ⟨rfl, hb⟩
    replace bA := bA.keep hb
    replace bB := bB.keep hb
    replace hp := hp.keep hb
    replace hc := hc.keep hb
    replace hq := hq.keep hb
    replace hd := hd.keep hb
    replace B0 := below_step B0 hb
    clear hb
    go_wp2
    go_ret
    exact ⟨rfl, B0⟩
  · have hpl := szA_p hsz
    have hcl := szA_c hsz
    have hle := szA_le p c hsz
    have g1 : ¬ szA 1048576 p c < 0 := hsz
    obtain ⟨t, ht⟩ : ∃ t, szA 1048576 p c = t := ⟨_, rfl⟩
    rw [ht] at hsz hle g1
    have HT := Lib.hid ht
    clear ht
    by_cases hsy : szA t q d < 0
    · have g2 : szA t q d < 0 := hsy
      go_enter Try.func8, Try.ntmps8
      go_wp2_with fail
      refine (szA_any pv cv p c pr bw _ _ hp hc (by decide) (by decide)).mono ?_
      rintro e w1 ⟨rfl, hb⟩
      replace bA := bA.keep hb
      replace bB := bB.keep hb
      replace hp := hp.keep hb
      replace hc := hc.keep hb
      replace hq := hq.keep hb
      replace hd := hd.keep hb
      replace B0 := below_step B0 hb
      clear hb
      rw [HT.out]
      have kA0 := bA.c0
      have kA1 := bA.c1
      have kA2 := bA.c2
      have kA3 := bA.c3
      have lA := bA.lt
      have kB0 := bB.c0
      have kB1 := bB.c1
      have kB2 := bB.c2
      have kB3 := bB.c3
      have lB := bB.lt
      go_wp2_with fail
      clear kA0 kA1 kA2 kA3 kB0 kB1 kB2 kB3 lA lB
      refine (szA_any qv dv q d pr' bw' _ _ hq hd (by omega) hle).mono ?_
      rintro e w2 ⟨rfl, hb⟩
      replace bA := bA.keep hb
      replace bB := bB.keep hb
      replace hp := hp.keep hb
      replace hc := hc.keep hb
      replace hq := hq.keep hb
      replace hd := hd.keep hb
      replace B0 := below_step B0 hb
      clear hb
      go_wp2
      go_ret
      exact ⟨rfl, B0⟩
    · have hql := szA_p2 hle hsy
      have hdl := szA_c2 hle hsy
      have g2 : ¬ szA t q d < 0 := hsy
      go_enter Try.func8, Try.ntmps8
      go_wp2_with fail
      refine (szA_any pv cv p c pr bw _ _ hp hc (by decide) (by decide)).mono ?_
      rintro e w1 ⟨rfl, hb⟩
      replace bA := bA.keep hb
      replace bB := bB.keep hb
      replace hp := hp.keep hb
      replace hc := hc.keep hb
      replace hq := hq.keep hb
      replace hd := hd.keep hb
      replace B0 := below_step B0 hb
      clear hb
      rw [HT.out]
      have kA0 := bA.c0
      have kA1 := bA.c1
      have kA2 := bA.c2
      have kA3 := bA.c3
      have lA := bA.lt
      have kB0 := bB.c0
      have kB1 := bB.c1
      have kB2 := bB.c2
      have kB3 := bB.c3
      have lB := bB.lt
      go_wp2_with fail
      clear kA0 kA1 kA2 kA3 kB0 kB1 kB2 kB3 lA lB
      refine (szA_any qv dv q d pr' bw' _ _ hq hd (by omega) hle).mono ?_
      rintro e w2 ⟨rfl, hb⟩
      replace bA := bA.keep hb
      replace bB := bB.keep hb
      replace hp := hp.keep hb
      replace hc := hc.keep hb
      replace hq := hq.keep hb
      replace hd := hd.keep hb
      replace B0 := below_step B0 hb
      clear hb
      obtain ⟨r, hr⟩ : ∃ r : Int, (if aokB p pr c bw && aokB q pr' d bw' then or4 (rk pr p.length pr' q.length) (lx p q) (lx c d) (nm bw bw') else 0) = r := ⟨_, rfl⟩
      have HR := Lib.hid hr
      clear hr
      have kA0 := bA.c0
      have kA1 := bA.c1
      have kA2 := bA.c2
      have kA3 := bA.c3
      have lA := bA.lt
      have kB0 := bB.c0
      have kB1 := bB.c1
      have kB2 := bB.c2
      have kB3 := bB.c3
      have lB := bB.lt
      go_wp2_with fail
      clear kA0 kA1 kA2 kA3 kB0 kB1 kB2 kB3 lA lB
      obtain ⟨B, eB⟩ : ∃ B, B = W.heap.size + 1 := ⟨_, rfl⟩
      rw [← eB] at bB
      try rw [← eB]
      clear eB
      obtain ⟨A, eA⟩ : ∃ A, A = W.heap.size := ⟨_, rfl⟩
      rw [← eA] at bA
      have hAW : W.heap.size ≤ A := by omega
      try simp only [← eA]
      clear eA
      skip
      go_region_held3 (fun w' => Over w2 w' ∧ w'.cell? ⟨A, 0, none⟩ = some (pv) ∧ w'.cell? ⟨A, 1, none⟩ = some (.int .i64 pr) ∧ w'.cell? ⟨A, 2, none⟩ = some (cv) ∧ w'.cell? ⟨A, 3, none⟩ = some (.int .i64 bw) ∧ w'.cell? ⟨B, 0, none⟩ = some (qv) ∧ w'.cell? ⟨B, 1, none⟩ = some (.int .i64 pr') ∧ w'.cell? ⟨B, 2, none⟩ = some (dv) ∧ w'.cell? ⟨B, 3, none⟩ = some (.int .i64 bw'))
        ((first | exact held8_0 bA bB | exact held8_S bA bB (by assumption) (by assumption)))
        ((first | (go_at_call 13; (first | (guard_target = Calls _ _ #[.agg #[pv, _, _, _]] _ _; refine (toA_any pv cv p c pr bw _ (rdI_over hp (‹Over w2 _ ∧ _›).1) (rdI_over hc (‹Over w2 _ ∧ _›).1) hpl hcl).mono ?_; rintro e wa1 ⟨ua1, ud1, ub1, uf1, rfl, hxa1, hya1, hapa1, hba1⟩) | (guard_target = Calls _ _ #[.agg #[qv, _, _, _]] _ _; refine (toA_any qv dv q d pr' bw' _ (rdI_over hq (‹Over w2 _ ∧ _›).1) (rdI_over hd (‹Over w2 _ ∧ _›).1) hql hdl).mono ?_; rintro e wb1 ⟨va1, vd1, vb1, vf1, rfl, hxb1, hyb1, hapb1, hbb1⟩))) | (go_at_call 26; refine (sattrcmp_t _ _ _ _ _ _ _ _ p c q d pr bw pr' bw' _ ((hxa1.keep hbb1).rd hp.1) ((hya1.keep hbb1).rd hc.1) (hxb1.rd hq.1) (hyb1.rd hd.1) HR).mono ?_; rintro e w3 ⟨rfl, hbc1⟩)))
      rename_i hH
      replace hH := hH.1
      clear hba1 hbb1 hbc1 hxa1 hya1 hxb1 hyb1 hapa1 hapb1
      replace bA := bA.keep hH
      replace bB := bB.keep hH
      replace hp := hp.keep hH
      replace hc := hc.keep hH
      replace hq := hq.keep hH
      replace hd := hd.keep hH
      replace B0 := below_step B0 hH
      clear hH
      have kA0 := bA.c0
      have kA1 := bA.c1
      have kA2 := bA.c2
      have kA3 := bA.c3
      have lA := bA.lt
      have kB0 := bB.c0
      have kB1 := bB.c1
      have kB2 := bB.c2
      have kB3 := bB.c3
      have lB := bB.lt
      go_wp2_with fail
      clear kA0 kA1 kA2 kA3 kB0 kB1 kB2 kB3 lA lB
      refine (toA_any pv cv p c pr bw _ hp hc hpl hcl).mono ?_
      rintro e w4 ⟨ua2, ud2, ub2, uf2, rfl, hx2, hy2, hap2, hb⟩
      replace bA := bA.keep hb
      replace bB := bB.keep hb
      replace hp := hp.keep hb
      replace hc := hc.keep hb
      replace hq := hq.keep hb
      replace hd := hd.keep hb
      replace B0 := below_step B0 hb
      clear hb
      have kA0 := bA.c0
      have kA1 := bA.c1
      have kA2 := bA.c2
      have kA3 := bA.c3
      have lA := bA.lt
      have kB0 := bB.c0
      have kB1 := bB.c1
      have kB2 := bB.c2
      have kB3 := bB.c3
      have lB := bB.lt
      go_wp2_with fail
      clear kA0 kA1 kA2 kA3 kB0 kB1 kB2 kB3 lA lB
      obtain ⟨X, eX⟩ : ∃ X, X = w4.heap.size := ⟨_, rfl⟩
      rw [← eX]
      have bX := Bx.new w4 (.slice ua2 p.length ud2) (.int .i64 pr) (.slice ub2 c.length uf2) (.int .i64 bw) 27 X eX
      clear eX
      replace bA := bA.alloc (.cells #[.slice ua2 p.length ud2, .int .i64 pr, .slice ub2 c.length uf2, .int .i64 bw] 27)
      replace bB := bB.alloc (.cells #[.slice ua2 p.length ud2, .int .i64 pr, .slice ub2 c.length uf2, .int .i64 bw] 27)
      replace hx2 := hx2.alloc (.cells #[.slice ua2 p.length ud2, .int .i64 pr, .slice ub2 c.length uf2, .int .i64 bw] 27)
      replace hy2 := hy2.alloc (.cells #[.slice ua2 p.length ud2, .int .i64 pr, .slice ub2 c.length uf2, .int .i64 bw] 27)
      replace hp := hp.alloc (.cells #[.slice ua2 p.length ud2, .int .i64 pr, .slice ub2 c.length uf2, .int .i64 bw] 27)
      replace hc := hc.alloc (.cells #[.slice ua2 p.length ud2, .int .i64 pr, .slice ub2 c.length uf2, .int .i64 bw] 27)
      replace hq := hq.alloc (.cells #[.slice ua2 p.length ud2, .int .i64 pr, .slice ub2 c.length uf2, .int .i64 bw] 27)
      replace hd := hd.alloc (.cells #[.slice ua2 p.length ud2, .int .i64 pr, .slice ub2 c.length uf2, .int .i64 bw] 27)
      replace B0 := B0.alloc B0.size (.cells #[.slice ua2 p.length ud2, .int .i64 pr, .slice ub2 c.length uf2, .int .i64 bw] 27)
      refine (toA_any qv dv q d pr' bw' _ hq hd hql hdl).mono ?_
      rintro e w5 ⟨va3, vd3, vb3, vf3, rfl, hx3, hy3, hap3, hb⟩
      replace bA := bA.keep hb
      replace bB := bB.keep hb
      replace bX := bX.keep hb
      replace hx2 := hx2.keep hb
      replace hy2 := hy2.keep hb
      replace hp := hp.keep hb
      replace hc := hc.keep hb
      replace hq := hq.keep hb
      replace hd := hd.keep hb
      replace B0 := below_step B0 hb
      clear hb
      have kA0 := bA.c0
      have kA1 := bA.c1
      have kA2 := bA.c2
      have kA3 := bA.c3
      have lA := bA.lt
      have kB0 := bB.c0
      have kB1 := bB.c1
      have kB2 := bB.c2
      have kB3 := bB.c3
      have lB := bB.lt
      have kX0 := bX.c0
      have kX1 := bX.c1
      have kX2 := bX.c2
      have kX3 := bX.c3
      have lX := bX.lt
      go_wp2_with fail
      clear kA0 kA1 kA2 kA3 kB0 kB1 kB2 kB3 kX0 kX1 kX2 kX3 lA lB lX
      obtain ⟨Y, eY⟩ : ∃ Y, Y = w5.heap.size := ⟨_, rfl⟩
      rw [← eY]
      have bY := Bx.new w5 (.slice va3 q.length vd3) (.int .i64 pr') (.slice vb3 d.length vf3) (.int .i64 bw') 27 Y eY
      clear eY
      replace bA := bA.alloc (.cells #[.slice va3 q.length vd3, .int .i64 pr', .slice vb3 d.length vf3, .int .i64 bw'] 27)
      replace bB := bB.alloc (.cells #[.slice va3 q.length vd3, .int .i64 pr', .slice vb3 d.length vf3, .int .i64 bw'] 27)
      replace bX := bX.alloc (.cells #[.slice va3 q.length vd3, .int .i64 pr', .slice vb3 d.length vf3, .int .i64 bw'] 27)
      replace hx2 := hx2.alloc (.cells #[.slice va3 q.length vd3, .int .i64 pr', .slice vb3 d.length vf3, .int .i64 bw'] 27)
      replace hy2 := hy2.alloc (.cells #[.slice va3 q.length vd3, .int .i64 pr', .slice vb3 d.length vf3, .int .i64 bw'] 27)
      replace hx3 := hx3.alloc (.cells #[.slice va3 q.length vd3, .int .i64 pr', .slice vb3 d.length vf3, .int .i64 bw'] 27)
      replace hy3 := hy3.alloc (.cells #[.slice va3 q.length vd3, .int .i64 pr', .slice vb3 d.length vf3, .int .i64 bw'] 27)
      replace hp := hp.alloc (.cells #[.slice va3 q.length vd3, .int .i64 pr', .slice vb3 d.length vf3, .int .i64 bw'] 27)
      replace hc := hc.alloc (.cells #[.slice va3 q.length vd3, .int .i64 pr', .slice vb3 d.length vf3, .int .i64 bw'] 27)
      replace hq := hq.alloc (.cells #[.slice va3 q.length vd3, .int .i64 pr', .slice vb3 d.length vf3, .int .i64 bw'] 27)
      replace hd := hd.alloc (.cells #[.slice va3 q.length vd3, .int .i64 pr', .slice vb3 d.length vf3, .int .i64 bw'] 27)
      replace B0 := B0.alloc B0.size (.cells #[.slice va3 q.length vd3, .int .i64 pr', .slice vb3 d.length vf3, .int .i64 bw'] 27)
      refine (iattrcmp_t _ _ _ _ _ _ _ _ p c q d pr bw pr' bw' _ (hx2.rd hp.1) (hy2.rd hc.1) (hx3.rd hq.1) (hy3.rd hd.1) HR).mono ?_
      rintro e w6 ⟨rfl, hb⟩
      replace bA := bA.keep hb
      replace bB := bB.keep hb
      replace bX := bX.keep hb
      replace bY := bY.keep hb
      replace hx2 := hx2.keep hb
      replace hy2 := hy2.keep hb
      replace hx3 := hx3.keep hb
      replace hy3 := hy3.keep hb
      replace hp := hp.keep hb
      replace hc := hc.keep hb
      replace hq := hq.keep hb
      replace hd := hd.keep hb
      replace B0 := below_step B0 hb
      clear hb
      have kA0 := bA.c0
      have kA1 := bA.c1
      have kA2 := bA.c2
      have kA3 := bA.c3
      have lA := bA.lt
      have kB0 := bB.c0
      have kB1 := bB.c1
      have kB2 := bB.c2
      have kB3 := bB.c3
      have lB := bB.lt
      have kX0 := bX.c0
      have kX1 := bX.c1
      have kX2 := bX.c2
      have kX3 := bX.c3
      have lX := bX.lt
      have kY0 := bY.c0
      have kY1 := bY.c1
      have kY2 := bY.c2
      have kY3 := bY.c3
      have lY := bY.lt
      go_wp2_with fail
      clear kA0 kA1 kA2 kA3 kB0 kB1 kB2 kB3 kX0 kX1 kX2 kX3 kY0 kY1 kY2 kY3 lA lB lX lY
      go_region_held3 (fun w' => Over w6 w' ∧ w'.cell? ⟨A, 0, none⟩ = some (pv) ∧ w'.cell? ⟨A, 1, none⟩ = some (.int .i64 pr) ∧ w'.cell? ⟨A, 2, none⟩ = some (cv) ∧ w'.cell? ⟨A, 3, none⟩ = some (.int .i64 bw) ∧ w'.cell? ⟨X, 0, none⟩ = some (.slice ua2 p.length ud2) ∧ w'.cell? ⟨X, 1, none⟩ = some (.int .i64 pr) ∧ w'.cell? ⟨X, 2, none⟩ = some (.slice ub2 c.length uf2) ∧ w'.cell? ⟨X, 3, none⟩ = some (.int .i64 bw))
        ((first | exact held8_0 bA bX | exact held8_S bA bX (by assumption) (by assumption)))
        ((first | (go_at_call 13; refine (toA_any pv cv p c pr bw _ (rdI_over hp (‹Over w6 _ ∧ _›).1) (rdI_over hc (‹Over w6 _ ∧ _›).1) hpl hcl).mono ?_; rintro e wa4 ⟨ua4, ud4, ub4, uf4, rfl, hxa4, hya4, hapa4, hba4⟩) | (go_at_call 15; refine (eqA_same _ _ _ _ p c pr bw _ (rdI_over (hx2.rd hp.1) (‹Over w6 _ ∧ _›).1) (rdI_over (hy2.rd hc.1) (‹Over w6 _ ∧ _›).1) (hxa4.rd hp.1) (hya4.rd hc.1)).mono ?_; rintro e w7 ⟨rfl, hbe4⟩)))
      rename_i hH
      replace hH := hH.1
      clear hbe4 hba4 hxa4 hya4 hapa4
      replace bA := bA.keep hH
      replace bB := bB.keep hH
      replace bX := bX.keep hH
      replace bY := bY.keep hH
      replace hx2 := hx2.keep hH
      replace hy2 := hy2.keep hH
      replace hx3 := hx3.keep hH
      replace hy3 := hy3.keep hH
      replace hp := hp.keep hH
      replace hc := hc.keep hH
      replace hq := hq.keep hH
      replace hd := hd.keep hH
      replace B0 := below_step B0 hH
      clear hH
      have kA0 := bA.c0
      have kA1 := bA.c1
      have kA2 := bA.c2
      have kA3 := bA.c3
      have lA := bA.lt
      have kB0 := bB.c0
      have kB1 := bB.c1
      have kB2 := bB.c2
      have kB3 := bB.c3
      have lB := bB.lt
      have kX0 := bX.c0
      have kX1 := bX.c1
      have kX2 := bX.c2
      have kX3 := bX.c3
      have lX := bX.lt
      have kY0 := bY.c0
      have kY1 := bY.c1
      have kY2 := bY.c2
      have kY3 := bY.c3
      have lY := bY.lt
      go_wp2_with fail
      clear kA0 kA1 kA2 kA3 kB0 kB1 kB2 kB3 kX0 kX1 kX2 kX3 kY0 kY1 kY2 kY3 lA lB lX lY
      go_region_held3 (fun w' => Over w7 w' ∧ w'.cell? ⟨B, 0, none⟩ = some (qv) ∧ w'.cell? ⟨B, 1, none⟩ = some (.int .i64 pr') ∧ w'.cell? ⟨B, 2, none⟩ = some (dv) ∧ w'.cell? ⟨B, 3, none⟩ = some (.int .i64 bw') ∧ w'.cell? ⟨Y, 0, none⟩ = some (.slice va3 q.length vd3) ∧ w'.cell? ⟨Y, 1, none⟩ = some (.int .i64 pr') ∧ w'.cell? ⟨Y, 2, none⟩ = some (.slice vb3 d.length vf3) ∧ w'.cell? ⟨Y, 3, none⟩ = some (.int .i64 bw'))
        ((first | exact held8_0 bB bY | exact held8_S bB bY (by assumption) (by assumption)))
        ((first | (go_at_call 13; refine (toA_any qv dv q d pr' bw' _ (rdI_over hq (‹Over w7 _ ∧ _›).1) (rdI_over hd (‹Over w7 _ ∧ _›).1) hql hdl).mono ?_; rintro e wb5 ⟨va5, vd5, vb5, vf5, rfl, hxb5, hyb5, hapb5, hbb5⟩) | (go_at_call 15; refine (eqA_same _ _ _ _ q d pr' bw' _ (rdI_over (hx3.rd hq.1) (‹Over w7 _ ∧ _›).1) (rdI_over (hy3.rd hd.1) (‹Over w7 _ ∧ _›).1) (hxb5.rd hq.1) (hyb5.rd hd.1)).mono ?_; rintro e w8 ⟨rfl, hbe5⟩)))
      rename_i hH
      replace hH := hH.1
      clear hbe5 hbb5 hxb5 hyb5 hapb5
      replace bA := bA.keep hH
      replace bB := bB.keep hH
      replace bX := bX.keep hH
      replace bY := bY.keep hH
      replace hx2 := hx2.keep hH
      replace hy2 := hy2.keep hH
      replace hx3 := hx3.keep hH
      replace hy3 := hy3.keep hH
      replace hp := hp.keep hH
      replace hc := hc.keep hH
      replace hq := hq.keep hH
      replace hd := hd.keep hH
      replace B0 := below_step B0 hH
      clear hH
      go_wp2
      go_ret
      exact ⟨rfl, B0⟩

set_option maxRecDepth 100000 in
theorem lifted (os : Os) (started : os.Started) (H : Type) (enc : TypeId × Value → H) :
    ReturnsInHanded {} Try.checked os 8 .any (Rows.fnExactAttrCmpSpec.pre6 enc Try.prog Try.f8 Rows.fnExactAttrCmpRow.domain false) (Rows.fnExactAttrCmpSpec.post enc Try.prog Try.f8 false true false false) := by
  refine returnsInHanded_of_change (C := Try.checked) own started (by kernel_rfl) Try.func8
    (ChangeSpec.witness6 (enc := enc) (C := Try.checked) false ⟨#[], #[.agg #[.slice none 0 0, .int .i64 0, .slice none 0 0, .int .i64 0], .agg #[.slice none 0 0, .int .i64 0, .slice none 0 0, .int .i64 0]], []⟩ 8 (by kernel_rfl) (by kernel_rfl) (by kernel_rfl) (by kernel_rfl)) ?_
  intro W base args ds gs before hval0 hW hcnd _
  have hval : ∀ (j : Nat) t v, Try.f8.params[j]? = some t → args[j]? = some v → Value.okWide Try.prog W .any base t v := hval0
  have hW' := hW
  obtain ⟨p, q, hA0, hV, rfl, hfz, hnd⟩ := hW
  have hA : DataW.TrodAll enc Try.prog W 0 (fun _ => true) true Try.f8.params.toList args.toList ds p := hA0
  rw [Try.params8] at hA hval
  obtain ⟨v0, vs0, d0, ds0, p0, q0, hargs, rfl, rfl, h0, r0⟩ := trodAll_cons hA
  obtain ⟨v1, vs1, d1, ds1, p1, q1, rfl, rfl, rfl, h1, r1⟩ := trodAll_cons r0
  obtain ⟨rfl, rfl, rfl⟩ := trodAll_nil r1
  obtain rfl : args = #[v0, v1] := by cases args; simp_all
  obtain ⟨rfl, rfl⟩ := trodVars_none hV
  have lt0 : ∀ x ∈ p0, x.block < W.heap.size := by obtain ⟨m, hm⟩ := h0; exact DataW.trod_lt m _ _ _ hm
  have w0 := is_Attr (hval 0 24 v0 rfl rfl) h0
  have lt1 : ∀ x ∈ p1, x.block < W.heap.size := by obtain ⟨m, hm⟩ := h1; exact DataW.trod_lt m _ _ _ hm
  have w1 := is_Attr (hval 1 24 v1 rfl rfl) h1
  clear hA0 hval0 hval
  refine (walk W v0 v1 w0 w1).mono fun e W' ⟨he, bel⟩ => ?_
  subst he
  exact ⟨_, rfl, _, _, _, [], _, [], hW', trodAll_mk1 (shut_bool Try.underlying4 _), (trodAll_cons_mk (Below.trod laidOut (by kernel_rfl) (of_decide_eq_true (by kernel_rfl)) h0 bel lt0) (trodAll_cons_mk (Below.trod laidOut (by kernel_rfl) (of_decide_eq_true (by kernel_rfl)) h1 bel lt1) trodAll_mk0)), rfl, bel.frame _, fun h => by cases h⟩

theorem over : Rows.fnExactAttrCmpRow.holds Try.pinned (OpenSpec.ofChange Rows.fnExactAttrCmpSpec) :=
  OpenClaim.holds_of_wide 8 Try.f8 rfl rfl rfl rfl rfl rfl rfl ⟨rfl, rfl, rfl, rfl, rfl⟩ rfl rfl rfl rfl rfl (by kernel_rfl) Try.func8 (by kernel_rfl)
    (of_decide_eq_true (by kernel_rfl)) (by unfold Func.isWrapper; first | (rw [if_pos (by decide +kernel)]; kernel_rfl) | (rw [if_neg (by decide +kernel)]; exact ⟨rfl, rfl⟩))
    (fun os started H enc _ => lifted os started H enc)

theorem proved : Rows.FnExactAttrCmpSaid := over
end Go.Proofs.Ytnobdcikkejeiaa.fnExactAttrCmp
