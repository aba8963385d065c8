/-
  What is drawn for the laws on attributes: two of them. Conditions: those in each contract.
-/
import Derived.Test.YtcmbajphholliabDoorAT3
namespace Go.Proofs.YtcmbajphholliabDoor
open Go.ChangeShapes Go.WideShapes Go.ChangeAt Go.RowKit Go.BigFrame Go.Joins
set_option linter.unusedVariables false
set_option maxRecDepth 100000
set_option linter.unusedSimpArgs false
set_option maxRecDepth 100000

set_option maxHeartbeats 8000000 in
theorem drawAttrCmp_any (v : Value) (l : List Int) (w : World) (hr : Rd w v l) :
    Calls Tryd.prog 15 #[v] w (fun e w' => ∃ pa px ca cx qa qx da dx pr bw pr2 bw2 p c q d, e = .returned (.tuple #[.agg #[.slice pa p.length px, .int .i64 pr, .slice ca c.length cx, .int .i64 bw], .agg #[.slice qa q.length qx, .int .i64 pr2, .slice da d.length dx, .int .i64 bw2]]) ∧ RdI w' (.slice pa p.length px) p ∧ RdI w' (.slice ca c.length cx) c ∧ RdI w' (.slice qa q.length qx) q ∧ RdI w' (.slice da d.length dx) d ∧ I64 pr ∧ I64 bw ∧ I64 pr2 ∧ I64 bw2 ∧ c.length ≤ cx ∧ Below w.heap.size w w') := by
  obtain ⟨c0, c1, c2, c3, lt0, b0⟩ := box4 w (.slice none 0 0) (.int .i64 0) (.slice none 0 0) (.int .i64 0) 36
  clear c0 c1 c2 c3 lt0
  have bR := (Bx.new w (.slice none 0 0) (.int .i64 0) (.slice none 0 0) (.int .i64 0) 36 w.heap.size rfl).alloc (.cells #[.slice none 0 0, .int .i64 0, .slice none 0 0, .int .i64 0] 36)
  have bS := Bx.new (w.alloc (.cells #[.slice none 0 0, .int .i64 0, .slice none 0 0, .int .i64 0] 36)) (.slice none 0 0) (.int .i64 0) (.slice none 0 0) (.int .i64 0) 36 (w.heap.size + 1) (by simp)
  have B0 : Below w.heap.size w ((w.alloc (.cells #[.slice none 0 0, .int .i64 0, .slice none 0 0, .int .i64 0] 36)).alloc (.cells #[.slice none 0 0, .int .i64 0, .slice none 0 0, .int .i64 0] 36)) := ((Below.refl _ _).alloc (Nat.le_refl _) _).alloc (by simp) _
  have hz : ((w.alloc (.cells #[.slice none 0 0, .int .i64 0, .slice none 0 0, .int .i64 0] 36)).alloc (.cells #[.slice none 0 0, .int .i64 0, .slice none 0 0, .int .i64 0] 36)).heap.size = w.heap.size + 1 + 1 := by simp
  have hV := hr.keep B0
  obtain ⟨R, eR⟩ : ∃ R, R = w.heap.size := ⟨_, rfl⟩
  obtain ⟨S, eS⟩ : ∃ S, S = w.heap.size + 1 := ⟨_, rfl⟩
  rw [← eR] at bR
  rw [← eS] at bS
  have hwR : w.heap.size ≤ R := by omega
  have hwS : w.heap.size ≤ S := by omega
  have hRS : R ≠ S := by omega
  have hR2 : R < w.heap.size + 1 + 1 := by omega
  have hS2 : S < w.heap.size + 1 + 1 := by omega
  have HRS := Lib.hid (And.intro eR eS)
  clear eR eS
  go_enter Tryd.func15, Tryd.ntmps15
  go_wp2_with fail
  try rw [← HRS.out.2]
  try rw [← HRS.out.1]
  refine (new_any v l _ hV).mono ?_
  rintro e w1 ⟨g, rfl, cu1⟩
  have hgz := cu1.hg
  rw [hz] at hgz
  have hRg : R ≠ g := by omega
  have hSg : S ≠ g := by omega
  have hRG : R < g := by omega
  have hSG : S < g := by omega
  replace bR := bR.keep cu1.over
  replace bS := bS.keep cu1.over
  obtain ⟨V, eV⟩ : ∃ V, V = ((w.alloc (.cells #[.slice none 0 0, .int .i64 0, .slice none 0 0, .int .i64 0] 36)).alloc (.cells #[.slice none 0 0, .int .i64 0, .slice none 0 0, .int .i64 0] 36)) := ⟨_, rfl⟩
  rw [← eV] at cu1 B0
  clear eV hV hz hgz b0 hR2 hS2
  have hgw := cu1.lt
  go_wp2_with fail
  try simp only [← HRS.out.2]
  try simp only [← HRS.out.1]
  refine (l2bent_any V g v l _ cu1).mono ?_
  rintro e w2 ⟨pv, pr, cv, bw, p, c, rfl, cu2, hg, hp, hc, hap, hsp, hsc, -, -, hpr, hbw, -⟩
  obtain ⟨pa, px, rfl⟩ := hp.len
  obtain ⟨ca, cx, rfl⟩ := hc.len
  replace bR := bR.grown hg (by simpa using hRg)
  replace bS := bS.grown hg (by simpa using hSg)
  have hpg := OwnI.sepLt hp hgw
  have hcg := OwnI.sepLt hc hgw
  have hbR : R < w1.heap.size := by omega
  have hbS : S < w1.heap.size := by omega
  clear hg cu1
  go_wp2_with fail
  obtain ⟨A, eA⟩ : ∃ A, A = w2.heap.size := ⟨_, rfl⟩
  try rw [← eA]
  have hcl := cu2.lt
  have hRl := bR.lt
  have hSl := bS.lt
  have hAg : A ≠ g := by omega
  have hRA : R ≠ A := by omega
  have hSA : S ≠ A := by omega
  have bA := Bx.new w2 (.slice pa p.length px) (.int .i64 pr) (.slice ca c.length cx) (.int .i64 bw) 36 A eA
  replace bR := bR.alloc (.cells #[.slice pa p.length px, .int .i64 pr, .slice ca c.length cx, .int .i64 bw] 36)
  replace bS := bS.alloc (.cells #[.slice pa p.length px, .int .i64 pr, .slice ca c.length cx, .int .i64 bw] 36)
  replace hp := hp.alloc (.cells #[.slice pa p.length px, .int .i64 pr, .slice ca c.length cx, .int .i64 bw] 36)
  replace hc := hc.alloc (.cells #[.slice pa p.length px, .int .i64 pr, .slice ca c.length cx, .int .i64 bw] 36)
  replace cu2 := cu2.alloc (.cells #[.slice pa p.length px, .int .i64 pr, .slice ca c.length cx, .int .i64 bw] 36)
  obtain ⟨w3, eW⟩ : ∃ u, u = w2.alloc (.cells #[.slice pa p.length px, .int .i64 pr, .slice ca c.length cx, .int .i64 bw] 36) := ⟨_, rfl⟩
  rw [← eW] at bR bS bA hp hc cu2 ⊢
  clear eW eA hcl hRl hSl
  refine (once_any V g v l 3 _ cu2 (by decide) (by decide)).mono ?_
  rintro e w4 ⟨b, rfl, cu4, hg⟩
  replace bR := bR.grown hg (by simpa using hRg)
  replace bS := bS.grown hg (by simpa using hSg)
  replace bA := bA.grown hg (by simpa using hAg)
  replace hp := hp.kept hg hpg
  replace hc := hc.kept hg hcg
  clear hg cu2
  cases b
  · go_wp2_with fail
    refine wp_region_held_drew (S := fun w' => w'.cell? ⟨A, 0, none⟩ = some (.slice pa p.length px) ∧ w'.cell? ⟨A, 1, none⟩ = some (.int .i64 pr) ∧ w'.cell? ⟨A, 2, none⟩ = some (.slice ca c.length cx) ∧ w'.cell? ⟨A, 3, none⟩ = some (.int .i64 bw)) (by kernel_rfl) ⟨bA.c0, bA.c1, bA.c2, bA.c3⟩ (fun hHeld => ?_)
    clear hHeld
    have cu5 : Cur V w4.drew g v l := cu4.drewN 1
    replace bR := (show Bx w4.drew R _ _ _ _ from bR.keep ((Below.refl _ _).drew))
    replace bS := (show Bx w4.drew S _ _ _ _ from bS.keep ((Below.refl _ _).drew))
    replace bA := (show Bx w4.drew A _ _ _ _ from bA.keep ((Below.refl _ _).drew))
    replace hp := (show OwnI w4.drew _ _ _ from hp.keep ((Below.refl _ _).drew))
    replace hc := (show OwnI w4.drew _ _ _ from hc.keep ((Below.refl _ _).drew))
    obtain ⟨u0, e0⟩ : ∃ u, u = w4.drew := ⟨_, rfl⟩
    rw [← e0] at bR bS bA hp hc cu5 ⊢
    clear e0 cu4
    refine wpAnyH_take (i := 0) (v := ?_) rfl (by kernel_rfl) (by kernel_rfl) (by kernel_rfl) (fun _ _ _ h => h) (Or.inl ⟨by rfl, ?_⟩) ⟨bA.c0, bA.c1, bA.c2, bA.c3⟩ ?_
    rotate_left
    · intro wq hSq
      (try dsimp only at hSq)
      obtain ⟨q0, q1, q2, q3⟩ := hSq
      go_simp
      try rfl
    change wpAnyH _ _ _ _ _ _ _ (Act.put _ (some 23) _) _
    simp only [Act.put, List.setIfInBounds_toArray, List.set_cons_succ, List.set_cons_zero]
    refine wpAnyH_take (i := 1) (v := ?_) rfl (by kernel_rfl) (by kernel_rfl) (by kernel_rfl) (fun _ _ _ h => h) (Or.inl ⟨by rfl, ?_⟩) ⟨bA.c0, bA.c1, bA.c2, bA.c3⟩ ?_
    rotate_left
    · intro wq hSq
      (try dsimp only at hSq)

      go_simp
      try rfl
    change wpAnyH _ _ _ _ _ _ _ (Act.put _ (some 24) _) _
    simp only [Act.put, List.setIfInBounds_toArray, List.set_cons_succ, List.set_cons_zero]
    refine wpAnyH_ready (rs := [2]) (by kernel_rfl) (by simp) ?_
    refine (AllReadyH.cons rfl (fun K hK => ?_) AllReadyH.nil)
    go_simp
    refine (l2bent_any V g v l _ cu5).mono ?_
    rintro e w6 ⟨qv, pr2, dv, bw2, q, d, rfl, cu6, hg, hq, hd, hap2, hsq, hsd, -, -, hpr2, hbw2, -⟩
    obtain ⟨qa, qx, rfl⟩ := hq.len
    obtain ⟨da, dx, rfl⟩ := hd.len
    have hqR : R < u0.heap.size := bR.lt
    have hqS : S < u0.heap.size := bS.lt
    replace bR := bR.grown hg (by simpa using hRg)
    replace bS := bS.grown hg (by simpa using hSg)
    replace bA := bA.grown hg (by simpa using hAg)
    replace hp := hp.kept hg hpg
    replace hc := hc.kept hg hcg
    clear hg
    refine hK.out _ _ ⟨bA.c0, bA.c1, bA.c2, bA.c3⟩ (fun _ => ?_)
    clear hK K
    try simp only [Act.put, List.setIfInBounds_toArray, List.set_cons_zero, List.set_cons_succ]
    have oB := below_step B0 cu6.over
    clear cu5 cu6
    refine wpAnyH_ready (rs := [3]) (by kernel_rfl) (by simp) ?_
    refine (AllReadyH.cons rfl (fun K hK => ?_) AllReadyH.nil)
    have k0 := bR.c0
    have q0 := bR.f0
    have k1 := bR.c1
    have q1 := bR.f1
    have k2 := bR.c2
    have q2 := bR.f2
    have k3 := bR.c3
    have q3 := bR.f3
    go_simp
    clear k0 q0 k1 q1 k2 q2 k3 q3
    replace bS := ((((bS.far (C := R) (o := 0) (u := .slice pa p.length px) hRS.symm).far (C := R) (o := 1) (u := .int .i64 pr) hRS.symm).far (C := R) (o := 2) (u := .slice ca c.length cx) hRS.symm).far (C := R) (o := 3) (u := .int .i64 bw) hRS.symm)
    replace bR := ((((bR.set0 (u := .slice pa p.length px)).set1 (u := .int .i64 pr)).set2 (u := .slice ca c.length cx)).set3 (u := .int .i64 bw))
    replace hp := (OwnI.far (o := 3) (u := .int .i64 bw) (OwnI.far (o := 2) (u := .slice ca c.length cx) (OwnI.far (o := 1) (u := .int .i64 pr) (OwnI.far (o := 0) (u := .slice pa p.length px) hp (hbR)) (hbR)) (hbR)) (hbR))
    replace hc := (OwnI.far (o := 3) (u := .int .i64 bw) (OwnI.far (o := 2) (u := .slice ca c.length cx) (OwnI.far (o := 1) (u := .int .i64 pr) (OwnI.far (o := 0) (u := .slice pa p.length px) hc (hbR)) (hbR)) (hbR)) (hbR))
    replace hq := (OwnI.far (o := 3) (u := .int .i64 bw) (OwnI.far (o := 2) (u := .slice ca c.length cx) (OwnI.far (o := 1) (u := .int .i64 pr) (OwnI.far (o := 0) (u := .slice pa p.length px) hq (hqR)) (hqR)) (hqR)) (hqR))
    replace hd := (OwnI.far (o := 3) (u := .int .i64 bw) (OwnI.far (o := 2) (u := .slice ca c.length cx) (OwnI.far (o := 1) (u := .int .i64 pr) (OwnI.far (o := 0) (u := .slice pa p.length px) hd (hqR)) (hqR)) (hqR)) (hqR))
    replace oB := ((((oB.setCell (p := ⟨R, 0, none⟩) hwR (.slice pa p.length px)).setCell (p := ⟨R, 1, none⟩) hwR (.int .i64 pr)).setCell (p := ⟨R, 2, none⟩) hwR (.slice ca c.length cx)).setCell (p := ⟨R, 3, none⟩) hwR (.int .i64 bw))
    replace bA := ((((bA.far (C := R) (o := 0) (u := .slice pa p.length px) (Ne.symm hRA)).far (C := R) (o := 1) (u := .int .i64 pr) (Ne.symm hRA)).far (C := R) (o := 2) (u := .slice ca c.length cx) (Ne.symm hRA)).far (C := R) (o := 3) (u := .int .i64 bw) (Ne.symm hRA))
    refine hK.out _ _ ⟨bA.c0, bA.c1, bA.c2, bA.c3⟩ (fun _ => ?_)
    clear hK K
    try simp only [Act.put, List.setIfInBounds_toArray, List.set_cons_zero, List.set_cons_succ]
    obtain ⟨u1, eU⟩ : ∃ z, z = ((((w6.setCell ⟨R, 0, none⟩ (.slice pa p.length px)).setCell ⟨R, 1, none⟩ (.int .i64 pr)).setCell ⟨R, 2, none⟩ (.slice ca c.length cx)).setCell ⟨R, 3, none⟩ (.int .i64 bw)) := ⟨_, rfl⟩
    rw [← eU] at bR bS oB hp hc hq hd bA ⊢
    clear eU
    refine wpAnyH_ready (rs := [4]) (by kernel_rfl) (by simp) ?_
    refine (AllReadyH.cons rfl (fun K hK => ?_) AllReadyH.nil)
    have k0 := bS.c0
    have q0 := bS.f0
    have k1 := bS.c1
    have q1 := bS.f1
    have k2 := bS.c2
    have q2 := bS.f2
    have k3 := bS.c3
    have q3 := bS.f3
    go_simp
    clear k0 q0 k1 q1 k2 q2 k3 q3
    replace bR := ((((bR.far (C := S) (o := 0) (u := .slice qa q.length qx) hRS).far (C := S) (o := 1) (u := .int .i64 pr2) hRS).far (C := S) (o := 2) (u := .slice da d.length dx) hRS).far (C := S) (o := 3) (u := .int .i64 bw2) hRS)
    replace bS := ((((bS.set0 (u := .slice qa q.length qx)).set1 (u := .int .i64 pr2)).set2 (u := .slice da d.length dx)).set3 (u := .int .i64 bw2))
    replace hp := (OwnI.far (o := 3) (u := .int .i64 bw2) (OwnI.far (o := 2) (u := .slice da d.length dx) (OwnI.far (o := 1) (u := .int .i64 pr2) (OwnI.far (o := 0) (u := .slice qa q.length qx) hp (hbS)) (hbS)) (hbS)) (hbS))
    replace hc := (OwnI.far (o := 3) (u := .int .i64 bw2) (OwnI.far (o := 2) (u := .slice da d.length dx) (OwnI.far (o := 1) (u := .int .i64 pr2) (OwnI.far (o := 0) (u := .slice qa q.length qx) hc (hbS)) (hbS)) (hbS)) (hbS))
    replace hq := (OwnI.far (o := 3) (u := .int .i64 bw2) (OwnI.far (o := 2) (u := .slice da d.length dx) (OwnI.far (o := 1) (u := .int .i64 pr2) (OwnI.far (o := 0) (u := .slice qa q.length qx) hq (hqS)) (hqS)) (hqS)) (hqS))
    replace hd := (OwnI.far (o := 3) (u := .int .i64 bw2) (OwnI.far (o := 2) (u := .slice da d.length dx) (OwnI.far (o := 1) (u := .int .i64 pr2) (OwnI.far (o := 0) (u := .slice qa q.length qx) hd (hqS)) (hqS)) (hqS)) (hqS))
    replace oB := ((((oB.setCell (p := ⟨S, 0, none⟩) hwS (.slice qa q.length qx)).setCell (p := ⟨S, 1, none⟩) hwS (.int .i64 pr2)).setCell (p := ⟨S, 2, none⟩) hwS (.slice da d.length dx)).setCell (p := ⟨S, 3, none⟩) hwS (.int .i64 bw2))
    replace bA := ((((bA.far (C := S) (o := 0) (u := .slice qa q.length qx) (Ne.symm hSA)).far (C := S) (o := 1) (u := .int .i64 pr2) (Ne.symm hSA)).far (C := S) (o := 2) (u := .slice da d.length dx) (Ne.symm hSA)).far (C := S) (o := 3) (u := .int .i64 bw2) (Ne.symm hSA))
    refine hK.out _ _ ⟨bA.c0, bA.c1, bA.c2, bA.c3⟩ (fun _ => ?_)
    clear hK K
    try simp only [Act.put, List.setIfInBounds_toArray, List.set_cons_zero, List.set_cons_succ]
    obtain ⟨u2, eU⟩ : ∃ z, z = ((((u1.setCell ⟨S, 0, none⟩ (.slice qa q.length qx)).setCell ⟨S, 1, none⟩ (.int .i64 pr2)).setCell ⟨S, 2, none⟩ (.slice da d.length dx)).setCell ⟨S, 3, none⟩ (.int .i64 bw2)) := ⟨_, rfl⟩
    rw [← eU] at bR bS oB hp hc hq hd bA ⊢
    clear eU
    refine wpAnyH_done (by kernel_rfl) ?_ _
    have e0 := bR.c0
    have d0 := bS.c0
    have e1 := bR.c1
    have d1 := bS.c1
    have e2 := bR.c2
    have d2 := bS.c2
    have e3 := bR.c3
    have d3 := bS.c3
    go_wp2_with fail
    exact bodyPost_ret (v := .tuple #[.agg #[.slice pa p.length px, .int .i64 pr, .slice ca c.length cx, .int .i64 bw], .agg #[.slice qa q.length qx, .int .i64 pr2, .slice da d.length dx, .int .i64 bw2]]) (by simp [results, Tryd.results15, go_sem, e0, e1, e2, e3, d0, d1, d2, d3]) rfl
      ⟨_, _, _, _, _, _, _, _, _, _, _, _, p, c, q, d, rfl, hp.rd hsp.bd, hc.rd hsc.bd, hq.rd hsq.bd, hd.rd hsd.bd, hpr, hbw, hpr2, hbw2, by obtain ⟨_, _, e, h⟩ := hc.cap rfl; cases e; exact h, oB⟩
  · have kA0 := bA.c0
    have kA1 := bA.c1
    have kA2 := bA.c2
    have kA3 := bA.c3
    go_wp2_with fail
    clear kA0 kA1 kA2 kA3
    refine (sown_any _ _ p c pr bw _ (hp.rd hsp.bd) (hc.rd hsc.bd) (by have := hsp.1; omega) (by have := hsc.1; omega)).mono ?_
    rintro e w5 ⟨qa, qx, da, dx, rfl, hq, hd, hap2, hb⟩
    have hqR : R < w4.heap.size := bR.lt
    have hqS : S < w4.heap.size := bS.lt
    have hqg := OwnI.sepLt hq cu4.lt
    have hdg := OwnI.sepLt hd cu4.lt
    replace bR := bR.keep hb
    replace bS := bS.keep hb
    replace bA := bA.keep hb
    replace hp := hp.keep hb
    replace hc := hc.keep hb
    have cu5 := cu4.grownR (grown_below hb none) (by simp) (fun k e => by cases e)
    clear hb cu4
    obtain ⟨T, eT⟩ : ∃ T, T = w5.heap.size := ⟨_, rfl⟩
    have hcl := cu5.lt
    have hRl := bR.lt
    have hSl := bS.lt
    have hAl := bA.lt
    have hTg : T ≠ g := by omega
    have hwT : w.heap.size ≤ T := by have q1 := B0.size; have q2 := cu5.over.size; omega
    have hRT : R ≠ T := by omega
    have hST : S ≠ T := by omega
    have hAT : A ≠ T := by omega
    have bT := Bx.new w5 (.slice qa p.length qx) (.int .i64 pr) (.slice da c.length dx) (.int .i64 bw) 36 T eT
    have hqT := OwnI.sepGe hq (Nat.le_of_eq eT.symm)
    have hdT := OwnI.sepGe hd (Nat.le_of_eq eT.symm)
    have hpT := OwnI.sepGe hp (Nat.le_of_eq eT.symm)
    have hcT := OwnI.sepGe hc (Nat.le_of_eq eT.symm)
    replace bR := bR.alloc (.cells #[.slice qa p.length qx, .int .i64 pr, .slice da c.length dx, .int .i64 bw] 36)
    replace bS := bS.alloc (.cells #[.slice qa p.length qx, .int .i64 pr, .slice da c.length dx, .int .i64 bw] 36)
    replace bA := bA.alloc (.cells #[.slice qa p.length qx, .int .i64 pr, .slice da c.length dx, .int .i64 bw] 36)
    replace hp := hp.alloc (.cells #[.slice qa p.length qx, .int .i64 pr, .slice da c.length dx, .int .i64 bw] 36)
    replace hc := hc.alloc (.cells #[.slice qa p.length qx, .int .i64 pr, .slice da c.length dx, .int .i64 bw] 36)
    replace hq := hq.alloc (.cells #[.slice qa p.length qx, .int .i64 pr, .slice da c.length dx, .int .i64 bw] 36)
    replace hd := hd.alloc (.cells #[.slice qa p.length qx, .int .i64 pr, .slice da c.length dx, .int .i64 bw] 36)
    replace cu5 := cu5.alloc (.cells #[.slice qa p.length qx, .int .i64 pr, .slice da c.length dx, .int .i64 bw] 36)
    have kA3 := bA.c3
    go_wp2_with fail
    clear kA3
    try rw [← eT]
    obtain ⟨w6, eW⟩ : ∃ u, u = w5.alloc (.cells #[.slice qa p.length qx, .int .i64 pr, .slice da c.length dx, .int .i64 bw] 36) := ⟨_, rfl⟩
    have hz6 : w5.heap.size + 1 = w6.heap.size := by rw [eW]; simp
    rw [← eW] at bR bS bA bT hp hc hq hd cu5 ⊢
    try rw [eT, hz6]
    try rw [hz6]
    try rw [← eT]
    clear eW eT hcl hRl hSl hAl hz6
    have hcl := cu5.lt
    have hL := lit_cells w6 [bw, 5] IT w6.heap.size rfl
    refine (pick_any V g v l (fun i => [bw, 5].getD i 0) 2 w6.heap.size _ (cu5.alloc _) (by decide) (by decide) (by omega) (by simp) hL).mono ?_
    rintro e w7 ⟨y, rfl, ⟨i, hi, hx⟩, cu7, hg⟩
    have hy : I64 y := by
      have hbw' := hbw
      rw [hx]
      match i, hi with
      | 0, _ => exact hbw'
      | 1, _ => exact (show I64 5 from ⟨by decide, by decide⟩)
    clear hL hx hi hcl
    replace bR := bR.alloc (.cells #[.int .i64 bw, .int .i64 5] IT)
    replace bS := bS.alloc (.cells #[.int .i64 bw, .int .i64 5] IT)
    replace bA := bA.alloc (.cells #[.int .i64 bw, .int .i64 5] IT)
    replace bT := bT.alloc (.cells #[.int .i64 bw, .int .i64 5] IT)
    replace hp := hp.alloc (.cells #[.int .i64 bw, .int .i64 5] IT)
    replace hc := hc.alloc (.cells #[.int .i64 bw, .int .i64 5] IT)
    replace hq := hq.alloc (.cells #[.int .i64 bw, .int .i64 5] IT)
    replace hd := hd.alloc (.cells #[.int .i64 bw, .int .i64 5] IT)
    replace bR := bR.grown hg (by simpa using hRg)
    replace bS := bS.grown hg (by simpa using hSg)
    replace bA := bA.grown hg (by simpa using hAg)
    replace bT := bT.grown hg (by simpa using hTg)
    replace hp := hp.kept hg hpg
    replace hc := hc.kept hg hcg
    replace hq := hq.kept hg hqg
    replace hd := hd.kept hg hdg
    clear hg cu5
    have kT3 := bT.c3
    have qT3 := bT.f3
    go_wp2_with fail
    clear kT3 qT3
    replace bR := bR.far (C := T) (o := 3) (u := .int .i64 y) hRT
    replace bS := bS.far (C := T) (o := 3) (u := .int .i64 y) hST
    replace bA := bA.far (C := T) (o := 3) (u := .int .i64 y) hAT
    replace bT := bT.set3 (u := .int .i64 y)
    replace hp := hp.farN (o := 3) (u := .int .i64 y) hpT
    replace hc := hc.farN (o := 3) (u := .int .i64 y) hcT
    replace hq := hq.farN (o := 3) (u := .int .i64 y) hqT
    replace hd := hd.farN (o := 3) (u := .int .i64 y) hdT
    have oB := (below_step B0 cu7.over).setCell (p := ⟨T, 3, none⟩) hwT (.int .i64 y)
    obtain ⟨w8, eW⟩ : ∃ u, u = w7.setCell ⟨T, 3, none⟩ (.int .i64 y) := ⟨_, rfl⟩
    rw [← eW] at bR bS bA bT hp hc hq hd oB ⊢
    clear eW cu7
    refine wp_region_held_drew (S := fun w' => (w'.cell? ⟨A, 0, none⟩ = some (.slice pa p.length px) ∧ w'.cell? ⟨A, 1, none⟩ = some (.int .i64 pr) ∧ w'.cell? ⟨A, 2, none⟩ = some (.slice ca c.length cx) ∧ w'.cell? ⟨A, 3, none⟩ = some (.int .i64 bw)) ∧ w'.cell? ⟨T, 0, none⟩ = some (.slice qa p.length qx) ∧ w'.cell? ⟨T, 1, none⟩ = some (.int .i64 pr) ∧ w'.cell? ⟨T, 2, none⟩ = some (.slice da c.length dx) ∧ w'.cell? ⟨T, 3, none⟩ = some (.int .i64 y)) (by kernel_rfl) ⟨⟨bA.c0, bA.c1, bA.c2, bA.c3⟩, bT.c0, bT.c1, bT.c2, bT.c3⟩ (fun hHeld => ?_)
    clear hHeld
    replace bR := (show Bx w8.drew R _ _ _ _ from bR.keep ((Below.refl _ _).drew))
    replace bS := (show Bx w8.drew S _ _ _ _ from bS.keep ((Below.refl _ _).drew))
    replace bA := (show Bx w8.drew A _ _ _ _ from bA.keep ((Below.refl _ _).drew))
    replace bT := (show Bx w8.drew T _ _ _ _ from bT.keep ((Below.refl _ _).drew))
    replace hp := (show OwnI w8.drew _ _ _ from hp.keep ((Below.refl _ _).drew))
    replace hc := (show OwnI w8.drew _ _ _ from hc.keep ((Below.refl _ _).drew))
    replace hq := (show OwnI w8.drew _ _ _ from hq.keep ((Below.refl _ _).drew))
    replace hd := (show OwnI w8.drew _ _ _ from hd.keep ((Below.refl _ _).drew))
    replace oB := oB.drew
    obtain ⟨u0, e0⟩ : ∃ u, u = w8.drew := ⟨_, rfl⟩
    rw [← e0] at bR bS bA bT hp hc hq hd oB ⊢
    clear e0
    refine wpAnyH_take (i := 0) (v := ?_) rfl (by kernel_rfl) (by kernel_rfl) (by kernel_rfl) (fun _ _ _ h => h) (Or.inl ⟨by rfl, ?_⟩) ⟨⟨bA.c0, bA.c1, bA.c2, bA.c3⟩, bT.c0, bT.c1, bT.c2, bT.c3⟩ ?_
    rotate_left
    · intro wq hSq
      (try dsimp only at hSq)
      obtain ⟨⟨q0, q1, q2, q3⟩, -⟩ := hSq
      go_simp
      try rfl
    change wpAnyH _ _ _ _ _ _ _ (Act.put _ (some 21) _) _
    simp only [Act.put, List.setIfInBounds_toArray, List.set_cons_succ, List.set_cons_zero]
    refine wpAnyH_take (i := 1) (v := ?_) rfl (by kernel_rfl) (by kernel_rfl) (by kernel_rfl) (fun _ _ _ h => h) (Or.inl ⟨by rfl, ?_⟩) ⟨⟨bA.c0, bA.c1, bA.c2, bA.c3⟩, bT.c0, bT.c1, bT.c2, bT.c3⟩ ?_
    rotate_left
    · intro wq hSq
      (try dsimp only at hSq)
      obtain ⟨-, q0, q1, q2, q3⟩ := hSq
      go_simp
      try rfl
    change wpAnyH _ _ _ _ _ _ _ (Act.put _ (some 22) _) _
    simp only [Act.put, List.setIfInBounds_toArray, List.set_cons_succ, List.set_cons_zero]
    refine wpAnyH_ready (rs := [2]) (by kernel_rfl) (by simp) ?_
    refine (AllReadyH.cons rfl (fun K hK => ?_) AllReadyH.nil)
    have k0 := bR.c0
    have q0 := bR.f0
    have k1 := bR.c1
    have q1 := bR.f1
    have k2 := bR.c2
    have q2 := bR.f2
    have k3 := bR.c3
    have q3 := bR.f3
    go_simp
    clear k0 q0 k1 q1 k2 q2 k3 q3
    replace bS := ((((bS.far (C := R) (o := 0) (u := .slice pa p.length px) hRS.symm).far (C := R) (o := 1) (u := .int .i64 pr) hRS.symm).far (C := R) (o := 2) (u := .slice ca c.length cx) hRS.symm).far (C := R) (o := 3) (u := .int .i64 bw) hRS.symm)
    replace bR := ((((bR.set0 (u := .slice pa p.length px)).set1 (u := .int .i64 pr)).set2 (u := .slice ca c.length cx)).set3 (u := .int .i64 bw))
    replace hp := (OwnI.far (o := 3) (u := .int .i64 bw) (OwnI.far (o := 2) (u := .slice ca c.length cx) (OwnI.far (o := 1) (u := .int .i64 pr) (OwnI.far (o := 0) (u := .slice pa p.length px) hp (hbR)) (hbR)) (hbR)) (hbR))
    replace hc := (OwnI.far (o := 3) (u := .int .i64 bw) (OwnI.far (o := 2) (u := .slice ca c.length cx) (OwnI.far (o := 1) (u := .int .i64 pr) (OwnI.far (o := 0) (u := .slice pa p.length px) hc (hbR)) (hbR)) (hbR)) (hbR))
    replace hq := (OwnI.far (o := 3) (u := .int .i64 bw) (OwnI.far (o := 2) (u := .slice ca c.length cx) (OwnI.far (o := 1) (u := .int .i64 pr) (OwnI.far (o := 0) (u := .slice pa p.length px) hq (hqR)) (hqR)) (hqR)) (hqR))
    replace hd := (OwnI.far (o := 3) (u := .int .i64 bw) (OwnI.far (o := 2) (u := .slice ca c.length cx) (OwnI.far (o := 1) (u := .int .i64 pr) (OwnI.far (o := 0) (u := .slice pa p.length px) hd (hqR)) (hqR)) (hqR)) (hqR))
    replace oB := ((((oB.setCell (p := ⟨R, 0, none⟩) hwR (.slice pa p.length px)).setCell (p := ⟨R, 1, none⟩) hwR (.int .i64 pr)).setCell (p := ⟨R, 2, none⟩) hwR (.slice ca c.length cx)).setCell (p := ⟨R, 3, none⟩) hwR (.int .i64 bw))
    replace bA := ((((bA.far (C := R) (o := 0) (u := .slice pa p.length px) (Ne.symm hRA)).far (C := R) (o := 1) (u := .int .i64 pr) (Ne.symm hRA)).far (C := R) (o := 2) (u := .slice ca c.length cx) (Ne.symm hRA)).far (C := R) (o := 3) (u := .int .i64 bw) (Ne.symm hRA))
    replace bT := ((((bT.far (C := R) (o := 0) (u := .slice pa p.length px) (Ne.symm hRT)).far (C := R) (o := 1) (u := .int .i64 pr) (Ne.symm hRT)).far (C := R) (o := 2) (u := .slice ca c.length cx) (Ne.symm hRT)).far (C := R) (o := 3) (u := .int .i64 bw) (Ne.symm hRT))
    refine hK.out _ _ ⟨⟨bA.c0, bA.c1, bA.c2, bA.c3⟩, bT.c0, bT.c1, bT.c2, bT.c3⟩ (fun _ => ?_)
    clear hK K
    try simp only [Act.put, List.setIfInBounds_toArray, List.set_cons_zero, List.set_cons_succ]
    obtain ⟨u1, eU⟩ : ∃ z, z = ((((u0.setCell ⟨R, 0, none⟩ (.slice pa p.length px)).setCell ⟨R, 1, none⟩ (.int .i64 pr)).setCell ⟨R, 2, none⟩ (.slice ca c.length cx)).setCell ⟨R, 3, none⟩ (.int .i64 bw)) := ⟨_, rfl⟩
    rw [← eU] at bR bS oB hp hc hq hd bA bT ⊢
    clear eU
    refine wpAnyH_ready (rs := [3]) (by kernel_rfl) (by simp) ?_
    refine (AllReadyH.cons rfl (fun K hK => ?_) AllReadyH.nil)
    have k0 := bS.c0
    have q0 := bS.f0
    have k1 := bS.c1
    have q1 := bS.f1
    have k2 := bS.c2
    have q2 := bS.f2
    have k3 := bS.c3
    have q3 := bS.f3
    go_simp
    clear k0 q0 k1 q1 k2 q2 k3 q3
    replace bR := ((((bR.far (C := S) (o := 0) (u := .slice qa p.length qx) hRS).far (C := S) (o := 1) (u := .int .i64 pr) hRS).far (C := S) (o := 2) (u := .slice da c.length dx) hRS).far (C := S) (o := 3) (u := .int .i64 y) hRS)
    replace bS := ((((bS.set0 (u := .slice qa p.length qx)).set1 (u := .int .i64 pr)).set2 (u := .slice da c.length dx)).set3 (u := .int .i64 y))
    replace hp := (OwnI.far (o := 3) (u := .int .i64 y) (OwnI.far (o := 2) (u := .slice da c.length dx) (OwnI.far (o := 1) (u := .int .i64 pr) (OwnI.far (o := 0) (u := .slice qa p.length qx) hp (hbS)) (hbS)) (hbS)) (hbS))
    replace hc := (OwnI.far (o := 3) (u := .int .i64 y) (OwnI.far (o := 2) (u := .slice da c.length dx) (OwnI.far (o := 1) (u := .int .i64 pr) (OwnI.far (o := 0) (u := .slice qa p.length qx) hc (hbS)) (hbS)) (hbS)) (hbS))
    replace hq := (OwnI.far (o := 3) (u := .int .i64 y) (OwnI.far (o := 2) (u := .slice da c.length dx) (OwnI.far (o := 1) (u := .int .i64 pr) (OwnI.far (o := 0) (u := .slice qa p.length qx) hq (hqS)) (hqS)) (hqS)) (hqS))
    replace hd := (OwnI.far (o := 3) (u := .int .i64 y) (OwnI.far (o := 2) (u := .slice da c.length dx) (OwnI.far (o := 1) (u := .int .i64 pr) (OwnI.far (o := 0) (u := .slice qa p.length qx) hd (hqS)) (hqS)) (hqS)) (hqS))
    replace oB := ((((oB.setCell (p := ⟨S, 0, none⟩) hwS (.slice qa p.length qx)).setCell (p := ⟨S, 1, none⟩) hwS (.int .i64 pr)).setCell (p := ⟨S, 2, none⟩) hwS (.slice da c.length dx)).setCell (p := ⟨S, 3, none⟩) hwS (.int .i64 y))
    replace bA := ((((bA.far (C := S) (o := 0) (u := .slice qa p.length qx) (Ne.symm hSA)).far (C := S) (o := 1) (u := .int .i64 pr) (Ne.symm hSA)).far (C := S) (o := 2) (u := .slice da c.length dx) (Ne.symm hSA)).far (C := S) (o := 3) (u := .int .i64 y) (Ne.symm hSA))
    replace bT := ((((bT.far (C := S) (o := 0) (u := .slice qa p.length qx) (Ne.symm hST)).far (C := S) (o := 1) (u := .int .i64 pr) (Ne.symm hST)).far (C := S) (o := 2) (u := .slice da c.length dx) (Ne.symm hST)).far (C := S) (o := 3) (u := .int .i64 y) (Ne.symm hST))
    refine hK.out _ _ ⟨⟨bA.c0, bA.c1, bA.c2, bA.c3⟩, bT.c0, bT.c1, bT.c2, bT.c3⟩ (fun _ => ?_)
    clear hK K
    try simp only [Act.put, List.setIfInBounds_toArray, List.set_cons_zero, List.set_cons_succ]
    obtain ⟨u2, eU⟩ : ∃ z, z = ((((u1.setCell ⟨S, 0, none⟩ (.slice qa p.length qx)).setCell ⟨S, 1, none⟩ (.int .i64 pr)).setCell ⟨S, 2, none⟩ (.slice da c.length dx)).setCell ⟨S, 3, none⟩ (.int .i64 y)) := ⟨_, rfl⟩
    rw [← eU] at bR bS oB hp hc hq hd bA bT ⊢
    clear eU
    refine wpAnyH_done (by kernel_rfl) ?_ _
    have e0 := bR.c0
    have d0 := bS.c0
    have e1 := bR.c1
    have d1 := bS.c1
    have e2 := bR.c2
    have d2 := bS.c2
    have e3 := bR.c3
    have d3 := bS.c3
    go_wp2_with fail
    exact bodyPost_ret (v := .tuple #[.agg #[.slice pa p.length px, .int .i64 pr, .slice ca c.length cx, .int .i64 bw], .agg #[.slice qa p.length qx, .int .i64 pr, .slice da c.length dx, .int .i64 y]]) (by simp [results, Tryd.results15, go_sem, e0, e1, e2, e3, d0, d1, d2, d3]) rfl
      ⟨_, _, _, _, _, _, _, _, _, _, _, _, p, c, p, c, rfl, hp.rd hsp.bd, hc.rd hsc.bd, hq.rd hsp.bd, hd.rd hsc.bd, hpr, hbw, hpr, hy, by obtain ⟨_, _, e, h⟩ := hc.cap rfl; cases e; exact h, oB⟩
end Go.Proofs.YtcmbajphholliabDoor
