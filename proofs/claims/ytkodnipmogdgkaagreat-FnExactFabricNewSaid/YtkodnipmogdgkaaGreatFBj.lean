/-
  Copies of fabrics, of the program. Conditions: those in each contract.
  Copies of messages and of lists of them, of the model. Conditions: those in each contract.
  Copies of fabrics, of the model. Conditions: those in each contract.
-/
import Derived.Test.YtkodnipmogdgkaaGreatFBi
namespace Go.Proofs.YtkodnipmogdgkaaGreat
open Go.ChangeShapes Go.WideShapes Go.ChangeAt Go.RowKit Go.BigFrame Go.Joins
open List (setIfInBounds_toArray set_cons_succ set_cons_zero)
set_option linter.unusedVariables false
set_option maxRecDepth 100000
set_option maxRecDepth 100000
set_option linter.unusedSimpArgs false
set_option maxRecDepth 100000

set_option maxHeartbeats 4000000 in
theorem ifcopy_any (nv lv : Value) (x : Fb) (w : World) (h : RdF w nv lv x) (hw : wtF x ≤ 1048576) :
  Calls Tryz.prog 36 #[.agg #[nv, lv, .int .i64 x.width]] w fun e w' => ∃ nv lv, e = .returned (.agg #[nv, lv, .int .i64 x.width]) ∧ OwF w' (Rg w.heap.size w'.heap.size) nv lv x ∧ Below w.heap.size w w' := by
 obtain ⟨hN, hL⟩ := h; unfold wtF at hw; obtain ⟨na, nc, rfl, hc⟩ := hN.el; obtain ⟨la, lc, rfl, hd⟩ := hL.el; obtain ⟨n, hn⟩ : ∃ n, n = x.nodes.length := ⟨_, rfl⟩; obtain ⟨m, hm⟩ : ∃ n, n = x.links.length := ⟨_, rfl⟩; rw [← hn] at hc hw ⊢; rw [← hm] at hd hw ⊢; have hnn : n ≤ 1048576 ∧ m ≤ 1048576 := by omega
 have HN := Lib.hid hn; have HM := Lib.hid hm; have HW := Lib.hid hw; have HD := Lib.hid hd; clear hN hL hn hm hw hd; obtain ⟨bA, bR, bO, B0, z⟩ := three w [.slice na n nc, .slice la m lc, .int .i64 x.width] [.slice none 0 0, .slice none 0 0, .int .i64 0] [.slice none 0 0, .slice none 0 0, .int .i64 x.width] 30 30 30; have a0 := bA.c 0 rfl; have a2 := bA.c 2 rfl
 go_enter Tryz.func36, Tryz.ntmps36
 go_wp2; clear a0 a2; obtain ⟨W1, hW⟩ : ∃ W1, W1 = ((w.alloc (.cells #[.slice na n nc, .slice la m lc, .int .i64 x.width] 30)).alloc (.cells #[.slice none 0 0, .slice none 0 0, .int .i64 0] 30)).alloc (.cells #[.slice none 0 0, .slice none 0 0, .int .i64 x.width] 30) := ⟨_, rfl⟩; rw [← hW] at bA bR bO B0 z ⊢; obtain ⟨A, hA⟩ : ∃ A, A = w.heap.size := ⟨_, rfl⟩; obtain ⟨R, hR⟩ : ∃ R, R = w.heap.size + 1 := ⟨_, rfl⟩; obtain ⟨O, hO⟩ : ∃ O, O = w.heap.size + 1 + 1 := ⟨_, rfl⟩; rw [← hA] at bA; rw [← hR] at bR; rw [← hO] at bO
 try rw [← hO]
 try rw [← hR]
 try rw [← hA]
 have hwA : w.heap.size ≤ A := by omega
 have hwR : w.heap.size ≤ R := by omega
 have hwO : w.heap.size ≤ O := by omega
 have hAO : A ≠ O := by omega
 have hRO : R ≠ O := by omega
 have hAR : A ≠ R := by omega
 have hAW : A < W1.heap.size := by rw [z]; omega
 have hRW : R < W1.heap.size := by rw [z]; omega
 have hOW : O < W1.heap.size := by rw [z]; omega
 have hwW : w.heap.size ≤ W1.heap.size := B0.size; clear hA hR hO hW z
 go_loopw [14] (fun q wr => ∃ k : Nat, k ≤ n ∧ q = .int .i64 k ∧ ∃ (v2 : Value) (xs : List Value), GrNS wr W1.heap.size v2 (x.nodes.take k) xs ∧ Bl wr O [v2, .slice none 0 0, .int .i64 x.width] ∧ Bl wr R [.slice none 0 0, .slice none 0 0, .int .i64 0] ∧ Bl wr A [.slice na n nc, .slice la m lc, .int .i64 x.width] ∧ Below w.heap.size w wr ∧ W1.heap.size ≤ wr.heap.size) (fun q _ => n - (intOf q).toNat)
 case atStart => exact ⟨0, Nat.zero_le _, rfl, _, [], by simpa using GrNS.nil _ _, bO, bR, bA, B0, Nat.le_refl _⟩
 case round =>
  obtain ⟨k, hk, rfl, v2, xs, hG, bO1, bR1, bA1, hB, hsz⟩ := hrel
  by_cases hlt : k < n
  ·have hltI : (k : Int) < (n : Int) := by omega
   obtain ⟨b, o, rfl, hE⟩ := hc k hlt; obtain ⟨y, hy⟩ : ∃ y, x.nodes.getD k n0 = y := ⟨_, rfl⟩; rw [hy] at hE
   have hwy : wtN y ≤ 1048576 := by
    have h1 := wtN_at (L := x.nodes) (j := k) (by rw [← HN.out]; exact hlt); rw [hy] at h1; have := HW.out
    omega
   have HTK : Hid (x.nodes.take (k + 1) = x.nodes.take k ++ [y]) := Lib.hid (by
    rw [List.take_succ_eq_append_getElem (by rw [← HN.out]; exact hlt)]; rw [← hy]
    simp [List.getD, show k < x.nodes.length by rw [← HN.out]; exact hlt])
   have HLK : Hid ((x.nodes.take k).length = k) := Lib.hid (by rw [List.length_take]; have := HN.out; omega); have HLK1 : Hid ((x.nodes.take (k + 1)).length = k + 1) := Lib.hid (by rw [List.length_take]; have := HN.out; omega); obtain ⟨ov, rv, sv, hr, g0, g1, g2, g3, g4, g5⟩ := hE.keep hB; have hbd : BdN y := hr.bd; obtain ⟨oa, ox, rfl⟩ := hr.1.len; obtain ⟨ra, rx, rfl⟩ := hr.2.1.len; obtain ⟨sa, sx, rfl⟩ := hr.2.2.len; have bP := Bl.new wr [.int .i64 y.an, .slice oa y.own.length ox, .int .i64 y.bw, .bool y.dr, .slice ra y.rib.length rx, .slice sa y.sent.length sx] 58 wr.heap.size rfl; have A1 : Below wr.heap.size wr (wr.alloc (.cells #[.int .i64 y.an, .slice oa y.own.length ox, .int .i64 y.bw, .bool y.dr, .slice ra y.rib.length rx, .slice sa y.sent.length sx] 58)) := (Below.refl _ _).alloc (Nat.le_refl _) _; have hr1 := hr.keep A1; have o0 := (bO1.keep A1).c 0 rfl; have p0 := bP.c 0 rfl; have p1 := bP.c 1 rfl; have p2 := bP.c 2 rfl; have p3 := bP.c 3 rfl; have p4 := bP.c 4 rfl; have p5 := bP.c 5 rfl; have HC := Lib.hid hc; clear hy hc hE; go_wp2_with fail; clear p0 p1 p2 p3 p4 p5 o0; obtain ⟨V, hV⟩ : ∃ V, V = wr.alloc (.cells #[.int .i64 y.an, .slice oa y.own.length ox, .int .i64 y.bw, .bool y.dr, .slice ra y.rib.length rx, .slice sa y.sent.length sx] 58) := ⟨_, rfl⟩; have hVs : wr.heap.size < V.heap.size := by rw [hV]; simp
   rw [← hV] at bP A1 hr1 ⊢; obtain ⟨P, hP⟩ : ∃ P, P = wr.heap.size := ⟨_, rfl⟩; rw [← hP] at bP ⊢; have hOP : O ≠ P := by have := bO1.lt; omega
   have hG1 := hG.keep A1; have hB1 := below_step hB A1; replace bO1 := bO1.keep A1; replace bR1 := bR1.keep A1; replace bA1 := bA1.keep A1; have hsV : W1.heap.size ≤ V.heap.size := by omega
   have hneP : some P ≠ v2.ownBlock := fun q => by
    have := (World.ownsRow.lt hG.row P q.symm).2
    omega
   clear hV hP A1 hVs hsz hG g0 g1 g2 g3 g4 g5 hr; refine wp_region_held_drew (S := fun w' => Bl w' P [.int .i64 y.an, .slice oa y.own.length ox, .int .i64 y.bw, .bool y.dr, .slice ra y.rib.length rx, .slice sa y.sent.length sx]) (by kernel_rfl) (bP.keep (over_drew _)) (fun hHeld => ?_); clear hHeld; obtain ⟨D, hD⟩ : ∃ D, D = V.drew := ⟨_, rfl⟩; have OD : Over V D := by rw [hD]; exact over_drew _
   rw [← hD]; clear hD; have bPD := bP.keep OD; have hSD := bPD; refine tk 0 18 (v := ?_) hSD ?_ ?_; rotate_left
   ·intro wq hSq
    go_simp
    try rfl
   simp only [Act.put, setIfInBounds_toArray, set_cons_succ, set_cons_zero]; refine tk 2 20 (v := ?_) hSD ?_ ?_; rotate_left
   ·intro wq hSq
    have q0 := hSq.c 0 rfl; have q1 := hSq.c 1 rfl; have q2 := hSq.c 2 rfl; have q3 := hSq.c 3 rfl; have q4 := hSq.c 4 rfl; have q5 := hSq.c 5 rfl
    go_simp
    try rfl
   simp only [Act.put, setIfInBounds_toArray, set_cons_succ, set_cons_zero]; clear hSD; refine wpAnyH_ready (rs := [1, 3]) (by kernel_rfl) (by simp) ?_; refine (AllReadyH.cons rfl (fun K hK => ?_) (AllReadyH.cons rfl (fun K hK => ?_) AllReadyH.nil))
   ·have q := (bO1.keep OD).c 0 rfl
    go_simp
    refine hK.out _ _ bPD (fun hHeld => ?_); clear hK K hHeld q
    try simp only [Act.put, setIfInBounds_toArray, set_cons_succ, set_cons_zero]
    refine rd1 3 fun K hK => ?_
    go_simp
    refine (icopy8_any _ _ _ y D (hr1.keep OD) hwy).mono ?_; rintro e w1 ⟨n1, n2, n3, T1, T2, b0, h1, h2, rfl, hT, eT1, eT2, hb0, B2⟩; have oN := ndT_own hT eT1 eT2 hbd hwy; obtain ⟨⟨i1, j1, rfl⟩, ⟨i2, j2, rfl⟩, ⟨i3, j3, rfl⟩⟩ := hT.lens; clear hT eT1 eT2; refine hK.out _ _ (bPD.keep B2) (fun hHeld => ?_); clear hK K hHeld
    try simp only [Act.put, setIfInBounds_toArray, set_cons_succ, set_cons_zero]
    refine rd1 4 fun K hK => ?_
    go_simp
    have bN := Bl.new w1 [.int .i64 y.an, .slice i1 y.own.length j1, .int .i64 y.bw, .bool y.dr, .slice i2 T1.length j2, .slice i3 T2.length j3] 58 w1.heap.size rfl; have N1 : Below w1.heap.size w1 (w1.alloc (.cells #[.int .i64 y.an, .slice i1 y.own.length j1, .int .i64 y.bw, .bool y.dr, .slice i2 T1.length j2, .slice i3 T2.length j3] 58)) := (Below.refl _ _).alloc (Nat.le_refl _) _; have zN : w1.heap.size < (w1.alloc (.cells #[.int .i64 y.an, .slice i1 y.own.length j1, .int .i64 y.bw, .bool y.dr, .slice i2 T1.length j2, .slice i3 T2.length j3] 58)).heap.size := by simp
    have B3 : Below D.heap.size D (w1.alloc (.cells #[.int .i64 y.an, .slice i1 y.own.length j1, .int .i64 y.bw, .bool y.dr, .slice i2 T1.length j2, .slice i3 T2.length j3] 58)) := below_step B2 N1; refine hK.out _ _ (bPD.keep B3) (fun hHeld => ?_); clear hK K hHeld
    try simp only [Act.put, setIfInBounds_toArray, set_cons_succ, set_cons_zero]
    refine rd1 5 fun K hK => ?_
    have hG2 := hG1.keep OD; have hWD : W1.heap.size ≤ D.heap.size := Nat.le_trans hsV OD.size; have hG3 := hG2.keep B3; refine step_apN rfl (.tmp 19) (.tmp 22) rfl W1.heap.size w1.heap.size 1 v2 (x.nodes.take k).length xs [.int .i64 y.an, .slice i1 y.own.length j1, .int .i64 y.bw, .bool y.dr, .slice i2 T1.length j2, .slice i3 T2.length j3] rfl rfl hG3.row bN rfl (by simp [Value.oneCell']) (by rw [HLK.out]; omega) (Nat.le_trans hWD B3.size) ?_; intro v3 w3 hrow hg hor; have hGn := hG2.step hWD B3 (oN.agr (.of_below N1)) (fun b q => ⟨Nat.le_trans hb0 q.1, Nat.lt_trans q.2 zN⟩) hrow hg hor; rw [← HTK.out] at hGn; have hB3 : Below w.heap.size w w3 := below_grN (below_step (below_step hB1 OD) B3) hG3 hwW hg; have bO3 := ((bO1.keep OD).keep B3).grown hg (ne_grN hG3 hOW); have bP3 := (bPD.keep B3).grown hg hneP; have bR3 := ((bR1.keep OD).keep B3).grown hg (ne_grN hG3 hRW); have bA3 := ((bA1.keep OD).keep B3).grown hg (ne_grN hG3 hAW); have hs3 := Nat.le_trans hWD (Nat.le_trans B3.size hg.size); clear hg hrow hor hG2 hG3
    obtain ⟨x3, y3, rfl⟩ : ∃ x3 y3, v3 = .slice x3 (k + 1) y3 := by
     obtain ⟨x3, y3, e3⟩ := hGn.lenV
     exact ⟨x3, y3, by rw [e3, HLK1.out]⟩
    refine hK.out _ _ bP3 (fun hHeld => ?_); clear hK K hHeld
    try simp only [Act.put, setIfInBounds_toArray, set_cons_succ, set_cons_zero]
    refine rd1 6 fun K hK => ?_
    go_simp
    refine hK.out _ _ bP3 (fun hHeld => ?_); clear hK K hHeld
    try simp only [Act.put, setIfInBounds_toArray, set_cons_succ, set_cons_zero]
    refine rd1 7 fun K hK => ?_
    have of0 := bO3.f 0 rfl; have o0 := bO3.c 0 rfl
    go_simp
    refine hK.out _ _ (bP3.far hOP.symm) (fun hHeld => ?_); clear hK K hHeld o0 of0
    try simp only [Act.put, setIfInBounds_toArray, set_cons_succ, set_cons_zero]
    refine wpAnyH_done (by kernel_rfl) ?_ _; go_wp2
    go_roundw
    case rel => exact ⟨k + 1, by omega, by go_num, _, _, hGn.far hOW, bO3.set 0 _, bR3.far hRO, bA3.far hAO, hB3.setCell (p := ⟨O, 0, none⟩) hwO _, by simpa using hs3⟩
    case measure => simp [intOf]; omega
   ·go_simp
    refine (icopy8_any _ _ _ y D (hr1.keep OD) hwy).mono ?_; rintro e w1 ⟨n1, n2, n3, T1, T2, b0, h1, h2, rfl, hT, eT1, eT2, hb0, B2⟩; have oN := ndT_own hT eT1 eT2 hbd hwy; obtain ⟨⟨i1, j1, rfl⟩, ⟨i2, j2, rfl⟩, ⟨i3, j3, rfl⟩⟩ := hT.lens; clear hT eT1 eT2; refine hK.out _ _ (bPD.keep B2) (fun hHeld => ?_); clear hK K hHeld
    try simp only [Act.put, setIfInBounds_toArray, set_cons_succ, set_cons_zero]
    refine wpAnyH_ready (rs := [1, 4]) (by kernel_rfl) (by simp) ?_; refine (AllReadyH.cons rfl (fun K hK => ?_) (AllReadyH.cons rfl (fun K hK => ?_) AllReadyH.nil))
    ·have q := ((bO1.keep OD).keep B2).c 0 rfl
     go_simp
     refine hK.out _ _ (bPD.keep B2) (fun hHeld => ?_); clear hK K hHeld q
     try simp only [Act.put, setIfInBounds_toArray, set_cons_succ, set_cons_zero]
     refine rd1 4 fun K hK => ?_
     go_simp
     have bN := Bl.new w1 [.int .i64 y.an, .slice i1 y.own.length j1, .int .i64 y.bw, .bool y.dr, .slice i2 T1.length j2, .slice i3 T2.length j3] 58 w1.heap.size rfl; have N1 : Below w1.heap.size w1 (w1.alloc (.cells #[.int .i64 y.an, .slice i1 y.own.length j1, .int .i64 y.bw, .bool y.dr, .slice i2 T1.length j2, .slice i3 T2.length j3] 58)) := (Below.refl _ _).alloc (Nat.le_refl _) _; have zN : w1.heap.size < (w1.alloc (.cells #[.int .i64 y.an, .slice i1 y.own.length j1, .int .i64 y.bw, .bool y.dr, .slice i2 T1.length j2, .slice i3 T2.length j3] 58)).heap.size := by simp
     have B3 : Below D.heap.size D (w1.alloc (.cells #[.int .i64 y.an, .slice i1 y.own.length j1, .int .i64 y.bw, .bool y.dr, .slice i2 T1.length j2, .slice i3 T2.length j3] 58)) := below_step B2 N1; refine hK.out _ _ (bPD.keep B3) (fun hHeld => ?_); clear hK K hHeld
     try simp only [Act.put, setIfInBounds_toArray, set_cons_succ, set_cons_zero]
     refine rd1 5 fun K hK => ?_
     have hG2 := hG1.keep OD; have hWD : W1.heap.size ≤ D.heap.size := Nat.le_trans hsV OD.size; have hG3 := hG2.keep B3; refine step_apN rfl (.tmp 19) (.tmp 22) rfl W1.heap.size w1.heap.size 1 v2 (x.nodes.take k).length xs [.int .i64 y.an, .slice i1 y.own.length j1, .int .i64 y.bw, .bool y.dr, .slice i2 T1.length j2, .slice i3 T2.length j3] rfl rfl hG3.row bN rfl (by simp [Value.oneCell']) (by rw [HLK.out]; omega) (Nat.le_trans hWD B3.size) ?_; intro v3 w3 hrow hg hor; have hGn := hG2.step hWD B3 (oN.agr (.of_below N1)) (fun b q => ⟨Nat.le_trans hb0 q.1, Nat.lt_trans q.2 zN⟩) hrow hg hor; rw [← HTK.out] at hGn; have hB3 : Below w.heap.size w w3 := below_grN (below_step (below_step hB1 OD) B3) hG3 hwW hg; have bO3 := ((bO1.keep OD).keep B3).grown hg (ne_grN hG3 hOW); have bP3 := (bPD.keep B3).grown hg hneP; have bR3 := ((bR1.keep OD).keep B3).grown hg (ne_grN hG3 hRW); have bA3 := ((bA1.keep OD).keep B3).grown hg (ne_grN hG3 hAW); have hs3 := Nat.le_trans hWD (Nat.le_trans B3.size hg.size); clear hg hrow hor hG2 hG3
     obtain ⟨x3, y3, rfl⟩ : ∃ x3 y3, v3 = .slice x3 (k + 1) y3 := by
      obtain ⟨x3, y3, e3⟩ := hGn.lenV
      exact ⟨x3, y3, by rw [e3, HLK1.out]⟩
     refine hK.out _ _ bP3 (fun hHeld => ?_); clear hK K hHeld
     try simp only [Act.put, setIfInBounds_toArray, set_cons_succ, set_cons_zero]
     refine rd1 6 fun K hK => ?_
     go_simp
     refine hK.out _ _ bP3 (fun hHeld => ?_); clear hK K hHeld
     try simp only [Act.put, setIfInBounds_toArray, set_cons_succ, set_cons_zero]
     refine rd1 7 fun K hK => ?_
     have of0 := bO3.f 0 rfl; have o0 := bO3.c 0 rfl
     go_simp
     refine hK.out _ _ (bP3.far hOP.symm) (fun hHeld => ?_); clear hK K hHeld o0 of0
     try simp only [Act.put, setIfInBounds_toArray, set_cons_succ, set_cons_zero]
     refine wpAnyH_done (by kernel_rfl) ?_ _; go_wp2
     go_roundw
     case rel => exact ⟨k + 1, by omega, by go_num, _, _, hGn.far hOW, bO3.set 0 _, bR3.far hRO, bA3.far hAO, hB3.setCell (p := ⟨O, 0, none⟩) hwO _, by simpa using hs3⟩
     case measure => simp [intOf]; omega
    ·go_simp
     have bN := Bl.new w1 [.int .i64 y.an, .slice i1 y.own.length j1, .int .i64 y.bw, .bool y.dr, .slice i2 T1.length j2, .slice i3 T2.length j3] 58 w1.heap.size rfl; have N1 : Below w1.heap.size w1 (w1.alloc (.cells #[.int .i64 y.an, .slice i1 y.own.length j1, .int .i64 y.bw, .bool y.dr, .slice i2 T1.length j2, .slice i3 T2.length j3] 58)) := (Below.refl _ _).alloc (Nat.le_refl _) _; have zN : w1.heap.size < (w1.alloc (.cells #[.int .i64 y.an, .slice i1 y.own.length j1, .int .i64 y.bw, .bool y.dr, .slice i2 T1.length j2, .slice i3 T2.length j3] 58)).heap.size := by simp
     have B3 : Below D.heap.size D (w1.alloc (.cells #[.int .i64 y.an, .slice i1 y.own.length j1, .int .i64 y.bw, .bool y.dr, .slice i2 T1.length j2, .slice i3 T2.length j3] 58)) := below_step B2 N1; refine hK.out _ _ (bPD.keep B3) (fun hHeld => ?_); clear hK K hHeld
     try simp only [Act.put, setIfInBounds_toArray, set_cons_succ, set_cons_zero]
     refine rd1 1 fun K hK => ?_
     have q := ((bO1.keep OD).keep B3).c 0 rfl
     go_simp
     refine hK.out _ _ (bPD.keep B3) (fun hHeld => ?_); clear hK K hHeld q
     try simp only [Act.put, setIfInBounds_toArray, set_cons_succ, set_cons_zero]
     refine rd1 5 fun K hK => ?_
     have hG2 := hG1.keep OD; have hWD : W1.heap.size ≤ D.heap.size := Nat.le_trans hsV OD.size; have hG3 := hG2.keep B3; refine step_apN rfl (.tmp 19) (.tmp 22) rfl W1.heap.size w1.heap.size 1 v2 (x.nodes.take k).length xs [.int .i64 y.an, .slice i1 y.own.length j1, .int .i64 y.bw, .bool y.dr, .slice i2 T1.length j2, .slice i3 T2.length j3] rfl rfl hG3.row bN rfl (by simp [Value.oneCell']) (by rw [HLK.out]; omega) (Nat.le_trans hWD B3.size) ?_; intro v3 w3 hrow hg hor; have hGn := hG2.step hWD B3 (oN.agr (.of_below N1)) (fun b q => ⟨Nat.le_trans hb0 q.1, Nat.lt_trans q.2 zN⟩) hrow hg hor; rw [← HTK.out] at hGn; have hB3 : Below w.heap.size w w3 := below_grN (below_step (below_step hB1 OD) B3) hG3 hwW hg; have bO3 := ((bO1.keep OD).keep B3).grown hg (ne_grN hG3 hOW); have bP3 := (bPD.keep B3).grown hg hneP; have bR3 := ((bR1.keep OD).keep B3).grown hg (ne_grN hG3 hRW); have bA3 := ((bA1.keep OD).keep B3).grown hg (ne_grN hG3 hAW); have hs3 := Nat.le_trans hWD (Nat.le_trans B3.size hg.size); clear hg hrow hor hG2 hG3
     obtain ⟨x3, y3, rfl⟩ : ∃ x3 y3, v3 = .slice x3 (k + 1) y3 := by
      obtain ⟨x3, y3, e3⟩ := hGn.lenV
      exact ⟨x3, y3, by rw [e3, HLK1.out]⟩
     refine hK.out _ _ bP3 (fun hHeld => ?_); clear hK K hHeld
     try simp only [Act.put, setIfInBounds_toArray, set_cons_succ, set_cons_zero]
     refine rd1 6 fun K hK => ?_
     go_simp
     refine hK.out _ _ bP3 (fun hHeld => ?_); clear hK K hHeld
     try simp only [Act.put, setIfInBounds_toArray, set_cons_succ, set_cons_zero]
     refine rd1 7 fun K hK => ?_
     have of0 := bO3.f 0 rfl; have o0 := bO3.c 0 rfl
     go_simp
     refine hK.out _ _ (bP3.far hOP.symm) (fun hHeld => ?_); clear hK K hHeld o0 of0
     try simp only [Act.put, setIfInBounds_toArray, set_cons_succ, set_cons_zero]
     refine wpAnyH_done (by kernel_rfl) ?_ _; go_wp2
     go_roundw
     case rel => exact ⟨k + 1, by omega, by go_num, _, _, hGn.far hOW, bO3.set 0 _, bR3.far hRO, bA3.far hAO, hB3.setCell (p := ⟨O, 0, none⟩) hwO _, by simpa using hs3⟩
     case measure => simp [intOf]; omega
  ·have hkn : n = k := by omega
   subst hkn; obtain ⟨Wm, hm⟩ : ∃ W : World, W = wr := ⟨_, rfl⟩; subst hm; clear hc hlt hk; have oNS := hG.own (by rw [List.length_take]; omega)
   obtain ⟨i0, j0, rfl⟩ : ∃ i0 j0, v2 = .slice i0 n j0 := by
    obtain ⟨i0, j0, e⟩ := hG.lenV
    exact ⟨i0, j0, by rw [e, HN.out, List.take_length]⟩
   rw [HN.out, List.take_length, ← HN.out] at oNS; clear hG; have a1 := bA1.c 1 rfl; have hd := HD.out; go_wp2; clear a1
   go_loopw [29] (fun q wr => ∃ k : Nat, k ≤ m ∧ q = .int .i64 k ∧ ∃ (v3 : Value) (ys : List Value), GrLS wr Wm.heap.size v3 (x.links.take k) ys ∧ OwNS wr (Rg W1.heap.size Wm.heap.size) (.slice i0 n j0) x.nodes ∧ Bl wr O [.slice i0 n j0, v3, .int .i64 x.width] ∧ Bl wr R [.slice none 0 0, .slice none 0 0, .int .i64 0] ∧ Bl wr A [.slice na n nc, .slice la m lc, .int .i64 x.width] ∧ Below w.heap.size w wr ∧ Wm.heap.size ≤ wr.heap.size) (fun q _ => m - (intOf q).toNat)
   case atStart => exact ⟨0, Nat.zero_le _, rfl, _, [], by simpa using GrLS.nil _ _, oNS, bO1, bR1, bA1, hB, Nat.le_refl _⟩
   case round =>
    clear oNS bO1 bR1 bA1
    try clear HD
    obtain ⟨k, hk, rfl, v3, ys, hG, oNS, bO1, bR1, bA1, hB, hst⟩ := hrel
    by_cases hlt : k < m
    ·have hltI : (k : Int) < (m : Int) := by omega
     obtain ⟨b, o, rfl, hE⟩ := hd k hlt; obtain ⟨y, hy⟩ : ∃ y, x.links.getD k l0 = y := ⟨_, rfl⟩; rw [hy] at hE
     have hwy : wtL y ≤ 1048576 := by
      have h1 := wtL_at (L := x.links) (j := k) (by rw [← HM.out]; exact hlt); rw [hy] at h1; have := HW.out
      omega
     have hl2 : y.ab.length + wtMS y.ab ≤ 1048576 ∧ y.ba.length + wtMS y.ba ≤ 1048576 := by unfold wtL at hwy; omega
     have HTK : Hid (x.links.take (k + 1) = x.links.take k ++ [y]) := Lib.hid (by
      rw [List.take_succ_eq_append_getElem (by rw [← HM.out]; exact hlt)]; rw [← hy]
      simp [List.getD, show k < x.links.length by rw [← HM.out]; exact hlt])
     have HLK : Hid ((x.links.take k).length = k) := Lib.hid (by rw [List.length_take]; have := HM.out; omega); have HLK1 : Hid ((x.links.take (k + 1)).length = k + 1) := Lib.hid (by rw [List.length_take]; have := HM.out; omega); obtain ⟨av, bv, ⟨r0, r1⟩, g0, g1, g2, g3, g4, g5, g6⟩ := hE.keep hB; obtain ⟨pa, px, rfl⟩ := r0.len; obtain ⟨qa, qx, rfl⟩ := r1.len; have bP := Bl.new wr [.int .i64 y.a, .int .i64 y.ai, .int .i64 y.b, .int .i64 y.bi, .bool y.up, .slice pa y.ab.length px, .slice qa y.ba.length qx] 70 wr.heap.size rfl; have A1 : Below wr.heap.size wr (wr.alloc (.cells #[.int .i64 y.a, .int .i64 y.ai, .int .i64 y.b, .int .i64 y.bi, .bool y.up, .slice pa y.ab.length px, .slice qa y.ba.length qx] 70)) := (Below.refl _ _).alloc (Nat.le_refl _) _; have z : (wr.alloc (.cells #[.int .i64 y.a, .int .i64 y.ai, .int .i64 y.b, .int .i64 y.bi, .bool y.up, .slice pa y.ab.length px, .slice qa y.ba.length qx] 70)).heap.size = wr.heap.size + 1 := by simp
     have p5 := bP.c 5 rfl; have HC := Lib.hid hd; clear hy hd hE; go_wp2_with fail; clear p5 g0 g1 g2 g3 g4 g5 g6; obtain ⟨V, hV⟩ : ∃ V, V = wr.alloc (.cells #[.int .i64 y.a, .int .i64 y.ai, .int .i64 y.b, .int .i64 y.bi, .bool y.up, .slice pa y.ab.length px, .slice qa y.ba.length qx] 70) := ⟨_, rfl⟩; rw [← hV] at bP A1 z ⊢; clear hV; obtain ⟨P, hP⟩ : ∃ P, P = wr.heap.size := ⟨_, rfl⟩; rw [← hP] at bP z ⊢; have hPw : wr.heap.size ≤ P := by omega
     have hPV : P < V.heap.size := by omega
     have hOP : O ≠ P := by have := bO1.lt; omega
     clear hP; refine (icm_any _ y.ab V (r0.keep A1) hl2.1).mono ?_; rintro e w2 ⟨u1, rfl, s1, hb⟩; obtain ⟨i1, j1, rfl⟩ := s1.rd.len; have hs2 := hb.size; replace bP := bP.keep hb; have B2 := below_step A1 hb; clear hb A1; have p5 := bP.c 5 rfl; have pf5 := bP.f 5 rfl; have p6 := bP.c 6 rfl; go_wp2_with fail; clear p5 pf5 p6; have bP2 := bP.set 5 (.slice i1 y.ab.length j1); have t1 := s1.agr (agr_setS (o := 5) (u := .slice i1 y.ab.length j1) w2 (fun q => by have := q.1; omega) (g := P)); have B3 := B2.setCell (p := ⟨P, 5, none⟩) hPw (.slice i1 y.ab.length j1); obtain ⟨W2, hW2⟩ : ∃ W, W = w2.setCell ⟨P, 5, none⟩ (.slice i1 y.ab.length j1) := ⟨_, rfl⟩; have hz2 : w2.heap.size = W2.heap.size := by rw [hW2]; simp
     rw [← hW2] at bP2 t1 B3 ⊢; clear hW2 bP s1 B2; simp only [List.set_cons_zero, List.set_cons_succ] at bP2; refine (icm_any _ y.ba W2 (r1.keep B3) hl2.2).mono ?_; rintro e w3 ⟨u2, rfl, s2, hb⟩; obtain ⟨i2, j2, rfl⟩ := s2.rd.len; have hs3 := hb.size; replace bP2 := bP2.keep hb; replace t1 := t1.agr (.of_below hb); have B4 := below_step B3 hb; clear hb B3; have p6 := bP2.c 6 rfl; have pf6 := bP2.f 6 rfl; have bP3 := bP2.set 6 (.slice i2 y.ba.length j2); have t2 := s2.agr (agr_setS (o := 6) (u := .slice i2 y.ba.length j2) w3 (fun q => by have := q.1; omega) (g := P)); have t3 := t1.agr (agr_setS (o := 6) (u := .slice i2 y.ba.length j2) w3 (fun q => by have := q.1; omega) (g := P)); have B5 := B4.setCell (p := ⟨P, 6, none⟩) hPw (.slice i2 y.ba.length j2); have p0 := bP2.c 0 rfl; have p1 := bP2.c 1 rfl; have p2 := bP2.c 2 rfl; have p3 := bP2.c 3 rfl; have p4 := bP2.c 4 rfl; have p5 := bP2.c 5 rfl; have o1 := (bO1.keep B4).c 1 rfl; go_wp2_with (at_builtin; refine Hid.out ?_); refine Lib.hid ?_; clear p0 p1 p2 p3 p4 p5 p6 pf6 o1; obtain ⟨W4, hW4⟩ : ∃ W, W = w3.setCell ⟨P, 6, none⟩ (.slice i2 y.ba.length j2) := ⟨_, rfl⟩; have hz4 : w3.heap.size = W4.heap.size := by rw [hW4]; simp
     rw [← hW4] at t2 t3 B5 ⊢
     try rw [hz4]
     clear hW4 t1 s2 B4 bP2 bP3; have bN := Bl.new W4 [.int .i64 y.a, .int .i64 y.ai, .int .i64 y.b, .int .i64 y.bi, .bool y.up, .slice i1 y.ab.length j1, .slice i2 y.ba.length j2] 70 W4.heap.size rfl; have N1 : Below W4.heap.size W4 (W4.alloc (.cells #[.int .i64 y.a, .int .i64 y.ai, .int .i64 y.b, .int .i64 y.bi, .bool y.up, .slice i1 y.ab.length j1, .slice i2 y.ba.length j2] 70)) := (Below.refl _ _).alloc (Nat.le_refl _) _; have z5 : (W4.alloc (.cells #[.int .i64 y.a, .int .i64 y.ai, .int .i64 y.b, .int .i64 y.bi, .bool y.up, .slice i1 y.ab.length j1, .slice i2 y.ba.length j2] 70)).heap.size = W4.heap.size + 1 := by simp
     have B7 := below_step B5 N1; replace t2 := t2.agr (.of_below N1); replace t3 := t3.agr (.of_below N1); obtain ⟨W5, hW5⟩ : ∃ W, W = W4.alloc (.cells #[.int .i64 y.a, .int .i64 y.ai, .int .i64 y.b, .int .i64 y.bi, .bool y.up, .slice i1 y.ab.length j1, .slice i2 y.ba.length j2] 70) := ⟨_, rfl⟩; rw [← hW5] at t2 t3 bN B7 z5 ⊢; clear hW5 N1 B5
     have hO : OwL W5 (Rg wr.heap.size W5.heap.size) (.slice i1 y.ab.length j1) (.slice i2 y.ba.length j2) y :=
      ⟨Rg V.heap.size w2.heap.size, Rg W2.heap.size w3.heap.size, fun b q => ⟨by have := q.1; omega, by have := q.2; omega⟩, fun b q => ⟨by have := q.1; omega, by have := q.2; omega⟩, fun b q r => by have := q.2; have := r.1; omega, t3, t2⟩
     clear t2 t3; have hG0 := hG.keep B7; have hbw : Wm.heap.size ≤ W5.heap.size := Nat.le_trans hst B7.size; have hW15 : W1.heap.size ≤ Wm.heap.size := hsz; refine wp_apL rfl (.tmp 42) (.tmp 44) rfl Wm.heap.size W4.heap.size 1 _ (x.links.take k).length ys [.int .i64 y.a, .int .i64 y.ai, .int .i64 y.b, .int .i64 y.bi, .bool y.up, .slice i1 y.ab.length j1, .slice i2 y.ba.length j2] rfl rfl hG0.row bN rfl (by simp [Value.oneCell']) (by rw [HLK.out]; omega) hbw ?_; intro v4 w6 hrow hg hor; have hGn := hG.step hst B7 hO (fun b q => q) hrow hg hor; have hBn := below_grL (below_step hB B7) hG0 (Nat.le_trans hwW hsz) hg; rw [← HTK.out] at hGn
     obtain ⟨x4, y4, rfl⟩ : ∃ x4 y4, v4 = .slice x4 (k + 1) y4 := by
      obtain ⟨x4, y4, e4⟩ := hGn.lenV
      exact ⟨x4, y4, by rw [e4, HLK1.out]⟩
     have bO3 := (bO1.keep B7).grown hg (ne_grL hG0 (by omega)); have bR3 := (bR1.keep B7).grown hg (ne_grL hG0 (by omega)); have bA3 := (bA1.keep B7).grown hg (ne_grL hG0 (by omega)); have oN1 := (oNS.agr (.of_below B7)).agr (⟨hg.size, fun i a l => hg.block i l (fun e => by have := (World.ownsRow.lt hG0.row i e.symm).1; have := a.2; omega)⟩ : AgrS (Rg W1.heap.size Wm.heap.size) W5 w6); have hs6 : Wm.heap.size ≤ w6.heap.size := Nat.le_trans hbw hg.size; clear hG hG0 hO hrow hg hor B7 hB bN bO1 bR1 bA1 oNS; have o1 := bO3.c 1 rfl; have of1 := bO3.f 1 rfl; go_wp2
     go_roundw
     case rel => exact ⟨k + 1, by omega, by go_num, _, _, hGn.far (by omega), oN1.agr (agr_setS w6 (fun q => by have := q.1; omega)), bO3.set 1 _, bR3.far hRO, bA3.far hAO, hBn.setCell (p := ⟨O, 1, none⟩) hwO _, by simpa using hs6⟩
     case measure => simp [intOf]; omega
    ·have hkm : m = k := by omega
     subst hkm; clear hd hlt hk; have oLS := hG.own (by rw [List.length_take]; omega)
     obtain ⟨i1, j1, rfl⟩ : ∃ i1 j1, v3 = .slice i1 m j1 := by
      obtain ⟨i1, j1, e⟩ := hG.lenV
      exact ⟨i1, j1, by rw [e, HM.out, List.take_length]⟩
     rw [HM.out, List.take_length, ← HM.out] at oLS; clear hG; have o0 := bO1.c 0 rfl; have o1 := bO1.c 1 rfl; have o2 := bO1.c 2 rfl; have r0 := bR1.c 0 rfl; have r1 := bR1.c 1 rfl; have r2 := bR1.c 2 rfl; have rf0 := bR1.f 0 rfl; have rf1 := bR1.f 1 rfl; have rf2 := bR1.f 2 rfl; go_wp2; have bE := ((bR1.set 0 (.slice i0 n j0)).set 1 (.slice i1 m j1)).set 2 (.int .i64 x.width); have e0 := bE.c 0 rfl; have e1 := bE.c 1 rfl; have e2 := bE.c 2 rfl; have hRr : ∀ lo hi : Nat, W1.heap.size ≤ lo → ¬ Rg lo hi R := fun lo hi hl q => by have := q.1; omega
     exact bodyPost_ret (v := .agg #[.slice i0 n j0, .slice i1 m j1, .int .i64 x.width]) (by simp [results, Tryz.results36, go_sem, e0, e1, e2]) rfl
      ⟨_, _, rfl, ⟨Rg W1.heap.size Wm.heap.size, Rg Wm.heap.size wr.heap.size, fun b q => ⟨by have := q.1; omega, by have := q.2; simp; omega⟩, fun b q => ⟨by have := q.1; omega, by have := q.2; simp; omega⟩, fun b q r => by have := q.2; have := r.1; omega,
       ((oNS.agr (agr_setS _ (hRr _ _ (Nat.le_refl _)))).agr (agr_setS _ (hRr _ _ (Nat.le_refl _)))).agr (agr_setS _ (hRr _ _ (Nat.le_refl _))), ((oLS.agr (agr_setS _ (hRr _ _ hsz))).agr (agr_setS _ (hRr _ _ hsz))).agr (agr_setS _ (hRr _ _ hsz))⟩,
       ((hB.setCell (p := ⟨R, 0, none⟩) hwR _).setCell (p := ⟨R, 1, none⟩) hwR _).setCell (p := ⟨R, 2, none⟩) hwR _⟩
end Go.Proofs.YtkodnipmogdgkaaGreat
namespace Go.Proofs.YtkodnipmogdgkaaGreat
open Go.ChangeShapes Go.WideShapes Go.ChangeAt Go.RowKit Go.BigFrame Go.Joins
set_option linter.unusedVariables false
set_option maxRecDepth 100000
set_option linter.unusedSimpArgs false
set_option maxRecDepth 100000

theorem OwM.mono {w : World} {S T : Nat → Prop} {gv cv pv mv : Value} {x : Mg} (h : OwM w S gv cv pv mv x) (hs : ∀ b, S b → T b) : OwM w T gv cv pv mv x := by
 obtain ⟨S0, S1, S2, S3, s0, s1, s2, s3, h⟩ := h
 exact ⟨S0, S1, S2, S3, fun b q => hs b (s0 b q), fun b q => hs b (s1 b q), fun b q => hs b (s2 b q), fun b q => hs b (s3 b q), h⟩
set_option maxHeartbeats 4000000 in
theorem sownM_any (gv cv pv mv : Value) (x : Mg) (w : World) (h : RdM w gv cv pv mv x) (hn : wtM x ≤ 1048576) :
  Calls Tryz.prog 128 #[.agg #[.int .i64 x.kn, .int .i64 x.sa, .int .i64 x.ho, .int .i64 x.ix, gv, cv, pv, .int .i64 x.pr, mv, .int .i64 x.bw, .int .i64 x.er]] w fun e w' => ∃ gv cv pv mv, e = .returned (.agg #[.int .i64 x.kn, .int .i64 x.sa, .int .i64 x.ho, .int .i64 x.ix, gv, cv, pv, .int .i64 x.pr, mv, .int .i64 x.bw, .int .i64 x.er]) ∧ OwM w' (Rg w.heap.size w'.heap.size) gv cv pv mv x ∧ Below w.heap.size w w' := by
 obtain ⟨r0, r1, r2, r3⟩ := h; obtain ⟨ga, gx, rfl⟩ := r0.len; obtain ⟨ca, cx, rfl⟩ := r1.len; obtain ⟨pa, px, rfl⟩ := r2.len; obtain ⟨ma, mx, rfl⟩ := r3.len; have hl4 : x.gs.length ≤ 1048576 ∧ x.cs.length ≤ 1048576 ∧ x.ps.length ≤ 1048576 ∧ x.ms.length ≤ 1048576 := by unfold wtM at hn; omega
 obtain ⟨bA, bR, B1, z⟩ := two w [.int .i64 x.kn, .int .i64 x.sa, .int .i64 x.ho, .int .i64 x.ix, .slice ga x.gs.length gx, .slice ca x.cs.length cx, .slice pa x.ps.length px, .int .i64 x.pr, .slice ma x.ms.length mx, .int .i64 x.bw, .int .i64 x.er] [.int .i64 0, .int .i64 0, .int .i64 0, .int .i64 0, .slice none 0 0, .slice none 0 0, .slice none 0 0, .int .i64 0, .slice none 0 0, .int .i64 0, .int .i64 0] 157 157; obtain ⟨V, hV⟩ : ∃ V, V = (w.alloc (.cells #[.int .i64 x.kn, .int .i64 x.sa, .int .i64 x.ho, .int .i64 x.ix, .slice ga x.gs.length gx, .slice ca x.cs.length cx, .slice pa x.ps.length px, .int .i64 x.pr, .slice ma x.ms.length mx, .int .i64 x.bw, .int .i64 x.er] 157)).alloc (.cells #[.int .i64 0, .int .i64 0, .int .i64 0, .int .i64 0, .slice none 0 0, .slice none 0 0, .slice none 0 0, .int .i64 0, .slice none 0 0, .int .i64 0, .int .i64 0] 157) := ⟨_, rfl⟩; have a4 := bA.c 4 rfl; clear hn
 go_enter Tryz.func128, Tryz.ntmps128
 go_wp2_with (at_builtin; refine Hid.out ?_); refine Lib.hid ?_; rw [← hV] at bA bR B1 z ⊢; obtain ⟨A, hA⟩ : ∃ A, A = w.heap.size := ⟨_, rfl⟩; obtain ⟨R, hR⟩ : ∃ R, R = w.heap.size + 1 := ⟨_, rfl⟩; rw [← hA] at bA; rw [← hR] at bR; rw [← hR]
 try rw [← hA]
 have hAR : A ≠ R := by omega
 have hwA : w.heap.size ≤ A := by omega
 have hwR : w.heap.size ≤ R := by omega
 have hAV : A < V.heap.size := by rw [z]; omega
 have hRV : R < V.heap.size := by rw [z]; omega
 have hwV : w.heap.size ≤ V.heap.size := by omega
 have hVA : A + 2 = V.heap.size := by omega
 clear hV hA hR z a4; obtain ⟨bZ, N0, z0⟩ := one V ([] : List Value) PT
 have hem : OwnP (V.alloc (.cells #[] PT)) V.heap.size (.slice (some ⟨A + 2, 0, none⟩) 0 0) [] := by
  rw [hVA]
  exact World.ownsRow_lit (e := PT) (size := 2) V #[] 0 (Nat.le_refl _) (by simp) (by simp)
 refine wp_appPS rfl _ _ rfl V.heap.size (.slice (some ⟨A + 2, 0, none⟩) 0 0) (.slice ga x.gs.length gx) [] x.gs rfl rfl hem ((r0.keep B1).keep N0) (by simp; omega) (Nat.le_trans (Nat.le_refl _) N0.size) ?_; intro v1 w1 ho1 hg1; rw [List.nil_append] at ho1; obtain ⟨g1, y1, rfl⟩ := ho1.lenS8; replace bA := (bA.keep N0).grown hg1 (by simp [Value.ownBlock]); replace bR := (bR.keep N0).grown hg1 (by simp [Value.ownBlock]; omega); have B2 : Below w.heap.size w w1 := Below.grown (below_step B1 N0) hg1 (below_step B1 N0).size (fun k hk => by simp [Value.ownBlock] at hk; omega); have hs1 : V.heap.size ≤ w1.heap.size := Nat.le_trans N0.size hg1.size; clear hg1 B1 hem bZ N0 z0; have p4 := bA.c 4 rfl; have pf4 := bA.f 4 rfl; have p5 := bA.c 5 rfl; have lA := bA.lt; go_wp2_with (at_builtin; refine Hid.out ?_); refine Lib.hid ?_; clear p4 pf4 p5 lA; have bA2 := bA.set 4 (.slice g1 x.gs.length y1); have bR2 := bR.far (o := 4) (u := .slice g1 x.gs.length y1) hAR.symm; have ho2 := ho1.far (o := 4) (u := .slice g1 x.gs.length y1) hAV; have B3 := B2.setCell (p := ⟨A, 4, none⟩) hwA (.slice g1 x.gs.length y1); obtain ⟨W2, hW2⟩ : ∃ W, W = w1.setCell ⟨A, 4, none⟩ (.slice g1 x.gs.length y1) := ⟨_, rfl⟩; have hz2 : w1.heap.size = W2.heap.size := by rw [hW2]; simp
 rw [← hW2] at bA2 bR2 ho2 B3 ⊢
 try rw [hz2]
 have HO1 : Hid (∀ k, (Value.slice g1 x.gs.length y1).ownBlock = some k → k < W2.heap.size) := Lib.hid fun k hk => (World.ownsRow.lt ho2 k hk).2
 clear hW2 bA bR ho1 B2; simp only [List.set_cons_zero, List.set_cons_succ] at bA2; obtain ⟨bZ, N0, z0⟩ := one W2 ([] : List Value) PT; have hem : OwnP (W2.alloc (.cells #[] PT)) W2.heap.size (.slice (some ⟨W2.heap.size, 0, none⟩) 0 0) [] := World.ownsRow_lit (e := PT) (size := 2) W2 #[] 0 (Nat.le_refl _) (by simp) (by simp); refine wp_appPS rfl _ _ rfl W2.heap.size (.slice (some ⟨W2.heap.size, 0, none⟩) 0 0) (.slice ca x.cs.length cx) [] x.cs rfl rfl hem ((r1.keep B3).keep N0) (by simp; omega) (Nat.le_trans (Nat.le_refl _) N0.size) ?_; intro v2 w2 ho3 hg2; rw [List.nil_append] at ho3; obtain ⟨g2, y2, rfl⟩ := ho3.lenS8; have hAW2 : A < W2.heap.size := by omega
 have hRW2 : R < W2.heap.size := by omega
 replace bA2 := (bA2.keep N0).grown hg2 (by simp [Value.ownBlock]; omega); replace bR2 := (bR2.keep N0).grown hg2 (by simp [Value.ownBlock]; omega)
 have ho4 := (ho2.keep N0).kept hg2 (by
  have := HO1.out; cases hq : (Value.slice g1 x.gs.length y1).ownBlock with
  | none => exact .inl rfl
  | some k => exact .inr (by have := this k hq; simp [Value.ownBlock]; omega))
 have B4 : Below w.heap.size w w2 := Below.grown (below_step B3 N0) hg2 (below_step B3 N0).size (fun k hk => by simp [Value.ownBlock] at hk; omega); have hs2 : W2.heap.size ≤ w2.heap.size := Nat.le_trans N0.size hg2.size; clear hg2 B3 ho2 hem bZ N0 z0; have p5 := bA2.c 5 rfl; have pf5 := bA2.f 5 rfl; have p6 := bA2.c 6 rfl; have p7 := bA2.c 7 rfl; have p8 := bA2.c 8 rfl; have p9 := bA2.c 9 rfl; go_wp2_with fail; clear p5 pf5 p6 p7 p8 p9; have bA3 := bA2.set 5 (.slice g2 x.cs.length y2); have bR3 := bR2.far (o := 5) (u := .slice g2 x.cs.length y2) hAR.symm; have ho5 := ho4.far (o := 5) (u := .slice g2 x.cs.length y2) hAV; have ho6 := ho3.far (o := 5) (u := .slice g2 x.cs.length y2) (show A < W2.heap.size by omega); have B5 := B4.setCell (p := ⟨A, 5, none⟩) hwA (.slice g2 x.cs.length y2); obtain ⟨W3, hW3⟩ : ∃ W, W = w2.setCell ⟨A, 5, none⟩ (.slice g2 x.cs.length y2) := ⟨_, rfl⟩; have hz3 : w2.heap.size = W3.heap.size := by rw [hW3]; simp
 rw [← hW3] at bA3 bR3 ho5 ho6 B5 ⊢; have HO2 : Hid (∀ k, (Value.slice g2 x.cs.length y2).ownBlock = some k → k < W3.heap.size) := Lib.hid fun k hk => (World.ownsRow.lt ho6 k hk).2
 clear hW3 bA2 bR2 ho4 ho3 B4; simp only [List.set_cons_zero, List.set_cons_succ] at bA3; refine (sown_any _ _ x.ps x.ms x.pr x.bw W3 (r2.keep B5) (r3.keep B5) hl4.2.2.1 hl4.2.2.2).mono ?_; rintro e w3 ⟨g3, y3, g4, y4, rfl, o3, o4, ap, hb⟩; replace bA3 := bA3.keep hb; replace bR3 := bR3.keep hb; replace ho5 := ho5.keep hb; replace ho6 := ho6.keep hb; have hs3 := hb.size; replace B5 := below_step B5 hb; clear hb; have hAW3 : A < W3.heap.size := by omega
 have l3 := fun k q => (World.ownsRow.lt o3 k q)
 have l4 := fun k q => (World.ownsRow.lt o4 k q)
 have hO : OwM w3 (Rg V.heap.size w3.heap.size) (.slice g1 x.gs.length y1) (.slice g2 x.cs.length y2) (.slice g3 x.ps.length y3) (.slice g4 x.ms.length y4) x :=
  ⟨Rg V.heap.size W2.heap.size, Rg W2.heap.size W3.heap.size, fun b => (Value.slice g3 x.ps.length y3).ownBlock = some b, fun b => (Value.slice g4 x.ms.length y4).ownBlock = some b,
   fun b q => ⟨by have := q.1; omega, by have := q.2; omega⟩, fun b q => ⟨by have := q.1; omega, by have := q.2; omega⟩, fun b q => ⟨by have := (l3 b q).1; omega, (l3 b q).2⟩, fun b q => ⟨by have := (l4 b q).1; omega, (l4 b q).2⟩,
   fun b q r => by have := q.2; have := r.1; omega, fun b q r => by have := q.2; have := (l3 b r).1; omega, fun b q r => by have := q.2; have := (l4 b r).1; omega, fun b q r => by have := q.2; have := (l3 b r).1; omega, fun b q r => by have := q.2; have := (l4 b r).1; omega, fun b q r => ap_ne ap q r,
   owP_pr ho5 HO1.out hl4.1, owP_pr ho6 HO2.out hl4.2.1, ⟨o3.mono (Nat.zero_le _), fun k q => q, hl4.2.2.1, r2.1⟩, ⟨o4.mono (Nat.zero_le _), fun k q => q, hl4.2.2.2, r3.1⟩⟩
 clear ho5 ho6 o3 o4 l3 l4 HO1 HO2 ap r0 r1 r2 r3; have bA4 := (((bA3.set 6 (.slice g3 x.ps.length y3)).set 7 (.int .i64 x.pr)).set 8 (.slice g4 x.ms.length y4)).set 9 (.int .i64 x.bw); have bR4 := (((bR3.far (o := 6) (u := .slice g3 x.ps.length y3) hAR.symm).far (o := 7) (u := .int .i64 x.pr) hAR.symm).far (o := 8) (u := .slice g4 x.ms.length y4) hAR.symm).far (o := 9) (u := .int .i64 x.bw) hAR.symm; have B6 := (((B5.setCell (p := ⟨A, 6, none⟩) hwA (.slice g3 x.ps.length y3)).setCell (p := ⟨A, 7, none⟩) hwA (.int .i64 x.pr)).setCell (p := ⟨A, 8, none⟩) hwA (.slice g4 x.ms.length y4)).setCell (p := ⟨A, 9, none⟩) hwA (.int .i64 x.bw); have hnA : ∀ hi, ¬ Rg V.heap.size hi A := fun hi q => by have := q.1; omega
 have hnR : ∀ hi, ¬ Rg V.heap.size hi R := fun hi q => by have := q.1; omega
 have hO4 := (((hO.agr (agr_setS (o := 6) (u := .slice g3 x.ps.length y3) _ (hnA _))).agr (agr_setS (o := 7) (u := .int .i64 x.pr) _ (hnA _))).agr (agr_setS (o := 8) (u := .slice g4 x.ms.length y4) _ (hnA _))).agr (agr_setS (o := 9) (u := .int .i64 x.bw) _ (hnA _)); have p6 := bA3.c 6 rfl; have pf6 := bA3.f 6 rfl; have p7 := bA3.c 7 rfl; have pf7 := bA3.f 7 rfl; have p8 := bA3.c 8 rfl; have pf8 := bA3.f 8 rfl; have p9 := bA3.c 9 rfl; have pf9 := bA3.f 9 rfl; have p0 := bA3.c 0 rfl; have p1 := bA3.c 1 rfl; have p2 := bA3.c 2 rfl; have p3 := bA3.c 3 rfl; have p4 := bA3.c 4 rfl; have p5 := bA3.c 5 rfl; have p10 := bA3.c 10 rfl; have r0 := bR3.c 0 rfl; have rf0 := bR3.f 0 rfl; have r1 := bR3.c 1 rfl; have rf1 := bR3.f 1 rfl; have r2 := bR3.c 2 rfl; have rf2 := bR3.f 2 rfl; have r3 := bR3.c 3 rfl; have rf3 := bR3.f 3 rfl; have r4 := bR3.c 4 rfl; have rf4 := bR3.f 4 rfl; have r5 := bR3.c 5 rfl; have rf5 := bR3.f 5 rfl; have r6 := bR3.c 6 rfl; have rf6 := bR3.f 6 rfl; have r7 := bR3.c 7 rfl; have rf7 := bR3.f 7 rfl; have r8 := bR3.c 8 rfl; have rf8 := bR3.f 8 rfl; have r9 := bR3.c 9 rfl; have rf9 := bR3.f 9 rfl; have r10 := bR3.c 10 rfl; have rf10 := bR3.f 10 rfl; clear hO; go_wp2_with fail; have bE := (((((((((((bR4).set 0 (.int .i64 x.kn)).set 1 (.int .i64 x.sa)).set 2 (.int .i64 x.ho)).set 3 (.int .i64 x.ix)).set 4 (.slice g1 x.gs.length y1)).set 5 (.slice g2 x.cs.length y2)).set 6 (.slice g3 x.ps.length y3)).set 7 (.int .i64 x.pr)).set 8 (.slice g4 x.ms.length y4)).set 9 (.int .i64 x.bw)).set 10 (.int .i64 x.er); have e0 := bE.c 0 rfl; have e1 := bE.c 1 rfl; have e2 := bE.c 2 rfl; have e3 := bE.c 3 rfl; have e4 := bE.c 4 rfl; have e5 := bE.c 5 rfl; have e6 := bE.c 6 rfl; have e7 := bE.c 7 rfl; have e8 := bE.c 8 rfl; have e9 := bE.c 9 rfl; have e10 := bE.c 10 rfl; have hOE := (((((((((((hO4).agr (agr_setS (o := 0) (u := .int .i64 x.kn) _ (hnR _))).agr (agr_setS (o := 1) (u := .int .i64 x.sa) _ (hnR _))).agr (agr_setS (o := 2) (u := .int .i64 x.ho) _ (hnR _))).agr (agr_setS (o := 3) (u := .int .i64 x.ix) _ (hnR _))).agr (agr_setS (o := 4) (u := .slice g1 x.gs.length y1) _ (hnR _))).agr (agr_setS (o := 5) (u := .slice g2 x.cs.length y2) _ (hnR _))).agr (agr_setS (o := 6) (u := .slice g3 x.ps.length y3) _ (hnR _))).agr (agr_setS (o := 7) (u := .int .i64 x.pr) _ (hnR _))).agr (agr_setS (o := 8) (u := .slice g4 x.ms.length y4) _ (hnR _))).agr (agr_setS (o := 9) (u := .int .i64 x.bw) _ (hnR _))).agr (agr_setS (o := 10) (u := .int .i64 x.er) _ (hnR _))
 exact bodyPost_ret (v := .agg #[.int .i64 x.kn, .int .i64 x.sa, .int .i64 x.ho, .int .i64 x.ix, .slice g1 x.gs.length y1, .slice g2 x.cs.length y2, .slice g3 x.ps.length y3, .int .i64 x.pr, .slice g4 x.ms.length y4, .int .i64 x.bw, .int .i64 x.er]) (by simp [results, Tryz.results128, go_sem, e0, e1, e2, e3, e4, e5, e6, e7, e8, e9, e10]) rfl
  ⟨_, _, _, _, rfl, hOE.mono (fun b q => ⟨by have := q.1; omega, by simpa using q.2⟩), (((((((((((B6).setCell (p := ⟨R, 0, none⟩) hwR (.int .i64 x.kn)).setCell (p := ⟨R, 1, none⟩) hwR (.int .i64 x.sa)).setCell (p := ⟨R, 2, none⟩) hwR (.int .i64 x.ho)).setCell (p := ⟨R, 3, none⟩) hwR (.int .i64 x.ix)).setCell (p := ⟨R, 4, none⟩) hwR (.slice g1 x.gs.length y1)).setCell (p := ⟨R, 5, none⟩) hwR (.slice g2 x.cs.length y2)).setCell (p := ⟨R, 6, none⟩) hwR (.slice g3 x.ps.length y3)).setCell (p := ⟨R, 7, none⟩) hwR (.int .i64 x.pr)).setCell (p := ⟨R, 8, none⟩) hwR (.slice g4 x.ms.length y4)).setCell (p := ⟨R, 9, none⟩) hwR (.int .i64 x.bw)).setCell (p := ⟨R, 10, none⟩) hwR (.int .i64 x.er)⟩
set_option maxHeartbeats 4000000 in
theorem slm_any (v : Value) (L : List Mg) (w : World) (h : RdMS w v L) (hn : L.length + wtMS L ≤ 1048576) :
  Calls Tryz.prog 77 #[v] w fun e w' => ∃ u, e = .returned u ∧ OwMS w' (Rg w.heap.size w'.heap.size) u L ∧ Below w.heap.size w w' := by
 obtain ⟨a, c, rfl, hc⟩ := h.el; obtain ⟨n, hn'⟩ : ∃ n, n = L.length := ⟨_, rfl⟩; rw [← hn'] at hc hn ⊢; have hnn : n ≤ 1048576 := by omega
 have HN := Lib.hid hn'; have HW := Lib.hid hn; clear hn' h hn
 go_enter Tryz.func77, Tryz.ntmps77
 go_wp2
 go_loopw [3, 4] (fun s q wr => ∃ (k : Nat) (xs : List Value), k ≤ n ∧ q = .int .i64 k ∧ GrMS wr w.heap.size s (L.take k) xs ∧ Below w.heap.size w wr) (fun _ q _ => n - (intOf q).toNat)
 case atStart => exact ⟨0, [], Nat.zero_le _, rfl, by simpa using GrMS.nil _ _, Below.refl _ _⟩
 case round =>
  obtain ⟨k, xs, hk, rfl, hG, hB⟩ := hrel
  by_cases hlt : k < n
  ·have hltI : (k : Int) < (n : Int) := by omega
   obtain ⟨b, o, rfl, hE⟩ := hc k hlt; obtain ⟨x, hx⟩ : ∃ x, L.getD k m0 = x := ⟨_, rfl⟩; rw [hx] at hE
   have hwx : wtM x ≤ 1048576 := by
    have h1 := wtM_at (L := L) (j := k) (by rw [← HN.out]; exact hlt); rw [hx] at h1; have := HW.out
    omega
   have HTK : Hid (L.take (k + 1) = L.take k ++ [x]) := Lib.hid (by
    rw [List.take_succ_eq_append_getElem (by rw [← HN.out]; exact hlt)]; rw [← hx]
    simp [List.getD, show k < L.length by rw [← HN.out]; exact hlt])
   have HLK : Hid ((L.take k).length = k) := Lib.hid (by rw [List.length_take]; have := HN.out; omega); have HCC := Lib.hid hc; obtain ⟨gv, cv, pv, mv, hr, k0, k1, k2, k3, k4, k5, k6, k7, k8, k9, k10⟩ := hE.keep hB; clear hx hc hE; go_wp2_with fail; clear k0 k1 k2 k3 k4 k5 k6 k7 k8 k9 k10; refine (sownM_any gv cv pv mv x wr hr hwx).mono ?_; rintro e W4 ⟨gv1, cv1, pv1, mv1, rfl, hM, B6⟩; obtain ⟨g1, y1, rfl⟩ := hM.rd.1.len; obtain ⟨g2, y2, rfl⟩ := hM.rd.2.1.len; obtain ⟨g3, y3, rfl⟩ := hM.rd.2.2.1.len; obtain ⟨g4, y4, rfl⟩ := hM.rd.2.2.2.len; clear hr; go_wp2_with (at_builtin; refine Hid.out ?_); refine Lib.hid ?_; have bN := Bl.new W4 [.int .i64 x.kn, .int .i64 x.sa, .int .i64 x.ho, .int .i64 x.ix, .slice g1 x.gs.length y1, .slice g2 x.cs.length y2, .slice g3 x.ps.length y3, .int .i64 x.pr, .slice g4 x.ms.length y4, .int .i64 x.bw, .int .i64 x.er] 157 W4.heap.size rfl; have N1 : Below W4.heap.size W4 (W4.alloc (.cells #[.int .i64 x.kn, .int .i64 x.sa, .int .i64 x.ho, .int .i64 x.ix, .slice g1 x.gs.length y1, .slice g2 x.cs.length y2, .slice g3 x.ps.length y3, .int .i64 x.pr, .slice g4 x.ms.length y4, .int .i64 x.bw, .int .i64 x.er] 157)) := (Below.refl _ _).alloc (Nat.le_refl _) _; have z5 : (W4.alloc (.cells #[.int .i64 x.kn, .int .i64 x.sa, .int .i64 x.ho, .int .i64 x.ix, .slice g1 x.gs.length y1, .slice g2 x.cs.length y2, .slice g3 x.ps.length y3, .int .i64 x.pr, .slice g4 x.ms.length y4, .int .i64 x.bw, .int .i64 x.er] 157)).heap.size = W4.heap.size + 1 := by simp
   have B7 := below_step B6 N1; have hO := hM.agr (.of_below N1); obtain ⟨W5, hW5⟩ : ∃ W, W = W4.alloc (.cells #[.int .i64 x.kn, .int .i64 x.sa, .int .i64 x.ho, .int .i64 x.ix, .slice g1 x.gs.length y1, .slice g2 x.cs.length y2, .slice g3 x.ps.length y3, .int .i64 x.pr, .slice g4 x.ms.length y4, .int .i64 x.bw, .int .i64 x.er] 157) := ⟨_, rfl⟩; rw [← hW5] at hO bN B7 z5 ⊢; clear hW5 N1 B6 hM; have hG0 := hG.keep B7; have hbw : w.heap.size ≤ W5.heap.size := Nat.le_trans hB.size B7.size; refine wp_apM rfl _ _ rfl w.heap.size W4.heap.size 1 _ (L.take k).length xs [.int .i64 x.kn, .int .i64 x.sa, .int .i64 x.ho, .int .i64 x.ix, .slice g1 x.gs.length y1, .slice g2 x.cs.length y2, .slice g3 x.ps.length y3, .int .i64 x.pr, .slice g4 x.ms.length y4, .int .i64 x.bw, .int .i64 x.er] rfl rfl hG0.row bN rfl (by simp [Value.oneCell']) (by rw [HLK.out]; omega) hbw ?_; intro v4 w5 hrow hg hor; have hGn := hG.step hB.size B7 hO (fun b q => ⟨q.1, by have := q.2; omega⟩) hrow hg hor; have hBn := below_grM (below_step hB B7) hG0 (Nat.le_refl _) hg; rw [← HTK.out] at hGn; clear hG hG0 hO hrow hg hor B7 hB bN; go_wp2
   go_roundw
   case rel => exact ⟨k + 1, _, by omega, by go_num, hGn, hBn⟩
   case measure => simp [intOf]; omega
  ·have hkn : k = n := by omega
   subst hkn; clear hc; go_wp2
   go_ret
   refine ⟨_, rfl, ?_, hB⟩; have := hG.own (by rw [List.length_take]; omega); rw [HN.out, List.take_length] at this
   exact this
end Go.Proofs.YtkodnipmogdgkaaGreat
namespace Go.Proofs.YtkodnipmogdgkaaGreat
open Go.ChangeShapes Go.WideShapes Go.ChangeAt Go.RowKit Go.BigFrame Go.Joins
open List (setIfInBounds_toArray set_cons_succ set_cons_zero)
set_option linter.unusedVariables false
set_option maxRecDepth 100000
set_option linter.unusedSimpArgs false
set_option maxRecDepth 100000

/-- block A holds ds, and the cells of block b from p on hold cs -/
def Src (w : World) (A b p : Nat) (ds cs : List Value) : Prop := Bl w A ds ∧ ∀ j u, cs[j]? = some u → w.cell? ⟨b, p + j, none⟩ = some u
theorem Src.keep {w w' : World} {A b p : Nat} {ds cs : List Value} (h : Src w A b p ds cs) (B : Below w.heap.size w w') : Src w' A b p ds cs := ⟨h.1.keep B, fun j u e => cell_keep B (World.block_lt_of_cell? w _ (h.2 j u e)) (h.2 j u e)⟩
theorem Src.grown {w w' : World} {A b p : Nat} {ds cs : List Value} {row : Option Nat} (h : Src w A b p ds cs) (g : w.grownBy w' row) (h1 : some A ≠ row) (h2 : some b ≠ row) : Src w' A b p ds cs :=
 ⟨h.1.grown g h1, fun j u e => (World.cell?_of_block (g.block b (World.block_lt_of_cell? w _ (h.2 j u e)) h2)).trans (h.2 j u e)⟩
theorem Src.far {w : World} {A b p B o : Nat} {u : Value} {ds cs : List Value} (h : Src w A b p ds cs) (h1 : B ≠ A) (h2 : B ≠ b) : Src (w.setCell ⟨B, o, none⟩ u) A b p ds cs :=
 h.grown (grown_set w B o u) (by intro e; cases e; exact h1 rfl) (by intro e; cases e; exact h2 rfl)
set_option maxHeartbeats 4000000 in
theorem sfcopy_any (nv lv : Value) (x : Fb) (w : World) (h : RdF w nv lv x) (hw : wtF x ≤ 1048576) :
  Calls Tryz.prog 33 #[.agg #[nv, lv, .int .i64 x.width]] w fun e w' => ∃ nv lv, e = .returned (.agg #[nv, lv, .int .i64 x.width]) ∧ OwF w' (Rg w.heap.size w'.heap.size) nv lv x ∧ Below w.heap.size w w' := by
 obtain ⟨hN, hL⟩ := h; unfold wtF at hw; obtain ⟨na, nc, rfl, hc⟩ := hN.el; obtain ⟨la, lc, rfl, hd⟩ := hL.el; obtain ⟨n, hn⟩ : ∃ n, n = x.nodes.length := ⟨_, rfl⟩; obtain ⟨m, hm⟩ : ∃ n, n = x.links.length := ⟨_, rfl⟩; rw [← hn] at hc hw ⊢; rw [← hm] at hd hw ⊢; have hnn : n ≤ 1048576 ∧ m ≤ 1048576 := by omega
 have HN := Lib.hid hn; have HM := Lib.hid hm; have HW := Lib.hid hw; have HD := Lib.hid hd; clear hN hL hn hm hw hd; obtain ⟨bA, bR, bO, B0, z⟩ := three w [.slice na n nc, .slice la m lc, .int .i64 x.width] [.slice none 0 0, .slice none 0 0, .int .i64 0] [.slice none 0 0, .slice none 0 0, .int .i64 x.width] 30 30 30; have a2 := bA.c 2 rfl
 go_enter Tryz.func33, Tryz.ntmps33
 go_wp2; clear a2; obtain ⟨W1, hW⟩ : ∃ W1, W1 = ((w.alloc (.cells #[.slice na n nc, .slice la m lc, .int .i64 x.width] 30)).alloc (.cells #[.slice none 0 0, .slice none 0 0, .int .i64 0] 30)).alloc (.cells #[.slice none 0 0, .slice none 0 0, .int .i64 x.width] 30) := ⟨_, rfl⟩; rw [← hW] at bA bR bO B0 z ⊢; obtain ⟨A, hA⟩ : ∃ A, A = w.heap.size := ⟨_, rfl⟩; obtain ⟨R, hR⟩ : ∃ R, R = w.heap.size + 1 := ⟨_, rfl⟩; obtain ⟨O, hO⟩ : ∃ O, O = w.heap.size + 1 + 1 := ⟨_, rfl⟩; rw [← hA] at bA; rw [← hR] at bR; rw [← hO] at bO
 try rw [← hO]
 try rw [← hR]
 try rw [← hA]
 have hwA : w.heap.size ≤ A := by omega
 have hwR : w.heap.size ≤ R := by omega
 have hwO : w.heap.size ≤ O := by omega
 have hAO : A ≠ O := by omega
 have hRO : R ≠ O := by omega
 have hAR : A ≠ R := by omega
 have hAW : A < W1.heap.size := by rw [z]; omega
 have hRW : R < W1.heap.size := by rw [z]; omega
 have hOW : O < W1.heap.size := by rw [z]; omega
 have hwW : w.heap.size ≤ W1.heap.size := B0.size; clear hA hR hO hW z
 go_loopw [4] (fun q wr => ∃ k : Nat, k ≤ n ∧ q = .int .i64 k ∧ ∃ (v2 : Value) (xs : List Value), GrNS wr W1.heap.size v2 (x.nodes.take k) xs ∧ Bl wr O [v2, .slice none 0 0, .int .i64 x.width] ∧ Bl wr R [.slice none 0 0, .slice none 0 0, .int .i64 0] ∧ Bl wr A [.slice na n nc, .slice la m lc, .int .i64 x.width] ∧ Below w.heap.size w wr ∧ W1.heap.size ≤ wr.heap.size) (fun q _ => n - (intOf q).toNat)
 case atStart => exact ⟨0, Nat.zero_le _, rfl, _, [], by simpa using GrNS.nil _ _, bO, bR, bA, B0, Nat.le_refl _⟩
 case round =>
  obtain ⟨k, hk, rfl, v2, xs, hG, bO1, bR1, bA1, hB, hsz⟩ := hrel
  by_cases hlt : k < n
  ·have hltI : (k : Int) < (n : Int) := by omega
   obtain ⟨b, o, rfl, hE⟩ := hc k hlt; obtain ⟨y, hy⟩ : ∃ y, x.nodes.getD k n0 = y := ⟨_, rfl⟩; rw [hy] at hE
   have hwy : wtN y ≤ 1048576 := by
    have h1 := wtN_at (L := x.nodes) (j := k) (by rw [← HN.out]; exact hlt); rw [hy] at h1; have := HW.out
    omega
   have HTK : Hid (x.nodes.take (k + 1) = x.nodes.take k ++ [y]) := Lib.hid (by
    rw [List.take_succ_eq_append_getElem (by rw [← HN.out]; exact hlt)]; rw [← hy]
    simp [List.getD, show k < x.nodes.length by rw [← HN.out]; exact hlt])
   have HLK : Hid ((x.nodes.take k).length = k) := Lib.hid (by rw [List.length_take]; have := HN.out; omega); have HLK1 : Hid ((x.nodes.take (k + 1)).length = k + 1) := Lib.hid (by rw [List.length_take]; have := HN.out; omega); obtain ⟨ov, rv, sv, hr, g0, g1, g2, g3, g4, g5⟩ := hE.keep hB; have hbd : BdN y := hr.bd; obtain ⟨oa, ox, rfl⟩ := hr.1.len; obtain ⟨ra, rx, rfl⟩ := hr.2.1.len; obtain ⟨sa, sx, rfl⟩ := hr.2.2.len
   have hbw : b < w.heap.size := by
    have := World.block_lt_of_cell? w _ (show w.cell? ⟨b, o + k * 6, none⟩ = some (.int .i64 y.an) by
     obtain ⟨ov, rv, sv, -, k0, -⟩ := hE
     exact k0)
    exact this
   have hbW : b < W1.heap.size := by omega
   have hOb : O ≠ b := by omega
   have bP : Src wr A b (o + k * 6) [.slice (some ⟨b, o, none⟩) n nc, .slice la m lc, .int .i64 x.width] [.int .i64 y.an, .slice oa y.own.length ox, .int .i64 y.bw, .bool y.dr, .slice ra y.rib.length rx, .slice sa y.sent.length sx] := ⟨bA1, fun j u e => by
    match j, e with
    | 0, e => cases e; exact g0
    | 1, e => cases e; exact g1
    | 2, e => cases e; exact g2
    | 3, e => cases e; exact g3
    | 4, e => cases e; exact g4
    | 5, e => cases e; exact g5⟩
   have HC := Lib.hid hc; have a0 := bA1.c 0 rfl; clear hy hc hE g0 g1 g2 g3 g4 g5; go_wp2_with fail; clear a0; refine wp_region_held_drew (S := fun w' => Src w' A b (o + k * 6) [.slice (some ⟨b, o, none⟩) n nc, .slice la m lc, .int .i64 x.width] [.int .i64 y.an, .slice oa y.own.length ox, .int .i64 y.bw, .bool y.dr, .slice ra y.rib.length rx, .slice sa y.sent.length sx]) (by kernel_rfl) (bP.keep (over_drew _)) (fun hHeld => ?_); clear hHeld; obtain ⟨D, hD⟩ : ∃ D, D = wr.drew := ⟨_, rfl⟩; have OD : Over wr D := by rw [hD]; exact over_drew _
   rw [← hD]; clear hD; have bPD := bP.keep OD; have hSD := bPD; refine tk 0 17 (v := ?_) hSD ?_ ?_; rotate_left
   ·intro wq hSq
    go_simp
    try rfl
   simp only [Act.put, setIfInBounds_toArray, set_cons_succ, set_cons_zero]; refine tk 2 19 (v := ?_) hSD ?_ ?_; rotate_left
   ·intro wq hSq
    go_simp
    try rfl
   simp only [Act.put, setIfInBounds_toArray, set_cons_succ, set_cons_zero]; refine tk 3 20 (v := ?_) hSD ?_ ?_; rotate_left
   ·intro wq hSq
    have q0 := hSq.1.c 0 rfl
    go_simp
    try rfl
   simp only [Act.put, setIfInBounds_toArray, set_cons_succ, set_cons_zero]; refine tk 4 21 (v := ?_) hSD ?_ ?_; rotate_left
   ·intro wq hSq
    go_simp
    try rfl
   simp only [Act.put, setIfInBounds_toArray, set_cons_succ, set_cons_zero]; refine tk 5 22 (v := ?_) hSD ?_ ?_; rotate_left
   ·intro wq hSq
    go_simp
    try rfl
   simp only [Act.put, setIfInBounds_toArray, set_cons_succ, set_cons_zero]; refine tk 6 23 (v := ?_) hSD ?_ ?_; rotate_left
   ·intro wq hSq
    have q0 := hSq.2 0 _ rfl; rw [Nat.add_zero] at q0; have q1 := hSq.2 1 _ rfl; have q2 := hSq.2 2 _ rfl; have q3 := hSq.2 3 _ rfl; have q4 := hSq.2 4 _ rfl; have q5 := hSq.2 5 _ rfl
    go_simp
    try rfl
   simp only [Act.put, setIfInBounds_toArray, set_cons_succ, set_cons_zero]; clear hSD; refine wpAnyH_ready (rs := [1, 7]) (by kernel_rfl) (by simp) ?_; refine (AllReadyH.cons rfl (fun K hK => ?_) (AllReadyH.cons rfl (fun K hK => ?_) AllReadyH.nil))
   ·have q := (bO1.keep OD).c 0 rfl
    go_simp
    refine hK.out _ _ bPD (fun hHeld => ?_); clear hK K hHeld q
    try simp only [Act.put, setIfInBounds_toArray, set_cons_succ, set_cons_zero]
    refine rd1 7 fun K hK => ?_
    go_simp
    refine (sown8_any _ _ _ y D (hr.keep OD) hwy).mono ?_; rintro e w1 ⟨n1, n2, n3, T1, T2, b0, h1, h2, rfl, hT, eT1, eT2, hb0, B2⟩; have oN := ndT_own hT eT1 eT2 hbd hwy; obtain ⟨⟨i1, j1, rfl⟩, ⟨i2, j2, rfl⟩, ⟨i3, j3, rfl⟩⟩ := hT.lens; clear hT eT1 eT2; refine hK.out _ _ (bPD.keep B2) (fun hHeld => ?_); clear hK K hHeld
    try simp only [Act.put, setIfInBounds_toArray, set_cons_succ, set_cons_zero]
    refine rd1 8 fun K hK => ?_
    go_simp
    have bN := Bl.new w1 [.int .i64 y.an, .slice i1 y.own.length j1, .int .i64 y.bw, .bool y.dr, .slice i2 T1.length j2, .slice i3 T2.length j3] 58 w1.heap.size rfl; have N1 : Below w1.heap.size w1 (w1.alloc (.cells #[.int .i64 y.an, .slice i1 y.own.length j1, .int .i64 y.bw, .bool y.dr, .slice i2 T1.length j2, .slice i3 T2.length j3] 58)) := (Below.refl _ _).alloc (Nat.le_refl _) _; have zN : w1.heap.size < (w1.alloc (.cells #[.int .i64 y.an, .slice i1 y.own.length j1, .int .i64 y.bw, .bool y.dr, .slice i2 T1.length j2, .slice i3 T2.length j3] 58)).heap.size := by simp
    have B3 : Below D.heap.size D (w1.alloc (.cells #[.int .i64 y.an, .slice i1 y.own.length j1, .int .i64 y.bw, .bool y.dr, .slice i2 T1.length j2, .slice i3 T2.length j3] 58)) := below_step B2 N1; refine hK.out _ _ (bPD.keep B3) (fun hHeld => ?_); clear hK K hHeld
    try simp only [Act.put, setIfInBounds_toArray, set_cons_succ, set_cons_zero]
    refine rd1 9 fun K hK => ?_
    have hG2 := hG.keep OD; have hWD : W1.heap.size ≤ D.heap.size := Nat.le_trans hsz OD.size; have hG3 := hG2.keep B3; refine step_apN rfl (.tmp 18) (.tmp 25) rfl W1.heap.size w1.heap.size 1 v2 (x.nodes.take k).length xs [.int .i64 y.an, .slice i1 y.own.length j1, .int .i64 y.bw, .bool y.dr, .slice i2 T1.length j2, .slice i3 T2.length j3] rfl rfl hG3.row bN rfl (by simp [Value.oneCell']) (by rw [HLK.out]; omega) (Nat.le_trans hWD B3.size) ?_; intro v3 w3 hrow hg hor; have hGn := hG2.step hWD B3 (oN.agr (.of_below N1)) (fun b q => ⟨Nat.le_trans hb0 q.1, Nat.lt_trans q.2 zN⟩) hrow hg hor; rw [← HTK.out] at hGn; have hB3 : Below w.heap.size w w3 := below_grN (below_step (below_step hB OD) B3) hG3 hwW hg; have bO3 := ((bO1.keep OD).keep B3).grown hg (ne_grN hG3 hOW); have bP3 := (bPD.keep B3).grown hg (ne_grN hG3 hAW) (ne_grN hG3 hbW); have bR3 := ((bR1.keep OD).keep B3).grown hg (ne_grN hG3 hRW); have bA3 := ((bA1.keep OD).keep B3).grown hg (ne_grN hG3 hAW); have hs3 := Nat.le_trans hWD (Nat.le_trans B3.size hg.size); clear hg hrow hor hG2 hG3
    obtain ⟨x3, y3, rfl⟩ : ∃ x3 y3, v3 = .slice x3 (k + 1) y3 := by
     obtain ⟨x3, y3, e3⟩ := hGn.lenV
     exact ⟨x3, y3, by rw [e3, HLK1.out]⟩
    refine hK.out _ _ bP3 (fun hHeld => ?_); clear hK K hHeld
    try simp only [Act.put, setIfInBounds_toArray, set_cons_succ, set_cons_zero]
    refine rd1 10 fun K hK => ?_
    go_simp
    refine hK.out _ _ bP3 (fun hHeld => ?_); clear hK K hHeld
    try simp only [Act.put, setIfInBounds_toArray, set_cons_succ, set_cons_zero]
    refine rd1 11 fun K hK => ?_
    have of0 := bO3.f 0 rfl; have o0 := bO3.c 0 rfl
    go_simp
    refine hK.out _ _ (bP3.far hAO.symm hOb) (fun hHeld => ?_); clear hK K hHeld o0 of0
    try simp only [Act.put, setIfInBounds_toArray, set_cons_succ, set_cons_zero]
    refine wpAnyH_done (by kernel_rfl) ?_ _; go_wp2
    go_roundw
    case rel => exact ⟨k + 1, by omega, by go_num, _, _, hGn.far hOW, bO3.set 0 _, bR3.far hRO, bA3.far hAO, hB3.setCell (p := ⟨O, 0, none⟩) hwO _, by simpa using hs3⟩
    case measure => simp [intOf]; omega
   ·go_simp
    refine (sown8_any _ _ _ y D (hr.keep OD) hwy).mono ?_; rintro e w1 ⟨n1, n2, n3, T1, T2, b0, h1, h2, rfl, hT, eT1, eT2, hb0, B2⟩; have oN := ndT_own hT eT1 eT2 hbd hwy; obtain ⟨⟨i1, j1, rfl⟩, ⟨i2, j2, rfl⟩, ⟨i3, j3, rfl⟩⟩ := hT.lens; clear hT eT1 eT2; refine hK.out _ _ (bPD.keep B2) (fun hHeld => ?_); clear hK K hHeld
    try simp only [Act.put, setIfInBounds_toArray, set_cons_succ, set_cons_zero]
    refine wpAnyH_ready (rs := [1, 8]) (by kernel_rfl) (by simp) ?_; refine (AllReadyH.cons rfl (fun K hK => ?_) (AllReadyH.cons rfl (fun K hK => ?_) AllReadyH.nil))
    ·have q := ((bO1.keep OD).keep B2).c 0 rfl
     go_simp
     refine hK.out _ _ (bPD.keep B2) (fun hHeld => ?_); clear hK K hHeld q
     try simp only [Act.put, setIfInBounds_toArray, set_cons_succ, set_cons_zero]
     refine rd1 8 fun K hK => ?_
     go_simp
     have bN := Bl.new w1 [.int .i64 y.an, .slice i1 y.own.length j1, .int .i64 y.bw, .bool y.dr, .slice i2 T1.length j2, .slice i3 T2.length j3] 58 w1.heap.size rfl; have N1 : Below w1.heap.size w1 (w1.alloc (.cells #[.int .i64 y.an, .slice i1 y.own.length j1, .int .i64 y.bw, .bool y.dr, .slice i2 T1.length j2, .slice i3 T2.length j3] 58)) := (Below.refl _ _).alloc (Nat.le_refl _) _; have zN : w1.heap.size < (w1.alloc (.cells #[.int .i64 y.an, .slice i1 y.own.length j1, .int .i64 y.bw, .bool y.dr, .slice i2 T1.length j2, .slice i3 T2.length j3] 58)).heap.size := by simp
     have B3 : Below D.heap.size D (w1.alloc (.cells #[.int .i64 y.an, .slice i1 y.own.length j1, .int .i64 y.bw, .bool y.dr, .slice i2 T1.length j2, .slice i3 T2.length j3] 58)) := below_step B2 N1; refine hK.out _ _ (bPD.keep B3) (fun hHeld => ?_); clear hK K hHeld
     try simp only [Act.put, setIfInBounds_toArray, set_cons_succ, set_cons_zero]
     refine rd1 9 fun K hK => ?_
     have hG2 := hG.keep OD; have hWD : W1.heap.size ≤ D.heap.size := Nat.le_trans hsz OD.size; have hG3 := hG2.keep B3; refine step_apN rfl (.tmp 18) (.tmp 25) rfl W1.heap.size w1.heap.size 1 v2 (x.nodes.take k).length xs [.int .i64 y.an, .slice i1 y.own.length j1, .int .i64 y.bw, .bool y.dr, .slice i2 T1.length j2, .slice i3 T2.length j3] rfl rfl hG3.row bN rfl (by simp [Value.oneCell']) (by rw [HLK.out]; omega) (Nat.le_trans hWD B3.size) ?_; intro v3 w3 hrow hg hor; have hGn := hG2.step hWD B3 (oN.agr (.of_below N1)) (fun b q => ⟨Nat.le_trans hb0 q.1, Nat.lt_trans q.2 zN⟩) hrow hg hor; rw [← HTK.out] at hGn; have hB3 : Below w.heap.size w w3 := below_grN (below_step (below_step hB OD) B3) hG3 hwW hg; have bO3 := ((bO1.keep OD).keep B3).grown hg (ne_grN hG3 hOW); have bP3 := (bPD.keep B3).grown hg (ne_grN hG3 hAW) (ne_grN hG3 hbW); have bR3 := ((bR1.keep OD).keep B3).grown hg (ne_grN hG3 hRW); have bA3 := ((bA1.keep OD).keep B3).grown hg (ne_grN hG3 hAW); have hs3 := Nat.le_trans hWD (Nat.le_trans B3.size hg.size); clear hg hrow hor hG2 hG3
     obtain ⟨x3, y3, rfl⟩ : ∃ x3 y3, v3 = .slice x3 (k + 1) y3 := by
      obtain ⟨x3, y3, e3⟩ := hGn.lenV
      exact ⟨x3, y3, by rw [e3, HLK1.out]⟩
     refine hK.out _ _ bP3 (fun hHeld => ?_); clear hK K hHeld
     try simp only [Act.put, setIfInBounds_toArray, set_cons_succ, set_cons_zero]
     refine rd1 10 fun K hK => ?_
     go_simp
     refine hK.out _ _ bP3 (fun hHeld => ?_); clear hK K hHeld
     try simp only [Act.put, setIfInBounds_toArray, set_cons_succ, set_cons_zero]
     refine rd1 11 fun K hK => ?_
     have of0 := bO3.f 0 rfl; have o0 := bO3.c 0 rfl
     go_simp
     refine hK.out _ _ (bP3.far hAO.symm hOb) (fun hHeld => ?_); clear hK K hHeld o0 of0
     try simp only [Act.put, setIfInBounds_toArray, set_cons_succ, set_cons_zero]
     refine wpAnyH_done (by kernel_rfl) ?_ _; go_wp2
     go_roundw
     case rel => exact ⟨k + 1, by omega, by go_num, _, _, hGn.far hOW, bO3.set 0 _, bR3.far hRO, bA3.far hAO, hB3.setCell (p := ⟨O, 0, none⟩) hwO _, by simpa using hs3⟩
     case measure => simp [intOf]; omega
    ·go_simp
     have bN := Bl.new w1 [.int .i64 y.an, .slice i1 y.own.length j1, .int .i64 y.bw, .bool y.dr, .slice i2 T1.length j2, .slice i3 T2.length j3] 58 w1.heap.size rfl; have N1 : Below w1.heap.size w1 (w1.alloc (.cells #[.int .i64 y.an, .slice i1 y.own.length j1, .int .i64 y.bw, .bool y.dr, .slice i2 T1.length j2, .slice i3 T2.length j3] 58)) := (Below.refl _ _).alloc (Nat.le_refl _) _; have zN : w1.heap.size < (w1.alloc (.cells #[.int .i64 y.an, .slice i1 y.own.length j1, .int .i64 y.bw, .bool y.dr, .slice i2 T1.length j2, .slice i3 T2.length j3] 58)).heap.size := by simp
     have B3 : Below D.heap.size D (w1.alloc (.cells #[.int .i64 y.an, .slice i1 y.own.length j1, .int .i64 y.bw, .bool y.dr, .slice i2 T1.length j2, .slice i3 T2.length j3] 58)) := below_step B2 N1; refine hK.out _ _ (bPD.keep B3) (fun hHeld => ?_); clear hK K hHeld
     try simp only [Act.put, setIfInBounds_toArray, set_cons_succ, set_cons_zero]
     refine rd1 1 fun K hK => ?_
     have q := ((bO1.keep OD).keep B3).c 0 rfl
     go_simp
     refine hK.out _ _ (bPD.keep B3) (fun hHeld => ?_); clear hK K hHeld q
     try simp only [Act.put, setIfInBounds_toArray, set_cons_succ, set_cons_zero]
     refine rd1 9 fun K hK => ?_
     have hG2 := hG.keep OD; have hWD : W1.heap.size ≤ D.heap.size := Nat.le_trans hsz OD.size; have hG3 := hG2.keep B3; refine step_apN rfl (.tmp 18) (.tmp 25) rfl W1.heap.size w1.heap.size 1 v2 (x.nodes.take k).length xs [.int .i64 y.an, .slice i1 y.own.length j1, .int .i64 y.bw, .bool y.dr, .slice i2 T1.length j2, .slice i3 T2.length j3] rfl rfl hG3.row bN rfl (by simp [Value.oneCell']) (by rw [HLK.out]; omega) (Nat.le_trans hWD B3.size) ?_; intro v3 w3 hrow hg hor; have hGn := hG2.step hWD B3 (oN.agr (.of_below N1)) (fun b q => ⟨Nat.le_trans hb0 q.1, Nat.lt_trans q.2 zN⟩) hrow hg hor; rw [← HTK.out] at hGn; have hB3 : Below w.heap.size w w3 := below_grN (below_step (below_step hB OD) B3) hG3 hwW hg; have bO3 := ((bO1.keep OD).keep B3).grown hg (ne_grN hG3 hOW); have bP3 := (bPD.keep B3).grown hg (ne_grN hG3 hAW) (ne_grN hG3 hbW); have bR3 := ((bR1.keep OD).keep B3).grown hg (ne_grN hG3 hRW); have bA3 := ((bA1.keep OD).keep B3).grown hg (ne_grN hG3 hAW); have hs3 := Nat.le_trans hWD (Nat.le_trans B3.size hg.size); clear hg hrow hor hG2 hG3
     obtain ⟨x3, y3, rfl⟩ : ∃ x3 y3, v3 = .slice x3 (k + 1) y3 := by
      obtain ⟨x3, y3, e3⟩ := hGn.lenV
      exact ⟨x3, y3, by rw [e3, HLK1.out]⟩
     refine hK.out _ _ bP3 (fun hHeld => ?_); clear hK K hHeld
     try simp only [Act.put, setIfInBounds_toArray, set_cons_succ, set_cons_zero]
     refine rd1 10 fun K hK => ?_
     go_simp
     refine hK.out _ _ bP3 (fun hHeld => ?_); clear hK K hHeld
     try simp only [Act.put, setIfInBounds_toArray, set_cons_succ, set_cons_zero]
     refine rd1 11 fun K hK => ?_
     have of0 := bO3.f 0 rfl; have o0 := bO3.c 0 rfl
     go_simp
     refine hK.out _ _ (bP3.far hAO.symm hOb) (fun hHeld => ?_); clear hK K hHeld o0 of0
     try simp only [Act.put, setIfInBounds_toArray, set_cons_succ, set_cons_zero]
     refine wpAnyH_done (by kernel_rfl) ?_ _; go_wp2
     go_roundw
     case rel => exact ⟨k + 1, by omega, by go_num, _, _, hGn.far hOW, bO3.set 0 _, bR3.far hRO, bA3.far hAO, hB3.setCell (p := ⟨O, 0, none⟩) hwO _, by simpa using hs3⟩
     case measure => simp [intOf]; omega
  ·have hkn : n = k := by omega
   subst hkn; obtain ⟨Wm, hm⟩ : ∃ W : World, W = wr := ⟨_, rfl⟩; subst hm; clear hc hlt hk; have oNS := hG.own (by rw [List.length_take]; omega)
   obtain ⟨i0, j0, rfl⟩ : ∃ i0 j0, v2 = .slice i0 n j0 := by
    obtain ⟨i0, j0, e⟩ := hG.lenV
    exact ⟨i0, j0, by rw [e, HN.out, List.take_length]⟩
   rw [HN.out, List.take_length, ← HN.out] at oNS; clear hG; have a0 := bA1.c 0 rfl; have hd := HD.out; go_wp2; clear a0
   go_loopw [5] (fun q wr => ∃ k : Nat, k ≤ m ∧ q = .int .i64 k ∧ ∃ (v3 : Value) (ys : List Value), GrLS wr Wm.heap.size v3 (x.links.take k) ys ∧ OwNS wr (Rg W1.heap.size Wm.heap.size) (.slice i0 n j0) x.nodes ∧ Bl wr O [.slice i0 n j0, v3, .int .i64 x.width] ∧ Bl wr R [.slice none 0 0, .slice none 0 0, .int .i64 0] ∧ Bl wr A [.slice na n nc, .slice la m lc, .int .i64 x.width] ∧ Below w.heap.size w wr ∧ Wm.heap.size ≤ wr.heap.size) (fun q _ => m - (intOf q).toNat)
   case atStart => exact ⟨0, Nat.zero_le _, rfl, _, [], by simpa using GrLS.nil _ _, oNS, bO1, bR1, bA1, hB, Nat.le_refl _⟩
   case round =>
    clear oNS bO1 bR1 bA1
    try clear HD
    obtain ⟨k, hk, rfl, v3, ys, hG, oNS, bO1, bR1, bA1, hB, hst⟩ := hrel
    by_cases hlt : k < m
    ·have hltI : (k : Int) < (m : Int) := by omega
     obtain ⟨b, o, rfl, hE⟩ := hd k hlt; obtain ⟨y, hy⟩ : ∃ y, x.links.getD k l0 = y := ⟨_, rfl⟩; rw [hy] at hE
     have hwy : wtL y ≤ 1048576 := by
      have h1 := wtL_at (L := x.links) (j := k) (by rw [← HM.out]; exact hlt); rw [hy] at h1; have := HW.out
      omega
     have hl2 : y.ab.length + wtMS y.ab ≤ 1048576 ∧ y.ba.length + wtMS y.ba ≤ 1048576 := by unfold wtL at hwy; omega
     have HTK : Hid (x.links.take (k + 1) = x.links.take k ++ [y]) := Lib.hid (by
      rw [List.take_succ_eq_append_getElem (by rw [← HM.out]; exact hlt)]; rw [← hy]
      simp [List.getD, show k < x.links.length by rw [← HM.out]; exact hlt])
     have HLK : Hid ((x.links.take k).length = k) := Lib.hid (by rw [List.length_take]; have := HM.out; omega); have HLK1 : Hid ((x.links.take (k + 1)).length = k + 1) := Lib.hid (by rw [List.length_take]; have := HM.out; omega); obtain ⟨av, bv, ⟨r0, r1⟩, g0, g1, g2, g3, g4, g5, g6⟩ := hE.keep hB; obtain ⟨pa, px, rfl⟩ := r0.len; obtain ⟨qa, qx, rfl⟩ := r1.len; have bP := Bl.new wr [.int .i64 y.a, .int .i64 y.ai, .int .i64 y.b, .int .i64 y.bi, .bool y.up, .slice pa y.ab.length px, .slice qa y.ba.length qx] 70 wr.heap.size rfl; have A1 : Below wr.heap.size wr (wr.alloc (.cells #[.int .i64 y.a, .int .i64 y.ai, .int .i64 y.b, .int .i64 y.bi, .bool y.up, .slice pa y.ab.length px, .slice qa y.ba.length qx] 70)) := (Below.refl _ _).alloc (Nat.le_refl _) _; have z : (wr.alloc (.cells #[.int .i64 y.a, .int .i64 y.ai, .int .i64 y.b, .int .i64 y.bi, .bool y.up, .slice pa y.ab.length px, .slice qa y.ba.length qx] 70)).heap.size = wr.heap.size + 1 := by simp
     have p5 := bP.c 5 rfl; have HC := Lib.hid hd; have a1 := bA1.c 1 rfl; clear hy hd hE; go_wp2_with fail; clear a1 p5 g0 g1 g2 g3 g4 g5 g6; obtain ⟨V, hV⟩ : ∃ V, V = wr.alloc (.cells #[.int .i64 y.a, .int .i64 y.ai, .int .i64 y.b, .int .i64 y.bi, .bool y.up, .slice pa y.ab.length px, .slice qa y.ba.length qx] 70) := ⟨_, rfl⟩; rw [← hV] at bP A1 z ⊢; clear hV; obtain ⟨P, hP⟩ : ∃ P, P = wr.heap.size := ⟨_, rfl⟩; rw [← hP] at bP z ⊢; have hPw : wr.heap.size ≤ P := by omega
     have hPV : P < V.heap.size := by omega
     have hOP : O ≠ P := by have := bO1.lt; omega
     clear hP; refine (slm_any _ y.ab V (r0.keep A1) hl2.1).mono ?_; rintro e w2 ⟨u1, rfl, s1, hb⟩; obtain ⟨i1, j1, rfl⟩ := s1.rd.len; have hs2 := hb.size; replace bP := bP.keep hb; have B2 := below_step A1 hb; clear hb A1; have p5 := bP.c 5 rfl; have pf5 := bP.f 5 rfl; have p6 := bP.c 6 rfl; go_wp2_with fail; clear p5 pf5 p6; have bP2 := bP.set 5 (.slice i1 y.ab.length j1); have t1 := s1.agr (agr_setS (o := 5) (u := .slice i1 y.ab.length j1) w2 (fun q => by have := q.1; omega) (g := P)); have B3 := B2.setCell (p := ⟨P, 5, none⟩) hPw (.slice i1 y.ab.length j1); obtain ⟨W2, hW2⟩ : ∃ W, W = w2.setCell ⟨P, 5, none⟩ (.slice i1 y.ab.length j1) := ⟨_, rfl⟩; have hz2 : w2.heap.size = W2.heap.size := by rw [hW2]; simp
     rw [← hW2] at bP2 t1 B3 ⊢; clear hW2 bP s1 B2; simp only [List.set_cons_zero, List.set_cons_succ] at bP2; refine (slm_any _ y.ba W2 (r1.keep B3) hl2.2).mono ?_; rintro e w3 ⟨u2, rfl, s2, hb⟩; obtain ⟨i2, j2, rfl⟩ := s2.rd.len; have hs3 := hb.size; replace bP2 := bP2.keep hb; replace t1 := t1.agr (.of_below hb); have B4 := below_step B3 hb; clear hb B3; have p6 := bP2.c 6 rfl; have pf6 := bP2.f 6 rfl; have bP3 := bP2.set 6 (.slice i2 y.ba.length j2); have t2 := s2.agr (agr_setS (o := 6) (u := .slice i2 y.ba.length j2) w3 (fun q => by have := q.1; omega) (g := P)); have t3 := t1.agr (agr_setS (o := 6) (u := .slice i2 y.ba.length j2) w3 (fun q => by have := q.1; omega) (g := P)); have B5 := B4.setCell (p := ⟨P, 6, none⟩) hPw (.slice i2 y.ba.length j2); have p0 := bP2.c 0 rfl; have p1 := bP2.c 1 rfl; have p2 := bP2.c 2 rfl; have p3 := bP2.c 3 rfl; have p4 := bP2.c 4 rfl; have p5 := bP2.c 5 rfl; have o1 := (bO1.keep B4).c 1 rfl; go_wp2_with (at_builtin; refine Hid.out ?_); refine Lib.hid ?_; clear p0 p1 p2 p3 p4 p5 p6 pf6 o1; obtain ⟨W4, hW4⟩ : ∃ W, W = w3.setCell ⟨P, 6, none⟩ (.slice i2 y.ba.length j2) := ⟨_, rfl⟩; have hz4 : w3.heap.size = W4.heap.size := by rw [hW4]; simp
     rw [← hW4] at t2 t3 B5 ⊢
     try rw [hz4]
     clear hW4 t1 s2 B4 bP2 bP3; have bN := Bl.new W4 [.int .i64 y.a, .int .i64 y.ai, .int .i64 y.b, .int .i64 y.bi, .bool y.up, .slice i1 y.ab.length j1, .slice i2 y.ba.length j2] 70 W4.heap.size rfl; have N1 : Below W4.heap.size W4 (W4.alloc (.cells #[.int .i64 y.a, .int .i64 y.ai, .int .i64 y.b, .int .i64 y.bi, .bool y.up, .slice i1 y.ab.length j1, .slice i2 y.ba.length j2] 70)) := (Below.refl _ _).alloc (Nat.le_refl _) _; have z5 : (W4.alloc (.cells #[.int .i64 y.a, .int .i64 y.ai, .int .i64 y.b, .int .i64 y.bi, .bool y.up, .slice i1 y.ab.length j1, .slice i2 y.ba.length j2] 70)).heap.size = W4.heap.size + 1 := by simp
     have B7 := below_step B5 N1; replace t2 := t2.agr (.of_below N1); replace t3 := t3.agr (.of_below N1); obtain ⟨W5, hW5⟩ : ∃ W, W = W4.alloc (.cells #[.int .i64 y.a, .int .i64 y.ai, .int .i64 y.b, .int .i64 y.bi, .bool y.up, .slice i1 y.ab.length j1, .slice i2 y.ba.length j2] 70) := ⟨_, rfl⟩; rw [← hW5] at t2 t3 bN B7 z5 ⊢; clear hW5 N1 B5
     have hO : OwL W5 (Rg wr.heap.size W5.heap.size) (.slice i1 y.ab.length j1) (.slice i2 y.ba.length j2) y :=
      ⟨Rg V.heap.size w2.heap.size, Rg W2.heap.size w3.heap.size, fun b q => ⟨by have := q.1; omega, by have := q.2; omega⟩, fun b q => ⟨by have := q.1; omega, by have := q.2; omega⟩, fun b q r => by have := q.2; have := r.1; omega, t3, t2⟩
     clear t2 t3; have hG0 := hG.keep B7; have hbw : Wm.heap.size ≤ W5.heap.size := Nat.le_trans hst B7.size; have hW15 : W1.heap.size ≤ Wm.heap.size := hsz; refine wp_apL rfl (.tmp 49) (.tmp 51) rfl Wm.heap.size W4.heap.size 1 _ (x.links.take k).length ys [.int .i64 y.a, .int .i64 y.ai, .int .i64 y.b, .int .i64 y.bi, .bool y.up, .slice i1 y.ab.length j1, .slice i2 y.ba.length j2] rfl rfl hG0.row bN rfl (by simp [Value.oneCell']) (by rw [HLK.out]; omega) hbw ?_; intro v4 w6 hrow hg hor; have hGn := hG.step hst B7 hO (fun b q => q) hrow hg hor; have hBn := below_grL (below_step hB B7) hG0 (Nat.le_trans hwW hsz) hg; rw [← HTK.out] at hGn
     obtain ⟨x4, y4, rfl⟩ : ∃ x4 y4, v4 = .slice x4 (k + 1) y4 := by
      obtain ⟨x4, y4, e4⟩ := hGn.lenV
      exact ⟨x4, y4, by rw [e4, HLK1.out]⟩
     have bO3 := (bO1.keep B7).grown hg (ne_grL hG0 (by omega)); have bR3 := (bR1.keep B7).grown hg (ne_grL hG0 (by omega)); have bA3 := (bA1.keep B7).grown hg (ne_grL hG0 (by omega)); have oN1 := (oNS.agr (.of_below B7)).agr (⟨hg.size, fun i a l => hg.block i l (fun e => by have := (World.ownsRow.lt hG0.row i e.symm).1; have := a.2; omega)⟩ : AgrS (Rg W1.heap.size Wm.heap.size) W5 w6); have hs6 : Wm.heap.size ≤ w6.heap.size := Nat.le_trans hbw hg.size; clear hG hG0 hO hrow hg hor B7 hB bN bO1 bR1 bA1 oNS; have o1 := bO3.c 1 rfl; have of1 := bO3.f 1 rfl; go_wp2
     go_roundw
     case rel => exact ⟨k + 1, by omega, by go_num, _, _, hGn.far (by omega), oN1.agr (agr_setS w6 (fun q => by have := q.1; omega)), bO3.set 1 _, bR3.far hRO, bA3.far hAO, hBn.setCell (p := ⟨O, 1, none⟩) hwO _, by simpa using hs6⟩
     case measure => simp [intOf]; omega
    ·have hkm : m = k := by omega
     subst hkm; clear hd hlt hk; have oLS := hG.own (by rw [List.length_take]; omega)
     obtain ⟨i1, j1, rfl⟩ : ∃ i1 j1, v3 = .slice i1 m j1 := by
      obtain ⟨i1, j1, e⟩ := hG.lenV
      exact ⟨i1, j1, by rw [e, HM.out, List.take_length]⟩
     rw [HM.out, List.take_length, ← HM.out] at oLS; clear hG; have a1 := bA1.c 1 rfl; have o0 := bO1.c 0 rfl; have o1 := bO1.c 1 rfl; have o2 := bO1.c 2 rfl; have r0 := bR1.c 0 rfl; have r1 := bR1.c 1 rfl; have r2 := bR1.c 2 rfl; have rf0 := bR1.f 0 rfl; have rf1 := bR1.f 1 rfl; have rf2 := bR1.f 2 rfl; go_wp2; have bE := ((bR1.set 0 (.slice i0 n j0)).set 1 (.slice i1 m j1)).set 2 (.int .i64 x.width); have e0 := bE.c 0 rfl; have e1 := bE.c 1 rfl; have e2 := bE.c 2 rfl; have hRr : ∀ lo hi : Nat, W1.heap.size ≤ lo → ¬ Rg lo hi R := fun lo hi hl q => by have := q.1; omega
     exact bodyPost_ret (v := .agg #[.slice i0 n j0, .slice i1 m j1, .int .i64 x.width]) (by simp [results, Tryz.results33, go_sem, e0, e1, e2]) rfl
      ⟨_, _, rfl, ⟨Rg W1.heap.size Wm.heap.size, Rg Wm.heap.size wr.heap.size, fun b q => ⟨by have := q.1; omega, by have := q.2; simp; omega⟩, fun b q => ⟨by have := q.1; omega, by have := q.2; simp; omega⟩, fun b q r => by have := q.2; have := r.1; omega,
       ((oNS.agr (agr_setS _ (hRr _ _ (Nat.le_refl _)))).agr (agr_setS _ (hRr _ _ (Nat.le_refl _)))).agr (agr_setS _ (hRr _ _ (Nat.le_refl _))), ((oLS.agr (agr_setS _ (hRr _ _ hsz))).agr (agr_setS _ (hRr _ _ hsz))).agr (agr_setS _ (hRr _ _ hsz))⟩,
       ((hB.setCell (p := ⟨R, 0, none⟩) hwR _).setCell (p := ⟨R, 1, none⟩) hwR _).setCell (p := ⟨R, 2, none⟩) hwR _⟩
end Go.Proofs.YtkodnipmogdgkaaGreat
