/-
  Copies of tables, of the program and of the model. Conditions: those in each contract.
  Copies of tables, of the model. Conditions: those in each contract.
  Tables without some of their entries, of the model. Conditions: those in each contract.
  The library's IndexFunc and DeleteFunc at rows of entries. Conditions: those in each contract.
  The library's IndexFunc and DeleteFunc at rows of entries, for the closure of RibDropPeer. Conditions: those in each contract.
  Contracts of PrefixCmp of the program and of the model. Conditions: those in each contract.
  Lists of prefixes: contracts of the program's and the model's test that they are valid and ascending, of the program's comparison of two lists. Conditions: those in each contract.
  Membership: the model's own loop and the library's search, of the program and of the model. Conditions: those in each contract.
  PathHas and Shut, of the program and of the model. Conditions: those in each contract.
-/
import Derived.Test.YtkodnipmogdgkaaGreatFBb
import Derived.Test.YtkodnipmogdgkaaGreatFBa
import Derived.StillTailTactics
import Derived.LoopN
import Derived.Test.YtkodnipmogdgkaaGreatShelf
import Derived.Shelf.SlicesG.SearchI
namespace Go.Proofs.YtkodnipmogdgkaaGreat
open Go.ChangeShapes Go.WideShapes Go.ChangeAt Go.RowKit Go.BigFrame Go.Joins
open List (setIfInBounds_toArray set_cons_succ set_cons_zero)
set_option linter.unusedVariables false
set_option maxRecDepth 100000
set_option maxRecDepth 100000
set_option linter.unusedSimpArgs false
set_option maxRecDepth 100000

/-- a table of the call's own with these entries -/
def NewRib (w : World) (L : List Ent) (e : Ending) (w' : World) : Prop :=
 ∃ (u : Value) (T : List ET), e = .returned (.agg #[u]) ∧ OwnT w' w.heap.size u T ∧ entT T = L ∧ Below w.heap.size w w'
theorem sepNew {w w' : World} {base b n : Nat} {v u : Value} {xs : List Value} {l : List Int} (h1 : w.ownsRow base EI 7 v n xs) (h2 : OwnI w' b u l) (h : w.heap.size ≤ b) : u.ownBlock = none ∨ u.ownBlock ≠ v.ownBlock := by
 cases hu : u.ownBlock with
 | none => exact .inl rfl
 | some k =>
  refine .inr fun q => ?_
  have a := (World.ownsRow.lt h2 k hu).1; have c := (World.ownsRow.lt h1 k q.symm).2
  omega
theorem neRow {w : World} {base n B : Nat} {v : Value} {xs : List Value} (h : w.ownsRow base EI 7 v n xs) (hB : B < base) : some B ≠ v.ownBlock := fun q => by
 have := (World.ownsRow.lt h B q.symm).1
 omega
theorem below_growT {V w w' : World} {v : Value} {base n : Nat} {xs : List Value} (h : Below V.heap.size V w) (ho : w.ownsRow base EI 7 v n xs) (hb : V.heap.size ≤ base) (hg : w.grownBy w' v.ownBlock) : Below V.heap.size V w' :=
 Below.grown h hg h.size (fun k hk => Nat.le_trans hb (World.ownsRow.lt ho k hk).1)
theorem take_entT {L : List Ent} {T : List ET} {k : Nat} {t : ET} (h : entT T = L.take k) (hk : k < L.length) (hx : L.getD k e0 = t.E) : entT (T ++ [t]) = L.take (k + 1) := by
 have hg : L[k] = t.E := by simpa [List.getD, hk] using hx
 rw [entT_append, h, List.take_add_one, List.getElem?_eq_getElem hk, hg]
 rfl
theorem step_T {V w2 w4 : World} {base : Nat} {v v' : Value} {T : List ET} {t : ET} (h : OwnT V base v T) (hV : base ≤ V.heap.size) (B : Below V.heap.size V w2) (o1 : OwnI w2 V.heap.size t.u t.E.p) (o2 : OwnI w2 V.heap.size t.v t.E.c)
  (hl : (∃ a c, t.u = .slice a t.E.p.length c) ∧ ∃ a c, t.v = .slice a t.E.c.length c) (ap : Apart t.u t.v) (hrow : w4.ownsRow base EI 7 v' (T.length + 1) (flatT T ++ cellsT t)) (hg : w2.grownBy w4 v.ownBlock) (hor : v'.ownBlock = v.ownBlock ∨ v'.ownBlock = some w2.heap.size) : OwnT w4 base v' (T ++ [t]) :=
 own_appT (h.keep B) (Nat.le_trans hV B.size) ⟨o1.mono hV, o2.mono hV⟩ hl ap
  (fun s hs => ⟨apartI (h.own s hs).1 o1 (Nat.le_refl _), apartI (h.own s hs).1 o2 (Nat.le_refl _), apartI (h.own s hs).2 o1 (Nat.le_refl _), apartI (h.own s hs).2 o2 (Nat.le_refl _)⟩)
  ⟨sepNew h.row o1 (Nat.le_refl _), sepNew h.row o2 (Nat.le_refl _)⟩ hrow hg hor
set_option maxHeartbeats 2000000 in
theorem irc_any (v : Value) (L : List Ent) (w : World) (h : RdE w v L) (hn1 : L.length ≤ 1048576) (hln : ∀ j, j < L.length → (L.getD j e0).p.length ≤ 1048576 ∧ (L.getD j e0).c.length ≤ 1048576) :
  Calls Tryz.prog 130 #[.agg #[v]] w (NewRib w L) := by
 obtain ⟨a, c, rfl, hc⟩ := h.el; obtain ⟨n, hn⟩ : ∃ n, n = L.length := ⟨_, rfl⟩; rw [← hn] at hc hn1 hln ⊢; have HN := Lib.hid hn; clear h hn; obtain ⟨bA, bR, bO, B0, z⟩ := three w [.slice a n c] [.slice none 0 0] [.slice none 0 0] 56 56 56; have a0 := bA.c 0 rfl
 go_enter Tryz.func130, Tryz.ntmps130
 go_wp2; clear a0; obtain ⟨W1, hW⟩ : ∃ W1, W1 = ((w.alloc (.cells #[.slice a n c] 56)).alloc (.cells #[.slice none 0 0] 56)).alloc (.cells #[.slice none 0 0] 56) := ⟨_, rfl⟩; rw [← hW] at bA bR bO B0 z ⊢; obtain ⟨A, hA⟩ : ∃ A, A = w.heap.size := ⟨_, rfl⟩; obtain ⟨R, hR⟩ : ∃ R, R = w.heap.size + 1 := ⟨_, rfl⟩; obtain ⟨O, hO⟩ : ∃ O, O = w.heap.size + 1 + 1 := ⟨_, rfl⟩; rw [← hA] at bA; rw [← hR] at bR; rw [← hO] at bO
 try rw [← hO]
 try rw [← hR]
 try rw [← hA]
 have hwA : w.heap.size ≤ A := by omega
 have hwR : w.heap.size ≤ R := by omega
 have hwO : w.heap.size ≤ O := by omega
 have hAO : A ≠ O := by omega
 have hRO : R ≠ O := by omega
 have hAR : A ≠ R := by omega
 have hAW : A < W1.heap.size := by rw [z]; omega
 have hRW : R < W1.heap.size := by rw [z]; omega
 have hOW : O < W1.heap.size := by rw [z]; omega
 have hwW : w.heap.size ≤ W1.heap.size := B0.size; clear hA hR hO hW z
 go_loopw [9] (fun q wr => ∃ k : Nat, k ≤ n ∧ q = .int .i64 k ∧ ∃ (v2 : Value) (T : List ET), OwnT wr W1.heap.size v2 T ∧ entT T = L.take k ∧ Bl wr O [v2] ∧ Bl wr R [.slice none 0 0] ∧ Bl wr A [.slice a n c] ∧ Below w.heap.size w wr ∧ W1.heap.size ≤ wr.heap.size) (fun q _ => n - (intOf q).toNat)
 case atStart => exact ⟨0, Nat.zero_le _, rfl, _, [], OwnT.nil _ _, rfl, bO, bR, bA, B0, Nat.le_refl _⟩
 case round =>
  obtain ⟨k, hk, rfl, v2, T, hT, hTE, bO1, bR1, bA1, hB, hsz⟩ := hrel
  by_cases hlt : k < n
  ·have hltI : (k : Int) < (n : Int) := by omega
   obtain ⟨b, o, rfl, hE⟩ := hc k hlt; obtain ⟨E, hx⟩ : ∃ E, L.getD k e0 = E := ⟨_, rfl⟩; have hl2 := hln k hlt; rw [hx] at hE hl2; obtain ⟨pv, cv, hp, hq, g0, g1, g2, g3, g4, g5, g6⟩ := hE.keep hB; obtain ⟨pa, px, rfl⟩ := hp.len; obtain ⟨qa, qx, rfl⟩ := hq.len; have HTE : Hid (∀ t : ET, t.E = E → entT (T ++ [t]) = L.take (k + 1)) := Lib.hid fun t ht => take_entT hTE (by rw [← HN.out]; exact hlt) (by rw [hx, ht])
   have HL : Hid (T.length + 1 ≤ 4294967296) := Lib.hid (by have e := congrArg List.length hTE; rw [entT_len, List.length_take] at e; omega); have bP := Bl.new wr [.int .i64 E.a, .int .i64 E.n, .int .i64 E.pe, .slice pa E.p.length px, .int .i64 E.pr, .slice qa E.c.length qx, .int .i64 E.bw] EI wr.heap.size rfl; have A1 : Below wr.heap.size wr (wr.alloc (.cells #[.int .i64 E.a, .int .i64 E.n, .int .i64 E.pe, .slice pa E.p.length px, .int .i64 E.pr, .slice qa E.c.length qx, .int .i64 E.bw] EI)) := (Below.refl _ _).alloc (Nat.le_refl _) _; have hp1 := hp.keep A1; have hq1 := hq.keep A1; have o0 := (bO1.keep A1).c 0 rfl; have p0 := bP.c 0 rfl; have p1 := bP.c 1 rfl; have p2 := bP.c 2 rfl; have p3 := bP.c 3 rfl; have p4 := bP.c 4 rfl; have p5 := bP.c 5 rfl; have p6 := bP.c 6 rfl; have HC := Lib.hid hc; have HLN := Lib.hid hln; clear hx hc hln hE hTE; go_wp2_with fail; clear p0 p1 p2 p3 p4 p5 p6 o0; obtain ⟨V, hV⟩ : ∃ V, V = wr.alloc (.cells #[.int .i64 E.a, .int .i64 E.n, .int .i64 E.pe, .slice pa E.p.length px, .int .i64 E.pr, .slice qa E.c.length qx, .int .i64 E.bw] EI) := ⟨_, rfl⟩; have hVs : wr.heap.size < V.heap.size := by rw [hV]; simp
   rw [← hV] at bP A1 hp1 hq1 ⊢; obtain ⟨P, hP⟩ : ∃ P, P = wr.heap.size := ⟨_, rfl⟩; rw [← hP] at bP ⊢; have hOP : O ≠ P := by have := bO1.lt; omega
   have hT1 := hT.keep A1; have hB1 := below_step hB A1; replace bO1 := bO1.keep A1; replace bR1 := bR1.keep A1; replace bA1 := bA1.keep A1; have hsV : W1.heap.size ≤ V.heap.size := by omega
   have hneP : some P ≠ v2.ownBlock := fun q => by
    have := (World.ownsRow.lt hT.row P q.symm).2
    omega
   clear hV hP A1 hVs hsz hT g0 g1 g2 g3 g4 g5 g6 hp hq; refine wp_region_held_drew (S := fun w' => Bl w' P [.int .i64 E.a, .int .i64 E.n, .int .i64 E.pe, .slice pa E.p.length px, .int .i64 E.pr, .slice qa E.c.length qx, .int .i64 E.bw]) (by kernel_rfl) (bP.keep (over_drew _)) (fun hHeld => ?_); clear hHeld; obtain ⟨D, hD⟩ : ∃ D, D = V.drew := ⟨_, rfl⟩; have OD : Over V D := by rw [hD]; exact over_drew _
   rw [← hD]; clear hD; have bPD := bP.keep OD; have hSD := bPD; refine tk 0 13 (v := ?_) hSD ?_ ?_; rotate_left
   ·intro wq hSq
    go_simp
    try rfl
   simp only [Act.put, setIfInBounds_toArray, set_cons_succ, set_cons_zero]; refine tk 2 15 (v := ?_) hSD ?_ ?_; rotate_left
   ·intro wq hSq
    have q0 := hSq.c 0 rfl; have q1 := hSq.c 1 rfl; have q2 := hSq.c 2 rfl; have q3 := hSq.c 3 rfl; have q4 := hSq.c 4 rfl; have q5 := hSq.c 5 rfl; have q6 := hSq.c 6 rfl
    go_simp
    try rfl
   simp only [Act.put, setIfInBounds_toArray, set_cons_succ, set_cons_zero]; clear hSD; refine wpAnyH_ready (rs := [1, 3]) (by kernel_rfl) (by simp) ?_; refine (AllReadyH.cons rfl (fun K hK => ?_) (AllReadyH.cons rfl (fun K hK => ?_) AllReadyH.nil))
   ·have q := (bO1.keep OD).c 0 rfl
    go_simp
    refine hK.out _ _ bPD (fun hHeld => ?_); clear hK K hHeld q
    try simp only [Act.put, setIfInBounds_toArray, set_cons_succ, set_cons_zero]
    refine rd1 3 fun K hK => ?_
    go_simp
    refine (ice_any _ _ _ _ _ _ _ _ _ D (hp1.keep OD) (hq1.keep OD) hl2.1 hl2.2).mono ?_; rintro e w1 ⟨x, y, f, g, rfl, oo1, oo2, ap, B2⟩; refine hK.out _ _ (bPD.keep B2) (fun hHeld => ?_); clear hK K hHeld
    try simp only [Act.put, setIfInBounds_toArray, set_cons_succ, set_cons_zero]
    refine rd1 4 fun K hK => ?_
    go_simp
    have bN := Bl.new w1 [.int .i64 E.a, .int .i64 E.n, .int .i64 E.pe, .slice x E.p.length y, .int .i64 E.pr, .slice f E.c.length g, .int .i64 E.bw] EI w1.heap.size rfl; have N1 : Below w1.heap.size w1 (w1.alloc (.cells #[.int .i64 E.a, .int .i64 E.n, .int .i64 E.pe, .slice x E.p.length y, .int .i64 E.pr, .slice f E.c.length g, .int .i64 E.bw] EI)) := (Below.refl _ _).alloc (Nat.le_refl _) _; have B3 : Below D.heap.size D (w1.alloc (.cells #[.int .i64 E.a, .int .i64 E.n, .int .i64 E.pe, .slice x E.p.length y, .int .i64 E.pr, .slice f E.c.length g, .int .i64 E.bw] EI)) := below_step B2 N1; refine hK.out _ _ (bPD.keep B3) (fun hHeld => ?_); clear hK K hHeld
    try simp only [Act.put, setIfInBounds_toArray, set_cons_succ, set_cons_zero]
    refine rd1 5 fun K hK => ?_
    have hT2 := hT1.keep OD; have hWD : W1.heap.size ≤ D.heap.size := Nat.le_trans hsV OD.size; refine step_appE rfl (.tmp 14) (.tmp 17) rfl W1.heap.size w1.heap.size 1 v2 T.length (flatT T) [.int .i64 E.a, .int .i64 E.n, .int .i64 E.pe, .slice x E.p.length y, .int .i64 E.pr, .slice f E.c.length g, .int .i64 E.bw] rfl rfl (hT2.keep B3).row bN rfl (by simp [Value.oneCell']) HL.out (Nat.le_trans hWD B3.size) ?_; intro v3 w3 hrow hg hor; have hT3 : OwnT w3 W1.heap.size v3 (T ++ [⟨E, .slice x E.p.length y, .slice f E.c.length g⟩]) := step_T hT2 hWD B3 (oo1.keep N1) (oo2.keep N1) ⟨⟨_, _, rfl⟩, ⟨_, _, rfl⟩⟩ ap hrow hg hor; have hB3 : Below w.heap.size w w3 := below_growT (below_step (below_step hB1 OD) B3) (hT2.keep B3).row hwW hg; have bO3 := ((bO1.keep OD).keep B3).grown hg (neRow (hT2.keep B3).row hOW); have bP3 := (bPD.keep B3).grown hg hneP; have bR3 := ((bR1.keep OD).keep B3).grown hg (neRow (hT2.keep B3).row hRW); have bA3 := ((bA1.keep OD).keep B3).grown hg (neRow (hT2.keep B3).row hAW); have hs3 := Nat.le_trans hWD (Nat.le_trans B3.size hg.size); clear hg hrow hor
    obtain ⟨x3, y3, rfl⟩ : ∃ x3 y3, v3 = .slice x3 (T.length + 1) y3 := by
     obtain ⟨x3, y3, e3⟩ := hT3.lenV
     exact ⟨x3, y3, by simpa using e3⟩
    refine hK.out _ _ bP3 (fun hHeld => ?_); clear hK K hHeld
    try simp only [Act.put, setIfInBounds_toArray, set_cons_succ, set_cons_zero]
    refine rd1 6 fun K hK => ?_
    go_simp
    refine hK.out _ _ bP3 (fun hHeld => ?_); clear hK K hHeld
    try simp only [Act.put, setIfInBounds_toArray, set_cons_succ, set_cons_zero]
    refine rd1 7 fun K hK => ?_
    have o0 := bO3.c 0 rfl; have of0 := bO3.f 0 rfl
    go_simp
    refine hK.out _ _ (bP3.far hOP.symm) (fun hHeld => ?_); clear hK K hHeld o0 of0
    try simp only [Act.put, setIfInBounds_toArray, set_cons_succ, set_cons_zero]
    refine wpAnyH_done (by kernel_rfl) ?_ _; go_wp2
    go_roundw
    case rel => exact ⟨k + 1, by omega, by go_num, _, _, hT3.far hOW, HTE.out _ rfl, bO3.set 0 _, bR3.far hRO, bA3.far hAO, hB3.setCell (p := ⟨O, 0, none⟩) hwO _, by simpa using hs3⟩
    case measure => simp [intOf]; omega
   ·go_simp
    refine (ice_any _ _ _ _ _ _ _ _ _ D (hp1.keep OD) (hq1.keep OD) hl2.1 hl2.2).mono ?_; rintro e w1 ⟨x, y, f, g, rfl, oo1, oo2, ap, B2⟩; refine hK.out _ _ (bPD.keep B2) (fun hHeld => ?_); clear hK K hHeld
    try simp only [Act.put, setIfInBounds_toArray, set_cons_succ, set_cons_zero]
    refine wpAnyH_ready (rs := [1, 4]) (by kernel_rfl) (by simp) ?_; refine (AllReadyH.cons rfl (fun K hK => ?_) (AllReadyH.cons rfl (fun K hK => ?_) AllReadyH.nil))
    ·have q := ((bO1.keep OD).keep B2).c 0 rfl
     go_simp
     refine hK.out _ _ (bPD.keep B2) (fun hHeld => ?_); clear hK K hHeld q
     try simp only [Act.put, setIfInBounds_toArray, set_cons_succ, set_cons_zero]
     refine rd1 4 fun K hK => ?_
     go_simp
     have bN := Bl.new w1 [.int .i64 E.a, .int .i64 E.n, .int .i64 E.pe, .slice x E.p.length y, .int .i64 E.pr, .slice f E.c.length g, .int .i64 E.bw] EI w1.heap.size rfl; have N1 : Below w1.heap.size w1 (w1.alloc (.cells #[.int .i64 E.a, .int .i64 E.n, .int .i64 E.pe, .slice x E.p.length y, .int .i64 E.pr, .slice f E.c.length g, .int .i64 E.bw] EI)) := (Below.refl _ _).alloc (Nat.le_refl _) _; have B3 : Below D.heap.size D (w1.alloc (.cells #[.int .i64 E.a, .int .i64 E.n, .int .i64 E.pe, .slice x E.p.length y, .int .i64 E.pr, .slice f E.c.length g, .int .i64 E.bw] EI)) := below_step B2 N1; refine hK.out _ _ (bPD.keep B3) (fun hHeld => ?_); clear hK K hHeld
     try simp only [Act.put, setIfInBounds_toArray, set_cons_succ, set_cons_zero]
     refine rd1 5 fun K hK => ?_
     have hT2 := hT1.keep OD; have hWD : W1.heap.size ≤ D.heap.size := Nat.le_trans hsV OD.size; refine step_appE rfl (.tmp 14) (.tmp 17) rfl W1.heap.size w1.heap.size 1 v2 T.length (flatT T) [.int .i64 E.a, .int .i64 E.n, .int .i64 E.pe, .slice x E.p.length y, .int .i64 E.pr, .slice f E.c.length g, .int .i64 E.bw] rfl rfl (hT2.keep B3).row bN rfl (by simp [Value.oneCell']) HL.out (Nat.le_trans hWD B3.size) ?_; intro v3 w3 hrow hg hor; have hT3 : OwnT w3 W1.heap.size v3 (T ++ [⟨E, .slice x E.p.length y, .slice f E.c.length g⟩]) := step_T hT2 hWD B3 (oo1.keep N1) (oo2.keep N1) ⟨⟨_, _, rfl⟩, ⟨_, _, rfl⟩⟩ ap hrow hg hor; have hB3 : Below w.heap.size w w3 := below_growT (below_step (below_step hB1 OD) B3) (hT2.keep B3).row hwW hg; have bO3 := ((bO1.keep OD).keep B3).grown hg (neRow (hT2.keep B3).row hOW); have bP3 := (bPD.keep B3).grown hg hneP; have bR3 := ((bR1.keep OD).keep B3).grown hg (neRow (hT2.keep B3).row hRW); have bA3 := ((bA1.keep OD).keep B3).grown hg (neRow (hT2.keep B3).row hAW); have hs3 := Nat.le_trans hWD (Nat.le_trans B3.size hg.size); clear hg hrow hor
     obtain ⟨x3, y3, rfl⟩ : ∃ x3 y3, v3 = .slice x3 (T.length + 1) y3 := by
      obtain ⟨x3, y3, e3⟩ := hT3.lenV
      exact ⟨x3, y3, by simpa using e3⟩
     refine hK.out _ _ bP3 (fun hHeld => ?_); clear hK K hHeld
     try simp only [Act.put, setIfInBounds_toArray, set_cons_succ, set_cons_zero]
     refine rd1 6 fun K hK => ?_
     go_simp
     refine hK.out _ _ bP3 (fun hHeld => ?_); clear hK K hHeld
     try simp only [Act.put, setIfInBounds_toArray, set_cons_succ, set_cons_zero]
     refine rd1 7 fun K hK => ?_
     have o0 := bO3.c 0 rfl; have of0 := bO3.f 0 rfl
     go_simp
     refine hK.out _ _ (bP3.far hOP.symm) (fun hHeld => ?_); clear hK K hHeld o0 of0
     try simp only [Act.put, setIfInBounds_toArray, set_cons_succ, set_cons_zero]
     refine wpAnyH_done (by kernel_rfl) ?_ _; go_wp2
     go_roundw
     case rel => exact ⟨k + 1, by omega, by go_num, _, _, hT3.far hOW, HTE.out _ rfl, bO3.set 0 _, bR3.far hRO, bA3.far hAO, hB3.setCell (p := ⟨O, 0, none⟩) hwO _, by simpa using hs3⟩
     case measure => simp [intOf]; omega
    ·go_simp
     have bN := Bl.new w1 [.int .i64 E.a, .int .i64 E.n, .int .i64 E.pe, .slice x E.p.length y, .int .i64 E.pr, .slice f E.c.length g, .int .i64 E.bw] EI w1.heap.size rfl; have N1 : Below w1.heap.size w1 (w1.alloc (.cells #[.int .i64 E.a, .int .i64 E.n, .int .i64 E.pe, .slice x E.p.length y, .int .i64 E.pr, .slice f E.c.length g, .int .i64 E.bw] EI)) := (Below.refl _ _).alloc (Nat.le_refl _) _; have B3 : Below D.heap.size D (w1.alloc (.cells #[.int .i64 E.a, .int .i64 E.n, .int .i64 E.pe, .slice x E.p.length y, .int .i64 E.pr, .slice f E.c.length g, .int .i64 E.bw] EI)) := below_step B2 N1; refine hK.out _ _ (bPD.keep B3) (fun hHeld => ?_); clear hK K hHeld
     try simp only [Act.put, setIfInBounds_toArray, set_cons_succ, set_cons_zero]
     refine rd1 1 fun K hK => ?_
     have q := ((bO1.keep OD).keep B3).c 0 rfl
     go_simp
     refine hK.out _ _ (bPD.keep B3) (fun hHeld => ?_); clear hK K hHeld q
     try simp only [Act.put, setIfInBounds_toArray, set_cons_succ, set_cons_zero]
     refine rd1 5 fun K hK => ?_
     have hT2 := hT1.keep OD; have hWD : W1.heap.size ≤ D.heap.size := Nat.le_trans hsV OD.size; refine step_appE rfl (.tmp 14) (.tmp 17) rfl W1.heap.size w1.heap.size 1 v2 T.length (flatT T) [.int .i64 E.a, .int .i64 E.n, .int .i64 E.pe, .slice x E.p.length y, .int .i64 E.pr, .slice f E.c.length g, .int .i64 E.bw] rfl rfl (hT2.keep B3).row bN rfl (by simp [Value.oneCell']) HL.out (Nat.le_trans hWD B3.size) ?_; intro v3 w3 hrow hg hor; have hT3 : OwnT w3 W1.heap.size v3 (T ++ [⟨E, .slice x E.p.length y, .slice f E.c.length g⟩]) := step_T hT2 hWD B3 (oo1.keep N1) (oo2.keep N1) ⟨⟨_, _, rfl⟩, ⟨_, _, rfl⟩⟩ ap hrow hg hor; have hB3 : Below w.heap.size w w3 := below_growT (below_step (below_step hB1 OD) B3) (hT2.keep B3).row hwW hg; have bO3 := ((bO1.keep OD).keep B3).grown hg (neRow (hT2.keep B3).row hOW); have bP3 := (bPD.keep B3).grown hg hneP; have bR3 := ((bR1.keep OD).keep B3).grown hg (neRow (hT2.keep B3).row hRW); have bA3 := ((bA1.keep OD).keep B3).grown hg (neRow (hT2.keep B3).row hAW); have hs3 := Nat.le_trans hWD (Nat.le_trans B3.size hg.size); clear hg hrow hor
     obtain ⟨x3, y3, rfl⟩ : ∃ x3 y3, v3 = .slice x3 (T.length + 1) y3 := by
      obtain ⟨x3, y3, e3⟩ := hT3.lenV
      exact ⟨x3, y3, by simpa using e3⟩
     refine hK.out _ _ bP3 (fun hHeld => ?_); clear hK K hHeld
     try simp only [Act.put, setIfInBounds_toArray, set_cons_succ, set_cons_zero]
     refine rd1 6 fun K hK => ?_
     go_simp
     refine hK.out _ _ bP3 (fun hHeld => ?_); clear hK K hHeld
     try simp only [Act.put, setIfInBounds_toArray, set_cons_succ, set_cons_zero]
     refine rd1 7 fun K hK => ?_
     have o0 := bO3.c 0 rfl; have of0 := bO3.f 0 rfl
     go_simp
     refine hK.out _ _ (bP3.far hOP.symm) (fun hHeld => ?_); clear hK K hHeld o0 of0
     try simp only [Act.put, setIfInBounds_toArray, set_cons_succ, set_cons_zero]
     refine wpAnyH_done (by kernel_rfl) ?_ _; go_wp2
     go_roundw
     case rel => exact ⟨k + 1, by omega, by go_num, _, _, hT3.far hOW, HTE.out _ rfl, bO3.set 0 _, bR3.far hRO, bA3.far hAO, hB3.setCell (p := ⟨O, 0, none⟩) hwO _, by simpa using hs3⟩
     case measure => simp [intOf]; omega
  ·have hkn : k = n := by omega
   subst hkn; clear hc hln; obtain ⟨x2, y2, rfl⟩ := hT.lenV; have o0 := bO1.c 0 rfl; have r0 := bR1.c 0 rfl; have rf0 := bR1.f 0 rfl; go_wp2; have bE := bR1.set 0 (.slice x2 T.length y2); have e0 := bE.c 0 rfl
   exact bodyPost_ret (v := .agg #[.slice x2 T.length y2]) (by simp [results, Tryz.results130, go_sem, e0]) rfl
    ⟨_, T, rfl, (hT.far hRW).mono hwW, by rw [hTE, HN.out, List.take_length], hB.setCell (p := ⟨R, 0, none⟩) hwR _⟩
end Go.Proofs.YtkodnipmogdgkaaGreat
namespace Go.Proofs.YtkodnipmogdgkaaGreat
open Go.ChangeShapes Go.WideShapes Go.ChangeAt Go.RowKit Go.BigFrame Go.Joins
set_option linter.unusedVariables false
set_option maxRecDepth 100000
set_option linter.unusedSimpArgs false
set_option maxRecDepth 100000

set_option maxHeartbeats 2000000 in
theorem sown6_any (v : Value) (L : List Ent) (w : World) (h : RdE w v L) (hn1 : L.length ≤ 1048576) (hln : ∀ j, j < L.length → (L.getD j e0).p.length ≤ 1048576 ∧ (L.getD j e0).c.length ≤ 1048576) :
  Calls Tryz.prog 127 #[.agg #[v]] w (NewRib w L) := by
 obtain ⟨a, c, rfl, hc⟩ := h.el; obtain ⟨n, hn⟩ : ∃ n, n = L.length := ⟨_, rfl⟩; rw [← hn] at hc hn1 hln ⊢; have HN := Lib.hid hn; clear h hn; obtain ⟨bA, bR, bO, B0, z⟩ := three w [.slice a n c] [.slice none 0 0] [.slice none 0 0] 56 56 56; have a0 := bA.c 0 rfl
 go_enter Tryz.func127, Tryz.ntmps127
 go_wp2; clear a0; obtain ⟨W1, hW⟩ : ∃ W1, W1 = ((w.alloc (.cells #[.slice a n c] 56)).alloc (.cells #[.slice none 0 0] 56)).alloc (.cells #[.slice none 0 0] 56) := ⟨_, rfl⟩; rw [← hW] at bA bR bO B0 z ⊢; obtain ⟨A, hA⟩ : ∃ A, A = w.heap.size := ⟨_, rfl⟩; obtain ⟨R, hR⟩ : ∃ R, R = w.heap.size + 1 := ⟨_, rfl⟩; obtain ⟨O, hO⟩ : ∃ O, O = w.heap.size + 1 + 1 := ⟨_, rfl⟩; rw [← hA] at bA; rw [← hR] at bR; rw [← hO] at bO
 try rw [← hO]
 try rw [← hR]
 try rw [← hA]
 have hwA : w.heap.size ≤ A := by omega
 have hwR : w.heap.size ≤ R := by omega
 have hwO : w.heap.size ≤ O := by omega
 have hAO : A ≠ O := by omega
 have hRO : R ≠ O := by omega
 have hAR : A ≠ R := by omega
 have hAW : A < W1.heap.size := by rw [z]; omega
 have hRW : R < W1.heap.size := by rw [z]; omega
 have hOW : O < W1.heap.size := by rw [z]; omega
 have hwW : w.heap.size ≤ W1.heap.size := B0.size; clear hA hR hO hW z
 go_loopw [4] (fun q wr => ∃ k : Nat, k ≤ n ∧ q = .int .i64 k ∧ ∃ (v2 : Value) (T : List ET), OwnT wr W1.heap.size v2 T ∧ entT T = L.take k ∧ Bl wr O [v2] ∧ Bl wr R [.slice none 0 0] ∧ Bl wr A [.slice a n c] ∧ Below w.heap.size w wr ∧ W1.heap.size ≤ wr.heap.size) (fun q _ => n - (intOf q).toNat)
 case atStart => exact ⟨0, Nat.zero_le _, rfl, _, [], OwnT.nil _ _, rfl, bO, bR, bA, B0, Nat.le_refl _⟩
 case round =>
  obtain ⟨k, hk, rfl, v2, T, hT, hTE, bO1, bR1, bA1, hB, hsz⟩ := hrel; have r0 := bA1.c 0 rfl
  by_cases hlt : k < n
  ·have hltI : (k : Int) < (n : Int) := by omega
   obtain ⟨b, o, rfl, hE⟩ := hc k hlt; obtain ⟨E, hx⟩ : ∃ E, L.getD k e0 = E := ⟨_, rfl⟩; have hl2 := hln k hlt; rw [hx] at hE hl2; obtain ⟨pv, cv, hp, hq, g0, g1, g2, g3, g4, g5, g6⟩ := hE.keep hB; obtain ⟨pa, px, rfl⟩ := hp.len; obtain ⟨qa, qx, rfl⟩ := hq.len; have HTE : Hid (∀ t : ET, t.E = E → entT (T ++ [t]) = L.take (k + 1)) := Lib.hid fun t ht => take_entT hTE (by rw [← HN.out]; exact hlt) (by rw [hx, ht])
   have HL : Hid (T.length + 1 ≤ 4294967296) := Lib.hid (by have e := congrArg List.length hTE; rw [entT_len, List.length_take] at e; omega); have bP := Bl.new wr [.int .i64 E.a, .int .i64 E.n, .int .i64 E.pe, .slice pa E.p.length px, .int .i64 E.pr, .slice qa E.c.length qx, .int .i64 E.bw] EI wr.heap.size rfl; have A1 : Below wr.heap.size wr (wr.alloc (.cells #[.int .i64 E.a, .int .i64 E.n, .int .i64 E.pe, .slice pa E.p.length px, .int .i64 E.pr, .slice qa E.c.length qx, .int .i64 E.bw] EI)) := (Below.refl _ _).alloc (Nat.le_refl _) _; have hp1 := hp.keep A1; have hq1 := hq.keep A1; have p0 := bP.c 0 rfl; have p1 := bP.c 1 rfl; have p2 := bP.c 2 rfl; have p3 := bP.c 3 rfl; have p4 := bP.c 4 rfl; have p5 := bP.c 5 rfl; have p6 := bP.c 6 rfl; have HC := Lib.hid hc; have HLN := Lib.hid hln; clear hx hc hln hE hTE; go_wp2_with fail; clear p0 p1 p2 p3 p4 p5 p6 g0 g1 g2 g3 g4 g5 g6 r0 hp hq; obtain ⟨V, hV⟩ : ∃ V, V = wr.alloc (.cells #[.int .i64 E.a, .int .i64 E.n, .int .i64 E.pe, .slice pa E.p.length px, .int .i64 E.pr, .slice qa E.c.length qx, .int .i64 E.bw] EI) := ⟨_, rfl⟩; have hVs : wr.heap.size < V.heap.size := by rw [hV]; simp
   rw [← hV] at bP A1 hp1 hq1 ⊢; refine (sown_any _ _ _ _ _ _ V hp1 hq1 hl2.1 hl2.2).mono ?_; rintro e w1 ⟨x, y, f, g, rfl, oo1, oo2, ap, B2⟩; obtain ⟨P, hP⟩ : ∃ P, P = wr.heap.size := ⟨_, rfl⟩; have hwP : wr.heap.size ≤ P := by omega
   have hPV : P < V.heap.size := by omega
   rw [← hP] at bP
   try rw [← hP]
   have hOP : O ≠ P := by have := bO1.lt; omega
   have hAP : A ≠ P := by have := bA1.lt; omega
   have hRP : R ≠ P := by have := bR1.lt; omega
   have D1 := below_step A1 B2; have bP1 := bP.keep B2; have bO2 := (bO1.keep A1).keep B2; have bPs := ((((bP1.set 3 (.slice x E.p.length y)).set 4 (.int .i64 E.pr)).set 5 (.slice f E.c.length g)).set 6 (.int .i64 E.bw)); have bOs := ((((bO2.far (o := 3) (u := (.slice x E.p.length y)) hOP).far (o := 4) (u := (.int .i64 E.pr)) hOP).far (o := 5) (u := (.slice f E.c.length g)) hOP).far (o := 6) (u := (.int .i64 E.bw)) hOP); have Ds := ((((D1.setCell (p := ⟨P, 3, none⟩) hwP (.slice x E.p.length y)).setCell (p := ⟨P, 4, none⟩) hwP (.int .i64 E.pr)).setCell (p := ⟨P, 5, none⟩) hwP (.slice f E.c.length g)).setCell (p := ⟨P, 6, none⟩) hwP (.int .i64 E.bw)); have os1 := ((((oo1.far (o := 3) (u := (.slice x E.p.length y)) hPV).far (o := 4) (u := (.int .i64 E.pr)) hPV).far (o := 5) (u := (.slice f E.c.length g)) hPV).far (o := 6) (u := (.int .i64 E.bw)) hPV).mono (Nat.le_of_lt hVs); have os2 := ((((oo2.far (o := 3) (u := (.slice x E.p.length y)) hPV).far (o := 4) (u := (.int .i64 E.pr)) hPV).far (o := 5) (u := (.slice f E.c.length g)) hPV).far (o := 6) (u := (.int .i64 E.bw)) hPV).mono (Nat.le_of_lt hVs); have k0 := bP1.c 0 rfl; have kf0 := bP1.f 0 rfl; have k1 := bP1.c 1 rfl; have kf1 := bP1.f 1 rfl; have k2 := bP1.c 2 rfl; have kf2 := bP1.f 2 rfl; have k3 := bP1.c 3 rfl; have kf3 := bP1.f 3 rfl; have k4 := bP1.c 4 rfl; have kf4 := bP1.f 4 rfl; have k5 := bP1.c 5 rfl; have kf5 := bP1.f 5 rfl; have k6 := bP1.c 6 rfl; have kf6 := bP1.f 6 rfl; have s0 := bPs.c 0 rfl; have s1 := bPs.c 1 rfl; have s2 := bPs.c 2 rfl; have s3 := bPs.c 3 rfl; have s4 := bPs.c 4 rfl; have s5 := bPs.c 5 rfl; have s6 := bPs.c 6 rfl; have t0 := bOs.c 0 rfl; have lP := bP1.lt; clear hV hP; go_wp2_with (at_builtin; refine Hid.out ?_); refine Lib.hid ?_; obtain ⟨X, hX⟩ : ∃ X, X = ((((w1.setCell ⟨P, 3, none⟩ (.slice x E.p.length y)).setCell ⟨P, 4, none⟩ (.int .i64 E.pr)).setCell ⟨P, 5, none⟩ (.slice f E.c.length g)).setCell ⟨P, 6, none⟩ (.int .i64 E.bw)) := ⟨_, rfl⟩; have hXs : X.heap.size = w1.heap.size := by rw [hX]; simp
   rw [← hX] at bPs bOs Ds os1 os2 ⊢; have hXr : wr.heap.size ≤ X.heap.size := Ds.size; have bN := Bl.new X [.int .i64 E.a, .int .i64 E.n, .int .i64 E.pe, .slice x E.p.length y, .int .i64 E.pr, .slice f E.c.length g, .int .i64 E.bw] EI w1.heap.size hXs.symm; have N1 : Below X.heap.size X (X.alloc (.cells #[.int .i64 E.a, .int .i64 E.n, .int .i64 E.pe, .slice x E.p.length y, .int .i64 E.pr, .slice f E.c.length g, .int .i64 E.bw] EI)) := (Below.refl _ _).alloc (Nat.le_refl _) _; have B3 := below_step Ds N1; clear hX s0 s1 s2 s3 s4 s5 s6 t0 k0 k1 k2 k3 k4 k5 k6 kf0 kf1 kf2 kf3 kf4 kf5 kf6 bP1 bO2 D1 oo1 oo2; refine wp_appE rfl _ _ rfl W1.heap.size w1.heap.size 1 v2 T.length (flatT T) [.int .i64 E.a, .int .i64 E.n, .int .i64 E.pe, .slice x E.p.length y, .int .i64 E.pr, .slice f E.c.length g, .int .i64 E.bw] rfl rfl (hT.keep B3).row bN rfl (by simp [Value.oneCell']) HL.out (Nat.le_trans hsz B3.size) ?_; intro v3 w3 hrow hg hor; have hT3 : OwnT w3 W1.heap.size v3 (T ++ [⟨E, .slice x E.p.length y, .slice f E.c.length g⟩]) := step_T hT hsz B3 (os1.keep N1) (os2.keep N1) ⟨⟨_, _, rfl⟩, ⟨_, _, rfl⟩⟩ ap hrow hg hor; have hB3 : Below w.heap.size w w3 := below_growT (below_step hB B3) (hT.keep B3).row hwW hg; have bO3 := (bO1.keep B3).grown hg (neRow (hT.keep B3).row hOW); have bR3 := (bR1.keep B3).grown hg (neRow (hT.keep B3).row hRW); have bA3 := (bA1.keep B3).grown hg (neRow (hT.keep B3).row hAW); have hs3 := Nat.le_trans hsz (Nat.le_trans B3.size hg.size); clear hg hrow hor bN N1
   obtain ⟨x3, y3, rfl⟩ : ∃ x3 y3, v3 = .slice x3 (T.length + 1) y3 := by
    obtain ⟨x3, y3, e3⟩ := hT3.lenV
    exact ⟨x3, y3, by simpa using e3⟩
   have o0 := bO3.c 0 rfl; have of0 := bO3.f 0 rfl; go_wp2
   go_roundw
   case rel => exact ⟨k + 1, by omega, by go_num, _, _, hT3.far hOW, HTE.out _ rfl, bO3.set 0 _, bR3.far hRO, bA3.far hAO, hB3.setCell (p := ⟨O, 0, none⟩) hwO _, by simpa using hs3⟩
   case measure => simp [intOf]; omega
  ·have hkn : k = n := by omega
   subst hkn; clear hc hln; obtain ⟨x2, y2, rfl⟩ := hT.lenV; have o0 := bO1.c 0 rfl; have q0 := bR1.c 0 rfl; have qf0 := bR1.f 0 rfl; go_wp2; have bE := bR1.set 0 (.slice x2 T.length y2); have e0 := bE.c 0 rfl
   exact bodyPost_ret (v := .agg #[.slice x2 T.length y2]) (by simp [results, Tryz.results127, go_sem, e0]) rfl
    ⟨_, T, rfl, (hT.far hRW).mono hwW, by rw [hTE, HN.out, List.take_length], hB.setCell (p := ⟨R, 0, none⟩) hwR _⟩
end Go.Proofs.YtkodnipmogdgkaaGreat
namespace Go.Proofs.YtkodnipmogdgkaaGreat
open Go.ChangeShapes Go.WideShapes Go.ChangeAt Go.RowKit Go.BigFrame Go.Joins
set_option linter.unusedVariables false
set_option maxRecDepth 100000
set_option linter.unusedSimpArgs false
set_option maxRecDepth 100000

/-- a block holds these cells, and what lay in w lies there -/
def KpA (w : World) (A : Nat) (xs : List Value) (w' : World) : Prop := Bl w' A xs ∧ Below w.heap.size w w'
theorem KpA.next {w w' w2 : World} {A : Nat} {xs : List Value} (h : KpA w A xs w') (hb : Below w'.heap.size w' w2) : KpA w A xs w2 := ⟨h.1.keep hb, below_step h.2 hb⟩
end Go.Proofs.YtkodnipmogdgkaaGreat
namespace Go.Proofs.YtkodnipmogdgkaaGreat
open Go.ChangeShapes Go.WideShapes Go.ChangeAt Go.RowKit Go.BigFrame Go.Joins
set_option linter.unusedVariables false
set_option maxRecDepth 100000
set_option linter.unusedSimpArgs false
set_option maxRecDepth 100000

end Go.Proofs.YtkodnipmogdgkaaGreat
namespace Go.Proofs.YtkodnipmogdgkaaGreat
open Go.ChangeShapes Go.WideShapes Go.ChangeAt Go.RowKit Go.BigFrame Go.Joins
set_option linter.unusedVariables false
set_option maxRecDepth 100000
set_option linter.unusedSimpArgs false
set_option maxRecDepth 100000

end Go.Proofs.YtkodnipmogdgkaaGreat
namespace Go.Proofs.YtkodnipmogdgkaaGreat
open Go.ChangeShapes Go.WideShapes Go.ChangeAt Go.RowKit Go.BigFrame
set_option linter.unusedVariables false
set_option maxRecDepth 100000

def cmp1 (a b : Int) : Int := if a < b then -1 else if b < a then 1 else 0
def orv (x y : Int) : Int := if x ≠ 0 then x else y
def cmp2 (a n b m : Int) : Int := orv (cmp1 a b) (cmp1 n m)
def pcmp (a n b m : Int) : Int := if pokB a n && pokB b m then cmp2 a n b m else 0
theorem cmp1_lt {a b : Int} (h : a < b) : cmp1 a b = -1 := by simp [cmp1, h]
theorem cmp1_gt {a b : Int} (h : b < a) : cmp1 a b = 1 := by unfold cmp1; rw [if_neg (by omega), if_pos h]
theorem cmp1_eq (a : Int) : cmp1 a a = 0 := by simp [cmp1]

theorem nan_any (a : Int) (w : World) : Calls Tryz.prog 206 #[.int .i64 a] w fun e w' => e = .returned (.bool false) ∧ w = w' := by
 go_enter Tryz.func206, Tryz.ntmps206
 go_wp2
 go_ret
 exact ⟨ret_bool (by simp), rfl⟩
theorem compare_any (a b : Int) (w : World) : Calls Tryz.prog 200 #[.int .i64 a, .int .i64 b] w fun e w' => e = .returned (.int .i64 (cmp1 a b)) ∧ w = w' := by
 rcases Int.lt_trichotomy a b with h | h | h
 ·rw [cmp1_lt h]
  go_enter Tryz.func200, Tryz.ntmps200
  go_wp2_with (go_at_call 206; refine (nan_any _ _).mono ?_; rintro e w' ⟨rfl, rfl⟩)
  go_ret
  exact ⟨rfl, rfl⟩
 ·subst h
  rw [cmp1_eq]
  go_enter Tryz.func200, Tryz.ntmps200
  go_wp2_with (go_at_call 206; refine (nan_any _ _).mono ?_; rintro e w' ⟨rfl, rfl⟩)
  go_ret
  exact ⟨rfl, rfl⟩
 ·rw [cmp1_gt h]
  have h' : ¬ a < b := by omega
  go_enter Tryz.func200, Tryz.ntmps200
  go_wp2_with (go_at_call 206; refine (nan_any _ _).mono ?_; rintro e w' ⟨rfl, rfl⟩)
  go_ret
  exact ⟨rfl, rfl⟩
/-- cmp.Or of two numbers that lie in a row -/
theorem or_any (x y : Int) (g : Nat) (w : World) (c0 : w.cell? ⟨g, 0, none⟩ = some (.int .i64 x)) (c1 : w.cell? ⟨g, 1, none⟩ = some (.int .i64 y)) :
  Calls Tryz.prog 199 #[.slice (some ⟨g, 0, none⟩) 2 2] w fun e w' => e = .returned (.int .i64 (orv x y)) ∧ w = w' := by
 by_cases hx : x = 0
 ·subst hx
  rw [show orv 0 y = y by simp [orv]]
  by_cases hy : y = 0
  ·subst hy
   go_enter Tryz.func199, Tryz.ntmps199
   go_wp2; refine wp_loop_rounds 3 ?_; rw [rounds_succ]; go_wp2; rw [rounds_succ]; go_wp2; rw [rounds_succ]; go_wp2
   go_ret
   exact ⟨rfl, rfl⟩
  ·have hy' : (y == 0) = false := by simp [hy]
   have hy2 : (y != 0) = true := by simp [hy]
   go_enter Tryz.func199, Tryz.ntmps199
   go_wp2; refine wp_loop_rounds 2 ?_; rw [rounds_succ]; go_wp2; rw [rounds_succ]; go_wp2
   go_ret
   exact ⟨rfl, rfl⟩
 ·have hx' : (x == 0) = false := by simp [hx]
  have hx2 : (x != 0) = true := by simp [hx]
  rw [show orv x y = x from if_pos hx]; clear hx
  go_enter Tryz.func199, Tryz.ntmps199
  go_wp2; refine wp_loop_rounds 1 ?_; rw [rounds_succ]; go_wp2
  go_ret
  exact ⟨rfl, rfl⟩

theorem scmp_l (a n b m : Int) (w : World) : Calls Tryz.prog 172 #[.agg #[.int .i64 a, .int .i64 n], .agg #[.int .i64 b, .int .i64 m]] w fun e w' => e = .returned (.int .i64 (cmp2 a n b m)) ∧ Below w.heap.size w w' := by
 rcases Int.lt_trichotomy a b with h | h | h
 ·rw [show cmp2 a n b m = -1 by unfold cmp2; rw [cmp1_lt h]; rfl]
  have hne : (a != b) = true := by simp; omega
  obtain ⟨c0, c1, lt, B0⟩ := box2 w (.int .i64 a) (.int .i64 n) 105; obtain ⟨d0, d1, ld, D0⟩ := box2 (w.alloc (.cells #[.int .i64 a, .int .i64 n] 105)) (.int .i64 b) (.int .i64 m) 105; have lt2 := Nat.lt_of_lt_of_le lt D0.size; have e0 := cell_keep D0 lt c0; have e1 := cell_keep D0 lt c1; have BD := below_step B0 D0; clear c0 c1 lt B0 D0; have q0 : (w.alloc (.cells #[.int .i64 a, .int .i64 n] 105)).heap.size = w.heap.size + 1 := by simp
  rw [q0] at d0 d1 ld; clear q0
  go_enter Tryz.func172, Tryz.ntmps172
  go_wp2
  go_ret
  exact ⟨rfl, BD⟩
 ·subst h
  rcases Int.lt_trichotomy n m with h | h | h
  ·rw [show cmp2 a n a m = -1 by unfold cmp2; rw [cmp1_eq, cmp1_lt h]; rfl]
   obtain ⟨c0, c1, lt, B0⟩ := box2 w (.int .i64 a) (.int .i64 n) 105; obtain ⟨d0, d1, ld, D0⟩ := box2 (w.alloc (.cells #[.int .i64 a, .int .i64 n] 105)) (.int .i64 a) (.int .i64 m) 105; have lt2 := Nat.lt_of_lt_of_le lt D0.size; have e0 := cell_keep D0 lt c0; have e1 := cell_keep D0 lt c1; have BD := below_step B0 D0; clear c0 c1 lt B0 D0; have q0 : (w.alloc (.cells #[.int .i64 a, .int .i64 n] 105)).heap.size = w.heap.size + 1 := by simp
   rw [q0] at d0 d1 ld; clear q0
   go_enter Tryz.func172, Tryz.ntmps172
   go_wp2
   go_ret
   exact ⟨rfl, BD⟩
  ·subst h
   rw [show cmp2 a n a n = 0 by unfold cmp2; rw [cmp1_eq, cmp1_eq]; rfl]; obtain ⟨c0, c1, lt, B0⟩ := box2 w (.int .i64 a) (.int .i64 n) 105; obtain ⟨d0, d1, ld, D0⟩ := box2 (w.alloc (.cells #[.int .i64 a, .int .i64 n] 105)) (.int .i64 a) (.int .i64 n) 105; have lt2 := Nat.lt_of_lt_of_le lt D0.size; have e0 := cell_keep D0 lt c0; have e1 := cell_keep D0 lt c1; have BD := below_step B0 D0; clear c0 c1 lt B0 D0; have q0 : (w.alloc (.cells #[.int .i64 a, .int .i64 n] 105)).heap.size = w.heap.size + 1 := by simp
   rw [q0] at d0 d1 ld; clear q0
   go_enter Tryz.func172, Tryz.ntmps172
   go_wp2
   go_ret
   exact ⟨rfl, BD⟩
  ·rw [show cmp2 a n a m = 1 by unfold cmp2; rw [cmp1_eq, cmp1_gt h]; rfl]
   have h' : ¬ n < m := by omega
   obtain ⟨c0, c1, lt, B0⟩ := box2 w (.int .i64 a) (.int .i64 n) 105; obtain ⟨d0, d1, ld, D0⟩ := box2 (w.alloc (.cells #[.int .i64 a, .int .i64 n] 105)) (.int .i64 a) (.int .i64 m) 105; have lt2 := Nat.lt_of_lt_of_le lt D0.size; have e0 := cell_keep D0 lt c0; have e1 := cell_keep D0 lt c1; have BD := below_step B0 D0; clear c0 c1 lt B0 D0; have q0 : (w.alloc (.cells #[.int .i64 a, .int .i64 n] 105)).heap.size = w.heap.size + 1 := by simp
   rw [q0] at d0 d1 ld; clear q0
   go_enter Tryz.func172, Tryz.ntmps172
   go_wp2
   go_ret
   exact ⟨rfl, BD⟩
 ·rw [show cmp2 a n b m = 1 by unfold cmp2; rw [cmp1_gt h]; rfl]
  have hne : (a != b) = true := by simp; omega
  have h' : ¬ a < b := by omega
  obtain ⟨c0, c1, lt, B0⟩ := box2 w (.int .i64 a) (.int .i64 n) 105; obtain ⟨d0, d1, ld, D0⟩ := box2 (w.alloc (.cells #[.int .i64 a, .int .i64 n] 105)) (.int .i64 b) (.int .i64 m) 105; have lt2 := Nat.lt_of_lt_of_le lt D0.size; have e0 := cell_keep D0 lt c0; have e1 := cell_keep D0 lt c1; have BD := below_step B0 D0; clear c0 c1 lt B0 D0; have q0 : (w.alloc (.cells #[.int .i64 a, .int .i64 n] 105)).heap.size = w.heap.size + 1 := by simp
  rw [q0] at d0 d1 ld; clear q0
  go_enter Tryz.func172, Tryz.ntmps172
  go_wp2
  go_ret
  exact ⟨rfl, BD⟩
set_option maxRecDepth 100000 in
theorem icmp_any (a n b m : Int) (w : World) : Calls Tryz.prog 179 #[.agg #[.int .i64 a, .int .i64 n], .agg #[.int .i64 b, .int .i64 m]] w fun e w' => e = .returned (.int .i64 (pcmp a n b m)) ∧ Below w.heap.size w w' := by
 cases hp : pokB a n
 ·rw [show pcmp a n b m = 0 by simp [pcmp, hp]]
  have H1 := Lib.hid hp; clear hp; obtain ⟨c0, c1, lt, B0⟩ := box2 w (.int .i64 a) (.int .i64 n) 105; obtain ⟨d0, d1, ld, D0⟩ := box2 (w.alloc (.cells #[.int .i64 a, .int .i64 n] 105)) (.int .i64 b) (.int .i64 m) 105; have lt2 := Nat.lt_of_lt_of_le lt D0.size; have e0 := cell_keep D0 lt c0; have e1 := cell_keep D0 lt c1; have BD := below_step B0 D0; clear c0 c1 lt B0 D0; have q0 : (w.alloc (.cells #[.int .i64 a, .int .i64 n] 105)).heap.size = w.heap.size + 1 := by simp
  rw [q0] at d0 d1 ld; clear q0
  go_enter Tryz.func179, Tryz.ntmps179
  go_wp2_with fail; refine (ipok_t _ H1).mono ?_; rintro e w1 ⟨rfl, hb⟩; replace BD := below_step BD hb; clear hb e0 e1 d0 d1; go_wp2_with fail
  go_ret
  exact ⟨rfl, BD⟩
 ·cases hq : pokB b m
  ·rw [show pcmp a n b m = 0 by simp [pcmp, hq]]
   have H1 := Lib.hid hp; have H2 := Lib.hid hq; clear hp hq; obtain ⟨c0, c1, lt, B0⟩ := box2 w (.int .i64 a) (.int .i64 n) 105; obtain ⟨d0, d1, ld, D0⟩ := box2 (w.alloc (.cells #[.int .i64 a, .int .i64 n] 105)) (.int .i64 b) (.int .i64 m) 105; have lt2 := Nat.lt_of_lt_of_le lt D0.size; have e0 := cell_keep D0 lt c0; have e1 := cell_keep D0 lt c1; have BD := below_step B0 D0; clear c0 c1 lt B0 D0; have q0 : (w.alloc (.cells #[.int .i64 a, .int .i64 n] 105)).heap.size = w.heap.size + 1 := by simp
   rw [q0] at d0 d1 ld; clear q0
   go_enter Tryz.func179, Tryz.ntmps179
   go_wp2_with fail; refine (ipok_t _ H1).mono ?_; rintro e w1 ⟨rfl, hb⟩; replace BD := below_step BD hb; replace e0 := cell_keep hb lt2 e0; replace e1 := cell_keep hb lt2 e1; replace d0 := cell_keep hb ld d0; replace d1 := cell_keep hb ld d1; replace lt2 := Nat.lt_of_lt_of_le lt2 hb.size; replace ld := Nat.lt_of_lt_of_le ld hb.size; clear hb; go_wp2_with fail; refine (ipok_t _ H2).mono ?_; rintro e w2 ⟨rfl, hb⟩; replace BD := below_step BD hb; replace e0 := cell_keep hb lt2 e0; replace e1 := cell_keep hb lt2 e1; replace d0 := cell_keep hb ld d0; replace d1 := cell_keep hb ld d1; replace lt2 := Nat.lt_of_lt_of_le lt2 hb.size; replace ld := Nat.lt_of_lt_of_le ld hb.size; clear hb; go_wp2_with fail
   go_ret
   exact ⟨rfl, BD⟩
  ·rw [show pcmp a n b m = cmp2 a n b m by simp [pcmp, hp, hq]]
   have H1 := Lib.hid hp; have H2 := Lib.hid hq; clear hp hq; obtain ⟨c0, c1, lt, B0⟩ := box2 w (.int .i64 a) (.int .i64 n) 105; obtain ⟨d0, d1, ld, D0⟩ := box2 (w.alloc (.cells #[.int .i64 a, .int .i64 n] 105)) (.int .i64 b) (.int .i64 m) 105; have lt2 := Nat.lt_of_lt_of_le lt D0.size; have e0 := cell_keep D0 lt c0; have e1 := cell_keep D0 lt c1; have BD := below_step B0 D0; clear c0 c1 lt B0 D0; have q0 : (w.alloc (.cells #[.int .i64 a, .int .i64 n] 105)).heap.size = w.heap.size + 1 := by simp
   rw [q0] at d0 d1 ld; clear q0
   go_enter Tryz.func179, Tryz.ntmps179
   go_wp2_with fail; refine (ipok_t _ H1).mono ?_; rintro e w1 ⟨rfl, hb⟩; replace BD := below_step BD hb; replace e0 := cell_keep hb lt2 e0; replace e1 := cell_keep hb lt2 e1; replace d0 := cell_keep hb ld d0; replace d1 := cell_keep hb ld d1; replace lt2 := Nat.lt_of_lt_of_le lt2 hb.size; replace ld := Nat.lt_of_lt_of_le ld hb.size; clear hb; go_wp2_with fail; refine (ipok_t _ H2).mono ?_; rintro e w2 ⟨rfl, hb⟩; replace BD := below_step BD hb; replace e0 := cell_keep hb lt2 e0; replace e1 := cell_keep hb lt2 e1; replace d0 := cell_keep hb ld d0; replace d1 := cell_keep hb ld d1; replace lt2 := Nat.lt_of_lt_of_le lt2 hb.size; replace ld := Nat.lt_of_lt_of_le ld hb.size; clear hb; go_wp2_with fail; refine wp_region_still_tail 10 (by kernel_rfl) (by kernel_rfl) ?_; simp only [List.take_succ_cons, List.take_zero, List.drop_succ_cons, List.drop_zero]
   repeat (first | still_step | (refine wpStill_step (fun K hK => ?_); go_simp; refine ⟨_, (compare_any _ _ _).mono (fun _ _ h => ⟨h.1, h.2.symm⟩), hK _ ?_⟩; clear hK K))
   refine wpStill_nil ?_
   change wpList _ _ _ _ _ w2.drew
   have BD2 : Below w.heap.size w w2.drew := BD.drew
   generalize w2.drew = w3 at BD2
   clear e0 e1 d0 d1 BD lt2 ld; go_wp2_with fail; refine (or_any (cmp1 a b) (cmp1 n m) w3.heap.size _ (by simp) (by simp)).mono ?_; rintro e w4 ⟨rfl, rfl⟩; go_wp2_with fail
   go_ret
   exact ⟨rfl, BD2.alloc BD2.size _⟩

end Go.Proofs.YtkodnipmogdgkaaGreat
namespace Go.Proofs.YtkodnipmogdgkaaGreat
open Go.ChangeShapes Go.WideShapes Go.ChangeAt Go.RowKit Go.BigFrame
set_option linter.unusedVariables false
set_option maxRecDepth 100000
set_option linter.unusedSimpArgs false

def okAt (l : List (Int × Int)) (i : Nat) : Prop := pokB (l.getD i (0, 0)).1 (l.getD i (0, 0)).2 = true
def upAt (l : List (Int × Int)) (i : Nat) : Prop := cmp2 (l.getD i (0, 0)).1 (l.getD i (0, 0)).2 (l.getD (i + 1) (0, 0)).1 (l.getD (i + 1) (0, 0)).2 < 0
instance (l : List (Int × Int)) (i : Nat) : Decidable (okAt l i) := by unfold okAt; infer_instance
instance (l : List (Int × Int)) (i : Nat) : Decidable (upAt l i) := by unfold upAt; infer_instance
/-- valid and ascending -/
def pfxB (l : List (Int × Int)) : Bool := decide ((∀ i, i < l.length → okAt l i) ∧ ∀ i, i < l.length - 1 → upAt l i)
theorem pfxB_yes {l : List (Int × Int)} {n : Nat} (hn : n = l.length) (h : ∀ i, i < n → okAt l i) (h2 : ∀ i, i + 1 < n → upAt l i) : pfxB l = true := by
 subst hn; simp only [pfxB, decide_eq_true_eq]
 exact ⟨h, fun i hi => h2 i (by omega)⟩
theorem pfxB_ok {l : List (Int × Int)} {k : Nat} {x y : Int} (hk : k < l.length) (hx : l.getD k (0, 0) = (x, y)) (h : pokB x y = false) : pfxB l = false := by
 simp only [pfxB, decide_eq_false_iff_not]; rintro ⟨h1, -⟩; have := h1 k hk; unfold okAt at this; rw [hx] at this; rw [this] at h; cases h
theorem pfxB_up {l : List (Int × Int)} {k : Nat} {a b x y : Int} (hk : k + 1 < l.length) (ha : l.getD k (0, 0) = (a, b)) (hx : l.getD (k + 1) (0, 0) = (x, y)) (h : ¬ cmp2 a b x y < 0) : pfxB l = false := by
 simp only [pfxB, decide_eq_false_iff_not]; rintro ⟨-, h1⟩; have := h1 k (by omega); unfold upAt at this; rw [ha, hx] at this
 exact h this
theorem icmp_t {a n b m r : Int} (w : World) (h : Hid (pcmp a n b m = r)) : Calls Tryz.prog 179 #[.agg #[.int .i64 a, .int .i64 n], .agg #[.int .i64 b, .int .i64 m]] w fun e w' => e = .returned (.int .i64 r) ∧ Below w.heap.size w w' :=
 h.out ▸ icmp_any a n b m w
theorem scmp_t {a n b m r : Int} (w : World) (h : Hid (cmp2 a n b m = r)) : Calls Tryz.prog 172 #[.agg #[.int .i64 a, .int .i64 n], .agg #[.int .i64 b, .int .i64 m]] w fun e w' => e = .returned (.int .i64 r) ∧ Below w.heap.size w w' :=
 h.out ▸ scmp_l a n b m w
theorem ipfx_any (v : Value) (l : List (Int × Int)) (most : Int) (w : World) (h : RdP w v l) :
  Calls Tryz.prog 133 #[v, .int .i64 most] w fun e w' => e = .returned (.bool (decide ((l.length : Int) ≤ most) && pfxB l)) ∧ Below w.heap.size w w' := by
 have hm := h.1; obtain ⟨a, c, rfl, hc⟩ := h.el; obtain ⟨n, hn⟩ : ∃ n, n = l.length := ⟨_, rfl⟩; rw [← hn] at hc hm ⊢; have HN := Lib.hid hn; clear h hn
 by_cases hmost : (n : Int) ≤ most
 ·have e : decide ((n : Int) ≤ most) = true := by simp [hmost]
  rw [e, Bool.true_and]; clear e
  go_enter Tryz.func133, Tryz.ntmps133
  go_wp2
  go_loopw [13] (fun q wr => ∃ k : Nat, k ≤ n ∧ q = .int .i64 k ∧ (∀ i, i < k → okAt l i) ∧ (∀ i, i + 1 < k → upAt l i) ∧ Below w.heap.size w wr) (fun q _ => n - (intOf q).toNat)
  case atStart => exact ⟨0, Nat.zero_le _, rfl, fun i hi => by omega, fun i hi => by omega, Below.refl _ _⟩
  case round =>
   obtain ⟨k, hk, rfl, hok, hup, hB⟩ := hrel; have HO := Lib.hid hok; have HU := Lib.hid hup; clear hok hup
   by_cases hlt : k < n
   ·have hltI : (k : Int) < (n : Int) := by omega
    obtain ⟨b, o, rfl, d0, d1⟩ := hc k hlt; have e0 := cell_keep hB (World.block_lt_of_cell? w _ d0) d0; have e1 := cell_keep hB (World.block_lt_of_cell? w _ d1) d1; obtain ⟨⟨x, y⟩, hx⟩ : ∃ q, l.getD k (0, 0) = q := ⟨_, rfl⟩; rw [hx] at e0 e1; have HX := Lib.hid hx; have HCC := Lib.hid hc; clear hx hc d0 d1; cases hp : pokB x y
    ·have HP := Lib.hid hp
     have HF := Lib.hid (pfxB_ok (by rw [← HN.out]; exact hlt) HX.out hp); clear hp; have bP := Bl.new wr [.int .i64 x, .int .i64 y] PT wr.heap.size rfl; have hB2 : Below w.heap.size w (wr.alloc (.cells #[.int .i64 x, .int .i64 y] PT)) := hB.alloc hB.size _; go_wp2; refine wp_region_class (C := Over ((wr.alloc (.cells #[.int .i64 x, .int .i64 y] PT)))) (by kernel_rfl) (by kernel_rfl) (over_drew _) ?_
     repeat (first | go_big_quiet_skip | (go_big_quiet_want; go_big_quiet_op; go_big_quiet_on) | (go_big_quiet_want; go_big_quiet_op; apply Exists.intro; refine ⟨fun w' hC => ?_, ?_⟩; ((first | (go_at_call 166; refine (ipok_t _ HP).mono ?_; rintro e w1 ⟨rfl, hb1⟩; exact ⟨rfl, over_step hC hb1⟩))); go_big_quiet_on) | (go_big_quiet_want; apply Exists.intro; refine ⟨fun w' hC => ?_, ?_⟩; (have k0 := over_cell hC bP.lt (bP.c 0 rfl); have k1 := over_cell hC bP.lt (bP.c 1 rfl); simp [Oper.quietAt, Oper.quietUpon, go_sem, k0, k1]; first | done | rfl); go_big_quiet_on; simp only [Act.put, List.setIfInBounds_toArray, List.set_cons_zero, List.set_cons_succ]))
     refine wpQuiet_nil ?_; intro wr hC; have k0 := over_cell hC bP.lt (bP.c 0 rfl); have k1 := over_cell hC bP.lt (bP.c 1 rfl); go_wp2
     go_ret
     exact ⟨ret_bool HF.out.symm, below_step hB2 hC⟩
    ·have HP := Lib.hid hp
     have HOK : Hid (∀ i, i < k + 1 → okAt l i) := Lib.hid fun i hi => by
      by_cases e : i = k
      ·unfold okAt; rw [e, HX.out]; exact hp
      ·exact HO.out i (by omega)
     clear hp
     rcases Nat.eq_zero_or_pos k with rfl | hpos
     ·
      simp only [Nat.zero_mul, Nat.add_zero] at e0 e1; have bP := Bl.new wr [.int .i64 x, .int .i64 y] PT wr.heap.size rfl; have hB2 : Below w.heap.size w (wr.alloc (.cells #[.int .i64 x, .int .i64 y] PT)) := hB.alloc hB.size _; go_wp2; refine wp_region_class (C := Over ((wr.alloc (.cells #[.int .i64 x, .int .i64 y] PT)))) (by kernel_rfl) (by kernel_rfl) (over_drew _) ?_
      repeat (first | go_big_quiet_skip | (go_big_quiet_want; go_big_quiet_op; go_big_quiet_on) | (go_big_quiet_want; go_big_quiet_op; apply Exists.intro; refine ⟨fun w' hC => ?_, ?_⟩; ((first | (go_at_call 166; refine (ipok_t _ HP).mono ?_; rintro e w1 ⟨rfl, hb1⟩; exact ⟨rfl, over_step hC hb1⟩))); go_big_quiet_on) | (go_big_quiet_want; apply Exists.intro; refine ⟨fun w' hC => ?_, ?_⟩; (have k0 := over_cell hC bP.lt (bP.c 0 rfl); have k1 := over_cell hC bP.lt (bP.c 1 rfl); simp [Oper.quietAt, Oper.quietUpon, go_sem, k0, k1]; first | done | rfl); go_big_quiet_on; simp only [Act.put, List.setIfInBounds_toArray, List.set_cons_zero, List.set_cons_succ]))
      refine wpQuiet_nil ?_; intro wr hC; have k0 := over_cell hC bP.lt (bP.c 0 rfl); have k1 := over_cell hC bP.lt (bP.c 1 rfl); go_wp2
      go_roundw
      case rel => exact ⟨0 + 1, by omega, by go_num, HOK.out, fun i hi => by omega, below_step hB2 hC⟩
      case measure => simp [intOf]; omega
     ·obtain ⟨j, rfl⟩ : ∃ j, k = j + 1 := ⟨k - 1, by omega⟩
      obtain ⟨b', o', hbo, d2, d3⟩ := HCC.out j (by omega); obtain ⟨rfl, rfl⟩ : b = b' ∧ o = o' := by simpa using hbo
      clear hbo; obtain ⟨⟨s, t⟩, hs⟩ : ∃ q, l.getD j (0, 0) = q := ⟨_, rfl⟩; rw [hs] at d2 d3; have HS := Lib.hid hs
      have hr0 : pcmp s t x y = cmp2 s t x y := by
       have h1 := HO.out j (by omega); unfold okAt at h1; rw [hs] at h1; unfold pcmp; rw [h1, HP.out]
       rfl
      obtain ⟨r, hr⟩ : ∃ r, pcmp s t x y = r := ⟨_, rfl⟩; have HR := Lib.hid hr; rw [hr] at hr0; have HR0 := Lib.hid hr0; clear hs hr hr0
      by_cases hneg : r < 0
      ·have HUP : Hid (∀ i, i + 1 < j + 1 + 1 → upAt l i) := Lib.hid fun i hi => by
        by_cases e : i = j
        ·unfold upAt; rw [e, HS.out, HX.out, ← HR0.out]; exact hneg
        ·exact HU.out i (by omega)
       have bP := Bl.new wr [.int .i64 x, .int .i64 y] PT wr.heap.size rfl; have hB2 : Below w.heap.size w (wr.alloc (.cells #[.int .i64 x, .int .i64 y] PT)) := hB.alloc hB.size _; have f0 := cell_keep hB2 (World.block_lt_of_cell? w _ d2) d2; have f1 := cell_keep hB2 (World.block_lt_of_cell? w _ d3) d3; clear d2 d3; have hwj : IntKind.i64.wrap (j : Int) = j := wrap64_in _ (by omega) (by omega); have hjI : (j : Int) < (n : Int) := by omega
       have hjN : j < n := by omega
       go_wp2; refine wp_region_class (C := Over ((wr.alloc (.cells #[.int .i64 x, .int .i64 y] PT)))) (by kernel_rfl) (by kernel_rfl) (over_drew _) ?_
       repeat (first | go_big_quiet_skip | (go_big_quiet_want; go_big_quiet_op; go_big_quiet_on) | (go_big_quiet_want; go_big_quiet_op; apply Exists.intro; refine ⟨fun w' hC => ?_, ?_⟩; ((first | (go_at_call 166; refine (ipok_t _ HP).mono ?_; rintro e w1 ⟨rfl, hb1⟩; exact ⟨rfl, over_step hC hb1⟩) | (go_at_call 179; refine (icmp_t _ HR).mono ?_; rintro e w1 ⟨rfl, hb1⟩; exact ⟨rfl, over_step hC hb1⟩))); go_big_quiet_on) | (go_big_quiet_want; apply Exists.intro; refine ⟨fun w' hC => ?_, ?_⟩; (have k0 := over_cell hC bP.lt (bP.c 0 rfl); have k1 := over_cell hC bP.lt (bP.c 1 rfl); have k2 := over_cell hC (World.block_lt_of_cell? _ _ f0) f0; have k3 := over_cell hC (World.block_lt_of_cell? _ _ f1) f1; simp [Oper.quietAt, Oper.quietUpon, go_sem, k0, k1, k2, k3, hwj, hjI, hjN]; first | done | rfl); go_big_quiet_on; simp only [Act.put, List.setIfInBounds_toArray, List.set_cons_zero, List.set_cons_succ]))
       refine wpQuiet_nil ?_; intro wr hC; have k0 := over_cell hC bP.lt (bP.c 0 rfl); have k1 := over_cell hC bP.lt (bP.c 1 rfl); have k2 := over_cell hC (World.block_lt_of_cell? _ _ f0) f0; have k3 := over_cell hC (World.block_lt_of_cell? _ _ f1) f1; go_wp2
       go_roundw
       case rel => exact ⟨j + 1 + 1, by omega, by go_num, HOK.out, HUP.out, below_step hB2 hC⟩
       case measure => simp [intOf]; omega
      ·have HF := Lib.hid (pfxB_up (by rw [← HN.out]; exact hlt) HS.out HX.out (by rw [← HR0.out]; exact hneg))
       have bP := Bl.new wr [.int .i64 x, .int .i64 y] PT wr.heap.size rfl; have hB2 : Below w.heap.size w (wr.alloc (.cells #[.int .i64 x, .int .i64 y] PT)) := hB.alloc hB.size _; have f0 := cell_keep hB2 (World.block_lt_of_cell? w _ d2) d2; have f1 := cell_keep hB2 (World.block_lt_of_cell? w _ d3) d3; clear d2 d3; have hwj : IntKind.i64.wrap (j : Int) = j := wrap64_in _ (by omega) (by omega); have hjI : (j : Int) < (n : Int) := by omega
       have hjN : j < n := by omega
       go_wp2; refine wp_region_class (C := Over ((wr.alloc (.cells #[.int .i64 x, .int .i64 y] PT)))) (by kernel_rfl) (by kernel_rfl) (over_drew _) ?_
       repeat (first | go_big_quiet_skip | (go_big_quiet_want; go_big_quiet_op; go_big_quiet_on) | (go_big_quiet_want; go_big_quiet_op; apply Exists.intro; refine ⟨fun w' hC => ?_, ?_⟩; ((first | (go_at_call 166; refine (ipok_t _ HP).mono ?_; rintro e w1 ⟨rfl, hb1⟩; exact ⟨rfl, over_step hC hb1⟩) | (go_at_call 179; refine (icmp_t _ HR).mono ?_; rintro e w1 ⟨rfl, hb1⟩; exact ⟨rfl, over_step hC hb1⟩))); go_big_quiet_on) | (go_big_quiet_want; apply Exists.intro; refine ⟨fun w' hC => ?_, ?_⟩; (have k0 := over_cell hC bP.lt (bP.c 0 rfl); have k1 := over_cell hC bP.lt (bP.c 1 rfl); have k2 := over_cell hC (World.block_lt_of_cell? _ _ f0) f0; have k3 := over_cell hC (World.block_lt_of_cell? _ _ f1) f1; simp [Oper.quietAt, Oper.quietUpon, go_sem, k0, k1, k2, k3, hwj, hjI, hjN]; first | done | rfl); go_big_quiet_on; simp only [Act.put, List.setIfInBounds_toArray, List.set_cons_zero, List.set_cons_succ]))
       refine wpQuiet_nil ?_; intro wr hC; have k0 := over_cell hC bP.lt (bP.c 0 rfl); have k1 := over_cell hC bP.lt (bP.c 1 rfl); have k2 := over_cell hC (World.block_lt_of_cell? _ _ f0) f0; have k3 := over_cell hC (World.block_lt_of_cell? _ _ f1) f1; go_wp2
       go_ret
       exact ⟨ret_bool HF.out.symm, below_step hB2 hC⟩
   ·have hkn : k = n := by omega
    subst hkn; have HF := Lib.hid (pfxB_yes HN.out HO.out HU.out); clear hc; go_wp2
    go_ret
    exact ⟨ret_bool HF.out.symm, hB⟩
 ·have e : (decide ((n : Int) ≤ most) && pfxB l) = false := by simp [hmost]
  rw [e]; clear e
  go_enter Tryz.func133, Tryz.ntmps133
  go_wp2
  go_ret
  exact ⟨rfl, Below.refl _ _⟩
end Go.Proofs.YtkodnipmogdgkaaGreat
namespace Go.Proofs.YtkodnipmogdgkaaGreat
open Go.ChangeShapes Go.WideShapes Go.ChangeAt Go.RowKit Go.BigFrame Go.Joins
set_option linter.unusedVariables false
set_option maxRecDepth 100000

theorem contains_any (v : Value) (l : List Int) (x : Int) (w : World) (h : RdI w v l) :
  Calls Tryz.prog 105 #[v, .int .i64 x] w fun e w' => e = .returned (.bool (decide (x ∈ l))) ∧ Below w.heap.size w w' := by
 have hm := h.2.1; unfold maxLen at hm
 rcases h.2.2 with ⟨a, c, rfl, rfl, hac⟩ | ⟨b, o, c, rfl, hp, hc⟩
 ·exact (Tryz.slices_Contains_int_empty a c x w).mono fun e w' ⟨he, hw⟩ => ⟨he, hw ▸ Below.refl _ _⟩
 ·have := Tryz.slices_Contains_int b o l.length c l x w (Nat.le_refl _) (by omega) hc
  rw [List.take_length, List.contains_eq_mem] at this
  exact this.mono fun e w' ⟨he, hw⟩ => ⟨he, hw ▸ Below.refl _ _⟩
theorem contains_yes {l : List Int} {k : Nat} {x : Int} (hk : k < l.length) (hx : l.getD k 0 = x) : decide (x ∈ l) = true := by
 have e : l.getD k 0 = l[k] := by simp [List.getD, hk]
 rw [e] at hx; simp only [decide_eq_true_eq]; rw [← hx]
 exact List.getElem_mem hk
theorem contains_no {l : List Int} {n : Nat} {x : Int} (hn : n = l.length) (h : ∀ i, i < n → l.getD i 0 ≠ x) : decide (x ∈ l) = false := by
 cases hc : decide (x ∈ l)
 ·rfl
 ·simp only [decide_eq_true_eq] at hc
  obtain ⟨i, hi, e⟩ := List.mem_iff_getElem.1 hc; have := h i (by omega); have e2 : l.getD i 0 = l[i] := by simp [List.getD, hi]
  rw [e2, e] at this
  exact absurd rfl this
theorem shas_any (v : Value) (l : List Int) (x : Int) (w : World) (h : RdI w v l) :
  Calls Tryz.prog 124 #[v, .int .i64 x] w fun e w' => e = .returned (.bool (decide (x ∈ l))) ∧ Below w.heap.size w w' := by
 have hm := h.2.1; unfold maxLen at hm; obtain ⟨a, c, rfl, hc⟩ := h.el; obtain ⟨n, hn⟩ : ∃ n, n = l.length := ⟨_, rfl⟩; rw [← hn] at hc hm ⊢; have HN := Lib.hid hn; clear h hn
 go_enter Tryz.func124, Tryz.ntmps124
 go_wp2
 go_loopw [5] (fun q wr => ∃ k : Nat, k ≤ n ∧ q = .int .i64 k ∧ (∀ i, i < k → l.getD i 0 ≠ x) ∧ Below w.heap.size w wr) (fun q _ => n - (intOf q).toNat)
 case atStart => exact ⟨0, Nat.zero_le _, rfl, fun i hi => by omega, Below.refl _ _⟩
 case round =>
  obtain ⟨k, hk, rfl, hall, hB⟩ := hrel; have HA := Lib.hid hall; clear hall
  by_cases hlt : k < n
  ·have hltI : (k : Int) < (n : Int) := by omega
   obtain ⟨b, o, rfl, e1⟩ := hc k hlt; replace e1 := cell_keep hB (World.block_lt_of_cell? w _ e1) e1; obtain ⟨y, hy⟩ : ∃ y, l.getD k 0 = y := ⟨_, rfl⟩; rw [hy] at e1; have HX := Lib.hid hy; clear hy hc
   by_cases hyx : y = x
   ·have HF := Lib.hid (contains_yes (by rw [← HN.out]; exact hlt) (HX.out.trans hyx))
    have hq : (y == x) = true := by simp [hyx]
    clear hyx; go_wp2
    first | (go_quiet (fail); go_wp2) | skip
    go_ret
    exact ⟨ret_bool HF.out.symm, by first | exact hB | exact below_drewN hB _⟩
   ·have hq : (y == x) = false := by simp [hyx]
    have HL := Lib.hid hyx; clear hyx; go_wp2
    first | (go_quiet (fail); go_wp2) | skip
    go_roundw
    case rel => exact ⟨k + 1, by omega, by go_num, fun i hi => by
      by_cases e : i = k
      ·rw [e, HX.out]; exact HL.out
      ·exact HA.out i (by omega), by first | exact hB | exact below_drewN hB _⟩
    case measure => simp [intOf]; omega
  ·have hkn : k = n := by omega
   have HF := Lib.hid (contains_no HN.out (by rw [← hkn]; exact HA.out)); clear hkn hc; go_wp2
   go_ret
   exact ⟨ret_bool HF.out.symm, hB⟩
end Go.Proofs.YtkodnipmogdgkaaGreat
namespace Go.Proofs.YtkodnipmogdgkaaGreat
open Go.ChangeShapes Go.WideShapes Go.ChangeAt Go.RowKit Go.BigFrame Go.Joins
set_option linter.unusedVariables false
set_option maxRecDepth 100000

theorem iaok_t {pv cv : Value} {p c : List Int} {pr bw : Int} {b : Bool} (w : World) (hp : RdI w pv p) (hc : RdI w cv c) (H : Hid (aokB p pr c bw = b)) :
  Calls Tryz.prog 162 #[.agg #[pv, .int .i64 pr, cv, .int .i64 bw]] w fun e w' => e = .returned (.bool b) ∧ Below w.heap.size w w' := H.out ▸ iaok_any pv cv p c pr bw w hp hc
theorem saok_t {pv cv : Value} {p c : List Int} {pr bw : Int} {b : Bool} (w : World) (hp : RdI w pv p) (hc : RdI w cv c) (H : Hid (aokB p pr c bw = b)) :
  Calls Tryz.prog 176 #[.agg #[pv, .int .i64 pr, cv, .int .i64 bw]] w fun e w' => e = .returned (.bool b) ∧ Below w.heap.size w w' := H.out ▸ saok_any pv cv p c pr bw w hp hc
theorem ipath_any (pv cv : Value) (p c : List Int) (pr bw an : Int) (w : World) (hp : RdI w pv p) (hc : RdI w cv c) :
  Calls Tryz.prog 163 #[.agg #[pv, .int .i64 pr, cv, .int .i64 bw], .int .i64 an] w fun e w' => e = .returned (.bool (aokB p pr c bw && decide (an ∈ p))) ∧ Below w.heap.size w w' := by
 obtain ⟨c0, c1, c2, c3, lt, B0⟩ := box4 w pv (.int .i64 pr) cv (.int .i64 bw) 134; have hp1 := hp.alloc (.cells #[pv, .int .i64 pr, cv, .int .i64 bw] 134); have hc1 := hc.alloc (.cells #[pv, .int .i64 pr, cv, .int .i64 bw] 134); cases hA : aokB p pr c bw
 ·rw [Bool.false_and]
  have HA := Lib.hid hA; clear hA
  go_enter Tryz.func163, Tryz.ntmps163
  go_wp2_with fail; refine (iaok_t _ hp1 hc1 HA).mono ?_; rintro e w1 ⟨rfl, hb⟩; replace c0 := cell_keep hb lt c0; replace c1 := cell_keep hb lt c1; replace c2 := cell_keep hb lt c2; replace c3 := cell_keep hb lt c3; replace lt := Nat.lt_of_lt_of_le lt hb.size; replace hp1 := hp1.keep hb; replace hc1 := hc1.keep hb; replace B0 := below_step B0 hb; clear hb; go_wp2
  go_ret
  exact ⟨rfl, B0⟩
 ·rw [Bool.true_and]
  have HA := Lib.hid hA; clear hA
  go_enter Tryz.func163, Tryz.ntmps163
  go_wp2_with fail; refine (iaok_t _ hp1 hc1 HA).mono ?_; rintro e w1 ⟨rfl, hb⟩; replace c0 := cell_keep hb lt c0; replace c1 := cell_keep hb lt c1; replace c2 := cell_keep hb lt c2; replace c3 := cell_keep hb lt c3; replace lt := Nat.lt_of_lt_of_le lt hb.size; replace hp1 := hp1.keep hb; replace hc1 := hc1.keep hb; replace B0 := below_step B0 hb; clear hb; go_wp2_with fail; refine (contains_any _ p an _ hp1).mono ?_; rintro e w2 ⟨rfl, hb⟩; replace c0 := cell_keep hb lt c0; replace c1 := cell_keep hb lt c1; replace c2 := cell_keep hb lt c2; replace c3 := cell_keep hb lt c3; replace lt := Nat.lt_of_lt_of_le lt hb.size; replace hp1 := hp1.keep hb; replace hc1 := hc1.keep hb; replace B0 := below_step B0 hb; clear hb; go_wp2
  go_ret
  exact ⟨rfl, B0⟩
end Go.Proofs.YtkodnipmogdgkaaGreat
