/-
  Copies of tables, of the program and of the model. Conditions: those in each contract.
-/
import Derived.Test.YtaiffofmhfflkaaGreatEB
namespace Go.Proofs.YtaiffofmhfflkaaGreat
open Go.ChangeShapes Go.WideShapes Go.ChangeAt Go.RowKit Go.BigFrame Go.Joins
set_option linter.unusedVariables false
set_option maxRecDepth 100000
set_option linter.unusedSimpArgs false
set_option maxRecDepth 100000

/-- a table of the call's own with these entries -/
def NewRib (w : World) (L : List Ent) (e : Ending) (w' : World) : Prop :=
  ∃ (u : Value) (T : List ET), e = .returned (.agg #[u]) ∧ OwnT w' w.heap.size u T ∧ entT T = L ∧ Below w.heap.size w w'
theorem sepNew {w w' : World} {base b n : Nat} {v u : Value} {xs : List Value} {l : List Int} (h1 : w.ownsRow base EI 7 v n xs) (h2 : OwnI w' b u l) (h : w.heap.size ≤ b) : u.ownBlock = none ∨ u.ownBlock ≠ v.ownBlock := by
  cases hu : u.ownBlock with
  | none => exact .inl rfl
  | some k =>
    refine .inr fun q => ?_
    have a := (World.ownsRow.lt h2 k hu).1
    have c := (World.ownsRow.lt h1 k q.symm).2
    omega
theorem neRow {w : World} {base n B : Nat} {v : Value} {xs : List Value} (h : w.ownsRow base EI 7 v n xs) (hB : B < base) : some B ≠ v.ownBlock := fun q => by
  have := (World.ownsRow.lt h B q.symm).1
  omega
theorem below_growT {V w w' : World} {v : Value} {base n : Nat} {xs : List Value} (h : Below V.heap.size V w) (ho : w.ownsRow base EI 7 v n xs) (hb : V.heap.size ≤ base) (hg : w.grownBy w' v.ownBlock) : Below V.heap.size V w' :=
  Below.grown h hg h.size (fun k hk => Nat.le_trans hb (World.ownsRow.lt ho k hk).1)
theorem take_entT {L : List Ent} {T : List ET} {k : Nat} {t : ET} (h : entT T = L.take k) (hk : k < L.length) (hx : L.getD k e0 = t.E) : entT (T ++ [t]) = L.take (k + 1) := by
  have hg : L[k] = t.E := by simpa [List.getD, hk] using hx
  rw [entT_append, h, List.take_add_one, List.getElem?_eq_getElem hk, hg]
  rfl
theorem step_T {V w2 w4 : World} {base : Nat} {v v' : Value} {T : List ET} {t : ET} (h : OwnT V base v T) (hV : base ≤ V.heap.size) (B : Below V.heap.size V w2) (o1 : OwnI w2 V.heap.size t.u t.E.p) (o2 : OwnI w2 V.heap.size t.v t.E.c)
    (hl : (∃ a c, t.u = .slice a t.E.p.length c) ∧ ∃ a c, t.v = .slice a t.E.c.length c) (ap : Apart t.u t.v) (hrow : w4.ownsRow base EI 7 v' (T.length + 1) (flatT T ++ cellsT t)) (hg : w2.grownBy w4 v.ownBlock) (hor : v'.ownBlock = v.ownBlock ∨ v'.ownBlock = some w2.heap.size) : OwnT w4 base v' (T ++ [t]) :=
  own_appT (h.keep B) (Nat.le_trans hV B.size) ⟨o1.mono hV, o2.mono hV⟩ hl ap
    (fun s hs => ⟨apartI (h.own s hs).1 o1 (Nat.le_refl _), apartI (h.own s hs).1 o2 (Nat.le_refl _), apartI (h.own s hs).2 o1 (Nat.le_refl _), apartI (h.own s hs).2 o2 (Nat.le_refl _)⟩)
    ⟨sepNew h.row o1 (Nat.le_refl _), sepNew h.row o2 (Nat.le_refl _)⟩ hrow hg hor
set_option maxHeartbeats 2000000 in
theorem irc_any (v : Value) (L : List Ent) (w : World) (h : RdE w v L) (hn1 : L.length ≤ 1048576) (hln : ∀ j, j < L.length → (L.getD j e0).p.length ≤ 1048576 ∧ (L.getD j e0).c.length ≤ 1048576) :
    Calls Tryz.prog 113 #[.agg #[v]] w (NewRib w L) := by
  obtain ⟨a, c, rfl, hc⟩ := h.el
  obtain ⟨n, hn⟩ : ∃ n, n = L.length := ⟨_, rfl⟩
  rw [← hn] at hc hn1 hln ⊢
  have HN := Lib.hid hn
  clear h hn
  obtain ⟨bA, bR, bO, B0, z⟩ := three w [.slice a n c] [.slice none 0 0] [.slice none 0 0] 32 32 32
  have a0 := bA.c 0 rfl
  go_enter Tryz.func113, Tryz.ntmps113
  go_wp2
  clear a0
  obtain ⟨W1, hW⟩ : ∃ W1, W1 = ((w.alloc (.cells #[.slice a n c] 32)).alloc (.cells #[.slice none 0 0] 32)).alloc (.cells #[.slice none 0 0] 32) := ⟨_, rfl⟩
  rw [← hW] at bA bR bO B0 z ⊢
  obtain ⟨A, hA⟩ : ∃ A, A = w.heap.size := ⟨_, rfl⟩
  obtain ⟨R, hR⟩ : ∃ R, R = w.heap.size + 1 := ⟨_, rfl⟩
  obtain ⟨O, hO⟩ : ∃ O, O = w.heap.size + 1 + 1 := ⟨_, rfl⟩
  rw [← hA] at bA
  rw [← hR] at bR
  rw [← hO] at bO
  try rw [← hO]
  try rw [← hR]
  try rw [← hA]
  have hwA : w.heap.size ≤ A := by omega
  have hwR : w.heap.size ≤ R := by omega
  have hwO : w.heap.size ≤ O := by omega
  have hAO : A ≠ O := by omega
  have hRO : R ≠ O := by omega
  have hAR : A ≠ R := by omega
  have hAW : A < W1.heap.size := by rw [z]; omega
  have hRW : R < W1.heap.size := by rw [z]; omega
  have hOW : O < W1.heap.size := by rw [z]; omega
  have hwW : w.heap.size ≤ W1.heap.size := B0.size
  clear hA hR hO hW z
  go_loopw [9] (fun q wr => ∃ k : Nat, k ≤ n ∧ q = .int .i64 k ∧ ∃ (v2 : Value) (T : List ET), OwnT wr W1.heap.size v2 T ∧ entT T = L.take k ∧ Bl wr O [v2] ∧ Bl wr R [.slice none 0 0] ∧ Bl wr A [.slice a n c] ∧ Below w.heap.size w wr ∧ W1.heap.size ≤ wr.heap.size) (fun q _ => n - (intOf q).toNat)
  case atStart => exact ⟨0, Nat.zero_le _, rfl, _, [], OwnT.nil _ _, rfl, bO, bR, bA, B0, Nat.le_refl _⟩
  case round =>
    obtain ⟨k, hk, rfl, v2, T, hT, hTE, bO1, bR1, bA1, hB, hsz⟩ := hrel
    by_cases hlt : k < n
    · have hltI : (k : Int) < (n : Int) := by omega
      obtain ⟨b, o, rfl, hE⟩ := hc k hlt
      obtain ⟨E, hx⟩ : ∃ E, L.getD k e0 = E := ⟨_, rfl⟩
      have hl2 := hln k hlt
      rw [hx] at hE hl2
      obtain ⟨pv, cv, hp, hq, g0, g1, g2, g3, g4, g5, g6⟩ := hE.keep hB
      obtain ⟨pa, px, rfl⟩ := hp.len
      obtain ⟨qa, qx, rfl⟩ := hq.len
      have HTE : Hid (∀ t : ET, t.E = E → entT (T ++ [t]) = L.take (k + 1)) := Lib.hid fun t ht => take_entT hTE (by rw [← HN.out]; exact hlt) (by rw [hx, ht])
      have HL : Hid (T.length + 1 ≤ 4294967296) := Lib.hid (by have e := congrArg List.length hTE; rw [entT_len, List.length_take] at e; omega)
      have bP := Bl.new wr [.int .i64 E.a, .int .i64 E.n, .int .i64 E.pe, .slice pa E.p.length px, .int .i64 E.pr, .slice qa E.c.length qx, .int .i64 E.bw] EI wr.heap.size rfl
      have A1 : Below wr.heap.size wr (wr.alloc (.cells #[.int .i64 E.a, .int .i64 E.n, .int .i64 E.pe, .slice pa E.p.length px, .int .i64 E.pr, .slice qa E.c.length qx, .int .i64 E.bw] EI)) := (Below.refl _ _).alloc (Nat.le_refl _) _
      have hp1 := hp.keep A1
      have hq1 := hq.keep A1
      have o0 := (bO1.keep A1).c 0 rfl
      have p0 := bP.c 0 rfl
      have p1 := bP.c 1 rfl
      have p2 := bP.c 2 rfl
      have p3 := bP.c 3 rfl
      have p4 := bP.c 4 rfl
      have p5 := bP.c 5 rfl
      have p6 := bP.c 6 rfl
      have HC := Lib.hid hc
      have HLN := Lib.hid hln
      clear hx hc hln hE hTE
      go_wp2_with fail
      clear p0 p1 p2 p3 p4 p5 p6 o0
      obtain ⟨V, hV⟩ : ∃ V, V = wr.alloc (.cells #[.int .i64 E.a, .int .i64 E.n, .int .i64 E.pe, .slice pa E.p.length px, .int .i64 E.pr, .slice qa E.c.length qx, .int .i64 E.bw] EI) := ⟨_, rfl⟩
      have hVs : wr.heap.size < V.heap.size := by rw [hV]; simp
      rw [← hV] at bP A1 hp1 hq1 ⊢
      obtain ⟨P, hP⟩ : ∃ P, P = wr.heap.size := ⟨_, rfl⟩
      rw [← hP] at bP ⊢
      have hOP : O ≠ P := by have := bO1.lt; omega
      have hT1 := hT.keep A1
      have hB1 := below_step hB A1
      replace bO1 := bO1.keep A1
      replace bR1 := bR1.keep A1
      replace bA1 := bA1.keep A1
      have hsV : W1.heap.size ≤ V.heap.size := by omega
      have hneP : some P ≠ v2.ownBlock := fun q => by
        have := (World.ownsRow.lt hT.row P q.symm).2
        omega
      clear hV hP A1 hVs hsz hT g0 g1 g2 g3 g4 g5 g6 hp hq
      refine wp_region_held_drew (S := fun w' => Bl w' P [.int .i64 E.a, .int .i64 E.n, .int .i64 E.pe, .slice pa E.p.length px, .int .i64 E.pr, .slice qa E.c.length qx, .int .i64 E.bw]) (by kernel_rfl) (bP.keep (over_drew _)) (fun hHeld => ?_)
      clear hHeld
      obtain ⟨D, hD⟩ : ∃ D, D = V.drew := ⟨_, rfl⟩
      have OD : Over V D := by rw [hD]; exact over_drew _
      rw [← hD]
      clear hD
      have bPD := bP.keep OD
      have hSD := bPD
      refine wpAnyH_take (i := 0) (v := ?_) rfl (by kernel_rfl) (by kernel_rfl) (by kernel_rfl) (fun _ _ _ h => h) (Or.inl ⟨by rfl, ?_⟩) hSD ?_
      rotate_left
      · intro wq hSq
        (try dsimp only at hSq)

        go_simp
        try rfl
      change wpAnyH _ _ _ _ _ _ _ (Act.put _ (some 13) _) _
      simp only [Act.put, List.setIfInBounds_toArray, List.set_cons_succ, List.set_cons_zero]
      refine wpAnyH_take (i := 2) (v := ?_) rfl (by kernel_rfl) (by kernel_rfl) (by kernel_rfl) (fun _ _ _ h => h) (Or.inl ⟨by rfl, ?_⟩) hSD ?_
      rotate_left
      · intro wq hSq
        (try dsimp only at hSq)
        have q0 := hSq.c 0 rfl
        have q1 := hSq.c 1 rfl
        have q2 := hSq.c 2 rfl
        have q3 := hSq.c 3 rfl
        have q4 := hSq.c 4 rfl
        have q5 := hSq.c 5 rfl
        have q6 := hSq.c 6 rfl
        go_simp
        try rfl
      change wpAnyH _ _ _ _ _ _ _ (Act.put _ (some 15) _) _
      simp only [Act.put, List.setIfInBounds_toArray, List.set_cons_succ, List.set_cons_zero]
      clear hSD
      refine wpAnyH_ready (rs := [1, 3]) (by kernel_rfl) (by simp) ?_
      refine (AllReadyH.cons rfl (fun K hK => ?_) (AllReadyH.cons rfl (fun K hK => ?_) AllReadyH.nil))
      · have q := (bO1.keep OD).c 0 rfl
        go_simp
        refine hK.out _ _ bPD (fun hHeld => ?_)
        clear hK K hHeld q
        try simp only [Act.put, List.setIfInBounds_toArray, List.set_cons_zero, List.set_cons_succ]
        refine wpAnyH_ready (rs := [3]) (by kernel_rfl) (by simp) ?_
        refine (AllReadyH.cons rfl (fun K hK => ?_) AllReadyH.nil)
        go_simp
        refine (ice_any _ _ _ _ _ _ _ _ _ D (hp1.keep OD) (hq1.keep OD) hl2.1 hl2.2).mono ?_
        rintro e w1 ⟨x, y, f, g, rfl, oo1, oo2, ap, B2⟩
        refine hK.out _ _ (bPD.keep B2) (fun hHeld => ?_)
        clear hK K hHeld
        try simp only [Act.put, List.setIfInBounds_toArray, List.set_cons_zero, List.set_cons_succ]
        refine wpAnyH_ready (rs := [4]) (by kernel_rfl) (by simp) ?_
        refine (AllReadyH.cons rfl (fun K hK => ?_) AllReadyH.nil)
        go_simp
        have bN := Bl.new w1 [.int .i64 E.a, .int .i64 E.n, .int .i64 E.pe, .slice x E.p.length y, .int .i64 E.pr, .slice f E.c.length g, .int .i64 E.bw] EI w1.heap.size rfl
        have N1 : Below w1.heap.size w1 (w1.alloc (.cells #[.int .i64 E.a, .int .i64 E.n, .int .i64 E.pe, .slice x E.p.length y, .int .i64 E.pr, .slice f E.c.length g, .int .i64 E.bw] EI)) := (Below.refl _ _).alloc (Nat.le_refl _) _
        have B3 : Below D.heap.size D (w1.alloc (.cells #[.int .i64 E.a, .int .i64 E.n, .int .i64 E.pe, .slice x E.p.length y, .int .i64 E.pr, .slice f E.c.length g, .int .i64 E.bw] EI)) := below_step B2 N1
        refine hK.out _ _ (bPD.keep B3) (fun hHeld => ?_)
        clear hK K hHeld
        try simp only [Act.put, List.setIfInBounds_toArray, List.set_cons_zero, List.set_cons_succ]
        refine wpAnyH_ready (rs := [5]) (by kernel_rfl) (by simp) ?_
        refine (AllReadyH.cons rfl (fun K hK => ?_) AllReadyH.nil)
        have hT2 := hT1.keep OD
        have hWD : W1.heap.size ≤ D.heap.size := Nat.le_trans hsV OD.size
        refine step_appE rfl (.tmp 14) (.tmp 17) rfl W1.heap.size w1.heap.size 1 v2 T.length (flatT T) [.int .i64 E.a, .int .i64 E.n, .int .i64 E.pe, .slice x E.p.length y, .int .i64 E.pr, .slice f E.c.length g, .int .i64 E.bw] rfl rfl (hT2.keep B3).row bN rfl (by simp [Value.oneCell']) HL.out (Nat.le_trans hWD B3.size) ?_
        intro v3 w3 hrow hg hor
        have hT3 : OwnT w3 W1.heap.size v3 (T ++ [⟨E, .slice x E.p.length y, .slice f E.c.length g⟩]) := step_T hT2 hWD B3 (oo1.keep N1) (oo2.keep N1) ⟨⟨_, _, rfl⟩, ⟨_, _, rfl⟩⟩ ap hrow hg hor
        have hB3 : Below w.heap.size w w3 := below_growT (below_step (below_step hB1 OD) B3) (hT2.keep B3).row hwW hg
        have bO3 := ((bO1.keep OD).keep B3).grown hg (neRow (hT2.keep B3).row hOW)
        have bP3 := (bPD.keep B3).grown hg hneP
        have bR3 := ((bR1.keep OD).keep B3).grown hg (neRow (hT2.keep B3).row hRW)
        have bA3 := ((bA1.keep OD).keep B3).grown hg (neRow (hT2.keep B3).row hAW)
        have hs3 := Nat.le_trans hWD (Nat.le_trans B3.size hg.size)
        clear hg hrow hor
        obtain ⟨x3, y3, rfl⟩ : ∃ x3 y3, v3 = .slice x3 (T.length + 1) y3 := by
          obtain ⟨x3, y3, e3⟩ := hT3.lenV
          exact ⟨x3, y3, by simpa using e3⟩
        refine hK.out _ _ bP3 (fun hHeld => ?_)
        clear hK K hHeld
        try simp only [Act.put, List.setIfInBounds_toArray, List.set_cons_zero, List.set_cons_succ]
        refine wpAnyH_ready (rs := [6]) (by kernel_rfl) (by simp) ?_
        refine (AllReadyH.cons rfl (fun K hK => ?_) AllReadyH.nil)
        go_simp
        refine hK.out _ _ bP3 (fun hHeld => ?_)
        clear hK K hHeld
        try simp only [Act.put, List.setIfInBounds_toArray, List.set_cons_zero, List.set_cons_succ]
        refine wpAnyH_ready (rs := [7]) (by kernel_rfl) (by simp) ?_
        refine (AllReadyH.cons rfl (fun K hK => ?_) AllReadyH.nil)
        have o0 := bO3.c 0 rfl
        have of0 := bO3.f 0 rfl
        go_simp
        refine hK.out _ _ (bP3.far hOP.symm) (fun hHeld => ?_)
        clear hK K hHeld o0 of0
        try simp only [Act.put, List.setIfInBounds_toArray, List.set_cons_zero, List.set_cons_succ]
        refine wpAnyH_done (by kernel_rfl) ?_ _
        go_wp2
        go_roundw
        case rel => exact ⟨k + 1, by omega, by go_num, _, _, hT3.far hOW, HTE.out _ rfl, bO3.set 0 _, bR3.far hRO, bA3.far hAO, hB3.setCell (p := ⟨O, 0, none⟩) hwO _, by simpa using hs3⟩
        case measure => simp [intOf]; omega
      · go_simp
        refine (ice_any _ _ _ _ _ _ _ _ _ D (hp1.keep OD) (hq1.keep OD) hl2.1 hl2.2).mono ?_
        rintro e w1 ⟨x, y, f, g, rfl, oo1, oo2, ap, B2⟩
        refine hK.out _ _ (bPD.keep B2) (fun hHeld => ?_)
        clear hK K hHeld
        try simp only [Act.put, List.setIfInBounds_toArray, List.set_cons_zero, List.set_cons_succ]
        refine wpAnyH_ready (rs := [1, 4]) (by kernel_rfl) (by simp) ?_
        refine (AllReadyH.cons rfl (fun K hK => ?_) (AllReadyH.cons rfl (fun K hK => ?_) AllReadyH.nil))
        · have q := ((bO1.keep OD).keep B2).c 0 rfl
          go_simp
          refine hK.out _ _ (bPD.keep B2) (fun hHeld => ?_)
          clear hK K hHeld q
          try simp only [Act.put, List.setIfInBounds_toArray, List.set_cons_zero, List.set_cons_succ]
          refine wpAnyH_ready (rs := [4]) (by kernel_rfl) (by simp) ?_
          refine (AllReadyH.cons rfl (fun K hK => ?_) AllReadyH.nil)
          go_simp
          have bN := Bl.new w1 [.int .i64 E.a, .int .i64 E.n, .int .i64 E.pe, .slice x E.p.length y, .int .i64 E.pr, .slice f E.c.length g, .int .i64 E.bw] EI w1.heap.size rfl
          have N1 : Below w1.heap.size w1 (w1.alloc (.cells #[.int .i64 E.a, .int .i64 E.n, .int .i64 E.pe, .slice x E.p.length y, .int .i64 E.pr, .slice f E.c.length g, .int .i64 E.bw] EI)) := (Below.refl _ _).alloc (Nat.le_refl _) _
          have B3 : Below D.heap.size D (w1.alloc (.cells #[.int .i64 E.a, .int .i64 E.n, .int .i64 E.pe, .slice x E.p.length y, .int .i64 E.pr, .slice f E.c.length g, .int .i64 E.bw] EI)) := below_step B2 N1
          refine hK.out _ _ (bPD.keep B3) (fun hHeld => ?_)
          clear hK K hHeld
          try simp only [Act.put, List.setIfInBounds_toArray, List.set_cons_zero, List.set_cons_succ]
          refine wpAnyH_ready (rs := [5]) (by kernel_rfl) (by simp) ?_
          refine (AllReadyH.cons rfl (fun K hK => ?_) AllReadyH.nil)
          have hT2 := hT1.keep OD
          have hWD : W1.heap.size ≤ D.heap.size := Nat.le_trans hsV OD.size
          refine step_appE rfl (.tmp 14) (.tmp 17) rfl W1.heap.size w1.heap.size 1 v2 T.length (flatT T) [.int .i64 E.a, .int .i64 E.n, .int .i64 E.pe, .slice x E.p.length y, .int .i64 E.pr, .slice f E.c.length g, .int .i64 E.bw] rfl rfl (hT2.keep B3).row bN rfl (by simp [Value.oneCell']) HL.out (Nat.le_trans hWD B3.size) ?_
          intro v3 w3 hrow hg hor
          have hT3 : OwnT w3 W1.heap.size v3 (T ++ [⟨E, .slice x E.p.length y, .slice f E.c.length g⟩]) := step_T hT2 hWD B3 (oo1.keep N1) (oo2.keep N1) ⟨⟨_, _, rfl⟩, ⟨_, _, rfl⟩⟩ ap hrow hg hor
          have hB3 : Below w.heap.size w w3 := below_growT (below_step (below_step hB1 OD) B3) (hT2.keep B3).row hwW hg
          have bO3 := ((bO1.keep OD).keep B3).grown hg (neRow (hT2.keep B3).row hOW)
          have bP3 := (bPD.keep B3).grown hg hneP
          have bR3 := ((bR1.keep OD).keep B3).grown hg (neRow (hT2.keep B3).row hRW)
          have bA3 := ((bA1.keep OD).keep B3).grown hg (neRow (hT2.keep B3).row hAW)
          have hs3 := Nat.le_trans hWD (Nat.le_trans B3.size hg.size)
          clear hg hrow hor
          obtain ⟨x3, y3, rfl⟩ : ∃ x3 y3, v3 = .slice x3 (T.length + 1) y3 := by
            obtain ⟨x3, y3, e3⟩ := hT3.lenV
            exact ⟨x3, y3, by simpa using e3⟩
          refine hK.out _ _ bP3 (fun hHeld => ?_)
          clear hK K hHeld
          try simp only [Act.put, List.setIfInBounds_toArray, List.set_cons_zero, List.set_cons_succ]
          refine wpAnyH_ready (rs := [6]) (by kernel_rfl) (by simp) ?_
          refine (AllReadyH.cons rfl (fun K hK => ?_) AllReadyH.nil)
          go_simp
          refine hK.out _ _ bP3 (fun hHeld => ?_)
          clear hK K hHeld
          try simp only [Act.put, List.setIfInBounds_toArray, List.set_cons_zero, List.set_cons_succ]
          refine wpAnyH_ready (rs := [7]) (by kernel_rfl) (by simp) ?_
          refine (AllReadyH.cons rfl (fun K hK => ?_) AllReadyH.nil)
          have o0 := bO3.c 0 rfl
          have of0 := bO3.f 0 rfl
          go_simp
          refine hK.out _ _ (bP3.far hOP.symm) (fun hHeld => ?_)
          clear hK K hHeld o0 of0
          try simp only [Act.put, List.setIfInBounds_toArray, List.set_cons_zero, List.set_cons_succ]
          refine wpAnyH_done (by kernel_rfl) ?_ _
          go_wp2
          go_roundw
          case rel => exact ⟨k + 1, by omega, by go_num, _, _, hT3.far hOW, HTE.out _ rfl, bO3.set 0 _, bR3.far hRO, bA3.far hAO, hB3.setCell (p := ⟨O, 0, none⟩) hwO _, by simpa using hs3⟩
          case measure => simp [intOf]; omega
        · go_simp
          have bN := Bl.new w1 [.int .i64 E.a, .int .i64 E.n, .int .i64 E.pe, .slice x E.p.length y, .int .i64 E.pr, .slice f E.c.length g, .int .i64 E.bw] EI w1.heap.size rfl
          have N1 : Below w1.heap.size w1 (w1.alloc (.cells #[.int .i64 E.a, .int .i64 E.n, .int .i64 E.pe, .slice x E.p.length y, .int .i64 E.pr, .slice f E.c.length g, .int .i64 E.bw] EI)) := (Below.refl _ _).alloc (Nat.le_refl _) _
          have B3 : Below D.heap.size D (w1.alloc (.cells #[.int .i64 E.a, .int .i64 E.n, .int .i64 E.pe, .slice x E.p.length y, .int .i64 E.pr, .slice f E.c.length g, .int .i64 E.bw] EI)) := below_step B2 N1
          refine hK.out _ _ (bPD.keep B3) (fun hHeld => ?_)
          clear hK K hHeld
          try simp only [Act.put, List.setIfInBounds_toArray, List.set_cons_zero, List.set_cons_succ]
          refine wpAnyH_ready (rs := [1]) (by kernel_rfl) (by simp) ?_
          refine (AllReadyH.cons rfl (fun K hK => ?_) AllReadyH.nil)
          have q := ((bO1.keep OD).keep B3).c 0 rfl
          go_simp
          refine hK.out _ _ (bPD.keep B3) (fun hHeld => ?_)
          clear hK K hHeld q
          try simp only [Act.put, List.setIfInBounds_toArray, List.set_cons_zero, List.set_cons_succ]
          refine wpAnyH_ready (rs := [5]) (by kernel_rfl) (by simp) ?_
          refine (AllReadyH.cons rfl (fun K hK => ?_) AllReadyH.nil)
          have hT2 := hT1.keep OD
          have hWD : W1.heap.size ≤ D.heap.size := Nat.le_trans hsV OD.size
          refine step_appE rfl (.tmp 14) (.tmp 17) rfl W1.heap.size w1.heap.size 1 v2 T.length (flatT T) [.int .i64 E.a, .int .i64 E.n, .int .i64 E.pe, .slice x E.p.length y, .int .i64 E.pr, .slice f E.c.length g, .int .i64 E.bw] rfl rfl (hT2.keep B3).row bN rfl (by simp [Value.oneCell']) HL.out (Nat.le_trans hWD B3.size) ?_
          intro v3 w3 hrow hg hor
          have hT3 : OwnT w3 W1.heap.size v3 (T ++ [⟨E, .slice x E.p.length y, .slice f E.c.length g⟩]) := step_T hT2 hWD B3 (oo1.keep N1) (oo2.keep N1) ⟨⟨_, _, rfl⟩, ⟨_, _, rfl⟩⟩ ap hrow hg hor
          have hB3 : Below w.heap.size w w3 := below_growT (below_step (below_step hB1 OD) B3) (hT2.keep B3).row hwW hg
          have bO3 := ((bO1.keep OD).keep B3).grown hg (neRow (hT2.keep B3).row hOW)
          have bP3 := (bPD.keep B3).grown hg hneP
          have bR3 := ((bR1.keep OD).keep B3).grown hg (neRow (hT2.keep B3).row hRW)
          have bA3 := ((bA1.keep OD).keep B3).grown hg (neRow (hT2.keep B3).row hAW)
          have hs3 := Nat.le_trans hWD (Nat.le_trans B3.size hg.size)
          clear hg hrow hor
          obtain ⟨x3, y3, rfl⟩ : ∃ x3 y3, v3 = .slice x3 (T.length + 1) y3 := by
            obtain ⟨x3, y3, e3⟩ := hT3.lenV
            exact ⟨x3, y3, by simpa using e3⟩
          refine hK.out _ _ bP3 (fun hHeld => ?_)
          clear hK K hHeld
          try simp only [Act.put, List.setIfInBounds_toArray, List.set_cons_zero, List.set_cons_succ]
          refine wpAnyH_ready (rs := [6]) (by kernel_rfl) (by simp) ?_
          refine (AllReadyH.cons rfl (fun K hK => ?_) AllReadyH.nil)
          go_simp
          refine hK.out _ _ bP3 (fun hHeld => ?_)
          clear hK K hHeld
          try simp only [Act.put, List.setIfInBounds_toArray, List.set_cons_zero, List.set_cons_succ]
          refine wpAnyH_ready (rs := [7]) (by kernel_rfl) (by simp) ?_
          refine (AllReadyH.cons rfl (fun K hK => ?_) AllReadyH.nil)
          have o0 := bO3.c 0 rfl
          have of0 := bO3.f 0 rfl
          go_simp
          refine hK.out _ _ (bP3.far hOP.symm) (fun hHeld => ?_)
          clear hK K hHeld o0 of0
          try simp only [Act.put, List.setIfInBounds_toArray, List.set_cons_zero, List.set_cons_succ]
          refine wpAnyH_done (by kernel_rfl) ?_ _
          go_wp2
          go_roundw
          case rel => exact ⟨k + 1, by omega, by go_num, _, _, hT3.far hOW, HTE.out _ rfl, bO3.set 0 _, bR3.far hRO, bA3.far hAO, hB3.setCell (p := ⟨O, 0, none⟩) hwO _, by simpa using hs3⟩
          case measure => simp [intOf]; omega
    · have hkn : k = n := by omega
      subst hkn
      clear hc hln
      obtain ⟨x2, y2, rfl⟩ := hT.lenV
      have o0 := bO1.c 0 rfl
      have r0 := bR1.c 0 rfl
      have rf0 := bR1.f 0 rfl
      go_wp2
      have bE := bR1.set 0 (.slice x2 T.length y2)
      have e0 := bE.c 0 rfl
      exact bodyPost_ret (v := .agg #[.slice x2 T.length y2]) (by simp [results, Tryz.results113, go_sem, e0]) rfl
        ⟨_, T, rfl, (hT.far hRW).mono hwW, by rw [hTE, HN.out, List.take_length], hB.setCell (p := ⟨R, 0, none⟩) hwR _⟩
end Go.Proofs.YtaiffofmhfflkaaGreat
