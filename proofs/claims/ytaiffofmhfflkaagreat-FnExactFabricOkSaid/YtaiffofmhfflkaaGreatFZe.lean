/-
  Copies of tables, of the program and of the model. Conditions: those in each contract.
  The directions of a link, and of all links of a fabric: of the program. Conditions: those in each contract.
  Contracts of PrefixCmp of the program and of the model. Conditions: those in each contract.
  Lists of prefixes: contracts of the program's and the model's test that they are valid and ascending, of the program's comparison of two lists. Conditions: those in each contract.
  Membership: the model's own loop and the library's search, of the program and of the model. Conditions: those in each contract.
  PathHas and Shut, of the program and of the model. Conditions: those in each contract.
-/
import Derived.Test.YtaiffofmhfflkaaGreatFZd
import Derived.Deep.Cut
import Derived.Deep.CutRange
import Derived.Test.YtaiffofmhfflkaaGreatFZa
import Derived.StillTailTactics
import Derived.LoopN
import Derived.Test.YtaiffofmhfflkaaGreatFZb
import Derived.Test.YtaiffofmhfflkaaGreatShelf
import Derived.Shelf.SlicesG.SearchI
namespace Go.Proofs.YtaiffofmhfflkaaGreat
open Go.ChangeShapes Go.WideShapes Go.ChangeAt Go.RowKit Go.BigFrame Go.Joins
set_option linter.unusedVariables false
set_option maxRecDepth 100000
set_option maxRecDepth 100000
set_option linter.unusedSimpArgs false
set_option maxRecDepth 100000

/-- a table of the call's own with these entries -/
def NewRib (w : World) (L : List Ent) (e : Ending) (w' : World) : Prop :=
  ∃ (u : Value) (T : List ET), e = .returned (.agg #[u]) ∧ OwnT w' w.heap.size u T ∧ entT T = L ∧ Below w.heap.size w w'
theorem sepNew {w w' : World} {base b n : Nat} {v u : Value} {xs : List Value} {l : List Int} (h1 : w.ownsRow base EI 7 v n xs) (h2 : OwnI w' b u l) (h : w.heap.size ≤ b) : u.ownBlock = none ∨ u.ownBlock ≠ v.ownBlock := by
  cases hu : u.ownBlock with
  | none => exact .inl rfl
  | some k =>
    refine .inr fun q => ?_
    have a := (World.ownsRow.lt h2 k hu).1
    have c := (World.ownsRow.lt h1 k q.symm).2
    omega
theorem neRow {w : World} {base n B : Nat} {v : Value} {xs : List Value} (h : w.ownsRow base EI 7 v n xs) (hB : B < base) : some B ≠ v.ownBlock := fun q => by
  have := (World.ownsRow.lt h B q.symm).1
  omega
theorem below_growT {V w w' : World} {v : Value} {base n : Nat} {xs : List Value} (h : Below V.heap.size V w) (ho : w.ownsRow base EI 7 v n xs) (hb : V.heap.size ≤ base) (hg : w.grownBy w' v.ownBlock) : Below V.heap.size V w' :=
  Below.grown h hg h.size (fun k hk => Nat.le_trans hb (World.ownsRow.lt ho k hk).1)
theorem take_entT {L : List Ent} {T : List ET} {k : Nat} {t : ET} (h : entT T = L.take k) (hk : k < L.length) (hx : L.getD k e0 = t.E) : entT (T ++ [t]) = L.take (k + 1) := by
  have hg : L[k] = t.E := by simpa [List.getD, hk] using hx
  rw [entT_append, h, List.take_add_one, List.getElem?_eq_getElem hk, hg]
  rfl
theorem step_T {V w2 w4 : World} {base : Nat} {v v' : Value} {T : List ET} {t : ET} (h : OwnT V base v T) (hV : base ≤ V.heap.size) (B : Below V.heap.size V w2) (o1 : OwnI w2 V.heap.size t.u t.E.p) (o2 : OwnI w2 V.heap.size t.v t.E.c)
    (hl : (∃ a c, t.u = .slice a t.E.p.length c) ∧ ∃ a c, t.v = .slice a t.E.c.length c) (ap : Apart t.u t.v) (hrow : w4.ownsRow base EI 7 v' (T.length + 1) (flatT T ++ cellsT t)) (hg : w2.grownBy w4 v.ownBlock) (hor : v'.ownBlock = v.ownBlock ∨ v'.ownBlock = some w2.heap.size) : OwnT w4 base v' (T ++ [t]) :=
  own_appT (h.keep B) (Nat.le_trans hV B.size) ⟨o1.mono hV, o2.mono hV⟩ hl ap
    (fun s hs => ⟨apartI (h.own s hs).1 o1 (Nat.le_refl _), apartI (h.own s hs).1 o2 (Nat.le_refl _), apartI (h.own s hs).2 o1 (Nat.le_refl _), apartI (h.own s hs).2 o2 (Nat.le_refl _)⟩)
    ⟨sepNew h.row o1 (Nat.le_refl _), sepNew h.row o2 (Nat.le_refl _)⟩ hrow hg hor
set_option maxHeartbeats 2000000 in
theorem irc_any (v : Value) (L : List Ent) (w : World) (h : RdE w v L) (hn1 : L.length ≤ 1048576) (hln : ∀ j, j < L.length → (L.getD j e0).p.length ≤ 1048576 ∧ (L.getD j e0).c.length ≤ 1048576) :
    Calls Tryz.prog 113 #[.agg #[v]] w (NewRib w L) := by
  obtain ⟨a, c, rfl, hc⟩ := h.el
  obtain ⟨n, hn⟩ : ∃ n, n = L.length := ⟨_, rfl⟩
  rw [← hn] at hc hn1 hln ⊢
  have HN := Lib.hid hn
  clear h hn
  obtain ⟨bA, bR, bO, B0, z⟩ := three w [.slice a n c] [.slice none 0 0] [.slice none 0 0] 32 32 32
  have a0 := bA.c 0 rfl
  go_enter Tryz.func113, Tryz.ntmps113
  go_wp2
  clear a0
  obtain ⟨W1, hW⟩ : ∃ W1, W1 = ((w.alloc (.cells #[.slice a n c] 32)).alloc (.cells #[.slice none 0 0] 32)).alloc (.cells #[.slice none 0 0] 32) := ⟨_, rfl⟩
  rw [← hW] at bA bR bO B0 z ⊢
  obtain ⟨A, hA⟩ : ∃ A, A = w.heap.size := ⟨_, rfl⟩
  obtain ⟨R, hR⟩ : ∃ R, R = w.heap.size + 1 := ⟨_, rfl⟩
  obtain ⟨O, hO⟩ : ∃ O, O = w.heap.size + 1 + 1 := ⟨_, rfl⟩
  rw [← hA] at bA
  rw [← hR] at bR
  rw [← hO] at bO
  try rw [← hO]
  try rw [← hR]
  try rw [← hA]
  have hwA : w.heap.size ≤ A := by omega
  have hwR : w.heap.size ≤ R := by omega
  have hwO : w.heap.size ≤ O := by omega
  have hAO : A ≠ O := by omega
  have hRO : R ≠ O := by omega
  have hAR : A ≠ R := by omega
  have hAW : A < W1.heap.size := by rw [z]; omega
  have hRW : R < W1.heap.size := by rw [z]; omega
  have hOW : O < W1.heap.size := by rw [z]; omega
  have hwW : w.heap.size ≤ W1.heap.size := B0.size
  clear hA hR hO hW z
  go_loopw [9] (fun q wr => ∃ k : Nat, k ≤ n ∧ q = .int .i64 k ∧ ∃ (v2 : Value) (T : List ET), OwnT wr W1.heap.size v2 T ∧ entT T = L.take k ∧ Bl wr O [v2] ∧ Bl wr R [.slice none 0 0] ∧ Bl wr A [.slice a n c] ∧ Below w.heap.size w wr ∧ W1.heap.size ≤ wr.heap.size) (fun q _ => n - (intOf q).toNat)
  case atStart => exact ⟨0, Nat.zero_le _, rfl, _, [], OwnT.nil _ _, rfl, bO, bR, bA, B0, Nat.le_refl _⟩
  case round =>
    obtain ⟨k, hk, rfl, v2, T, hT, hTE, bO1, bR1, bA1, hB, hsz⟩ := hrel
    by_cases hlt : k < n
    · have hltI : (k : Int) < (n : Int) := by omega
      obtain ⟨b, o, rfl, hE⟩ := hc k hlt
      obtain ⟨E, hx⟩ : ∃ E, L.getD k e0 = E := ⟨_, rfl⟩
      have hl2 := hln k hlt
      rw [hx] at hE hl2
      obtain ⟨pv, cv, hp, hq, g0, g1, g2, g3, g4, g5, g6⟩ := hE.keep hB
      obtain ⟨pa, px, rfl⟩ := hp.len
      obtain ⟨qa, qx, rfl⟩ := hq.len
      have HTE : Hid (∀ t : ET, t.E = E → entT (T ++ [t]) = L.take (k + 1)) := Lib.hid fun t ht => take_entT hTE (by rw [← HN.out]; exact hlt) (by rw [hx, ht])
      have HL : Hid (T.length + 1 ≤ 4294967296) := Lib.hid (by have e := congrArg List.length hTE; rw [entT_len, List.length_take] at e; omega)
      have bP := Bl.new wr [.int .i64 E.a, .int .i64 E.n, .int .i64 E.pe, .slice pa E.p.length px, .int .i64 E.pr, .slice qa E.c.length qx, .int .i64 E.bw] EI wr.heap.size rfl
      have A1 : Below wr.heap.size wr (wr.alloc (.cells #[.int .i64 E.a, .int .i64 E.n, .int .i64 E.pe, .slice pa E.p.length px, .int .i64 E.pr, .slice qa E.c.length qx, .int .i64 E.bw] EI)) := (Below.refl _ _).alloc (Nat.le_refl _) _
      have hp1 := hp.keep A1
      have hq1 := hq.keep A1
      have o0 := (bO1.keep A1).c 0 rfl
      have p0 := bP.c 0 rfl
      have p1 := bP.c 1 rfl
      have p2 := bP.c 2 rfl
      have p3 := bP.c 3 rfl
      have p4 := bP.c 4 rfl
      have p5 := bP.c 5 rfl
      have p6 := bP.c 6 rfl
      have HC := Lib.hid hc
      have HLN := Lib.hid hln
      clear hx hc hln hE hTE
      go_wp2_with fail
      clear p0 p1 p2 p3 p4 p5 p6 o0
      obtain ⟨V, hV⟩ : ∃ V, V = wr.alloc (.cells #[.int .i64 E.a, .int .i64 E.n, .int .i64 E.pe, .slice pa E.p.length px, .int .i64 E.pr, .slice qa E.c.length qx, .int .i64 E.bw] EI) := ⟨_, rfl⟩
      have hVs : wr.heap.size < V.heap.size := by rw [hV]; simp
      rw [← hV] at bP A1 hp1 hq1 ⊢
      obtain ⟨P, hP⟩ : ∃ P, P = wr.heap.size := ⟨_, rfl⟩
      rw [← hP] at bP ⊢
      have hOP : O ≠ P := by have := bO1.lt; omega
      have hT1 := hT.keep A1
      have hB1 := below_step hB A1
      replace bO1 := bO1.keep A1
      replace bR1 := bR1.keep A1
      replace bA1 := bA1.keep A1
      have hsV : W1.heap.size ≤ V.heap.size := by omega
      have hneP : some P ≠ v2.ownBlock := fun q => by
        have := (World.ownsRow.lt hT.row P q.symm).2
        omega
      clear hV hP A1 hVs hsz hT g0 g1 g2 g3 g4 g5 g6 hp hq
      refine wp_region_held_drew (S := fun w' => Bl w' P [.int .i64 E.a, .int .i64 E.n, .int .i64 E.pe, .slice pa E.p.length px, .int .i64 E.pr, .slice qa E.c.length qx, .int .i64 E.bw]) (by kernel_rfl) (bP.keep (over_drew _)) (fun hHeld => ?_)
      clear hHeld
      obtain ⟨D, hD⟩ : ∃ D, D = V.drew := ⟨_, rfl⟩
      have OD : Over V D := by rw [hD]; exact over_drew _
      rw [← hD]
      clear hD
      have bPD := bP.keep OD
      have hSD := bPD
      refine wpAnyH_take (i := 0) (v := ?_) rfl (by kernel_rfl) (by kernel_rfl) (by kernel_rfl) (fun _ _ _ h => h) (Or.inl ⟨by rfl, ?_⟩) hSD ?_
      rotate_left
      · intro wq hSq
        (try dsimp only at hSq)

        go_simp
        try rfl
      change wpAnyH _ _ _ _ _ _ _ (Act.put _ (some 13) _) _
      simp only [Act.put, List.setIfInBounds_toArray, List.set_cons_succ, List.set_cons_zero]
      refine wpAnyH_take (i := 2) (v := ?_) rfl (by kernel_rfl) (by kernel_rfl) (by kernel_rfl) (fun _ _ _ h => h) (Or.inl ⟨by rfl, ?_⟩) hSD ?_
      rotate_left
      · intro wq hSq
        (try dsimp only at hSq)
        have q0 := hSq.c 0 rfl
        have q1 := hSq.c 1 rfl
        have q2 := hSq.c 2 rfl
        have q3 := hSq.c 3 rfl
        have q4 := hSq.c 4 rfl
        have q5 := hSq.c 5 rfl
        have q6 := hSq.c 6 rfl
        go_simp
        try rfl
      change wpAnyH _ _ _ _ _ _ _ (Act.put _ (some 15) _) _
      simp only [Act.put, List.setIfInBounds_toArray, List.set_cons_succ, List.set_cons_zero]
      clear hSD
      refine wpAnyH_ready (rs := [1, 3]) (by kernel_rfl) (by simp) ?_
      refine (AllReadyH.cons rfl (fun K hK => ?_) (AllReadyH.cons rfl (fun K hK => ?_) AllReadyH.nil))
      · have q := (bO1.keep OD).c 0 rfl
        go_simp
        refine hK.out _ _ bPD (fun hHeld => ?_)
        clear hK K hHeld q
        try simp only [Act.put, List.setIfInBounds_toArray, List.set_cons_zero, List.set_cons_succ]
        refine wpAnyH_ready (rs := [3]) (by kernel_rfl) (by simp) ?_
        refine (AllReadyH.cons rfl (fun K hK => ?_) AllReadyH.nil)
        go_simp
        refine (ice_any _ _ _ _ _ _ _ _ _ D (hp1.keep OD) (hq1.keep OD) hl2.1 hl2.2).mono ?_
        rintro e w1 ⟨x, y, f, g, rfl, oo1, oo2, ap, B2⟩
        refine hK.out _ _ (bPD.keep B2) (fun hHeld => ?_)
        clear hK K hHeld
        try simp only [Act.put, List.setIfInBounds_toArray, List.set_cons_zero, List.set_cons_succ]
        refine wpAnyH_ready (rs := [4]) (by kernel_rfl) (by simp) ?_
        refine (AllReadyH.cons rfl (fun K hK => ?_) AllReadyH.nil)
        go_simp
        have bN := Bl.new w1 [.int .i64 E.a, .int .i64 E.n, .int .i64 E.pe, .slice x E.p.length y, .int .i64 E.pr, .slice f E.c.length g, .int .i64 E.bw] EI w1.heap.size rfl
        have N1 : Below w1.heap.size w1 (w1.alloc (.cells #[.int .i64 E.a, .int .i64 E.n, .int .i64 E.pe, .slice x E.p.length y, .int .i64 E.pr, .slice f E.c.length g, .int .i64 E.bw] EI)) := (Below.refl _ _).alloc (Nat.le_refl _) _
        have B3 : Below D.heap.size D (w1.alloc (.cells #[.int .i64 E.a, .int .i64 E.n, .int .i64 E.pe, .slice x E.p.length y, .int .i64 E.pr, .slice f E.c.length g, .int .i64 E.bw] EI)) := below_step B2 N1
        refine hK.out _ _ (bPD.keep B3) (fun hHeld => ?_)
        clear hK K hHeld
        try simp only [Act.put, List.setIfInBounds_toArray, List.set_cons_zero, List.set_cons_succ]
        refine wpAnyH_ready (rs := [5]) (by kernel_rfl) (by simp) ?_
        refine (AllReadyH.cons rfl (fun K hK => ?_) AllReadyH.nil)
        have hT2 := hT1.keep OD
        have hWD : W1.heap.size ≤ D.heap.size := Nat.le_trans hsV OD.size
        refine step_appE rfl (.tmp 14) (.tmp 17) rfl W1.heap.size w1.heap.size 1 v2 T.length (flatT T) [.int .i64 E.a, .int .i64 E.n, .int .i64 E.pe, .slice x E.p.length y, .int .i64 E.pr, .slice f E.c.length g, .int .i64 E.bw] rfl rfl (hT2.keep B3).row bN rfl (by simp [Value.oneCell']) HL.out (Nat.le_trans hWD B3.size) ?_
        intro v3 w3 hrow hg hor
        have hT3 : OwnT w3 W1.heap.size v3 (T ++ [⟨E, .slice x E.p.length y, .slice f E.c.length g⟩]) := step_T hT2 hWD B3 (oo1.keep N1) (oo2.keep N1) ⟨⟨_, _, rfl⟩, ⟨_, _, rfl⟩⟩ ap hrow hg hor
        have hB3 : Below w.heap.size w w3 := below_growT (below_step (below_step hB1 OD) B3) (hT2.keep B3).row hwW hg
        have bO3 := ((bO1.keep OD).keep B3).grown hg (neRow (hT2.keep B3).row hOW)
        have bP3 := (bPD.keep B3).grown hg hneP
        have bR3 := ((bR1.keep OD).keep B3).grown hg (neRow (hT2.keep B3).row hRW)
        have bA3 := ((bA1.keep OD).keep B3).grown hg (neRow (hT2.keep B3).row hAW)
        have hs3 := Nat.le_trans hWD (Nat.le_trans B3.size hg.size)
        clear hg hrow hor
        obtain ⟨x3, y3, rfl⟩ : ∃ x3 y3, v3 = .slice x3 (T.length + 1) y3 := by
          obtain ⟨x3, y3, e3⟩ := hT3.lenV
          exact ⟨x3, y3, by simpa using e3⟩
        refine hK.out _ _ bP3 (fun hHeld => ?_)
        clear hK K hHeld
        try simp only [Act.put, List.setIfInBounds_toArray, List.set_cons_zero, List.set_cons_succ]
        refine wpAnyH_ready (rs := [6]) (by kernel_rfl) (by simp) ?_
        refine (AllReadyH.cons rfl (fun K hK => ?_) AllReadyH.nil)
        go_simp
        refine hK.out _ _ bP3 (fun hHeld => ?_)
        clear hK K hHeld
        try simp only [Act.put, List.setIfInBounds_toArray, List.set_cons_zero, List.set_cons_succ]
        refine wpAnyH_ready (rs := [7]) (by kernel_rfl) (by simp) ?_
        refine (AllReadyH.cons rfl (fun K hK => ?_) AllReadyH.nil)
        have o0 := bO3.c 0 rfl
        have of0 := bO3.f 0 rfl
        go_simp
        refine hK.out _ _ (bP3.far hOP.symm) (fun hHeld => ?_)
        clear hK K hHeld o0 of0
        try simp only [Act.put, List.setIfInBounds_toArray, List.set_cons_zero, List.set_cons_succ]
        refine wpAnyH_done (by kernel_rfl) ?_ _
        go_wp2
        go_roundw
        case rel => exact ⟨k + 1, by omega, by go_num, _, _, hT3.far hOW, HTE.out _ rfl, bO3.set 0 _, bR3.far hRO, bA3.far hAO, hB3.setCell (p := ⟨O, 0, none⟩) hwO _, by simpa using hs3⟩
        case measure => simp [intOf]; omega
      · go_simp
        refine (ice_any _ _ _ _ _ _ _ _ _ D (hp1.keep OD) (hq1.keep OD) hl2.1 hl2.2).mono ?_
        rintro e w1 ⟨x, y, f, g, rfl, oo1, oo2, ap, B2⟩
        refine hK.out _ _ (bPD.keep B2) (fun hHeld => ?_)
        clear hK K hHeld
        try simp only [Act.put, List.setIfInBounds_toArray, List.set_cons_zero, List.set_cons_succ]
        refine wpAnyH_ready (rs := [1, 4]) (by kernel_rfl) (by simp) ?_
        refine (AllReadyH.cons rfl (fun K hK => ?_) (AllReadyH.cons rfl (fun K hK => ?_) AllReadyH.nil))
        · have q := ((bO1.keep OD).keep B2).c 0 rfl
          go_simp
          refine hK.out _ _ (bPD.keep B2) (fun hHeld => ?_)
          clear hK K hHeld q
          try simp only [Act.put, List.setIfInBounds_toArray, List.set_cons_zero, List.set_cons_succ]
          refine wpAnyH_ready (rs := [4]) (by kernel_rfl) (by simp) ?_
          refine (AllReadyH.cons rfl (fun K hK => ?_) AllReadyH.nil)
          go_simp
          have bN := Bl.new w1 [.int .i64 E.a, .int .i64 E.n, .int .i64 E.pe, .slice x E.p.length y, .int .i64 E.pr, .slice f E.c.length g, .int .i64 E.bw] EI w1.heap.size rfl
          have N1 : Below w1.heap.size w1 (w1.alloc (.cells #[.int .i64 E.a, .int .i64 E.n, .int .i64 E.pe, .slice x E.p.length y, .int .i64 E.pr, .slice f E.c.length g, .int .i64 E.bw] EI)) := (Below.refl _ _).alloc (Nat.le_refl _) _
          have B3 : Below D.heap.size D (w1.alloc (.cells #[.int .i64 E.a, .int .i64 E.n, .int .i64 E.pe, .slice x E.p.length y, .int .i64 E.pr, .slice f E.c.length g, .int .i64 E.bw] EI)) := below_step B2 N1
          refine hK.out _ _ (bPD.keep B3) (fun hHeld => ?_)
          clear hK K hHeld
          try simp only [Act.put, List.setIfInBounds_toArray, List.set_cons_zero, List.set_cons_succ]
          refine wpAnyH_ready (rs := [5]) (by kernel_rfl) (by simp) ?_
          refine (AllReadyH.cons rfl (fun K hK => ?_) AllReadyH.nil)
          have hT2 := hT1.keep OD
          have hWD : W1.heap.size ≤ D.heap.size := Nat.le_trans hsV OD.size
          refine step_appE rfl (.tmp 14) (.tmp 17) rfl W1.heap.size w1.heap.size 1 v2 T.length (flatT T) [.int .i64 E.a, .int .i64 E.n, .int .i64 E.pe, .slice x E.p.length y, .int .i64 E.pr, .slice f E.c.length g, .int .i64 E.bw] rfl rfl (hT2.keep B3).row bN rfl (by simp [Value.oneCell']) HL.out (Nat.le_trans hWD B3.size) ?_
          intro v3 w3 hrow hg hor
          have hT3 : OwnT w3 W1.heap.size v3 (T ++ [⟨E, .slice x E.p.length y, .slice f E.c.length g⟩]) := step_T hT2 hWD B3 (oo1.keep N1) (oo2.keep N1) ⟨⟨_, _, rfl⟩, ⟨_, _, rfl⟩⟩ ap hrow hg hor
          have hB3 : Below w.heap.size w w3 := below_growT (below_step (below_step hB1 OD) B3) (hT2.keep B3).row hwW hg
          have bO3 := ((bO1.keep OD).keep B3).grown hg (neRow (hT2.keep B3).row hOW)
          have bP3 := (bPD.keep B3).grown hg hneP
          have bR3 := ((bR1.keep OD).keep B3).grown hg (neRow (hT2.keep B3).row hRW)
          have bA3 := ((bA1.keep OD).keep B3).grown hg (neRow (hT2.keep B3).row hAW)
          have hs3 := Nat.le_trans hWD (Nat.le_trans B3.size hg.size)
          clear hg hrow hor
          obtain ⟨x3, y3, rfl⟩ : ∃ x3 y3, v3 = .slice x3 (T.length + 1) y3 := by
            obtain ⟨x3, y3, e3⟩ := hT3.lenV
            exact ⟨x3, y3, by simpa using e3⟩
          refine hK.out _ _ bP3 (fun hHeld => ?_)
          clear hK K hHeld
          try simp only [Act.put, List.setIfInBounds_toArray, List.set_cons_zero, List.set_cons_succ]
          refine wpAnyH_ready (rs := [6]) (by kernel_rfl) (by simp) ?_
          refine (AllReadyH.cons rfl (fun K hK => ?_) AllReadyH.nil)
          go_simp
          refine hK.out _ _ bP3 (fun hHeld => ?_)
          clear hK K hHeld
          try simp only [Act.put, List.setIfInBounds_toArray, List.set_cons_zero, List.set_cons_succ]
          refine wpAnyH_ready (rs := [7]) (by kernel_rfl) (by simp) ?_
          refine (AllReadyH.cons rfl (fun K hK => ?_) AllReadyH.nil)
          have o0 := bO3.c 0 rfl
          have of0 := bO3.f 0 rfl
          go_simp
          refine hK.out _ _ (bP3.far hOP.symm) (fun hHeld => ?_)
          clear hK K hHeld o0 of0
          try simp only [Act.put, List.setIfInBounds_toArray, List.set_cons_zero, List.set_cons_succ]
          refine wpAnyH_done (by kernel_rfl) ?_ _
          go_wp2
          go_roundw
          case rel => exact ⟨k + 1, by omega, by go_num, _, _, hT3.far hOW, HTE.out _ rfl, bO3.set 0 _, bR3.far hRO, bA3.far hAO, hB3.setCell (p := ⟨O, 0, none⟩) hwO _, by simpa using hs3⟩
          case measure => simp [intOf]; omega
        · go_simp
          have bN := Bl.new w1 [.int .i64 E.a, .int .i64 E.n, .int .i64 E.pe, .slice x E.p.length y, .int .i64 E.pr, .slice f E.c.length g, .int .i64 E.bw] EI w1.heap.size rfl
          have N1 : Below w1.heap.size w1 (w1.alloc (.cells #[.int .i64 E.a, .int .i64 E.n, .int .i64 E.pe, .slice x E.p.length y, .int .i64 E.pr, .slice f E.c.length g, .int .i64 E.bw] EI)) := (Below.refl _ _).alloc (Nat.le_refl _) _
          have B3 : Below D.heap.size D (w1.alloc (.cells #[.int .i64 E.a, .int .i64 E.n, .int .i64 E.pe, .slice x E.p.length y, .int .i64 E.pr, .slice f E.c.length g, .int .i64 E.bw] EI)) := below_step B2 N1
          refine hK.out _ _ (bPD.keep B3) (fun hHeld => ?_)
          clear hK K hHeld
          try simp only [Act.put, List.setIfInBounds_toArray, List.set_cons_zero, List.set_cons_succ]
          refine wpAnyH_ready (rs := [1]) (by kernel_rfl) (by simp) ?_
          refine (AllReadyH.cons rfl (fun K hK => ?_) AllReadyH.nil)
          have q := ((bO1.keep OD).keep B3).c 0 rfl
          go_simp
          refine hK.out _ _ (bPD.keep B3) (fun hHeld => ?_)
          clear hK K hHeld q
          try simp only [Act.put, List.setIfInBounds_toArray, List.set_cons_zero, List.set_cons_succ]
          refine wpAnyH_ready (rs := [5]) (by kernel_rfl) (by simp) ?_
          refine (AllReadyH.cons rfl (fun K hK => ?_) AllReadyH.nil)
          have hT2 := hT1.keep OD
          have hWD : W1.heap.size ≤ D.heap.size := Nat.le_trans hsV OD.size
          refine step_appE rfl (.tmp 14) (.tmp 17) rfl W1.heap.size w1.heap.size 1 v2 T.length (flatT T) [.int .i64 E.a, .int .i64 E.n, .int .i64 E.pe, .slice x E.p.length y, .int .i64 E.pr, .slice f E.c.length g, .int .i64 E.bw] rfl rfl (hT2.keep B3).row bN rfl (by simp [Value.oneCell']) HL.out (Nat.le_trans hWD B3.size) ?_
          intro v3 w3 hrow hg hor
          have hT3 : OwnT w3 W1.heap.size v3 (T ++ [⟨E, .slice x E.p.length y, .slice f E.c.length g⟩]) := step_T hT2 hWD B3 (oo1.keep N1) (oo2.keep N1) ⟨⟨_, _, rfl⟩, ⟨_, _, rfl⟩⟩ ap hrow hg hor
          have hB3 : Below w.heap.size w w3 := below_growT (below_step (below_step hB1 OD) B3) (hT2.keep B3).row hwW hg
          have bO3 := ((bO1.keep OD).keep B3).grown hg (neRow (hT2.keep B3).row hOW)
          have bP3 := (bPD.keep B3).grown hg hneP
          have bR3 := ((bR1.keep OD).keep B3).grown hg (neRow (hT2.keep B3).row hRW)
          have bA3 := ((bA1.keep OD).keep B3).grown hg (neRow (hT2.keep B3).row hAW)
          have hs3 := Nat.le_trans hWD (Nat.le_trans B3.size hg.size)
          clear hg hrow hor
          obtain ⟨x3, y3, rfl⟩ : ∃ x3 y3, v3 = .slice x3 (T.length + 1) y3 := by
            obtain ⟨x3, y3, e3⟩ := hT3.lenV
            exact ⟨x3, y3, by simpa using e3⟩
          refine hK.out _ _ bP3 (fun hHeld => ?_)
          clear hK K hHeld
          try simp only [Act.put, List.setIfInBounds_toArray, List.set_cons_zero, List.set_cons_succ]
          refine wpAnyH_ready (rs := [6]) (by kernel_rfl) (by simp) ?_
          refine (AllReadyH.cons rfl (fun K hK => ?_) AllReadyH.nil)
          go_simp
          refine hK.out _ _ bP3 (fun hHeld => ?_)
          clear hK K hHeld
          try simp only [Act.put, List.setIfInBounds_toArray, List.set_cons_zero, List.set_cons_succ]
          refine wpAnyH_ready (rs := [7]) (by kernel_rfl) (by simp) ?_
          refine (AllReadyH.cons rfl (fun K hK => ?_) AllReadyH.nil)
          have o0 := bO3.c 0 rfl
          have of0 := bO3.f 0 rfl
          go_simp
          refine hK.out _ _ (bP3.far hOP.symm) (fun hHeld => ?_)
          clear hK K hHeld o0 of0
          try simp only [Act.put, List.setIfInBounds_toArray, List.set_cons_zero, List.set_cons_succ]
          refine wpAnyH_done (by kernel_rfl) ?_ _
          go_wp2
          go_roundw
          case rel => exact ⟨k + 1, by omega, by go_num, _, _, hT3.far hOW, HTE.out _ rfl, bO3.set 0 _, bR3.far hRO, bA3.far hAO, hB3.setCell (p := ⟨O, 0, none⟩) hwO _, by simpa using hs3⟩
          case measure => simp [intOf]; omega
    · have hkn : k = n := by omega
      subst hkn
      clear hc hln
      obtain ⟨x2, y2, rfl⟩ := hT.lenV
      have o0 := bO1.c 0 rfl
      have r0 := bR1.c 0 rfl
      have rf0 := bR1.f 0 rfl
      go_wp2
      have bE := bR1.set 0 (.slice x2 T.length y2)
      have e0 := bE.c 0 rfl
      exact bodyPost_ret (v := .agg #[.slice x2 T.length y2]) (by simp [results, Tryz.results113, go_sem, e0]) rfl
        ⟨_, T, rfl, (hT.far hRW).mono hwW, by rw [hTE, HN.out, List.take_length], hB.setCell (p := ⟨R, 0, none⟩) hwR _⟩
end Go.Proofs.YtaiffofmhfflkaaGreat
namespace Go.Proofs.YtaiffofmhfflkaaGreat
open Go.ChangeShapes Go.WideShapes Go.ChangeAt Go.RowKit Go.BigFrame Go.Joins
set_option linter.unusedVariables false
set_option maxRecDepth 100000
set_option linter.unusedSimpArgs false
set_option maxRecDepth 100000

/-- one direction of a link -/
structure Wy where
  fn : Int
  fi : Int
  tn : Int
  ti : Int
  up : Bool
  tr : List Mg
def y0 : Wy := ⟨0, 0, 0, 0, false, []⟩
instance : Inhabited Wy := ⟨y0⟩
def wtW (x : Wy) : Nat := x.tr.length
/-- a pointer to a list of messages -/
def RdPt (w : World) (p : Value) (tr : List Mg) : Prop := ∃ b o v, p = .pointer (some ⟨b, o, none⟩) ∧ w.cell? ⟨b, o, none⟩ = some v ∧ RdMS w v tr
theorem RdPt.keep {w w' : World} {p : Value} {tr : List Mg} (h : RdPt w p tr) (hb : Below w.heap.size w w') : RdPt w' p tr := by
  obtain ⟨b, o, v, rfl, hc, hm⟩ := h
  exact ⟨b, o, v, rfl, cell_keep hb (World.block_lt_of_cell? w _ hc) hc, hm.keep hb⟩
def RdW (w : World) (pv : Value) (x : Wy) : Prop := RdPt w pv x.tr
theorem RdW.keep {w w' : World} {pv : Value} {x : Wy} (h : RdW w pv x) (hb : Below w.heap.size w w') : RdW w' pv x := by
  have h0 := h
  exact RdPt.keep h0 hb
/-- the cells of block b from o on hold it -/
def AtW (w : World) (b o : Nat) (x : Wy) : Prop :=
  ∃ pv, RdW w pv x ∧ w.cell? ⟨b, o, none⟩ = some (.int .i64 x.fn) ∧ w.cell? ⟨b, o + 1, none⟩ = some (.int .i64 x.fi) ∧ w.cell? ⟨b, o + 2, none⟩ = some (.int .i64 x.tn) ∧ w.cell? ⟨b, o + 3, none⟩ = some (.int .i64 x.ti) ∧ w.cell? ⟨b, o + 4, none⟩ = some (.bool x.up) ∧ w.cell? ⟨b, o + 5, none⟩ = some (pv)
theorem AtW.keep {w w' : World} {b o : Nat} {x : Wy} (h : AtW w b o x) (hb : Below w.heap.size w w') : AtW w' b o x := by
  obtain ⟨pv, hr, k0, k1, k2, k3, k4, k5⟩ := h
  exact ⟨pv, hr.keep hb, cell_keep hb (World.block_lt_of_cell? w _ k0) k0, cell_keep hb (World.block_lt_of_cell? w _ k1) k1, cell_keep hb (World.block_lt_of_cell? w _ k2) k2, cell_keep hb (World.block_lt_of_cell? w _ k3) k3, cell_keep hb (World.block_lt_of_cell? w _ k4) k4, cell_keep hb (World.block_lt_of_cell? w _ k5) k5⟩
def RdWS (w : World) (v : Value) (L : List Wy) : Prop :=
  L.length ≤ 9223372036854775807 ∧
  ((∃ a c, v = .slice a 0 c ∧ L = [] ∧ (a = none → c = 0)) ∨
   ∃ b o c, v = .slice (some ⟨b, o, none⟩) L.length c ∧ 0 < L.length ∧ ∀ i, i < L.length → AtW w b (o + i * 6) (L.getD i y0))
theorem RdWS.keep {w w' : World} {v : Value} {L : List Wy} (h : RdWS w v L) (hb : Below w.heap.size w w') : RdWS w' v L := by
  obtain ⟨h2, h3⟩ := h
  refine ⟨h2, ?_⟩
  rcases h3 with h3 | ⟨b, o, c, hv, hp, hc⟩
  · exact .inl h3
  · exact .inr ⟨b, o, c, hv, hp, fun i hi => (hc i hi).keep hb⟩
theorem RdWS.len {w : World} {v : Value} {L : List Wy} (h : RdWS w v L) : ∃ a c, v = .slice a L.length c := by
  rcases h.2 with ⟨a, c, rfl, rfl, hac⟩ | ⟨b, o, c, rfl, _⟩
  · exact ⟨a, c, rfl⟩
  · exact ⟨_, c, rfl⟩
theorem RdWS.el {w : World} {v : Value} {L : List Wy} (h : RdWS w v L) : ∃ a c, v = .slice a L.length c ∧ ∀ i, i < L.length → ∃ b o, a = some ⟨b, o, none⟩ ∧ AtW w b (o + i * 6) (L.getD i y0) := by
  rcases h.2 with ⟨a, c, rfl, rfl, -⟩ | ⟨b, o, c, rfl, -, hc⟩
  · exact ⟨a, c, rfl, fun i hi => absurd hi (by simp)⟩
  · exact ⟨_, c, rfl, fun i hi => ⟨b, o, rfl, hc i hi⟩⟩
theorem RdWS.nil (w : World) : RdWS w (.slice none 0 0) [] := ⟨by simp, .inl ⟨none, 0, rfl, rfl, fun _ => rfl⟩⟩
def wtWS (L : List Wy) : Nat := (L.map wtW).sum
theorem wtW_take {L : List Wy} {j : Nat} (h : j < L.length) : wtWS (L.take (j + 1)) = wtWS (L.take j) + wtW (L.getD j y0) := by
  unfold wtWS
  rw [List.take_succ_eq_append_getElem h, List.map_append, List.sum_append]
  have e : L.getD j y0 = L[j] := by simp [List.getD, h]
  rw [e]
  simp
theorem wtW_le (L : List Wy) (j : Nat) : wtWS (L.take j) ≤ wtWS L := by
  conv => rhs; rw [← List.take_append_drop j L]
  unfold wtWS
  rw [List.map_append, List.sum_append]
  omega
theorem wtW_at {L : List Wy} {j : Nat} (h : j < L.length) : wtW (L.getD j y0) ≤ wtWS L := by
  have h1 := wtW_take h
  have h2 := wtW_le L (j + 1)
  omega
def waysOf (x : Lk) : List Wy := [⟨x.a, x.ai, x.b, x.bi, x.up, x.ab⟩, ⟨x.b, x.bi, x.a, x.ai, x.up, x.ba⟩]
def waysL (L : List Lk) : List Wy := L.flatMap waysOf
theorem waysL_len (L : List Lk) : (waysL L).length = 2 * L.length := by
  induction L with
  | nil => rfl
  | cons x L ih => simp only [waysL, List.flatMap_cons, List.length_append, List.length_cons] at ih ⊢; rw [ih]; simp [waysOf]; omega
theorem waysL_take {L : List Lk} {k : Nat} (hk : k < L.length) : waysL (L.take (k + 1)) = waysL (L.take k) ++ waysOf (L.getD k l0) := by
  have hg : L[k] = L.getD k l0 := by simp [List.getD, hk]
  rw [List.take_add_one, List.getElem?_eq_getElem hk, hg]
  simp [waysL]
/-- a direction beside the pointer to its messages -/
structure WT where
  x : Wy
  p : Value
def cellsW (t : WT) : List Value := [.int .i64 t.x.fn, .int .i64 t.x.fi, .int .i64 t.x.tn, .int .i64 t.x.ti, .bool t.x.up, t.p]
def flatW (T : List WT) : List Value := T.flatMap cellsW
theorem flatW_len (T : List WT) : (flatW T).length = T.length * 6 := by
  induction T with
  | nil => rfl
  | cons t T ih => simp only [flatW, List.flatMap_cons, List.length_append, List.length_cons] at ih ⊢; rw [ih]; simp [cellsW]; omega
theorem flatW_append (S T : List WT) : flatW (S ++ T) = flatW S ++ flatW T := by simp [flatW]
theorem flatW_get (T : List WT) (i j : Nat) (hi : i < T.length) (hj : j < 6) : (flatW T)[i * 6 + j]? = (cellsW (T[i]'hi))[j]? := by
  induction T generalizing i with
  | nil => simp at hi
  | cons t T ih =>
    have e : flatW (t :: T) = cellsW t ++ flatW T := by simp [flatW]
    rw [e]
    cases i with
    | zero =>
      rw [Nat.zero_mul, Nat.zero_add, List.getElem?_append_left (by simp [cellsW]; omega)]
      rfl
    | succ i =>
      rw [List.getElem?_append_right (by simp [cellsW]; omega), show (i + 1) * 6 + j - (cellsW t).length = i * 6 + j by simp [cellsW]; omega, ih i (by simpa using hi)]
      rfl
def wysT (T : List WT) : List Wy := T.map (·.x)
theorem wysT_len (T : List WT) : (wysT T).length = T.length := by simp [wysT]
theorem wysT_get {T : List WT} {i : Nat} (hi : i < T.length) : (wysT T).getD i y0 = (T[i]'hi).x := by simp [wysT, List.getD, hi]
theorem rowW_rd {w : World} {base : Nat} {v : Value} {T : List WT} (h : w.ownsRow base 95 6 v T.length (flatW T)) (hr : ∀ t ∈ T, RdPt w t.p t.x.tr) : RdWS w v (wysT T) := by
  rcases h.2 with ⟨rfl, hn⟩ | ⟨g, cap, cur, rfl, hb, hg, hnc, hcm, hcs, htake⟩
  · have hT : T = [] := List.eq_nil_of_length_eq_zero hn
    subst hT
    exact RdWS.nil w
  · rw [← wysT_len]
    refine ⟨by rw [wysT_len]; unfold maxLen at hcm; omega, ?_⟩
    by_cases hz : T.length = 0
    · exact .inl ⟨some ⟨g, 0, none⟩, cap, by rw [wysT_len, hz], List.eq_nil_of_length_eq_zero (by rw [wysT_len, hz]), fun h => by cases h⟩
    · refine .inr ⟨g, 0, cap, rfl, by rw [wysT_len]; omega, fun i hi => ?_⟩
      rw [wysT_len] at hi
      have hm : T[i] ∈ T := List.getElem_mem hi
      rw [wysT_get hi]
      have hc : ∀ j, j < 6 → w.cell? ⟨g, 0 + i * 6 + j, none⟩ = (cellsW T[i])[j]? := fun j hj => by
        rw [Nat.zero_add, h.cellAt (i * 6 + j) (by omega), flatW_get T i j hi hj]
      exact ⟨T[i].p, hr _ hm, hc 0 (by omega), hc 1 (by omega), hc 2 (by omega), hc 3 (by omega), hc 4 (by omega), hc 5 (by omega)⟩
theorem rowW_keep {w w' : World} {base n : Nat} {v : Value} {xs : List Value} (h : w.ownsRow base 95 6 v n xs) (hb : Below w.heap.size w w') : w'.ownsRow base 95 6 v n xs :=
  World.ownsRow.kept (row := none) h ⟨hb.os, hb.tape, hb.output, hb.size, fun k hk _ => hb.block k hk⟩ (by cases v.ownBlock <;> simp)
theorem below_growW {V w w' : World} {v : Value} {base n : Nat} {xs : List Value} (h : Below V.heap.size V w) (ho : w.ownsRow base 95 6 v n xs) (hb : V.heap.size ≤ base) (hg : w.grownBy w' v.ownBlock) : Below V.heap.size V w' :=
  Below.grown h hg h.size (fun k hk => Nat.le_trans hb (World.ownsRow.lt ho k hk).1)
theorem infoW2 : (Tryz.prog.info? 95).map (fun i => (i.zero, i.size, i.bytes)) = some (some (.agg #[.int .i64 0, .int .i64 0, .int .i64 0, .int .i64 0, .bool false, .pointer none]), 6, 48) := by kernel_rfl
/-- append(s, ways[:]...) -/
theorem wp_appW {ops : Array Oper} {rest : List Oper} {o : Oper} {a : Act} {Q : Exit → Act → World → Prop} {w : World} (hgd : o.guard = none) (s x : Operand)
    (ho : o.op = .call { callee := .builtin .append, args := #[s, x], argTypes := #[96, 96] })
    (base g c : Nat) (v : Value) (n : Nat) (xs : List Value) (ys : List Value) (hs : a.eval s = v) (hx : a.eval x = .slice (some ⟨g, 0, none⟩) 2 c) (hown : w.ownsRow base 95 6 v n xs)
    (h0 : Bl w g ys) (h7 : ys.length = 12) (h1 : ∀ u ∈ ys, u.oneCell' = true) (hlen : n + 2 ≤ 4294967296) (hbase : base ≤ w.heap.size)
    (h : ∀ v' w', w'.ownsRow base 95 6 v' (n + 2) (xs ++ ys) → w.grownBy w' v.ownBlock → wpList Tryz.prog ops Q rest (a.put o.dst v') w') : wpList Tryz.prog ops Q (o :: rest) a w := by
  obtain ⟨i0, hi, hz0, hz1, hz2⟩ := info_parts infoW2
  refine wpList_append_own_at (w := w) hgd s x 96 ho base 95 i0 (.agg #[.int .i64 0, .int .i64 0, .int .i64 0, .int .i64 0, .bool false, .pointer none]) 6 48 Tryz.underlying96 hi hz0 hz1 hz2 rfl (by decide) v n xs hs hown ⟨g, 0, none⟩ 2 c ys hx (by omega) (fun j y hy => ?_) h1 (by unfold maxLen; omega) (by omega) hbase fun v' w' ho' hg' _ hor => h v' w' ho' hg'
  have hadd : ∀ j, (⟨g, 0, none⟩ : Addr).add j = ⟨g, j, none⟩ := fun j => by unfold Addr.add; split <;> simp_all
  rw [hadd]
  exact h0.c j hy
theorem cell_far {w : World} {B C o o' : Nat} {u v : Value} (h : C ≠ B) (e : w.cell? ⟨B, o', none⟩ = some v) : (w.setCell ⟨C, o, none⟩ u).cell? ⟨B, o', none⟩ = some v := by
  rw [World.cell?_setCell_other _ _ _ _ (by intro q; cases q; exact h rfl)]
  exact e
/-- what the first statement leaves: both ends in boxes of their own -/
def KeptEnds (V wx : World) (x : Lk) (p q : Value) : Prop := ∃ B C, p = .pointer (some ⟨B, 0, none⟩) ∧ q = .pointer (some ⟨C, 0, none⟩) ∧ Over V wx ∧ Bl wx B [.int .i64 x.a, .int .i64 x.ai] ∧ Bl wx C [.int .i64 x.b, .int .i64 x.bi] ∧ V.heap.size ≤ B ∧ V.heap.size ≤ C
set_option maxHeartbeats 4000000 in
theorem lways_any (b o : Nat) (x : Lk) (w : World) (h : AtL w b o x) :
    Calls Tryz.prog 80 #[.pointer (some ⟨b, o, none⟩)] w fun e w' => e = .returned (.agg #[.int .i64 x.a, .int .i64 x.ai, .int .i64 x.b, .int .i64 x.bi, .bool x.up, .pointer (some ⟨b, o + 5, none⟩), .int .i64 x.b, .int .i64 x.bi, .int .i64 x.a, .int .i64 x.ai, .bool x.up, .pointer (some ⟨b, o + 6, none⟩)]) ∧ Below w.heap.size w w' := by
  obtain ⟨av, bv, hr, k0, k1, k2, k3, k4, k5, k6⟩ := h
  clear hr
  have hbw := World.block_lt_of_cell? w _ k0
  obtain ⟨bR, B0, z⟩ := one w [.int .i64 0, .int .i64 0, .int .i64 0, .int .i64 0, .bool false, .pointer none, .int .i64 0, .int .i64 0, .int .i64 0, .int .i64 0, .bool false, .pointer none] 108
  replace k0 := cell_keep B0 hbw k0
  replace k1 := cell_keep B0 hbw k1
  replace k2 := cell_keep B0 hbw k2
  replace k3 := cell_keep B0 hbw k3
  replace k4 := cell_keep B0 hbw k4
  replace k5 := cell_keep B0 hbw k5
  replace k6 := cell_keep B0 hbw k6
  go_enter Tryz.func80, Tryz.ntmps80
  go_wp2_with fail
  obtain ⟨V, hV⟩ : ∃ V, V = w.alloc (.cells #[.int .i64 0, .int .i64 0, .int .i64 0, .int .i64 0, .bool false, .pointer none, .int .i64 0, .int .i64 0, .int .i64 0, .int .i64 0, .bool false, .pointer none] 108) := ⟨_, rfl⟩
  obtain ⟨R, hR⟩ : ∃ R, R = w.heap.size := ⟨_, rfl⟩
  rw [← hV] at bR B0 z k0 k1 k2 k3 k4 k5 k6 ⊢
  rw [← hR] at bR ⊢
  have hRw : w.heap.size ≤ R := Nat.le_of_eq hR.symm
  have hbV : b < V.heap.size := by omega
  have hRV := bR.lt
  clear hV hR z
  go_cut [3, 4] from 5 to 22 (fun s3 s4 wx => KeptEnds V wx x s3 s4)
  case first =>
    refine wp_region_held_drew (S := fun w' => Over V w') (by kernel_rfl) (over_drew V) (fun hHeld => ?_)
    obtain ⟨u0, e0'⟩ : ∃ u, u = V.drew := ⟨_, rfl⟩
    have O : Over V u0 := by rw [e0']; exact over_drew V
    rw [← e0']
    clear e0' hHeld
    refine wpAnyH_take (i := 0) (v := ?_) rfl (by kernel_rfl) (by kernel_rfl) (by kernel_rfl) (fun _ _ _ h => h) (Or.inl ⟨by rfl, ?_⟩) O ?_
    rotate_left
    · intro wq hSq
      (try dsimp only at hSq)

      go_simp
      try rfl
    change wpAnyH _ _ _ _ _ _ _ (Act.put _ (some 5) _) _
    simp only [Act.put, List.setIfInBounds_toArray, List.set_cons_succ, List.set_cons_zero]
    refine wpAnyH_take (i := 1) (v := ?_) rfl (by kernel_rfl) (by kernel_rfl) (by kernel_rfl) (fun _ _ _ h => h) (Or.inl ⟨by rfl, ?_⟩) O ?_
    rotate_left
    · intro wq hSq
      (try dsimp only at hSq)

      go_simp
      try rfl
    change wpAnyH _ _ _ _ _ _ _ (Act.put _ (some 6) _) _
    simp only [Act.put, List.setIfInBounds_toArray, List.set_cons_succ, List.set_cons_zero]
    refine wpAnyH_take (i := 2) (v := ?_) rfl (by kernel_rfl) (by kernel_rfl) (by kernel_rfl) (fun _ _ _ h => h) (Or.inl ⟨by rfl, ?_⟩) O ?_
    rotate_left
    · intro wq hSq
      (try dsimp only at hSq)

      go_simp
      try rfl
    change wpAnyH _ _ _ _ _ _ _ (Act.put _ (some 7) _) _
    simp only [Act.put, List.setIfInBounds_toArray, List.set_cons_succ, List.set_cons_zero]
    refine wpAnyH_take (i := 3) (v := ?_) rfl (by kernel_rfl) (by kernel_rfl) (by kernel_rfl) (fun _ _ _ h => h) (Or.inl ⟨by rfl, ?_⟩) O ?_
    rotate_left
    · intro wq hSq
      (try dsimp only at hSq)
      have e0 := cell_keep hSq hbV k0
      go_simp
      try rfl
    change wpAnyH _ _ _ _ _ _ _ (Act.put _ (some 8) _) _
    simp only [Act.put, List.setIfInBounds_toArray, List.set_cons_succ, List.set_cons_zero]
    refine wpAnyH_take (i := 4) (v := ?_) rfl (by kernel_rfl) (by kernel_rfl) (by kernel_rfl) (fun _ _ _ h => h) (Or.inl ⟨by rfl, ?_⟩) O ?_
    rotate_left
    · intro wq hSq
      (try dsimp only at hSq)

      go_simp
      try rfl
    change wpAnyH _ _ _ _ _ _ _ (Act.put _ (some 9) _) _
    simp only [Act.put, List.setIfInBounds_toArray, List.set_cons_succ, List.set_cons_zero]
    refine wpAnyH_take (i := 5) (v := ?_) rfl (by kernel_rfl) (by kernel_rfl) (by kernel_rfl) (fun _ _ _ h => h) (Or.inl ⟨by rfl, ?_⟩) O ?_
    rotate_left
    · intro wq hSq
      (try dsimp only at hSq)

      go_simp
      try rfl
    change wpAnyH _ _ _ _ _ _ _ (Act.put _ (some 10) _) _
    simp only [Act.put, List.setIfInBounds_toArray, List.set_cons_succ, List.set_cons_zero]
    refine wpAnyH_take (i := 6) (v := ?_) rfl (by kernel_rfl) (by kernel_rfl) (by kernel_rfl) (fun _ _ _ h => h) (Or.inl ⟨by rfl, ?_⟩) O ?_
    rotate_left
    · intro wq hSq
      (try dsimp only at hSq)

      go_simp
      try rfl
    change wpAnyH _ _ _ _ _ _ _ (Act.put _ (some 11) _) _
    simp only [Act.put, List.setIfInBounds_toArray, List.set_cons_succ, List.set_cons_zero]
    refine wpAnyH_take (i := 7) (v := ?_) rfl (by kernel_rfl) (by kernel_rfl) (by kernel_rfl) (fun _ _ _ h => h) (Or.inl ⟨by rfl, ?_⟩) O ?_
    rotate_left
    · intro wq hSq
      (try dsimp only at hSq)
      have e1 := cell_keep hSq hbV k1
      go_simp
      try rfl
    change wpAnyH _ _ _ _ _ _ _ (Act.put _ (some 12) _) _
    simp only [Act.put, List.setIfInBounds_toArray, List.set_cons_succ, List.set_cons_zero]
    refine wpAnyH_take (i := 8) (v := ?_) rfl (by kernel_rfl) (by kernel_rfl) (by kernel_rfl) (fun _ _ _ h => h) (Or.inl ⟨by rfl, ?_⟩) O ?_
    rotate_left
    · intro wq hSq
      (try dsimp only at hSq)

      go_simp
      try rfl
    change wpAnyH _ _ _ _ _ _ _ (Act.put _ (some 13) _) _
    simp only [Act.put, List.setIfInBounds_toArray, List.set_cons_succ, List.set_cons_zero]
    refine wpAnyH_take (i := 9) (v := ?_) rfl (by kernel_rfl) (by kernel_rfl) (by kernel_rfl) (fun _ _ _ h => h) (Or.inl ⟨by rfl, ?_⟩) O ?_
    rotate_left
    · intro wq hSq
      (try dsimp only at hSq)

      go_simp
      try rfl
    change wpAnyH _ _ _ _ _ _ _ (Act.put _ (some 14) _) _
    simp only [Act.put, List.setIfInBounds_toArray, List.set_cons_succ, List.set_cons_zero]
    refine wpAnyH_take (i := 10) (v := ?_) rfl (by kernel_rfl) (by kernel_rfl) (by kernel_rfl) (fun _ _ _ h => h) (Or.inl ⟨by rfl, ?_⟩) O ?_
    rotate_left
    · intro wq hSq
      (try dsimp only at hSq)

      go_simp
      try rfl
    change wpAnyH _ _ _ _ _ _ _ (Act.put _ (some 15) _) _
    simp only [Act.put, List.setIfInBounds_toArray, List.set_cons_succ, List.set_cons_zero]
    refine wpAnyH_take (i := 11) (v := ?_) rfl (by kernel_rfl) (by kernel_rfl) (by kernel_rfl) (fun _ _ _ h => h) (Or.inl ⟨by rfl, ?_⟩) O ?_
    rotate_left
    · intro wq hSq
      (try dsimp only at hSq)

      go_simp
      try rfl
    change wpAnyH _ _ _ _ _ _ _ (Act.put _ (some 16) _) _
    simp only [Act.put, List.setIfInBounds_toArray, List.set_cons_succ, List.set_cons_zero]
    refine wpAnyH_take (i := 12) (v := ?_) rfl (by kernel_rfl) (by kernel_rfl) (by kernel_rfl) (fun _ _ _ h => h) (Or.inl ⟨by rfl, ?_⟩) O ?_
    rotate_left
    · intro wq hSq
      (try dsimp only at hSq)
      have e2 := cell_keep hSq hbV k2
      go_simp
      try rfl
    change wpAnyH _ _ _ _ _ _ _ (Act.put _ (some 17) _) _
    simp only [Act.put, List.setIfInBounds_toArray, List.set_cons_succ, List.set_cons_zero]
    refine wpAnyH_take (i := 13) (v := ?_) rfl (by kernel_rfl) (by kernel_rfl) (by kernel_rfl) (fun _ _ _ h => h) (Or.inl ⟨by rfl, ?_⟩) O ?_
    rotate_left
    · intro wq hSq
      (try dsimp only at hSq)

      go_simp
      try rfl
    change wpAnyH _ _ _ _ _ _ _ (Act.put _ (some 18) _) _
    simp only [Act.put, List.setIfInBounds_toArray, List.set_cons_succ, List.set_cons_zero]
    refine wpAnyH_take (i := 14) (v := ?_) rfl (by kernel_rfl) (by kernel_rfl) (by kernel_rfl) (fun _ _ _ h => h) (Or.inl ⟨by rfl, ?_⟩) O ?_
    rotate_left
    · intro wq hSq
      (try dsimp only at hSq)

      go_simp
      try rfl
    change wpAnyH _ _ _ _ _ _ _ (Act.put _ (some 19) _) _
    simp only [Act.put, List.setIfInBounds_toArray, List.set_cons_succ, List.set_cons_zero]
    refine wpAnyH_take (i := 15) (v := ?_) rfl (by kernel_rfl) (by kernel_rfl) (by kernel_rfl) (fun _ _ _ h => h) (Or.inl ⟨by rfl, ?_⟩) O ?_
    rotate_left
    · intro wq hSq
      (try dsimp only at hSq)

      go_simp
      try rfl
    change wpAnyH _ _ _ _ _ _ _ (Act.put _ (some 20) _) _
    simp only [Act.put, List.setIfInBounds_toArray, List.set_cons_succ, List.set_cons_zero]
    refine wpAnyH_take (i := 16) (v := ?_) rfl (by kernel_rfl) (by kernel_rfl) (by kernel_rfl) (fun _ _ _ h => h) (Or.inl ⟨by rfl, ?_⟩) O ?_
    rotate_left
    · intro wq hSq
      (try dsimp only at hSq)
      have e3 := cell_keep hSq hbV k3
      go_simp
      try rfl
    change wpAnyH _ _ _ _ _ _ _ (Act.put _ (some 21) _) _
    simp only [Act.put, List.setIfInBounds_toArray, List.set_cons_succ, List.set_cons_zero]
    refine wpAnyH_take (i := 17) (v := ?_) rfl (by kernel_rfl) (by kernel_rfl) (by kernel_rfl) (fun _ _ _ h => h) (Or.inl ⟨by rfl, ?_⟩) O ?_
    rotate_left
    · intro wq hSq
      (try dsimp only at hSq)

      go_simp
      try rfl
    change wpAnyH _ _ _ _ _ _ _ (Act.put _ (some 22) _) _
    simp only [Act.put, List.setIfInBounds_toArray, List.set_cons_succ, List.set_cons_zero]
    refine wpAnyH_ready (rs := [18, 19]) (by kernel_rfl) (by simp) ?_
    refine (AllReadyH.cons rfl (fun K hK => ?_) (AllReadyH.cons rfl (fun K hK => ?_) AllReadyH.nil))
    · go_simp
      have hOB := O.size
      obtain ⟨bB, hb, z⟩ := one u0 [.int .i64 0, .int .i64 0] 92
      replace O := over_step O hb
      clear z hb
      refine hK.out _ _ O (fun _ => ?_)
      clear hK K
      try simp only [Act.put, List.setIfInBounds_toArray, List.set_cons_zero, List.set_cons_succ]
      obtain ⟨B, eB⟩ : ∃ B, B = u0.heap.size := ⟨_, rfl⟩
      have hVB : V.heap.size ≤ B := by rw [eB]; exact hOB
      obtain ⟨u1, eW⟩ : ∃ u, u = u0.alloc (.cells #[.int .i64 0, .int .i64 0] 92) := ⟨_, rfl⟩
      rw [← eW] at bB O ⊢
      rw [← eB] at bB ⊢
      clear eW eB hOB
      refine wpAnyH_ready (rs := [19]) (by kernel_rfl) (by simp) ?_
      refine (AllReadyH.cons rfl (fun K hK => ?_) AllReadyH.nil)
      go_simp
      have hOC := O.size
      have hlB := bB.lt
      obtain ⟨bC, hb, z⟩ := one u1 [.int .i64 0, .int .i64 0] 92
      replace O := over_step O hb
      replace bB := bB.keep hb
      have hltB := bB.lt
      clear z hb
      refine hK.out _ _ O (fun _ => ?_)
      clear hK K
      try simp only [Act.put, List.setIfInBounds_toArray, List.set_cons_zero, List.set_cons_succ]
      obtain ⟨C, eC⟩ : ∃ B, B = u1.heap.size := ⟨_, rfl⟩
      have hVC : V.heap.size ≤ C := by rw [eC]; exact hOC
      obtain ⟨u2, eW⟩ : ∃ u, u = u1.alloc (.cells #[.int .i64 0, .int .i64 0] 92) := ⟨_, rfl⟩
      rw [← eW] at bC O bB ⊢
      rw [← eC] at bC ⊢
      have hneq : B ≠ C := by omega
      clear eW eC hOC
      have hBC : B ≠ C := hneq
      have r0 := bB.c 0 rfl
      have rf0 := bB.f 0 rfl
      have r1 := bB.c 1 rfl
      have rf1 := bB.f 1 rfl
      refine wpAnyH_ready (rs := [20]) (by kernel_rfl) (by simp) ?_
      refine (AllReadyH.cons rfl (fun K hK => ?_) AllReadyH.nil)
      go_simp
      have O2 := Below.setCell (Below.setCell O (p := ⟨B, 0, none⟩) hVB (.int .i64 x.a)) (p := ⟨B, 1, none⟩) hVB (.int .i64 x.ai)
      refine hK.out _ _ O2 (fun _ => ?_)
      clear hK K r0 rf0 r1 rf1
      try simp only [Act.put, List.setIfInBounds_toArray, List.set_cons_zero, List.set_cons_succ]
      have bC1 := (bC.far (o := 0) (u := .int .i64 x.a) hBC.symm).far (o := 1) (u := .int .i64 x.ai) hBC.symm
      have bB1 := (bB.set 0 (.int .i64 x.a)).set 1 (.int .i64 x.ai)
      have r0 := bC1.c 0 rfl
      have rf0 := bC1.f 0 rfl
      have r1 := bC1.c 1 rfl
      have rf1 := bC1.f 1 rfl
      refine wpAnyH_ready (rs := [21]) (by kernel_rfl) (by simp) ?_
      refine (AllReadyH.cons rfl (fun K hK => ?_) AllReadyH.nil)
      go_simp
      have O3 := Below.setCell (Below.setCell O2 (p := ⟨C, 0, none⟩) hVC (.int .i64 x.b)) (p := ⟨C, 1, none⟩) hVC (.int .i64 x.bi)
      refine hK.out _ _ O3 (fun _ => ?_)
      clear hK K r0 rf0 r1 rf1
      try simp only [Act.put, List.setIfInBounds_toArray, List.set_cons_zero, List.set_cons_succ]
      have bB2 := (bB1.far (o := 0) (u := .int .i64 x.b) hBC).far (o := 1) (u := .int .i64 x.bi) hBC
      have bC2 := (bC1.set 0 (.int .i64 x.b)).set 1 (.int .i64 x.bi)
      refine wpAnyH_done (by kernel_rfl) ?_ _
      go_wp2_with fail
      go_meet
      case rel => exact ⟨B, C, rfl, rfl, O3, bB2, bC2, hVB, hVC⟩
    · go_simp
      have hOC := O.size
      obtain ⟨bC, hb, z⟩ := one u0 [.int .i64 0, .int .i64 0] 92
      replace O := over_step O hb
      clear z hb
      refine hK.out _ _ O (fun _ => ?_)
      clear hK K
      try simp only [Act.put, List.setIfInBounds_toArray, List.set_cons_zero, List.set_cons_succ]
      obtain ⟨C, eC⟩ : ∃ B, B = u0.heap.size := ⟨_, rfl⟩
      have hVC : V.heap.size ≤ C := by rw [eC]; exact hOC
      obtain ⟨u1, eW⟩ : ∃ u, u = u0.alloc (.cells #[.int .i64 0, .int .i64 0] 92) := ⟨_, rfl⟩
      rw [← eW] at bC O ⊢
      rw [← eC] at bC ⊢
      clear eW eC hOC
      refine wpAnyH_ready (rs := [18]) (by kernel_rfl) (by simp) ?_
      refine (AllReadyH.cons rfl (fun K hK => ?_) AllReadyH.nil)
      go_simp
      have hOB := O.size
      have hlC := bC.lt
      obtain ⟨bB, hb, z⟩ := one u1 [.int .i64 0, .int .i64 0] 92
      replace O := over_step O hb
      replace bC := bC.keep hb
      clear z hb
      refine hK.out _ _ O (fun _ => ?_)
      clear hK K
      try simp only [Act.put, List.setIfInBounds_toArray, List.set_cons_zero, List.set_cons_succ]
      obtain ⟨B, eB⟩ : ∃ B, B = u1.heap.size := ⟨_, rfl⟩
      have hVB : V.heap.size ≤ B := by rw [eB]; exact hOB
      obtain ⟨u2, eW⟩ : ∃ u, u = u1.alloc (.cells #[.int .i64 0, .int .i64 0] 92) := ⟨_, rfl⟩
      rw [← eW] at bB O bC ⊢
      rw [← eB] at bB ⊢
      have hneq : B ≠ C := by omega
      clear eW eB hOB
      have hBC : B ≠ C := hneq
      have r0 := bB.c 0 rfl
      have rf0 := bB.f 0 rfl
      have r1 := bB.c 1 rfl
      have rf1 := bB.f 1 rfl
      refine wpAnyH_ready (rs := [20]) (by kernel_rfl) (by simp) ?_
      refine (AllReadyH.cons rfl (fun K hK => ?_) AllReadyH.nil)
      go_simp
      have O2 := Below.setCell (Below.setCell O (p := ⟨B, 0, none⟩) hVB (.int .i64 x.a)) (p := ⟨B, 1, none⟩) hVB (.int .i64 x.ai)
      refine hK.out _ _ O2 (fun _ => ?_)
      clear hK K r0 rf0 r1 rf1
      try simp only [Act.put, List.setIfInBounds_toArray, List.set_cons_zero, List.set_cons_succ]
      have bC1 := (bC.far (o := 0) (u := .int .i64 x.a) hBC.symm).far (o := 1) (u := .int .i64 x.ai) hBC.symm
      have bB1 := (bB.set 0 (.int .i64 x.a)).set 1 (.int .i64 x.ai)
      have r0 := bC1.c 0 rfl
      have rf0 := bC1.f 0 rfl
      have r1 := bC1.c 1 rfl
      have rf1 := bC1.f 1 rfl
      refine wpAnyH_ready (rs := [21]) (by kernel_rfl) (by simp) ?_
      refine (AllReadyH.cons rfl (fun K hK => ?_) AllReadyH.nil)
      go_simp
      have O3 := Below.setCell (Below.setCell O2 (p := ⟨C, 0, none⟩) hVC (.int .i64 x.b)) (p := ⟨C, 1, none⟩) hVC (.int .i64 x.bi)
      refine hK.out _ _ O3 (fun _ => ?_)
      clear hK K r0 rf0 r1 rf1
      try simp only [Act.put, List.setIfInBounds_toArray, List.set_cons_zero, List.set_cons_succ]
      have bB2 := (bB1.far (o := 0) (u := .int .i64 x.b) hBC).far (o := 1) (u := .int .i64 x.bi) hBC
      have bC2 := (bC1.set 0 (.int .i64 x.b)).set 1 (.int .i64 x.bi)
      refine wpAnyH_done (by kernel_rfl) ?_ _
      go_wp2_with fail
      go_meet
      case rel => exact ⟨B, C, rfl, rfl, O3, bB2, bC2, hVB, hVC⟩
  case rest =>
    obtain ⟨V2, rfl⟩ : ∃ x : World, x = wc := ⟨_, rfl⟩
    obtain ⟨B, C, rfl, rfl, OV, bB, bC, hVB, hVC⟩ := hcut
    replace k0 := cell_keep OV hbV k0
    replace k1 := cell_keep OV hbV k1
    replace k2 := cell_keep OV hbV k2
    replace k3 := cell_keep OV hbV k3
    replace k4 := cell_keep OV hbV k4
    replace k5 := cell_keep OV hbV k5
    replace k6 := cell_keep OV hbV k6
    replace bR := bR.keep OV
    replace B0 := below_step B0 OV
    have hbR : b ≠ R := by omega
    have hBR : B ≠ R := by omega
    have hCR : C ≠ R := by omega
    go_wp2_with fail
    refine wp_region_held_drew (S := fun w' => Bl w' B [.int .i64 x.a, .int .i64 x.ai] ∧ Bl w' C [.int .i64 x.b, .int .i64 x.bi] ∧ w'.cell? ⟨b, o, none⟩ = some (.int .i64 x.a) ∧ w'.cell? ⟨b, o + 1, none⟩ = some (.int .i64 x.ai) ∧ w'.cell? ⟨b, o + 2, none⟩ = some (.int .i64 x.b) ∧ w'.cell? ⟨b, o + 3, none⟩ = some (.int .i64 x.bi) ∧ w'.cell? ⟨b, o + 4, none⟩ = some (.bool x.up) ∧ w'.cell? ⟨b, o + 5, none⟩ = some (av) ∧ w'.cell? ⟨b, o + 6, none⟩ = some (bv)) (by kernel_rfl) ⟨bB.keep (over_drew V2), bC.keep (over_drew V2), cell_keep (over_drew V2) (by have := OV.size; omega) k0, cell_keep (over_drew V2) (by have := OV.size; omega) k1, cell_keep (over_drew V2) (by have := OV.size; omega) k2, cell_keep (over_drew V2) (by have := OV.size; omega) k3, cell_keep (over_drew V2) (by have := OV.size; omega) k4, cell_keep (over_drew V2) (by have := OV.size; omega) k5, cell_keep (over_drew V2) (by have := OV.size; omega) k6⟩ (fun hHeld => ?_)
    obtain ⟨u0, e0'⟩ : ∃ u, u = V2.drew := ⟨_, rfl⟩
    have O2 : Over V2 u0 := by rw [e0']; exact over_drew V2
    rw [← e0']
    clear e0' hHeld
    replace bB := bB.keep O2
    replace bC := bC.keep O2
    replace bR := bR.keep O2
    replace B0 := below_step B0 O2
    replace k0 := cell_keep O2 (by have := OV.size; omega) k0
    replace k1 := cell_keep O2 (by have := OV.size; omega) k1
    replace k2 := cell_keep O2 (by have := OV.size; omega) k2
    replace k3 := cell_keep O2 (by have := OV.size; omega) k3
    replace k4 := cell_keep O2 (by have := OV.size; omega) k4
    replace k5 := cell_keep O2 (by have := OV.size; omega) k5
    replace k6 := cell_keep O2 (by have := OV.size; omega) k6
    have O : Bl u0 B [.int .i64 x.a, .int .i64 x.ai] ∧ Bl u0 C [.int .i64 x.b, .int .i64 x.bi] ∧ u0.cell? ⟨b, o, none⟩ = some (.int .i64 x.a) ∧ u0.cell? ⟨b, o + 1, none⟩ = some (.int .i64 x.ai) ∧ u0.cell? ⟨b, o + 2, none⟩ = some (.int .i64 x.b) ∧ u0.cell? ⟨b, o + 3, none⟩ = some (.int .i64 x.bi) ∧ u0.cell? ⟨b, o + 4, none⟩ = some (.bool x.up) ∧ u0.cell? ⟨b, o + 5, none⟩ = some (av) ∧ u0.cell? ⟨b, o + 6, none⟩ = some (bv) := ⟨bB, bC, k0, k1, k2, k3, k4, k5, k6⟩
    refine wpAnyH_take (i := 0) (v := ?_) rfl (by kernel_rfl) (by kernel_rfl) (by kernel_rfl) (fun _ _ _ h => h) (Or.inl ⟨by rfl, ?_⟩) O ?_
    rotate_left
    · intro wq hSq
      (try dsimp only at hSq)
      obtain ⟨hq1, hq2, e0, e1, e2, e3, e4, e5, e6⟩ := hSq
      have m0 := hq1.c 0 rfl
      have m1 := hq1.c 1 rfl
      have n0 := hq2.c 0 rfl
      have n1 := hq2.c 1 rfl
      go_simp
      try rfl
    change wpAnyH _ _ _ _ _ _ _ (Act.put _ (some 23) _) _
    simp only [Act.put, List.setIfInBounds_toArray, List.set_cons_succ, List.set_cons_zero]
    refine wpAnyH_take (i := 1) (v := ?_) rfl (by kernel_rfl) (by kernel_rfl) (by kernel_rfl) (fun _ _ _ h => h) (Or.inl ⟨by rfl, ?_⟩) O ?_
    rotate_left
    · intro wq hSq
      (try dsimp only at hSq)
      obtain ⟨hq1, hq2, e0, e1, e2, e3, e4, e5, e6⟩ := hSq
      have m0 := hq1.c 0 rfl
      have m1 := hq1.c 1 rfl
      have n0 := hq2.c 0 rfl
      have n1 := hq2.c 1 rfl
      go_simp
      try rfl
    change wpAnyH _ _ _ _ _ _ _ (Act.put _ (some 24) _) _
    simp only [Act.put, List.setIfInBounds_toArray, List.set_cons_succ, List.set_cons_zero]
    refine wpAnyH_take (i := 2) (v := ?_) rfl (by kernel_rfl) (by kernel_rfl) (by kernel_rfl) (fun _ _ _ h => h) (Or.inl ⟨by rfl, ?_⟩) O ?_
    rotate_left
    · intro wq hSq
      (try dsimp only at hSq)

      go_simp
      try rfl
    change wpAnyH _ _ _ _ _ _ _ (Act.put _ (some 25) _) _
    simp only [Act.put, List.setIfInBounds_toArray, List.set_cons_succ, List.set_cons_zero]
    refine wpAnyH_take (i := 3) (v := ?_) rfl (by kernel_rfl) (by kernel_rfl) (by kernel_rfl) (fun _ _ _ h => h) (Or.inl ⟨by rfl, ?_⟩) O ?_
    rotate_left
    · intro wq hSq
      (try dsimp only at hSq)

      go_simp
      try rfl
    change wpAnyH _ _ _ _ _ _ _ (Act.put _ (some 26) _) _
    simp only [Act.put, List.setIfInBounds_toArray, List.set_cons_succ, List.set_cons_zero]
    refine wpAnyH_take (i := 4) (v := ?_) rfl (by kernel_rfl) (by kernel_rfl) (by kernel_rfl) (fun _ _ _ h => h) (Or.inl ⟨by rfl, ?_⟩) O ?_
    rotate_left
    · intro wq hSq
      (try dsimp only at hSq)

      go_simp
      try rfl
    change wpAnyH _ _ _ _ _ _ _ (Act.put _ (some 27) _) _
    simp only [Act.put, List.setIfInBounds_toArray, List.set_cons_succ, List.set_cons_zero]
    refine wpAnyH_take (i := 5) (v := ?_) rfl (by kernel_rfl) (by kernel_rfl) (by kernel_rfl) (fun _ _ _ h => h) (Or.inl ⟨by rfl, ?_⟩) O ?_
    rotate_left
    · intro wq hSq
      (try dsimp only at hSq)
      obtain ⟨hq1, hq2, e0, e1, e2, e3, e4, e5, e6⟩ := hSq
      have m0 := hq1.c 0 rfl
      have m1 := hq1.c 1 rfl
      have n0 := hq2.c 0 rfl
      have n1 := hq2.c 1 rfl
      go_simp
      try rfl
    change wpAnyH _ _ _ _ _ _ _ (Act.put _ (some 28) _) _
    simp only [Act.put, List.setIfInBounds_toArray, List.set_cons_succ, List.set_cons_zero]
    refine wpAnyH_take (i := 6) (v := ?_) rfl (by kernel_rfl) (by kernel_rfl) (by kernel_rfl) (fun _ _ _ h => h) (Or.inl ⟨by rfl, ?_⟩) O ?_
    rotate_left
    · intro wq hSq
      (try dsimp only at hSq)

      go_simp
      try rfl
    change wpAnyH _ _ _ _ _ _ _ (Act.put _ (some 29) _) _
    simp only [Act.put, List.setIfInBounds_toArray, List.set_cons_succ, List.set_cons_zero]
    refine wpAnyH_take (i := 7) (v := ?_) rfl (by kernel_rfl) (by kernel_rfl) (by kernel_rfl) (fun _ _ _ h => h) (Or.inl ⟨by rfl, ?_⟩) O ?_
    rotate_left
    · intro wq hSq
      (try dsimp only at hSq)

      go_simp
      try rfl
    change wpAnyH _ _ _ _ _ _ _ (Act.put _ (some 30) _) _
    simp only [Act.put, List.setIfInBounds_toArray, List.set_cons_succ, List.set_cons_zero]
    refine wpAnyH_take (i := 8) (v := ?_) rfl (by kernel_rfl) (by kernel_rfl) (by kernel_rfl) (fun _ _ _ h => h) (Or.inl ⟨by rfl, ?_⟩) O ?_
    rotate_left
    · intro wq hSq
      (try dsimp only at hSq)

      go_simp
      try rfl
    change wpAnyH _ _ _ _ _ _ _ (Act.put _ (some 31) _) _
    simp only [Act.put, List.setIfInBounds_toArray, List.set_cons_succ, List.set_cons_zero]
    refine wpAnyH_take (i := 9) (v := ?_) rfl (by kernel_rfl) (by kernel_rfl) (by kernel_rfl) (fun _ _ _ h => h) (Or.inl ⟨by rfl, ?_⟩) O ?_
    rotate_left
    · intro wq hSq
      (try dsimp only at hSq)

      go_simp
      try rfl
    change wpAnyH _ _ _ _ _ _ _ (Act.put _ (some 32) _) _
    simp only [Act.put, List.setIfInBounds_toArray, List.set_cons_succ, List.set_cons_zero]
    refine wpAnyH_take (i := 10) (v := ?_) rfl (by kernel_rfl) (by kernel_rfl) (by kernel_rfl) (fun _ _ _ h => h) (Or.inl ⟨by rfl, ?_⟩) O ?_
    rotate_left
    · intro wq hSq
      (try dsimp only at hSq)
      obtain ⟨hq1, hq2, e0, e1, e2, e3, e4, e5, e6⟩ := hSq
      have m0 := hq1.c 0 rfl
      have m1 := hq1.c 1 rfl
      have n0 := hq2.c 0 rfl
      have n1 := hq2.c 1 rfl
      go_simp
      try rfl
    change wpAnyH _ _ _ _ _ _ _ (Act.put _ (some 33) _) _
    simp only [Act.put, List.setIfInBounds_toArray, List.set_cons_succ, List.set_cons_zero]
    refine wpAnyH_take (i := 11) (v := ?_) rfl (by kernel_rfl) (by kernel_rfl) (by kernel_rfl) (fun _ _ _ h => h) (Or.inl ⟨by rfl, ?_⟩) O ?_
    rotate_left
    · intro wq hSq
      (try dsimp only at hSq)
      obtain ⟨hq1, hq2, e0, e1, e2, e3, e4, e5, e6⟩ := hSq
      have m0 := hq1.c 0 rfl
      have m1 := hq1.c 1 rfl
      have n0 := hq2.c 0 rfl
      have n1 := hq2.c 1 rfl
      go_simp
      try rfl
    change wpAnyH _ _ _ _ _ _ _ (Act.put _ (some 34) _) _
    simp only [Act.put, List.setIfInBounds_toArray, List.set_cons_succ, List.set_cons_zero]
    refine wpAnyH_take (i := 12) (v := ?_) rfl (by kernel_rfl) (by kernel_rfl) (by kernel_rfl) (fun _ _ _ h => h) (Or.inl ⟨by rfl, ?_⟩) O ?_
    rotate_left
    · intro wq hSq
      (try dsimp only at hSq)

      go_simp
      try rfl
    change wpAnyH _ _ _ _ _ _ _ (Act.put _ (some 35) _) _
    simp only [Act.put, List.setIfInBounds_toArray, List.set_cons_succ, List.set_cons_zero]
    refine wpAnyH_take (i := 13) (v := ?_) rfl (by kernel_rfl) (by kernel_rfl) (by kernel_rfl) (fun _ _ _ h => h) (Or.inl ⟨by rfl, ?_⟩) O ?_
    rotate_left
    · intro wq hSq
      (try dsimp only at hSq)

      go_simp
      try rfl
    change wpAnyH _ _ _ _ _ _ _ (Act.put _ (some 36) _) _
    simp only [Act.put, List.setIfInBounds_toArray, List.set_cons_succ, List.set_cons_zero]
    refine wpAnyH_take (i := 14) (v := ?_) rfl (by kernel_rfl) (by kernel_rfl) (by kernel_rfl) (fun _ _ _ h => h) (Or.inl ⟨by rfl, ?_⟩) O ?_
    rotate_left
    · intro wq hSq
      (try dsimp only at hSq)

      go_simp
      try rfl
    change wpAnyH _ _ _ _ _ _ _ (Act.put _ (some 37) _) _
    simp only [Act.put, List.setIfInBounds_toArray, List.set_cons_succ, List.set_cons_zero]
    refine wpAnyH_take (i := 15) (v := ?_) rfl (by kernel_rfl) (by kernel_rfl) (by kernel_rfl) (fun _ _ _ h => h) (Or.inl ⟨by rfl, ?_⟩) O ?_
    rotate_left
    · intro wq hSq
      (try dsimp only at hSq)
      obtain ⟨hq1, hq2, e0, e1, e2, e3, e4, e5, e6⟩ := hSq
      have m0 := hq1.c 0 rfl
      have m1 := hq1.c 1 rfl
      have n0 := hq2.c 0 rfl
      have n1 := hq2.c 1 rfl
      go_simp
      try rfl
    change wpAnyH _ _ _ _ _ _ _ (Act.put _ (some 38) _) _
    simp only [Act.put, List.setIfInBounds_toArray, List.set_cons_succ, List.set_cons_zero]
    refine wpAnyH_take (i := 16) (v := ?_) rfl (by kernel_rfl) (by kernel_rfl) (by kernel_rfl) (fun _ _ _ h => h) (Or.inl ⟨by rfl, ?_⟩) O ?_
    rotate_left
    · intro wq hSq
      (try dsimp only at hSq)

      go_simp
      try rfl
    change wpAnyH _ _ _ _ _ _ _ (Act.put _ (some 39) _) _
    simp only [Act.put, List.setIfInBounds_toArray, List.set_cons_succ, List.set_cons_zero]
    refine wpAnyH_take (i := 17) (v := ?_) rfl (by kernel_rfl) (by kernel_rfl) (by kernel_rfl) (fun _ _ _ h => h) (Or.inl ⟨by rfl, ?_⟩) O ?_
    rotate_left
    · intro wq hSq
      (try dsimp only at hSq)

      go_simp
      try rfl
    change wpAnyH _ _ _ _ _ _ _ (Act.put _ (some 40) _) _
    simp only [Act.put, List.setIfInBounds_toArray, List.set_cons_succ, List.set_cons_zero]
    refine wpAnyH_take (i := 18) (v := ?_) rfl (by kernel_rfl) (by kernel_rfl) (by kernel_rfl) (fun _ _ _ h => h) (Or.inl ⟨by rfl, ?_⟩) O ?_
    rotate_left
    · intro wq hSq
      (try dsimp only at hSq)

      go_simp
      try rfl
    change wpAnyH _ _ _ _ _ _ _ (Act.put _ (some 41) _) _
    simp only [Act.put, List.setIfInBounds_toArray, List.set_cons_succ, List.set_cons_zero]
    refine wpAnyH_take (i := 19) (v := ?_) rfl (by kernel_rfl) (by kernel_rfl) (by kernel_rfl) (fun _ _ _ h => h) (Or.inl ⟨by rfl, ?_⟩) O ?_
    rotate_left
    · intro wq hSq
      (try dsimp only at hSq)

      go_simp
      try rfl
    change wpAnyH _ _ _ _ _ _ _ (Act.put _ (some 42) _) _
    simp only [Act.put, List.setIfInBounds_toArray, List.set_cons_succ, List.set_cons_zero]
    refine wpAnyH_take (i := 20) (v := ?_) rfl (by kernel_rfl) (by kernel_rfl) (by kernel_rfl) (fun _ _ _ h => h) (Or.inl ⟨by rfl, ?_⟩) O ?_
    rotate_left
    · intro wq hSq
      (try dsimp only at hSq)

      go_simp
      try rfl
    change wpAnyH _ _ _ _ _ _ _ (Act.put _ (some 43) _) _
    simp only [Act.put, List.setIfInBounds_toArray, List.set_cons_succ, List.set_cons_zero]
    have r0 := bR.c 0 rfl
    have rf0 := bR.f 0 rfl
    have r1 := bR.c 1 rfl
    have rf1 := bR.f 1 rfl
    have r2 := bR.c 2 rfl
    have rf2 := bR.f 2 rfl
    have r3 := bR.c 3 rfl
    have rf3 := bR.f 3 rfl
    have r4 := bR.c 4 rfl
    have rf4 := bR.f 4 rfl
    have r5 := bR.c 5 rfl
    have rf5 := bR.f 5 rfl
    have r6 := bR.c 6 rfl
    have rf6 := bR.f 6 rfl
    have r7 := bR.c 7 rfl
    have rf7 := bR.f 7 rfl
    have r8 := bR.c 8 rfl
    have rf8 := bR.f 8 rfl
    have r9 := bR.c 9 rfl
    have rf9 := bR.f 9 rfl
    have r10 := bR.c 10 rfl
    have rf10 := bR.f 10 rfl
    have r11 := bR.c 11 rfl
    have rf11 := bR.f 11 rfl
    refine wpAnyH_ready (rs := [21]) (by kernel_rfl) (by simp) ?_
    refine (AllReadyH.cons rfl (fun K hK => ?_) AllReadyH.nil)
    go_simp
    refine hK.out _ _ ⟨((((((((((((bB.far (o := 0) (u := .int .i64 x.a) hBR).far (o := 1) (u := .int .i64 x.ai) hBR).far (o := 2) (u := .int .i64 x.b) hBR).far (o := 3) (u := .int .i64 x.bi) hBR).far (o := 4) (u := .bool x.up) hBR).far (o := 5) (u := .pointer (some ⟨b, o + 5, none⟩)) hBR).far (o := 6) (u := .int .i64 x.b) hBR).far (o := 7) (u := .int .i64 x.bi) hBR).far (o := 8) (u := .int .i64 x.a) hBR).far (o := 9) (u := .int .i64 x.ai) hBR).far (o := 10) (u := .bool x.up) hBR).far (o := 11) (u := .pointer (some ⟨b, o + 6, none⟩)) hBR), ((((((((((((bC.far (o := 0) (u := .int .i64 x.a) hCR).far (o := 1) (u := .int .i64 x.ai) hCR).far (o := 2) (u := .int .i64 x.b) hCR).far (o := 3) (u := .int .i64 x.bi) hCR).far (o := 4) (u := .bool x.up) hCR).far (o := 5) (u := .pointer (some ⟨b, o + 5, none⟩)) hCR).far (o := 6) (u := .int .i64 x.b) hCR).far (o := 7) (u := .int .i64 x.bi) hCR).far (o := 8) (u := .int .i64 x.a) hCR).far (o := 9) (u := .int .i64 x.ai) hCR).far (o := 10) (u := .bool x.up) hCR).far (o := 11) (u := .pointer (some ⟨b, o + 6, none⟩)) hCR), (cell_far (u := .pointer (some ⟨b, o + 6, none⟩)) (o := 11) hbR.symm (cell_far (u := .bool x.up) (o := 10) hbR.symm (cell_far (u := .int .i64 x.ai) (o := 9) hbR.symm (cell_far (u := .int .i64 x.a) (o := 8) hbR.symm (cell_far (u := .int .i64 x.bi) (o := 7) hbR.symm (cell_far (u := .int .i64 x.b) (o := 6) hbR.symm (cell_far (u := .pointer (some ⟨b, o + 5, none⟩)) (o := 5) hbR.symm (cell_far (u := .bool x.up) (o := 4) hbR.symm (cell_far (u := .int .i64 x.bi) (o := 3) hbR.symm (cell_far (u := .int .i64 x.b) (o := 2) hbR.symm (cell_far (u := .int .i64 x.ai) (o := 1) hbR.symm (cell_far (u := .int .i64 x.a) (o := 0) hbR.symm k0)))))))))))), (cell_far (u := .pointer (some ⟨b, o + 6, none⟩)) (o := 11) hbR.symm (cell_far (u := .bool x.up) (o := 10) hbR.symm (cell_far (u := .int .i64 x.ai) (o := 9) hbR.symm (cell_far (u := .int .i64 x.a) (o := 8) hbR.symm (cell_far (u := .int .i64 x.bi) (o := 7) hbR.symm (cell_far (u := .int .i64 x.b) (o := 6) hbR.symm (cell_far (u := .pointer (some ⟨b, o + 5, none⟩)) (o := 5) hbR.symm (cell_far (u := .bool x.up) (o := 4) hbR.symm (cell_far (u := .int .i64 x.bi) (o := 3) hbR.symm (cell_far (u := .int .i64 x.b) (o := 2) hbR.symm (cell_far (u := .int .i64 x.ai) (o := 1) hbR.symm (cell_far (u := .int .i64 x.a) (o := 0) hbR.symm k1)))))))))))), (cell_far (u := .pointer (some ⟨b, o + 6, none⟩)) (o := 11) hbR.symm (cell_far (u := .bool x.up) (o := 10) hbR.symm (cell_far (u := .int .i64 x.ai) (o := 9) hbR.symm (cell_far (u := .int .i64 x.a) (o := 8) hbR.symm (cell_far (u := .int .i64 x.bi) (o := 7) hbR.symm (cell_far (u := .int .i64 x.b) (o := 6) hbR.symm (cell_far (u := .pointer (some ⟨b, o + 5, none⟩)) (o := 5) hbR.symm (cell_far (u := .bool x.up) (o := 4) hbR.symm (cell_far (u := .int .i64 x.bi) (o := 3) hbR.symm (cell_far (u := .int .i64 x.b) (o := 2) hbR.symm (cell_far (u := .int .i64 x.ai) (o := 1) hbR.symm (cell_far (u := .int .i64 x.a) (o := 0) hbR.symm k2)))))))))))), (cell_far (u := .pointer (some ⟨b, o + 6, none⟩)) (o := 11) hbR.symm (cell_far (u := .bool x.up) (o := 10) hbR.symm (cell_far (u := .int .i64 x.ai) (o := 9) hbR.symm (cell_far (u := .int .i64 x.a) (o := 8) hbR.symm (cell_far (u := .int .i64 x.bi) (o := 7) hbR.symm (cell_far (u := .int .i64 x.b) (o := 6) hbR.symm (cell_far (u := .pointer (some ⟨b, o + 5, none⟩)) (o := 5) hbR.symm (cell_far (u := .bool x.up) (o := 4) hbR.symm (cell_far (u := .int .i64 x.bi) (o := 3) hbR.symm (cell_far (u := .int .i64 x.b) (o := 2) hbR.symm (cell_far (u := .int .i64 x.ai) (o := 1) hbR.symm (cell_far (u := .int .i64 x.a) (o := 0) hbR.symm k3)))))))))))), (cell_far (u := .pointer (some ⟨b, o + 6, none⟩)) (o := 11) hbR.symm (cell_far (u := .bool x.up) (o := 10) hbR.symm (cell_far (u := .int .i64 x.ai) (o := 9) hbR.symm (cell_far (u := .int .i64 x.a) (o := 8) hbR.symm (cell_far (u := .int .i64 x.bi) (o := 7) hbR.symm (cell_far (u := .int .i64 x.b) (o := 6) hbR.symm (cell_far (u := .pointer (some ⟨b, o + 5, none⟩)) (o := 5) hbR.symm (cell_far (u := .bool x.up) (o := 4) hbR.symm (cell_far (u := .int .i64 x.bi) (o := 3) hbR.symm (cell_far (u := .int .i64 x.b) (o := 2) hbR.symm (cell_far (u := .int .i64 x.ai) (o := 1) hbR.symm (cell_far (u := .int .i64 x.a) (o := 0) hbR.symm k4)))))))))))), (cell_far (u := .pointer (some ⟨b, o + 6, none⟩)) (o := 11) hbR.symm (cell_far (u := .bool x.up) (o := 10) hbR.symm (cell_far (u := .int .i64 x.ai) (o := 9) hbR.symm (cell_far (u := .int .i64 x.a) (o := 8) hbR.symm (cell_far (u := .int .i64 x.bi) (o := 7) hbR.symm (cell_far (u := .int .i64 x.b) (o := 6) hbR.symm (cell_far (u := .pointer (some ⟨b, o + 5, none⟩)) (o := 5) hbR.symm (cell_far (u := .bool x.up) (o := 4) hbR.symm (cell_far (u := .int .i64 x.bi) (o := 3) hbR.symm (cell_far (u := .int .i64 x.b) (o := 2) hbR.symm (cell_far (u := .int .i64 x.ai) (o := 1) hbR.symm (cell_far (u := .int .i64 x.a) (o := 0) hbR.symm k5)))))))))))), (cell_far (u := .pointer (some ⟨b, o + 6, none⟩)) (o := 11) hbR.symm (cell_far (u := .bool x.up) (o := 10) hbR.symm (cell_far (u := .int .i64 x.ai) (o := 9) hbR.symm (cell_far (u := .int .i64 x.a) (o := 8) hbR.symm (cell_far (u := .int .i64 x.bi) (o := 7) hbR.symm (cell_far (u := .int .i64 x.b) (o := 6) hbR.symm (cell_far (u := .pointer (some ⟨b, o + 5, none⟩)) (o := 5) hbR.symm (cell_far (u := .bool x.up) (o := 4) hbR.symm (cell_far (u := .int .i64 x.bi) (o := 3) hbR.symm (cell_far (u := .int .i64 x.b) (o := 2) hbR.symm (cell_far (u := .int .i64 x.ai) (o := 1) hbR.symm (cell_far (u := .int .i64 x.a) (o := 0) hbR.symm k6))))))))))))⟩ (fun _ => ?_)
    clear hK K r0 rf0 r1 rf1 r2 rf2 r3 rf3 r4 rf4 r5 rf5 r6 rf6 r7 rf7 r8 rf8 r9 rf9 r10 rf10 r11 rf11
    try simp only [Act.put, List.setIfInBounds_toArray, List.set_cons_zero, List.set_cons_succ]
    refine wpAnyH_done (by kernel_rfl) ?_ _
    have bE := ((((((((((((bR.set 0 (.int .i64 x.a)).set 1 (.int .i64 x.ai)).set 2 (.int .i64 x.b)).set 3 (.int .i64 x.bi)).set 4 (.bool x.up)).set 5 (.pointer (some ⟨b, o + 5, none⟩))).set 6 (.int .i64 x.b)).set 7 (.int .i64 x.bi)).set 8 (.int .i64 x.a)).set 9 (.int .i64 x.ai)).set 10 (.bool x.up)).set 11 (.pointer (some ⟨b, o + 6, none⟩)))
    have y0 := bE.c 0 rfl
    have y1 := bE.c 1 rfl
    have y2 := bE.c 2 rfl
    have y3 := bE.c 3 rfl
    have y4 := bE.c 4 rfl
    have y5 := bE.c 5 rfl
    have y6 := bE.c 6 rfl
    have y7 := bE.c 7 rfl
    have y8 := bE.c 8 rfl
    have y9 := bE.c 9 rfl
    have y10 := bE.c 10 rfl
    have y11 := bE.c 11 rfl
    go_wp2_with fail
    exact bodyPost_ret (v := .agg #[.int .i64 x.a, .int .i64 x.ai, .int .i64 x.b, .int .i64 x.bi, .bool x.up, .pointer (some ⟨b, o + 5, none⟩), .int .i64 x.b, .int .i64 x.bi, .int .i64 x.a, .int .i64 x.ai, .bool x.up, .pointer (some ⟨b, o + 6, none⟩)]) (by simp [results, Tryz.results80, go_sem, y0, y1, y2, y3, y4, y5, y6, y7, y8, y9, y10, y11]) rfl ⟨rfl, (Below.setCell (Below.setCell (Below.setCell (Below.setCell (Below.setCell (Below.setCell (Below.setCell (Below.setCell (Below.setCell (Below.setCell (Below.setCell (Below.setCell B0 (p := ⟨R, 0, none⟩) hRw (.int .i64 x.a)) (p := ⟨R, 1, none⟩) hRw (.int .i64 x.ai)) (p := ⟨R, 2, none⟩) hRw (.int .i64 x.b)) (p := ⟨R, 3, none⟩) hRw (.int .i64 x.bi)) (p := ⟨R, 4, none⟩) hRw (.bool x.up)) (p := ⟨R, 5, none⟩) hRw (.pointer (some ⟨b, o + 5, none⟩))) (p := ⟨R, 6, none⟩) hRw (.int .i64 x.b)) (p := ⟨R, 7, none⟩) hRw (.int .i64 x.bi)) (p := ⟨R, 8, none⟩) hRw (.int .i64 x.a)) (p := ⟨R, 9, none⟩) hRw (.int .i64 x.ai)) (p := ⟨R, 10, none⟩) hRw (.bool x.up)) (p := ⟨R, 11, none⟩) hRw (.pointer (some ⟨b, o + 6, none⟩)))⟩
end Go.Proofs.YtaiffofmhfflkaaGreat
namespace Go.Proofs.YtaiffofmhfflkaaGreat
open Go.ChangeShapes Go.WideShapes Go.ChangeAt Go.RowKit Go.BigFrame
set_option linter.unusedVariables false
set_option maxRecDepth 100000

def cmp1 (a b : Int) : Int := if a < b then -1 else if b < a then 1 else 0
def orv (x y : Int) : Int := if x ≠ 0 then x else y
def cmp2 (a n b m : Int) : Int := orv (cmp1 a b) (cmp1 n m)
def pcmp (a n b m : Int) : Int := if pokB a n && pokB b m then cmp2 a n b m else 0
theorem cmp1_lt {a b : Int} (h : a < b) : cmp1 a b = -1 := by simp [cmp1, h]
theorem cmp1_gt {a b : Int} (h : b < a) : cmp1 a b = 1 := by unfold cmp1; rw [if_neg (by omega), if_pos h]
theorem cmp1_eq (a : Int) : cmp1 a a = 0 := by simp [cmp1]

theorem nan_any (a : Int) (w : World) : Calls Tryz.prog 212 #[.int .i64 a] w fun e w' => e = .returned (.bool false) ∧ w = w' := by
  go_enter Tryz.func212, Tryz.ntmps212
  go_wp2
  go_ret
  exact ⟨ret_bool (by simp), rfl⟩
theorem compare_any (a b : Int) (w : World) : Calls Tryz.prog 200 #[.int .i64 a, .int .i64 b] w fun e w' => e = .returned (.int .i64 (cmp1 a b)) ∧ w = w' := by
  rcases Int.lt_trichotomy a b with h | h | h
  · rw [cmp1_lt h]
    go_enter Tryz.func200, Tryz.ntmps200
    go_wp2_with (go_at_call 212; refine (nan_any _ _).mono ?_; rintro e w' ⟨rfl, rfl⟩)
    go_ret
    exact ⟨rfl, rfl⟩
  · subst h
    rw [cmp1_eq]
    go_enter Tryz.func200, Tryz.ntmps200
    go_wp2_with (go_at_call 212; refine (nan_any _ _).mono ?_; rintro e w' ⟨rfl, rfl⟩)
    go_ret
    exact ⟨rfl, rfl⟩
  · rw [cmp1_gt h]
    have h' : ¬ a < b := by omega
    go_enter Tryz.func200, Tryz.ntmps200
    go_wp2_with (go_at_call 212; refine (nan_any _ _).mono ?_; rintro e w' ⟨rfl, rfl⟩)
    go_ret
    exact ⟨rfl, rfl⟩
/-- cmp.Or of two numbers that lie in a row -/
theorem or_any (x y : Int) (g : Nat) (w : World) (c0 : w.cell? ⟨g, 0, none⟩ = some (.int .i64 x)) (c1 : w.cell? ⟨g, 1, none⟩ = some (.int .i64 y)) :
    Calls Tryz.prog 199 #[.slice (some ⟨g, 0, none⟩) 2 2] w fun e w' => e = .returned (.int .i64 (orv x y)) ∧ w = w' := by
  by_cases hx : x = 0
  · subst hx
    rw [show orv 0 y = y by simp [orv]]
    by_cases hy : y = 0
    · subst hy
      go_enter Tryz.func199, Tryz.ntmps199
      go_wp2
      refine wp_loop_rounds 3 ?_
      rw [rounds_succ]
      go_wp2
      rw [rounds_succ]
      go_wp2
      rw [rounds_succ]
      go_wp2
      go_ret
      exact ⟨rfl, rfl⟩
    · have hy' : (y == 0) = false := by simp [hy]
      have hy2 : (y != 0) = true := by simp [hy]
      go_enter Tryz.func199, Tryz.ntmps199
      go_wp2
      refine wp_loop_rounds 2 ?_
      rw [rounds_succ]
      go_wp2
      rw [rounds_succ]
      go_wp2
      go_ret
      exact ⟨rfl, rfl⟩
  · have hx' : (x == 0) = false := by simp [hx]
    have hx2 : (x != 0) = true := by simp [hx]
    rw [show orv x y = x from if_pos hx]
    clear hx
    go_enter Tryz.func199, Tryz.ntmps199
    go_wp2
    refine wp_loop_rounds 1 ?_
    rw [rounds_succ]
    go_wp2
    go_ret
    exact ⟨rfl, rfl⟩

theorem scmp_l (a n b m : Int) (w : World) : Calls Tryz.prog 158 #[.agg #[.int .i64 a, .int .i64 n], .agg #[.int .i64 b, .int .i64 m]] w fun e w' => e = .returned (.int .i64 (cmp2 a n b m)) ∧ Below w.heap.size w w' := by
  rcases Int.lt_trichotomy a b with h | h | h
  · rw [show cmp2 a n b m = -1 by unfold cmp2; rw [cmp1_lt h]; rfl]
    have hne : (a != b) = true := by simp; omega
    obtain ⟨c0, c1, lt, B0⟩ := box2 w (.int .i64 a) (.int .i64 n) 118
    obtain ⟨d0, d1, ld, D0⟩ := box2 (w.alloc (.cells #[.int .i64 a, .int .i64 n] 118)) (.int .i64 b) (.int .i64 m) 118
    have lt2 := Nat.lt_of_lt_of_le lt D0.size
    have e0 := cell_keep D0 lt c0
    have e1 := cell_keep D0 lt c1
    have BD := below_step B0 D0
    clear c0 c1 lt B0 D0
    have q0 : (w.alloc (.cells #[.int .i64 a, .int .i64 n] 118)).heap.size = w.heap.size + 1 := by simp
    rw [q0] at d0 d1 ld
    clear q0
    go_enter Tryz.func158, Tryz.ntmps158
    go_wp2
    go_ret
    exact ⟨rfl, BD⟩
  · subst h
    rcases Int.lt_trichotomy n m with h | h | h
    · rw [show cmp2 a n a m = -1 by unfold cmp2; rw [cmp1_eq, cmp1_lt h]; rfl]
      obtain ⟨c0, c1, lt, B0⟩ := box2 w (.int .i64 a) (.int .i64 n) 118
      obtain ⟨d0, d1, ld, D0⟩ := box2 (w.alloc (.cells #[.int .i64 a, .int .i64 n] 118)) (.int .i64 a) (.int .i64 m) 118
      have lt2 := Nat.lt_of_lt_of_le lt D0.size
      have e0 := cell_keep D0 lt c0
      have e1 := cell_keep D0 lt c1
      have BD := below_step B0 D0
      clear c0 c1 lt B0 D0
      have q0 : (w.alloc (.cells #[.int .i64 a, .int .i64 n] 118)).heap.size = w.heap.size + 1 := by simp
      rw [q0] at d0 d1 ld
      clear q0
      go_enter Tryz.func158, Tryz.ntmps158
      go_wp2
      go_ret
      exact ⟨rfl, BD⟩
    · subst h
      rw [show cmp2 a n a n = 0 by unfold cmp2; rw [cmp1_eq, cmp1_eq]; rfl]
      obtain ⟨c0, c1, lt, B0⟩ := box2 w (.int .i64 a) (.int .i64 n) 118
      obtain ⟨d0, d1, ld, D0⟩ := box2 (w.alloc (.cells #[.int .i64 a, .int .i64 n] 118)) (.int .i64 a) (.int .i64 n) 118
      have lt2 := Nat.lt_of_lt_of_le lt D0.size
      have e0 := cell_keep D0 lt c0
      have e1 := cell_keep D0 lt c1
      have BD := below_step B0 D0
      clear c0 c1 lt B0 D0
      have q0 : (w.alloc (.cells #[.int .i64 a, .int .i64 n] 118)).heap.size = w.heap.size + 1 := by simp
      rw [q0] at d0 d1 ld
      clear q0
      go_enter Tryz.func158, Tryz.ntmps158
      go_wp2
      go_ret
      exact ⟨rfl, BD⟩
    · rw [show cmp2 a n a m = 1 by unfold cmp2; rw [cmp1_eq, cmp1_gt h]; rfl]
      have h' : ¬ n < m := by omega
      obtain ⟨c0, c1, lt, B0⟩ := box2 w (.int .i64 a) (.int .i64 n) 118
      obtain ⟨d0, d1, ld, D0⟩ := box2 (w.alloc (.cells #[.int .i64 a, .int .i64 n] 118)) (.int .i64 a) (.int .i64 m) 118
      have lt2 := Nat.lt_of_lt_of_le lt D0.size
      have e0 := cell_keep D0 lt c0
      have e1 := cell_keep D0 lt c1
      have BD := below_step B0 D0
      clear c0 c1 lt B0 D0
      have q0 : (w.alloc (.cells #[.int .i64 a, .int .i64 n] 118)).heap.size = w.heap.size + 1 := by simp
      rw [q0] at d0 d1 ld
      clear q0
      go_enter Tryz.func158, Tryz.ntmps158
      go_wp2
      go_ret
      exact ⟨rfl, BD⟩
  · rw [show cmp2 a n b m = 1 by unfold cmp2; rw [cmp1_gt h]; rfl]
    have hne : (a != b) = true := by simp; omega
    have h' : ¬ a < b := by omega
    obtain ⟨c0, c1, lt, B0⟩ := box2 w (.int .i64 a) (.int .i64 n) 118
    obtain ⟨d0, d1, ld, D0⟩ := box2 (w.alloc (.cells #[.int .i64 a, .int .i64 n] 118)) (.int .i64 b) (.int .i64 m) 118
    have lt2 := Nat.lt_of_lt_of_le lt D0.size
    have e0 := cell_keep D0 lt c0
    have e1 := cell_keep D0 lt c1
    have BD := below_step B0 D0
    clear c0 c1 lt B0 D0
    have q0 : (w.alloc (.cells #[.int .i64 a, .int .i64 n] 118)).heap.size = w.heap.size + 1 := by simp
    rw [q0] at d0 d1 ld
    clear q0
    go_enter Tryz.func158, Tryz.ntmps158
    go_wp2
    go_ret
    exact ⟨rfl, BD⟩
set_option maxRecDepth 100000 in
theorem icmp_any (a n b m : Int) (w : World) : Calls Tryz.prog 178 #[.agg #[.int .i64 a, .int .i64 n], .agg #[.int .i64 b, .int .i64 m]] w fun e w' => e = .returned (.int .i64 (pcmp a n b m)) ∧ Below w.heap.size w w' := by
  cases hp : pokB a n
  · rw [show pcmp a n b m = 0 by simp [pcmp, hp]]
    have H1 := Lib.hid hp
    clear hp
    obtain ⟨c0, c1, lt, B0⟩ := box2 w (.int .i64 a) (.int .i64 n) 118
    obtain ⟨d0, d1, ld, D0⟩ := box2 (w.alloc (.cells #[.int .i64 a, .int .i64 n] 118)) (.int .i64 b) (.int .i64 m) 118
    have lt2 := Nat.lt_of_lt_of_le lt D0.size
    have e0 := cell_keep D0 lt c0
    have e1 := cell_keep D0 lt c1
    have BD := below_step B0 D0
    clear c0 c1 lt B0 D0
    have q0 : (w.alloc (.cells #[.int .i64 a, .int .i64 n] 118)).heap.size = w.heap.size + 1 := by simp
    rw [q0] at d0 d1 ld
    clear q0
    go_enter Tryz.func178, Tryz.ntmps178
    go_wp2_with fail
    refine (ipok_t _ H1).mono ?_
    rintro e w1 ⟨rfl, hb⟩
    replace BD := below_step BD hb
    clear hb e0 e1 d0 d1
    go_wp2_with fail
    go_ret
    exact ⟨rfl, BD⟩
  · cases hq : pokB b m
    · rw [show pcmp a n b m = 0 by simp [pcmp, hq]]
      have H1 := Lib.hid hp
      have H2 := Lib.hid hq
      clear hp hq
      obtain ⟨c0, c1, lt, B0⟩ := box2 w (.int .i64 a) (.int .i64 n) 118
      obtain ⟨d0, d1, ld, D0⟩ := box2 (w.alloc (.cells #[.int .i64 a, .int .i64 n] 118)) (.int .i64 b) (.int .i64 m) 118
      have lt2 := Nat.lt_of_lt_of_le lt D0.size
      have e0 := cell_keep D0 lt c0
      have e1 := cell_keep D0 lt c1
      have BD := below_step B0 D0
      clear c0 c1 lt B0 D0
      have q0 : (w.alloc (.cells #[.int .i64 a, .int .i64 n] 118)).heap.size = w.heap.size + 1 := by simp
      rw [q0] at d0 d1 ld
      clear q0
      go_enter Tryz.func178, Tryz.ntmps178
      go_wp2_with fail
      refine (ipok_t _ H1).mono ?_
      rintro e w1 ⟨rfl, hb⟩
      replace BD := below_step BD hb
      replace e0 := cell_keep hb lt2 e0
      replace e1 := cell_keep hb lt2 e1
      replace d0 := cell_keep hb ld d0
      replace d1 := cell_keep hb ld d1
      replace lt2 := Nat.lt_of_lt_of_le lt2 hb.size
      replace ld := Nat.lt_of_lt_of_le ld hb.size
      clear hb
      go_wp2_with fail
      refine (ipok_t _ H2).mono ?_
      rintro e w2 ⟨rfl, hb⟩
      replace BD := below_step BD hb
      replace e0 := cell_keep hb lt2 e0
      replace e1 := cell_keep hb lt2 e1
      replace d0 := cell_keep hb ld d0
      replace d1 := cell_keep hb ld d1
      replace lt2 := Nat.lt_of_lt_of_le lt2 hb.size
      replace ld := Nat.lt_of_lt_of_le ld hb.size
      clear hb
      go_wp2_with fail
      go_ret
      exact ⟨rfl, BD⟩
    · rw [show pcmp a n b m = cmp2 a n b m by simp [pcmp, hp, hq]]
      have H1 := Lib.hid hp
      have H2 := Lib.hid hq
      clear hp hq
      obtain ⟨c0, c1, lt, B0⟩ := box2 w (.int .i64 a) (.int .i64 n) 118
      obtain ⟨d0, d1, ld, D0⟩ := box2 (w.alloc (.cells #[.int .i64 a, .int .i64 n] 118)) (.int .i64 b) (.int .i64 m) 118
      have lt2 := Nat.lt_of_lt_of_le lt D0.size
      have e0 := cell_keep D0 lt c0
      have e1 := cell_keep D0 lt c1
      have BD := below_step B0 D0
      clear c0 c1 lt B0 D0
      have q0 : (w.alloc (.cells #[.int .i64 a, .int .i64 n] 118)).heap.size = w.heap.size + 1 := by simp
      rw [q0] at d0 d1 ld
      clear q0
      go_enter Tryz.func178, Tryz.ntmps178
      go_wp2_with fail
      refine (ipok_t _ H1).mono ?_
      rintro e w1 ⟨rfl, hb⟩
      replace BD := below_step BD hb
      replace e0 := cell_keep hb lt2 e0
      replace e1 := cell_keep hb lt2 e1
      replace d0 := cell_keep hb ld d0
      replace d1 := cell_keep hb ld d1
      replace lt2 := Nat.lt_of_lt_of_le lt2 hb.size
      replace ld := Nat.lt_of_lt_of_le ld hb.size
      clear hb
      go_wp2_with fail
      refine (ipok_t _ H2).mono ?_
      rintro e w2 ⟨rfl, hb⟩
      replace BD := below_step BD hb
      replace e0 := cell_keep hb lt2 e0
      replace e1 := cell_keep hb lt2 e1
      replace d0 := cell_keep hb ld d0
      replace d1 := cell_keep hb ld d1
      replace lt2 := Nat.lt_of_lt_of_le lt2 hb.size
      replace ld := Nat.lt_of_lt_of_le ld hb.size
      clear hb
      go_wp2_with fail
      refine wp_region_still_tail 10 (by kernel_rfl) (by kernel_rfl) ?_
      simp only [List.take_succ_cons, List.take_zero, List.drop_succ_cons, List.drop_zero]
      repeat (first | still_step | (refine wpStill_step (fun K hK => ?_); go_simp; refine ⟨_, (compare_any _ _ _).mono (fun _ _ h => ⟨h.1, h.2.symm⟩), hK _ ?_⟩; clear hK K))
      refine wpStill_nil ?_
      change wpList _ _ _ _ _ w2.drew
      have BD2 : Below w.heap.size w w2.drew := BD.drew
      generalize w2.drew = w3 at BD2
      clear e0 e1 d0 d1 BD lt2 ld
      go_wp2_with fail
      refine (or_any (cmp1 a b) (cmp1 n m) w3.heap.size _ (by simp) (by simp)).mono ?_
      rintro e w4 ⟨rfl, rfl⟩
      go_wp2_with fail
      go_ret
      exact ⟨rfl, BD2.alloc BD2.size _⟩

end Go.Proofs.YtaiffofmhfflkaaGreat
namespace Go.Proofs.YtaiffofmhfflkaaGreat
open Go.ChangeShapes Go.WideShapes Go.ChangeAt Go.RowKit Go.BigFrame
set_option linter.unusedVariables false
set_option maxRecDepth 100000
set_option linter.unusedSimpArgs false

def okAt (l : List (Int × Int)) (i : Nat) : Prop := pokB (l.getD i (0, 0)).1 (l.getD i (0, 0)).2 = true
def upAt (l : List (Int × Int)) (i : Nat) : Prop := cmp2 (l.getD i (0, 0)).1 (l.getD i (0, 0)).2 (l.getD (i + 1) (0, 0)).1 (l.getD (i + 1) (0, 0)).2 < 0
instance (l : List (Int × Int)) (i : Nat) : Decidable (okAt l i) := by unfold okAt; infer_instance
instance (l : List (Int × Int)) (i : Nat) : Decidable (upAt l i) := by unfold upAt; infer_instance
/-- valid and ascending -/
def pfxB (l : List (Int × Int)) : Bool := decide ((∀ i, i < l.length → okAt l i) ∧ ∀ i, i < l.length - 1 → upAt l i)
theorem pfxB_yes {l : List (Int × Int)} {n : Nat} (hn : n = l.length) (h : ∀ i, i < n → okAt l i) (h2 : ∀ i, i + 1 < n → upAt l i) : pfxB l = true := by
  subst hn
  simp only [pfxB, decide_eq_true_eq]
  exact ⟨h, fun i hi => h2 i (by omega)⟩
theorem pfxB_ok {l : List (Int × Int)} {k : Nat} {x y : Int} (hk : k < l.length) (hx : l.getD k (0, 0) = (x, y)) (h : pokB x y = false) : pfxB l = false := by
  simp only [pfxB, decide_eq_false_iff_not]
  rintro ⟨h1, -⟩
  have := h1 k hk
  unfold okAt at this
  rw [hx] at this
  rw [this] at h
  cases h
theorem pfxB_up {l : List (Int × Int)} {k : Nat} {a b x y : Int} (hk : k + 1 < l.length) (ha : l.getD k (0, 0) = (a, b)) (hx : l.getD (k + 1) (0, 0) = (x, y)) (h : ¬ cmp2 a b x y < 0) : pfxB l = false := by
  simp only [pfxB, decide_eq_false_iff_not]
  rintro ⟨-, h1⟩
  have := h1 k (by omega)
  unfold upAt at this
  rw [ha, hx] at this
  exact h this
theorem icmp_t {a n b m r : Int} (w : World) (h : Hid (pcmp a n b m = r)) : Calls Tryz.prog 178 #[.agg #[.int .i64 a, .int .i64 n], .agg #[.int .i64 b, .int .i64 m]] w fun e w' => e = .returned (.int .i64 r) ∧ Below w.heap.size w w' :=
  h.out ▸ icmp_any a n b m w
theorem scmp_t {a n b m r : Int} (w : World) (h : Hid (cmp2 a n b m = r)) : Calls Tryz.prog 158 #[.agg #[.int .i64 a, .int .i64 n], .agg #[.int .i64 b, .int .i64 m]] w fun e w' => e = .returned (.int .i64 r) ∧ Below w.heap.size w w' :=
  h.out ▸ scmp_l a n b m w
theorem ipfx_any (v : Value) (l : List (Int × Int)) (most : Int) (w : World) (h : RdP w v l) :
    Calls Tryz.prog 126 #[v, .int .i64 most] w fun e w' => e = .returned (.bool (decide ((l.length : Int) ≤ most) && pfxB l)) ∧ Below w.heap.size w w' := by
  have hm := h.1
  obtain ⟨a, c, rfl, hc⟩ := h.el
  obtain ⟨n, hn⟩ : ∃ n, n = l.length := ⟨_, rfl⟩
  rw [← hn] at hc hm ⊢
  have HN := Lib.hid hn
  clear h hn
  by_cases hmost : (n : Int) ≤ most
  · have e : decide ((n : Int) ≤ most) = true := by simp [hmost]
    rw [e, Bool.true_and]
    clear e
    go_enter Tryz.func126, Tryz.ntmps126
    go_wp2
    go_loopw [13] (fun q wr => ∃ k : Nat, k ≤ n ∧ q = .int .i64 k ∧ (∀ i, i < k → okAt l i) ∧ (∀ i, i + 1 < k → upAt l i) ∧ Below w.heap.size w wr) (fun q _ => n - (intOf q).toNat)
    case atStart => exact ⟨0, Nat.zero_le _, rfl, fun i hi => by omega, fun i hi => by omega, Below.refl _ _⟩
    case round =>
      obtain ⟨k, hk, rfl, hok, hup, hB⟩ := hrel
      have HO := Lib.hid hok
      have HU := Lib.hid hup
      clear hok hup
      by_cases hlt : k < n
      · have hltI : (k : Int) < (n : Int) := by omega
        obtain ⟨b, o, rfl, d0, d1⟩ := hc k hlt
        have e0 := cell_keep hB (World.block_lt_of_cell? w _ d0) d0
        have e1 := cell_keep hB (World.block_lt_of_cell? w _ d1) d1
        obtain ⟨⟨x, y⟩, hx⟩ : ∃ q, l.getD k (0, 0) = q := ⟨_, rfl⟩
        rw [hx] at e0 e1
        have HX := Lib.hid hx
        have HCC := Lib.hid hc
        clear hx hc d0 d1
        cases hp : pokB x y
        · have HP := Lib.hid hp
          have HF := Lib.hid (pfxB_ok (by rw [← HN.out]; exact hlt) HX.out hp)
          clear hp
          have bP := Bl.new wr [.int .i64 x, .int .i64 y] PT wr.heap.size rfl
          have hB2 : Below w.heap.size w (wr.alloc (.cells #[.int .i64 x, .int .i64 y] PT)) := hB.alloc hB.size _
          go_wp2
          refine wp_region_class (C := Over ((wr.alloc (.cells #[.int .i64 x, .int .i64 y] PT)))) (by kernel_rfl) (by kernel_rfl) (over_drew _) ?_
          repeat (first | go_big_quiet_skip | (go_big_quiet_want; go_big_quiet_op; go_big_quiet_on) | (go_big_quiet_want; go_big_quiet_op; apply Exists.intro; refine ⟨fun w' hC => ?_, ?_⟩; ((first | (go_at_call 177; refine (ipok_t _ HP).mono ?_; rintro e w1 ⟨rfl, hb1⟩; exact ⟨rfl, over_step hC hb1⟩))); go_big_quiet_on) | (go_big_quiet_want; apply Exists.intro; refine ⟨fun w' hC => ?_, ?_⟩; (have k0 := over_cell hC bP.lt (bP.c 0 rfl); have k1 := over_cell hC bP.lt (bP.c 1 rfl); simp [Oper.quietAt, Oper.quietUpon, go_sem, k0, k1]; first | done | rfl); go_big_quiet_on; simp only [Act.put, List.setIfInBounds_toArray, List.set_cons_zero, List.set_cons_succ]))
          refine wpQuiet_nil ?_
          intro wr hC
          have k0 := over_cell hC bP.lt (bP.c 0 rfl)
          have k1 := over_cell hC bP.lt (bP.c 1 rfl)
          go_wp2
          go_ret
          exact ⟨ret_bool HF.out.symm, below_step hB2 hC⟩
        · have HP := Lib.hid hp
          have HOK : Hid (∀ i, i < k + 1 → okAt l i) := Lib.hid fun i hi => by
            by_cases e : i = k
            · unfold okAt; rw [e, HX.out]; exact hp
            · exact HO.out i (by omega)
          clear hp
          rcases Nat.eq_zero_or_pos k with rfl | hpos
          · 
            simp only [Nat.zero_mul, Nat.add_zero] at e0 e1
            have bP := Bl.new wr [.int .i64 x, .int .i64 y] PT wr.heap.size rfl
            have hB2 : Below w.heap.size w (wr.alloc (.cells #[.int .i64 x, .int .i64 y] PT)) := hB.alloc hB.size _
            go_wp2
            refine wp_region_class (C := Over ((wr.alloc (.cells #[.int .i64 x, .int .i64 y] PT)))) (by kernel_rfl) (by kernel_rfl) (over_drew _) ?_
            repeat (first | go_big_quiet_skip | (go_big_quiet_want; go_big_quiet_op; go_big_quiet_on) | (go_big_quiet_want; go_big_quiet_op; apply Exists.intro; refine ⟨fun w' hC => ?_, ?_⟩; ((first | (go_at_call 177; refine (ipok_t _ HP).mono ?_; rintro e w1 ⟨rfl, hb1⟩; exact ⟨rfl, over_step hC hb1⟩))); go_big_quiet_on) | (go_big_quiet_want; apply Exists.intro; refine ⟨fun w' hC => ?_, ?_⟩; (have k0 := over_cell hC bP.lt (bP.c 0 rfl); have k1 := over_cell hC bP.lt (bP.c 1 rfl); simp [Oper.quietAt, Oper.quietUpon, go_sem, k0, k1]; first | done | rfl); go_big_quiet_on; simp only [Act.put, List.setIfInBounds_toArray, List.set_cons_zero, List.set_cons_succ]))
            refine wpQuiet_nil ?_
            intro wr hC
            have k0 := over_cell hC bP.lt (bP.c 0 rfl)
            have k1 := over_cell hC bP.lt (bP.c 1 rfl)
            go_wp2
            go_roundw
            case rel => exact ⟨0 + 1, by omega, by go_num, HOK.out, fun i hi => by omega, below_step hB2 hC⟩
            case measure => simp [intOf]; omega
          · obtain ⟨j, rfl⟩ : ∃ j, k = j + 1 := ⟨k - 1, by omega⟩
            obtain ⟨b', o', hbo, d2, d3⟩ := HCC.out j (by omega)
            obtain ⟨rfl, rfl⟩ : b = b' ∧ o = o' := by simpa using hbo
            clear hbo
            obtain ⟨⟨s, t⟩, hs⟩ : ∃ q, l.getD j (0, 0) = q := ⟨_, rfl⟩
            rw [hs] at d2 d3
            have HS := Lib.hid hs
            have hr0 : pcmp s t x y = cmp2 s t x y := by
              have h1 := HO.out j (by omega)
              unfold okAt at h1
              rw [hs] at h1
              unfold pcmp
              rw [h1, HP.out]
              rfl
            obtain ⟨r, hr⟩ : ∃ r, pcmp s t x y = r := ⟨_, rfl⟩
            have HR := Lib.hid hr
            rw [hr] at hr0
            have HR0 := Lib.hid hr0
            clear hs hr hr0
            by_cases hneg : r < 0
            · have HUP : Hid (∀ i, i + 1 < j + 1 + 1 → upAt l i) := Lib.hid fun i hi => by
                by_cases e : i = j
                · unfold upAt; rw [e, HS.out, HX.out, ← HR0.out]; exact hneg
                · exact HU.out i (by omega)
              have bP := Bl.new wr [.int .i64 x, .int .i64 y] PT wr.heap.size rfl
              have hB2 : Below w.heap.size w (wr.alloc (.cells #[.int .i64 x, .int .i64 y] PT)) := hB.alloc hB.size _
              have f0 := cell_keep hB2 (World.block_lt_of_cell? w _ d2) d2
              have f1 := cell_keep hB2 (World.block_lt_of_cell? w _ d3) d3
              clear d2 d3
              have hwj : IntKind.i64.wrap (j : Int) = j := wrap64_in _ (by omega) (by omega)
              have hjI : (j : Int) < (n : Int) := by omega
              have hjN : j < n := by omega
              go_wp2
              refine wp_region_class (C := Over ((wr.alloc (.cells #[.int .i64 x, .int .i64 y] PT)))) (by kernel_rfl) (by kernel_rfl) (over_drew _) ?_
              repeat (first | go_big_quiet_skip | (go_big_quiet_want; go_big_quiet_op; go_big_quiet_on) | (go_big_quiet_want; go_big_quiet_op; apply Exists.intro; refine ⟨fun w' hC => ?_, ?_⟩; ((first | (go_at_call 177; refine (ipok_t _ HP).mono ?_; rintro e w1 ⟨rfl, hb1⟩; exact ⟨rfl, over_step hC hb1⟩) | (go_at_call 178; refine (icmp_t _ HR).mono ?_; rintro e w1 ⟨rfl, hb1⟩; exact ⟨rfl, over_step hC hb1⟩))); go_big_quiet_on) | (go_big_quiet_want; apply Exists.intro; refine ⟨fun w' hC => ?_, ?_⟩; (have k0 := over_cell hC bP.lt (bP.c 0 rfl); have k1 := over_cell hC bP.lt (bP.c 1 rfl); have k2 := over_cell hC (World.block_lt_of_cell? _ _ f0) f0; have k3 := over_cell hC (World.block_lt_of_cell? _ _ f1) f1; simp [Oper.quietAt, Oper.quietUpon, go_sem, k0, k1, k2, k3, hwj, hjI, hjN]; first | done | rfl); go_big_quiet_on; simp only [Act.put, List.setIfInBounds_toArray, List.set_cons_zero, List.set_cons_succ]))
              refine wpQuiet_nil ?_
              intro wr hC
              have k0 := over_cell hC bP.lt (bP.c 0 rfl)
              have k1 := over_cell hC bP.lt (bP.c 1 rfl)
              have k2 := over_cell hC (World.block_lt_of_cell? _ _ f0) f0
              have k3 := over_cell hC (World.block_lt_of_cell? _ _ f1) f1
              go_wp2
              go_roundw
              case rel => exact ⟨j + 1 + 1, by omega, by go_num, HOK.out, HUP.out, below_step hB2 hC⟩
              case measure => simp [intOf]; omega
            · have HF := Lib.hid (pfxB_up (by rw [← HN.out]; exact hlt) HS.out HX.out (by rw [← HR0.out]; exact hneg))
              have bP := Bl.new wr [.int .i64 x, .int .i64 y] PT wr.heap.size rfl
              have hB2 : Below w.heap.size w (wr.alloc (.cells #[.int .i64 x, .int .i64 y] PT)) := hB.alloc hB.size _
              have f0 := cell_keep hB2 (World.block_lt_of_cell? w _ d2) d2
              have f1 := cell_keep hB2 (World.block_lt_of_cell? w _ d3) d3
              clear d2 d3
              have hwj : IntKind.i64.wrap (j : Int) = j := wrap64_in _ (by omega) (by omega)
              have hjI : (j : Int) < (n : Int) := by omega
              have hjN : j < n := by omega
              go_wp2
              refine wp_region_class (C := Over ((wr.alloc (.cells #[.int .i64 x, .int .i64 y] PT)))) (by kernel_rfl) (by kernel_rfl) (over_drew _) ?_
              repeat (first | go_big_quiet_skip | (go_big_quiet_want; go_big_quiet_op; go_big_quiet_on) | (go_big_quiet_want; go_big_quiet_op; apply Exists.intro; refine ⟨fun w' hC => ?_, ?_⟩; ((first | (go_at_call 177; refine (ipok_t _ HP).mono ?_; rintro e w1 ⟨rfl, hb1⟩; exact ⟨rfl, over_step hC hb1⟩) | (go_at_call 178; refine (icmp_t _ HR).mono ?_; rintro e w1 ⟨rfl, hb1⟩; exact ⟨rfl, over_step hC hb1⟩))); go_big_quiet_on) | (go_big_quiet_want; apply Exists.intro; refine ⟨fun w' hC => ?_, ?_⟩; (have k0 := over_cell hC bP.lt (bP.c 0 rfl); have k1 := over_cell hC bP.lt (bP.c 1 rfl); have k2 := over_cell hC (World.block_lt_of_cell? _ _ f0) f0; have k3 := over_cell hC (World.block_lt_of_cell? _ _ f1) f1; simp [Oper.quietAt, Oper.quietUpon, go_sem, k0, k1, k2, k3, hwj, hjI, hjN]; first | done | rfl); go_big_quiet_on; simp only [Act.put, List.setIfInBounds_toArray, List.set_cons_zero, List.set_cons_succ]))
              refine wpQuiet_nil ?_
              intro wr hC
              have k0 := over_cell hC bP.lt (bP.c 0 rfl)
              have k1 := over_cell hC bP.lt (bP.c 1 rfl)
              have k2 := over_cell hC (World.block_lt_of_cell? _ _ f0) f0
              have k3 := over_cell hC (World.block_lt_of_cell? _ _ f1) f1
              go_wp2
              go_ret
              exact ⟨ret_bool HF.out.symm, below_step hB2 hC⟩
      · have hkn : k = n := by omega
        subst hkn
        have HF := Lib.hid (pfxB_yes HN.out HO.out HU.out)
        clear hc
        go_wp2
        go_ret
        exact ⟨ret_bool HF.out.symm, hB⟩
  · have e : (decide ((n : Int) ≤ most) && pfxB l) = false := by simp [hmost]
    rw [e]
    clear e
    go_enter Tryz.func126, Tryz.ntmps126
    go_wp2
    go_ret
    exact ⟨rfl, Below.refl _ _⟩
end Go.Proofs.YtaiffofmhfflkaaGreat
namespace Go.Proofs.YtaiffofmhfflkaaGreat
open Go.ChangeShapes Go.WideShapes Go.ChangeAt Go.RowKit Go.BigFrame Go.Joins
set_option linter.unusedVariables false
set_option maxRecDepth 100000

def searchRen : Go.Shelf.Ren := ⟨fun | 49 => 215 | 59 => 219 | 60 => 220 | 68 => 212 | n => n, fun | 0 => 0 | 3 => 3 | 4 => 4 | 22 => 209 | 23 => 3 | 51 => 218 | n => n, fun | n => n⟩
theorem searchLays : Go.Proofs.SlLaysN.n49 Tryz.prog searchRen := {
  mixed := by kernel_rfl
  f49 := ⟨"slices.BinarySearch[loop.example/g00557/impl.set[int],int]", (by kernel_rfl), Tryz.func215.trans (congrArg some (by kernel_rfl))⟩
  f59 := ⟨"cmp.Less[int]", (by kernel_rfl), Tryz.func219.trans (congrArg some (by kernel_rfl))⟩
  f60 := ⟨"slices.isNaN[int]", (by kernel_rfl), Tryz.func220.trans (congrArg some (by kernel_rfl))⟩
  f68 := ⟨"cmp.isNaN[int]", (by kernel_rfl), Tryz.func212.trans (congrArg some (by kernel_rfl))⟩
  t0 := Tryz.underlying0
  a0 := Tryz.isAgg0
  z0 := Tryz.sizeOf0
  v0 := Tryz.zeroValue0
  t3 := Tryz.underlying3
  a3 := Tryz.isAgg3
  z3 := Tryz.sizeOf3
  v3 := Tryz.zeroValue3
  t4 := Tryz.underlying4
  a4 := Tryz.isAgg4
  z4 := Tryz.sizeOf4
  v4 := Tryz.zeroValue4
  t22 := Tryz.underlying209
  a22 := Tryz.isAgg209
  z22 := Tryz.sizeOf209
  v22 := Tryz.zeroValue209
  t23 := Tryz.underlying3
  a23 := Tryz.isAgg3
  z23 := Tryz.sizeOf3
  v23 := Tryz.zeroValue3
  t51 := Tryz.underlying218
  a51 := Tryz.isAgg218
  z51 := Tryz.sizeOf218
  v51 := Tryz.zeroValue218 }
theorem search_any (v : Value) (l : List Int) (x : Int) (w : World) (h : RdI w v l) (hn : l.length ≤ 4) (hs : l.Pairwise (· ≤ ·)) :
    Calls Tryz.prog 215 #[v, .int .i64 x] w fun e w' => e = .returned (.tuple #[.int .i64 (l.countP (· < x) : Nat), .bool (decide (x ∈ l))]) ∧ Below w.heap.size w w' := by
  rcases h.2.2 with ⟨a, c, rfl, rfl, hac⟩ | ⟨b, o, c, rfl, hp, hc⟩
  · clear h hs hn
    go_enter Tryz.func215, Tryz.ntmps215
    go_wp2
    refine wp_loop_rounds 1 ?_
    rw [rounds_succ]
    go_wp2
    first | (go_quiet (fail); go_wp2) | skip
    go_ret2
    exact ⟨rfl, by first | exact Below.refl _ _ | exact below_drewN (Below.refl _ _) _⟩
  · have := Go.Proofs.AnyG.slices_BinarySearch_int searchLays b o l.length c l x w (Nat.le_refl _) (by omega) hc (by rw [List.take_length]; exact hs)
    rw [List.take_length, List.contains_eq_mem] at this
    refine this.mono fun e w' ⟨he, q, hw⟩ => ⟨he, ?_⟩
    rw [hw]
    exact below_drewN (Below.refl _ _) _
theorem sethas_any (v : Value) (l : List Int) (x : Int) (w : World) (h : RdI w v l) (hn : l.length ≤ 4) (hs : l.Pairwise (· ≤ ·)) :
    Calls Tryz.prog 211 #[v, .int .i64 x] w fun e w' => e = .returned (.bool (decide (x ∈ l))) ∧ Below w.heap.size w w' := by
  go_enter Tryz.func211, Tryz.ntmps211
  go_wp2_with fail
  refine (search_any v l x _ h hn hs).mono ?_
  rintro e w1 ⟨rfl, hb⟩
  go_wp2
  go_ret
  exact ⟨rfl, hb⟩
theorem contains_any (v : Value) (l : List Int) (x : Int) (w : World) (h : RdI w v l) :
    Calls Tryz.prog 149 #[v, .int .i64 x] w fun e w' => e = .returned (.bool (decide (x ∈ l))) ∧ Below w.heap.size w w' := by
  have hm := h.2.1
  unfold maxLen at hm
  rcases h.2.2 with ⟨a, c, rfl, rfl, hac⟩ | ⟨b, o, c, rfl, hp, hc⟩
  · exact (Tryz.slices_Contains_int_empty a c x w).mono fun e w' ⟨he, hw⟩ => ⟨he, hw ▸ Below.refl _ _⟩
  · have := Tryz.slices_Contains_int b o l.length c l x w (Nat.le_refl _) (by omega) hc
    rw [List.take_length, List.contains_eq_mem] at this
    exact this.mono fun e w' ⟨he, hw⟩ => ⟨he, hw ▸ Below.refl _ _⟩
theorem contains_yes {l : List Int} {k : Nat} {x : Int} (hk : k < l.length) (hx : l.getD k 0 = x) : decide (x ∈ l) = true := by
  have e : l.getD k 0 = l[k] := by simp [List.getD, hk]
  rw [e] at hx
  simp only [decide_eq_true_eq]
  rw [← hx]
  exact List.getElem_mem hk
theorem contains_no {l : List Int} {n : Nat} {x : Int} (hn : n = l.length) (h : ∀ i, i < n → l.getD i 0 ≠ x) : decide (x ∈ l) = false := by
  cases hc : decide (x ∈ l)
  · rfl
  · simp only [decide_eq_true_eq] at hc
    obtain ⟨i, hi, e⟩ := List.mem_iff_getElem.1 hc
    have := h i (by omega)
    have e2 : l.getD i 0 = l[i] := by simp [List.getD, hi]
    rw [e2, e] at this
    exact absurd rfl this
theorem shas_any (v : Value) (l : List Int) (x : Int) (w : World) (h : RdI w v l) :
    Calls Tryz.prog 105 #[v, .int .i64 x] w fun e w' => e = .returned (.bool (decide (x ∈ l))) ∧ Below w.heap.size w w' := by
  have hm := h.2.1
  unfold maxLen at hm
  obtain ⟨a, c, rfl, hc⟩ := h.el
  obtain ⟨n, hn⟩ : ∃ n, n = l.length := ⟨_, rfl⟩
  rw [← hn] at hc hm ⊢
  have HN := Lib.hid hn
  clear h hn
  go_enter Tryz.func105, Tryz.ntmps105
  go_wp2
  go_loopw [5] (fun q wr => ∃ k : Nat, k ≤ n ∧ q = .int .i64 k ∧ (∀ i, i < k → l.getD i 0 ≠ x) ∧ Below w.heap.size w wr) (fun q _ => n - (intOf q).toNat)
  case atStart => exact ⟨0, Nat.zero_le _, rfl, fun i hi => by omega, Below.refl _ _⟩
  case round =>
    obtain ⟨k, hk, rfl, hall, hB⟩ := hrel
    have HA := Lib.hid hall
    clear hall
    by_cases hlt : k < n
    · have hltI : (k : Int) < (n : Int) := by omega
      obtain ⟨b, o, rfl, e1⟩ := hc k hlt
      replace e1 := cell_keep hB (World.block_lt_of_cell? w _ e1) e1
      obtain ⟨y, hy⟩ : ∃ y, l.getD k 0 = y := ⟨_, rfl⟩
      rw [hy] at e1
      have HX := Lib.hid hy
      clear hy hc
      by_cases hyx : y = x
      · have HF := Lib.hid (contains_yes (by rw [← HN.out]; exact hlt) (HX.out.trans hyx))
        have hq : (y == x) = true := by simp [hyx]
        clear hyx
        go_wp2
        first | (go_quiet (fail); go_wp2) | skip
        go_ret
        exact ⟨ret_bool HF.out.symm, by first | exact hB | exact below_drewN hB _⟩
      · have hq : (y == x) = false := by simp [hyx]
        have HL := Lib.hid hyx
        clear hyx
        go_wp2
        first | (go_quiet (fail); go_wp2) | skip
        go_roundw
        case rel => exact ⟨k + 1, by omega, by go_num, fun i hi => by
            by_cases e : i = k
            · rw [e, HX.out]; exact HL.out
            · exact HA.out i (by omega), by first | exact hB | exact below_drewN hB _⟩
        case measure => simp [intOf]; omega
    · have hkn : k = n := by omega
      have HF := Lib.hid (contains_no HN.out (by rw [← hkn]; exact HA.out))
      clear hkn hc
      go_wp2
      go_ret
      exact ⟨ret_bool HF.out.symm, hB⟩
end Go.Proofs.YtaiffofmhfflkaaGreat
namespace Go.Proofs.YtaiffofmhfflkaaGreat
open Go.ChangeShapes Go.WideShapes Go.ChangeAt Go.RowKit Go.BigFrame Go.Joins
set_option linter.unusedVariables false
set_option maxRecDepth 100000

theorem iaok_t {pv cv : Value} {p c : List Int} {pr bw : Int} {b : Bool} (w : World) (hp : RdI w pv p) (hc : RdI w cv c) (H : Hid (aokB p pr c bw = b)) :
    Calls Tryz.prog 195 #[.agg #[pv, .int .i64 pr, cv, .int .i64 bw]] w fun e w' => e = .returned (.bool b) ∧ Below w.heap.size w w' := H.out ▸ iaok_any pv cv p c pr bw w hp hc
theorem saok_t {pv cv : Value} {p c : List Int} {pr bw : Int} {b : Bool} (w : World) (hp : RdI w pv p) (hc : RdI w cv c) (H : Hid (aokB p pr c bw = b)) :
    Calls Tryz.prog 174 #[.agg #[pv, .int .i64 pr, cv, .int .i64 bw]] w fun e w' => e = .returned (.bool b) ∧ Below w.heap.size w w' := H.out ▸ saok_any pv cv p c pr bw w hp hc
theorem aok_p {p c : List Int} {pr bw : Int} (h : aokB p pr c bw = true) : p.length ≤ 8 ∧ c.length ≤ 4 ∧ ascB c = true ∧ numsB p = true ∧ numsB c = true := by
  simp only [aokB, Bool.and_eq_true, decide_eq_true_eq] at h
  exact ⟨h.1.1.1.1.1, h.1.2.1, h.2, h.1.1.1.1.2, h.1.2.2⟩
theorem asc_pair {l : List Int} (h : ascB l = true) : l.Pairwise (· < ·) := by
  unfold ascB at h
  simp only [decide_eq_true_eq] at h
  rw [List.pairwise_iff_getElem]
  have step : ∀ k i, i + k + 1 < l.length → l.getD i 0 < l.getD (i + k + 1) 0 := by
    intro k
    induction k with
    | zero => intro i hi; exact h i (by omega)
    | succ k ih => intro i hi; exact Int.lt_trans (ih i (by omega)) (h (i + k + 1) (by omega))
  intro i j hi hj hij
  have := step (j - i - 1) i (by omega)
  rw [show i + (j - i - 1) + 1 = j by omega] at this
  have e1 : l.getD i 0 = l[i] := by simp [List.getD, hi]
  have e2 : l.getD j 0 = l[j] := by simp [List.getD, hj]
  rw [e1, e2] at this
  exact this
theorem asc_le {l : List Int} (h : ascB l = true) : l.Pairwise (· ≤ ·) := (asc_pair h).imp (fun h => Int.le_of_lt h)
theorem ipath_any (pv cv : Value) (p c : List Int) (pr bw an : Int) (w : World) (hp : RdI w pv p) (hc : RdI w cv c) :
    Calls Tryz.prog 183 #[.agg #[pv, .int .i64 pr, cv, .int .i64 bw], .int .i64 an] w fun e w' => e = .returned (.bool (aokB p pr c bw && decide (an ∈ p))) ∧ Below w.heap.size w w' := by
  obtain ⟨c0, c1, c2, c3, lt, B0⟩ := box4 w pv (.int .i64 pr) cv (.int .i64 bw) 133
  have hp1 := hp.alloc (.cells #[pv, .int .i64 pr, cv, .int .i64 bw] 133)
  have hc1 := hc.alloc (.cells #[pv, .int .i64 pr, cv, .int .i64 bw] 133)
  cases hA : aokB p pr c bw
  · rw [Bool.false_and]
    have HA := Lib.hid hA
    clear hA
    go_enter Tryz.func183, Tryz.ntmps183
    go_wp2_with fail
    refine (iaok_t _ hp1 hc1 HA).mono ?_
    rintro e w1 ⟨rfl, hb⟩
    replace c0 := cell_keep hb lt c0
    replace c1 := cell_keep hb lt c1
    replace c2 := cell_keep hb lt c2
    replace c3 := cell_keep hb lt c3
    replace lt := Nat.lt_of_lt_of_le lt hb.size
    replace hp1 := hp1.keep hb
    replace hc1 := hc1.keep hb
    replace B0 := below_step B0 hb
    clear hb
    go_wp2
    go_ret
    exact ⟨rfl, B0⟩
  · rw [Bool.true_and]
    have HA := Lib.hid hA
    clear hA
    go_enter Tryz.func183, Tryz.ntmps183
    go_wp2_with fail
    refine (iaok_t _ hp1 hc1 HA).mono ?_
    rintro e w1 ⟨rfl, hb⟩
    replace c0 := cell_keep hb lt c0
    replace c1 := cell_keep hb lt c1
    replace c2 := cell_keep hb lt c2
    replace c3 := cell_keep hb lt c3
    replace lt := Nat.lt_of_lt_of_le lt hb.size
    replace hp1 := hp1.keep hb
    replace hc1 := hc1.keep hb
    replace B0 := below_step B0 hb
    clear hb
    go_wp2_with fail
    refine (contains_any _ p an _ hp1).mono ?_
    rintro e w2 ⟨rfl, hb⟩
    replace c0 := cell_keep hb lt c0
    replace c1 := cell_keep hb lt c1
    replace c2 := cell_keep hb lt c2
    replace c3 := cell_keep hb lt c3
    replace lt := Nat.lt_of_lt_of_le lt hb.size
    replace hp1 := hp1.keep hb
    replace hc1 := hc1.keep hb
    replace B0 := below_step B0 hb
    clear hb
    go_wp2
    go_ret
    exact ⟨rfl, B0⟩
end Go.Proofs.YtaiffofmhfflkaaGreat
