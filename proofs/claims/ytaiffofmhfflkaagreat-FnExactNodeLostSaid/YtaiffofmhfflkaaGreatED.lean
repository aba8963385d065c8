/-
  Copies of tables, of the model. Conditions: those in each contract.
-/
import Derived.Test.YtaiffofmhfflkaaGreatEC
namespace Go.Proofs.YtaiffofmhfflkaaGreat
open Go.ChangeShapes Go.WideShapes Go.ChangeAt Go.RowKit Go.BigFrame Go.Joins
set_option linter.unusedVariables false
set_option maxRecDepth 100000
set_option linter.unusedSimpArgs false
set_option maxRecDepth 100000

set_option maxHeartbeats 2000000 in
theorem sown6_any (v : Value) (L : List Ent) (w : World) (h : RdE w v L) (hn1 : L.length ≤ 1048576) (hln : ∀ j, j < L.length → (L.getD j e0).p.length ≤ 1048576 ∧ (L.getD j e0).c.length ≤ 1048576) :
    Calls Tryz.prog 109 #[.agg #[v]] w (NewRib w L) := by
  obtain ⟨a, c, rfl, hc⟩ := h.el
  obtain ⟨n, hn⟩ : ∃ n, n = L.length := ⟨_, rfl⟩
  rw [← hn] at hc hn1 hln ⊢
  have HN := Lib.hid hn
  clear h hn
  obtain ⟨bA, bR, bO, B0, z⟩ := three w [.slice a n c] [.slice none 0 0] [.slice none 0 0] 32 32 32
  have a0 := bA.c 0 rfl
  go_enter Tryz.func109, Tryz.ntmps109
  go_wp2
  clear a0
  obtain ⟨W1, hW⟩ : ∃ W1, W1 = ((w.alloc (.cells #[.slice a n c] 32)).alloc (.cells #[.slice none 0 0] 32)).alloc (.cells #[.slice none 0 0] 32) := ⟨_, rfl⟩
  rw [← hW] at bA bR bO B0 z ⊢
  obtain ⟨A, hA⟩ : ∃ A, A = w.heap.size := ⟨_, rfl⟩
  obtain ⟨R, hR⟩ : ∃ R, R = w.heap.size + 1 := ⟨_, rfl⟩
  obtain ⟨O, hO⟩ : ∃ O, O = w.heap.size + 1 + 1 := ⟨_, rfl⟩
  rw [← hA] at bA
  rw [← hR] at bR
  rw [← hO] at bO
  try rw [← hO]
  try rw [← hR]
  try rw [← hA]
  have hwA : w.heap.size ≤ A := by omega
  have hwR : w.heap.size ≤ R := by omega
  have hwO : w.heap.size ≤ O := by omega
  have hAO : A ≠ O := by omega
  have hRO : R ≠ O := by omega
  have hAR : A ≠ R := by omega
  have hAW : A < W1.heap.size := by rw [z]; omega
  have hRW : R < W1.heap.size := by rw [z]; omega
  have hOW : O < W1.heap.size := by rw [z]; omega
  have hwW : w.heap.size ≤ W1.heap.size := B0.size
  clear hA hR hO hW z
  go_loopw [4] (fun q wr => ∃ k : Nat, k ≤ n ∧ q = .int .i64 k ∧ ∃ (v2 : Value) (T : List ET), OwnT wr W1.heap.size v2 T ∧ entT T = L.take k ∧ Bl wr O [v2] ∧ Bl wr R [.slice none 0 0] ∧ Bl wr A [.slice a n c] ∧ Below w.heap.size w wr ∧ W1.heap.size ≤ wr.heap.size) (fun q _ => n - (intOf q).toNat)
  case atStart => exact ⟨0, Nat.zero_le _, rfl, _, [], OwnT.nil _ _, rfl, bO, bR, bA, B0, Nat.le_refl _⟩
  case round =>
    obtain ⟨k, hk, rfl, v2, T, hT, hTE, bO1, bR1, bA1, hB, hsz⟩ := hrel
    have r0 := bA1.c 0 rfl
    by_cases hlt : k < n
    · have hltI : (k : Int) < (n : Int) := by omega
      obtain ⟨b, o, rfl, hE⟩ := hc k hlt
      obtain ⟨E, hx⟩ : ∃ E, L.getD k e0 = E := ⟨_, rfl⟩
      have hl2 := hln k hlt
      rw [hx] at hE hl2
      obtain ⟨pv, cv, hp, hq, g0, g1, g2, g3, g4, g5, g6⟩ := hE.keep hB
      obtain ⟨pa, px, rfl⟩ := hp.len
      obtain ⟨qa, qx, rfl⟩ := hq.len
      have HTE : Hid (∀ t : ET, t.E = E → entT (T ++ [t]) = L.take (k + 1)) := Lib.hid fun t ht => take_entT hTE (by rw [← HN.out]; exact hlt) (by rw [hx, ht])
      have HL : Hid (T.length + 1 ≤ 4294967296) := Lib.hid (by have e := congrArg List.length hTE; rw [entT_len, List.length_take] at e; omega)
      have bP := Bl.new wr [.int .i64 E.a, .int .i64 E.n, .int .i64 E.pe, .slice pa E.p.length px, .int .i64 E.pr, .slice qa E.c.length qx, .int .i64 E.bw] EI wr.heap.size rfl
      have A1 : Below wr.heap.size wr (wr.alloc (.cells #[.int .i64 E.a, .int .i64 E.n, .int .i64 E.pe, .slice pa E.p.length px, .int .i64 E.pr, .slice qa E.c.length qx, .int .i64 E.bw] EI)) := (Below.refl _ _).alloc (Nat.le_refl _) _
      have hp1 := hp.keep A1
      have hq1 := hq.keep A1
      have p0 := bP.c 0 rfl
      have p1 := bP.c 1 rfl
      have p2 := bP.c 2 rfl
      have p3 := bP.c 3 rfl
      have p4 := bP.c 4 rfl
      have p5 := bP.c 5 rfl
      have p6 := bP.c 6 rfl
      have HC := Lib.hid hc
      have HLN := Lib.hid hln
      clear hx hc hln hE hTE
      go_wp2_with fail
      clear p0 p1 p2 p3 p4 p5 p6 g0 g1 g2 g3 g4 g5 g6 r0 hp hq
      obtain ⟨V, hV⟩ : ∃ V, V = wr.alloc (.cells #[.int .i64 E.a, .int .i64 E.n, .int .i64 E.pe, .slice pa E.p.length px, .int .i64 E.pr, .slice qa E.c.length qx, .int .i64 E.bw] EI) := ⟨_, rfl⟩
      have hVs : wr.heap.size < V.heap.size := by rw [hV]; simp
      rw [← hV] at bP A1 hp1 hq1 ⊢
      refine (sown_any _ _ _ _ _ _ V hp1 hq1 hl2.1 hl2.2).mono ?_
      rintro e w1 ⟨x, y, f, g, rfl, oo1, oo2, ap, B2⟩
      obtain ⟨P, hP⟩ : ∃ P, P = wr.heap.size := ⟨_, rfl⟩
      have hwP : wr.heap.size ≤ P := by omega
      have hPV : P < V.heap.size := by omega
      rw [← hP] at bP
      try rw [← hP]
      have hOP : O ≠ P := by have := bO1.lt; omega
      have hAP : A ≠ P := by have := bA1.lt; omega
      have hRP : R ≠ P := by have := bR1.lt; omega
      have D1 := below_step A1 B2
      have bP1 := bP.keep B2
      have bO2 := (bO1.keep A1).keep B2
      have bPs := ((((bP1.set 3 (.slice x E.p.length y)).set 4 (.int .i64 E.pr)).set 5 (.slice f E.c.length g)).set 6 (.int .i64 E.bw))
      have bOs := ((((bO2.far (o := 3) (u := (.slice x E.p.length y)) hOP).far (o := 4) (u := (.int .i64 E.pr)) hOP).far (o := 5) (u := (.slice f E.c.length g)) hOP).far (o := 6) (u := (.int .i64 E.bw)) hOP)
      have Ds := ((((D1.setCell (p := ⟨P, 3, none⟩) hwP (.slice x E.p.length y)).setCell (p := ⟨P, 4, none⟩) hwP (.int .i64 E.pr)).setCell (p := ⟨P, 5, none⟩) hwP (.slice f E.c.length g)).setCell (p := ⟨P, 6, none⟩) hwP (.int .i64 E.bw))
      have os1 := ((((oo1.far (o := 3) (u := (.slice x E.p.length y)) hPV).far (o := 4) (u := (.int .i64 E.pr)) hPV).far (o := 5) (u := (.slice f E.c.length g)) hPV).far (o := 6) (u := (.int .i64 E.bw)) hPV).mono (Nat.le_of_lt hVs)
      have os2 := ((((oo2.far (o := 3) (u := (.slice x E.p.length y)) hPV).far (o := 4) (u := (.int .i64 E.pr)) hPV).far (o := 5) (u := (.slice f E.c.length g)) hPV).far (o := 6) (u := (.int .i64 E.bw)) hPV).mono (Nat.le_of_lt hVs)
      have k0 := bP1.c 0 rfl
      have kf0 := bP1.f 0 rfl
      have k1 := bP1.c 1 rfl
      have kf1 := bP1.f 1 rfl
      have k2 := bP1.c 2 rfl
      have kf2 := bP1.f 2 rfl
      have k3 := bP1.c 3 rfl
      have kf3 := bP1.f 3 rfl
      have k4 := bP1.c 4 rfl
      have kf4 := bP1.f 4 rfl
      have k5 := bP1.c 5 rfl
      have kf5 := bP1.f 5 rfl
      have k6 := bP1.c 6 rfl
      have kf6 := bP1.f 6 rfl
      have s0 := bPs.c 0 rfl
      have s1 := bPs.c 1 rfl
      have s2 := bPs.c 2 rfl
      have s3 := bPs.c 3 rfl
      have s4 := bPs.c 4 rfl
      have s5 := bPs.c 5 rfl
      have s6 := bPs.c 6 rfl
      have t0 := bOs.c 0 rfl
      have lP := bP1.lt
      clear hV hP
      go_wp2_with (at_builtin; refine Hid.out ?_)
      refine Lib.hid ?_
      obtain ⟨X, hX⟩ : ∃ X, X = ((((w1.setCell ⟨P, 3, none⟩ (.slice x E.p.length y)).setCell ⟨P, 4, none⟩ (.int .i64 E.pr)).setCell ⟨P, 5, none⟩ (.slice f E.c.length g)).setCell ⟨P, 6, none⟩ (.int .i64 E.bw)) := ⟨_, rfl⟩
      have hXs : X.heap.size = w1.heap.size := by rw [hX]; simp
      rw [← hX] at bPs bOs Ds os1 os2 ⊢
      have hXr : wr.heap.size ≤ X.heap.size := Ds.size
      have bN := Bl.new X [.int .i64 E.a, .int .i64 E.n, .int .i64 E.pe, .slice x E.p.length y, .int .i64 E.pr, .slice f E.c.length g, .int .i64 E.bw] EI w1.heap.size hXs.symm
      have N1 : Below X.heap.size X (X.alloc (.cells #[.int .i64 E.a, .int .i64 E.n, .int .i64 E.pe, .slice x E.p.length y, .int .i64 E.pr, .slice f E.c.length g, .int .i64 E.bw] EI)) := (Below.refl _ _).alloc (Nat.le_refl _) _
      have B3 := below_step Ds N1
      clear hX s0 s1 s2 s3 s4 s5 s6 t0 k0 k1 k2 k3 k4 k5 k6 kf0 kf1 kf2 kf3 kf4 kf5 kf6 bP1 bO2 D1 oo1 oo2
      refine wp_appE rfl _ _ rfl W1.heap.size w1.heap.size 1 v2 T.length (flatT T) [.int .i64 E.a, .int .i64 E.n, .int .i64 E.pe, .slice x E.p.length y, .int .i64 E.pr, .slice f E.c.length g, .int .i64 E.bw] rfl rfl (hT.keep B3).row bN rfl (by simp [Value.oneCell']) HL.out (Nat.le_trans hsz B3.size) ?_
      intro v3 w3 hrow hg hor
      have hT3 : OwnT w3 W1.heap.size v3 (T ++ [⟨E, .slice x E.p.length y, .slice f E.c.length g⟩]) := step_T hT hsz B3 (os1.keep N1) (os2.keep N1) ⟨⟨_, _, rfl⟩, ⟨_, _, rfl⟩⟩ ap hrow hg hor
      have hB3 : Below w.heap.size w w3 := below_growT (below_step hB B3) (hT.keep B3).row hwW hg
      have bO3 := (bO1.keep B3).grown hg (neRow (hT.keep B3).row hOW)
      have bR3 := (bR1.keep B3).grown hg (neRow (hT.keep B3).row hRW)
      have bA3 := (bA1.keep B3).grown hg (neRow (hT.keep B3).row hAW)
      have hs3 := Nat.le_trans hsz (Nat.le_trans B3.size hg.size)
      clear hg hrow hor bN N1
      obtain ⟨x3, y3, rfl⟩ : ∃ x3 y3, v3 = .slice x3 (T.length + 1) y3 := by
        obtain ⟨x3, y3, e3⟩ := hT3.lenV
        exact ⟨x3, y3, by simpa using e3⟩
      have o0 := bO3.c 0 rfl
      have of0 := bO3.f 0 rfl
      go_wp2
      go_roundw
      case rel => exact ⟨k + 1, by omega, by go_num, _, _, hT3.far hOW, HTE.out _ rfl, bO3.set 0 _, bR3.far hRO, bA3.far hAO, hB3.setCell (p := ⟨O, 0, none⟩) hwO _, by simpa using hs3⟩
      case measure => simp [intOf]; omega
    · have hkn : k = n := by omega
      subst hkn
      clear hc hln
      obtain ⟨x2, y2, rfl⟩ := hT.lenV
      have o0 := bO1.c 0 rfl
      have q0 := bR1.c 0 rfl
      have qf0 := bR1.f 0 rfl
      go_wp2
      have bE := bR1.set 0 (.slice x2 T.length y2)
      have e0 := bE.c 0 rfl
      exact bodyPost_ret (v := .agg #[.slice x2 T.length y2]) (by simp [results, Tryz.results109, go_sem, e0]) rfl
        ⟨_, T, rfl, (hT.far hRW).mono hwW, by rw [hTE, HN.out, List.take_length], hB.setCell (p := ⟨R, 0, none⟩) hwR _⟩
end Go.Proofs.YtaiffofmhfflkaaGreat
