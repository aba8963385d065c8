/-
  Copies of tables, of the model. Conditions: those in each contract.
  Tables without some of their entries, of the model. Conditions: those in each contract.
  The library's IndexFunc and DeleteFunc at rows of entries. Conditions: those in each contract.
  The library's IndexFunc and DeleteFunc at rows of entries, for the closure of RibDropPeer. Conditions: those in each contract.
  RibDropPeer of the program and of the model. Conditions: those in each contract.
  Marks on a table that was made by the call; they are found again. Conditions: those in each contract.
  Marks on a table that was made by the call, and how they are found again: contracts. Conditions: those in each contract.
  Words for the law on RibDropPeer. Conditions: those in each statement.
  The prefixes of a table: contracts of RibPrefixes of the program and of the model. Conditions: those in each contract.
-/
import Derived.Test.YtaiffofmhfflkaaGreatFZe
import Derived.Test.YtaiffofmhfflkaaGreatFZf
import Derived.Test.YtaiffofmhfflkaaGreatFZb
import Derived.Deep.RegionHeld
namespace Go.Proofs.YtaiffofmhfflkaaGreat
open Go.ChangeShapes Go.WideShapes Go.ChangeAt Go.RowKit Go.BigFrame Go.Joins
set_option linter.unusedVariables false
set_option maxRecDepth 100000
set_option maxRecDepth 100000
set_option linter.unusedSimpArgs false
set_option maxRecDepth 100000

set_option maxHeartbeats 2000000 in
theorem sown6_any (v : Value) (L : List Ent) (w : World) (h : RdE w v L) (hn1 : L.length ≤ 1048576) (hln : ∀ j, j < L.length → (L.getD j e0).p.length ≤ 1048576 ∧ (L.getD j e0).c.length ≤ 1048576) :
    Calls Tryz.prog 109 #[.agg #[v]] w (NewRib w L) := by
  obtain ⟨a, c, rfl, hc⟩ := h.el
  obtain ⟨n, hn⟩ : ∃ n, n = L.length := ⟨_, rfl⟩
  rw [← hn] at hc hn1 hln ⊢
  have HN := Lib.hid hn
  clear h hn
  obtain ⟨bA, bR, bO, B0, z⟩ := three w [.slice a n c] [.slice none 0 0] [.slice none 0 0] 32 32 32
  have a0 := bA.c 0 rfl
  go_enter Tryz.func109, Tryz.ntmps109
  go_wp2
  clear a0
  obtain ⟨W1, hW⟩ : ∃ W1, W1 = ((w.alloc (.cells #[.slice a n c] 32)).alloc (.cells #[.slice none 0 0] 32)).alloc (.cells #[.slice none 0 0] 32) := ⟨_, rfl⟩
  rw [← hW] at bA bR bO B0 z ⊢
  obtain ⟨A, hA⟩ : ∃ A, A = w.heap.size := ⟨_, rfl⟩
  obtain ⟨R, hR⟩ : ∃ R, R = w.heap.size + 1 := ⟨_, rfl⟩
  obtain ⟨O, hO⟩ : ∃ O, O = w.heap.size + 1 + 1 := ⟨_, rfl⟩
  rw [← hA] at bA
  rw [← hR] at bR
  rw [← hO] at bO
  try rw [← hO]
  try rw [← hR]
  try rw [← hA]
  have hwA : w.heap.size ≤ A := by omega
  have hwR : w.heap.size ≤ R := by omega
  have hwO : w.heap.size ≤ O := by omega
  have hAO : A ≠ O := by omega
  have hRO : R ≠ O := by omega
  have hAR : A ≠ R := by omega
  have hAW : A < W1.heap.size := by rw [z]; omega
  have hRW : R < W1.heap.size := by rw [z]; omega
  have hOW : O < W1.heap.size := by rw [z]; omega
  have hwW : w.heap.size ≤ W1.heap.size := B0.size
  clear hA hR hO hW z
  go_loopw [4] (fun q wr => ∃ k : Nat, k ≤ n ∧ q = .int .i64 k ∧ ∃ (v2 : Value) (T : List ET), OwnT wr W1.heap.size v2 T ∧ entT T = L.take k ∧ Bl wr O [v2] ∧ Bl wr R [.slice none 0 0] ∧ Bl wr A [.slice a n c] ∧ Below w.heap.size w wr ∧ W1.heap.size ≤ wr.heap.size) (fun q _ => n - (intOf q).toNat)
  case atStart => exact ⟨0, Nat.zero_le _, rfl, _, [], OwnT.nil _ _, rfl, bO, bR, bA, B0, Nat.le_refl _⟩
  case round =>
    obtain ⟨k, hk, rfl, v2, T, hT, hTE, bO1, bR1, bA1, hB, hsz⟩ := hrel
    have r0 := bA1.c 0 rfl
    by_cases hlt : k < n
    · have hltI : (k : Int) < (n : Int) := by omega
      obtain ⟨b, o, rfl, hE⟩ := hc k hlt
      obtain ⟨E, hx⟩ : ∃ E, L.getD k e0 = E := ⟨_, rfl⟩
      have hl2 := hln k hlt
      rw [hx] at hE hl2
      obtain ⟨pv, cv, hp, hq, g0, g1, g2, g3, g4, g5, g6⟩ := hE.keep hB
      obtain ⟨pa, px, rfl⟩ := hp.len
      obtain ⟨qa, qx, rfl⟩ := hq.len
      have HTE : Hid (∀ t : ET, t.E = E → entT (T ++ [t]) = L.take (k + 1)) := Lib.hid fun t ht => take_entT hTE (by rw [← HN.out]; exact hlt) (by rw [hx, ht])
      have HL : Hid (T.length + 1 ≤ 4294967296) := Lib.hid (by have e := congrArg List.length hTE; rw [entT_len, List.length_take] at e; omega)
      have bP := Bl.new wr [.int .i64 E.a, .int .i64 E.n, .int .i64 E.pe, .slice pa E.p.length px, .int .i64 E.pr, .slice qa E.c.length qx, .int .i64 E.bw] EI wr.heap.size rfl
      have A1 : Below wr.heap.size wr (wr.alloc (.cells #[.int .i64 E.a, .int .i64 E.n, .int .i64 E.pe, .slice pa E.p.length px, .int .i64 E.pr, .slice qa E.c.length qx, .int .i64 E.bw] EI)) := (Below.refl _ _).alloc (Nat.le_refl _) _
      have hp1 := hp.keep A1
      have hq1 := hq.keep A1
      have p0 := bP.c 0 rfl
      have p1 := bP.c 1 rfl
      have p2 := bP.c 2 rfl
      have p3 := bP.c 3 rfl
      have p4 := bP.c 4 rfl
      have p5 := bP.c 5 rfl
      have p6 := bP.c 6 rfl
      have HC := Lib.hid hc
      have HLN := Lib.hid hln
      clear hx hc hln hE hTE
      go_wp2_with fail
      clear p0 p1 p2 p3 p4 p5 p6 g0 g1 g2 g3 g4 g5 g6 r0 hp hq
      obtain ⟨V, hV⟩ : ∃ V, V = wr.alloc (.cells #[.int .i64 E.a, .int .i64 E.n, .int .i64 E.pe, .slice pa E.p.length px, .int .i64 E.pr, .slice qa E.c.length qx, .int .i64 E.bw] EI) := ⟨_, rfl⟩
      have hVs : wr.heap.size < V.heap.size := by rw [hV]; simp
      rw [← hV] at bP A1 hp1 hq1 ⊢
      refine (sown_any _ _ _ _ _ _ V hp1 hq1 hl2.1 hl2.2).mono ?_
      rintro e w1 ⟨x, y, f, g, rfl, oo1, oo2, ap, B2⟩
      obtain ⟨P, hP⟩ : ∃ P, P = wr.heap.size := ⟨_, rfl⟩
      have hwP : wr.heap.size ≤ P := by omega
      have hPV : P < V.heap.size := by omega
      rw [← hP] at bP
      try rw [← hP]
      have hOP : O ≠ P := by have := bO1.lt; omega
      have hAP : A ≠ P := by have := bA1.lt; omega
      have hRP : R ≠ P := by have := bR1.lt; omega
      have D1 := below_step A1 B2
      have bP1 := bP.keep B2
      have bO2 := (bO1.keep A1).keep B2
      have bPs := ((((bP1.set 3 (.slice x E.p.length y)).set 4 (.int .i64 E.pr)).set 5 (.slice f E.c.length g)).set 6 (.int .i64 E.bw))
      have bOs := ((((bO2.far (o := 3) (u := (.slice x E.p.length y)) hOP).far (o := 4) (u := (.int .i64 E.pr)) hOP).far (o := 5) (u := (.slice f E.c.length g)) hOP).far (o := 6) (u := (.int .i64 E.bw)) hOP)
      have Ds := ((((D1.setCell (p := ⟨P, 3, none⟩) hwP (.slice x E.p.length y)).setCell (p := ⟨P, 4, none⟩) hwP (.int .i64 E.pr)).setCell (p := ⟨P, 5, none⟩) hwP (.slice f E.c.length g)).setCell (p := ⟨P, 6, none⟩) hwP (.int .i64 E.bw))
      have os1 := ((((oo1.far (o := 3) (u := (.slice x E.p.length y)) hPV).far (o := 4) (u := (.int .i64 E.pr)) hPV).far (o := 5) (u := (.slice f E.c.length g)) hPV).far (o := 6) (u := (.int .i64 E.bw)) hPV).mono (Nat.le_of_lt hVs)
      have os2 := ((((oo2.far (o := 3) (u := (.slice x E.p.length y)) hPV).far (o := 4) (u := (.int .i64 E.pr)) hPV).far (o := 5) (u := (.slice f E.c.length g)) hPV).far (o := 6) (u := (.int .i64 E.bw)) hPV).mono (Nat.le_of_lt hVs)
      have k0 := bP1.c 0 rfl
      have kf0 := bP1.f 0 rfl
      have k1 := bP1.c 1 rfl
      have kf1 := bP1.f 1 rfl
      have k2 := bP1.c 2 rfl
      have kf2 := bP1.f 2 rfl
      have k3 := bP1.c 3 rfl
      have kf3 := bP1.f 3 rfl
      have k4 := bP1.c 4 rfl
      have kf4 := bP1.f 4 rfl
      have k5 := bP1.c 5 rfl
      have kf5 := bP1.f 5 rfl
      have k6 := bP1.c 6 rfl
      have kf6 := bP1.f 6 rfl
      have s0 := bPs.c 0 rfl
      have s1 := bPs.c 1 rfl
      have s2 := bPs.c 2 rfl
      have s3 := bPs.c 3 rfl
      have s4 := bPs.c 4 rfl
      have s5 := bPs.c 5 rfl
      have s6 := bPs.c 6 rfl
      have t0 := bOs.c 0 rfl
      have lP := bP1.lt
      clear hV hP
      go_wp2_with (at_builtin; refine Hid.out ?_)
      refine Lib.hid ?_
      obtain ⟨X, hX⟩ : ∃ X, X = ((((w1.setCell ⟨P, 3, none⟩ (.slice x E.p.length y)).setCell ⟨P, 4, none⟩ (.int .i64 E.pr)).setCell ⟨P, 5, none⟩ (.slice f E.c.length g)).setCell ⟨P, 6, none⟩ (.int .i64 E.bw)) := ⟨_, rfl⟩
      have hXs : X.heap.size = w1.heap.size := by rw [hX]; simp
      rw [← hX] at bPs bOs Ds os1 os2 ⊢
      have hXr : wr.heap.size ≤ X.heap.size := Ds.size
      have bN := Bl.new X [.int .i64 E.a, .int .i64 E.n, .int .i64 E.pe, .slice x E.p.length y, .int .i64 E.pr, .slice f E.c.length g, .int .i64 E.bw] EI w1.heap.size hXs.symm
      have N1 : Below X.heap.size X (X.alloc (.cells #[.int .i64 E.a, .int .i64 E.n, .int .i64 E.pe, .slice x E.p.length y, .int .i64 E.pr, .slice f E.c.length g, .int .i64 E.bw] EI)) := (Below.refl _ _).alloc (Nat.le_refl _) _
      have B3 := below_step Ds N1
      clear hX s0 s1 s2 s3 s4 s5 s6 t0 k0 k1 k2 k3 k4 k5 k6 kf0 kf1 kf2 kf3 kf4 kf5 kf6 bP1 bO2 D1 oo1 oo2
      refine wp_appE rfl _ _ rfl W1.heap.size w1.heap.size 1 v2 T.length (flatT T) [.int .i64 E.a, .int .i64 E.n, .int .i64 E.pe, .slice x E.p.length y, .int .i64 E.pr, .slice f E.c.length g, .int .i64 E.bw] rfl rfl (hT.keep B3).row bN rfl (by simp [Value.oneCell']) HL.out (Nat.le_trans hsz B3.size) ?_
      intro v3 w3 hrow hg hor
      have hT3 : OwnT w3 W1.heap.size v3 (T ++ [⟨E, .slice x E.p.length y, .slice f E.c.length g⟩]) := step_T hT hsz B3 (os1.keep N1) (os2.keep N1) ⟨⟨_, _, rfl⟩, ⟨_, _, rfl⟩⟩ ap hrow hg hor
      have hB3 : Below w.heap.size w w3 := below_growT (below_step hB B3) (hT.keep B3).row hwW hg
      have bO3 := (bO1.keep B3).grown hg (neRow (hT.keep B3).row hOW)
      have bR3 := (bR1.keep B3).grown hg (neRow (hT.keep B3).row hRW)
      have bA3 := (bA1.keep B3).grown hg (neRow (hT.keep B3).row hAW)
      have hs3 := Nat.le_trans hsz (Nat.le_trans B3.size hg.size)
      clear hg hrow hor bN N1
      obtain ⟨x3, y3, rfl⟩ : ∃ x3 y3, v3 = .slice x3 (T.length + 1) y3 := by
        obtain ⟨x3, y3, e3⟩ := hT3.lenV
        exact ⟨x3, y3, by simpa using e3⟩
      have o0 := bO3.c 0 rfl
      have of0 := bO3.f 0 rfl
      go_wp2
      go_roundw
      case rel => exact ⟨k + 1, by omega, by go_num, _, _, hT3.far hOW, HTE.out _ rfl, bO3.set 0 _, bR3.far hRO, bA3.far hAO, hB3.setCell (p := ⟨O, 0, none⟩) hwO _, by simpa using hs3⟩
      case measure => simp [intOf]; omega
    · have hkn : k = n := by omega
      subst hkn
      clear hc hln
      obtain ⟨x2, y2, rfl⟩ := hT.lenV
      have o0 := bO1.c 0 rfl
      have q0 := bR1.c 0 rfl
      have qf0 := bR1.f 0 rfl
      go_wp2
      have bE := bR1.set 0 (.slice x2 T.length y2)
      have e0 := bE.c 0 rfl
      exact bodyPost_ret (v := .agg #[.slice x2 T.length y2]) (by simp [results, Tryz.results109, go_sem, e0]) rfl
        ⟨_, T, rfl, (hT.far hRW).mono hwW, by rw [hTE, HN.out, List.take_length], hB.setCell (p := ⟨R, 0, none⟩) hwR _⟩
end Go.Proofs.YtaiffofmhfflkaaGreat
namespace Go.Proofs.YtaiffofmhfflkaaGreat
open Go.ChangeShapes Go.WideShapes Go.ChangeAt Go.RowKit Go.BigFrame Go.Joins
set_option linter.unusedVariables false
set_option maxRecDepth 100000
set_option linter.unusedSimpArgs false
set_option maxRecDepth 100000

/-- a row of entries reads as them where their slices do -/
theorem row_rd {w : World} {base : Nat} {v : Value} {T : List ET} (h : w.ownsRow base EI 7 v T.length (flatT T)) (hr : ∀ t ∈ T, RdI w t.u t.E.p ∧ RdI w t.v t.E.c) : RdE w v (entT T) := by
  have hrow := h
  rcases h.2 with ⟨rfl, hn⟩ | ⟨g, cap, cur, rfl, hb, hg, hnc, hcm, hcs, htake⟩
  · have hT : T = [] := List.eq_nil_of_length_eq_zero hn
    subst hT
    exact RdE.nil w
  · rw [← entT_len]
    refine ⟨by rw [entT_len]; unfold maxLen at hcm; omega, ?_⟩
    by_cases hz : T.length = 0
    · exact .inl ⟨some ⟨g, 0, none⟩, cap, by rw [entT_len, hz], List.eq_nil_of_length_eq_zero (by rw [entT_len, hz]), fun h => by cases h⟩
    · refine .inr ⟨g, 0, cap, rfl, by rw [entT_len]; omega, fun i hi => ?_⟩
      rw [entT_len] at hi
      have hm : T[i] ∈ T := List.getElem_mem hi
      rw [entT_get hi]
      have hc : ∀ j, j < 7 → w.cell? ⟨g, 0 + i * 7 + j, none⟩ = (cellsT T[i])[j]? := fun j hj => by
        rw [Nat.zero_add, hrow.cellAt (i * 7 + j) (by omega), flatT_get T i j hi hj]
      exact ⟨T[i].u, T[i].v, (hr _ hm).1, (hr _ hm).2, hc 0 (by omega), hc 1 (by omega), hc 2 (by omega), hc 3 (by omega), hc 4 (by omega), hc 5 (by omega), hc 6 (by omega)⟩
theorem filt_yes {L : List Ent} {T : List ET} {k : Nat} {t : ET} {f : Ent → Bool} (h : entT T = (L.take k).filter f) (hk : k < L.length) (hx : L.getD k e0 = t.E) (ht : f t.E = true) : entT (T ++ [t]) = (L.take (k + 1)).filter f := by
  have hg : L[k] = t.E := by simpa [List.getD, hk] using hx
  rw [entT_append, h, List.take_add_one, List.getElem?_eq_getElem hk, hg, List.filter_append]
  simp [entT, ht]
theorem filt_no {L : List Ent} {T : List ET} {k : Nat} {E : Ent} {f : Ent → Bool} (h : entT T = (L.take k).filter f) (hk : k < L.length) (hx : L.getD k e0 = E) (ht : f E = false) : entT T = (L.take (k + 1)).filter f := by
  have hg : L[k] = E := by simpa [List.getD, hk] using hx
  rw [h, List.take_add_one, List.getElem?_eq_getElem hk, hg, List.filter_append]
  simp [ht]
theorem row_slice {w : World} {base : Nat} {v : Value} {n : Nat} {xs : List Value} (h : w.ownsRow base EI 7 v n xs) : ∃ a c, v = .slice a n c := by
  rcases h.2 with ⟨hv, hn⟩ | ⟨g, cap, cur, hv, _⟩
  · exact ⟨none, 0, by rw [hv, hn]⟩
  · exact ⟨_, cap, hv⟩
/-- a block holds these cells, and what lay in w lies there -/
def KpA (w : World) (A : Nat) (xs : List Value) (w' : World) : Prop := Bl w' A xs ∧ Below w.heap.size w w'
theorem KpA.next {w w' w2 : World} {A : Nat} {xs : List Value} (h : KpA w A xs w') (hb : Below w'.heap.size w' w2) : KpA w A xs w2 := ⟨h.1.keep hb, below_step h.2 hb⟩
theorem rowK {w w' : World} {base n : Nat} {v : Value} {xs : List Value} (h : w.ownsRow base EI 7 v n xs) (hb : Below w.heap.size w w') : w'.ownsRow base EI 7 v n xs :=
  World.ownsRow.kept (row := none) h ⟨hb.os, hb.tape, hb.output, hb.size, fun k hk _ => hb.block k hk⟩ (by cases v.ownBlock <;> simp)
theorem rowFar {w : World} {base n B o : Nat} {v u : Value} {xs : List Value} (h : w.ownsRow base EI 7 v n xs) (hB : B < base) : (w.setCell ⟨B, o, none⟩ u).ownsRow base EI 7 v n xs :=
  World.ownsRow.kept h (grown_set w B o u) (by
    cases hv : v.ownBlock with
    | none => exact .inl rfl
    | some k => exact .inr (by have := (World.ownsRow.lt h k hv).1; intro e; cases e; omega))
set_option maxHeartbeats 2000000 in
theorem sdp_any (v : Value) (L : List Ent) (pe : Int) (w : World) (h : RdE w v L) (hn1 : L.length ≤ 1048576) :
    Calls Tryz.prog 110 #[.agg #[v], .int .i64 pe] w fun e w' => ∃ u, e = .returned (.agg #[u]) ∧ RdE w' u (L.filter (fun E => !(E.pe == pe))) ∧ Below w.heap.size w w' := by
  obtain ⟨a, c, rfl, hc⟩ := h.el
  have hlen := hn1
  obtain ⟨n, hn⟩ : ∃ n, n = L.length := ⟨_, rfl⟩
  rw [← hn] at hc hlen
  rw [← hn]
  have HN := Lib.hid hn
  clear h hn
  obtain ⟨bA, bR, bO, B0, z⟩ := three w [.slice a n c] [.slice none 0 0] [.slice none 0 0] 32 32 32
  have a0 := bA.c 0 rfl
  go_enter Tryz.func110, Tryz.ntmps110
  go_wp2
  clear a0
  obtain ⟨W1, hW⟩ : ∃ W1, W1 = ((w.alloc (.cells #[.slice a n c] 32)).alloc (.cells #[.slice none 0 0] 32)).alloc (.cells #[.slice none 0 0] 32) := ⟨_, rfl⟩
  rw [← hW] at bA bR bO B0 z ⊢
  obtain ⟨A, hA⟩ : ∃ A, A = w.heap.size := ⟨_, rfl⟩
  obtain ⟨R, hR⟩ : ∃ R, R = w.heap.size + 1 := ⟨_, rfl⟩
  obtain ⟨O, hO⟩ : ∃ O, O = w.heap.size + 1 + 1 := ⟨_, rfl⟩
  rw [← hA] at bA
  rw [← hR] at bR
  rw [← hO] at bO
  try rw [← hO]
  try rw [← hR]
  try rw [← hA]
  have hwA : w.heap.size ≤ A := by omega
  have hwR : w.heap.size ≤ R := by omega
  have hwO : w.heap.size ≤ O := by omega
  have hAO : A ≠ O := by omega
  have hRO : R ≠ O := by omega
  have hAR : A ≠ R := by omega
  have hAW : A < W1.heap.size := by rw [z]; omega
  have hRW : R < W1.heap.size := by rw [z]; omega
  have hOW : O < W1.heap.size := by rw [z]; omega
  have hwW : w.heap.size ≤ W1.heap.size := B0.size
  clear hA hR hO hW z
  go_loopw [6] (fun q wr => ∃ k : Nat, k ≤ n ∧ q = .int .i64 k ∧ ∃ (v2 : Value) (T : List ET), wr.ownsRow W1.heap.size EI 7 v2 T.length (flatT T) ∧ (∀ t ∈ T, RdI w t.u t.E.p ∧ RdI w t.v t.E.c) ∧ entT T = (L.take k).filter (fun E => !(E.pe == pe)) ∧ Bl wr O [v2] ∧ Bl wr R [.slice none 0 0] ∧ Bl wr A [.slice a n c] ∧ Below w.heap.size w wr ∧ W1.heap.size ≤ wr.heap.size) (fun q _ => n - (intOf q).toNat)
  case atStart => exact ⟨0, Nat.zero_le _, rfl, _, [], World.ownsRow_nil _ _ _ _, by simp, rfl, bO, bR, bA, B0, Nat.le_refl _⟩
  case round =>
    obtain ⟨k, hk, rfl, v2, T, hT, hTR, hTE, bO1, bR1, bA1, hB, hsz⟩ := hrel
    have r0 := bA1.c 0 rfl
    by_cases hlt : k < n
    · have hltI : (k : Int) < (n : Int) := by omega
      obtain ⟨b, o, rfl, hE⟩ := hc k hlt
      obtain ⟨E, hx⟩ : ∃ E, L.getD k e0 = E := ⟨_, rfl⟩
      rw [hx] at hE
      obtain ⟨pv, cv, hp, hq, G0, G1, G2, G3, G4, G5, G6⟩ := hE
      obtain ⟨pa, px, rfl⟩ := hp.len
      obtain ⟨qa, qx, rfl⟩ := hq.len
      have g0 := over_cell hB (World.block_lt_of_cell? _ _ G0) G0
      have g1 := over_cell hB (World.block_lt_of_cell? _ _ G1) G1
      have g2 := over_cell hB (World.block_lt_of_cell? _ _ G2) G2
      have g3 := over_cell hB (World.block_lt_of_cell? _ _ G3) G3
      have g4 := over_cell hB (World.block_lt_of_cell? _ _ G4) G4
      have g5 := over_cell hB (World.block_lt_of_cell? _ _ G5) G5
      have g6 := over_cell hB (World.block_lt_of_cell? _ _ G6) G6
      have HL : Hid (T.length + 1 ≤ 4294967296) := Lib.hid (by
        have e := congrArg List.length hTE
        have e2 := List.length_filter_le (fun E => !(E.pe == pe)) (L.take k)
        rw [entT_len] at e
        rw [List.length_take] at e2
        have e3 := HN.out
        omega)
      by_cases hpe : E.pe = pe
      · have HX : Hid (entT T = (L.take (k + 1)).filter (fun E => !(E.pe == pe))) := Lib.hid (filt_no hTE (by rw [← HN.out]; exact hlt) hx (by simp [hpe]))
        have HC := Lib.hid hc
        rw [hpe] at g2
        clear hx hc hTE hpe
        go_wp2
        go_roundw
        case rel => exact ⟨k + 1, by omega, by go_num, v2, T, hT, hTR, HX.out, bO1, bR1, bA1, hB, hsz⟩
        case measure => simp [intOf]; omega
      · have HTE : Hid (∀ t : ET, t.E = E → entT (T ++ [t]) = (L.take (k + 1)).filter (fun E => !(E.pe == pe))) := Lib.hid fun t ht => filt_yes hTE (by rw [← HN.out]; exact hlt) (by rw [hx, ht]) (by simp [ht, hpe])
        have HC := Lib.hid hc
        have hfb : (E.pe == pe) = false := by simp [hpe]
        clear hx hc hTE hpe
        go_wp2_with fail
        refine wp_region_held_drew (S := fun w' => Bl w' A [.slice (some ⟨b, o, none⟩) n c] ∧ Below w.heap.size w w') (by kernel_rfl) ⟨bA1.keep (over_drew _), below_step hB (over_drew _)⟩ (fun hHeld => ?_)
        clear hHeld
        obtain ⟨D, hD⟩ : ∃ D, D = wr.drew := ⟨_, rfl⟩
        have OD : Over wr D := by rw [hD]; exact over_drew _
        rw [← hD]
        clear hD
        have hSD : KpA w A [.slice (some ⟨b, o, none⟩) n c] D := ⟨bA1.keep OD, below_step hB OD⟩
        have hWD : W1.heap.size ≤ D.heap.size := Nat.le_trans hsz OD.size
        clear g0 g1 g2 g3 g4 g5 g6
        refine wpAnyH_take (i := 0) (v := ?_) rfl (by kernel_rfl) (by kernel_rfl) (by kernel_rfl) (fun _ _ _ h => h) (Or.inl ⟨by rfl, ?_⟩) hSD ?_
        rotate_left
        · intro wq hSq
          (try dsimp only at hSq)

          go_simp
          try rfl
        change wpAnyH _ _ _ _ _ _ _ (Act.put _ (some 22) _) _
        simp only [Act.put, List.setIfInBounds_toArray, List.set_cons_succ, List.set_cons_zero]
        refine wpAnyH_take (i := 2) (v := ?_) rfl (by kernel_rfl) (by kernel_rfl) (by kernel_rfl) (fun _ _ _ h => h) (Or.inl ⟨by rfl, ?_⟩) hSD ?_
        rotate_left
        · intro wq hSq
          (try dsimp only at hSq)

          go_simp
          try rfl
        change wpAnyH _ _ _ _ _ _ _ (Act.put _ (some 24) _) _
        simp only [Act.put, List.setIfInBounds_toArray, List.set_cons_succ, List.set_cons_zero]
        refine wpAnyH_take (i := 3) (v := ?_) rfl (by kernel_rfl) (by kernel_rfl) (by kernel_rfl) (fun _ _ _ h => h) (Or.inl ⟨by rfl, ?_⟩) hSD ?_
        rotate_left
        · intro wq hSq
          (try dsimp only at hSq)
          have q0 := hSq.1.c 0 rfl
          go_simp
          try rfl
        change wpAnyH _ _ _ _ _ _ _ (Act.put _ (some 25) _) _
        simp only [Act.put, List.setIfInBounds_toArray, List.set_cons_succ, List.set_cons_zero]
        refine wpAnyH_take (i := 4) (v := ?_) rfl (by kernel_rfl) (by kernel_rfl) (by kernel_rfl) (fun _ _ _ h => h) (Or.inl ⟨by rfl, ?_⟩) hSD ?_
        rotate_left
        · intro wq hSq
          (try dsimp only at hSq)

          go_simp
          try rfl
        change wpAnyH _ _ _ _ _ _ _ (Act.put _ (some 26) _) _
        simp only [Act.put, List.setIfInBounds_toArray, List.set_cons_succ, List.set_cons_zero]
        refine wpAnyH_take (i := 5) (v := ?_) rfl (by kernel_rfl) (by kernel_rfl) (by kernel_rfl) (fun _ _ _ h => h) (Or.inl ⟨by rfl, ?_⟩) hSD ?_
        rotate_left
        · intro wq hSq
          (try dsimp only at hSq)

          go_simp
          try rfl
        change wpAnyH _ _ _ _ _ _ _ (Act.put _ (some 27) _) _
        simp only [Act.put, List.setIfInBounds_toArray, List.set_cons_succ, List.set_cons_zero]
        refine wpAnyH_take (i := 6) (v := ?_) rfl (by kernel_rfl) (by kernel_rfl) (by kernel_rfl) (fun _ _ _ h => h) (Or.inl ⟨by rfl, ?_⟩) hSD ?_
        rotate_left
        · intro wq hSq
          (try dsimp only at hSq)
          have q0 := over_cell hSq.2 (World.block_lt_of_cell? _ _ G0) G0
          have q1 := over_cell hSq.2 (World.block_lt_of_cell? _ _ G1) G1
          have q2 := over_cell hSq.2 (World.block_lt_of_cell? _ _ G2) G2
          have q3 := over_cell hSq.2 (World.block_lt_of_cell? _ _ G3) G3
          have q4 := over_cell hSq.2 (World.block_lt_of_cell? _ _ G4) G4
          have q5 := over_cell hSq.2 (World.block_lt_of_cell? _ _ G5) G5
          have q6 := over_cell hSq.2 (World.block_lt_of_cell? _ _ G6) G6
          go_simp
          try rfl
        change wpAnyH _ _ _ _ _ _ _ (Act.put _ (some 28) _) _
        simp only [Act.put, List.setIfInBounds_toArray, List.set_cons_succ, List.set_cons_zero]
        refine wpAnyH_ready (rs := [1, 7]) (by kernel_rfl) (by simp) ?_
        refine (AllReadyH.cons rfl (fun K hK => ?_) (AllReadyH.cons rfl (fun K hK => ?_) AllReadyH.nil))
        · have q := (bO1.keep OD).c 0 rfl
          go_simp
          refine hK.out _ _ hSD (fun hHeld => ?_)
          clear hK K hHeld q
          try simp only [Act.put, List.setIfInBounds_toArray, List.set_cons_zero, List.set_cons_succ]
          refine wpAnyH_ready (rs := [7]) (by kernel_rfl) (by simp) ?_
          refine (AllReadyH.cons rfl (fun K hK => ?_) AllReadyH.nil)
          go_simp
          have bN := Bl.new D [.int .i64 E.a, .int .i64 E.n, .int .i64 E.pe, .slice pa E.p.length px, .int .i64 E.pr, .slice qa E.c.length qx, .int .i64 E.bw] EI D.heap.size rfl
          have N1 : Below D.heap.size D (D.alloc (.cells #[.int .i64 E.a, .int .i64 E.n, .int .i64 E.pe, .slice pa E.p.length px, .int .i64 E.pr, .slice qa E.c.length qx, .int .i64 E.bw] EI)) := (Below.refl _ _).alloc (Nat.le_refl _) _
          refine hK.out _ _ (hSD.next N1) (fun hHeld => ?_)
          clear hK K hHeld
          try simp only [Act.put, List.setIfInBounds_toArray, List.set_cons_zero, List.set_cons_succ]
          refine wpAnyH_ready (rs := [8]) (by kernel_rfl) (by simp) ?_
          refine (AllReadyH.cons rfl (fun K hK => ?_) AllReadyH.nil)
          refine step_appE rfl (.tmp 23) (.tmp 29) rfl W1.heap.size D.heap.size 1 v2 T.length (flatT T) [.int .i64 E.a, .int .i64 E.n, .int .i64 E.pe, .slice pa E.p.length px, .int .i64 E.pr, .slice qa E.c.length qx, .int .i64 E.bw] rfl rfl (rowK (rowK hT OD) N1) bN rfl (by simp [Value.oneCell']) HL.out (Nat.le_trans hWD N1.size) ?_
          intro v3 w3 hrow hg hor
          have hB3 : Below w.heap.size w w3 := below_growT (below_step (below_step hB OD) N1) (rowK (rowK hT OD) N1) hwW hg
          have bO3 := ((bO1.keep OD).keep N1).grown hg (neRow (rowK (rowK hT OD) N1) hOW)
          have bR3 := ((bR1.keep OD).keep N1).grown hg (neRow (rowK (rowK hT OD) N1) hRW)
          have bA3 := ((bA1.keep OD).keep N1).grown hg (neRow (rowK (rowK hT OD) N1) hAW)
          have hs3 := Nat.le_trans hWD (Nat.le_trans N1.size hg.size)
          clear hg hor
          refine hK.out _ _ ⟨bA3, hB3⟩ (fun hHeld => ?_)
          clear hK K hHeld
          obtain ⟨x3, y3, rfl⟩ := row_slice hrow
          try simp only [Act.put, List.setIfInBounds_toArray, List.set_cons_zero, List.set_cons_succ]
          refine wpAnyH_ready (rs := [9]) (by kernel_rfl) (by simp) ?_
          refine (AllReadyH.cons rfl (fun K hK => ?_) AllReadyH.nil)
          go_simp
          refine hK.out _ _ ⟨bA3, hB3⟩ (fun hHeld => ?_)
          clear hK K hHeld
          try simp only [Act.put, List.setIfInBounds_toArray, List.set_cons_zero, List.set_cons_succ]
          refine wpAnyH_ready (rs := [10]) (by kernel_rfl) (by simp) ?_
          refine (AllReadyH.cons rfl (fun K hK => ?_) AllReadyH.nil)
          have o0 := bO3.c 0 rfl
          have of0 := bO3.f 0 rfl
          go_simp
          refine hK.out _ _ ⟨bA3.far hAO, hB3.setCell (p := ⟨O, 0, none⟩) hwO _⟩ (fun hHeld => ?_)
          clear hK K hHeld o0 of0
          try simp only [Act.put, List.setIfInBounds_toArray, List.set_cons_zero, List.set_cons_succ]
          refine wpAnyH_done (by kernel_rfl) ?_ _
          go_wp2
          go_roundw
          case rel =>
            refine ⟨k + 1, by omega, by go_num, .slice x3 (T.length + 1) y3, T ++ [⟨E, .slice pa E.p.length px, .slice qa E.c.length qx⟩], ?_, ?_, HTE.out _ rfl, bO3.set 0 _, bR3.far hRO, bA3.far hAO, hB3.setCell (p := ⟨O, 0, none⟩) hwO _, by simpa using hs3⟩
            · rw [List.length_append, flatT_append, show flatT [(⟨E, .slice pa E.p.length px, .slice qa E.c.length qx⟩ : ET)] = cellsT ⟨E, .slice pa E.p.length px, .slice qa E.c.length qx⟩ by simp [flatT]]
              exact rowFar hrow hOW
            · intro t ht
              rcases List.mem_append.1 ht with q | q
              · exact hTR t q
              · rw [List.mem_singleton.1 q]; exact ⟨hp, hq⟩
          case measure => simp [intOf]; omega
        · go_simp
          have bN := Bl.new D [.int .i64 E.a, .int .i64 E.n, .int .i64 E.pe, .slice pa E.p.length px, .int .i64 E.pr, .slice qa E.c.length qx, .int .i64 E.bw] EI D.heap.size rfl
          have N1 : Below D.heap.size D (D.alloc (.cells #[.int .i64 E.a, .int .i64 E.n, .int .i64 E.pe, .slice pa E.p.length px, .int .i64 E.pr, .slice qa E.c.length qx, .int .i64 E.bw] EI)) := (Below.refl _ _).alloc (Nat.le_refl _) _
          refine hK.out _ _ (hSD.next N1) (fun hHeld => ?_)
          clear hK K hHeld
          try simp only [Act.put, List.setIfInBounds_toArray, List.set_cons_zero, List.set_cons_succ]
          refine wpAnyH_ready (rs := [1]) (by kernel_rfl) (by simp) ?_
          refine (AllReadyH.cons rfl (fun K hK => ?_) AllReadyH.nil)
          have q := ((bO1.keep OD).keep N1).c 0 rfl
          go_simp
          refine hK.out _ _ (hSD.next N1) (fun hHeld => ?_)
          clear hK K hHeld q
          try simp only [Act.put, List.setIfInBounds_toArray, List.set_cons_zero, List.set_cons_succ]
          refine wpAnyH_ready (rs := [8]) (by kernel_rfl) (by simp) ?_
          refine (AllReadyH.cons rfl (fun K hK => ?_) AllReadyH.nil)
          refine step_appE rfl (.tmp 23) (.tmp 29) rfl W1.heap.size D.heap.size 1 v2 T.length (flatT T) [.int .i64 E.a, .int .i64 E.n, .int .i64 E.pe, .slice pa E.p.length px, .int .i64 E.pr, .slice qa E.c.length qx, .int .i64 E.bw] rfl rfl (rowK (rowK hT OD) N1) bN rfl (by simp [Value.oneCell']) HL.out (Nat.le_trans hWD N1.size) ?_
          intro v3 w3 hrow hg hor
          have hB3 : Below w.heap.size w w3 := below_growT (below_step (below_step hB OD) N1) (rowK (rowK hT OD) N1) hwW hg
          have bO3 := ((bO1.keep OD).keep N1).grown hg (neRow (rowK (rowK hT OD) N1) hOW)
          have bR3 := ((bR1.keep OD).keep N1).grown hg (neRow (rowK (rowK hT OD) N1) hRW)
          have bA3 := ((bA1.keep OD).keep N1).grown hg (neRow (rowK (rowK hT OD) N1) hAW)
          have hs3 := Nat.le_trans hWD (Nat.le_trans N1.size hg.size)
          clear hg hor
          refine hK.out _ _ ⟨bA3, hB3⟩ (fun hHeld => ?_)
          clear hK K hHeld
          obtain ⟨x3, y3, rfl⟩ := row_slice hrow
          try simp only [Act.put, List.setIfInBounds_toArray, List.set_cons_zero, List.set_cons_succ]
          refine wpAnyH_ready (rs := [9]) (by kernel_rfl) (by simp) ?_
          refine (AllReadyH.cons rfl (fun K hK => ?_) AllReadyH.nil)
          go_simp
          refine hK.out _ _ ⟨bA3, hB3⟩ (fun hHeld => ?_)
          clear hK K hHeld
          try simp only [Act.put, List.setIfInBounds_toArray, List.set_cons_zero, List.set_cons_succ]
          refine wpAnyH_ready (rs := [10]) (by kernel_rfl) (by simp) ?_
          refine (AllReadyH.cons rfl (fun K hK => ?_) AllReadyH.nil)
          have o0 := bO3.c 0 rfl
          have of0 := bO3.f 0 rfl
          go_simp
          refine hK.out _ _ ⟨bA3.far hAO, hB3.setCell (p := ⟨O, 0, none⟩) hwO _⟩ (fun hHeld => ?_)
          clear hK K hHeld o0 of0
          try simp only [Act.put, List.setIfInBounds_toArray, List.set_cons_zero, List.set_cons_succ]
          refine wpAnyH_done (by kernel_rfl) ?_ _
          go_wp2
          go_roundw
          case rel =>
            refine ⟨k + 1, by omega, by go_num, .slice x3 (T.length + 1) y3, T ++ [⟨E, .slice pa E.p.length px, .slice qa E.c.length qx⟩], ?_, ?_, HTE.out _ rfl, bO3.set 0 _, bR3.far hRO, bA3.far hAO, hB3.setCell (p := ⟨O, 0, none⟩) hwO _, by simpa using hs3⟩
            · rw [List.length_append, flatT_append, show flatT [(⟨E, .slice pa E.p.length px, .slice qa E.c.length qx⟩ : ET)] = cellsT ⟨E, .slice pa E.p.length px, .slice qa E.c.length qx⟩ by simp [flatT]]
              exact rowFar hrow hOW
            · intro t ht
              rcases List.mem_append.1 ht with q | q
              · exact hTR t q
              · rw [List.mem_singleton.1 q]; exact ⟨hp, hq⟩
          case measure => simp [intOf]; omega
    · have hkn : k = n := by omega
      subst hkn
      clear hc
      obtain ⟨x2, y2, rfl⟩ := row_slice hT
      have o0 := bO1.c 0 rfl
      have q0 := bR1.c 0 rfl
      have qf0 := bR1.f 0 rfl
      go_wp2
      have bE := bR1.set 0 (.slice x2 T.length y2)
      have e0 := bE.c 0 rfl
      have hBe := hB.setCell (p := ⟨R, 0, none⟩) hwR (.slice x2 T.length y2)
      exact bodyPost_ret (v := .agg #[.slice x2 T.length y2]) (by simp [results, Tryz.results110, go_sem, e0]) rfl
        ⟨_, rfl, by rw [show L = L.take k by rw [HN.out, List.take_length], ← hTE]; exact row_rd (rowFar hT hRW) fun t ht => ⟨(hTR t ht).1.keep hBe, (hTR t ht).2.keep hBe⟩, hBe⟩
end Go.Proofs.YtaiffofmhfflkaaGreat
namespace Go.Proofs.YtaiffofmhfflkaaGreat
open Go.ChangeShapes Go.WideShapes Go.ChangeAt Go.RowKit Go.BigFrame Go.Joins
set_option linter.unusedVariables false
set_option maxRecDepth 100000
set_option linter.unusedSimpArgs false
set_option maxRecDepth 100000

theorem rowEl {w : World} {base n c : Nat} {a : Option Addr} {S : List ET} (h : w.ownsRow base EI 7 (.slice a n c) n (flatT S)) (hS : S.length = n) (i : Nat) (hi : i < n) (t : ET) (ht : S[i]? = some t) :
    ∃ g, a = some ⟨g, 0, none⟩ ∧ w.cell? ⟨g, i * 7, none⟩ = some (.int .i64 t.E.a) ∧ w.cell? ⟨g, i * 7 + 1, none⟩ = some (.int .i64 t.E.n) ∧ w.cell? ⟨g, i * 7 + 2, none⟩ = some (.int .i64 t.E.pe) ∧ w.cell? ⟨g, i * 7 + 3, none⟩ = some t.u ∧
      w.cell? ⟨g, i * 7 + 4, none⟩ = some (.int .i64 t.E.pr) ∧ w.cell? ⟨g, i * 7 + 5, none⟩ = some t.v ∧ w.cell? ⟨g, i * 7 + 6, none⟩ = some (.int .i64 t.E.bw) := by
  have hrow := h
  rcases h.2 with ⟨h', e⟩ | ⟨g, cap, cur, h', hb, hg, hnc, hcm, hcs, htake⟩
  · omega
  · simp only [Value.slice.injEq, true_and] at h'
    obtain ⟨rfl, rfl⟩ := h'
    have hiS : i < S.length := by omega
    have e : S[i] = t := by rw [List.getElem?_eq_getElem hiS] at ht; exact Option.some.inj ht
    have hc : ∀ j, j < 7 → w.cell? ⟨g, i * 7 + j, none⟩ = (cellsT t)[j]? := fun j hj => by
      rw [hrow.cellAt (i * 7 + j) (by omega), flatT_get S i j hiS hj, e]
    exact ⟨g, rfl, hc 0 (by omega), hc 1 (by omega), hc 2 (by omega), hc 3 (by omega), hc 4 (by omega), hc 5 (by omega), hc 6 (by omega)⟩
theorem flatT_cons (s : ET) (S : List ET) : flatT (s :: S) = cellsT s ++ flatT S := by simp [flatT]
theorem flatT_set (t : ET) : ∀ (S : List ET) (K : Nat), K < S.length →
    (((((((flatT S).set (K * 7) (.int .i64 t.E.a)).set (K * 7 + 1) (.int .i64 t.E.n)).set (K * 7 + 2) (.int .i64 t.E.pe)).set (K * 7 + 3) t.u).set (K * 7 + 4) (.int .i64 t.E.pr)).set (K * 7 + 5) t.v).set (K * 7 + 6) (.int .i64 t.E.bw) = flatT (S.set K t)
  | [], K, h => by simp at h
  | s :: S, 0, h => by simp [flatT, cellsT]
  | s :: S, K + 1, h => by
    have e : ∀ (j : Nat) (x : Value) (X : List Value), (cellsT s ++ X).set ((K + 1) * 7 + j) x = cellsT s ++ X.set (K * 7 + j) x := fun j x X => by
      have hl : (cellsT s).length = 7 := rfl
      rw [List.set_append_right _ _ (by rw [hl]; omega), hl, show (K + 1) * 7 + j - 7 = K * 7 + j by omega]
    have e0 : ∀ (x : Value) (X : List Value), (cellsT s ++ X).set ((K + 1) * 7) x = cellsT s ++ X.set (K * 7) x := fun x X => e 0 x X
    rw [flatT_cons, e0, e, e, e, e, e, e, List.set_cons_succ, flatT_cons, flatT_set t S K (by simpa using h)]
theorem flatT_take : ∀ (S : List ET) (K : Nat), (flatT S).take (K * 7) = flatT (S.take K)
  | [], K => by simp [flatT]
  | s :: S, 0 => by simp [flatT]
  | s :: S, K + 1 => by
    rw [flatT_cons, List.take_succ_cons, flatT_cons, ← flatT_take S K, List.take_append, show (K + 1) * 7 - (cellsT s).length = K * 7 by simp [cellsT]; omega, List.take_of_length_le (by simp [cellsT]; omega)]
theorem own7_setCells {base g n cap : Nat} : ∀ (vs : List Value) (o : Nat) (w : World) (xs : List Value), w.ownsRow base EI 7 (.slice (some ⟨g, 0, none⟩) n cap) n xs → ∃ xs', (w.setCells g o vs).ownsRow base EI 7 (.slice (some ⟨g, 0, none⟩) n cap) n xs' ∧ xs'.take o = xs.take o
  | [], o, w, xs, h => ⟨xs, h, rfl⟩
  | u :: r, o, w, xs, h => by
    obtain ⟨xs', h', e⟩ := own7_setCells r (o + 1) (w.setCell ⟨g, o, none⟩ u) (xs.set o u) (h.stored o u).1
    refine ⟨xs', by simpa [World.setCells] using h', ?_⟩
    have e2 := congrArg (List.take o) e
    rw [List.take_take, List.take_take] at e2
    simp only [show min o (o + 1) = o by omega] at e2
    rw [e2, List.take_set_of_le (Nat.le_refl _)]
theorem grown7_setCells {g : Nat} : ∀ (vs : List Value) (o : Nat) (w : World), w.grownBy (w.setCells g o vs) (some g)
  | [], o, w => World.grownBy.refl _ _
  | u :: r, o, w => grown_trans (grown_set w g o u) (grown7_setCells r (o + 1) _)
theorem own7_cut {w : World} {base g n cap K : Nat} {xs : List Value} (h : w.ownsRow base EI 7 (.slice (some ⟨g, 0, none⟩) n cap) n xs) (hK : K ≤ n) : w.ownsRow base EI 7 (.slice (some ⟨g, 0, none⟩) K cap) K (xs.take (K * 7)) := by
  rcases h.2 with ⟨h', _⟩ | ⟨g', cap', cur, h', hb, hg, hnc, hcm, hcs, htake⟩
  · simp at h'
  · simp only [Value.slice.injEq, Option.some.injEq, Addr.mk.injEq, and_true, true_and] at h'
    obtain ⟨rfl, rfl⟩ := h'
    refine ⟨by simp [h.1]; omega, .inr ⟨g, cap, cur, rfl, hb, hg, by omega, hcm, hcs, ?_⟩⟩
    rw [← htake, List.take_take, show min (K * 7) (n * 7) = K * 7 by omega]
theorem row_form {w : World} {base n : Nat} {v : Value} {xs : List Value} (h : w.ownsRow base EI 7 v n xs) (hn : 0 < n) : ∃ g c, v = .slice (some ⟨g, 0, none⟩) n c ∧ n ≤ c ∧ base ≤ g ∧ g < w.heap.size ∧ c ≤ 9223372036854775807 := by
  have h0 := h
  rcases h0.2 with ⟨-, e⟩ | ⟨g, c, cur, rfl, hb, hg, hnc, hcm, -, -⟩
  · omega
  · exact ⟨g, c, rfl, hnc, hb, (World.ownsRow.lt h g rfl).2, by unfold maxLen at hcm; omega⟩
abbrev zE : Array Value := #[.int .i64 0, .int .i64 0, .int .i64 0, .slice none 0 0, .int .i64 0, .slice none 0 0, .int .i64 0]
theorem zero7 (w : World) : (zeroValue EI).run Tryz.prog w = .ok (.agg zE) w := by
  kernel_rfl
theorem made7_one (n : Nat) : ∀ v ∈ (madeCells zE (n * 7)).toList, v.oneCell' = true := by
  intro v hv
  have hv2 : v ∈ (Array.range (n * 7)).toList.map (fun x => zE[x % zE.size]!) := by simpa [madeCells] using hv
  obtain ⟨i, -, rfl⟩ := List.mem_map.1 hv2
  have : ∀ j : Nat, j < 7 → (zE[j]!).oneCell' = true := fun j hj => by
    rcases j with _ | _ | _ | _ | _ | _ | _ | q
    iterate 7 rfl
    omega
  exact this _ (Nat.mod_lt _ (by decide))
theorem clear_7 (w : World) (ty : TypeId) (b o n c : Nat) (hn : 0 < n) (hc : ∀ j, j < n * 7 → (w.cell? ⟨b, o + j, none⟩).isSome = true) (hf : ∀ j, j < n * 7 → w.frozen? ⟨b, o + j, none⟩ = false) :
    (Builtin.clear_ #[30] ty #[.slice (some ⟨b, o, none⟩) n c]).run Tryz.prog w = .ok (.tuple #[]) (w.setCells b o (madeCells zE (n * 7)).toList) := by
  have hzc : Builtin.zeroCells zE n = madeCells zE (n * 7) := rfl
  have hl : (madeCells zE (n * 7)).toList.length = n * 7 := by simp [madeCells]
  have hst := run_storeCells_cells (P := Tryz.prog) b o (madeCells zE (n * 7)).toList 0 w (by rw [hl]; simpa using hc) (by rw [hl]; simpa using hf) (made7_one n)
  simp only [Nat.add_zero] at hst
  obtain ⟨m, rfl⟩ : ∃ m, n = m + 1 := ⟨n - 1, by omega⟩
  simp [Builtin.clear_, run_underlying Tryz.underlying30, zero7, Value.cells, hzc, hst]
theorem rowsT_filter (f : ET → Bool) : ∀ T : List ET, (rowsT (T.filter f)).Sublist (rowsT T)
  | [] => by simp [rowsT]
  | t :: T => by
    have ih := rowsT_filter f T
    have e : rowsT (t :: T) = [t.u, t.v] ++ rowsT T := by simp [rowsT]
    rw [List.filter_cons, e]
    split
    · have e2 : rowsT (t :: T.filter f) = [t.u, t.v] ++ rowsT (T.filter f) := by simp [rowsT]
      rw [e2]
      exact List.Sublist.append (List.Sublist.refl _) ih
    · exact ih.trans (List.sublist_append_right _ _)
theorem entT_filter (f : Ent → Bool) (T : List ET) : entT (T.filter fun t => f t.E) = (entT T).filter f := by
  simp [entT, List.filter_map, Function.comp_def]
/-- fewer of them, in the same row -/
theorem OwnT.fewer {w w' : World} {base g n cap K : Nat} {T : List ET} (f : Ent → Bool) (h : OwnT w base (.slice (some ⟨g, 0, none⟩) n cap) T) (hg : w.grownBy w' (some g)) (hK : (T.filter fun t => f t.E).length = K) (hrow : w'.ownsRow base EI 7 (.slice (some ⟨g, 0, none⟩) K cap) K (flatT (T.filter fun t => f t.E))) :
    OwnT w' base (.slice (some ⟨g, 0, none⟩) K cap) (T.filter fun t => f t.E) := by
  have hm : ∀ t ∈ (T.filter fun t => f t.E), t ∈ T := fun t ht => (List.mem_filter.1 ht).1
  exact ⟨by rw [hK]; exact hrow, fun t ht => ⟨(h.own t (hm t ht)).1.kept hg (h.sep t (hm t ht)).1, (h.own t (hm t ht)).2.kept hg (h.sep t (hm t ht)).2⟩, fun t ht => h.len t (hm t ht), fun t ht => h.sep t (hm t ht), h.apart.sublist (rowsT_filter _ T)⟩
end Go.Proofs.YtaiffofmhfflkaaGreat
namespace Go.Proofs.YtaiffofmhfflkaaGreat
open Go.ChangeShapes Go.WideShapes Go.ChangeAt Go.RowKit Go.BigFrame Go.Joins
set_option linter.unusedVariables false
set_option maxRecDepth 100000
set_option linter.unusedSimpArgs false
set_option maxRecDepth 100000

set_option maxHeartbeats 1000000 in
theorem iclP_any (E : Ent) (pa : Option Addr) (px : Nat) (qa : Option Addr) (qx : Nat) (pe : Int) (C : Nat) (w : World) (hC : Bl w C [.int .i64 pe]) :
    Calls Tryz.prog 116 #[.agg #[.int .i64 E.a, .int .i64 E.n, .int .i64 E.pe, .slice pa E.p.length px, .int .i64 E.pr, .slice qa E.c.length qx, .int .i64 E.bw], .pointer (some ⟨C, 0, none⟩)] w fun e w' => e = .returned (.bool (E.pe == pe)) ∧ Below w.heap.size w w' := by
  have c0 := hC.c 0 rfl
  have bP := Bl.new w [.int .i64 E.a, .int .i64 E.n, .int .i64 E.pe, .slice pa E.p.length px, .int .i64 E.pr, .slice qa E.c.length qx, .int .i64 E.bw] EI w.heap.size rfl
  have A1 : Below w.heap.size w (w.alloc (.cells #[.int .i64 E.a, .int .i64 E.n, .int .i64 E.pe, .slice pa E.p.length px, .int .i64 E.pr, .slice qa E.c.length qx, .int .i64 E.bw] EI)) := (Below.refl _ _).alloc (Nat.le_refl _) _
  have d0 := (hC.keep A1).c 0 rfl
  have p2 := bP.c 2 rfl
  go_enter Tryz.func116, Tryz.ntmps116
  go_wp2
  go_ret
  exact ⟨by simp, A1⟩
/-- the place of the first that is dropped, or none -/
def FirstP (T : List ET) (pe : Int) (r : Int) : Prop :=
  (r = -1 ∧ ∀ (j : Nat) (t : ET), T[j]? = some t → (t.E.pe == pe) = false) ∨ ∃ i : Nat, i < T.length ∧ r = i ∧ (∀ j, j < i → ∀ t : ET, T[j]? = some t → (t.E.pe == pe) = false) ∧ ∀ t : ET, T[i]? = some t → (t.E.pe == pe) = true
set_option maxHeartbeats 1000000 in
theorem iixP_any (v : Value) (T : List ET) (pe : Int) (C : Nat) (base : Nat) (w : World) (h : w.ownsRow base EI 7 v T.length (flatT T)) (hl : ∀ t ∈ T, (∃ a c, t.u = .slice a t.E.p.length c) ∧ ∃ a c, t.v = .slice a t.E.c.length c) (hn1 : T.length ≤ 1048576) (hC : Bl w C [.int .i64 pe]) :
    Calls Tryz.prog 169 #[v, .func (.func 116) #[] #[.pointer (some ⟨C, 0, none⟩)]] w fun e w' => ∃ r : Int, e = .returned (.int .i64 r) ∧ FirstP T pe r ∧ Below w.heap.size w w' := by
  obtain ⟨a, c, rfl⟩ := row_slice h
  obtain ⟨n, hn⟩ : ∃ n, n = T.length := ⟨_, rfl⟩
  rw [← hn] at h hn1 ⊢
  have hEl := rowEl h hn.symm
  have HN := Lib.hid hn
  clear h hn
  go_enter Tryz.func169, Tryz.ntmps169
  go_wp2
  go_loopw [8] (fun q wr => ∃ k : Nat, k ≤ n ∧ q = .int .i64 k ∧ (∀ j, j < k → ∀ t, T[j]? = some t → (t.E.pe == pe) = false) ∧ Below w.heap.size w wr) (fun q _ => n - (intOf q).toNat)
  case atStart => exact ⟨0, Nat.zero_le _, rfl, fun j hj => by omega, Below.refl _ _⟩
  case round =>
    obtain ⟨k, hk, rfl, hno, hB⟩ := hrel
    by_cases hlt : k < n
    · have hltI : (k : Int) < (n : Int) := by omega
      have hkT : k < T.length := by rw [← HN.out]; exact hlt
      obtain ⟨t, ht⟩ : ∃ t, T[k]? = some t := ⟨T[k], List.getElem?_eq_getElem hkT⟩
      obtain ⟨g, rfl, G0, G1, G2, G3, G4, G5, G6⟩ := hEl k hlt t ht
      obtain ⟨⟨pa, px, hu⟩, qa, qx, hv⟩ := hl t (List.mem_of_getElem? ht)
      obtain ⟨E, u, v⟩ := t
      dsimp only at G0 G1 G2 G3 G4 G5 G6 hu hv
      subst hu hv
      have g0 := over_cell hB (World.block_lt_of_cell? _ _ G0) G0
      have g1 := over_cell hB (World.block_lt_of_cell? _ _ G1) G1
      have g2 := over_cell hB (World.block_lt_of_cell? _ _ G2) G2
      have g3 := over_cell hB (World.block_lt_of_cell? _ _ G3) G3
      have g4 := over_cell hB (World.block_lt_of_cell? _ _ G4) G4
      have g5 := over_cell hB (World.block_lt_of_cell? _ _ G5) G5
      have g6 := over_cell hB (World.block_lt_of_cell? _ _ G6) G6
      have HT := Lib.hid ht
      have HO := Lib.hid hno
      have HL := Lib.hid hl
      have HE := Lib.hid hEl
      clear ht hno hl hEl hkT G0 G1 G2 G3 G4 G5 G6
      go_wp2_with fail
      refine (iclP_any E pa px qa qx pe C wr (hC.keep hB)).mono ?_
      rintro e w1 ⟨rfl, hb1⟩
      cases hbq : (E.pe == pe)
      · go_wp2
        go_roundw
        case rel =>
          refine ⟨k + 1, by omega, by go_num, fun j hj t ht => ?_, below_step hB hb1⟩
          by_cases hjk : j = k
          · subst hjk
            rw [HT.out] at ht
            injection ht with ht
            subst ht
            exact hbq
          · exact HO.out j (by omega) t ht
        case measure => simp [intOf]; omega
      · go_wp2
        go_ret
        exact ⟨(k : Int), rfl, .inr ⟨k, by rw [← HN.out]; exact hlt, rfl, HO.out, fun t ht => by
          rw [HT.out] at ht
          injection ht with ht
          subst ht
          exact hbq⟩, below_step hB hb1⟩
    · have hkn : k = n := by omega
      subst hkn
      have HO := Lib.hid hno
      clear hno hl hEl
      go_wp2
      go_ret
      exact ⟨-1, rfl, .inl ⟨rfl, fun j t ht => HO.out j (by
        have := (List.getElem?_eq_some_iff.1 ht).1
        rw [HN.out]
        exact this) t ht⟩, hB⟩
theorem keepItP {T : List ET} {pe : Int} {k : Nat} {t : ET} (ht : T[k]? = some t) (hb : (t.E.pe == pe) = false) : (T.take (k + 1)).filter (fun t : ET => !(t.E.pe == pe)) = (T.take k).filter (fun t : ET => !(t.E.pe == pe)) ++ [t] := by
  rw [List.take_add_one, ht, List.filter_append]
  simp [hb]
theorem dropItP {T : List ET} {pe : Int} {k : Nat} {t : ET} (ht : T[k]? = some t) (hb : (t.E.pe == pe) = true) : (T.take (k + 1)).filter (fun t : ET => !(t.E.pe == pe)) = (T.take k).filter (fun t : ET => !(t.E.pe == pe)) := by
  rw [List.take_add_one, ht, List.filter_append]
  simp [hb]
theorem allItP {T : List ET} {pe : Int} {k : Nat} (h : ∀ j, j < k → ∀ t, T[j]? = some t → (t.E.pe == pe) = false) : (T.take k).filter (fun t : ET => !(t.E.pe == pe)) = T.take k := by
  rw [List.filter_eq_self]
  intro t ht
  obtain ⟨j, hj, e⟩ := List.mem_iff_getElem.1 ht
  rw [List.length_take] at hj
  have := h j (by omega) t (by rw [List.getElem?_eq_getElem (by omega)]; rw [List.getElem_take] at e; rw [e])
  simp [this]
set_option maxHeartbeats 4000000 in
theorem idfP_any (v : Value) (T : List ET) (pe : Int) (C : Nat) (base : Nat) (w : World) (h : OwnT w base v T) (hn1 : T.length ≤ 1048576) (hC : Bl w C [.int .i64 pe]) (hCb : C < base) :
    Calls Tryz.prog 115 #[v, .func (.func 116) #[] #[.pointer (some ⟨C, 0, none⟩)]] w fun e w' => ∃ r, e = .returned r ∧ OwnT w' base r (T.filter (fun t : ET => !(t.E.pe == pe))) ∧ w.grownBy w' v.ownBlock ∧ r.ownBlock = v.ownBlock := by
  obtain ⟨a, c, rfl⟩ := h.lenV
  have hrow := h.row
  have hlen := h.len
  obtain ⟨n, hn⟩ : ∃ n, n = T.length := ⟨_, rfl⟩
  have hcall := iixP_any _ T pe C base w hrow hlen hn1 (hC.keep (Below.refl _ _))
  rw [← hn] at hrow hn1 hcall ⊢
  have HH := Lib.hid h
  have HN := Lib.hid hn
  have HCA := Lib.hid hcall
  have HLE := Lib.hid hlen
  clear h hn hcall hlen
  go_enter Tryz.func115, Tryz.ntmps115
  go_wp2_with fail
  refine HCA.out.mono ?_
  rintro e w1 ⟨r, rfl, hF, hb1⟩
  rcases hF with ⟨rfl, hno⟩ | ⟨i0, hi0, rfl, hno, hyes⟩
  · have HO := Lib.hid hno
    clear hno
    go_wp2
    go_ret
    refine ⟨_, rfl, ?_, grown_below hb1 _, rfl⟩
    have e : T.filter (fun t : ET => !(t.E.pe == pe)) = T := by
      have := allItP (T := T) (k := T.length) (fun j _ t ht => HO.out j t ht)
      rwa [List.take_length] at this
    rw [e]
    have := HH.out.keep hb1
    rw [← HN.out] at this
    exact this
  · rw [← HN.out] at hi0
    obtain ⟨g, cap, hv, hc, hb, hg, hcm⟩ := row_form hrow (by omega)
    simp only [Value.slice.injEq, true_and] at hv
    obtain ⟨rfl, rfl⟩ := hv
    have hrow1 := rowK hrow hb1
    have hg1 : w.grownBy w1 (some g) := grown_below hb1 _
    have hne1 : ((i0 : Int) == -1) = false := by
      rw [beq_eq_false_iff_ne]
      omega
    have HO := Lib.hid hno
    have HY := Lib.hid hyes
    clear hno hyes hrow
    go_wp2
    go_loopw [5, 6] (fun p q wr => ∃ (K k : Nat) (S : List ET), p = .int .i64 K ∧ q = .int .i64 k ∧ K < k ∧ k ≤ n ∧ S.length = n ∧ S.take K = (T.take k).filter (fun t : ET => !(t.E.pe == pe)) ∧ (∀ i, k ≤ i → S[i]? = T[i]?) ∧ wr.ownsRow base EI 7 (.slice (some ⟨g, 0, none⟩) n c) n (flatT S) ∧ w.grownBy wr (some g)) (fun _ q _ => n - (intOf q).toNat)
    case atStart =>
      have e0 : T[i0]? = some (T[i0]'(by rw [← HN.out]; exact hi0)) := List.getElem?_eq_getElem _
      exact ⟨i0, i0 + 1, T, rfl, by go_num, by omega, by omega, HN.out.symm, by rw [dropItP e0 (HY.out _ e0), allItP HO.out], fun _ _ => rfl, hrow1, hg1⟩
    case round =>
      obtain ⟨K, k, S, rfl, rfl, hKk, hk, hS, hM, hR, hrow2, hgr⟩ := hrel
      have hKn : K < n := by omega
      have HS := Lib.hid hS
      by_cases hlt : k < n
      · have hltI : (k : Int) < (n : Int) := by omega
        have hkT : k < T.length := by rw [← HN.out]; exact hlt
        obtain ⟨t, ht⟩ : ∃ t, T[k]? = some t := ⟨T[k], List.getElem?_eq_getElem hkT⟩
        obtain ⟨g', hg', g0, g1, g2, g3, g4, g5, g6⟩ := rowEl hrow2 hS k hlt t ((hR k (Nat.le_refl _)).trans ht)
        injection hg' with hg'
        injection hg' with hg'
        subst hg'
        obtain ⟨⟨pa, px, hu⟩, qa, qx, hv⟩ := HLE.out t (List.mem_of_getElem? ht)
        obtain ⟨E, u, v⟩ := t
        dsimp only at g0 g1 g2 g3 g4 g5 g6 hu hv
        subst hu hv
        have hCw := hC.grown hgr (by intro q; cases q; omega)
        have bP := Bl.new wr [.int .i64 E.a, .int .i64 E.n, .int .i64 E.pe, .slice pa E.p.length px, .int .i64 E.pr, .slice qa E.c.length qx, .int .i64 E.bw] EI wr.heap.size rfl
        have A1 : Below wr.heap.size wr (wr.alloc (.cells #[.int .i64 E.a, .int .i64 E.n, .int .i64 E.pe, .slice pa E.p.length px, .int .i64 E.pr, .slice qa E.c.length qx, .int .i64 E.bw] EI)) := (Below.refl _ _).alloc (Nat.le_refl _) _
        have p0 := bP.c 0 rfl
        have p1 := bP.c 1 rfl
        have p2 := bP.c 2 rfl
        have p3 := bP.c 3 rfl
        have p4 := bP.c 4 rfl
        have p5 := bP.c 5 rfl
        have p6 := bP.c 6 rfl
        have HT := Lib.hid ht
        have HM := Lib.hid hM
        have HR := Lib.hid hR
        clear ht hM hR hkT hS
        go_wp2_with fail
        clear p0 p1 p2 p3 p4 p5 p6 g0 g1 g2 g3 g4 g5 g6
        refine (iclP_any E pa px qa qx pe C _ (hCw.keep A1)).mono ?_
        rintro e w3 ⟨rfl, hb3⟩
        have D1 := below_step A1 hb3
        have hrow3 := rowK hrow2 D1
        have hgr3 := grown_trans hgr (grown_below D1 (some g))
        replace bP := bP.keep hb3
        cases hbq : (E.pe == pe)
        · obtain ⟨s0, hs0⟩ : ∃ s, S[K]? = some s := ⟨S[K]'(by rw [HS.out]; exact hKn), List.getElem?_eq_getElem _⟩
          obtain ⟨g', hg', e0, e1, e2, e3, e4, e5, e6⟩ := rowEl hrow3 HS.out K hKn s0 hs0
          injection hg' with hg'
          injection hg' with hg'
          subst hg'
          clear hs0
          have p0 := bP.c 0 rfl
          have p1 := bP.c 1 rfl
          have p2 := bP.c 2 rfl
          have p3 := bP.c 3 rfl
          have p4 := bP.c 4 rfl
          have p5 := bP.c 5 rfl
          have p6 := bP.c 6 rfl
          have f0 := hrow3.frozenAt (K * 7)
          have f1 := hrow3.frozenAt (K * 7 + 1)
          have f2 := hrow3.frozenAt (K * 7 + 2)
          have f3 := hrow3.frozenAt (K * 7 + 3)
          have f4 := hrow3.frozenAt (K * 7 + 4)
          have f5 := hrow3.frozenAt (K * 7 + 5)
          have f6 := hrow3.frozenAt (K * 7 + 6)
          have hKI : (K : Int) < (n : Int) := by omega
          obtain ⟨S2, hS2⟩ : ∃ S2, S2 = S.set K ⟨E, .slice pa E.p.length px, .slice qa E.c.length qx⟩ := ⟨_, rfl⟩
          have hst := (((((((hrow3.stored (K * 7) (.int .i64 E.a)).1.stored (K * 7 + 1) (.int .i64 E.n)).1.stored (K * 7 + 2) (.int .i64 E.pe)).1.stored (K * 7 + 3) (.slice pa E.p.length px)).1.stored (K * 7 + 4) (.int .i64 E.pr)).1.stored (K * 7 + 5) (.slice qa E.c.length qx)).1.stored (K * 7 + 6) (.int .i64 E.bw)).1
          have eset := flatT_set ⟨E, .slice pa E.p.length px, .slice qa E.c.length qx⟩ S K (by rw [HS.out]; exact hKn)
          dsimp only at eset
          rw [eset, ← hS2] at hst
          have hgs := grown_trans (grown_trans (grown_trans (grown_trans (grown_trans (grown_trans (grown_trans hgr3 (grown_set w3 g (K * 7) (.int .i64 E.a))) (grown_set _ g (K * 7 + 1) (.int .i64 E.n))) (grown_set _ g (K * 7 + 2) (.int .i64 E.pe))) (grown_set _ g (K * 7 + 3) (.slice pa E.p.length px))) (grown_set _ g (K * 7 + 4) (.int .i64 E.pr))) (grown_set _ g (K * 7 + 5) (.slice qa E.c.length qx))) (grown_set _ g (K * 7 + 6) (.int .i64 E.bw))
          have HST := Lib.hid (And.intro hst hgs)
          have HS2 := Lib.hid hS2
          clear hst hgs eset hS2 hrow2 hrow3 hgr hgr3 hrow1 hg1
          go_wp2
          go_roundw
          case rel =>
            refine ⟨K + 1, k + 1, S2, by go_num, by go_num, by omega, by omega, by rw [HS2.out, List.length_set]; exact HS.out, ?_, fun i hi => ?_, HST.out.1, HST.out.2⟩
            · rw [keepItP HT.out hbq, ← HM.out, HS2.out, List.take_add_one, List.take_set_of_le (Nat.le_refl _), List.getElem?_set_self (by rw [HS.out]; exact hKn)]
              rfl
            · rw [HS2.out, List.getElem?_set_ne (by omega)]
              exact HR.out i (by omega)
          case measure => simp [intOf]; omega
        · clear hrow1 hg1 hrow2 hgr
          go_wp2
          go_roundw
          case rel => exact ⟨K, k + 1, S, rfl, by go_num, by omega, by omega, HS.out, by rw [dropItP HT.out hbq]; exact HM.out, fun i hi => HR.out i (by omega), hrow3, hgr3⟩
          case measure => simp [intOf]; omega
      · have hkn : k = n := by omega
        subst hkn
        have hcl : ∀ ty, (Builtin.clear_ #[30] ty #[.slice (some ⟨g, K * 7, none⟩) (k - K) (c - K)]).run Tryz.prog wr = .ok (.tuple #[]) (wr.setCells g (K * 7) (madeCells zE ((k - K) * 7)).toList) := fun ty => clear_7 wr ty g (K * 7) (k - K) (c - K) (by omega) (fun q hq => by
          rw [hrow2.cellAt (K * 7 + q) (by omega), List.getElem?_eq_getElem (by rw [flatT_len, HS.out]; omega)]; rfl) (fun q hq => hrow2.frozenAt _)
        have hKI : (K : Int) ≤ (k : Int) := by omega
        have hKc : (k : Int) ≤ (c : Int) := by omega
        have HO2 := Lib.hid hrow2
        have HM := Lib.hid hM
        have HG := Lib.hid hgr
        clear hM hR hrow2 hrow1 hg1 hgr hS
        go_wp2
        go_ret
        obtain ⟨xs', h', e'⟩ := own7_setCells (madeCells zE ((k - K) * 7)).toList (K * 7) wr _ HO2.out
        have h3 := own7_cut h' (Nat.le_of_lt hKn)
        have eT : T.take k = T := by rw [HN.out, List.take_length]
        rw [e', flatT_take, HM.out, eT] at h3
        have eM := HM.out
        rw [eT] at eM
        have eL : (T.filter (fun t : ET => !(t.E.pe == pe))).length = K := by rw [← eM, List.length_take, HS.out]; omega
        have hH := HH.out
        rw [← HN.out] at hH
        exact ⟨_, rfl, hH.fewer (fun E => !(E.pe == pe)) (grown_trans HG.out (grown7_setCells _ _ _)) eL h3, grown_trans HG.out (grown7_setCells _ _ _), rfl⟩
end Go.Proofs.YtaiffofmhfflkaaGreat
namespace Go.Proofs.YtaiffofmhfflkaaGreat
open Go.ChangeShapes Go.WideShapes Go.ChangeAt Go.RowKit Go.BigFrame Go.Joins
set_option linter.unusedVariables false
set_option maxRecDepth 100000
set_option linter.unusedSimpArgs false
set_option maxRecDepth 100000

/-- what RibDropPeer answers -/
def dropP (L : List Ent) (pe : Int) : List Ent := if ribB L = true then L.filter (fun E => !(E.pe == pe)) else []
theorem dropP_no {L : List Ent} {pe : Int} (h : ribB L = false) : dropP L pe = [] := by simp [dropP, h]
theorem dropP_yes {L : List Ent} {pe : Int} (h : ribB L = true) : dropP L pe = L.filter (fun E => !(E.pe == pe)) := by simp [dropP, h]
theorem getD_mem {L : List Ent} {j : Nat} (h : j < L.length) : L.getD j e0 ∈ L := by
  rw [List.getD_eq_getElem?_getD, List.getElem?_eq_getElem h]
  exact List.getElem_mem h
theorem lens_filter {L : List Ent} {f : Ent → Bool} (h : ∀ j, j < L.length → (L.getD j e0).p.length ≤ 1048576 ∧ (L.getD j e0).c.length ≤ 1048576) : ∀ j, j < (L.filter f).length → ((L.filter f).getD j e0).p.length ≤ 1048576 ∧ ((L.filter f).getD j e0).c.length ≤ 1048576 := by
  intro j hj
  obtain ⟨i, hi, e⟩ := List.mem_iff_getElem.1 (List.mem_filter.1 (getD_mem hj)).1
  have := h i hi
  rw [List.getD_eq_getElem?_getD, List.getElem?_eq_getElem hi] at this
  rw [← e]
  exact this
theorem ribB_len7 {L : List Ent} (h : ribB L = true) : L.length ≤ 60 := by
  unfold ribB at h
  simp at h
  omega
set_option maxHeartbeats 2000000 in
theorem irdp_any (v : Value) (L : List Ent) (pe : Int) (w : World) (h : RdE w v L) (hln : ∀ j, j < L.length → (L.getD j e0).p.length ≤ 1048576 ∧ (L.getD j e0).c.length ≤ 1048576) :
    Calls Tryz.prog 52 #[.agg #[v], .int .i64 pe] w (NewRib w (dropP L pe)) := by
  obtain ⟨a, c, rfl⟩ := h.len
  obtain ⟨bA, bC, bR, B0, z⟩ := three w [.slice a L.length c] [.int .i64 pe] [.slice none 0 0] 32 3 32
  obtain ⟨R, hR⟩ : ∃ R, R = w.heap.size + 1 + 1 := ⟨_, rfl⟩
  have hwR : w.heap.size ≤ R := by omega
  cases hb : ribB L
  · rw [dropP_no hb]
    have HB := Lib.hid hb
    clear hb
    go_enter Tryz.func52, Tryz.ntmps52
    go_wp2_with fail
    refine (irib_t _ (h.keep B0) HB).mono ?_
    rintro e w1 ⟨rfl, hb1⟩
    replace bR := bR.keep hb1
    replace B0 := below_step B0 hb1
    rw [← hR] at bR
    try rw [← hR]
    clear hR
    have r0 := bR.c 0 rfl
    have rf0 := bR.f 0 rfl
    go_wp2
    have bE := bR.set 0 (.slice none 0 0)
    have e0 := bE.c 0 rfl
    exact bodyPost_ret (v := .agg #[.slice none 0 0]) (by simp [results, Tryz.results52, go_sem, e0]) rfl
      ⟨_, [], rfl, OwnT.nil _ _, rfl, B0.setCell (p := ⟨R, 0, none⟩) hwR _⟩
  · rw [dropP_yes hb]
    have HN : Hid (L.length ≤ 1048576) := Lib.hid (by have := ribB_len7 hb; omega)
    have HB := Lib.hid hb
    have HLN := Lib.hid hln
    clear hb hln
    go_enter Tryz.func52, Tryz.ntmps52
    go_wp2_with fail
    refine (irib_t _ (h.keep B0) HB).mono ?_
    rintro e w1 ⟨rfl, hb1⟩
    have hw1 : w.heap.size + 3 ≤ w1.heap.size := by rw [← z]; exact hb1.size
    replace bA := bA.keep hb1
    replace bC := bC.keep hb1
    replace bR := bR.keep hb1
    replace B0 := below_step B0 hb1
    obtain ⟨A, hA⟩ : ∃ A, A = w.heap.size := ⟨_, rfl⟩
    obtain ⟨C, hC⟩ : ∃ C, C = w.heap.size + 1 := ⟨_, rfl⟩
    have hC1 : C < w1.heap.size := by omega
    have hR1 : R < w1.heap.size := by omega
    have hwW : w.heap.size ≤ w1.heap.size := by omega
    rw [← hR] at bR
    try rw [← hR]
    rw [← hC] at bC
    try rw [← hC]
    rw [← hA] at bA
    try rw [← hA]
    clear hR hC hA z
    have a0 := bA.c 0 rfl
    go_wp2_with fail
    clear a0 bA
    refine (irc_any _ L w1 (h.keep B0) HN.out HLN.out).mono ?_
    rintro e w2 ⟨u, T, rfl, hT, hTE, hb2⟩
    obtain ⟨x, y, rfl⟩ := hT.lenV
    have HT := Lib.hid hTE
    have hTn : T.length ≤ 1048576 := by rw [← entT_len, hTE]; exact HN.out
    clear hTE
    have bO := Bl.new w2 [.slice x T.length y] 32 w2.heap.size rfl
    have N1 : Below w2.heap.size w2 (w2.alloc (.cells #[.slice x T.length y] 32)) := (Below.refl _ _).alloc (Nat.le_refl _) _
    have hOR : w2.heap.size ≠ R := by have := hb2.size; omega
    have hO2 : ∀ k, (Value.slice x T.length y).ownBlock = some k → k < w2.heap.size := fun k hk => (World.ownsRow.lt hT.row k hk).2
    have hTl := hT.lt
    have o0 := bO.c 0 rfl
    go_wp2_with fail
    clear o0
    obtain ⟨V, hV⟩ : ∃ V, V = w2.alloc (.cells #[.slice x T.length y] 32) := ⟨_, rfl⟩
    rw [← hV] at bO N1 ⊢
    have B1 := below_step (below_step B0 hb2) N1
    have hTV := hT.keep N1
    refine (idfP_any _ T pe C w1.heap.size V hTV hTn ((bC.keep hb2).keep N1) hC1).mono ?_
    rintro e w3 ⟨r, rfl, hT3, hg, hro⟩
    obtain ⟨x3, y3, rfl⟩ := hT3.lenV
    obtain ⟨O, hO⟩ : ∃ O, O = w2.heap.size := ⟨_, rfl⟩
    rw [← hO] at bO hOR hO2 hTl
    try rw [← hO]
    have hwO : w.heap.size ≤ O := by rw [hO]; exact Nat.le_trans hwW hb2.size
    clear hV hO
    have bO3 := bO.grown hg (fun q => by have := hO2 O q.symm; omega)
    have bR3 := ((bR.keep hb2).keep N1).grown hg (neRow hTV.row hR1)
    have B3 := below_growT B1 hTV.row hwW hg
    obtain ⟨S, hS⟩ : ∃ S, S = T.filter (fun t : ET => !(t.E.pe == pe)) := ⟨_, rfl⟩
    rw [← hS] at hT3 hro ⊢
    have HS := Lib.hid hS
    have bOs := bO3.set 0 (.slice x3 S.length y3)
    have bRs := bR3.far (o := 0) (u := .slice x3 S.length y3) hOR.symm
    have o0 := bO3.c 0 rfl
    have of0 := bO3.f 0 rfl
    have r0 := bR3.c 0 rfl
    have rf0 := bR3.f 0 rfl
    have s0 := bOs.c 0 rfl
    have t0 := bRs.c 0 rfl
    have lO := bO3.lt
    have lR := bR3.lt
    have hT4 : OwnT (w3.setCell ⟨O, 0, none⟩ (.slice x3 S.length y3)) w1.heap.size (.slice x3 S.length y3) S := hT3.kept (grown_set w3 O 0 _) (by
      cases hv : (Value.slice x3 S.length y3).ownBlock with
      | none => exact .inl rfl
      | some k => exact .inr (by rw [hro] at hv; have := hO2 k hv; intro q; cases q; omega)) (fun t ht => by
      have hm := (hTl t (by rw [HS.out] at ht; exact (List.mem_filter.1 ht).1))
      constructor
      · cases hv : t.u.ownBlock with
        | none => exact .inl rfl
        | some k => exact .inr (by have := (hm.1 k hv).2; intro q; cases q; omega)
      · cases hv : t.v.ownBlock with
        | none => exact .inl rfl
        | some k => exact .inr (by have := (hm.2 k hv).2; intro q; cases q; omega))
    have hT5 := (hT4.far (B := R) (o := 0) (u := .slice x3 S.length y3) hR1).mono hwW
    have B5 := (B3.setCell (p := ⟨O, 0, none⟩) hwO (.slice x3 S.length y3)).setCell (p := ⟨R, 0, none⟩) hwR (.slice x3 S.length y3)
    clear hT4 hT3 hg hro hTl hO2 hS B3
    go_wp2
    have bE := bRs.set 0 (.slice x3 S.length y3)
    have e0 := bE.c 0 rfl
    exact bodyPost_ret (v := .agg #[.slice x3 S.length y3]) (by simp [results, Tryz.results52, go_sem, e0]) rfl
      ⟨_, S, rfl, hT5, by rw [HS.out, ← HT.out]; exact entT_filter (fun E => !(E.pe == pe)) T, B5⟩
end Go.Proofs.YtaiffofmhfflkaaGreat
namespace Go.Proofs.YtaiffofmhfflkaaGreat
open Go.ChangeShapes Go.WideShapes Go.ChangeAt Go.RowKit Go.BigFrame Go.Joins
set_option linter.unusedVariables false
set_option maxRecDepth 100000
set_option linter.unusedSimpArgs false
set_option maxRecDepth 100000

theorem apart_of {T : List ET} (h : (rowsT T).Pairwise Apart) {t : ET} (ht : t ∈ T) : Apart t.u t.v := by
  unfold rowsT at h
  rw [List.pairwise_flatMap] at h
  have := h.1 t ht
  simp at this
  exact this
theorem apart_ij {T : List ET} (h : (rowsT T).Pairwise Apart) {i j : Nat} {s t : ET} (hi : T[i]? = some s) (hj : T[j]? = some t) (hne : i ≠ j) : (Apart s.u t.u ∧ Apart s.u t.v) ∧ Apart s.v t.u ∧ Apart s.v t.v := by
  unfold rowsT at h
  rw [List.pairwise_flatMap] at h
  obtain ⟨li, ei⟩ := List.getElem?_eq_some_iff.1 hi
  obtain ⟨lj, ej⟩ := List.getElem?_eq_some_iff.1 hj
  rcases Nat.lt_or_gt_of_ne hne with q | q
  · have := List.pairwise_iff_getElem.1 h.2 i j li lj q
    rw [ei, ej] at this
    exact ⟨⟨this _ (by simp) _ (by simp), this _ (by simp) _ (by simp)⟩, this _ (by simp) _ (by simp), this _ (by simp) _ (by simp)⟩
  · have := List.pairwise_iff_getElem.1 h.2 j i lj li q
    rw [ei, ej] at this
    exact ⟨⟨(this _ (by simp) _ (by simp)).symm, (this t.v (by simp) s.u (by simp)).symm⟩, (this t.u (by simp) s.v (by simp)).symm, (this _ (by simp) _ (by simp)).symm⟩
theorem flat_same {α : Type} (f : ET → List α) {S : List ET} {j : Nat} {t t' : ET} (hj : S[j]? = some t) (h : f t' = f t) : (S.set j t').flatMap f = S.flatMap f := by
  rw [List.flatMap_def, List.flatMap_def]
  congr 1
  obtain ⟨lj, ej⟩ := List.getElem?_eq_some_iff.1 hj
  rw [List.map_set, h, ← ej]
  apply List.ext_getElem?
  intro i
  by_cases hij : j = i
  · subst hij
    rw [List.getElem?_set_self (by simpa using lj)]
    simp [List.getElem?_eq_getElem lj]
  · rw [List.getElem?_set_ne hij]
theorem flatT_set1 {x : Value} {d : Nat} (hd : d < 7) {t t' : ET} (hc : cellsT t' = (cellsT t).set d x) : ∀ (S : List ET) (j : Nat), S[j]? = some t → (flatT S).set (j * 7 + d) x = flatT (S.set j t')
  | [], j, h => by simp at h
  | s :: S, 0, h => by
    simp at h
    subst h
    rw [flatT_cons, List.set_cons_zero, flatT_cons, hc, show 0 * 7 + d = d by omega, List.set_append_left _ _ (by simp [cellsT]; omega)]
  | s :: S, j + 1, h => by
    have hl : (cellsT s).length = 7 := rfl
    rw [flatT_cons, List.set_cons_succ, flatT_cons, List.set_append_right _ _ (by rw [hl]; omega), hl, show (j + 1) * 7 + d - 7 = j * 7 + d by omega, flatT_set1 hd hc S j (by simpa using h)]
theorem set_mem {S : List ET} {j : Nat} {t t' s : ET} (hj : S[j]? = some t) (h : s ∈ S.set j t') : s = t' ∨ ∃ i, i ≠ j ∧ S[i]? = some s := by
  obtain ⟨i, hi, e⟩ := List.mem_iff_getElem.1 h
  by_cases hij : j = i
  · subst hij
    rw [List.getElem_set_self] at e
    exact .inl e.symm
  · rw [List.getElem_set_ne hij] at e
    exact .inr ⟨i, Ne.symm hij, by rw [List.getElem?_eq_getElem (by simpa using hi), e]⟩
/-- one cell of an element that is no slice is written -/
theorem OwnT.setC {w : World} {base g n cap j : Nat} {S : List ET} {t : ET} (h : OwnT w base (.slice (some ⟨g, 0, none⟩) n cap) S) (hS : S.length = n) (hj : S[j]? = some t) (d : Nat) (x : Value) (t' : ET) (hd : d < 7) (hc : cellsT t' = (cellsT t).set d x)
    (hu : t'.u = t.u) (hv : t'.v = t.v) (hp : t'.E.p = t.E.p) (hcc : t'.E.c = t.E.c) : OwnT (w.setCell ⟨g, j * 7 + d, none⟩ x) base (.slice (some ⟨g, 0, none⟩) n cap) (S.set j t') := by
  have hr := h.row
  rw [hS] at hr
  have hm : t ∈ S := List.mem_of_getElem? hj
  refine ⟨?_, fun s hs => ?_, fun s hs => ?_, fun s hs => ?_, ?_⟩
  · rw [List.length_set, hS, ← flatT_set1 hd hc S j hj]
    exact (hr.stored (j * 7 + d) x).1
  · rcases set_mem hj hs with rfl | ⟨i, -, e⟩
    · rw [hu, hv, hp, hcc]
      exact ⟨(h.own t hm).1.kept (grown_set w g _ x) (h.sep t hm).1, (h.own t hm).2.kept (grown_set w g _ x) (h.sep t hm).2⟩
    · have q := List.mem_of_getElem? e
      exact ⟨(h.own s q).1.kept (grown_set w g _ x) (h.sep s q).1, (h.own s q).2.kept (grown_set w g _ x) (h.sep s q).2⟩
  · rcases set_mem hj hs with rfl | ⟨i, -, e⟩
    · rw [hu, hv, hp, hcc]; exact h.len t hm
    · exact h.len s (List.mem_of_getElem? e)
  · rcases set_mem hj hs with rfl | ⟨i, -, e⟩
    · rw [hu, hv]; exact h.sep t hm
    · exact h.sep s (List.mem_of_getElem? e)
  · have := flat_same (fun t => [t.u, t.v]) hj (t' := t') (by rw [hu, hv])
    unfold rowsT
    rw [this]
    exact h.apart
theorem sep_symm {v u : Value} (h : u.ownBlock = none ∨ u.ownBlock ≠ v.ownBlock) : v.ownBlock = none ∨ v.ownBlock ≠ u.ownBlock := by
  rcases h with h | h
  · cases hv : v.ownBlock with
    | none => exact .inl rfl
    | some k => exact .inr (by rw [h]; simp)
  · exact .inr h.symm
/-- the first slice of an element is written -/
theorem OwnT.setU {w w' : World} {base j : Nat} {v : Value} {S : List ET} {t : ET} {p : List Int} (h : OwnT w base v S) (hj : S[j]? = some t) (hg : w.grownBy w' t.u.ownBlock) (ho : OwnI w' base t.u p) (hl : p.length = t.E.p.length) : OwnT w' base v (S.set j ⟨{ t.E with p := p }, t.u, t.v⟩) := by
  have hm : t ∈ S := List.mem_of_getElem? hj
  refine ⟨?_, fun s hs => ?_, fun s hs => ?_, fun s hs => ?_, ?_⟩
  · rw [List.length_set]
    unfold flatT
    rw [flat_same cellsT hj (by simp [cellsT])]
    exact World.ownsRow.kept h.row hg (sep_symm (h.sep t hm).1)
  · rcases set_mem hj hs with rfl | ⟨i, hi, e⟩
    · exact ⟨ho, (h.own t hm).2.kept hg (apart_of h.apart hm).symm.1⟩
    · have q := List.mem_of_getElem? e
      have a := apart_ij h.apart e hj hi
      exact ⟨(h.own s q).1.kept hg a.1.1.1, (h.own s q).2.kept hg a.2.1.1⟩
  · rcases set_mem hj hs with rfl | ⟨i, -, e⟩
    · dsimp only; rw [hl]; exact h.len t hm
    · exact h.len s (List.mem_of_getElem? e)
  · rcases set_mem hj hs with rfl | ⟨i, -, e⟩
    · exact h.sep t hm
    · exact h.sep s (List.mem_of_getElem? e)
  · unfold rowsT
    have e := flat_same (fun t => [t.u, t.v]) (t' := (⟨{ t.E with p := p }, t.u, t.v⟩ : ET)) hj rfl
    rw [e]
    exact h.apart
/-- the second slice of an element is written -/
theorem OwnT.setV {w w' : World} {base j : Nat} {v : Value} {S : List ET} {t : ET} {p : List Int} (h : OwnT w base v S) (hj : S[j]? = some t) (hg : w.grownBy w' t.v.ownBlock) (ho : OwnI w' base t.v p) (hl : p.length = t.E.c.length) : OwnT w' base v (S.set j ⟨{ t.E with c := p }, t.u, t.v⟩) := by
  have hm : t ∈ S := List.mem_of_getElem? hj
  refine ⟨?_, fun s hs => ?_, fun s hs => ?_, fun s hs => ?_, ?_⟩
  · rw [List.length_set]
    unfold flatT
    rw [flat_same cellsT hj (by simp [cellsT])]
    exact World.ownsRow.kept h.row hg (sep_symm (h.sep t hm).2)
  · rcases set_mem hj hs with rfl | ⟨i, hi, e⟩
    · exact ⟨(h.own t hm).1.kept hg (apart_of h.apart hm).1, ho⟩
    · have q := List.mem_of_getElem? e
      have a := apart_ij h.apart e hj hi
      exact ⟨(h.own s q).1.kept hg a.1.2.1, (h.own s q).2.kept hg a.2.2.1⟩
  · rcases set_mem hj hs with rfl | ⟨i, -, e⟩
    · dsimp only; rw [hl]; exact h.len t hm
    · exact h.len s (List.mem_of_getElem? e)
  · rcases set_mem hj hs with rfl | ⟨i, -, e⟩
    · exact h.sep t hm
    · exact h.sep s (List.mem_of_getElem? e)
  · unfold rowsT
    have e := flat_same (fun t => [t.u, t.v]) (t' := (⟨{ t.E with c := p }, t.u, t.v⟩ : ET)) hj rfl
    rw [e]
    exact h.apart
/-- an entry as marks from k on leave it -/
def markE (k : Int) (p c : Nat) : Ent := ⟨k, k + 1, k + 2, imarks (k + 3) p, k + 3 + p, imarks (k + 3 + p + 1) c, k + 3 + p + 1 + c⟩
def wE (E : Ent) : Nat := 5 + E.p.length + E.c.length
/-- a table's entries bear the marks from k on; W: how many each bears -/
def MarkedW (k : Int) (W : List Nat) (L : List Ent) (j : Nat) : Prop := L.map wE = W ∧ ∀ i, i < j → i < L.length → L.getD i e0 = markE (k + (W.take i).sum) (L.getD i e0).p.length (L.getD i e0).c.length
theorem markE_w (k : Int) (p c : Nat) : wE (markE k p c) = 5 + p + c := by simp [wE, markE, imarks_len]
theorem wE_get {W : List Nat} {L : List Ent} (h : L.map wE = W) {j : Nat} (hj : j < L.length) : (W.take (j + 1)).sum = (W.take j).sum + wE (L.getD j e0) := by
  subst h
  rw [List.take_add_one, List.getElem?_eq_getElem (by simpa using hj)]
  simp [List.getD, hj]
theorem wE_le (W : List Nat) (j : Nat) : (W.take j).sum ≤ W.sum := by
  have := List.sum_append (l₁ := W.take j) (l₂ := W.drop j)
  rw [List.take_append_drop] at this
  omega
theorem wE_all (L : List Ent) : (L.map wE).sum = 5 * L.length + wtE L := by
  induction L with
  | nil => simp [wtE]
  | cons E L ih =>
    have e : wtE (E :: L) = E.p.length + E.c.length + wtE L := by simp [wtE]
    rw [List.map_cons, List.sum_cons, ih, e, List.length_cons, wE]
    omega
theorem markedW_next {k : Int} {W : List Nat} {S : List ET} {j : Nat} {t t' : ET} (h : MarkedW k W (entT S) j) (hj : S[j]? = some t) (ht : t'.E = markE (k + (W.take j).sum) t.E.p.length t.E.c.length) : MarkedW k W (entT (S.set j t')) (j + 1) := by
  obtain ⟨lj, ej⟩ := List.getElem?_eq_some_iff.1 hj
  have hw : wE t'.E = wE t.E := by rw [ht, markE_w]; rfl
  refine ⟨?_, fun i hi hl => ?_⟩
  · rw [← h.1]
    unfold entT
    rw [List.map_set, List.map_set, hw]
    apply List.ext_getElem?
    intro i
    by_cases hij : j = i
    · subst hij
      rw [List.getElem?_set_self (by simpa using lj)]
      simp [hj]
    · rw [List.getElem?_set_ne hij]
  · have hlS : i < S.length := by simpa [entT] using hl
    by_cases hij : j = i
    · subst hij
      have e : (entT (S.set j t')).getD j e0 = t'.E := by simp [entT, List.getD, lj]
      rw [e, ht]
      simp [markE, imarks_len]
    · have e : (entT (S.set j t')).getD i e0 = (entT S).getD i e0 := by simp [entT, List.getD, List.getElem?_set_ne hij]
      rw [e]
      exact h.2 i (by omega) (by simpa [entT] using hlS)
end Go.Proofs.YtaiffofmhfflkaaGreat
namespace Go.Proofs.YtaiffofmhfflkaaGreat
open Go.ChangeShapes Go.WideShapes Go.ChangeAt Go.RowKit Go.BigFrame Go.Joins
set_option linter.unusedVariables false
set_option maxRecDepth 100000
set_option linter.unusedSimpArgs false
set_option maxRecDepth 100000

/-- no block but those from base to hi has turned -/
structure MidB (base hi : Nat) (w w' : World) : Prop where
  os : w'.os = w.os
  tape : w'.tape = w.tape
  output : w'.output = w.output
  size : w.heap.size ≤ w'.heap.size
  block : ∀ i, i < w.heap.size → (i < base ∨ hi ≤ i) → w'.heap[i]? = w.heap[i]?
theorem MidB.refl (base hi : Nat) (w : World) : MidB base hi w w := ⟨rfl, rfl, rfl, Nat.le_refl _, fun _ _ _ => rfl⟩
theorem MidB.grown {base hi : Nat} {w w' w2 : World} {row : Option Nat} (h : MidB base hi w w') (hg : w'.grownBy w2 row) (hr : ∀ k, row = some k → base ≤ k ∧ k < hi) : MidB base hi w w2 :=
  ⟨hg.os.trans h.os, hg.tape.trans h.tape, hg.output.trans h.output, Nat.le_trans h.size hg.size, fun i hi' hc => (hg.block i (Nat.lt_of_lt_of_le hi' h.size) (fun e => by have := hr i e.symm; omega)).trans (h.block i hi' hc)⟩
theorem MidB.trans {base hi : Nat} {a b c : World} (h : MidB base hi a b) (k : MidB base hi b c) : MidB base hi a c :=
  ⟨k.os.trans h.os, k.tape.trans h.tape, k.output.trans h.output, Nat.le_trans h.size k.size, fun i hi' hc => (k.block i (Nat.lt_of_lt_of_le hi' h.size) hc).trans (h.block i hi' hc)⟩
theorem MidB.setC {base hi : Nat} {w w' : World} {g o : Nat} {u : Value} (h : MidB base hi w w') (h1 : base ≤ g) (h2 : g < hi) : MidB base hi w (w'.setCell ⟨g, o, none⟩ u) :=
  h.grown (grown_set w' g o u) (fun k hk => by cases hk; exact ⟨h1, h2⟩)
theorem MidB.below {base hi B : Nat} {w w' : World} (h : MidB base hi w w') (h1 : B ≤ base) (h2 : B ≤ w.heap.size) : Below B w w' :=
  ⟨h.os, h.tape, h.output, h.size, fun i hi' => h.block i (by omega) (.inl (by omega))⟩
theorem MidB.bl {base hi B : Nat} {w w' : World} {xs : List Value} (h : MidB base hi w w') (b : Bl w B xs) (hB : B < base ∨ hi ≤ B) : Bl w' B xs := by
  have e := h.block B b.lt hB
  exact ⟨Nat.lt_of_lt_of_le b.lt h.size, fun i x q => (World.cell?_of_block (w := w) (a := ⟨B, i, none⟩) e).trans (b.cs i x q), fun i q => (World.frozen?_of_block (w := w) e).trans (b.fz i q)⟩
/-- all blocks of a table lie below hi -/
def InH (hi : Nat) (v : Value) (T : List ET) : Prop := (∀ k, v.ownBlock = some k → k < hi) ∧ ∀ t ∈ T, (∀ k, t.u.ownBlock = some k → k < hi) ∧ ∀ k, t.v.ownBlock = some k → k < hi
theorem OwnT.inH {w : World} {base : Nat} {v : Value} {T : List ET} (h : OwnT w base v T) : InH w.heap.size v T :=
  ⟨fun k hk => (World.ownsRow.lt h.row k hk).2, fun t ht => ⟨fun k hk => ((h.lt t ht).1 k hk).2, fun k hk => ((h.lt t ht).2 k hk).2⟩⟩
set_option maxHeartbeats 4000000 in
theorem mkES_any (v : Value) (T : List ET) (W : List Nat) (k : Int) (base hi : Nat) (w : World) (h : OwnT w base v T) (hH : InH hi v T) (hW : (entT T).map wE = W) (hWs : W.sum ≤ 8000000) (hk0 : 0 ≤ k) (hk : k ≤ 32000000) :
    Calls Tryz.prog 86 #[v, .int .i64 k] w fun e w' => ∃ S, e = .returned (.int .i64 (k + (W.sum : Nat))) ∧ S.length = T.length ∧ MarkedW k W (entT S) T.length ∧ OwnT w' base v S ∧ MidB base hi w w' ∧ InH hi v S := by
  obtain ⟨a, c, rfl⟩ := h.lenV
  obtain ⟨hv0, hI0⟩ := hH
  obtain ⟨n, hn⟩ : ∃ n, n = T.length := ⟨_, rfl⟩
  rw [← hn] at h hv0 ⊢
  have HN := Lib.hid hn
  have HV0 := Lib.hid hv0
  have HI0 := Lib.hid hI0
  clear hv0 hI0
  have hnb : n ≤ 8000000 := by
    have := wE_all (entT T)
    rw [hW, entT_len, ← hn] at this
    omega
  have HW := Lib.hid hW
  have HH := Lib.hid h
  clear h hn hW
  go_enter Tryz.func86, Tryz.ntmps86
  go_wp2
  go_loopw [1, 5] (fun q i wr => ∃ (j : Nat) (S : List ET), j ≤ n ∧ i = .int .i64 j ∧ q = .int .i64 (k + ((W.take j).sum : Nat)) ∧ S.length = n ∧ MarkedW k W (entT S) j ∧ OwnT wr base (.slice a n c) S ∧ MidB base hi w wr ∧ Hid (∀ t ∈ S, (∀ k, t.u.ownBlock = some k → k < hi) ∧ ∀ k, t.v.ownBlock = some k → k < hi)) (fun _ i _ => n - (intOf i).toNat)
  case atStart => exact ⟨0, T, Nat.zero_le _, rfl, by simp, HN.out.symm, ⟨HW.out, fun i hi => by omega⟩, HH.out, MidB.refl _ _ _, HI0⟩
  case round =>
    obtain ⟨j, S, hj, rfl, rfl, hS, hM, hO, hB, hI⟩ := hrel
    by_cases hlt : j < n
    · have hltI : (j : Int) < (n : Int) := by omega
      obtain ⟨t, ht⟩ : ∃ t, S[j]? = some t := ⟨S[j]'(by rw [hS]; exact hlt), List.getElem?_eq_getElem _⟩
      have hrow := hO.row
      rw [hS] at hrow
      obtain ⟨g, rfl, c0, c1, c2, c3, c4, c5, c6⟩ := rowEl hrow hS j hlt t ht
      have hm := List.mem_of_getElem? ht
      have hIt := hI.out _ hm
      have hgh : g < hi := HV0.out g rfl
      obtain ⟨⟨pa, px, hu⟩, qa, qx, hv⟩ := hO.len t hm
      obtain ⟨⟨ea, en, epe, ep, epr, ec, ebw⟩, u, v'⟩ := t
      dsimp only at c0 c1 c2 c3 c4 c5 c6 hu hv hIt
      subst hu hv
      have HIT := Lib.hid hIt
      clear hIt
      have hbg : base ≤ g := (World.ownsRow.lt hrow g rfl).1
      have eE : (entT S).getD j e0 = ⟨ea, en, epe, ep, epr, ec, ebw⟩ := by simp [entT, List.getD, ht]
      have hw0 := wE_get hM.1 (j := j) (by rw [entT_len, hS]; exact hlt)
      rw [eE] at hw0
      have hwl := wE_le W (j + 1)
      simp only [wE] at hw0
      obtain ⟨r, hr⟩ : ∃ r : Int, r = k + ((W.take j).sum : Nat) := ⟨_, rfl⟩
      have hr0 : 0 ≤ r := by omega
      have hrb : r + 5 + ep.length + ec.length ≤ 40000001 := by omega
      have hr7 : r + 5 + ep.length + ec.length = k + ((W.take (j + 1)).sum : Nat) := by omega
      rw [← hr]
      have HR := Lib.hid hr
      have HR7 := Lib.hid hr7
      have HM := Lib.hid hM
      have HT := Lib.hid ht
      clear hr hr7 hM hw0 hwl eE
      have hw1 : IntKind.i64.wrap (r + 1) = r + 1 := wrap64_in _ (by omega) (by omega)
      have hw2 : IntKind.i64.wrap (r + 1 + 1) = r + 2 := by rw [show r + 1 + 1 = r + 2 by omega]; exact wrap64_in _ (by omega) (by omega)
      have hw3 : IntKind.i64.wrap (r + 2 + 1) = r + 3 := by rw [show r + 2 + 1 = r + 3 by omega]; exact wrap64_in _ (by omega) (by omega)
      have f0 := hrow.frozenAt (j * 7)
      have f1 := hrow.frozenAt (j * 7 + 1)
      have f2 := hrow.frozenAt (j * 7 + 2)
      have H1 : OwnT (wr.setCell ⟨g, j * 7, none⟩ (.int .i64 r)) base (.slice (some ⟨g, 0, none⟩) n c) (S.set j (⟨⟨r, en, epe, ep, epr, ec, ebw⟩, .slice pa ep.length px, .slice qa ec.length qx⟩ : ET)) := hO.setC hS ht 0 (.int .i64 r) (⟨⟨r, en, epe, ep, epr, ec, ebw⟩, .slice pa ep.length px, .slice qa ec.length qx⟩ : ET) (by omega) rfl rfl rfl rfl rfl
      have H2 := H1.setC (by rw [List.length_set]; exact hS) (List.getElem?_set_self (by rw [hS]; exact hlt) : (S.set j (⟨⟨r, en, epe, ep, epr, ec, ebw⟩, .slice pa ep.length px, .slice qa ec.length qx⟩ : ET))[j]? = some (⟨⟨r, en, epe, ep, epr, ec, ebw⟩, .slice pa ep.length px, .slice qa ec.length qx⟩ : ET)) 1 (.int .i64 (r + 1)) (⟨⟨r, r + 1, epe, ep, epr, ec, ebw⟩, .slice pa ep.length px, .slice qa ec.length qx⟩ : ET) (by omega) rfl rfl rfl rfl rfl
      rw [List.set_set] at H2
      have H3 := H2.setC (by rw [List.length_set]; exact hS) (List.getElem?_set_self (by rw [hS]; exact hlt) : (S.set j (⟨⟨r, r + 1, epe, ep, epr, ec, ebw⟩, .slice pa ep.length px, .slice qa ec.length qx⟩ : ET))[j]? = some (⟨⟨r, r + 1, epe, ep, epr, ec, ebw⟩, .slice pa ep.length px, .slice qa ec.length qx⟩ : ET)) 2 (.int .i64 (r + 2)) (⟨⟨r, r + 1, r + 2, ep, epr, ec, ebw⟩, .slice pa ep.length px, .slice qa ec.length qx⟩ : ET) (by omega) rfl rfl rfl rfl rfl
      rw [List.set_set] at H3
      have B3 := ((hB.setC (o := j * 7) (u := .int .i64 r) hbg hgh).setC (o := j * 7 + 1) (u := .int .i64 (r + 1)) hbg hgh).setC (o := j * 7 + 2) (u := .int .i64 (r + 2)) hbg hgh
      clear H1 H2
      have hbs : base ≤ wr.heap.size := Nat.le_trans hbg (Nat.le_of_lt (World.ownsRow.lt hrow g rfl).2)
      obtain ⟨X1, hX1⟩ : ∃ X1, X1 = ((wr.setCell ⟨g, j * 7, none⟩ (.int .i64 r)).setCell ⟨g, j * 7 + 1, none⟩ (.int .i64 (r + 1))).setCell ⟨g, j * 7 + 2, none⟩ (.int .i64 (r + 2)) := ⟨_, rfl⟩
      have hXs : wr.heap.size = X1.heap.size := by rw [hX1]; simp
      have hrow3 := H3.row
      rw [List.length_set, hS] at hrow3
      obtain ⟨g2, hg2, d0, d1, d2, d3, d4, d5, d6⟩ := rowEl hrow3 (by rw [List.length_set]; exact hS) j hlt _ (List.getElem?_set_self (by rw [hS]; exact hlt) : (S.set j (⟨⟨r, r + 1, r + 2, ep, epr, ec, ebw⟩, .slice pa ep.length px, .slice qa ec.length qx⟩ : ET))[j]? = some (⟨⟨r, r + 1, r + 2, ep, epr, ec, ebw⟩, .slice pa ep.length px, .slice qa ec.length qx⟩ : ET))
      injection hg2 with hg2
      injection hg2 with hg2
      subst hg2
      dsimp only at d0 d1 d2 d3 d4 d5 d6
      clear hrow3
      have HO := Lib.hid hO
      have HB := Lib.hid hB
      have HX := Lib.hid hX1
      have H3h := Lib.hid H3
      have B3h := Lib.hid B3
      have HRW := Lib.hid hrow
      clear hO hB hX1 H3 B3 hrow
      go_wp2_with fail
      clear c0 c1 c2 c3 c4 c5 c6 d0 d1 d2 d3 d4 d5 d6 f0 f1 f2
      have hX1 := HX.out
      have H3 := H3h.out
      have B3 := B3h.out
      rw [← hX1] at H3 B3 ⊢
      clear HX H3h B3h HO HB HRW hX1
      rw [hXs] at hbs
      have m3 := List.mem_of_getElem? (List.getElem?_set_self (by rw [hS]; exact hlt) : (S.set j (⟨⟨r, r + 1, r + 2, ep, epr, ec, ebw⟩, .slice pa ep.length px, .slice qa ec.length qx⟩ : ET))[j]? = some (⟨⟨r, r + 1, r + 2, ep, epr, ec, ebw⟩, .slice pa ep.length px, .slice qa ec.length qx⟩ : ET))
      refine (markB_any_I _ ep base (r + 3) X1 (H3.own _ m3).1 (by omega) (by omega)).mono ?_
      rintro e w1 ⟨rfl, ho, hg⟩
      have H4 := H3.setU (List.getElem?_set_self (by rw [hS]; exact hlt) : (S.set j (⟨⟨r, r + 1, r + 2, ep, epr, ec, ebw⟩, .slice pa ep.length px, .slice qa ec.length qx⟩ : ET))[j]? = some (⟨⟨r, r + 1, r + 2, ep, epr, ec, ebw⟩, .slice pa ep.length px, .slice qa ec.length qx⟩ : ET)) hg ho (by rw [imarks_len])
      rw [List.set_set] at H4
      dsimp only at H4
      have B4 := B3.grown hg (fun k hk => ⟨((H3.lt _ m3).1 k hk).1, HIT.out.1 k hk⟩)
      have hb4 : base ≤ w1.heap.size := Nat.le_trans hbs hg.size
      clear hg ho H3 B3 m3 hbs hXs
      obtain ⟨r4, h4⟩ : ∃ r4, r4 = r + 3 + (ep.length : Int) := ⟨_, rfl⟩
      rw [← h4]
      have H4r := Lib.hid h4
      have hr4 : 0 ≤ r4 := by omega
      have hr4b : r4 + 2 + ec.length ≤ 40000001 := by omega
      clear h4
      have hrow4 := H4.row
      rw [List.length_set, hS] at hrow4
      obtain ⟨g2, hg2, d0, d1, d2, d3, d4, d5, d6⟩ := rowEl hrow4 (by rw [List.length_set]; exact hS) j hlt _ (List.getElem?_set_self (by rw [hS]; exact hlt) : (S.set j (⟨⟨r, r + 1, r + 2, (imarks (r + 3) ep.length), epr, ec, ebw⟩, .slice pa ep.length px, .slice qa ec.length qx⟩ : ET))[j]? = some (⟨⟨r, r + 1, r + 2, (imarks (r + 3) ep.length), epr, ec, ebw⟩, .slice pa ep.length px, .slice qa ec.length qx⟩ : ET))
      injection hg2 with hg2
      injection hg2 with hg2
      subst hg2
      dsimp only at d0 d1 d2 d3 d4 d5 d6
      have f4 := hrow4.frozenAt (j * 7 + 4)
      have H5 := H4.setC (by rw [List.length_set]; exact hS) (List.getElem?_set_self (by rw [hS]; exact hlt) : (S.set j (⟨⟨r, r + 1, r + 2, (imarks (r + 3) ep.length), epr, ec, ebw⟩, .slice pa ep.length px, .slice qa ec.length qx⟩ : ET))[j]? = some (⟨⟨r, r + 1, r + 2, (imarks (r + 3) ep.length), epr, ec, ebw⟩, .slice pa ep.length px, .slice qa ec.length qx⟩ : ET)) 4 (.int .i64 r4) (⟨⟨r, r + 1, r + 2, (imarks (r + 3) ep.length), r4, ec, ebw⟩, .slice pa ep.length px, .slice qa ec.length qx⟩ : ET) (by omega) rfl rfl rfl rfl rfl
      rw [List.set_set] at H5
      have B5 := B4.setC (o := j * 7 + 4) (u := .int .i64 r4) hbg hgh
      have hrow5 := H5.row
      rw [List.length_set, hS] at hrow5
      obtain ⟨g2, hg2, b0, b1, b2, b3, b4, b5, b6⟩ := rowEl hrow5 (by rw [List.length_set]; exact hS) j hlt _ (List.getElem?_set_self (by rw [hS]; exact hlt) : (S.set j (⟨⟨r, r + 1, r + 2, (imarks (r + 3) ep.length), r4, ec, ebw⟩, .slice pa ep.length px, .slice qa ec.length qx⟩ : ET))[j]? = some (⟨⟨r, r + 1, r + 2, (imarks (r + 3) ep.length), r4, ec, ebw⟩, .slice pa ep.length px, .slice qa ec.length qx⟩ : ET))
      injection hg2 with hg2
      injection hg2 with hg2
      subst hg2
      dsimp only at b0 b1 b2 b3 b4 b5 b6
      have hw4 : IntKind.i64.wrap (r4 + 1) = r4 + 1 := wrap64_in _ (by omega) (by omega)
      obtain ⟨X2, hX2⟩ : ∃ X2, X2 = w1.setCell ⟨g, j * 7 + 4, none⟩ (.int .i64 r4) := ⟨_, rfl⟩
      have hXs : w1.heap.size = X2.heap.size := by rw [hX2]; simp
      have HX := Lib.hid hX2
      have H5h := Lib.hid H5
      have B5h := Lib.hid B5
      clear hX2 H5 B5 hrow4 hrow5 H4 B4
      go_wp2_with fail
      clear d0 d1 d2 d3 d4 d5 d6 b0 b1 b2 b3 b4 b5 b6 f4
      have hX2 := HX.out
      have H5 := H5h.out
      have B5 := B5h.out
      rw [← hX2] at H5 B5 ⊢
      clear HX H5h B5h hX2
      rw [hXs] at hb4
      have m5 := List.mem_of_getElem? (List.getElem?_set_self (by rw [hS]; exact hlt) : (S.set j (⟨⟨r, r + 1, r + 2, (imarks (r + 3) ep.length), r4, ec, ebw⟩, .slice pa ep.length px, .slice qa ec.length qx⟩ : ET))[j]? = some (⟨⟨r, r + 1, r + 2, (imarks (r + 3) ep.length), r4, ec, ebw⟩, .slice pa ep.length px, .slice qa ec.length qx⟩ : ET))
      refine (markB_any_I _ ec base (r4 + 1) X2 (H5.own _ m5).2 (by omega) (by omega)).mono ?_
      rintro e w2 ⟨rfl, ho, hg⟩
      have H6 := H5.setV (List.getElem?_set_self (by rw [hS]; exact hlt) : (S.set j (⟨⟨r, r + 1, r + 2, (imarks (r + 3) ep.length), r4, ec, ebw⟩, .slice pa ep.length px, .slice qa ec.length qx⟩ : ET))[j]? = some (⟨⟨r, r + 1, r + 2, (imarks (r + 3) ep.length), r4, ec, ebw⟩, .slice pa ep.length px, .slice qa ec.length qx⟩ : ET)) hg ho (by rw [imarks_len])
      rw [List.set_set] at H6
      dsimp only at H6
      have B6 := B5.grown hg (fun k hk => ⟨((H5.lt _ m5).2 k hk).1, HIT.out.2 k hk⟩)
      clear hg ho H5 B5 m5 hb4 hXs
      obtain ⟨r6, h6⟩ : ∃ r6, r6 = r4 + 1 + (ec.length : Int) := ⟨_, rfl⟩
      rw [← h6]
      have H6r := Lib.hid h6
      have hr6 : 0 ≤ r6 := by omega
      have hr6b : r6 + 1 ≤ 40000001 := by omega
      clear h6
      have hrow6 := H6.row
      rw [List.length_set, hS] at hrow6
      obtain ⟨g2, hg2, d0, d1, d2, d3, d4, d5, d6⟩ := rowEl hrow6 (by rw [List.length_set]; exact hS) j hlt _ (List.getElem?_set_self (by rw [hS]; exact hlt) : (S.set j (⟨⟨r, r + 1, r + 2, (imarks (r + 3) ep.length), r4, (imarks (r4 + 1) ec.length), ebw⟩, .slice pa ep.length px, .slice qa ec.length qx⟩ : ET))[j]? = some (⟨⟨r, r + 1, r + 2, (imarks (r + 3) ep.length), r4, (imarks (r4 + 1) ec.length), ebw⟩, .slice pa ep.length px, .slice qa ec.length qx⟩ : ET))
      injection hg2 with hg2
      injection hg2 with hg2
      subst hg2
      dsimp only at d0 d1 d2 d3 d4 d5 d6
      have f6 := hrow6.frozenAt (j * 7 + 6)
      have H7 := H6.setC (by rw [List.length_set]; exact hS) (List.getElem?_set_self (by rw [hS]; exact hlt) : (S.set j (⟨⟨r, r + 1, r + 2, (imarks (r + 3) ep.length), r4, (imarks (r4 + 1) ec.length), ebw⟩, .slice pa ep.length px, .slice qa ec.length qx⟩ : ET))[j]? = some (⟨⟨r, r + 1, r + 2, (imarks (r + 3) ep.length), r4, (imarks (r4 + 1) ec.length), ebw⟩, .slice pa ep.length px, .slice qa ec.length qx⟩ : ET)) 6 (.int .i64 r6) (⟨⟨r, r + 1, r + 2, (imarks (r + 3) ep.length), r4, (imarks (r4 + 1) ec.length), r6⟩, .slice pa ep.length px, .slice qa ec.length qx⟩ : ET) (by omega) rfl rfl rfl rfl rfl
      rw [List.set_set] at H7
      have B7 := B6.setC (o := j * 7 + 6) (u := .int .i64 r6) hbg hgh
      have hw6 : IntKind.i64.wrap (r6 + 1) = r6 + 1 := wrap64_in _ (by omega) (by omega)
      have H7h := Lib.hid H7
      have B7h := Lib.hid B7
      have HS := Lib.hid hS
      clear H7 B7 hrow6 H6 B6 hS
      go_wp2
      go_roundw
      case rel =>
        have q1 := HR.out
        have q7 := HR7.out
        have q4 := H4r.out
        have q6 := H6r.out
        refine ⟨j + 1, S.set j (⟨⟨r, r + 1, r + 2, (imarks (r + 3) ep.length), r4, (imarks (r4 + 1) ec.length), r6⟩, .slice pa ep.length px, .slice qa ec.length qx⟩ : ET), by omega, by go_num, ?_, by rw [List.length_set]; exact HS.out, markedW_next HM.out HT.out ?_, H7h.out, B7h.out, Lib.hid fun s hs => ?_⟩
        · congr 1; omega
        · rw [← q1]
          dsimp only
          rw [markE, q4, show r + 3 + (ep.length : Int) + 1 = r + 3 + ep.length + 1 by omega, q6, q4]
        · rcases set_mem HT.out hs with rfl | ⟨i, -, e⟩
          · exact HIT.out
          · exact hI.out s (List.mem_of_getElem? e)
      case measure => simp [intOf]; omega
    · have hjn : j = n := by omega
      subst hjn
      have HM := Lib.hid hM
      have HO := Lib.hid hO
      clear hM hO
      have e : (W.take j).sum = W.sum := by
        rw [List.take_of_length_le]
        rw [← HM.out.1, List.length_map, entT_len, hS]
        exact Nat.le_refl _
      rw [e]
      clear e
      go_wp2
      go_ret
      exact ⟨S, rfl, hS, HM.out, HO.out, hB, HV0.out, hI.out⟩
set_option maxHeartbeats 4000000 in
theorem hdES_any (v : Value) (L : List Ent) (W : List Nat) (k : Int) (w : World) (h : RdE w v L) (hM : MarkedW k W L L.length) (hWs : W.sum ≤ 8000000) (hk0 : 0 ≤ k) (hk : k ≤ 32000000) :
    Calls Tryz.prog 119 #[v, .int .i64 k] w fun e w' => e = .returned (.int .i64 (k + (W.sum : Nat))) ∧ Below w.heap.size w w' := by
  obtain ⟨a, c, rfl, hc⟩ := h.el
  obtain ⟨n, hn⟩ : ∃ n, n = L.length := ⟨_, rfl⟩
  rw [← hn] at hc
  rw [← hn]
  have HN := Lib.hid hn
  have hnb : n ≤ 8000000 := by
    have := wE_all L
    rw [hM.1, ← hn] at this
    omega
  clear h hn
  go_enter Tryz.func119, Tryz.ntmps119
  go_wp2
  go_loopw [1, 5] (fun q i wr => ∃ j : Nat, j ≤ n ∧ i = .int .i64 j ∧ q = .int .i64 (k + ((W.take j).sum : Nat)) ∧ Below w.heap.size w wr) (fun _ i _ => n - (intOf i).toNat)
  case atStart => exact ⟨0, Nat.zero_le _, rfl, by simp, Below.refl _ _⟩
  case round =>
    obtain ⟨j, hj, rfl, rfl, hB⟩ := hrel
    by_cases hlt : j < n
    · have hltI : (j : Int) < (n : Int) := by omega
      obtain ⟨b, o, rfl, hE⟩ := hc j hlt
      have hjL : j < L.length := by rw [← HN.out]; exact hlt
      have hmk := hM.2 j hjL hjL
      obtain ⟨E, hx⟩ : ∃ E, L.getD j e0 = E := ⟨_, rfl⟩
      have hw0 := wE_get hM.1 hjL
      have hwl := wE_le W (j + 1)
      rw [hx] at hE hmk hw0
      simp only [wE] at hw0
      obtain ⟨pv, cv, hp, hq, g0, g1, g2, g3, g4, g5, g6⟩ := hE.keep hB
      obtain ⟨r, hr⟩ : ∃ r : Int, r = k + ((W.take j).sum : Nat) := ⟨_, rfl⟩
      rw [← hr] at hmk
      have hr0 : 0 ≤ r := by omega
      have hrb : r + 5 + E.p.length + E.c.length ≤ 40000001 := by omega
      have hr7 : r + 5 + E.p.length + E.c.length = k + ((W.take (j + 1)).sum : Nat) := by omega
      rw [← hr]
      obtain ⟨P, hP⟩ : ∃ P, P = E.p.length := ⟨_, rfl⟩
      obtain ⟨C, hC⟩ : ∃ C, C = E.c.length := ⟨_, rfl⟩
      rw [← hP, ← hC] at hmk hrb hr7
      rw [hmk] at hp hq g0 g1 g2 g4 g6
      simp only [markE] at hp hq g0 g1 g2 g4 g6
      have HR7 := Lib.hid hr7
      have HMM := Lib.hid hM
      have HC := Lib.hid hc
      clear hr hr7 hM hw0 hwl hE hx hmk hc hP hC
      have hw1 : IntKind.i64.wrap (r + 1) = r + 1 := wrap64_in _ (by omega) (by omega)
      have hw2 : IntKind.i64.wrap (r + 1 + 1) = r + 2 := by rw [show r + 1 + 1 = r + 2 by omega]; exact wrap64_in _ (by omega) (by omega)
      have hw3 : IntKind.i64.wrap (r + 2 + 1) = r + 3 := by rw [show r + 2 + 1 = r + 3 by omega]; exact wrap64_in _ (by omega) (by omega)
      go_wp2_with fail
      refine (heldB_any_I pv (r + 3) P wr hp (by omega) (by omega)).mono ?_
      rintro e w1 ⟨rfl, hb⟩
      replace hq := hq.keep hb
      have hB1 := below_step hB hb
      replace g4 := cell_keep hb (World.block_lt_of_cell? _ _ g4) g4
      replace g5 := cell_keep hb (World.block_lt_of_cell? _ _ g5) g5
      replace g6 := cell_keep hb (World.block_lt_of_cell? _ _ g6) g6
      clear hb hB hp g0 g1 g2 g3
      obtain ⟨r4, h4⟩ : ∃ r4, r4 = r + 3 + (P : Int) := ⟨_, rfl⟩
      rw [← h4] at hq g4 g6 ⊢
      have H4 := Lib.hid h4
      have hr4 : 0 ≤ r4 := by omega
      have hr4n : ¬ r4 < 0 := by omega
      have hr4b : r4 + 2 + C ≤ 40000001 := by omega
      have hw4 : IntKind.i64.wrap (r4 + 1) = r4 + 1 := wrap64_in _ (by omega) (by omega)
      clear h4
      go_wp2_with fail
      refine (heldB_any_I cv (r4 + 1) C w1 hq (by omega) (by omega)).mono ?_
      rintro e w2 ⟨rfl, hb⟩
      have hB2 := below_step hB1 hb
      replace g6 := cell_keep hb (World.block_lt_of_cell? _ _ g6) g6
      clear hb hB1 hq g4 g5
      obtain ⟨r6, h6⟩ : ∃ r6, r6 = r4 + 1 + (C : Int) := ⟨_, rfl⟩
      rw [← h6] at g6 ⊢
      have H6 := Lib.hid h6
      have hr6 : 0 ≤ r6 := by omega
      have hr6n : ¬ r6 < 0 := by omega
      have hr6b : r6 + 1 ≤ 40000001 := by omega
      have hw6 : IntKind.i64.wrap (r6 + 1) = r6 + 1 := wrap64_in _ (by omega) (by omega)
      clear h6
      go_wp2
      go_roundw
      case rel =>
        have q7 := HR7.out
        have q4 := H4.out
        have q6 := H6.out
        refine ⟨j + 1, by omega, by go_num, ?_, hB2⟩
        congr 1; omega
      case measure => simp [intOf]; omega
    · have hjn : j = n := by omega
      subst hjn
      have HM := Lib.hid hM
      clear hM hc
      have e : (W.take j).sum = W.sum := by
        rw [List.take_of_length_le]
        rw [← HM.out.1, List.length_map, HN.out]
        exact Nat.le_refl _
      rw [e]
      clear e
      go_wp2
      go_ret
      exact ⟨rfl, hB⟩
theorem mkRb_is (v : Value) (T : List ET) (W : List Nat) (base hi : Nat) (w : World) (h : OwnT w base v T) (hH : InH hi v T) (hW : (entT T).map wE = W) (hWs : W.sum ≤ 8000000) :
    Calls Tryz.prog 56 #[.agg #[v], .int .i64 1] w fun e w' => ∃ S, e = .returned (.int .i64 (1 + (W.sum : Nat))) ∧ S.length = T.length ∧ MarkedW 1 W (entT S) T.length ∧ OwnT w' base v S ∧ MidB base hi w w' := by
  obtain ⟨bA, B0, z⟩ := one w [v] 32
  have h1 := h.keep B0
  have B1 : MidB base hi w (w.alloc (.cells #[v] 32)) := (MidB.refl base hi w).grown (grown_below B0 none) (fun k hk => by cases hk)
  clear bA z
  go_enter Tryz.func56, Tryz.ntmps56
  go_wp2_with fail
  refine (mkES_any v T W 1 base hi _ h1 hH hW hWs (by omega) (by omega)).mono ?_
  rintro e w1 ⟨S, rfl, hl, hM, hO, hB, -⟩
  have B2 := B1.trans hB
  have HM := Lib.hid hM
  clear hM hB
  go_wp2
  go_ret
  exact ⟨S, rfl, hl, HM.out, hO, B2⟩
theorem hdRb_is (v : Value) (L : List Ent) (W : List Nat) (w : World) (h : RdE w v L) (hM : MarkedW 1 W L L.length) (hWs : W.sum ≤ 8000000) :
    Calls Tryz.prog 58 #[.agg #[v], .int .i64 1] w fun e w' => e = .returned (.int .i64 (1 + (W.sum : Nat))) ∧ Below w.heap.size w w' := by
  obtain ⟨bA, B0, z⟩ := one w [v] 32
  have h1 := h.keep B0
  obtain ⟨a, c, rfl⟩ := h.len
  have HM := Lib.hid hM
  clear bA z hM
  go_enter Tryz.func58, Tryz.ntmps58
  go_wp2_with fail
  refine (hdES_any _ L W 1 _ h1 HM.out hWs (by omega) (by omega)).mono ?_
  rintro e w1 ⟨rfl, hB⟩
  have B2 := below_step B0 hB
  have hn : ¬ (1 : Int) + (W.sum : Nat) < 0 := by omega
  clear hB
  go_wp2
  go_ret
  exact ⟨rfl, B2⟩
end Go.Proofs.YtaiffofmhfflkaaGreat
namespace Go.Proofs.YtaiffofmhfflkaaGreat
open Go.ChangeShapes Go.WideShapes Go.ChangeAt Go.RowKit Go.BigFrame Go.Joins
set_option linter.unusedVariables false
set_option maxRecDepth 100000
set_option linter.unusedSimpArgs false
set_option maxRecDepth 100000

theorem OwnI.softT {base hi b : Nat} {w w' : World} {v : Value} {l : List Int} (h : OwnI w b v l) (s : Soft base hi w w') (hv : hi ≤ b) : OwnI w' b v l := by
  unfold OwnI at h ⊢
  refine ⟨h.1, ?_⟩
  rcases h.2 with hn | ⟨g, cap, cur, e, hb, hg, rest⟩
  · exact .inl hn
  · have hlt : g < w.heap.size := (World.ownsRow.lt h g (by rw [e]; rfl)).2
    exact .inr ⟨g, cap, cur, e, hb, (s.block g hlt (.inr (by omega))).trans hg, rest⟩
theorem OwnT.soft {base hi b : Nat} {w w' : World} {v : Value} {T : List ET} (h : OwnT w b v T) (s : Soft base hi w w') (hv : hi ≤ b) : OwnT w' b v T := by
  refine ⟨⟨h.row.1, ?_⟩, fun t ht => ⟨(h.own t ht).1.softT s hv, (h.own t ht).2.softT s hv⟩, h.len, h.sep, h.apart⟩
  rcases h.row.2 with hn | ⟨g, cap, cur, e, hb, hg, rest⟩
  · exact .inl hn
  · have hlt : g < w.heap.size := (World.ownsRow.lt h.row g (by rw [e]; rfl)).2
    exact .inr ⟨g, cap, cur, e, hb, (s.block g hlt (.inr (by omega))).trans hg, rest⟩
theorem blSoftT {base hi B : Nat} {w w' : World} {xs : List Value} (h : Bl w B xs) (s : Soft base hi w w') (hB : hi ≤ B) : Bl w' B xs :=
  ⟨Nat.lt_of_lt_of_le h.lt s.size, fun i x e => (World.cell?_of_block (s.block B h.lt (.inr hB))).trans (h.cs i x e), fun i hi' => (World.frozen?_of_block (s.block B h.lt (.inr hB))).trans (h.fz i hi')⟩
theorem dropP_sub {L : List Ent} {pe : Int} {E : Ent} (h : E ∈ dropP L pe) : E ∈ L := by
  unfold dropP at h
  split at h
  · exact (List.mem_filter.1 h).1
  · simp at h
theorem bd_mem {L : List Ent} (h : ∀ i, i < L.length → BdE (L.getD i e0)) {E : Ent} (hE : E ∈ L) : BdE E := by
  obtain ⟨i, hi, e⟩ := List.mem_iff_getElem.1 hE
  have := h i hi
  rw [List.getD_eq_getElem?_getD, List.getElem?_eq_getElem hi] at this
  rw [← e]
  exact this
theorem entT_mem {T : List ET} {t : ET} (h : t ∈ T) : t.E ∈ entT T := List.mem_map.2 ⟨t, h, rfl⟩
theorem lens_of {L : List Ent} (h : L.length + wtE L ≤ 1048576) : ∀ j, j < L.length → (L.getD j e0).p.length ≤ 1048576 ∧ (L.getD j e0).c.length ≤ 1048576 := fun j hj => by
  have := wt_at hj
  omega
theorem wE_filter (f : Ent → Bool) : ∀ L : List Ent, ((L.filter f).map wE).sum ≤ (L.map wE).sum
  | [] => by simp
  | E :: L => by
    have ih := wE_filter f L
    rw [List.filter_cons, List.map_cons, List.sum_cons]
    split
    · rw [List.map_cons, List.sum_cons]; omega
    · omega
theorem wE_drop {L : List Ent} (h : L.length + wtE L ≤ 1048576) (pe : Int) : ((dropP L pe).map wE).sum ≤ 8000000 := by
  have a := wE_all L
  unfold dropP
  split
  · have := wE_filter (fun E => !(E.pe == pe)) L
    omega
  · simp
theorem marked_bd {k : Int} {W : List Nat} {S : List ET} {n : Nat} (h : MarkedW k W (entT S) n) (hn : n = S.length) (hk0 : 0 ≤ k) (hk : k ≤ 32000000) (hW : W.sum ≤ 8000000) : ∀ t ∈ S, BdE t.E := by
  intro t ht
  obtain ⟨i, hi, e⟩ := List.mem_iff_getElem.1 ht
  have hl : i < (entT S).length := by rw [entT_len]; exact hi
  have q := h.2 i (by omega) hl
  have w1 := wE_get h.1 hl
  have w2 := wE_le W (i + 1)
  rw [entT_get hi, e] at q w1
  simp only [wE] at w1
  rw [q]
  unfold markE BdE
  exact ⟨imarks_bd _ _ (by omega) (by omega), imarks_bd _ _ (by omega) (by omega)⟩
end Go.Proofs.YtaiffofmhfflkaaGreat
namespace Go.Proofs.YtaiffofmhfflkaaGreat
open Go.ChangeShapes Go.WideShapes Go.ChangeAt Go.RowKit Go.BigFrame Go.Joins
set_option linter.unusedVariables false
set_option maxRecDepth 100000
set_option linter.unusedSimpArgs false
set_option maxRecDepth 100000

/-- what RibPrefixes answers -/
def ansP (L : List Ent) : List (Int × Int) := if ribB L = true then kp (pfx L) L.length else []
theorem ansP_no {L : List Ent} (h : ribB L = false) : ansP L = [] := by simp [ansP, h]
theorem ansP_yes {L : List Ent} (h : ribB L = true) : ansP L = kp (pfx L) L.length := by simp [ansP, h]
theorem ribB_len {L : List Ent} (h : ribB L = true) : L.length ≤ 60 := by
  unfold ribB at h
  simp at h
  omega
theorem take_pfx {L : List Ent} {k : Nat} {E : Ent} (h : k < L.length) (hx : L.getD k e0 = E) : (pfx L).take (k + 1) = (pfx L).take k ++ [(E.a, E.n)] := by
  have hl : k < (pfx L).length := by rw [pfx_len]; exact h
  have e := pfx_get L k
  rw [hx] at e
  rw [List.take_add_one, List.getElem?_eq_getElem hl]
  simp only [List.getD_eq_getElem?_getD, List.getElem?_eq_getElem hl, Option.getD_some] at e
  simp [e]
end Go.Proofs.YtaiffofmhfflkaaGreat
