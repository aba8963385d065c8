/-
  Tables without some of their entries, of the model. Conditions: those in each contract.
-/
import Derived.Test.YtaiffofmhfflkaaGreatED
namespace Go.Proofs.YtaiffofmhfflkaaGreat
open Go.ChangeShapes Go.WideShapes Go.ChangeAt Go.RowKit Go.BigFrame Go.Joins
set_option linter.unusedVariables false
set_option maxRecDepth 100000
set_option linter.unusedSimpArgs false
set_option maxRecDepth 100000

/-- a row of entries reads as them where their slices do -/
theorem row_rd {w : World} {base : Nat} {v : Value} {T : List ET} (h : w.ownsRow base EI 7 v T.length (flatT T)) (hr : ∀ t ∈ T, RdI w t.u t.E.p ∧ RdI w t.v t.E.c) : RdE w v (entT T) := by
  have hrow := h
  rcases h.2 with ⟨rfl, hn⟩ | ⟨g, cap, cur, rfl, hb, hg, hnc, hcm, hcs, htake⟩
  · have hT : T = [] := List.eq_nil_of_length_eq_zero hn
    subst hT
    exact RdE.nil w
  · rw [← entT_len]
    refine ⟨by rw [entT_len]; unfold maxLen at hcm; omega, ?_⟩
    by_cases hz : T.length = 0
    · exact .inl ⟨some ⟨g, 0, none⟩, cap, by rw [entT_len, hz], List.eq_nil_of_length_eq_zero (by rw [entT_len, hz]), fun h => by cases h⟩
    · refine .inr ⟨g, 0, cap, rfl, by rw [entT_len]; omega, fun i hi => ?_⟩
      rw [entT_len] at hi
      have hm : T[i] ∈ T := List.getElem_mem hi
      rw [entT_get hi]
      have hc : ∀ j, j < 7 → w.cell? ⟨g, 0 + i * 7 + j, none⟩ = (cellsT T[i])[j]? := fun j hj => by
        rw [Nat.zero_add, hrow.cellAt (i * 7 + j) (by omega), flatT_get T i j hi hj]
      exact ⟨T[i].u, T[i].v, (hr _ hm).1, (hr _ hm).2, hc 0 (by omega), hc 1 (by omega), hc 2 (by omega), hc 3 (by omega), hc 4 (by omega), hc 5 (by omega), hc 6 (by omega)⟩
theorem filt_yes {L : List Ent} {T : List ET} {k : Nat} {t : ET} {f : Ent → Bool} (h : entT T = (L.take k).filter f) (hk : k < L.length) (hx : L.getD k e0 = t.E) (ht : f t.E = true) : entT (T ++ [t]) = (L.take (k + 1)).filter f := by
  have hg : L[k] = t.E := by simpa [List.getD, hk] using hx
  rw [entT_append, h, List.take_add_one, List.getElem?_eq_getElem hk, hg, List.filter_append]
  simp [entT, ht]
theorem filt_no {L : List Ent} {T : List ET} {k : Nat} {E : Ent} {f : Ent → Bool} (h : entT T = (L.take k).filter f) (hk : k < L.length) (hx : L.getD k e0 = E) (ht : f E = false) : entT T = (L.take (k + 1)).filter f := by
  have hg : L[k] = E := by simpa [List.getD, hk] using hx
  rw [h, List.take_add_one, List.getElem?_eq_getElem hk, hg, List.filter_append]
  simp [ht]
theorem row_slice {w : World} {base : Nat} {v : Value} {n : Nat} {xs : List Value} (h : w.ownsRow base EI 7 v n xs) : ∃ a c, v = .slice a n c := by
  rcases h.2 with ⟨hv, hn⟩ | ⟨g, cap, cur, hv, _⟩
  · exact ⟨none, 0, by rw [hv, hn]⟩
  · exact ⟨_, cap, hv⟩
/-- a block holds these cells, and what lay in w lies there -/
def KpA (w : World) (A : Nat) (xs : List Value) (w' : World) : Prop := Bl w' A xs ∧ Below w.heap.size w w'
theorem KpA.next {w w' w2 : World} {A : Nat} {xs : List Value} (h : KpA w A xs w') (hb : Below w'.heap.size w' w2) : KpA w A xs w2 := ⟨h.1.keep hb, below_step h.2 hb⟩
theorem rowK {w w' : World} {base n : Nat} {v : Value} {xs : List Value} (h : w.ownsRow base EI 7 v n xs) (hb : Below w.heap.size w w') : w'.ownsRow base EI 7 v n xs :=
  World.ownsRow.kept (row := none) h ⟨hb.os, hb.tape, hb.output, hb.size, fun k hk _ => hb.block k hk⟩ (by cases v.ownBlock <;> simp)
theorem rowFar {w : World} {base n B o : Nat} {v u : Value} {xs : List Value} (h : w.ownsRow base EI 7 v n xs) (hB : B < base) : (w.setCell ⟨B, o, none⟩ u).ownsRow base EI 7 v n xs :=
  World.ownsRow.kept h (grown_set w B o u) (by
    cases hv : v.ownBlock with
    | none => exact .inl rfl
    | some k => exact .inr (by have := (World.ownsRow.lt h k hv).1; intro e; cases e; omega))
set_option maxHeartbeats 2000000 in
theorem sdp_any (v : Value) (L : List Ent) (pe : Int) (w : World) (h : RdE w v L) (hn1 : L.length ≤ 1048576) :
    Calls Tryz.prog 110 #[.agg #[v], .int .i64 pe] w fun e w' => ∃ u, e = .returned (.agg #[u]) ∧ RdE w' u (L.filter (fun E => !(E.pe == pe))) ∧ Below w.heap.size w w' := by
  obtain ⟨a, c, rfl, hc⟩ := h.el
  have hlen := hn1
  obtain ⟨n, hn⟩ : ∃ n, n = L.length := ⟨_, rfl⟩
  rw [← hn] at hc hlen
  rw [← hn]
  have HN := Lib.hid hn
  clear h hn
  obtain ⟨bA, bR, bO, B0, z⟩ := three w [.slice a n c] [.slice none 0 0] [.slice none 0 0] 32 32 32
  have a0 := bA.c 0 rfl
  go_enter Tryz.func110, Tryz.ntmps110
  go_wp2
  clear a0
  obtain ⟨W1, hW⟩ : ∃ W1, W1 = ((w.alloc (.cells #[.slice a n c] 32)).alloc (.cells #[.slice none 0 0] 32)).alloc (.cells #[.slice none 0 0] 32) := ⟨_, rfl⟩
  rw [← hW] at bA bR bO B0 z ⊢
  obtain ⟨A, hA⟩ : ∃ A, A = w.heap.size := ⟨_, rfl⟩
  obtain ⟨R, hR⟩ : ∃ R, R = w.heap.size + 1 := ⟨_, rfl⟩
  obtain ⟨O, hO⟩ : ∃ O, O = w.heap.size + 1 + 1 := ⟨_, rfl⟩
  rw [← hA] at bA
  rw [← hR] at bR
  rw [← hO] at bO
  try rw [← hO]
  try rw [← hR]
  try rw [← hA]
  have hwA : w.heap.size ≤ A := by omega
  have hwR : w.heap.size ≤ R := by omega
  have hwO : w.heap.size ≤ O := by omega
  have hAO : A ≠ O := by omega
  have hRO : R ≠ O := by omega
  have hAR : A ≠ R := by omega
  have hAW : A < W1.heap.size := by rw [z]; omega
  have hRW : R < W1.heap.size := by rw [z]; omega
  have hOW : O < W1.heap.size := by rw [z]; omega
  have hwW : w.heap.size ≤ W1.heap.size := B0.size
  clear hA hR hO hW z
  go_loopw [6] (fun q wr => ∃ k : Nat, k ≤ n ∧ q = .int .i64 k ∧ ∃ (v2 : Value) (T : List ET), wr.ownsRow W1.heap.size EI 7 v2 T.length (flatT T) ∧ (∀ t ∈ T, RdI w t.u t.E.p ∧ RdI w t.v t.E.c) ∧ entT T = (L.take k).filter (fun E => !(E.pe == pe)) ∧ Bl wr O [v2] ∧ Bl wr R [.slice none 0 0] ∧ Bl wr A [.slice a n c] ∧ Below w.heap.size w wr ∧ W1.heap.size ≤ wr.heap.size) (fun q _ => n - (intOf q).toNat)
  case atStart => exact ⟨0, Nat.zero_le _, rfl, _, [], World.ownsRow_nil _ _ _ _, by simp, rfl, bO, bR, bA, B0, Nat.le_refl _⟩
  case round =>
    obtain ⟨k, hk, rfl, v2, T, hT, hTR, hTE, bO1, bR1, bA1, hB, hsz⟩ := hrel
    have r0 := bA1.c 0 rfl
    by_cases hlt : k < n
    · have hltI : (k : Int) < (n : Int) := by omega
      obtain ⟨b, o, rfl, hE⟩ := hc k hlt
      obtain ⟨E, hx⟩ : ∃ E, L.getD k e0 = E := ⟨_, rfl⟩
      rw [hx] at hE
      obtain ⟨pv, cv, hp, hq, G0, G1, G2, G3, G4, G5, G6⟩ := hE
      obtain ⟨pa, px, rfl⟩ := hp.len
      obtain ⟨qa, qx, rfl⟩ := hq.len
      have g0 := over_cell hB (World.block_lt_of_cell? _ _ G0) G0
      have g1 := over_cell hB (World.block_lt_of_cell? _ _ G1) G1
      have g2 := over_cell hB (World.block_lt_of_cell? _ _ G2) G2
      have g3 := over_cell hB (World.block_lt_of_cell? _ _ G3) G3
      have g4 := over_cell hB (World.block_lt_of_cell? _ _ G4) G4
      have g5 := over_cell hB (World.block_lt_of_cell? _ _ G5) G5
      have g6 := over_cell hB (World.block_lt_of_cell? _ _ G6) G6
      have HL : Hid (T.length + 1 ≤ 4294967296) := Lib.hid (by
        have e := congrArg List.length hTE
        have e2 := List.length_filter_le (fun E => !(E.pe == pe)) (L.take k)
        rw [entT_len] at e
        rw [List.length_take] at e2
        have e3 := HN.out
        omega)
      by_cases hpe : E.pe = pe
      · have HX : Hid (entT T = (L.take (k + 1)).filter (fun E => !(E.pe == pe))) := Lib.hid (filt_no hTE (by rw [← HN.out]; exact hlt) hx (by simp [hpe]))
        have HC := Lib.hid hc
        rw [hpe] at g2
        clear hx hc hTE hpe
        go_wp2
        go_roundw
        case rel => exact ⟨k + 1, by omega, by go_num, v2, T, hT, hTR, HX.out, bO1, bR1, bA1, hB, hsz⟩
        case measure => simp [intOf]; omega
      · have HTE : Hid (∀ t : ET, t.E = E → entT (T ++ [t]) = (L.take (k + 1)).filter (fun E => !(E.pe == pe))) := Lib.hid fun t ht => filt_yes hTE (by rw [← HN.out]; exact hlt) (by rw [hx, ht]) (by simp [ht, hpe])
        have HC := Lib.hid hc
        have hfb : (E.pe == pe) = false := by simp [hpe]
        clear hx hc hTE hpe
        go_wp2_with fail
        refine wp_region_held_drew (S := fun w' => Bl w' A [.slice (some ⟨b, o, none⟩) n c] ∧ Below w.heap.size w w') (by kernel_rfl) ⟨bA1.keep (over_drew _), below_step hB (over_drew _)⟩ (fun hHeld => ?_)
        clear hHeld
        obtain ⟨D, hD⟩ : ∃ D, D = wr.drew := ⟨_, rfl⟩
        have OD : Over wr D := by rw [hD]; exact over_drew _
        rw [← hD]
        clear hD
        have hSD : KpA w A [.slice (some ⟨b, o, none⟩) n c] D := ⟨bA1.keep OD, below_step hB OD⟩
        have hWD : W1.heap.size ≤ D.heap.size := Nat.le_trans hsz OD.size
        clear g0 g1 g2 g3 g4 g5 g6
        refine wpAnyH_take (i := 0) (v := ?_) rfl (by kernel_rfl) (by kernel_rfl) (by kernel_rfl) (fun _ _ _ h => h) (Or.inl ⟨by rfl, ?_⟩) hSD ?_
        rotate_left
        · intro wq hSq
          (try dsimp only at hSq)

          go_simp
          try rfl
        change wpAnyH _ _ _ _ _ _ _ (Act.put _ (some 22) _) _
        simp only [Act.put, List.setIfInBounds_toArray, List.set_cons_succ, List.set_cons_zero]
        refine wpAnyH_take (i := 2) (v := ?_) rfl (by kernel_rfl) (by kernel_rfl) (by kernel_rfl) (fun _ _ _ h => h) (Or.inl ⟨by rfl, ?_⟩) hSD ?_
        rotate_left
        · intro wq hSq
          (try dsimp only at hSq)

          go_simp
          try rfl
        change wpAnyH _ _ _ _ _ _ _ (Act.put _ (some 24) _) _
        simp only [Act.put, List.setIfInBounds_toArray, List.set_cons_succ, List.set_cons_zero]
        refine wpAnyH_take (i := 3) (v := ?_) rfl (by kernel_rfl) (by kernel_rfl) (by kernel_rfl) (fun _ _ _ h => h) (Or.inl ⟨by rfl, ?_⟩) hSD ?_
        rotate_left
        · intro wq hSq
          (try dsimp only at hSq)
          have q0 := hSq.1.c 0 rfl
          go_simp
          try rfl
        change wpAnyH _ _ _ _ _ _ _ (Act.put _ (some 25) _) _
        simp only [Act.put, List.setIfInBounds_toArray, List.set_cons_succ, List.set_cons_zero]
        refine wpAnyH_take (i := 4) (v := ?_) rfl (by kernel_rfl) (by kernel_rfl) (by kernel_rfl) (fun _ _ _ h => h) (Or.inl ⟨by rfl, ?_⟩) hSD ?_
        rotate_left
        · intro wq hSq
          (try dsimp only at hSq)

          go_simp
          try rfl
        change wpAnyH _ _ _ _ _ _ _ (Act.put _ (some 26) _) _
        simp only [Act.put, List.setIfInBounds_toArray, List.set_cons_succ, List.set_cons_zero]
        refine wpAnyH_take (i := 5) (v := ?_) rfl (by kernel_rfl) (by kernel_rfl) (by kernel_rfl) (fun _ _ _ h => h) (Or.inl ⟨by rfl, ?_⟩) hSD ?_
        rotate_left
        · intro wq hSq
          (try dsimp only at hSq)

          go_simp
          try rfl
        change wpAnyH _ _ _ _ _ _ _ (Act.put _ (some 27) _) _
        simp only [Act.put, List.setIfInBounds_toArray, List.set_cons_succ, List.set_cons_zero]
        refine wpAnyH_take (i := 6) (v := ?_) rfl (by kernel_rfl) (by kernel_rfl) (by kernel_rfl) (fun _ _ _ h => h) (Or.inl ⟨by rfl, ?_⟩) hSD ?_
        rotate_left
        · intro wq hSq
          (try dsimp only at hSq)
          have q0 := over_cell hSq.2 (World.block_lt_of_cell? _ _ G0) G0
          have q1 := over_cell hSq.2 (World.block_lt_of_cell? _ _ G1) G1
          have q2 := over_cell hSq.2 (World.block_lt_of_cell? _ _ G2) G2
          have q3 := over_cell hSq.2 (World.block_lt_of_cell? _ _ G3) G3
          have q4 := over_cell hSq.2 (World.block_lt_of_cell? _ _ G4) G4
          have q5 := over_cell hSq.2 (World.block_lt_of_cell? _ _ G5) G5
          have q6 := over_cell hSq.2 (World.block_lt_of_cell? _ _ G6) G6
          go_simp
          try rfl
        change wpAnyH _ _ _ _ _ _ _ (Act.put _ (some 28) _) _
        simp only [Act.put, List.setIfInBounds_toArray, List.set_cons_succ, List.set_cons_zero]
        refine wpAnyH_ready (rs := [1, 7]) (by kernel_rfl) (by simp) ?_
        refine (AllReadyH.cons rfl (fun K hK => ?_) (AllReadyH.cons rfl (fun K hK => ?_) AllReadyH.nil))
        · have q := (bO1.keep OD).c 0 rfl
          go_simp
          refine hK.out _ _ hSD (fun hHeld => ?_)
          clear hK K hHeld q
          try simp only [Act.put, List.setIfInBounds_toArray, List.set_cons_zero, List.set_cons_succ]
          refine wpAnyH_ready (rs := [7]) (by kernel_rfl) (by simp) ?_
          refine (AllReadyH.cons rfl (fun K hK => ?_) AllReadyH.nil)
          go_simp
          have bN := Bl.new D [.int .i64 E.a, .int .i64 E.n, .int .i64 E.pe, .slice pa E.p.length px, .int .i64 E.pr, .slice qa E.c.length qx, .int .i64 E.bw] EI D.heap.size rfl
          have N1 : Below D.heap.size D (D.alloc (.cells #[.int .i64 E.a, .int .i64 E.n, .int .i64 E.pe, .slice pa E.p.length px, .int .i64 E.pr, .slice qa E.c.length qx, .int .i64 E.bw] EI)) := (Below.refl _ _).alloc (Nat.le_refl _) _
          refine hK.out _ _ (hSD.next N1) (fun hHeld => ?_)
          clear hK K hHeld
          try simp only [Act.put, List.setIfInBounds_toArray, List.set_cons_zero, List.set_cons_succ]
          refine wpAnyH_ready (rs := [8]) (by kernel_rfl) (by simp) ?_
          refine (AllReadyH.cons rfl (fun K hK => ?_) AllReadyH.nil)
          refine step_appE rfl (.tmp 23) (.tmp 29) rfl W1.heap.size D.heap.size 1 v2 T.length (flatT T) [.int .i64 E.a, .int .i64 E.n, .int .i64 E.pe, .slice pa E.p.length px, .int .i64 E.pr, .slice qa E.c.length qx, .int .i64 E.bw] rfl rfl (rowK (rowK hT OD) N1) bN rfl (by simp [Value.oneCell']) HL.out (Nat.le_trans hWD N1.size) ?_
          intro v3 w3 hrow hg hor
          have hB3 : Below w.heap.size w w3 := below_growT (below_step (below_step hB OD) N1) (rowK (rowK hT OD) N1) hwW hg
          have bO3 := ((bO1.keep OD).keep N1).grown hg (neRow (rowK (rowK hT OD) N1) hOW)
          have bR3 := ((bR1.keep OD).keep N1).grown hg (neRow (rowK (rowK hT OD) N1) hRW)
          have bA3 := ((bA1.keep OD).keep N1).grown hg (neRow (rowK (rowK hT OD) N1) hAW)
          have hs3 := Nat.le_trans hWD (Nat.le_trans N1.size hg.size)
          clear hg hor
          refine hK.out _ _ ⟨bA3, hB3⟩ (fun hHeld => ?_)
          clear hK K hHeld
          obtain ⟨x3, y3, rfl⟩ := row_slice hrow
          try simp only [Act.put, List.setIfInBounds_toArray, List.set_cons_zero, List.set_cons_succ]
          refine wpAnyH_ready (rs := [9]) (by kernel_rfl) (by simp) ?_
          refine (AllReadyH.cons rfl (fun K hK => ?_) AllReadyH.nil)
          go_simp
          refine hK.out _ _ ⟨bA3, hB3⟩ (fun hHeld => ?_)
          clear hK K hHeld
          try simp only [Act.put, List.setIfInBounds_toArray, List.set_cons_zero, List.set_cons_succ]
          refine wpAnyH_ready (rs := [10]) (by kernel_rfl) (by simp) ?_
          refine (AllReadyH.cons rfl (fun K hK => ?_) AllReadyH.nil)
          have o0 := bO3.c 0 rfl
          have of0 := bO3.f 0 rfl
          go_simp
          refine hK.out _ _ ⟨bA3.far hAO, hB3.setCell (p := ⟨O, 0, none⟩) hwO _⟩ (fun hHeld => ?_)
          clear hK K hHeld o0 of0
          try simp only [Act.put, List.setIfInBounds_toArray, List.set_cons_zero, List.set_cons_succ]
          refine wpAnyH_done (by kernel_rfl) ?_ _
          go_wp2
          go_roundw
          case rel =>
            refine ⟨k + 1, by omega, by go_num, .slice x3 (T.length + 1) y3, T ++ [⟨E, .slice pa E.p.length px, .slice qa E.c.length qx⟩], ?_, ?_, HTE.out _ rfl, bO3.set 0 _, bR3.far hRO, bA3.far hAO, hB3.setCell (p := ⟨O, 0, none⟩) hwO _, by simpa using hs3⟩
            · rw [List.length_append, flatT_append, show flatT [(⟨E, .slice pa E.p.length px, .slice qa E.c.length qx⟩ : ET)] = cellsT ⟨E, .slice pa E.p.length px, .slice qa E.c.length qx⟩ by simp [flatT]]
              exact rowFar hrow hOW
            · intro t ht
              rcases List.mem_append.1 ht with q | q
              · exact hTR t q
              · rw [List.mem_singleton.1 q]; exact ⟨hp, hq⟩
          case measure => simp [intOf]; omega
        · go_simp
          have bN := Bl.new D [.int .i64 E.a, .int .i64 E.n, .int .i64 E.pe, .slice pa E.p.length px, .int .i64 E.pr, .slice qa E.c.length qx, .int .i64 E.bw] EI D.heap.size rfl
          have N1 : Below D.heap.size D (D.alloc (.cells #[.int .i64 E.a, .int .i64 E.n, .int .i64 E.pe, .slice pa E.p.length px, .int .i64 E.pr, .slice qa E.c.length qx, .int .i64 E.bw] EI)) := (Below.refl _ _).alloc (Nat.le_refl _) _
          refine hK.out _ _ (hSD.next N1) (fun hHeld => ?_)
          clear hK K hHeld
          try simp only [Act.put, List.setIfInBounds_toArray, List.set_cons_zero, List.set_cons_succ]
          refine wpAnyH_ready (rs := [1]) (by kernel_rfl) (by simp) ?_
          refine (AllReadyH.cons rfl (fun K hK => ?_) AllReadyH.nil)
          have q := ((bO1.keep OD).keep N1).c 0 rfl
          go_simp
          refine hK.out _ _ (hSD.next N1) (fun hHeld => ?_)
          clear hK K hHeld q
          try simp only [Act.put, List.setIfInBounds_toArray, List.set_cons_zero, List.set_cons_succ]
          refine wpAnyH_ready (rs := [8]) (by kernel_rfl) (by simp) ?_
          refine (AllReadyH.cons rfl (fun K hK => ?_) AllReadyH.nil)
          refine step_appE rfl (.tmp 23) (.tmp 29) rfl W1.heap.size D.heap.size 1 v2 T.length (flatT T) [.int .i64 E.a, .int .i64 E.n, .int .i64 E.pe, .slice pa E.p.length px, .int .i64 E.pr, .slice qa E.c.length qx, .int .i64 E.bw] rfl rfl (rowK (rowK hT OD) N1) bN rfl (by simp [Value.oneCell']) HL.out (Nat.le_trans hWD N1.size) ?_
          intro v3 w3 hrow hg hor
          have hB3 : Below w.heap.size w w3 := below_growT (below_step (below_step hB OD) N1) (rowK (rowK hT OD) N1) hwW hg
          have bO3 := ((bO1.keep OD).keep N1).grown hg (neRow (rowK (rowK hT OD) N1) hOW)
          have bR3 := ((bR1.keep OD).keep N1).grown hg (neRow (rowK (rowK hT OD) N1) hRW)
          have bA3 := ((bA1.keep OD).keep N1).grown hg (neRow (rowK (rowK hT OD) N1) hAW)
          have hs3 := Nat.le_trans hWD (Nat.le_trans N1.size hg.size)
          clear hg hor
          refine hK.out _ _ ⟨bA3, hB3⟩ (fun hHeld => ?_)
          clear hK K hHeld
          obtain ⟨x3, y3, rfl⟩ := row_slice hrow
          try simp only [Act.put, List.setIfInBounds_toArray, List.set_cons_zero, List.set_cons_succ]
          refine wpAnyH_ready (rs := [9]) (by kernel_rfl) (by simp) ?_
          refine (AllReadyH.cons rfl (fun K hK => ?_) AllReadyH.nil)
          go_simp
          refine hK.out _ _ ⟨bA3, hB3⟩ (fun hHeld => ?_)
          clear hK K hHeld
          try simp only [Act.put, List.setIfInBounds_toArray, List.set_cons_zero, List.set_cons_succ]
          refine wpAnyH_ready (rs := [10]) (by kernel_rfl) (by simp) ?_
          refine (AllReadyH.cons rfl (fun K hK => ?_) AllReadyH.nil)
          have o0 := bO3.c 0 rfl
          have of0 := bO3.f 0 rfl
          go_simp
          refine hK.out _ _ ⟨bA3.far hAO, hB3.setCell (p := ⟨O, 0, none⟩) hwO _⟩ (fun hHeld => ?_)
          clear hK K hHeld o0 of0
          try simp only [Act.put, List.setIfInBounds_toArray, List.set_cons_zero, List.set_cons_succ]
          refine wpAnyH_done (by kernel_rfl) ?_ _
          go_wp2
          go_roundw
          case rel =>
            refine ⟨k + 1, by omega, by go_num, .slice x3 (T.length + 1) y3, T ++ [⟨E, .slice pa E.p.length px, .slice qa E.c.length qx⟩], ?_, ?_, HTE.out _ rfl, bO3.set 0 _, bR3.far hRO, bA3.far hAO, hB3.setCell (p := ⟨O, 0, none⟩) hwO _, by simpa using hs3⟩
            · rw [List.length_append, flatT_append, show flatT [(⟨E, .slice pa E.p.length px, .slice qa E.c.length qx⟩ : ET)] = cellsT ⟨E, .slice pa E.p.length px, .slice qa E.c.length qx⟩ by simp [flatT]]
              exact rowFar hrow hOW
            · intro t ht
              rcases List.mem_append.1 ht with q | q
              · exact hTR t q
              · rw [List.mem_singleton.1 q]; exact ⟨hp, hq⟩
          case measure => simp [intOf]; omega
    · have hkn : k = n := by omega
      subst hkn
      clear hc
      obtain ⟨x2, y2, rfl⟩ := row_slice hT
      have o0 := bO1.c 0 rfl
      have q0 := bR1.c 0 rfl
      have qf0 := bR1.f 0 rfl
      go_wp2
      have bE := bR1.set 0 (.slice x2 T.length y2)
      have e0 := bE.c 0 rfl
      have hBe := hB.setCell (p := ⟨R, 0, none⟩) hwR (.slice x2 T.length y2)
      exact bodyPost_ret (v := .agg #[.slice x2 T.length y2]) (by simp [results, Tryz.results110, go_sem, e0]) rfl
        ⟨_, rfl, by rw [show L = L.take k by rw [HN.out, List.take_length], ← hTE]; exact row_rd (rowFar hT hRW) fun t ht => ⟨(hTR t ht).1.keep hBe, (hTR t ht).2.keep hBe⟩, hBe⟩
end Go.Proofs.YtaiffofmhfflkaaGreat
