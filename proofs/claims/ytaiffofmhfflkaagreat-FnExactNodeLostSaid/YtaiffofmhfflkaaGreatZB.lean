/-
  Copies of switches, of the laws: where their blocks lie; comparison of switches. Conditions: those in each contract.
-/
import Derived.Test.YtaiffofmhfflkaaGreatZA
import Derived.Test.YtaiffofmhfflkaaGreatF5
namespace Go.Proofs.YtaiffofmhfflkaaGreat
open Go.ChangeShapes Go.WideShapes Go.ChangeAt Go.RowKit Go.BigFrame Go.Joins
set_option linter.unusedVariables false
set_option maxRecDepth 100000
set_option linter.unusedSimpArgs false
set_option maxRecDepth 100000

/-- a table that may be marked: its block and its rows lie in base .. hi -/
def MkR (w : World) (base hi : Nat) (u : Value) (L : List Ent) : Prop := ∃ B, u = .slice (some ⟨B, 0, none⟩) L.length L.length ∧ MkE w w base B hi L.length L
theorem MkR.other {w w' : World} {base hi b0 h0 : Nat} {u : Value} {L : List Ent} (h : MkR w base hi u L) (s : Soft b0 h0 w w') (hd : h0 ≤ base ∨ hi ≤ b0) : MkR w' base hi u L := by
  obtain ⟨B, e, s0, c, ew, h1, h2, h3⟩ := h
  have hblk : w'.heap[B]? = w.heap[B]? := s.block B (by omega) (by omega)
  refine ⟨B, e, Soft.refl _ _ _, fun j hj => ⟨s.ex _ _ (c j hj).1, (s.fz _ _ (c j hj).1).trans (c j hj).2⟩, fun i hi' => ?_, h1, h2, Nat.le_trans h3 s.size⟩
  obtain ⟨u1, u2, e1, e2, r1, r2⟩ := ew i hi'
  exact ⟨u1, u2, (World.cell?_of_block hblk).trans e1, (World.cell?_of_block hblk).trans e2, r1.soft s, r2.soft s⟩
theorem MkR.keep {w w' : World} {base hi : Nat} {u : Value} {L : List Ent} (h : MkR w base hi u L) (hb : Below w.heap.size w w') : MkR w' base hi u L := h.other (Soft.of_below hi hi hb) (.inr (Nat.le_refl _))
theorem MkR.far {w : World} {base hi C o : Nat} {u x : Value} {L : List Ent} (h : MkR w base hi u L) (hC : C < base) : MkR (w.setCell ⟨C, o, none⟩ x) base hi u L := h.other (soft1 w C o x) (.inl hC)
theorem OwnE.mkR {w : World} {base : Nat} {u : Value} {L : List Ent} (h : OwnE w base u L) : MkR w base w.heap.size u L := h.mk
theorem OwnE.far {w : World} {base C o : Nat} {v x : Value} {L : List Ent} (h : OwnE w base v L) (hC : C < base) : OwnE (w.setCell ⟨C, o, none⟩ x) base v L := by
  obtain ⟨B, rfl, hb, xs, hl, hBl, hx⟩ := h
  refine ⟨B, rfl, hb, xs, hl, hBl.far (by omega), fun i hi => ?_⟩
  obtain ⟨u1, u2, g1, g2, g3⟩ := hx i hi
  exact ⟨u1, u2, g1.far (by omega), g2.far (by omega), g3⟩
/-- a fresh switch: its list, its table and what was sent lie behind one another -/
def NewNd (w : World) (N : Nd) (e : Ending) (w' : World) : Prop :=
  ∃ ov ru su h1 h2, e = .returned (.agg #[.int .i64 N.an, ov, .int .i64 N.bw, .bool N.dr, ru, su]) ∧ OwnP w' w.heap.size ov N.own ∧ (∀ k, ov.ownBlock = some k → k < h1) ∧ OwnE w' h1 ru N.rib ∧ MkR w' h1 h2 ru N.rib ∧ OwnE w' h2 su N.sent ∧ MkR w' h2 w'.heap.size su N.sent ∧ w.heap.size ≤ h1 ∧ h1 ≤ h2 ∧ h2 ≤ w'.heap.size ∧ Below w.heap.size w w'
set_option maxHeartbeats 2000000 in
theorem toNd_any (ov rv sv : Value) (N : Nd) (w : World) (h : RdN w ov rv sv N) (hn : wtN N ≤ 1048576) :
    Calls Tryz.prog 12 #[.agg #[.int .i64 N.an, ov, .int .i64 N.bw, .bool N.dr, rv, sv]] w (NewNd w N) := by
  have hl1 : N.own.length ≤ 1048576 := by unfold wtN at hn; omega
  have hl2 : N.rib.length + wtE N.rib ≤ 1048576 := by unfold wtN at hn; omega
  have hl3 : N.sent.length + wtE N.sent ≤ 1048576 := by unfold wtN at hn; omega
  obtain ⟨bA, bR, bO, B1, z⟩ := three w [.int .i64 N.an, ov, .int .i64 N.bw, .bool N.dr, rv, sv] [.int .i64 0, .slice none 0 0, .int .i64 0, .bool false, .slice none 0 0, .slice none 0 0] [.int .i64 N.an, .slice none 0 0, .int .i64 0, .bool false, .slice none 0 0, .slice none 0 0] 27 34 34
  clear hn
  go_enter Tryz.func12, Tryz.ntmps12
  go_wp2_with fail
  refine (toP_any ov N.own _ (h.keep B1).1 hl1).mono ?_
  rintro e w1 ⟨oa, oc, rfl, ho, hb⟩
  have hs := hb.size
  rw [z] at ho hs
  replace bA := bA.keep hb
  replace bR := bR.keep hb
  replace bO := bO.keep hb
  replace B1 := below_step B1 hb
  clear z hb
  obtain ⟨A, hA⟩ : ∃ A, A = w.heap.size := ⟨_, rfl⟩
  obtain ⟨R, hR⟩ : ∃ R, R = w.heap.size + 1 := ⟨_, rfl⟩
  obtain ⟨O, hO⟩ : ∃ O, O = w.heap.size + 1 + 1 := ⟨_, rfl⟩
  rw [← hA] at bA
  rw [← hR] at bR
  rw [← hO] at bO
  rw [← hO, ← hR, ← hA]
  have hO3 : O < w.heap.size + 3 := by omega
  have hR3 : R < w.heap.size + 3 := by omega
  have hRO : R ≠ O := by omega
  have hAO : A ≠ O := by omega
  have hwO : w.heap.size ≤ O := by omega
  have hwR : w.heap.size ≤ R := by omega
  have hw3 : w.heap.size ≤ w.heap.size + 3 := by omega
  clear hA hR hO
  obtain ⟨X, hX⟩ : ∃ X, X = w.heap.size + 3 := ⟨_, rfl⟩
  rw [← hX] at ho hs hO3 hR3 hw3
  clear hX
  have a2 := bA.c 2 rfl
  have a3 := bA.c 3 rfl
  have a4 := bA.c 4 rfl
  have o1 := bO.c 1 rfl
  have of1 := bO.f 1 rfl
  have o2 := bO.c 2 rfl
  have of2 := bO.f 2 rfl
  have o3 := bO.c 3 rfl
  have of3 := bO.f 3 rfl
  go_wp2_with fail
  clear a2 a3 a4 o1 of1 o2 of2 o3 of3
  replace bO := ((bO.set 1 (.slice oa N.own.length oc)).set 2 (.int .i64 N.bw)).set 3 (.bool N.dr)
  replace bA := ((bA.far (o := 1) (u := .slice oa N.own.length oc) hAO).far (o := 2) (u := .int .i64 N.bw) hAO).far (o := 3) (u := .bool N.dr) hAO
  replace bR := ((bR.far (o := 1) (u := .slice oa N.own.length oc) hRO).far (o := 2) (u := .int .i64 N.bw) hRO).far (o := 3) (u := .bool N.dr) hRO
  replace ho := ((ho.far (o := 1) (u := .slice oa N.own.length oc) hO3).far (o := 2) (u := .int .i64 N.bw) hO3).far (o := 3) (u := .bool N.dr) hO3
  replace B1 := ((B1.setCell (p := ⟨O, 1, none⟩) hwO (.slice oa N.own.length oc)).setCell (p := ⟨O, 2, none⟩) hwO (.int .i64 N.bw)).setCell (p := ⟨O, 3, none⟩) hwO (.bool N.dr)
  obtain ⟨V, hV⟩ : ∃ V, V = ((w1.setCell ⟨O, 1, none⟩ (.slice oa N.own.length oc)).setCell ⟨O, 2, none⟩ (.int .i64 N.bw)).setCell ⟨O, 3, none⟩ (.bool N.dr) := ⟨_, rfl⟩
  have hXV : X ≤ V.heap.size := by rw [hV]; simpa using hs
  rw [← hV] at bO bA bR ho B1 ⊢
  clear hV hs
  have hok : ∀ k, (Value.slice oa N.own.length oc).ownBlock = some k → k < V.heap.size := fun k hk => (World.ownsRow.lt ho k hk).2
  have HOK := Lib.hid hok
  clear hok
  simp only [List.set_cons_zero, List.set_cons_succ] at bO
  refine (toRb_any rv N.rib V (h.keep B1).2.1 hl2).mono ?_
  rintro e w2 ⟨ru, rfl, h1, hb⟩
  have hs := hb.size
  replace bA := bA.keep hb
  replace bR := bR.keep hb
  replace bO := bO.keep hb
  replace ho := ho.keep hb
  replace B1 := below_step B1 hb
  have m1 := h1.mkR
  clear hb
  obtain ⟨B, e1, -⟩ := m1
  have m1 := h1.mkR
  subst e1
  have a5 := bA.c 5 rfl
  have o4 := bO.c 4 rfl
  have of4 := bO.f 4 rfl
  go_wp2_with fail
  clear a5 o4 of4
  replace bO := bO.set 4 (.slice (some ⟨B, 0, none⟩) N.rib.length N.rib.length)
  replace bR := bR.far (o := 4) (u := .slice (some ⟨B, 0, none⟩) N.rib.length N.rib.length) hRO
  replace ho := ho.far (o := 4) (u := .slice (some ⟨B, 0, none⟩) N.rib.length N.rib.length) hO3
  have hOV : O < V.heap.size := by omega
  have hRV : R < V.heap.size := by omega
  replace h1 := h1.far (o := 4) (x := .slice (some ⟨B, 0, none⟩) N.rib.length N.rib.length) hOV
  replace m1 := m1.far (o := 4) (x := .slice (some ⟨B, 0, none⟩) N.rib.length N.rib.length) hOV
  replace B1 := B1.setCell (p := ⟨O, 4, none⟩) hwO (.slice (some ⟨B, 0, none⟩) N.rib.length N.rib.length)
  obtain ⟨V2, hV⟩ : ∃ V2, V2 = w2.setCell ⟨O, 4, none⟩ (.slice (some ⟨B, 0, none⟩) N.rib.length N.rib.length) := ⟨_, rfl⟩
  have hs2 : w2.heap.size = V2.heap.size := by rw [hV]; simp
  rw [← hV] at bO bR ho h1 m1 B1 ⊢
  rw [hs2] at m1 hs
  clear hV hs2 bA
  simp only [List.set_cons_zero, List.set_cons_succ] at bO
  refine (toRb_any sv N.sent V2 (h.keep B1).2.2 hl3).mono ?_
  rintro e w3 ⟨su, rfl, h2, hb⟩
  have hs2 := hb.size
  replace bR := bR.keep hb
  replace bO := bO.keep hb
  replace ho := ho.keep hb
  replace h1 := h1.keep hb
  replace m1 := m1.keep hb
  replace B1 := below_step B1 hb
  have m2 := h2.mkR
  clear hb h
  obtain ⟨C, e2, -⟩ := m2
  have m2 := h2.mkR
  subst e2
  have o0 := bO.c 0 rfl
  have o1 := bO.c 1 rfl
  have o2 := bO.c 2 rfl
  have o3 := bO.c 3 rfl
  have o4 := bO.c 4 rfl
  have o5 := bO.c 5 rfl
  have of5 := bO.f 5 rfl
  have r0 := bR.c 0 rfl
  have rf0 := bR.f 0 rfl
  have r1 := bR.c 1 rfl
  have rf1 := bR.f 1 rfl
  have r2 := bR.c 2 rfl
  have rf2 := bR.f 2 rfl
  have r3 := bR.c 3 rfl
  have rf3 := bR.f 3 rfl
  have r4 := bR.c 4 rfl
  have rf4 := bR.f 4 rfl
  have r5 := bR.c 5 rfl
  have rf5 := bR.f 5 rfl
  go_wp2_with fail
  have bE := (((((((bR.far (o := 5) (u := .slice (some ⟨C, 0, none⟩) N.sent.length N.sent.length) hRO).set 0 (.int .i64 N.an)).set 1 (.slice oa N.own.length oc)).set 2 (.int .i64 N.bw)).set 3 (.bool N.dr)).set 4 (.slice (some ⟨B, 0, none⟩) N.rib.length N.rib.length)).set 5 (.slice (some ⟨C, 0, none⟩) N.sent.length N.sent.length))
  have e0 := bE.c 0 rfl
  have e1 := bE.c 1 rfl
  have e2 := bE.c 2 rfl
  have e3 := bE.c 3 rfl
  have e4 := bE.c 4 rfl
  have e5 := bE.c 5 rfl
  have hO2 : O < V2.heap.size := by omega
  have hR2 : R < V2.heap.size := by omega
  have hwX : w.heap.size ≤ X := by omega
  exact bodyPost_ret (v := .agg #[.int .i64 N.an, .slice oa N.own.length oc, .int .i64 N.bw, .bool N.dr, .slice (some ⟨B, 0, none⟩) N.rib.length N.rib.length, .slice (some ⟨C, 0, none⟩) N.sent.length N.sent.length]) (by simp [results, Tryz.results12, go_sem, e0, e1, e2, e3, e4, e5]) rfl
    ⟨_, _, _, V.heap.size, V2.heap.size, rfl, (((((((ho.far (o := 5) (u := .slice (some ⟨C, 0, none⟩) N.sent.length N.sent.length) hO3).far (o := 0) (u := .int .i64 N.an) hR3).far (o := 1) (u := .slice oa N.own.length oc) hR3).far (o := 2) (u := .int .i64 N.bw) hR3).far (o := 3) (u := .bool N.dr) hR3).far (o := 4) (u := .slice (some ⟨B, 0, none⟩) N.rib.length N.rib.length) hR3).far (o := 5) (u := .slice (some ⟨C, 0, none⟩) N.sent.length N.sent.length) hR3).mono hwX, HOK.out, (((((((h1.far (o := 5) (x := .slice (some ⟨C, 0, none⟩) N.sent.length N.sent.length) hOV).far (o := 0) (x := .int .i64 N.an) hRV).far (o := 1) (x := .slice oa N.own.length oc) hRV).far (o := 2) (x := .int .i64 N.bw) hRV).far (o := 3) (x := .bool N.dr) hRV).far (o := 4) (x := .slice (some ⟨B, 0, none⟩) N.rib.length N.rib.length) hRV).far (o := 5) (x := .slice (some ⟨C, 0, none⟩) N.sent.length N.sent.length) hRV), (((((((m1.far (o := 5) (x := .slice (some ⟨C, 0, none⟩) N.sent.length N.sent.length) hOV).far (o := 0) (x := .int .i64 N.an) hRV).far (o := 1) (x := .slice oa N.own.length oc) hRV).far (o := 2) (x := .int .i64 N.bw) hRV).far (o := 3) (x := .bool N.dr) hRV).far (o := 4) (x := .slice (some ⟨B, 0, none⟩) N.rib.length N.rib.length) hRV).far (o := 5) (x := .slice (some ⟨C, 0, none⟩) N.sent.length N.sent.length) hRV), (((((((h2.far (o := 5) (x := .slice (some ⟨C, 0, none⟩) N.sent.length N.sent.length) hO2).far (o := 0) (x := .int .i64 N.an) hR2).far (o := 1) (x := .slice oa N.own.length oc) hR2).far (o := 2) (x := .int .i64 N.bw) hR2).far (o := 3) (x := .bool N.dr) hR2).far (o := 4) (x := .slice (some ⟨B, 0, none⟩) N.rib.length N.rib.length) hR2).far (o := 5) (x := .slice (some ⟨C, 0, none⟩) N.sent.length N.sent.length) hR2), by simpa using (((((((m2.far (o := 5) (x := .slice (some ⟨C, 0, none⟩) N.sent.length N.sent.length) hO2).far (o := 0) (x := .int .i64 N.an) hR2).far (o := 1) (x := .slice oa N.own.length oc) hR2).far (o := 2) (x := .int .i64 N.bw) hR2).far (o := 3) (x := .bool N.dr) hR2).far (o := 4) (x := .slice (some ⟨B, 0, none⟩) N.rib.length N.rib.length) hR2).far (o := 5) (x := .slice (some ⟨C, 0, none⟩) N.sent.length N.sent.length) hR2), by omega, by omega, by simpa using hs2, (((((((B1.setCell (p := ⟨O, 5, none⟩) hwO (.slice (some ⟨C, 0, none⟩) N.sent.length N.sent.length)).setCell (p := ⟨R, 0, none⟩) hwR (.int .i64 N.an)).setCell (p := ⟨R, 1, none⟩) hwR (.slice oa N.own.length oc)).setCell (p := ⟨R, 2, none⟩) hwR (.int .i64 N.bw)).setCell (p := ⟨R, 3, none⟩) hwR (.bool N.dr)).setCell (p := ⟨R, 4, none⟩) hwR (.slice (some ⟨B, 0, none⟩) N.rib.length N.rib.length)).setCell (p := ⟨R, 5, none⟩) hwR (.slice (some ⟨C, 0, none⟩) N.sent.length N.sent.length))⟩
theorem eqNd_same (ov rv sv ov2 rv2 sv2 : Value) (N : Nd) (w : World) (h : RdN w ov rv sv N) (h2 : RdN w ov2 rv2 sv2 N) :
    Calls Tryz.prog 14 #[.agg #[.int .i64 N.an, ov, .int .i64 N.bw, .bool N.dr, rv, sv], .agg #[.int .i64 N.an, ov2, .int .i64 N.bw, .bool N.dr, rv2, sv2]] w fun e w' => e = .returned (.bool true) ∧ Below w.heap.size w w' := by
  obtain ⟨bA, bB, B1, z⟩ := two w [.int .i64 N.an, ov, .int .i64 N.bw, .bool N.dr, rv, sv] [.int .i64 N.an, ov2, .int .i64 N.bw, .bool N.dr, rv2, sv2] 34 34
  replace h := h.keep B1
  replace h2 := h2.keep B1
  clear z
  have q0 : (N.an != N.an) = false := by simp
  have q2 : (N.bw != N.bw) = false := by simp
  have q3 : (N.dr != N.dr) = false := by simp
  have a1 := bA.c 1 rfl
  have b1 := bB.c 1 rfl
  go_enter Tryz.func14, Tryz.ntmps14
  go_wp2_with fail
  refine (eqPS_same _ _ N.own _ h.1 h2.1).mono ?_
  rintro e w1 ⟨rfl, hb⟩
  replace bA := bA.keep hb
  replace bB := bB.keep hb
  replace h := h.keep hb
  replace h2 := h2.keep hb
  replace B1 := below_step B1 hb
  clear hb a1 b1
  have a2 := bA.c 2 rfl
  have b2 := bB.c 2 rfl
  have a3 := bA.c 3 rfl
  have b3 := bB.c 3 rfl
  have a4 := bA.c 4 rfl
  have b4 := bB.c 4 rfl
  go_wp2_with fail
  refine (eqRb_same _ _ N.rib _ h.2.1 h2.2.1).mono ?_
  rintro e w2 ⟨rfl, hb⟩
  replace bA := bA.keep hb
  replace bB := bB.keep hb
  replace h := h.keep hb
  replace h2 := h2.keep hb
  replace B1 := below_step B1 hb
  clear hb a2 b2 a3 b3 a4 b4
  have a5 := bA.c 5 rfl
  have b5 := bB.c 5 rfl
  go_wp2_with fail
  refine (eqRb_same _ _ N.sent _ h.2.2 h2.2.2).mono ?_
  rintro e w3 ⟨rfl, hb⟩
  replace B1 := below_step B1 hb
  clear hb
  go_wp2
  go_ret
  exact ⟨rfl, B1⟩
end Go.Proofs.YtaiffofmhfflkaaGreat
