/-
  RibDropPeer of the program and of the model. Conditions: those in each contract.
-/
import Derived.Test.YtaiffofmhfflkaaGreatEH
import Derived.Test.YtaiffofmhfflkaaGreatF3
namespace Go.Proofs.YtaiffofmhfflkaaGreat
open Go.ChangeShapes Go.WideShapes Go.ChangeAt Go.RowKit Go.BigFrame Go.Joins
set_option linter.unusedVariables false
set_option maxRecDepth 100000
set_option linter.unusedSimpArgs false
set_option maxRecDepth 100000

/-- what RibDropPeer answers -/
def dropP (L : List Ent) (pe : Int) : List Ent := if ribB L = true then L.filter (fun E => !(E.pe == pe)) else []
theorem dropP_no {L : List Ent} {pe : Int} (h : ribB L = false) : dropP L pe = [] := by simp [dropP, h]
theorem dropP_yes {L : List Ent} {pe : Int} (h : ribB L = true) : dropP L pe = L.filter (fun E => !(E.pe == pe)) := by simp [dropP, h]
theorem getD_mem {L : List Ent} {j : Nat} (h : j < L.length) : L.getD j e0 ∈ L := by
  rw [List.getD_eq_getElem?_getD, List.getElem?_eq_getElem h]
  exact List.getElem_mem h
theorem lens_filter {L : List Ent} {f : Ent → Bool} (h : ∀ j, j < L.length → (L.getD j e0).p.length ≤ 1048576 ∧ (L.getD j e0).c.length ≤ 1048576) : ∀ j, j < (L.filter f).length → ((L.filter f).getD j e0).p.length ≤ 1048576 ∧ ((L.filter f).getD j e0).c.length ≤ 1048576 := by
  intro j hj
  obtain ⟨i, hi, e⟩ := List.mem_iff_getElem.1 (List.mem_filter.1 (getD_mem hj)).1
  have := h i hi
  rw [List.getD_eq_getElem?_getD, List.getElem?_eq_getElem hi] at this
  rw [← e]
  exact this
theorem ribB_len7 {L : List Ent} (h : ribB L = true) : L.length ≤ 60 := by
  unfold ribB at h
  simp at h
  omega
set_option maxHeartbeats 2000000 in
theorem irdp_any (v : Value) (L : List Ent) (pe : Int) (w : World) (h : RdE w v L) (hln : ∀ j, j < L.length → (L.getD j e0).p.length ≤ 1048576 ∧ (L.getD j e0).c.length ≤ 1048576) :
    Calls Tryz.prog 52 #[.agg #[v], .int .i64 pe] w (NewRib w (dropP L pe)) := by
  obtain ⟨a, c, rfl⟩ := h.len
  obtain ⟨bA, bC, bR, B0, z⟩ := three w [.slice a L.length c] [.int .i64 pe] [.slice none 0 0] 32 3 32
  obtain ⟨R, hR⟩ : ∃ R, R = w.heap.size + 1 + 1 := ⟨_, rfl⟩
  have hwR : w.heap.size ≤ R := by omega
  cases hb : ribB L
  · rw [dropP_no hb]
    have HB := Lib.hid hb
    clear hb
    go_enter Tryz.func52, Tryz.ntmps52
    go_wp2_with fail
    refine (irib_t _ (h.keep B0) HB).mono ?_
    rintro e w1 ⟨rfl, hb1⟩
    replace bR := bR.keep hb1
    replace B0 := below_step B0 hb1
    rw [← hR] at bR
    try rw [← hR]
    clear hR
    have r0 := bR.c 0 rfl
    have rf0 := bR.f 0 rfl
    go_wp2
    have bE := bR.set 0 (.slice none 0 0)
    have e0 := bE.c 0 rfl
    exact bodyPost_ret (v := .agg #[.slice none 0 0]) (by simp [results, Tryz.results52, go_sem, e0]) rfl
      ⟨_, [], rfl, OwnT.nil _ _, rfl, B0.setCell (p := ⟨R, 0, none⟩) hwR _⟩
  · rw [dropP_yes hb]
    have HN : Hid (L.length ≤ 1048576) := Lib.hid (by have := ribB_len7 hb; omega)
    have HB := Lib.hid hb
    have HLN := Lib.hid hln
    clear hb hln
    go_enter Tryz.func52, Tryz.ntmps52
    go_wp2_with fail
    refine (irib_t _ (h.keep B0) HB).mono ?_
    rintro e w1 ⟨rfl, hb1⟩
    have hw1 : w.heap.size + 3 ≤ w1.heap.size := by rw [← z]; exact hb1.size
    replace bA := bA.keep hb1
    replace bC := bC.keep hb1
    replace bR := bR.keep hb1
    replace B0 := below_step B0 hb1
    obtain ⟨A, hA⟩ : ∃ A, A = w.heap.size := ⟨_, rfl⟩
    obtain ⟨C, hC⟩ : ∃ C, C = w.heap.size + 1 := ⟨_, rfl⟩
    have hC1 : C < w1.heap.size := by omega
    have hR1 : R < w1.heap.size := by omega
    have hwW : w.heap.size ≤ w1.heap.size := by omega
    rw [← hR] at bR
    try rw [← hR]
    rw [← hC] at bC
    try rw [← hC]
    rw [← hA] at bA
    try rw [← hA]
    clear hR hC hA z
    have a0 := bA.c 0 rfl
    go_wp2_with fail
    clear a0 bA
    refine (irc_any _ L w1 (h.keep B0) HN.out HLN.out).mono ?_
    rintro e w2 ⟨u, T, rfl, hT, hTE, hb2⟩
    obtain ⟨x, y, rfl⟩ := hT.lenV
    have HT := Lib.hid hTE
    have hTn : T.length ≤ 1048576 := by rw [← entT_len, hTE]; exact HN.out
    clear hTE
    have bO := Bl.new w2 [.slice x T.length y] 32 w2.heap.size rfl
    have N1 : Below w2.heap.size w2 (w2.alloc (.cells #[.slice x T.length y] 32)) := (Below.refl _ _).alloc (Nat.le_refl _) _
    have hOR : w2.heap.size ≠ R := by have := hb2.size; omega
    have hO2 : ∀ k, (Value.slice x T.length y).ownBlock = some k → k < w2.heap.size := fun k hk => (World.ownsRow.lt hT.row k hk).2
    have hTl := hT.lt
    have o0 := bO.c 0 rfl
    go_wp2_with fail
    clear o0
    obtain ⟨V, hV⟩ : ∃ V, V = w2.alloc (.cells #[.slice x T.length y] 32) := ⟨_, rfl⟩
    rw [← hV] at bO N1 ⊢
    have B1 := below_step (below_step B0 hb2) N1
    have hTV := hT.keep N1
    refine (idfP_any _ T pe C w1.heap.size V hTV hTn ((bC.keep hb2).keep N1) hC1).mono ?_
    rintro e w3 ⟨r, rfl, hT3, hg, hro⟩
    obtain ⟨x3, y3, rfl⟩ := hT3.lenV
    obtain ⟨O, hO⟩ : ∃ O, O = w2.heap.size := ⟨_, rfl⟩
    rw [← hO] at bO hOR hO2 hTl
    try rw [← hO]
    have hwO : w.heap.size ≤ O := by rw [hO]; exact Nat.le_trans hwW hb2.size
    clear hV hO
    have bO3 := bO.grown hg (fun q => by have := hO2 O q.symm; omega)
    have bR3 := ((bR.keep hb2).keep N1).grown hg (neRow hTV.row hR1)
    have B3 := below_growT B1 hTV.row hwW hg
    obtain ⟨S, hS⟩ : ∃ S, S = T.filter (fun t : ET => !(t.E.pe == pe)) := ⟨_, rfl⟩
    rw [← hS] at hT3 hro ⊢
    have HS := Lib.hid hS
    have bOs := bO3.set 0 (.slice x3 S.length y3)
    have bRs := bR3.far (o := 0) (u := .slice x3 S.length y3) hOR.symm
    have o0 := bO3.c 0 rfl
    have of0 := bO3.f 0 rfl
    have r0 := bR3.c 0 rfl
    have rf0 := bR3.f 0 rfl
    have s0 := bOs.c 0 rfl
    have t0 := bRs.c 0 rfl
    have lO := bO3.lt
    have lR := bR3.lt
    have hT4 : OwnT (w3.setCell ⟨O, 0, none⟩ (.slice x3 S.length y3)) w1.heap.size (.slice x3 S.length y3) S := hT3.kept (grown_set w3 O 0 _) (by
      cases hv : (Value.slice x3 S.length y3).ownBlock with
      | none => exact .inl rfl
      | some k => exact .inr (by rw [hro] at hv; have := hO2 k hv; intro q; cases q; omega)) (fun t ht => by
      have hm := (hTl t (by rw [HS.out] at ht; exact (List.mem_filter.1 ht).1))
      constructor
      · cases hv : t.u.ownBlock with
        | none => exact .inl rfl
        | some k => exact .inr (by have := (hm.1 k hv).2; intro q; cases q; omega)
      · cases hv : t.v.ownBlock with
        | none => exact .inl rfl
        | some k => exact .inr (by have := (hm.2 k hv).2; intro q; cases q; omega))
    have hT5 := (hT4.far (B := R) (o := 0) (u := .slice x3 S.length y3) hR1).mono hwW
    have B5 := (B3.setCell (p := ⟨O, 0, none⟩) hwO (.slice x3 S.length y3)).setCell (p := ⟨R, 0, none⟩) hwR (.slice x3 S.length y3)
    clear hT4 hT3 hg hro hTl hO2 hS B3
    go_wp2
    have bE := bRs.set 0 (.slice x3 S.length y3)
    have e0 := bE.c 0 rfl
    exact bodyPost_ret (v := .agg #[.slice x3 S.length y3]) (by simp [results, Tryz.results52, go_sem, e0]) rfl
      ⟨_, S, rfl, hT5, by rw [HS.out, ← HT.out]; exact entT_filter (fun E => !(E.pe == pe)) T, B5⟩
end Go.Proofs.YtaiffofmhfflkaaGreat
