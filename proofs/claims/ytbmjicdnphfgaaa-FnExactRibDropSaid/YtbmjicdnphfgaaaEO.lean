/-
  RibDrop of the program and of the model. Conditions: those in each contract.
-/
import Derived.Test.YtbmjicdnphfgaaaEN
import Derived.Test.YtbmjicdnphfgaaaEI
namespace Go.Proofs.Ytbmjicdnphfgaaa
open Go.ChangeShapes Go.WideShapes Go.ChangeAt Go.RowKit Go.BigFrame Go.Joins
set_option linter.unusedVariables false
set_option maxRecDepth 100000
set_option linter.unusedSimpArgs false
set_option maxRecDepth 100000

/-- what RibDrop answers -/
def dropD (L : List Ent) (da dn dp : Int) : List Ent := if ribB L = true then L.filter (fun G => !(isD da dn dp G)) else []
theorem dropD_no {L : List Ent} {da dn dp : Int} (h : ribB L = false) : dropD L da dn dp = [] := by simp [dropD, h]
theorem dropD_yes {L : List Ent} {da dn dp : Int} (h : ribB L = true) : dropD L da dn dp = L.filter (fun G => !(isD da dn dp G)) := by simp [dropD, h]
set_option maxHeartbeats 2000000 in
theorem mdrop_any (v : Value) (T : List ET) (da dn dp : Int) (O base : Nat) (w : World) (h : OwnT w base v T) (hn1 : T.length ≤ 1048576) (bO : Bl w O [v]) (hOv : some O ≠ v.ownBlock) :
    Calls Try.prog 53 #[.pointer (some ⟨O, 0, none⟩), .agg #[.int .i64 da, .int .i64 dn], .int .i64 dp] w fun e w' => e = .returned (.tuple #[]) ∧
      ∃ w3 r, w.grownBy w3 v.ownBlock ∧ OwnT w3 base r (T.filter (fun t : ET => !(isD da dn dp t.E))) ∧ r.ownBlock = v.ownBlock ∧ w' = w3.setCell ⟨O, 0, none⟩ r := by
  have hlt : ∀ k, v.ownBlock = some k → k < w.heap.size := fun k hk => (World.ownsRow.lt h.row k hk).2
  obtain ⟨bC, bD, B0, z⟩ := two w [.int .i64 da, .int .i64 dn] [.int .i64 dp] PT 3
  have o0 := (bO.keep B0).c 0 rfl
  go_enter Try.func53, Try.ntmps53
  go_wp2_with fail
  clear o0
  obtain ⟨V, hV⟩ : ∃ V, V = (w.alloc (.cells #[.int .i64 da, .int .i64 dn] PT)).alloc (.cells #[.int .i64 dp] 3) := ⟨_, rfl⟩
  rw [← hV] at bC bD B0 z ⊢
  clear hV z
  refine (idfD_any v T da dn dp w.heap.size (w.heap.size + 1) base V (h.keep B0) hn1 ⟨bC, bD⟩ (fun q => by have := hlt _ q.symm; omega) (fun q => by have := hlt _ q.symm; omega)).mono ?_
  rintro e w3 ⟨r, rfl, hT, hg, hro⟩
  have bO3 := (bO.keep B0).grown hg hOv
  obtain ⟨x, y, rfl⟩ := hT.lenV
  have o0 := bO3.c 0 rfl
  have of0 := bO3.f 0 rfl
  have HG := Lib.hid (grown_trans (grown_below B0 v.ownBlock) hg)
  have HO := Lib.hid hro
  clear hg hro
  go_wp2
  go_end0
  exact ⟨rfl, w3, _, HG.out, hT, HO.out, rfl⟩
set_option maxHeartbeats 2000000 in
theorem irdd_any (v : Value) (L : List Ent) (da dn dp : Int) (w : World) (h : RdE w v L) (hln : ∀ j, j < L.length → (L.getD j e0).p.length ≤ 1048576 ∧ (L.getD j e0).c.length ≤ 1048576) :
    Calls Try.prog 27 #[.agg #[v], .agg #[.int .i64 da, .int .i64 dn], .int .i64 dp] w (NewRib w (dropD L da dn dp)) := by
  obtain ⟨a, c, rfl⟩ := h.len
  obtain ⟨bA, bC, bR, B0, z⟩ := three w [.slice a L.length c] [.int .i64 da, .int .i64 dn] [.slice none 0 0] 35 PT 35
  obtain ⟨R, hR⟩ : ∃ R, R = w.heap.size + 1 + 1 := ⟨_, rfl⟩
  have hwR : w.heap.size ≤ R := by omega
  cases hb : ribB L
  · rw [dropD_no hb]
    have HB := Lib.hid hb
    clear hb
    go_enter Try.func27, Try.ntmps27
    go_wp2_with fail
    refine (irib_t _ (h.keep B0) HB).mono ?_
    rintro e w1 ⟨rfl, hb1⟩
    replace bR := bR.keep hb1
    replace B0 := below_step B0 hb1
    rw [← hR] at bR
    try rw [← hR]
    clear hR
    have r0 := bR.c 0 rfl
    have rf0 := bR.f 0 rfl
    go_wp2
    have bE := bR.set 0 (.slice none 0 0)
    have e0 := bE.c 0 rfl
    exact bodyPost_ret (v := .agg #[.slice none 0 0]) (by simp [results, Try.results27, go_sem, e0]) rfl
      ⟨_, [], rfl, OwnT.nil _ _, rfl, B0.setCell (p := ⟨R, 0, none⟩) hwR _⟩
  · rw [dropD_yes hb]
    have HN : Hid (L.length ≤ 1048576) := Lib.hid (by have := ribB_len7 hb; omega)
    have HB := Lib.hid hb
    have HLN := Lib.hid hln
    clear hb hln
    go_enter Try.func27, Try.ntmps27
    go_wp2_with fail
    refine (irib_t _ (h.keep B0) HB).mono ?_
    rintro e w1 ⟨rfl, hb1⟩
    have hw1 : w.heap.size + 3 ≤ w1.heap.size := by rw [← z]; exact hb1.size
    replace bA := bA.keep hb1
    replace bC := bC.keep hb1
    replace bR := bR.keep hb1
    replace B0 := below_step B0 hb1
    obtain ⟨A, hA⟩ : ∃ A, A = w.heap.size := ⟨_, rfl⟩
    obtain ⟨C, hC⟩ : ∃ C, C = w.heap.size + 1 := ⟨_, rfl⟩
    have hC1 : C < w1.heap.size := by omega
    have hR1 : R < w1.heap.size := by omega
    have hwW : w.heap.size ≤ w1.heap.size := by omega
    rw [← hR] at bR
    try rw [← hR]
    rw [← hC] at bC
    try rw [← hC]
    rw [← hA] at bA
    try rw [← hA]
    clear hR hC hA z
    have a0 := bA.c 0 rfl
    go_wp2_with fail
    clear a0 bA
    refine (irc_any _ L w1 (h.keep B0) HN.out HLN.out).mono ?_
    rintro e w2 ⟨u, T, rfl, hT, hTE, hb2⟩
    obtain ⟨x, y, rfl⟩ := hT.lenV
    have HT := Lib.hid hTE
    have hTn : T.length ≤ 1048576 := by rw [← entT_len, hTE]; exact HN.out
    clear hTE
    have bO := Bl.new w2 [.slice x T.length y] 35 w2.heap.size rfl
    have N1 : Below w2.heap.size w2 (w2.alloc (.cells #[.slice x T.length y] 35)) := (Below.refl _ _).alloc (Nat.le_refl _) _
    have hOR : w2.heap.size ≠ R := by have := hb2.size; omega
    have hO2 : ∀ k, (Value.slice x T.length y).ownBlock = some k → k < w2.heap.size := fun k hk => (World.ownsRow.lt hT.row k hk).2
    have hTl := hT.lt
    have o0 := bO.c 0 rfl
    have c0 := ((bC.keep hb2).keep N1).c 0 rfl
    have c1 := ((bC.keep hb2).keep N1).c 1 rfl
    go_wp2_with fail
    clear o0 c0 c1
    obtain ⟨V, hV⟩ : ∃ V, V = w2.alloc (.cells #[.slice x T.length y] 35) := ⟨_, rfl⟩
    rw [← hV] at bO N1 ⊢
    have B1 := below_step (below_step B0 hb2) N1
    have hTV := hT.keep N1
    obtain ⟨O, hO⟩ : ∃ O, O = w2.heap.size := ⟨_, rfl⟩
    rw [← hO] at bO hOR hO2 hTl
    try rw [← hO]
    have hwO : w.heap.size ≤ O := by rw [hO]; exact Nat.le_trans hwW hb2.size
    clear hV hO
    refine (mdrop_any _ T da dn dp O w1.heap.size V hTV hTn bO (fun q => by have := hO2 O q.symm; omega)).mono ?_
    rintro e w4 ⟨rfl, w3, r, hg, hT3, hro, rfl⟩
    obtain ⟨x3, y3, rfl⟩ := hT3.lenV
    have bO3 := bO.grown hg (fun q => by have := hO2 O q.symm; omega)
    have bR3 := ((bR.keep hb2).keep N1).grown hg (neRow hTV.row hR1)
    have B3 := below_growT B1 hTV.row hwW hg
    obtain ⟨S, hS⟩ : ∃ S, S = T.filter (fun t : ET => !(isD da dn dp t.E)) := ⟨_, rfl⟩
    rw [← hS] at hT3 hro ⊢
    have HS := Lib.hid hS
    have bOs := bO3.set 0 (.slice x3 S.length y3)
    have bRs := bR3.far (o := 0) (u := .slice x3 S.length y3) hOR.symm
    have hT4 : OwnT (w3.setCell ⟨O, 0, none⟩ (.slice x3 S.length y3)) w1.heap.size (.slice x3 S.length y3) S := hT3.kept (grown_set w3 O 0 _) (by
      cases hv : (Value.slice x3 S.length y3).ownBlock with
      | none => exact .inl rfl
      | some k => exact .inr (by rw [hro] at hv; have := hO2 k hv; intro q; cases q; omega)) (fun t ht => by
      have hm := (hTl t (by rw [HS.out] at ht; exact (List.mem_filter.1 ht).1))
      constructor
      · cases hv : t.u.ownBlock with
        | none => exact .inl rfl
        | some k => exact .inr (by have := (hm.1 k hv).2; intro q; cases q; omega)
      · cases hv : t.v.ownBlock with
        | none => exact .inl rfl
        | some k => exact .inr (by have := (hm.2 k hv).2; intro q; cases q; omega))
    have B4 := B3.setCell (p := ⟨O, 0, none⟩) hwO (.slice x3 S.length y3)
    obtain ⟨W4, hW4⟩ : ∃ W4, W4 = w3.setCell ⟨O, 0, none⟩ (.slice x3 S.length y3) := ⟨_, rfl⟩
    rw [← hW4] at bOs bRs hT4 B4 ⊢
    have s0 := bOs.c 0 rfl
    have t0 := bRs.c 0 rfl
    have tf0 := bRs.f 0 rfl
    clear hT3 hg hro hTl hO2 hS B3 hW4 bO3 bR3
    go_wp2
    have bE := bRs.set 0 (.slice x3 S.length y3)
    have e0 := bE.c 0 rfl
    exact bodyPost_ret (v := .agg #[.slice x3 S.length y3]) (by simp [results, Try.results27, go_sem, e0]) rfl
      ⟨_, S, rfl, (hT4.far (B := R) (o := 0) (u := .slice x3 S.length y3) hR1).mono hwW, by rw [HS.out, ← HT.out]; exact entT_filter (fun G => !(isD da dn dp G)) T, B4.setCell (p := ⟨R, 0, none⟩) hwR (.slice x3 S.length y3)⟩
set_option maxHeartbeats 2000000 in
theorem srdd_any (v : Value) (L : List Ent) (da dn dp : Int) (w : World) (h : RdE w v L) (hln : ∀ j, j < L.length → (L.getD j e0).p.length ≤ 1048576 ∧ (L.getD j e0).c.length ≤ 1048576) :
    Calls Try.prog 26 #[.agg #[v], .agg #[.int .i64 da, .int .i64 dn], .int .i64 dp] w (NewRib w (dropD L da dn dp)) := by
  obtain ⟨a, c, rfl⟩ := h.len
  obtain ⟨bA, bC, bR, B0, z⟩ := three w [.slice a L.length c] [.int .i64 da, .int .i64 dn] [.slice none 0 0] 35 PT 35
  obtain ⟨R, hR⟩ : ∃ R, R = w.heap.size + 1 + 1 := ⟨_, rfl⟩
  have hwR : w.heap.size ≤ R := by omega
  cases hb : ribB L
  · rw [dropD_no hb]
    have HB := Lib.hid hb
    clear hb
    go_enter Try.func26, Try.ntmps26
    go_wp2_with fail
    refine (srib_t _ (h.keep B0) HB).mono ?_
    rintro e w1 ⟨rfl, hb1⟩
    replace bR := bR.keep hb1
    replace B0 := below_step B0 hb1
    rw [← hR] at bR
    try rw [← hR]
    clear hR
    have r0 := bR.c 0 rfl
    have rf0 := bR.f 0 rfl
    go_wp2
    have bE := bR.set 0 (.slice none 0 0)
    have e0 := bE.c 0 rfl
    exact bodyPost_ret (v := .agg #[.slice none 0 0]) (by simp [results, Try.results26, go_sem, e0]) rfl
      ⟨_, [], rfl, OwnT.nil _ _, rfl, B0.setCell (p := ⟨R, 0, none⟩) hwR _⟩
  · rw [dropD_yes hb]
    have HN : Hid (L.length ≤ 1048576) := Lib.hid (by have := ribB_len7 hb; omega)
    have HB := Lib.hid hb
    have HLN := Lib.hid hln
    clear hb hln
    go_enter Try.func26, Try.ntmps26
    go_wp2_with fail
    refine (srib_t _ (h.keep B0) HB).mono ?_
    rintro e w1 ⟨rfl, hb1⟩
    have hw1 : w.heap.size + 3 ≤ w1.heap.size := by rw [← z]; exact hb1.size
    replace bA := bA.keep hb1
    replace bC := bC.keep hb1
    replace bR := bR.keep hb1
    replace B0 := below_step B0 hb1
    obtain ⟨A, hA⟩ : ∃ A, A = w.heap.size := ⟨_, rfl⟩
    obtain ⟨C, hC⟩ : ∃ C, C = w.heap.size + 1 := ⟨_, rfl⟩
    have hR1 : R < w1.heap.size := by omega
    rw [← hR] at bR
    try rw [← hR]
    rw [← hC] at bC
    try rw [← hC]
    rw [← hA] at bA
    try rw [← hA]
    have hAw : w.heap.size ≤ A := by omega
    clear hR hC hA z
    have a0 := bA.c 0 rfl
    have c0 := bC.c 0 rfl
    have c1 := bC.c 1 rfl
    go_wp2_with fail
    clear a0 c0 c1 bA bC
    refine (sdrop_any _ L da dn dp w1 (h.keep B0) HN.out).mono ?_
    rintro e w2 ⟨u, rfl, hU, hb2⟩
    go_wp2_with fail
    refine (sown6_any u _ w2 hU (Nat.le_trans (List.length_filter_le _ _) HN.out) (lens_filter HLN.out)).mono ?_
    rintro e w3 ⟨r, T, rfl, hT, hTE, hb3⟩
    obtain ⟨x3, y3, rfl⟩ := hT.lenV
    have B3 := below_step (below_step B0 hb2) hb3
    have bR3 := (bR.keep hb2).keep hb3
    have hR2 : R < w2.heap.size := Nat.lt_of_lt_of_le hR1 hb2.size
    have hwW : w.heap.size ≤ w2.heap.size := by omega
    have r0 := bR3.c 0 rfl
    have rf0 := bR3.f 0 rfl
    have HT := Lib.hid hTE
    clear hTE hU
    go_wp2
    have bE := bR3.set 0 (.slice x3 T.length y3)
    have e0 := bE.c 0 rfl
    exact bodyPost_ret (v := .agg #[.slice x3 T.length y3]) (by simp [results, Try.results26, go_sem, e0]) rfl
      ⟨_, T, rfl, (hT.far hR2).mono hwW, HT.out, B3.setCell (p := ⟨R, 0, none⟩) hwR _⟩
end Go.Proofs.Ytbmjicdnphfgaaa
