/-
  Messages and ends of links are as they should be: of the model. Conditions: those in each contract.
-/
import Derived.Test.YtkodnipmogdgkabGreatFCk
namespace Go.Proofs.YtkodnipmogdgkabGreat
open Go.ChangeShapes Go.WideShapes Go.ChangeAt Go.RowKit Go.BigFrame Go.Joins
set_option linter.unusedVariables false
set_option maxRecDepth 100000
set_option maxRecDepth 100000
set_option linter.unusedSimpArgs false
set_option maxRecDepth 100000

def msB (l : List Mg) : Bool := (l.all fun m => updB m) && decide (l.length ≤ 500)
theorem smokM_t (gv cv pv mv : Value) (x : Mg) {b : Bool} (w : World) (h : RdM w gv cv pv mv x) (hw : wtM x ≤ 1048576) (H : Hid (mokM x = b)) :
    Calls Tryz.prog 52 #[.agg #[.int .i64 x.kn, .int .i64 x.sa, .int .i64 x.ho, .int .i64 x.ix, gv, cv, pv, .int .i64 x.pr, mv, .int .i64 x.bw, .int .i64 x.er]] w fun e w' => e = .returned (.bool b) ∧ Below w.heap.size w w' := H.out ▸ smokM_any gv cv pv mv x w h hw
set_option maxHeartbeats 1000000 in
theorem smsgs_any (v : Value) (l : List Mg) (w : World) (h : RdMS w v l) (hw : ∀ m ∈ l, wtM m ≤ 1048576) :
    Calls Tryz.prog 24 #[v] w fun e w' => e = .returned (.bool (msB l)) ∧ Below w.heap.size w w' := by
  have hm := h.1; obtain ⟨a, c, rfl, hc⟩ := h.el; obtain ⟨n, hn⟩ : ∃ n, n = l.length := ⟨_, rfl⟩; rw [← hn] at hc hm ⊢; have HN := Lib.hid hn; have HW := Lib.hid hw; clear h hn hw
  go_enter Tryz.func24, Tryz.ntmps24
  go_wp2
  go_loopw [3] (fun q wr => ∃ j : Nat, j ≤ n ∧ q = .int .i64 j ∧ (∀ i, i < j → updB (l.getD i m0) = true) ∧ Below w.heap.size w wr) (fun q _ => n - (intOf q).toNat)
  case atStart => exact ⟨0, Nat.zero_le _, rfl, fun i hi => by omega, Below.refl _ _⟩
  case round =>
    obtain ⟨j, hj, rfl, hyes, hB⟩ := hrel; have HY := Lib.hid hyes; clear hyes
    by_cases hlt : j < n
    · have hltI : (j : Int) < (n : Int) := by omega
      obtain ⟨b, o, rfl, hE⟩ := hc j hlt; obtain ⟨x, hx⟩ : ∃ x, l.getD j m0 = x := ⟨_, rfl⟩; rw [hx] at hE; obtain ⟨gv, cv, pv, mv, hr, g0, g1, g2, g3, g4, g5, g6, g7, g8, g9, g10⟩ := hE.keep hB
      have HXM : Hid (x ∈ l) := Lib.hid (by
        rw [← hx, List.getD_eq_getElem?_getD, List.getElem?_eq_getElem (by rw [← HN.out]; exact hlt)]
        exact List.getElem_mem _)
      have HX := Lib.hid hx; have HC := Lib.hid hc; clear hx hc hE
      have no : updB x = false → msB l = false := fun q => by
        unfold msB; rw [show (l.all fun m => updB m) = false from List.all_eq_false.2 ⟨x, HXM.out, by rw [q]; simp⟩]
        rfl
      have NO := Lib.hid no; clear no; cases hk : mokM x
      · have hu : updB x = false := by unfold updB; rw [hk, Bool.and_false]
        have HU := Lib.hid hu; have HK := Lib.hid hk; clear hu hk; go_wp2_with fail; refine (smokM_t gv cv pv mv x wr hr (HW.out x HXM.out) HK).mono ?_; rintro e w1 ⟨rfl, hb1⟩; go_wp2
        go_ret
        exact ⟨ret_bool (NO.out HU.out).symm, below_step hB hb1⟩
      · cases hkn : (x.kn == 2)
        · have hu : updB x = false := by unfold updB; rw [hkn, Bool.false_and]
          have hne : (x.kn != 2) = true := by simp [bne, hkn]
          have HU := Lib.hid hu; have HK := Lib.hid hk; have HKN := Lib.hid hkn; clear hu hk hkn; go_wp2_with fail; refine (smokM_t gv cv pv mv x wr hr (HW.out x HXM.out) HK).mono ?_; rintro e w1 ⟨rfl, hb1⟩; replace g0 := cell_keep hb1 (World.block_lt_of_cell? wr _ g0) g0; go_wp2
          go_ret
          exact ⟨ret_bool (NO.out HU.out).symm, below_step hB hb1⟩
        · have hu : updB x = true := by unfold updB; rw [hkn, hk]; rfl
          have hne : (x.kn != 2) = false := by simp [bne, hkn]
          have HU := Lib.hid hu; have HK := Lib.hid hk; have HKN := Lib.hid hkn; clear hu hk hkn; go_wp2_with fail; refine (smokM_t gv cv pv mv x wr hr (HW.out x HXM.out) HK).mono ?_; rintro e w1 ⟨rfl, hb1⟩; replace g0 := cell_keep hb1 (World.block_lt_of_cell? wr _ g0) g0; go_wp2
          go_roundw
          case rel =>
            refine ⟨j + 1, by omega, by go_num, fun i hi => ?_, below_step hB hb1⟩
            by_cases hij : i = j
            · subst hij; rw [HX.out]; exact HU.out
            · exact HY.out i (by omega)
          case measure => simp [intOf]; omega
    · have hkn : j = n := by omega
      subst hkn; clear hc
      have e : (l.all fun m => updB m) = true := by
        rw [List.all_eq_true]; intro x hx; obtain ⟨i, hi, e⟩ := List.mem_iff_getElem.1 hx; have := HY.out i (by rw [HN.out]; exact hi); rw [List.getD_eq_getElem?_getD, List.getElem?_eq_getElem hi] at this; rw [← e]
        exact this
      have e2 : msB l = decide (j ≤ 500) := by unfold msB; rw [e, Bool.true_and, HN.out]
      have hd : decide ((j : Int) ≤ 500) = decide (j ≤ 500) := by simp only [decide_eq_decide]; omega
      have E2 := Lib.hid (hd.trans e2.symm); clear e e2 hd; go_wp2
      go_ret
      exact ⟨ret_bool E2.out, hB⟩
/-- the ends of a link are there and differ -/
def linkB (n : Nat) (x : Lk) : Bool := decide (0 ≤ x.a ∧ x.a < n ∧ 0 ≤ x.b ∧ x.b < n ∧ x.a ≠ x.b) && (inB x.ai 0 7 && inB x.bi 0 7)
def endsL (L : List Lk) : List (Int × Int) := L.flatMap fun x => [(x.a, x.ai), (x.b, x.bi)]
theorem endsL_take {L : List Lk} {j : Nat} {x : Lk} (hj : j < L.length) (hx : L.getD j l0 = x) : endsL (L.take (j + 1)) = endsL (L.take j) ++ [(x.a, x.ai), (x.b, x.bi)] := by
  have hg : L[j] = x := by simpa [List.getD, hj] using hx
  rw [List.take_add_one, List.getElem?_eq_getElem hj, hg]
  simp [endsL]
/-- the place of an end -/
def idx (p : Int × Int) : Nat := (p.1 * 8 + p.2).toNat
def usedC (l : List (Int × Int)) : List Value := (List.range 64).map fun i => .bool (l.any fun p => decide (idx p = i))
theorem usedC_get (l : List (Int × Int)) {i : Nat} (h : i < 64) : (usedC l)[i]? = some (.bool (l.any fun p => decide (idx p = i))) := by
  simp [usedC, List.getElem?_map, List.getElem?_range h]
theorem usedC_set (l : List (Int × Int)) (p : Int × Int) : (usedC l).set (idx p) (.bool true) = usedC (l ++ [p]) := by
  apply List.ext_getElem?
  intro i
  by_cases hi : i < 64
  · rw [usedC_get _ hi, List.getElem?_set, usedC_get _ hi]
    by_cases e : idx p = i
    · simp [e, usedC, hi]
    · rw [if_neg e]
      simp [e]
  · have h1 : (usedC (l ++ [p])).length = 64 := by simp [usedC]
    have h2 : ((usedC l).set (idx p) (.bool true)).length = 64 := by simp [usedC]
    rw [List.getElem?_eq_none (by omega), List.getElem?_eq_none (by omega)]
/-- ends in range lie at their own places -/
def okP9 (p : Int × Int) : Prop := 0 ≤ p.1 ∧ p.1 < 8 ∧ 0 ≤ p.2 ∧ p.2 < 8
theorem idx_inj {p q : Int × Int} (hp : okP9 p) (hq : okP9 q) (h : idx p = idx q) : p = q := by
  obtain ⟨a1, a2, a3, a4⟩ := hp; obtain ⟨b1, b2, b3, b4⟩ := hq; unfold idx at h
  apply Prod.ext <;> omega
theorem idx_any {l : List (Int × Int)} {p : Int × Int} (hl : ∀ q ∈ l, okP9 q) (hp : okP9 p) : (l.any fun q => decide (idx q = idx p)) = decide (p ∈ l) := by
  by_cases h : p ∈ l
  · rw [decide_eq_true h, List.any_eq_true]
    exact ⟨p, h, by simp⟩
  · rw [decide_eq_false h, List.any_eq_false]
    intro q hq e
    exact h (idx_inj (hl q hq) hp (of_decide_eq_true e) ▸ hq)
theorem siface8 {n : Int} {b : Bool} (w : World) (H : Hid (inB n 0 7 = b)) : Calls Tryz.prog 44 #[.int .i64 n] w fun e w' => e = .returned (.bool b) ∧ w = w' := by
  have h := H.out; unfold inB at h
  by_cases h0 : 0 ≤ n
  · by_cases h7 : n < 8
    · have hb : Hid (b = true) := Lib.hid (by rw [← h]; simp; omega)
      clear h
      go_enter Tryz.func44, Tryz.ntmps44
      go_wp2
      go_ret
      exact ⟨ret_bool hb.out.symm, rfl⟩
    · have hb : Hid (b = false) := Lib.hid (by rw [← h]; simp; omega)
      clear h
      go_enter Tryz.func44, Tryz.ntmps44
      go_wp2
      go_ret
      exact ⟨ret_bool hb.out.symm, rfl⟩
  · have hb : Hid (b = false) := Lib.hid (by rw [← h]; simp; omega)
    clear h
    go_enter Tryz.func44, Tryz.ntmps44
    go_wp2
    go_ret
    exact ⟨ret_bool hb.out.symm, rfl⟩
theorem make_64 (w : World) : (Instr.makeSlice 86 (.int .i64 64) (.int .i64 64)).run Tryz.prog w = .ok (.slice (some ⟨w.heap.size, 0, none⟩) 64 64) (w.alloc (.cells (madeCells #[Value.bool false] 64) 4)) := by
  obtain ⟨i, hi, hzz⟩ := Option.map_eq_some_iff.1 (show (Tryz.prog.info? 4).map (fun i => (i.zero, i.size, i.bytes)) = some (some (.bool false), 1, 1) by kernel_rfl); simp only [Prod.mk.injEq] at hzz; obtain ⟨hz, hs, hb⟩ := hzz; have hr := run_make (P := Tryz.prog) w 86 4 i _ Tryz.underlying86 hi hz .i64 .i64 64 64 (by omega) (Int.le_refl _) (by rw [hb]; omega) (by omega)
  simpa [hs, Value.cells] using hr
theorem used_0 : (madeCells #[Value.bool false] 64).toList = usedC [] := by
  first
  | kernel_rfl
  | simp [madeCells, usedC, Nat.mod_one]
def lendB (n : Nat) (L : List Lk) : Bool := (L.all fun x => linkB n x) && decide (endsL L).Nodup
theorem lend_no {n : Nat} {L : List Lk} {x : Lk} (hx : x ∈ L) (h : linkB n x = false) : lendB n L = false := by
  unfold lendB; rw [show (L.all fun x => linkB n x) = false from List.all_eq_false.2 ⟨x, hx, by rw [h]; simp⟩]
  rfl
theorem lend_dup {n j : Nat} {L : List Lk} {x : Lk} (h : endsL (L.take (j + 1)) = endsL (L.take j) ++ [(x.a, x.ai), (x.b, x.bi)]) (hd : (x.a, x.ai) ∈ endsL (L.take j) ∨ (x.b, x.bi) ∈ endsL (L.take j)) : lendB n L = false := by
  have hn : ¬ (endsL L).Nodup := by
    intro q
    have h1 : (endsL (L.take (j + 1))).Nodup := by
      have : endsL L = endsL (L.take (j + 1)) ++ endsL (L.drop (j + 1)) := by
        unfold endsL; rw [← List.flatMap_append, List.take_append_drop]
      rw [this, List.nodup_append] at q
      exact q.1
    rw [h, List.nodup_append] at h1
    rcases hd with hd | hd
    · exact h1.2.2 _ hd _ (by simp) rfl
    · exact h1.2.2 _ hd _ (by simp) rfl
  unfold lendB; rw [decide_eq_false hn, Bool.and_false]
set_option maxHeartbeats 4000000 in
theorem sends_any (nv lv : Value) (F : Fb) (w : World) (hN : RdNS w nv F.nodes) (h : RdLS w lv F.links) (hn8 : F.nodes.length ≤ 8) :
    Calls Tryz.prog 22 #[.agg #[nv, lv, .int .i64 F.width]] w fun e w' => e = .returned (.bool (lendB F.nodes.length F.links)) ∧ Below w.heap.size w w' := by
  have hml := h.1; obtain ⟨na, nx, rfl⟩ := hN.len; obtain ⟨a, c, rfl, hc⟩ := h.el; obtain ⟨n, hn⟩ : ∃ n, n = F.nodes.length := ⟨_, rfl⟩; obtain ⟨m, hm⟩ : ∃ m, m = F.links.length := ⟨_, rfl⟩; rw [← hn] at hn8 ⊢; rw [← hm] at hc hml ⊢; have HM := Lib.hid hm; clear h hm hn hN; have hmk := make_64; obtain ⟨bF, B0, z⟩ := one w [.slice na n nx, .slice a m c, .int .i64 F.width] 33; have B1 : Below w.heap.size w ((w.alloc (.cells #[.slice na n nx, .slice a m c, .int .i64 F.width] 33)).alloc (.cells (madeCells #[Value.bool false] 64) 4)) := below_step B0 ((Below.refl _ _).alloc (Nat.le_refl _) _); have bU0 := Bl.new (w.alloc (.cells #[.slice na n nx, .slice a m c, .int .i64 F.width] 33)) (madeCells #[Value.bool false] 64).toList 4 (w.heap.size + 1) z.symm; rw [used_0] at bU0; rw [show (usedC []).toArray = madeCells #[Value.bool false] 64 by rw [← used_0]] at bU0; replace bF := bF.keep ((Below.refl _ _).alloc (Nat.le_refl _) (.cells (madeCells #[Value.bool false] 64) 4))
  go_enter Tryz.func22, Tryz.ntmps22
  go_wp2; obtain ⟨W1, hW⟩ : ∃ W, W = (w.alloc (.cells #[.slice na n nx, .slice a m c, .int .i64 F.width] 33)).alloc (.cells (madeCells #[Value.bool false] 64) 4) := ⟨_, rfl⟩; obtain ⟨U, hU⟩ : ∃ U, U = w.heap.size + 1 := ⟨_, rfl⟩; rw [← hW] at B1 bU0 bF ⊢; rw [← hU] at bU0 ⊢; have hwU : w.heap.size ≤ U := by omega
  have hFU : w.heap.size ≠ U := by omega
  clear hW hU hmk B0 z
  go_loopw [4] (fun q wr => ∃ j : Nat, j ≤ m ∧ q = .int .i64 j ∧ (∀ i, i < j → linkB n (F.links.getD i l0) = true) ∧ (endsL (F.links.take j)).Nodup ∧ Bl wr U (usedC (endsL (F.links.take j))) ∧ Bl wr w.heap.size [.slice na n nx, .slice a m c, .int .i64 F.width] ∧ Below w.heap.size w wr) (fun q _ => m - (intOf q).toNat)
  case atStart => exact ⟨0, Nat.zero_le _, rfl, fun i hi => by omega, by simp [endsL], bU0, bF, B1⟩
  case round =>
    obtain ⟨j, hj, rfl, hyes, hnd, bU, bF1, hB⟩ := hrel; have HY := Lib.hid hyes; have HND := Lib.hid hnd; clear hyes hnd bU0 bF; have f0 := bF1.c 0 rfl; have f1 := bF1.c 1 rfl
    by_cases hlt : j < m
    · have hltI : (j : Int) < (m : Int) := by omega
      obtain ⟨b, o, rfl, hE⟩ := hc j hlt; obtain ⟨x, hx⟩ : ∃ x, F.links.getD j l0 = x := ⟨_, rfl⟩; rw [hx] at hE; obtain ⟨sv, tv, hr, k0, k1, k2, k3, k4, k5, k6⟩ := hE.keep hB; obtain ⟨av, ax, rfl⟩ := hr.1.len; obtain ⟨bv, bx, rfl⟩ := hr.2.len
      have HXM : Hid (x ∈ F.links) := Lib.hid (by
        rw [← hx, List.getD_eq_getElem?_getD, List.getElem?_eq_getElem (by rw [← HM.out]; exact hlt)]
        exact List.getElem_mem _)
      have HT := Lib.hid (endsL_take (by rw [← HM.out]; exact hlt) hx); have HX := Lib.hid hx; have HC := Lib.hid hc
      have HOKL : Hid (∀ q ∈ endsL (F.links.take j), okP9 q) := Lib.hid (fun q hq => by
        obtain ⟨y, hy, hq⟩ := List.mem_flatMap.1 hq; obtain ⟨i, hi, e⟩ := List.mem_iff_getElem.1 hy; have hi2 : i < j := by rw [List.length_take] at hi; omega
        have hl := HY.out i hi2; have hi3 : i < F.links.length := by rw [List.length_take] at hi; omega
        rw [List.getElem_take] at e; rw [List.getD_eq_getElem?_getD, List.getElem?_eq_getElem hi3, show (some (F.links[i]'hi3)).getD l0 = F.links[i]'hi3 from rfl, e] at hl; unfold linkB inB at hl
        simp at hl
        simp only [List.mem_cons, List.not_mem_nil, or_false] at hq; unfold okP9
        rcases hq with rfl | rfl <;> dsimp only <;> omega)
      have no : linkB n x = false → lendB n F.links = false := lend_no HXM.out; have NO := Lib.hid no; have A1 : Below wr.heap.size wr (wr.alloc (.cells #[.int .i64 x.a, .int .i64 x.ai, .int .i64 x.b, .int .i64 x.bi, .bool x.up, .slice av x.ab.length ax, .slice bv x.ba.length bx] 74)) := (Below.refl _ _).alloc (Nat.le_refl _) _; have bP := Bl.new wr [.int .i64 x.a, .int .i64 x.ai, .int .i64 x.b, .int .i64 x.bi, .bool x.up, .slice av x.ab.length ax, .slice bv x.ba.length bx] 74 wr.heap.size rfl; have bU2 := bU.keep A1; have bF2 := bF1.keep A1; have p0 := bP.c 0 rfl; have p1 := bP.c 1 rfl; have p2 := bP.c 2 rfl; have p3 := bP.c 3 rfl; clear hx hc hE hr no; have q0 := bF2.c 0 rfl
      by_cases c1 : x.a < 0
      · have hnk : linkB n x = false := by
          unfold linkB; rw [decide_eq_false (by omega), Bool.false_and]
        have HNK := Lib.hid hnk; clear hnk; go_wp2
        go_ret
        exact ⟨ret_bool (NO.out HNK.out).symm, below_step hB A1⟩
      · by_cases c2 : (n : Int) ≤ x.a
        · have hnk : linkB n x = false := by
            unfold linkB; rw [decide_eq_false (by omega), Bool.false_and]
          have HNK := Lib.hid hnk; clear hnk; go_wp2
          go_ret
          exact ⟨ret_bool (NO.out HNK.out).symm, below_step hB A1⟩
        · by_cases c3 : x.b < 0
          · have hnk : linkB n x = false := by
              unfold linkB; rw [decide_eq_false (by omega), Bool.false_and]
            have HNK := Lib.hid hnk; clear hnk; go_wp2
            go_ret
            exact ⟨ret_bool (NO.out HNK.out).symm, below_step hB A1⟩
          · by_cases c4 : (n : Int) ≤ x.b
            · have hnk : linkB n x = false := by
                unfold linkB; rw [decide_eq_false (by omega), Bool.false_and]
              have HNK := Lib.hid hnk; clear hnk; go_wp2
              go_ret
              exact ⟨ret_bool (NO.out HNK.out).symm, below_step hB A1⟩
            · by_cases c5 : x.a = x.b
              · have hnk : linkB n x = false := by
                  unfold linkB; rw [decide_eq_false (by omega), Bool.false_and]
                have HNK := Lib.hid hnk; clear hnk; have hbe : (x.a == x.b) = true := by simp [c5]
                have C5 := Lib.hid c5; clear c5; go_wp2
                go_ret
                exact ⟨ret_bool (NO.out HNK.out).symm, below_step hB A1⟩
              · have hbe : (x.a == x.b) = false := by simp [c5]
                cases hi1 : inB x.ai 0 7
                · have hnk : linkB n x = false := by
                    unfold linkB; rw [hi1, Bool.false_and, Bool.and_false]
                  have HNK := Lib.hid hnk; clear hnk; have HI1 := Lib.hid hi1; clear hi1; go_wp2_with fail; refine (siface8 _ HI1).mono ?_; rintro e wz ⟨rfl, rfl⟩; go_wp2
                  go_ret
                  exact ⟨ret_bool (NO.out HNK.out).symm, below_step hB A1⟩
                · cases hi2 : inB x.bi 0 7
                  · have hnk : linkB n x = false := by
                      unfold linkB; rw [hi1, hi2, Bool.and_false, Bool.and_false]
                    have HNK := Lib.hid hnk; clear hnk; have HI1 := Lib.hid hi1; have HI2 := Lib.hid hi2; clear hi1 hi2; go_wp2_with fail; refine (siface8 _ HI1).mono ?_; rintro e wz ⟨rfl, rfl⟩; go_wp2_with fail; refine (siface8 _ HI2).mono ?_; rintro e wz ⟨rfl, rfl⟩; go_wp2
                    go_ret
                    exact ⟨ret_bool (NO.out HNK.out).symm, below_step hB A1⟩
                  · have hyes : linkB n x = true := by
                      unfold linkB; rw [hi1, hi2, decide_eq_true (by omega)]
                      rfl
                    have hai : 0 ≤ x.ai ∧ x.ai ≤ 7 := by unfold inB at hi1; simp at hi1; omega
                    have hbi : 0 ≤ x.bi ∧ x.bi ≤ 7 := by unfold inB at hi2; simp at hi2; omega
                    have ok1 : okP9 (x.a, x.ai) := by unfold okP9; dsimp only; omega
                    have ok2 : okP9 (x.b, x.bi) := by unfold okP9; dsimp only; omega
                    obtain ⟨ka, hka⟩ : ∃ k, k = idx (x.a, x.ai) := ⟨_, rfl⟩; obtain ⟨kb, hkb⟩ : ∃ k, k = idx (x.b, x.bi) := ⟨_, rfl⟩; have hka2 : (ka : Int) = x.a * 8 + x.ai := by rw [hka]; unfold idx; dsimp only; omega
                    have hkb2 : (kb : Int) = x.b * 8 + x.bi := by rw [hkb]; unfold idx; dsimp only; omega
                    have hkaI : (ka : Int) < 64 := by omega
                    have hkbI : (kb : Int) < 64 := by omega
                    have hkaN : ka < 64 := by omega
                    have hkbN : kb < 64 := by omega
                    have hw1 : IntKind.i64.wrap (x.a * 8) = x.a * 8 := wrap64_in _ (by omega) (by omega); have hw2 : IntKind.i64.wrap (x.a * 8 + x.ai) = (ka : Int) := by rw [hka2]; exact wrap64_in _ (by omega) (by omega)
                    have hw3 : IntKind.i64.wrap (x.b * 8) = x.b * 8 := wrap64_in _ (by omega) (by omega); have hw4 : IntKind.i64.wrap (x.b * 8 + x.bi) = (kb : Int) := by rw [hkb2]; exact wrap64_in _ (by omega) (by omega)
                    have HI1 := Lib.hid hi1; have HI2 := Lib.hid hi2; have HYES := Lib.hid hyes; have HKA := Lib.hid hka; have HKB := Lib.hid hkb; have HOK := Lib.hid (And.intro ok1 ok2); clear hi1 hi2 hyes hka hkb hka2 hkb2 ok1 ok2 hai hbi; go_wp2_with fail; refine (siface8 _ HI1).mono ?_; rintro e wz ⟨rfl, rfl⟩; go_wp2_with fail; refine (siface8 _ HI2).mono ?_; rintro e wz ⟨rfl, rfl⟩; obtain ⟨V, hV⟩ : ∃ V, V = wr.alloc (.cells #[.int .i64 x.a, .int .i64 x.ai, .int .i64 x.b, .int .i64 x.bi, .bool x.up, .slice av x.ab.length ax, .slice bv x.ba.length bx] 74) := ⟨_, rfl⟩; go_wp2_with fail; rw [← hV] at A1 bP bU2 bF2 ⊢; clear hV p0 p1 p2 p3; refine wp_region_class (C := Over (V)) (by kernel_rfl) (by kernel_rfl) (over_drew _) ?_
                    repeat (first | go_big_quiet_skip | (go_big_quiet_want; go_big_quiet_op; go_big_quiet_on) | (go_big_quiet_want; apply Exists.intro; refine ⟨fun w' hC => ?_, ?_⟩; (have k0 := over_cell hC bP.lt (bP.c 0 rfl); have k1 := over_cell hC bP.lt (bP.c 1 rfl); have k2 := over_cell hC bP.lt (bP.c 2 rfl); have k3 := over_cell hC bP.lt (bP.c 3 rfl); simp [Oper.quietAt, Oper.quietUpon, go_sem, k0, k1, k2, k3, hw1, hw2, hw3, hw4]; first | done | rfl); go_big_quiet_on; simp only [Act.put, List.setIfInBounds_toArray, List.set_cons_zero, List.set_cons_succ]))
                    refine wpQuiet_nil ?_; intro wr hC; have k0 := over_cell hC bP.lt (bP.c 0 rfl); have k1 := over_cell hC bP.lt (bP.c 1 rfl); have k2 := over_cell hC bP.lt (bP.c 2 rfl); have k3 := over_cell hC bP.lt (bP.c 3 rfl); obtain ⟨W2, rfl⟩ : ∃ x : World, x = wr := ⟨_, rfl⟩; have bU3 := bU2.keep hC; have bF3 := bF2.keep hC; have hB2 := below_step (below_step hB A1) hC; have ha1 : (endsL (F.links.take j)).any (fun q => decide (idx q = ka)) = decide ((x.a, x.ai) ∈ endsL (F.links.take j)) := by rw [HKA.out]; exact idx_any HOKL.out HOK.out.1
                    have ha2 : (endsL (F.links.take j)).any (fun q => decide (idx q = kb)) = decide ((x.b, x.bi) ∈ endsL (F.links.take j)) := by rw [HKB.out]; exact idx_any HOKL.out HOK.out.2
                    have u1 := bU3.c ka (usedC_get _ hkaN); have u2 := bU3.c kb (usedC_get _ hkbN); rw [ha1] at u1; rw [ha2] at u2; clear ha1 ha2 k0 k1 k2 k3 bP hC A1; cases d1 : decide ((x.a, x.ai) ∈ endsL (F.links.take j))
                    · rw [d1] at u1
                      cases d2 : decide ((x.b, x.bi) ∈ endsL (F.links.take j))
                      · rw [d2] at u2
                        have HD := Lib.hid (And.intro (of_decide_eq_false d1) (of_decide_eq_false d2)); clear d1 d2; have hkab : ka ≠ kb := fun q => c5 (Prod.mk.inj (idx_inj HOK.out.1 HOK.out.2 (by rw [← HKA.out, ← HKB.out]; exact q))).1
                        have hkba : kb ≠ ka := hkab.symm; have v1 := bU3.f ka (usedC_get _ hkaN); have v2 := bU3.f kb (usedC_get _ hkbN); go_wp2; have bU4 := (bU3.set ka (.bool true)).set kb (.bool true); rw [HKA.out, HKB.out, usedC_set, usedC_set] at bU4; rw [← HKA.out, ← HKB.out] at bU4; have hB3 := (hB2.setCell (p := ⟨U, ka, none⟩) hwU (.bool true)).setCell (p := ⟨U, kb, none⟩) hwU (.bool true); have bF4 := (bF3.far (o := ka) (u := .bool true) hFU).far (o := kb) (u := .bool true) hFU; have HB4 := Lib.hid (And.intro bU4 bF4); clear bU4 bF4
                        go_roundw
                        case rel =>
                          refine ⟨j + 1, by omega, by go_num, fun i hi => ?_, ?_, ?_, HB4.out.2, hB3⟩
                          · by_cases hij : i = j
                            · subst hij; rw [HX.out]; exact HYES.out
                            · exact HY.out i (by omega)
                          · rw [HT.out, List.nodup_append]
                            refine ⟨HND.out, ?_, fun p hp q hq => ?_⟩
                            · have : (x.a, x.ai) ≠ (x.b, x.bi) := fun q => c5 (Prod.mk.inj q).1
                              simp [this]
                            · rintro rfl
                              simp only [List.mem_cons, List.not_mem_nil, or_false] at hq
                              rcases hq with rfl | rfl
                              · exact HD.out.1 hp
                              · exact HD.out.2 hp
                          · rw [HT.out, show endsL (F.links.take j) ++ [(x.a, x.ai), (x.b, x.bi)] = (endsL (F.links.take j) ++ [(x.a, x.ai)]) ++ [(x.b, x.bi)] by simp]
                            exact HB4.out.1
                        case measure => simp [intOf]; omega
                      · rw [d2] at u2
                        have HD := Lib.hid (of_decide_eq_true d2); clear d1 d2; go_wp2
                        go_ret
                        exact ⟨ret_bool (lend_dup HT.out (.inr HD.out)).symm, hB2⟩
                    · rw [d1] at u1
                      have HD := Lib.hid (of_decide_eq_true d1); clear d1 u2; go_wp2
                      go_ret
                      exact ⟨ret_bool (lend_dup HT.out (.inl HD.out)).symm, hB2⟩
    · have hkn : j = m := by omega
      subst hkn; have HTT : Hid (F.links.take j = F.links) := Lib.hid (List.take_of_length_le (by rw [HM.out]; exact Nat.le_refl _)); clear hc
      have e : lendB n F.links = true := by
        unfold lendB
        rw [show (F.links.all fun x => linkB n x) = true from List.all_eq_true.2 fun x hx => by
          obtain ⟨i, hi, e⟩ := List.mem_iff_getElem.1 hx; have := HY.out i (by rw [HM.out]; exact hi); rw [List.getD_eq_getElem?_getD, List.getElem?_eq_getElem hi] at this; rw [← e]
          exact this, Bool.true_and, decide_eq_true_iff]
        have := HND.out
        rwa [HTT.out] at this
      have E := Lib.hid e; clear e; go_wp2
      go_ret
      exact ⟨ret_bool E.out.symm, hB⟩
end Go.Proofs.YtkodnipmogdgkabGreat
