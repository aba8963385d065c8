/-
  Messages and ends of links are as they should be: of the model. Conditions: those in each contract.
  FabricOk of the model. Conditions: those in each contract.
  Mark, of the model and of the program. Conditions: those in each contract.
  Mark of the program. Conditions: those in each contract.
  How many marks a fabric bears. Conditions: those in each contract.
-/
import Derived.Test.YtkodnipmogdgkaaGreatFWo
import Derived.Test.YtkodnipmogdgkaaGreatFWp
import Derived.Test.YtkodnipmogdgkaaGreatFWk
namespace Go.Proofs.YtkodnipmogdgkaaGreat
open Go.ChangeShapes Go.WideShapes Go.ChangeAt Go.RowKit Go.BigFrame Go.Joins
set_option linter.unusedVariables false
set_option maxRecDepth 100000
set_option maxRecDepth 100000
set_option linter.unusedSimpArgs false
set_option maxRecDepth 100000

def msB (l : List Mg) : Bool := (l.all fun m => updB m) && decide (l.length ≤ 500)
theorem smokM_t (gv cv pv mv : Value) (x : Mg) {b : Bool} (w : World) (h : RdM w gv cv pv mv x) (hw : wtM x ≤ 1048576) (H : Hid (mokM x = b)) :
    Calls Tryz.prog 126 #[.agg #[.int .i64 x.kn, .int .i64 x.sa, .int .i64 x.ho, .int .i64 x.ix, gv, cv, pv, .int .i64 x.pr, mv, .int .i64 x.bw, .int .i64 x.er]] w fun e w' => e = .returned (.bool b) ∧ Below w.heap.size w w' := H.out ▸ smokM_any gv cv pv mv x w h hw
set_option maxHeartbeats 1000000 in
theorem smsgs_any (v : Value) (l : List Mg) (w : World) (h : RdMS w v l) (hw : ∀ m ∈ l, wtM m ≤ 1048576) :
    Calls Tryz.prog 75 #[v] w fun e w' => e = .returned (.bool (msB l)) ∧ Below w.heap.size w w' := by
  have hm := h.1; obtain ⟨a, c, rfl, hc⟩ := h.el; obtain ⟨n, hn⟩ : ∃ n, n = l.length := ⟨_, rfl⟩; rw [← hn] at hc hm ⊢; have HN := Lib.hid hn; have HW := Lib.hid hw; clear h hn hw
  go_enter Tryz.func75, Tryz.ntmps75
  go_wp2
  go_loopw [3] (fun q wr => ∃ j : Nat, j ≤ n ∧ q = .int .i64 j ∧ (∀ i, i < j → updB (l.getD i m0) = true) ∧ Below w.heap.size w wr) (fun q _ => n - (intOf q).toNat)
  case atStart => exact ⟨0, Nat.zero_le _, rfl, fun i hi => by omega, Below.refl _ _⟩
  case round =>
    obtain ⟨j, hj, rfl, hyes, hB⟩ := hrel; have HY := Lib.hid hyes; clear hyes
    by_cases hlt : j < n
    · have hltI : (j : Int) < (n : Int) := by omega
      obtain ⟨b, o, rfl, hE⟩ := hc j hlt; obtain ⟨x, hx⟩ : ∃ x, l.getD j m0 = x := ⟨_, rfl⟩; rw [hx] at hE; obtain ⟨gv, cv, pv, mv, hr, g0, g1, g2, g3, g4, g5, g6, g7, g8, g9, g10⟩ := hE.keep hB
      have HXM : Hid (x ∈ l) := Lib.hid (by
        rw [← hx, List.getD_eq_getElem?_getD, List.getElem?_eq_getElem (by rw [← HN.out]; exact hlt)]
        exact List.getElem_mem _)
      have HX := Lib.hid hx; have HC := Lib.hid hc; clear hx hc hE
      have no : updB x = false → msB l = false := fun q => by
        unfold msB; rw [show (l.all fun m => updB m) = false from List.all_eq_false.2 ⟨x, HXM.out, by rw [q]; simp⟩]
        rfl
      have NO := Lib.hid no; clear no; cases hk : mokM x
      · have hu : updB x = false := by unfold updB; rw [hk, Bool.and_false]
        have HU := Lib.hid hu; have HK := Lib.hid hk; clear hu hk; go_wp2_with fail; refine (smokM_t gv cv pv mv x wr hr (HW.out x HXM.out) HK).mono ?_; rintro e w1 ⟨rfl, hb1⟩; go_wp2
        go_ret
        exact ⟨ret_bool (NO.out HU.out).symm, below_step hB hb1⟩
      · cases hkn : (x.kn == 2)
        · have hu : updB x = false := by unfold updB; rw [hkn, Bool.false_and]
          have hne : (x.kn != 2) = true := by simp [bne, hkn]
          have HU := Lib.hid hu; have HK := Lib.hid hk; have HKN := Lib.hid hkn; clear hu hk hkn; go_wp2_with fail; refine (smokM_t gv cv pv mv x wr hr (HW.out x HXM.out) HK).mono ?_; rintro e w1 ⟨rfl, hb1⟩; replace g0 := cell_keep hb1 (World.block_lt_of_cell? wr _ g0) g0; go_wp2
          go_ret
          exact ⟨ret_bool (NO.out HU.out).symm, below_step hB hb1⟩
        · have hu : updB x = true := by unfold updB; rw [hkn, hk]; rfl
          have hne : (x.kn != 2) = false := by simp [bne, hkn]
          have HU := Lib.hid hu; have HK := Lib.hid hk; have HKN := Lib.hid hkn; clear hu hk hkn; go_wp2_with fail; refine (smokM_t gv cv pv mv x wr hr (HW.out x HXM.out) HK).mono ?_; rintro e w1 ⟨rfl, hb1⟩; replace g0 := cell_keep hb1 (World.block_lt_of_cell? wr _ g0) g0; go_wp2
          go_roundw
          case rel =>
            refine ⟨j + 1, by omega, by go_num, fun i hi => ?_, below_step hB hb1⟩
            by_cases hij : i = j
            · subst hij; rw [HX.out]; exact HU.out
            · exact HY.out i (by omega)
          case measure => simp [intOf]; omega
    · have hkn : j = n := by omega
      subst hkn; clear hc
      have e : (l.all fun m => updB m) = true := by
        rw [List.all_eq_true]; intro x hx; obtain ⟨i, hi, e⟩ := List.mem_iff_getElem.1 hx; have := HY.out i (by rw [HN.out]; exact hi); rw [List.getD_eq_getElem?_getD, List.getElem?_eq_getElem hi] at this; rw [← e]
        exact this
      have e2 : msB l = decide (j ≤ 500) := by unfold msB; rw [e, Bool.true_and, HN.out]
      have hd : decide ((j : Int) ≤ 500) = decide (j ≤ 500) := by simp only [decide_eq_decide]; omega
      have E2 := Lib.hid (hd.trans e2.symm); clear e e2 hd; go_wp2
      go_ret
      exact ⟨ret_bool E2.out, hB⟩
/-- the ends of a link are there and differ -/
def linkB (n : Nat) (x : Lk) : Bool := decide (0 ≤ x.a ∧ x.a < n ∧ 0 ≤ x.b ∧ x.b < n ∧ x.a ≠ x.b) && (inB x.ai 0 7 && inB x.bi 0 7)
def endsL (L : List Lk) : List (Int × Int) := L.flatMap fun x => [(x.a, x.ai), (x.b, x.bi)]
theorem endsL_take {L : List Lk} {j : Nat} {x : Lk} (hj : j < L.length) (hx : L.getD j l0 = x) : endsL (L.take (j + 1)) = endsL (L.take j) ++ [(x.a, x.ai), (x.b, x.bi)] := by
  have hg : L[j] = x := by simpa [List.getD, hj] using hx
  rw [List.take_add_one, List.getElem?_eq_getElem hj, hg]
  simp [endsL]
/-- the place of an end -/
def idx (p : Int × Int) : Nat := (p.1 * 8 + p.2).toNat
def usedC (l : List (Int × Int)) : List Value := (List.range 64).map fun i => .bool (l.any fun p => decide (idx p = i))
theorem usedC_get (l : List (Int × Int)) {i : Nat} (h : i < 64) : (usedC l)[i]? = some (.bool (l.any fun p => decide (idx p = i))) := by
  simp [usedC, List.getElem?_map, List.getElem?_range h]
theorem usedC_set (l : List (Int × Int)) (p : Int × Int) : (usedC l).set (idx p) (.bool true) = usedC (l ++ [p]) := by
  apply List.ext_getElem?
  intro i
  by_cases hi : i < 64
  · rw [usedC_get _ hi, List.getElem?_set, usedC_get _ hi]
    by_cases e : idx p = i
    · simp [e, usedC, hi]
    · rw [if_neg e]
      simp [e]
  · have h1 : (usedC (l ++ [p])).length = 64 := by simp [usedC]
    have h2 : ((usedC l).set (idx p) (.bool true)).length = 64 := by simp [usedC]
    rw [List.getElem?_eq_none (by omega), List.getElem?_eq_none (by omega)]
/-- ends in range lie at their own places -/
def okP9 (p : Int × Int) : Prop := 0 ≤ p.1 ∧ p.1 < 8 ∧ 0 ≤ p.2 ∧ p.2 < 8
theorem idx_inj {p q : Int × Int} (hp : okP9 p) (hq : okP9 q) (h : idx p = idx q) : p = q := by
  obtain ⟨a1, a2, a3, a4⟩ := hp; obtain ⟨b1, b2, b3, b4⟩ := hq; unfold idx at h
  apply Prod.ext <;> omega
theorem idx_any {l : List (Int × Int)} {p : Int × Int} (hl : ∀ q ∈ l, okP9 q) (hp : okP9 p) : (l.any fun q => decide (idx q = idx p)) = decide (p ∈ l) := by
  by_cases h : p ∈ l
  · rw [decide_eq_true h, List.any_eq_true]
    exact ⟨p, h, by simp⟩
  · rw [decide_eq_false h, List.any_eq_false]
    intro q hq e
    exact h (idx_inj (hl q hq) hp (of_decide_eq_true e) ▸ hq)
theorem siface8 {n : Int} {b : Bool} (w : World) (H : Hid (inB n 0 7 = b)) : Calls Tryz.prog 120 #[.int .i64 n] w fun e w' => e = .returned (.bool b) ∧ w = w' := by
  have h := H.out; unfold inB at h
  by_cases h0 : 0 ≤ n
  · by_cases h7 : n < 8
    · have hb : Hid (b = true) := Lib.hid (by rw [← h]; simp; omega)
      clear h
      go_enter Tryz.func120, Tryz.ntmps120
      go_wp2
      go_ret
      exact ⟨ret_bool hb.out.symm, rfl⟩
    · have hb : Hid (b = false) := Lib.hid (by rw [← h]; simp; omega)
      clear h
      go_enter Tryz.func120, Tryz.ntmps120
      go_wp2
      go_ret
      exact ⟨ret_bool hb.out.symm, rfl⟩
  · have hb : Hid (b = false) := Lib.hid (by rw [← h]; simp; omega)
    clear h
    go_enter Tryz.func120, Tryz.ntmps120
    go_wp2
    go_ret
    exact ⟨ret_bool hb.out.symm, rfl⟩
theorem make_64 (w : World) : (Instr.makeSlice 151 (.int .i64 64) (.int .i64 64)).run Tryz.prog w = .ok (.slice (some ⟨w.heap.size, 0, none⟩) 64 64) (w.alloc (.cells (madeCells #[Value.bool false] 64) 4)) := by
  obtain ⟨i, hi, hzz⟩ := Option.map_eq_some_iff.1 (show (Tryz.prog.info? 4).map (fun i => (i.zero, i.size, i.bytes)) = some (some (.bool false), 1, 1) by kernel_rfl); simp only [Prod.mk.injEq] at hzz; obtain ⟨hz, hs, hb⟩ := hzz; have hr := run_make (P := Tryz.prog) w 151 4 i _ Tryz.underlying151 hi hz .i64 .i64 64 64 (by omega) (Int.le_refl _) (by rw [hb]; omega) (by omega)
  simpa [hs, Value.cells] using hr
theorem used_0 : (madeCells #[Value.bool false] 64).toList = usedC [] := by
  first
  | kernel_rfl
  | simp [madeCells, usedC, Nat.mod_one]
def lendB (n : Nat) (L : List Lk) : Bool := (L.all fun x => linkB n x) && decide (endsL L).Nodup
theorem lend_no {n : Nat} {L : List Lk} {x : Lk} (hx : x ∈ L) (h : linkB n x = false) : lendB n L = false := by
  unfold lendB; rw [show (L.all fun x => linkB n x) = false from List.all_eq_false.2 ⟨x, hx, by rw [h]; simp⟩]
  rfl
theorem lend_dup {n j : Nat} {L : List Lk} {x : Lk} (h : endsL (L.take (j + 1)) = endsL (L.take j) ++ [(x.a, x.ai), (x.b, x.bi)]) (hd : (x.a, x.ai) ∈ endsL (L.take j) ∨ (x.b, x.bi) ∈ endsL (L.take j)) : lendB n L = false := by
  have hn : ¬ (endsL L).Nodup := by
    intro q
    have h1 : (endsL (L.take (j + 1))).Nodup := by
      have : endsL L = endsL (L.take (j + 1)) ++ endsL (L.drop (j + 1)) := by
        unfold endsL; rw [← List.flatMap_append, List.take_append_drop]
      rw [this, List.nodup_append] at q
      exact q.1
    rw [h, List.nodup_append] at h1
    rcases hd with hd | hd
    · exact h1.2.2 _ hd _ (by simp) rfl
    · exact h1.2.2 _ hd _ (by simp) rfl
  unfold lendB; rw [decide_eq_false hn, Bool.and_false]
set_option maxHeartbeats 4000000 in
theorem sends_any (nv lv : Value) (F : Fb) (w : World) (hN : RdNS w nv F.nodes) (h : RdLS w lv F.links) (hn8 : F.nodes.length ≤ 8) :
    Calls Tryz.prog 73 #[.agg #[nv, lv, .int .i64 F.width]] w fun e w' => e = .returned (.bool (lendB F.nodes.length F.links)) ∧ Below w.heap.size w w' := by
  have hml := h.1; obtain ⟨na, nx, rfl⟩ := hN.len; obtain ⟨a, c, rfl, hc⟩ := h.el; obtain ⟨n, hn⟩ : ∃ n, n = F.nodes.length := ⟨_, rfl⟩; obtain ⟨m, hm⟩ : ∃ m, m = F.links.length := ⟨_, rfl⟩; rw [← hn] at hn8 ⊢; rw [← hm] at hc hml ⊢; have HM := Lib.hid hm; clear h hm hn hN; have hmk := make_64; obtain ⟨bF, B0, z⟩ := one w [.slice na n nx, .slice a m c, .int .i64 F.width] 30; have B1 : Below w.heap.size w ((w.alloc (.cells #[.slice na n nx, .slice a m c, .int .i64 F.width] 30)).alloc (.cells (madeCells #[Value.bool false] 64) 4)) := below_step B0 ((Below.refl _ _).alloc (Nat.le_refl _) _); have bU0 := Bl.new (w.alloc (.cells #[.slice na n nx, .slice a m c, .int .i64 F.width] 30)) (madeCells #[Value.bool false] 64).toList 4 (w.heap.size + 1) z.symm; rw [used_0] at bU0; rw [show (usedC []).toArray = madeCells #[Value.bool false] 64 by rw [← used_0]] at bU0; replace bF := bF.keep ((Below.refl _ _).alloc (Nat.le_refl _) (.cells (madeCells #[Value.bool false] 64) 4))
  go_enter Tryz.func73, Tryz.ntmps73
  go_wp2; obtain ⟨W1, hW⟩ : ∃ W, W = (w.alloc (.cells #[.slice na n nx, .slice a m c, .int .i64 F.width] 30)).alloc (.cells (madeCells #[Value.bool false] 64) 4) := ⟨_, rfl⟩; obtain ⟨U, hU⟩ : ∃ U, U = w.heap.size + 1 := ⟨_, rfl⟩; rw [← hW] at B1 bU0 bF ⊢; rw [← hU] at bU0 ⊢; have hwU : w.heap.size ≤ U := by omega
  have hFU : w.heap.size ≠ U := by omega
  clear hW hU hmk B0 z
  go_loopw [4] (fun q wr => ∃ j : Nat, j ≤ m ∧ q = .int .i64 j ∧ (∀ i, i < j → linkB n (F.links.getD i l0) = true) ∧ (endsL (F.links.take j)).Nodup ∧ Bl wr U (usedC (endsL (F.links.take j))) ∧ Bl wr w.heap.size [.slice na n nx, .slice a m c, .int .i64 F.width] ∧ Below w.heap.size w wr) (fun q _ => m - (intOf q).toNat)
  case atStart => exact ⟨0, Nat.zero_le _, rfl, fun i hi => by omega, by simp [endsL], bU0, bF, B1⟩
  case round =>
    obtain ⟨j, hj, rfl, hyes, hnd, bU, bF1, hB⟩ := hrel; have HY := Lib.hid hyes; have HND := Lib.hid hnd; clear hyes hnd bU0 bF; have f0 := bF1.c 0 rfl; have f1 := bF1.c 1 rfl
    by_cases hlt : j < m
    · have hltI : (j : Int) < (m : Int) := by omega
      obtain ⟨b, o, rfl, hE⟩ := hc j hlt; obtain ⟨x, hx⟩ : ∃ x, F.links.getD j l0 = x := ⟨_, rfl⟩; rw [hx] at hE; obtain ⟨sv, tv, hr, k0, k1, k2, k3, k4, k5, k6⟩ := hE.keep hB; obtain ⟨av, ax, rfl⟩ := hr.1.len; obtain ⟨bv, bx, rfl⟩ := hr.2.len
      have HXM : Hid (x ∈ F.links) := Lib.hid (by
        rw [← hx, List.getD_eq_getElem?_getD, List.getElem?_eq_getElem (by rw [← HM.out]; exact hlt)]
        exact List.getElem_mem _)
      have HT := Lib.hid (endsL_take (by rw [← HM.out]; exact hlt) hx); have HX := Lib.hid hx; have HC := Lib.hid hc
      have HOKL : Hid (∀ q ∈ endsL (F.links.take j), okP9 q) := Lib.hid (fun q hq => by
        obtain ⟨y, hy, hq⟩ := List.mem_flatMap.1 hq; obtain ⟨i, hi, e⟩ := List.mem_iff_getElem.1 hy; have hi2 : i < j := by rw [List.length_take] at hi; omega
        have hl := HY.out i hi2; have hi3 : i < F.links.length := by rw [List.length_take] at hi; omega
        rw [List.getElem_take] at e; rw [List.getD_eq_getElem?_getD, List.getElem?_eq_getElem hi3, show (some (F.links[i]'hi3)).getD l0 = F.links[i]'hi3 from rfl, e] at hl; unfold linkB inB at hl
        simp at hl
        simp only [List.mem_cons, List.not_mem_nil, or_false] at hq; unfold okP9
        rcases hq with rfl | rfl <;> dsimp only <;> omega)
      have no : linkB n x = false → lendB n F.links = false := lend_no HXM.out; have NO := Lib.hid no; have A1 : Below wr.heap.size wr (wr.alloc (.cells #[.int .i64 x.a, .int .i64 x.ai, .int .i64 x.b, .int .i64 x.bi, .bool x.up, .slice av x.ab.length ax, .slice bv x.ba.length bx] 70)) := (Below.refl _ _).alloc (Nat.le_refl _) _; have bP := Bl.new wr [.int .i64 x.a, .int .i64 x.ai, .int .i64 x.b, .int .i64 x.bi, .bool x.up, .slice av x.ab.length ax, .slice bv x.ba.length bx] 70 wr.heap.size rfl; have bU2 := bU.keep A1; have bF2 := bF1.keep A1; have p0 := bP.c 0 rfl; have p1 := bP.c 1 rfl; have p2 := bP.c 2 rfl; have p3 := bP.c 3 rfl; clear hx hc hE hr no; have q0 := bF2.c 0 rfl
      by_cases c1 : x.a < 0
      · have hnk : linkB n x = false := by
          unfold linkB; rw [decide_eq_false (by omega), Bool.false_and]
        have HNK := Lib.hid hnk; clear hnk; go_wp2
        go_ret
        exact ⟨ret_bool (NO.out HNK.out).symm, below_step hB A1⟩
      · by_cases c2 : (n : Int) ≤ x.a
        · have hnk : linkB n x = false := by
            unfold linkB; rw [decide_eq_false (by omega), Bool.false_and]
          have HNK := Lib.hid hnk; clear hnk; go_wp2
          go_ret
          exact ⟨ret_bool (NO.out HNK.out).symm, below_step hB A1⟩
        · by_cases c3 : x.b < 0
          · have hnk : linkB n x = false := by
              unfold linkB; rw [decide_eq_false (by omega), Bool.false_and]
            have HNK := Lib.hid hnk; clear hnk; go_wp2
            go_ret
            exact ⟨ret_bool (NO.out HNK.out).symm, below_step hB A1⟩
          · by_cases c4 : (n : Int) ≤ x.b
            · have hnk : linkB n x = false := by
                unfold linkB; rw [decide_eq_false (by omega), Bool.false_and]
              have HNK := Lib.hid hnk; clear hnk; go_wp2
              go_ret
              exact ⟨ret_bool (NO.out HNK.out).symm, below_step hB A1⟩
            · by_cases c5 : x.a = x.b
              · have hnk : linkB n x = false := by
                  unfold linkB; rw [decide_eq_false (by omega), Bool.false_and]
                have HNK := Lib.hid hnk; clear hnk; have hbe : (x.a == x.b) = true := by simp [c5]
                have C5 := Lib.hid c5; clear c5; go_wp2
                go_ret
                exact ⟨ret_bool (NO.out HNK.out).symm, below_step hB A1⟩
              · have hbe : (x.a == x.b) = false := by simp [c5]
                cases hi1 : inB x.ai 0 7
                · have hnk : linkB n x = false := by
                    unfold linkB; rw [hi1, Bool.false_and, Bool.and_false]
                  have HNK := Lib.hid hnk; clear hnk; have HI1 := Lib.hid hi1; clear hi1; go_wp2_with fail; refine (siface8 _ HI1).mono ?_; rintro e wz ⟨rfl, rfl⟩; go_wp2
                  go_ret
                  exact ⟨ret_bool (NO.out HNK.out).symm, below_step hB A1⟩
                · cases hi2 : inB x.bi 0 7
                  · have hnk : linkB n x = false := by
                      unfold linkB; rw [hi1, hi2, Bool.and_false, Bool.and_false]
                    have HNK := Lib.hid hnk; clear hnk; have HI1 := Lib.hid hi1; have HI2 := Lib.hid hi2; clear hi1 hi2; go_wp2_with fail; refine (siface8 _ HI1).mono ?_; rintro e wz ⟨rfl, rfl⟩; go_wp2_with fail; refine (siface8 _ HI2).mono ?_; rintro e wz ⟨rfl, rfl⟩; go_wp2
                    go_ret
                    exact ⟨ret_bool (NO.out HNK.out).symm, below_step hB A1⟩
                  · have hyes : linkB n x = true := by
                      unfold linkB; rw [hi1, hi2, decide_eq_true (by omega)]
                      rfl
                    have hai : 0 ≤ x.ai ∧ x.ai ≤ 7 := by unfold inB at hi1; simp at hi1; omega
                    have hbi : 0 ≤ x.bi ∧ x.bi ≤ 7 := by unfold inB at hi2; simp at hi2; omega
                    have ok1 : okP9 (x.a, x.ai) := by unfold okP9; dsimp only; omega
                    have ok2 : okP9 (x.b, x.bi) := by unfold okP9; dsimp only; omega
                    obtain ⟨ka, hka⟩ : ∃ k, k = idx (x.a, x.ai) := ⟨_, rfl⟩; obtain ⟨kb, hkb⟩ : ∃ k, k = idx (x.b, x.bi) := ⟨_, rfl⟩; have hka2 : (ka : Int) = x.a * 8 + x.ai := by rw [hka]; unfold idx; dsimp only; omega
                    have hkb2 : (kb : Int) = x.b * 8 + x.bi := by rw [hkb]; unfold idx; dsimp only; omega
                    have hkaI : (ka : Int) < 64 := by omega
                    have hkbI : (kb : Int) < 64 := by omega
                    have hkaN : ka < 64 := by omega
                    have hkbN : kb < 64 := by omega
                    have hw1 : IntKind.i64.wrap (x.a * 8) = x.a * 8 := wrap64_in _ (by omega) (by omega); have hw2 : IntKind.i64.wrap (x.a * 8 + x.ai) = (ka : Int) := by rw [hka2]; exact wrap64_in _ (by omega) (by omega)
                    have hw3 : IntKind.i64.wrap (x.b * 8) = x.b * 8 := wrap64_in _ (by omega) (by omega); have hw4 : IntKind.i64.wrap (x.b * 8 + x.bi) = (kb : Int) := by rw [hkb2]; exact wrap64_in _ (by omega) (by omega)
                    have HI1 := Lib.hid hi1; have HI2 := Lib.hid hi2; have HYES := Lib.hid hyes; have HKA := Lib.hid hka; have HKB := Lib.hid hkb; have HOK := Lib.hid (And.intro ok1 ok2); clear hi1 hi2 hyes hka hkb hka2 hkb2 ok1 ok2 hai hbi; go_wp2_with fail; refine (siface8 _ HI1).mono ?_; rintro e wz ⟨rfl, rfl⟩; go_wp2_with fail; refine (siface8 _ HI2).mono ?_; rintro e wz ⟨rfl, rfl⟩; obtain ⟨V, hV⟩ : ∃ V, V = wr.alloc (.cells #[.int .i64 x.a, .int .i64 x.ai, .int .i64 x.b, .int .i64 x.bi, .bool x.up, .slice av x.ab.length ax, .slice bv x.ba.length bx] 70) := ⟨_, rfl⟩; go_wp2_with fail; rw [← hV] at A1 bP bU2 bF2 ⊢; clear hV p0 p1 p2 p3; refine wp_region_class (C := Over (V)) (by kernel_rfl) (by kernel_rfl) (over_drew _) ?_
                    repeat (first | go_big_quiet_skip | (go_big_quiet_want; go_big_quiet_op; go_big_quiet_on) | (go_big_quiet_want; apply Exists.intro; refine ⟨fun w' hC => ?_, ?_⟩; (have k0 := over_cell hC bP.lt (bP.c 0 rfl); have k1 := over_cell hC bP.lt (bP.c 1 rfl); have k2 := over_cell hC bP.lt (bP.c 2 rfl); have k3 := over_cell hC bP.lt (bP.c 3 rfl); simp [Oper.quietAt, Oper.quietUpon, go_sem, k0, k1, k2, k3, hw1, hw2, hw3, hw4]; first | done | rfl); go_big_quiet_on; simp only [Act.put, List.setIfInBounds_toArray, List.set_cons_zero, List.set_cons_succ]))
                    refine wpQuiet_nil ?_; intro wr hC; have k0 := over_cell hC bP.lt (bP.c 0 rfl); have k1 := over_cell hC bP.lt (bP.c 1 rfl); have k2 := over_cell hC bP.lt (bP.c 2 rfl); have k3 := over_cell hC bP.lt (bP.c 3 rfl); obtain ⟨W2, rfl⟩ : ∃ x : World, x = wr := ⟨_, rfl⟩; have bU3 := bU2.keep hC; have bF3 := bF2.keep hC; have hB2 := below_step (below_step hB A1) hC; have ha1 : (endsL (F.links.take j)).any (fun q => decide (idx q = ka)) = decide ((x.a, x.ai) ∈ endsL (F.links.take j)) := by rw [HKA.out]; exact idx_any HOKL.out HOK.out.1
                    have ha2 : (endsL (F.links.take j)).any (fun q => decide (idx q = kb)) = decide ((x.b, x.bi) ∈ endsL (F.links.take j)) := by rw [HKB.out]; exact idx_any HOKL.out HOK.out.2
                    have u1 := bU3.c ka (usedC_get _ hkaN); have u2 := bU3.c kb (usedC_get _ hkbN); rw [ha1] at u1; rw [ha2] at u2; clear ha1 ha2 k0 k1 k2 k3 bP hC A1; cases d1 : decide ((x.a, x.ai) ∈ endsL (F.links.take j))
                    · rw [d1] at u1
                      cases d2 : decide ((x.b, x.bi) ∈ endsL (F.links.take j))
                      · rw [d2] at u2
                        have HD := Lib.hid (And.intro (of_decide_eq_false d1) (of_decide_eq_false d2)); clear d1 d2; have hkab : ka ≠ kb := fun q => c5 (Prod.mk.inj (idx_inj HOK.out.1 HOK.out.2 (by rw [← HKA.out, ← HKB.out]; exact q))).1
                        have hkba : kb ≠ ka := hkab.symm; have v1 := bU3.f ka (usedC_get _ hkaN); have v2 := bU3.f kb (usedC_get _ hkbN); go_wp2; have bU4 := (bU3.set ka (.bool true)).set kb (.bool true); rw [HKA.out, HKB.out, usedC_set, usedC_set] at bU4; rw [← HKA.out, ← HKB.out] at bU4; have hB3 := (hB2.setCell (p := ⟨U, ka, none⟩) hwU (.bool true)).setCell (p := ⟨U, kb, none⟩) hwU (.bool true); have bF4 := (bF3.far (o := ka) (u := .bool true) hFU).far (o := kb) (u := .bool true) hFU; have HB4 := Lib.hid (And.intro bU4 bF4); clear bU4 bF4
                        go_roundw
                        case rel =>
                          refine ⟨j + 1, by omega, by go_num, fun i hi => ?_, ?_, ?_, HB4.out.2, hB3⟩
                          · by_cases hij : i = j
                            · subst hij; rw [HX.out]; exact HYES.out
                            · exact HY.out i (by omega)
                          · rw [HT.out, List.nodup_append]
                            refine ⟨HND.out, ?_, fun p hp q hq => ?_⟩
                            · have : (x.a, x.ai) ≠ (x.b, x.bi) := fun q => c5 (Prod.mk.inj q).1
                              simp [this]
                            · rintro rfl
                              simp only [List.mem_cons, List.not_mem_nil, or_false] at hq
                              rcases hq with rfl | rfl
                              · exact HD.out.1 hp
                              · exact HD.out.2 hp
                          · rw [HT.out, show endsL (F.links.take j) ++ [(x.a, x.ai), (x.b, x.bi)] = (endsL (F.links.take j) ++ [(x.a, x.ai)]) ++ [(x.b, x.bi)] by simp]
                            exact HB4.out.1
                        case measure => simp [intOf]; omega
                      · rw [d2] at u2
                        have HD := Lib.hid (of_decide_eq_true d2); clear d1 d2; go_wp2
                        go_ret
                        exact ⟨ret_bool (lend_dup HT.out (.inr HD.out)).symm, hB2⟩
                    · rw [d1] at u1
                      have HD := Lib.hid (of_decide_eq_true d1); clear d1 u2; go_wp2
                      go_ret
                      exact ⟨ret_bool (lend_dup HT.out (.inl HD.out)).symm, hB2⟩
    · have hkn : j = m := by omega
      subst hkn; have HTT : Hid (F.links.take j = F.links) := Lib.hid (List.take_of_length_le (by rw [HM.out]; exact Nat.le_refl _)); clear hc
      have e : lendB n F.links = true := by
        unfold lendB
        rw [show (F.links.all fun x => linkB n x) = true from List.all_eq_true.2 fun x hx => by
          obtain ⟨i, hi, e⟩ := List.mem_iff_getElem.1 hx; have := HY.out i (by rw [HM.out]; exact hi); rw [List.getD_eq_getElem?_getD, List.getElem?_eq_getElem hi] at this; rw [← e]
          exact this, Bool.true_and, decide_eq_true_iff]
        have := HND.out
        rwa [HTT.out] at this
      have E := Lib.hid e; clear e; go_wp2
      go_ret
      exact ⟨ret_bool E.out.symm, hB⟩
end Go.Proofs.YtkodnipmogdgkaaGreat
namespace Go.Proofs.YtkodnipmogdgkaaGreat
open Go.ChangeShapes Go.WideShapes Go.ChangeAt Go.RowKit Go.BigFrame Go.Joins
set_option linter.unusedVariables false
set_option maxRecDepth 100000
set_option linter.unusedSimpArgs false
set_option maxRecDepth 100000

theorem endsL_eq (L : List Lk) : endsL L = endsY (waysL L) := by
  induction L with
  | nil => rfl
  | cons x L ih => simp only [endsL, endsY, waysL, List.flatMap_cons, List.map_append] at ih ⊢; rw [ih]; rfl
def lmsB (x : Lk) : Bool := msB x.ab && (msB x.ba && (x.up || decide (x.ab.length + x.ba.length = 0)))
def fsB (F : Fb) : Bool := inB F.nodes.length 1 8 && (decide (F.links.length ≤ 12) && (inB F.width 1 4 && (lendB F.nodes.length F.links && ((F.nodes.all fun x => ndB x) && F.links.all fun x => lmsB x))))
theorem link_way (n : Nat) (x : Lk) : (wayB n ⟨x.a, x.ai, x.b, x.bi, x.up, x.ab⟩ = true ∧ wayB n ⟨x.b, x.bi, x.a, x.ai, x.up, x.ba⟩ = true) ↔ (linkB n x = true ∧ lmsB x = true) := by
  unfold wayB endB trB linkB lmsB msB inB; simp only [Bool.and_eq_true, Bool.or_eq_true, decide_eq_true_iff, bne_iff_ne]
  constructor
  · rintro ⟨⟨⟨⟨⟨a1, a2⟩, a3, a4⟩, a5⟩, ⟨a6, a7⟩, a8⟩, ⟨⟨⟨b1, b2⟩, b3, b4⟩, b5⟩, ⟨b6, b7⟩, b8⟩
    refine ⟨⟨⟨a1, by omega, b1, by omega, a5⟩, ⟨a3, a4⟩, b3, b4⟩, ⟨a7, a6⟩, ⟨b7, b6⟩, ?_⟩
    rcases a8 with a8 | a8
    · exact .inl a8
    · rcases b8 with b8 | b8
      · exact .inl b8
      · exact .inr (by omega)
  · rintro ⟨⟨⟨a1, a2, a3, a4, a5⟩, ⟨a6, a7⟩, a8, a9⟩, ⟨b1, b2⟩, ⟨b3, b4⟩, b5⟩
    refine ⟨⟨⟨⟨⟨a1, by omega⟩, a6, a7⟩, a5⟩, ⟨b2, b1⟩, ?_⟩, ⟨⟨⟨a3, by omega⟩, a8, a9⟩, Ne.symm a5⟩, ⟨b4, b3⟩, ?_⟩
    · rcases b5 with b5 | b5
      · exact .inl b5
      · exact .inr (by omega)
    · rcases b5 with b5 | b5
      · exact .inl b5
      · exact .inr (by omega)
theorem ways_all (n : Nat) (L : List Lk) : (∀ y ∈ waysL L, wayB n y = true) ↔ ∀ x ∈ L, linkB n x = true ∧ lmsB x = true := by
  constructor
  · intro h x hx
    exact (link_way n x).1 ⟨h _ (List.mem_flatMap.2 ⟨x, hx, by simp [waysOf]⟩), h _ (List.mem_flatMap.2 ⟨x, hx, by simp [waysOf]⟩)⟩
  · intro h y hy
    obtain ⟨x, hx, hy⟩ := List.mem_flatMap.1 hy; have := (link_way n x).2 (h x hx); simp only [waysOf, List.mem_cons, List.not_mem_nil, or_false] at hy
    rcases hy with rfl | rfl
    · exact this.1
    · exact this.2
theorem fsB_eq (F : Fb) : fsB F = fbB F := by
  rw [Bool.eq_iff_iff]; unfold fsB fbB lendB; simp only [Bool.and_eq_true, List.all_eq_true, decide_eq_true_iff, endsL_eq, ways_all]
  constructor
  · rintro ⟨h1, h2, h3, ⟨h4, h5⟩, h6, h7⟩
    exact ⟨h1, h6, h3, h2, fun x hx => ⟨h4 x hx, h7 x hx⟩, h5⟩
  · rintro ⟨h1, h6, h3, h2, h4, h5⟩
    exact ⟨h1, h2, h3, ⟨fun x hx => (h4 x hx).1, h5⟩, h6, fun x hx => (h4 x hx).2⟩
theorem smsgs_t {v : Value} {l : List Mg} {b : Bool} (w : World) (h : RdMS w v l) (hw : ∀ m ∈ l, wtM m ≤ 1048576) (H : Hid (msB l = b)) :
    Calls Tryz.prog 75 #[v] w fun e w' => e = .returned (.bool b) ∧ Below w.heap.size w w' := H.out ▸ smsgs_any v l w h hw
theorem sends_t (nv lv : Value) (F : Fb) {b : Bool} (w : World) (hN : RdNS w nv F.nodes) (h : RdLS w lv F.links) (hn8 : F.nodes.length ≤ 8) (H : Hid (lendB F.nodes.length F.links = b)) :
    Calls Tryz.prog 73 #[.agg #[nv, lv, .int .i64 F.width]] w fun e w' => e = .returned (.bool b) ∧ Below w.heap.size w w' := H.out ▸ sends_any nv lv F w hN h hn8
theorem wtS_mem {l : List Mg} {m : Mg} (h : m ∈ l) : wtM m ≤ wtMS l := by
  obtain ⟨i, hi, e⟩ := List.mem_iff_getElem.1 h; have := wtM_at hi
  rwa [List.getD_eq_getElem?_getD, List.getElem?_eq_getElem hi, show (some l[i]).getD m0 = l[i] from rfl, e] at this
theorem wtL_mem {l : List Lk} {m : Lk} (h : m ∈ l) : wtL m ≤ wtLS l := by
  obtain ⟨i, hi, e⟩ := List.mem_iff_getElem.1 h; have := wtL_at hi
  rwa [List.getD_eq_getElem?_getD, List.getElem?_eq_getElem hi, show (some l[i]).getD l0 = l[i] from rfl, e] at this
set_option maxHeartbeats 4000000 in
theorem sfok_any (nv lv : Value) (F : Fb) (w : World) (h : RdF w nv lv F) (hw : wtF F ≤ 1048576) :
    Calls Tryz.prog 32 #[.agg #[nv, lv, .int .i64 F.width]] w fun e w' => e = .returned (.bool (fsB F)) ∧ Below w.heap.size w w' := by
  have hm1 := h.1.1; have hm2 := h.2.1; obtain ⟨na, nx, rfl⟩ := h.1.len; obtain ⟨la, lx, rfl⟩ := h.2.len; obtain ⟨bF, B0, z⟩ := one w [.slice na F.nodes.length nx, .slice la F.links.length lx, .int .i64 F.width] 30; obtain ⟨hN, hL⟩ := h.keep B0; have HW := Lib.hid hw; clear z h hw; have f0 := bF.c 0 rfl; have f1 := bF.c 1 rfl; have f2 := bF.c 2 rfl; cases hA : inB (F.nodes.length : Int) 1 8
  · rw [show fsB F = false by unfold fsB; rw [hA, Bool.false_and]]
    have hh : (F.nodes.length : Int) < 1 ∨ (8 : Int) < (F.nodes.length : Int) := by unfold inB at hA; simp at hA; omega
    clear hA; obtain ⟨n, hn⟩ : ∃ n, n = F.nodes.length := ⟨_, rfl⟩; rw [← hn] at hh f0 B0 ⊢; clear hn
    by_cases hx : (n : Int) < 1
    · go_enter Tryz.func32, Tryz.ntmps32
      go_wp2
      go_ret
      exact ⟨rfl, B0⟩
    · have hy : (8 : Int) < (n : Int) := by omega
      go_enter Tryz.func32, Tryz.ntmps32
      go_wp2
      go_ret
      exact ⟨rfl, B0⟩
  · have hn8 : F.nodes.length ≤ 8 := by unfold inB at hA; simp at hA; omega
    have hn1 : ¬ (F.nodes.length : Int) < 1 := by unfold inB at hA; simp at hA; omega
    have hnb : ¬ (8 : Int) < (F.nodes.length : Int) := by omega
    by_cases hD : F.links.length ≤ 12
    · have hly : ¬ (12 : Int) < (F.links.length : Int) := by omega
      cases hC : inB F.width 1 4
      · rw [show fsB F = false by unfold fsB; rw [hC, Bool.false_and, Bool.and_false, Bool.and_false]]
        have hh : F.width < 1 ∨ 4 < F.width := by unfold inB at hC; simp at hC; omega
        clear hA hC
        by_cases hx : F.width < 1
        · go_enter Tryz.func32, Tryz.ntmps32
          go_wp2
          go_ret
          exact ⟨rfl, B0⟩
        · have hy : 4 < F.width := by omega
          go_enter Tryz.func32, Tryz.ntmps32
          go_wp2
          go_ret
          exact ⟨rfl, B0⟩
      · have hw1 : ¬ F.width < 1 := by unfold inB at hC; simp at hC; omega
        have hw4 : ¬ 4 < F.width := by unfold inB at hC; simp at hC; omega
        cases hE : lendB F.nodes.length F.links
        · rw [show fsB F = false by unfold fsB; rw [hE, Bool.false_and, Bool.and_false, Bool.and_false, Bool.and_false]]
          have HE := Lib.hid hE; clear hA hC hE hD
          go_enter Tryz.func32, Tryz.ntmps32
          go_wp2_with fail; refine (sends_t _ _ F _ hN hL hn8 HE).mono ?_; rintro e w1 ⟨rfl, hb⟩; replace B0 := below_step B0 hb; go_wp2
          go_ret
          exact ⟨rfl, B0⟩
        · have e0 : fsB F = ((F.nodes.all fun x => ndB x) && F.links.all fun x => lmsB x) := by unfold fsB; rw [hA, hC, hE, decide_eq_true hD]; simp
          rw [e0]; have HE := Lib.hid hE; clear hA hC hE hD e0
          go_enter Tryz.func32, Tryz.ntmps32
          go_wp2_with fail; refine (sends_t _ _ F _ hN hL hn8 HE).mono ?_; rintro e W1 ⟨rfl, hb⟩; replace B0 := below_step B0 hb; replace bF := bF.keep hb; replace hN := hN.keep hb; replace hL := hL.keep hb; obtain ⟨na, nx, hnv⟩ := hN.el; obtain ⟨hnv, hcn⟩ := hnv; obtain ⟨la, lx, hlv⟩ := hL.el; obtain ⟨hlv, hcl⟩ := hlv; simp only [Value.slice.injEq, true_and] at hnv hlv; obtain ⟨rfl, rfl⟩ := hnv; obtain ⟨rfl, rfl⟩ := hlv; obtain ⟨n, hn⟩ : ∃ n, n = F.nodes.length := ⟨_, rfl⟩; obtain ⟨m, hm⟩ : ∃ m, m = F.links.length := ⟨_, rfl⟩; rw [← hn] at bF hcn hm1; rw [← hm] at bF hcl hm2
          try rw [← hn]
          try rw [← hm]
          have HN := Lib.hid hn; have HM := Lib.hid hm; clear hb hn hm hN hL f0 f1 f2 HE hn8 hn1 hnb hly hw1 hw4; go_wp2
          go_loopw [3] (fun q wr => ∃ j : Nat, j ≤ n ∧ q = .int .i64 j ∧ (∀ i, i < j → ndB (F.nodes.getD i n0) = true) ∧ Over W1 wr) (fun q _ => n - (intOf q).toNat)
          case atStart => exact ⟨0, Nat.zero_le _, rfl, fun i hi => by omega, over_refl _⟩
          case round =>
            obtain ⟨j, hj, rfl, hyes, hB⟩ := hrel; have HY := Lib.hid hyes; clear hyes; have f0 := (bF.keep hB).c 0 rfl
            by_cases hlt : j < n
            · have hltI : (j : Int) < (n : Int) := by omega
              obtain ⟨b, o, rfl, hE⟩ := hcn j hlt; obtain ⟨x, hx⟩ : ∃ x, F.nodes.getD j n0 = x := ⟨_, rfl⟩; rw [hx] at hE; obtain ⟨ov, rv, sv, hr, g0, g1, g2, g3, g4, g5⟩ := hE.keep hB
              have HXM : Hid (x ∈ F.nodes) := Lib.hid (by
                rw [← hx, List.getD_eq_getElem?_getD, List.getElem?_eq_getElem (by rw [← HN.out]; exact hlt)]
                exact List.getElem_mem _)
              have HX := Lib.hid hx; have HC := Lib.hid hcn; have HC2 := Lib.hid hcl; clear hx hcn hE hcl; cases hk : ndB x
              · have hno : (F.nodes.all fun x => ndB x) = false := List.all_eq_false.2 ⟨x, HXM.out, by rw [hk]; simp⟩
                have HNO := Lib.hid hno; have HK := Lib.hid hk; clear hno hk; go_wp2_with fail; refine (sndok_t _ hr HK).mono ?_; rintro e w1 ⟨rfl, hb1⟩; go_wp2
                go_ret
                exact ⟨ret_bool (by rw [HNO.out]; rfl), below_step B0 (over_step hB hb1)⟩
              · have HK := Lib.hid hk
                clear hk; go_wp2_with fail; refine (sndok_t _ hr HK).mono ?_; rintro e w1 ⟨rfl, hb1⟩; go_wp2
                go_roundw
                case rel =>
                  refine ⟨j + 1, by omega, by go_num, fun i hi => ?_, over_step hB hb1⟩
                  by_cases hij : i = j
                  · subst hij; rw [HX.out]; exact HK.out
                  · exact HY.out i (by omega)
                case measure => simp [intOf]; omega
            · have hkn : j = n := by omega
              subst hkn
              have e1 : (F.nodes.all fun x => ndB x) = true := List.all_eq_true.2 fun x hx => by
                obtain ⟨i, hi, e⟩ := List.mem_iff_getElem.1 hx; have := HY.out i (by rw [HN.out]; exact hi); rw [List.getD_eq_getElem?_getD, List.getElem?_eq_getElem hi] at this; rw [← e]
                exact this
              have HE1 := Lib.hid e1; replace bF := bF.keep hB
              have hcl2 : ∀ i, i < m → ∃ b o, la = some ⟨b, o, none⟩ ∧ AtL wr b (o + i * 7) (F.links.getD i l0) := fun i hi => by
                obtain ⟨b, o, e, h⟩ := hcl i hi
                exact ⟨b, o, e, h.keep hB⟩
              replace B0 := below_step B0 hB; obtain ⟨W2, rfl⟩ : ∃ x : World, x = wr := ⟨_, rfl⟩; clear e1 hcn hcl hB HY hj hlt; go_wp2; clear f0
              go_loopw [4] (fun q wr => ∃ j : Nat, j ≤ m ∧ q = .int .i64 j ∧ (∀ i, i < j → lmsB (F.links.getD i l0) = true) ∧ Over W2 wr) (fun q _ => m - (intOf q).toNat)
              case atStart => exact ⟨0, Nat.zero_le _, rfl, fun i hi => by omega, over_refl _⟩
              case round =>
                obtain ⟨i, hi, rfl, hyes, hB⟩ := hrel; have HY := Lib.hid hyes; clear hyes; have f1 := (bF.keep hB).c 1 rfl
                by_cases hlt : i < m
                · have hltI : (i : Int) < (m : Int) := by omega
                  obtain ⟨b, o, rfl, hE⟩ := hcl2 i hlt; obtain ⟨x, hx⟩ : ∃ x, F.links.getD i l0 = x := ⟨_, rfl⟩; rw [hx] at hE; obtain ⟨sv, tv, hr, k0, k1, k2, k3, k4, k5, k6⟩ := hE.keep hB; obtain ⟨av, ax, rfl⟩ := hr.1.len; obtain ⟨bv, bx, rfl⟩ := hr.2.len
                  have HXM : Hid (x ∈ F.links) := Lib.hid (by
                    rw [← hx, List.getD_eq_getElem?_getD, List.getElem?_eq_getElem (by rw [← HM.out]; exact hlt)]
                    exact List.getElem_mem _)
                  have hwx := wtL_mem HXM.out
                  have HWA : Hid ((∀ m ∈ x.ab, wtM m ≤ 1048576) ∧ ∀ m ∈ x.ba, wtM m ≤ 1048576) := Lib.hid (by
                    have hw := HW.out; unfold wtF at hw; unfold wtL at hwx
                    exact ⟨fun m hm => by have := wtS_mem hm; omega, fun m hm => by have := wtS_mem hm; omega⟩)
                  have no : lmsB x = false → ((F.nodes.all fun x => ndB x) && F.links.all fun x => lmsB x) = false := fun q => by
                    rw [show (F.links.all fun x => lmsB x) = false from List.all_eq_false.2 ⟨x, HXM.out, by rw [q]; simp⟩, Bool.and_false]
                  have NO := Lib.hid no; have HX := Lib.hid hx; have HC := Lib.hid hcl2; have A1 : Below wr.heap.size wr (wr.alloc (.cells #[.int .i64 x.a, .int .i64 x.ai, .int .i64 x.b, .int .i64 x.bi, .bool x.up, .slice av x.ab.length ax, .slice bv x.ba.length bx] 70)) := (Below.refl _ _).alloc (Nat.le_refl _) _; have bP := Bl.new wr [.int .i64 x.a, .int .i64 x.ai, .int .i64 x.b, .int .i64 x.bi, .bool x.up, .slice av x.ab.length ax, .slice bv x.ba.length bx] 70 wr.heap.size rfl; have hr1 := hr.keep A1; have p4 := bP.c 4 rfl; have p5 := bP.c 5 rfl; have p6 := bP.c 6 rfl; clear hx hcl2 hE hr no hwx; cases hma : msB x.ab
                  · have hnn : lmsB x = false := by unfold lmsB; rw [hma, Bool.false_and]
                    have HN2 := Lib.hid hnn; have HMA := Lib.hid hma; clear hnn hma; go_wp2_with fail; refine (smsgs_t _ hr1.1 HWA.out.1 HMA).mono ?_; rintro e w1 ⟨rfl, hb1⟩; have bP1 := bP.keep hb1; have hr2 := hr1.keep hb1; have hB1 := below_step (below_step B0 (over_step hB A1)) hb1; have hO1 := over_step (over_step hB A1) hb1; clear p4 p5 p6; have p4 := bP1.c 4 rfl; have p5 := bP1.c 5 rfl; have p6 := bP1.c 6 rfl; go_wp2
                    go_ret
                    exact ⟨ret_bool (NO.out HN2.out).symm, hB1⟩
                  · have HMA := Lib.hid hma
                    cases hmb : msB x.ba
                    · have hnn : lmsB x = false := by unfold lmsB; rw [hmb, Bool.false_and, Bool.and_false]
                      have HN2 := Lib.hid hnn; have HMB := Lib.hid hmb; clear hnn hma hmb; go_wp2_with fail; refine (smsgs_t _ hr1.1 HWA.out.1 HMA).mono ?_; rintro e w1 ⟨rfl, hb1⟩; have bP1 := bP.keep hb1; have hr2 := hr1.keep hb1; have hB1 := below_step (below_step B0 (over_step hB A1)) hb1; have hO1 := over_step (over_step hB A1) hb1; clear p4 p5 p6; have p4 := bP1.c 4 rfl; have p5 := bP1.c 5 rfl; have p6 := bP1.c 6 rfl; go_wp2_with fail; refine (smsgs_t _ hr2.2 HWA.out.2 HMB).mono ?_; rintro e w2 ⟨rfl, hb2⟩; have bP2 := bP1.keep hb2; have hB2 := below_step hB1 hb2; have hO2 := over_step hO1 hb2; clear p4 p5 p6; have p4 := bP2.c 4 rfl; have p5 := bP2.c 5 rfl; have p6 := bP2.c 6 rfl; go_wp2
                      go_ret
                      exact ⟨ret_bool (NO.out HN2.out).symm, hB2⟩
                    · have HMB := Lib.hid hmb
                      have hla : x.ab.length ≤ 500 := by unfold msB at hma; simp at hma; exact hma.2
                      have hlb : x.ba.length ≤ 500 := by unfold msB at hmb; simp at hmb; exact hmb.2
                      have hwr : IntKind.i64.wrap ((x.ab.length : Int) + (x.ba.length : Int)) = (x.ab.length : Int) + (x.ba.length : Int) := wrap64_in _ (by omega) (by omega); cases hup : x.up
                      · rw [hup] at bP A1 hr1 p4 p5 p6 k4
                        by_cases hz : x.ab.length + x.ba.length = 0
                        · have hnn : lmsB x = true := by unfold lmsB; rw [hma, hmb, decide_eq_true hz]; simp
                          have hzi : ¬ 0 < (x.ab.length : Int) + (x.ba.length : Int) := by omega
                          have HN2 := Lib.hid hnn; have HUP := Lib.hid hup; have HZ := Lib.hid hz; clear hnn hma hmb hla hlb hup hz; go_wp2_with fail; refine (smsgs_t _ hr1.1 HWA.out.1 HMA).mono ?_; rintro e w1 ⟨rfl, hb1⟩; have bP1 := bP.keep hb1; have hr2 := hr1.keep hb1; have hB1 := below_step (below_step B0 (over_step hB A1)) hb1; have hO1 := over_step (over_step hB A1) hb1; clear p4 p5 p6; have p4 := bP1.c 4 rfl; have p5 := bP1.c 5 rfl; have p6 := bP1.c 6 rfl; go_wp2_with fail; refine (smsgs_t _ hr2.2 HWA.out.2 HMB).mono ?_; rintro e w2 ⟨rfl, hb2⟩; have bP2 := bP1.keep hb2; have hB2 := below_step hB1 hb2; have hO2 := over_step hO1 hb2; clear p4 p5 p6; have p4 := bP2.c 4 rfl; have p5 := bP2.c 5 rfl; have p6 := bP2.c 6 rfl; go_wp2
                          go_roundw
                          case rel =>
                            refine ⟨i + 1, by omega, by go_num, fun q hq => ?_, hO2⟩
                            by_cases hij : q = i
                            · subst hij; rw [HX.out]; exact HN2.out
                            · exact HY.out q (by omega)
                          case measure => simp [intOf]; omega
                        · have hnn : lmsB x = false := by unfold lmsB; rw [hma, hmb, hup, decide_eq_false hz]; rfl
                          have hzi : 0 < (x.ab.length : Int) + (x.ba.length : Int) := by omega
                          have HN2 := Lib.hid hnn; have HUP := Lib.hid hup; have HZ := Lib.hid hz; clear hnn hma hmb hla hlb hup hz; go_wp2_with fail; refine (smsgs_t _ hr1.1 HWA.out.1 HMA).mono ?_; rintro e w1 ⟨rfl, hb1⟩; have bP1 := bP.keep hb1; have hr2 := hr1.keep hb1; have hB1 := below_step (below_step B0 (over_step hB A1)) hb1; have hO1 := over_step (over_step hB A1) hb1; clear p4 p5 p6; have p4 := bP1.c 4 rfl; have p5 := bP1.c 5 rfl; have p6 := bP1.c 6 rfl; go_wp2_with fail; refine (smsgs_t _ hr2.2 HWA.out.2 HMB).mono ?_; rintro e w2 ⟨rfl, hb2⟩; have bP2 := bP1.keep hb2; have hB2 := below_step hB1 hb2; have hO2 := over_step hO1 hb2; clear p4 p5 p6; have p4 := bP2.c 4 rfl; have p5 := bP2.c 5 rfl; have p6 := bP2.c 6 rfl; go_wp2
                          go_ret
                          exact ⟨ret_bool (NO.out HN2.out).symm, hB2⟩
                      · rw [hup] at bP A1 hr1 p4 p5 p6 k4
                        have hnn : lmsB x = true := by unfold lmsB; rw [hma, hmb, hup]; rfl
                        have HN2 := Lib.hid hnn; have HUP := Lib.hid hup; clear hnn hma hmb hla hlb hup; go_wp2_with fail; refine (smsgs_t _ hr1.1 HWA.out.1 HMA).mono ?_; rintro e w1 ⟨rfl, hb1⟩; have bP1 := bP.keep hb1; have hr2 := hr1.keep hb1; have hB1 := below_step (below_step B0 (over_step hB A1)) hb1; have hO1 := over_step (over_step hB A1) hb1; clear p4 p5 p6; have p4 := bP1.c 4 rfl; have p5 := bP1.c 5 rfl; have p6 := bP1.c 6 rfl; go_wp2_with fail; refine (smsgs_t _ hr2.2 HWA.out.2 HMB).mono ?_; rintro e w2 ⟨rfl, hb2⟩; have bP2 := bP1.keep hb2; have hB2 := below_step hB1 hb2; have hO2 := over_step hO1 hb2; clear p4 p5 p6; have p4 := bP2.c 4 rfl; have p5 := bP2.c 5 rfl; have p6 := bP2.c 6 rfl; go_wp2
                        go_roundw
                        case rel =>
                          refine ⟨i + 1, by omega, by go_num, fun q hq => ?_, hO2⟩
                          by_cases hij : q = i
                          · subst hij; rw [HX.out]; exact HN2.out
                          · exact HY.out q (by omega)
                        case measure => simp [intOf]; omega
                · have hkn : i = m := by omega
                  subst hkn
                  have e1 : (F.links.all fun x => lmsB x) = true := List.all_eq_true.2 fun x hx => by
                    obtain ⟨q, hq, e⟩ := List.mem_iff_getElem.1 hx; have := HY.out q (by rw [HM.out]; exact hq); rw [List.getD_eq_getElem?_getD, List.getElem?_eq_getElem hq] at this; rw [← e]
                    exact this
                  have HE2 := Lib.hid e1; clear e1 hcl2; go_wp2
                  go_ret
                  exact ⟨ret_bool (by rw [HE1.out, HE2.out]; rfl), below_step B0 hB⟩
    · rw [show fsB F = false by unfold fsB; rw [decide_eq_false hD, Bool.false_and, Bool.and_false]]
      have hy : (12 : Int) < (F.links.length : Int) := by omega
      clear hA hD
      go_enter Tryz.func32, Tryz.ntmps32
      go_wp2
      go_ret
      exact ⟨rfl, B0⟩

end Go.Proofs.YtkodnipmogdgkaaGreat
namespace Go.Proofs.YtkodnipmogdgkaaGreat
open Go.ChangeShapes Go.WideShapes Go.ChangeAt Go.RowKit Go.BigFrame Go.Joins
set_option linter.unusedVariables false
set_option maxRecDepth 100000
set_option linter.unusedSimpArgs false
set_option maxRecDepth 100000

def fb0 : Fb := ⟨[], [], 0⟩
def okM (x : Fb) (node : Int) : Bool := fbB x && inB node 0 ((x.nodes.length : Int) - 1)
def markF (x : Fb) (node : Int) (on : Bool) : Fb := if okM x node = true then ⟨x.nodes.set node.toNat { x.nodes.getD node.toNat n0 with dr := on }, x.links, x.width⟩ else fb0
theorem owF0 (w : World) (S : Nat → Prop) : OwF w S (.slice none 0 0) (.slice none 0 0) fb0 := ⟨fun _ => False, fun _ => False, fun _ q => q.elim, fun _ q => q.elim, fun _ q _ => q.elim, ⟨by simp [fb0], .inl ⟨rfl, rfl⟩⟩, ⟨by simp [fb0], .inl ⟨rfl, rfl⟩⟩⟩
set_option maxHeartbeats 4000000 in
theorem smark_any (nv lv : Value) (x : Fb) (node : Int) (on : Bool) (w : World) (h : RdF w nv lv x) (hw : wtF x ≤ 1048576) :
    Calls Tryz.prog 9 #[.agg #[nv, lv, .int .i64 x.width], .int .i64 node, .bool on] w fun e w' => ∃ nv lv, e = .returned (.tuple #[.agg #[nv, lv, .int .i64 (markF x node on).width], .bool (okM x node)]) ∧ OwF w' (Rg w.heap.size w'.heap.size) nv lv (markF x node on) ∧ Below w.heap.size w w' := by
  obtain ⟨na, nc, rfl⟩ := h.1.len; obtain ⟨la, lc, rfl⟩ := h.2.len; obtain ⟨bA, bR, B1, z⟩ := two w [.slice na x.nodes.length nc, .slice la x.links.length lc, .int .i64 x.width] [.slice none 0 0, .slice none 0 0, .int .i64 0] 30 30; have hR := h.keep B1; have a0 := bA.c 0 rfl; have a1 := bA.c 1 rfl; have a2 := bA.c 2 rfl; obtain ⟨Y, hY⟩ : ∃ Y, Y = markF x node on := ⟨_, rfl⟩; obtain ⟨ok, hO⟩ : ∃ b, b = okM x node := ⟨_, rfl⟩; rw [← hY, ← hO]
  go_enter Tryz.func9, Tryz.ntmps9
  go_wp2_with fail; clear a0 a1 a2; obtain ⟨V, hV⟩ : ∃ V, V = (w.alloc (.cells #[.slice na x.nodes.length nc, .slice la x.links.length lc, .int .i64 x.width] 30)).alloc (.cells #[.slice none 0 0, .slice none 0 0, .int .i64 0] 30) := ⟨_, rfl⟩; rw [← hV] at bA bR B1 z hR ⊢; obtain ⟨A, hA⟩ : ∃ A, A = w.heap.size := ⟨_, rfl⟩; obtain ⟨R, hRR⟩ : ∃ R, R = w.heap.size + 1 := ⟨_, rfl⟩; rw [← hA] at bA; rw [← hRR] at bR
  try rw [← hRR]
  try rw [← hA]
  have hwR : w.heap.size ≤ R := by omega
  have hRV : R < V.heap.size := by omega
  have hwV : w.heap.size ≤ V.heap.size := by omega
  clear hV hA hRR z; refine (sfok_any _ _ x V hR hw).mono ?_; rintro e w1 ⟨rfl, hb⟩; replace bA := bA.keep hb; replace bR := bR.keep hb; replace hR := hR.keep hb; have hs1 := hb.size; replace B1 := below_step B1 hb; clear hb h; have HSF := fsB_eq x; cases hfs : fsB x
  · have hok : okM x node = false := by unfold okM; rw [← HSF, hfs]; rfl
    have e : markF x node on = fb0 := by unfold markF; rw [if_neg (by rw [hok]; simp)]
    replace hY := hY.trans e; replace hO := hO.trans hok; subst hY hO; clear hok e

    have a0 := bA.c 0 rfl; have r0 := bR.c 0 rfl; have r1 := bR.c 1 rfl; have r2 := bR.c 2 rfl; have rf0 := bR.f 0 rfl; have rf1 := bR.f 1 rfl; have rf2 := bR.f 2 rfl; go_wp2_with fail; have bE := ((bR.set 0 (.slice none 0 0)).set 1 (.slice none 0 0)).set 2 (.int .i64 0); have e0 := bE.c 0 rfl; have e1 := bE.c 1 rfl; have e2 := bE.c 2 rfl
    exact bodyPost_ret (v := .tuple #[.agg #[.slice none 0 0, .slice none 0 0, .int .i64 0], .bool false]) (by simp [results, Tryz.results9, go_sem, e0, e1, e2]) rfl
      ⟨_, _, rfl, owF0 _ _, ((B1.setCell (p := ⟨R, 0, none⟩) hwR _).setCell (p := ⟨R, 1, none⟩) hwR _).setCell (p := ⟨R, 2, none⟩) hwR _⟩

  · by_cases hneg : node < 0
    · have hok : okM x node = false := by unfold okM inB; simp; omega
      have e : markF x node on = fb0 := by unfold markF; rw [if_neg (by rw [hok]; simp)]
      replace hY := hY.trans e; replace hO := hO.trans hok; subst hY hO; clear hok e

      have a0 := bA.c 0 rfl; have r0 := bR.c 0 rfl; have r1 := bR.c 1 rfl; have r2 := bR.c 2 rfl; have rf0 := bR.f 0 rfl; have rf1 := bR.f 1 rfl; have rf2 := bR.f 2 rfl; go_wp2_with fail; have bE := ((bR.set 0 (.slice none 0 0)).set 1 (.slice none 0 0)).set 2 (.int .i64 0); have e0 := bE.c 0 rfl; have e1 := bE.c 1 rfl; have e2 := bE.c 2 rfl
      exact bodyPost_ret (v := .tuple #[.agg #[.slice none 0 0, .slice none 0 0, .int .i64 0], .bool false]) (by simp [results, Tryz.results9, go_sem, e0, e1, e2]) rfl
        ⟨_, _, rfl, owF0 _ _, ((B1.setCell (p := ⟨R, 0, none⟩) hwR _).setCell (p := ⟨R, 1, none⟩) hwR _).setCell (p := ⟨R, 2, none⟩) hwR _⟩

    · by_cases hbig : (x.nodes.length : Int) ≤ node
      · have hok : okM x node = false := by unfold okM inB; simp; omega
        have e : markF x node on = fb0 := by unfold markF; rw [if_neg (by rw [hok]; simp)]
        replace hY := hY.trans e; replace hO := hO.trans hok; subst hY hO; clear hok e

        have hbig' : node ≥ (x.nodes.length : Int) := hbig; have a0 := bA.c 0 rfl; have r0 := bR.c 0 rfl; have r1 := bR.c 1 rfl; have r2 := bR.c 2 rfl; have rf0 := bR.f 0 rfl; have rf1 := bR.f 1 rfl; have rf2 := bR.f 2 rfl; go_wp2_with fail; have bE := ((bR.set 0 (.slice none 0 0)).set 1 (.slice none 0 0)).set 2 (.int .i64 0); have e0 := bE.c 0 rfl; have e1 := bE.c 1 rfl; have e2 := bE.c 2 rfl
        exact bodyPost_ret (v := .tuple #[.agg #[.slice none 0 0, .slice none 0 0, .int .i64 0], .bool false]) (by simp [results, Tryz.results9, go_sem, e0, e1, e2]) rfl
          ⟨_, _, rfl, owF0 _ _, ((B1.setCell (p := ⟨R, 0, none⟩) hwR _).setCell (p := ⟨R, 1, none⟩) hwR _).setCell (p := ⟨R, 2, none⟩) hwR _⟩

      · obtain ⟨k, rfl⟩ : ∃ k : Nat, node = k := ⟨node.toNat, by omega⟩
        have hk : k < x.nodes.length := by omega
        have hkI : (k : Int) < (x.nodes.length : Int) := by omega
        have hok : okM x k = true := by unfold okM inB; rw [← HSF, hfs]; simp; omega
        obtain ⟨y, hy⟩ : ∃ y, y = x.nodes.getD k n0 := ⟨_, rfl⟩; have e : markF x k on = ⟨x.nodes.set k ⟨y.an, y.own, y.bw, on, y.rib, y.sent⟩, x.links, x.width⟩ := by unfold markF; rw [if_pos hok, hy]; rfl
        have HY := Lib.hid hy; clear hy; replace hY := hY.trans e; replace hO := hO.trans hok; subst hY hO; have HOK := Lib.hid hok; clear hok e HSF hfs; have hnb : ¬ (x.nodes.length : Int) ≤ (k : Int) := hbig; have a0 := bA.c 0 rfl; have a1 := bA.c 1 rfl; have a2 := bA.c 2 rfl; go_wp2_with fail; clear a0 a1 a2; refine (sfcopy_any _ _ x w1 hR hw).mono ?_; rintro e w2 ⟨nv2, lv2, rfl, hF, hb⟩; obtain ⟨S0, S1, s0, s1, dj, oN, oL⟩ := hF; obtain ⟨hl, ⟨rfl, hnil⟩ | ⟨g, cap, xs, E, rfl, gS, bG, hxl, hE, hd⟩⟩ := oN
        · rw [hnil] at hk; simp at hk
        obtain ⟨l1, l2, rfl⟩ := oL.rd.len; replace bR := bR.keep hb; have hs2 := hb.size; replace B1 := below_step B1 hb; clear hb hR bA; have hgr := s0 _ gS; obtain ⟨bN, N1, z3⟩ := one w2 [.slice (some ⟨g, 0, none⟩) x.nodes.length cap, .slice l1 x.links.length l2, .int .i64 x.width] 30; have gf := bG.fz (k * 6 + 3) (by rw [hxl]; omega); have hgl : g < w2.heap.size := hgr.2; have hgT : g ≠ w2.heap.size := by omega
        have hRT : R ≠ w2.heap.size := by omega
        have hgR : g ≠ R := by have := hgr.1; omega
        have hTR : w2.heap.size ≠ R := by omega
        have hTg : w2.heap.size ≠ g := by omega
        have hRg : R ≠ g := fun e => hgR e.symm
        have lR := bR.lt; have hEk := (hE k hk).2.2; rw [← HY.out] at hEk; obtain ⟨ov, rv, sv, hon, f0, f1, f2, f3, f4, f5⟩ := hEk; have gc := bG.c (k * 6 + 3) f3; have r0 := bR.c 0 rfl; have r1 := bR.c 1 rfl; have r2 := bR.c 2 rfl; have rf0 := bR.f 0 rfl; have rf1 := bR.f 1 rfl; have rf2 := bR.f 2 rfl; have nS0 : ¬ S0 R := fun q => by have := (s0 _ q).1; omega
        have nS1 : ¬ S1 R := fun q => by have := (s1 _ q).1; omega
        have nG1 : ¬ S1 g := fun q => dj g gS q
        have oN := OwNS.upd (cap := cap) (x' := ⟨y.an, y.own, y.bw, on, y.rib, y.sent⟩) hl gS (bG.set (k * 6 + 3) (.bool on)) (by simpa using hxl) hE hd hk
          (fun i hi hij f hf => by rw [List.getElem?_set_ne (by omega)]) (ButS.set (o := k * 6 + 3) (u := .bool on) (ButS.refl g (E k) _))
          ⟨ov, rv, sv, hon.agr (agr_setS _ (hE k hk).2.1), by rw [List.getElem?_set_ne (by omega)]; exact f0, by rw [List.getElem?_set_ne (by omega)]; exact f1, by rw [List.getElem?_set_ne (by omega)]; exact f2, by rw [List.getElem?_set_self (by rw [hxl]; omega)], by rw [List.getElem?_set_ne (by omega)]; exact f4, by rw [List.getElem?_set_ne (by omega)]; exact f5⟩
        have oL1 := oL.agr (agr_setS (o := k * 6 + 3) (u := .bool on) w2 nG1); have bR1 := (((bR.far (o := k * 6 + 3) (u := .bool on) hRg).set 0 (.slice (some ⟨g, 0, none⟩) x.nodes.length cap)).set 1 (.slice l1 x.links.length l2)).set 2 (.int .i64 x.width); have B2 := (((B1.setCell (p := ⟨g, k * 6 + 3, none⟩) (by show w.heap.size ≤ g; have := hgr.1; omega) (.bool on)).setCell (p := ⟨R, 0, none⟩) hwR (.slice (some ⟨g, 0, none⟩) x.nodes.length cap)).setCell (p := ⟨R, 1, none⟩) hwR (.slice l1 x.links.length l2)).setCell (p := ⟨R, 2, none⟩) hwR (.int .i64 x.width); replace oN := ((oN.agr (agr_setS (o := 0) (u := .slice (some ⟨g, 0, none⟩) x.nodes.length cap) _ nS0)).agr (agr_setS (o := 1) (u := .slice l1 x.links.length l2) _ nS0)).agr (agr_setS (o := 2) (u := .int .i64 x.width) _ nS0); replace oL1 := ((oL1.agr (agr_setS (o := 0) (u := .slice (some ⟨g, 0, none⟩) x.nodes.length cap) _ nS1)).agr (agr_setS (o := 1) (u := .slice l1 x.links.length l2) _ nS1)).agr (agr_setS (o := 2) (u := .int .i64 x.width) _ nS1); obtain ⟨W6, hW6⟩ : ∃ W, W = (((w2.setCell ⟨g, k * 6 + 3, none⟩ (.bool on)).setCell ⟨R, 0, none⟩ (.slice (some ⟨g, 0, none⟩) x.nodes.length cap)).setCell ⟨R, 1, none⟩ (.slice l1 x.links.length l2)).setCell ⟨R, 2, none⟩ (.int .i64 x.width) := ⟨_, rfl⟩; have hz6 : w2.heap.size = W6.heap.size := by rw [hW6]; simp
        rw [← hW6] at bR1 B2 oN oL1; have N2 : Below W6.heap.size W6 (W6.alloc (.cells #[.slice (some ⟨g, 0, none⟩) x.nodes.length cap, .slice l1 x.links.length l2, .int .i64 x.width] 30)) := (Below.refl _ _).alloc (Nat.le_refl _) _; have z6 : (W6.alloc (.cells #[.slice (some ⟨g, 0, none⟩) x.nodes.length cap, .slice l1 x.links.length l2, .int .i64 x.width] 30)).heap.size = W6.heap.size + 1 := by simp
        replace oN := oN.agr (.of_below N2); replace oL1 := oL1.agr (.of_below N2); replace bR1 := bR1.keep N2; replace B2 := below_step B2 N2; have HZ := Lib.hid (And.intro hz6 z6); have HW6 := Lib.hid hW6; clear hE bG oL bR B1 N2 bN N1 hon f0 f1 f2 f3 f4 f5 hd hz6 z6 hW6; go_wp2_with fail; have hW6 := HW6.out; obtain ⟨hz6, z6⟩ := HZ.out; rw [← hW6]; have e0 := bR1.c 0 rfl; have e1 := bR1.c 1 rfl; have e2 := bR1.c 2 rfl
        exact bodyPost_ret (v := .tuple #[.agg #[.slice (some ⟨g, 0, none⟩) x.nodes.length cap, .slice l1 x.links.length l2, .int .i64 x.width], .bool true]) (by simp [results, Tryz.results9, go_sem, e0, e1, e2]) rfl
          ⟨_, _, rfl, ⟨S0, S1, fun b q => ⟨by have := (s0 b q).1; omega, by have := (s0 b q).2; omega⟩, fun b q => ⟨by have := (s1 b q).1; omega, by have := (s1 b q).2; omega⟩, dj, oN, oL1⟩, B2⟩
theorem ihasF_any (nv lv : Value) (x : Fb) (node : Int) (w : World) (h : RdF w nv lv x) (hw : wtF x ≤ 1048576) :
    Calls Tryz.prog 35 #[.agg #[nv, lv, .int .i64 x.width], .int .i64 node] w fun e w' => e = .returned (.bool (okM x node)) ∧ Below w.heap.size w w' := by
  have hn1 : x.nodes.length ≤ 1048576 ∧ x.links.length ≤ 1048576 := by unfold wtF at hw; omega
  obtain ⟨na, nc, rfl⟩ := h.1.len; obtain ⟨la, lc, rfl⟩ := h.2.len; obtain ⟨bA, B1, z⟩ := one w [.slice na x.nodes.length nc, .slice la x.links.length lc, .int .i64 x.width] 30; have hR := h.keep B1; have a0 := bA.c 0 rfl; have a1 := bA.c 1 rfl; have a2 := bA.c 2 rfl; obtain ⟨ok, hO⟩ : ∃ b, b = okM x node := ⟨_, rfl⟩; rw [← hO]
  go_enter Tryz.func35, Tryz.ntmps35
  go_wp2_with fail; clear a0 a1 a2 z; refine (ifok_any _ _ x _ hR hn1.1 hn1.2).mono ?_; rintro e w1 ⟨rfl, hb⟩; replace bA := bA.keep hb; replace B1 := below_step B1 hb; clear hb hR h; unfold okM at hO; cases hf : fbB x
  · rw [hf, Bool.false_and] at hO
    subst hO; go_wp2_with fail
    go_ret
    exact ⟨rfl, B1⟩
  · rw [hf, Bool.true_and] at hO
    have a0 := bA.c 0 rfl; have hw1 : IntKind.i64.wrap ((x.nodes.length : Int) - 1) = (x.nodes.length : Int) - 1 := wrap64_in _ (by omega) (by omega); go_wp2_with fail; refine (within_any node 0 ((x.nodes.length : Int) - 1) w1).mono ?_; rintro e w2 ⟨rfl, rfl⟩; subst hO; go_wp2_with fail
    go_ret
    exact ⟨rfl, B1⟩
end Go.Proofs.YtkodnipmogdgkaaGreat
namespace Go.Proofs.YtkodnipmogdgkaaGreat
open Go.ChangeShapes Go.WideShapes Go.ChangeAt Go.RowKit Go.BigFrame Go.Joins
set_option linter.unusedVariables false
set_option maxRecDepth 100000
set_option linter.unusedSimpArgs false
set_option maxRecDepth 100000

theorem OwNS.put {w w' : World} {S S' : Nat → Prop} {g cap j : Nat} {xs xs' : List Value} {E : Nat → Nat → Prop} {L : List Nd} {x' : Nd} (hl : L.length ≤ 1048576) (h1 : S g) (hB : Bl w' g xs') (hx : xs'.length = L.length * 6)
    (hE : ∀ i, i < L.length → (∀ b, E i b → S b) ∧ ¬ E i g ∧ ElN xs w (E i) i (L.getD i n0)) (hd : ∀ i j, i < L.length → j < L.length → i ≠ j → Dj (E i) (E j)) (hj : j < L.length)
    (hsame : ∀ i, i < L.length → i ≠ j → ∀ f, f < 6 → xs'[i * 6 + f]? = xs[i * 6 + f]?) (ha : ∀ i, i < L.length → AgrS (E i) w w') (hS : Dj S S') (hn : ElN xs' w' S' j x') : OwNS w' (fun b => S b ∨ S' b) (.slice (some ⟨g, 0, none⟩) L.length cap) (L.set j x') := by
  refine ⟨by rw [List.length_set]; exact hl, .inr ⟨g, cap, xs', fun i => if i = j then S' else E i, by rw [List.length_set], .inl h1, hB, by rw [List.length_set]; exact hx, fun i hi => ?_, fun i i' hi hi' hij => ?_⟩⟩
  · rw [List.length_set] at hi
    dsimp only
    by_cases e : i = j
    · subst e
      rw [if_pos rfl, show (L.set i x').getD i n0 = x' by simp [List.getD, hi]]
      exact ⟨fun b q => .inr q, fun q => hS g h1 q, hn⟩
    · rw [if_neg e, show (L.set j x').getD i n0 = L.getD i n0 by simp [List.getD, List.getElem?_set, Ne.symm e]]
      obtain ⟨e1, e2, ov, rv, sv, ho, f0, f1, f2, f3, f4, f5⟩ := hE i hi; refine ⟨fun b q => .inl (e1 b q), e2, ov, rv, sv, ho.agr (ha i hi), ?_, ?_, ?_, ?_, ?_, ?_⟩
      · rw [show i * 6 = i * 6 + 0 from rfl, hsame i hi e 0 (by omega)]; exact f0
      · rw [hsame i hi e 1 (by omega)]; exact f1
      · rw [hsame i hi e 2 (by omega)]; exact f2
      · rw [hsame i hi e 3 (by omega)]; exact f3
      · rw [hsame i hi e 4 (by omega)]; exact f4
      · rw [hsame i hi e 5 (by omega)]; exact f5
  · rw [List.length_set] at hi hi'
    dsimp only
    by_cases e : i = j
    · rw [if_pos e, if_neg (by omega)]
      exact fun b q r => hS b ((hE i' hi').1 b r) q
    · by_cases e' : i' = j
      · rw [if_neg e, if_pos e']
        exact fun b q r => hS b ((hE i hi).1 b q) r
      · rw [if_neg e, if_neg e']
        exact hd i i' hi hi' hij
set_option maxHeartbeats 4000000 in
theorem imark_any (nv lv : Value) (x : Fb) (node : Int) (on : Bool) (w : World) (h : RdF w nv lv x) (hw : wtF x ≤ 1048576) :
    Calls Tryz.prog 11 #[.agg #[nv, lv, .int .i64 x.width], .int .i64 node, .bool on] w fun e w' => ∃ nv lv, e = .returned (.tuple #[.agg #[nv, lv, .int .i64 (markF x node on).width], .bool (okM x node)]) ∧ OwF w' (Rg w.heap.size w'.heap.size) nv lv (markF x node on) ∧ Below w.heap.size w w' := by
  obtain ⟨na, nc, rfl⟩ := h.1.len; obtain ⟨la, lc, rfl⟩ := h.2.len; obtain ⟨bA, bR, B1, z⟩ := two w [.slice na x.nodes.length nc, .slice la x.links.length lc, .int .i64 x.width] [.slice none 0 0, .slice none 0 0, .int .i64 0] 30 30; have hR := h.keep B1; have a0 := bA.c 0 rfl; have a1 := bA.c 1 rfl; have a2 := bA.c 2 rfl; obtain ⟨Y, hY⟩ : ∃ Y, Y = markF x node on := ⟨_, rfl⟩; obtain ⟨ok, hO⟩ : ∃ b, b = okM x node := ⟨_, rfl⟩; rw [← hY, ← hO]
  go_enter Tryz.func11, Tryz.ntmps11
  go_wp2_with fail; clear a0 a1 a2; obtain ⟨V, hV⟩ : ∃ V, V = (w.alloc (.cells #[.slice na x.nodes.length nc, .slice la x.links.length lc, .int .i64 x.width] 30)).alloc (.cells #[.slice none 0 0, .slice none 0 0, .int .i64 0] 30) := ⟨_, rfl⟩; rw [← hV] at bA bR B1 z hR ⊢; obtain ⟨A, hA⟩ : ∃ A, A = w.heap.size := ⟨_, rfl⟩; obtain ⟨R, hRR⟩ : ∃ R, R = w.heap.size + 1 := ⟨_, rfl⟩; rw [← hA] at bA; rw [← hRR] at bR
  try rw [← hRR]
  try rw [← hA]
  have hwR : w.heap.size ≤ R := by omega
  have hRV : R < V.heap.size := by omega
  have hwV : w.heap.size ≤ V.heap.size := by omega
  clear hV hA hRR z; refine (ihasF_any _ _ x node V hR hw).mono ?_; rintro e w1 ⟨rfl, hb⟩; replace bA := bA.keep hb; replace bR := bR.keep hb; replace hR := hR.keep hb; have hs1 := hb.size; replace B1 := below_step B1 hb; clear hb h; cases hok : okM x node
  · have e : markF x node on = fb0 := by unfold markF; rw [if_neg (by rw [hok]; simp)]
    replace hY := hY.trans e; replace hO := hO.trans hok; subst hY hO; clear e; have r0 := bR.c 0 rfl; have r1 := bR.c 1 rfl; have r2 := bR.c 2 rfl; have rf0 := bR.f 0 rfl; have rf1 := bR.f 1 rfl; have rf2 := bR.f 2 rfl; go_wp2_with fail; have bE := ((bR.set 0 (.slice none 0 0)).set 1 (.slice none 0 0)).set 2 (.int .i64 0); have e0 := bE.c 0 rfl; have e1 := bE.c 1 rfl; have e2 := bE.c 2 rfl
    exact bodyPost_ret (v := .tuple #[.agg #[.slice none 0 0, .slice none 0 0, .int .i64 0], .bool false]) (by simp [results, Tryz.results11, go_sem, e0, e1, e2]) rfl
      ⟨_, _, rfl, owF0 _ _, ((B1.setCell (p := ⟨R, 0, none⟩) hwR _).setCell (p := ⟨R, 1, none⟩) hwR _).setCell (p := ⟨R, 2, none⟩) hwR _⟩

  · have hin : fbB x = true ∧ 0 ≤ node ∧ node < (x.nodes.length : Int) := by
      have := hok; unfold okM inB at this
      simp at this
      exact ⟨this.1, by omega, by omega⟩
    obtain ⟨k, rfl⟩ : ∃ k : Nat, node = k := ⟨node.toNat, by omega⟩; have hk : k < x.nodes.length := by omega
    have hkI : (k : Int) < (x.nodes.length : Int) := by omega
    obtain ⟨y, hy⟩ : ∃ y, y = x.nodes.getD k n0 := ⟨_, rfl⟩; have e : markF x k on = ⟨x.nodes.set k ⟨y.an, y.own, y.bw, on, y.rib, y.sent⟩, x.links, x.width⟩ := by unfold markF; rw [if_pos hok, hy]; rfl
    have hnd : ndB y = true := by
      have := hin.1; unfold fbB at this; simp only [Bool.and_eq_true, List.all_eq_true] at this; rw [hy]
      exact this.2.1 _ (by simp [List.getD, hk])
    have HDR : Hid (drainN y on = ⟨y.an, y.own, y.bw, on, y.rib, y.sent⟩) := Lib.hid (by unfold drainN; rw [if_pos hnd])
    have hwy : wtN y ≤ 1048576 := by
      have h1 := wtN_at (L := x.nodes) (j := k) hk; rw [← hy] at h1; unfold wtF at hw
      omega
    have HWD : Hid (wtN ⟨y.an, y.own, y.bw, on, y.rib, y.sent⟩ ≤ 1048576) := Lib.hid hwy; replace hY := hY.trans e; replace hO := hO.trans hok; subst hY hO; have HY := Lib.hid hy; clear hok e hin hnd hy; have a0 := bA.c 0 rfl; have a1 := bA.c 1 rfl; have a2 := bA.c 2 rfl; go_wp2_with fail; clear a0 a1 a2; refine (ifcopy_any _ _ x w1 hR hw).mono ?_; rintro e w2 ⟨nv2, lv2, rfl, hF, hb⟩; obtain ⟨S0, S1, s0, s1, dj, oN, oL⟩ := hF; obtain ⟨hl, ⟨rfl, hnil⟩ | ⟨g, cap, xs, E, rfl, gS, bG, hxl, hE, hd⟩⟩ := oN
    · rw [hnil] at hk; simp at hk
    obtain ⟨l1, l2, rfl⟩ := oL.rd.len; replace bR := bR.keep hb; have hs2 := hb.size; replace B1 := below_step B1 hb; clear hb hR bA; have hgr := s0 _ gS; obtain ⟨bT, N1, z3⟩ := one w2 [.slice (some ⟨g, 0, none⟩) x.nodes.length cap, .slice l1 x.links.length l2, .int .i64 x.width] 30; go_wp2_with fail; obtain ⟨V2, hV2⟩ : ∃ V2, V2 = w2.alloc (.cells #[.slice (some ⟨g, 0, none⟩) x.nodes.length cap, .slice l1 x.links.length l2, .int .i64 x.width] 30) := ⟨_, rfl⟩; rw [← hV2] at bT N1 z3 ⊢; have hgT : g ≠ w2.heap.size := by have := hgr.2; omega
    have hRT : R ≠ w2.heap.size := by have := bR.lt; omega
    have hgR : g ≠ R := by have := hgr.1; omega
    replace bG := bG.keep N1; replace bR := bR.keep N1; replace oL := oL.agr (.of_below N1); replace B1 := below_step B1 N1; have hE' : ∀ i, i < x.nodes.length → (∀ b, E i b → S0 b) ∧ ¬ E i g ∧ ElN xs V2 (E i) i (x.nodes.getD i n0) := fun i hi => ⟨(hE i hi).1, (hE i hi).2.1, (hE i hi).2.2.agr (.of_below N1)⟩
    have hEk := (hE' k hk).2.2; rw [← HY.out] at hEk; obtain ⟨ov, rv, sv, hon, f0, f1, f2, f3, f4, f5⟩ := hEk; have hry : RdN V2 ov rv sv y := hon.rd; have HBD : Hid (BdN ⟨y.an, y.own, y.bw, on, y.rib, y.sent⟩) := Lib.hid hry.bd; obtain ⟨i1, j1, rfl⟩ := hry.1.len; obtain ⟨i2, j2, rfl⟩ := hry.2.1.len; obtain ⟨i3, j3, rfl⟩ := hry.2.2.len; have HE := Lib.hid hE'; clear hV2 hE hE'; refine wp_region_held_drew (S := fun w' => Bl w' w2.heap.size [.slice (some ⟨g, 0, none⟩) x.nodes.length cap, .slice l1 x.links.length l2, .int .i64 x.width]) (by kernel_rfl) (bT.keep (over_drew _)) (fun hHeld => ?_); clear hHeld; obtain ⟨D, hD⟩ : ∃ D, D = V2.drew := ⟨_, rfl⟩; have OD : Over V2 D := by rw [hD]; exact over_drew _
    rw [← hD]; clear hD; have bPD := bT.keep OD; have hSD := bPD; refine wpAnyH_take (i := 0) (v := ?_) rfl (by kernel_rfl) (by kernel_rfl) (by kernel_rfl) (fun _ _ _ h => h) (Or.inl ⟨by rfl, ?_⟩) hSD ?_
    rotate_left
    · intro wq hSq
      (try dsimp only at hSq)

      go_simp
      try rfl
    change wpAnyH _ _ _ _ _ _ _ (Act.put _ (some 16) _) _
    simp only [Act.put, List.setIfInBounds_toArray, List.set_cons_succ, List.set_cons_zero]; refine wpAnyH_take (i := 1) (v := ?_) rfl (by kernel_rfl) (by kernel_rfl) (by kernel_rfl) (fun _ _ _ h => h) (Or.inl ⟨by rfl, ?_⟩) hSD ?_
    rotate_left
    · intro wq hSq
      (try dsimp only at hSq)
      have q0 := hSq.c 0 rfl
      go_simp
      try rfl
    change wpAnyH _ _ _ _ _ _ _ (Act.put _ (some 17) _) _
    simp only [Act.put, List.setIfInBounds_toArray, List.set_cons_succ, List.set_cons_zero]; refine wpAnyH_take (i := 2) (v := ?_) rfl (by kernel_rfl) (by kernel_rfl) (by kernel_rfl) (fun _ _ _ h => h) (Or.inl ⟨by rfl, ?_⟩) hSD ?_
    rotate_left
    · intro wq hSq
      (try dsimp only at hSq)

      go_simp
      try rfl
    change wpAnyH _ _ _ _ _ _ _ (Act.put _ (some 18) _) _
    simp only [Act.put, List.setIfInBounds_toArray, List.set_cons_succ, List.set_cons_zero]; refine wpAnyH_take (i := 3) (v := ?_) rfl (by kernel_rfl) (by kernel_rfl) (by kernel_rfl) (fun _ _ _ h => h) (Or.inl ⟨by rfl, ?_⟩) hSD ?_
    rotate_left
    · intro wq hSq
      (try dsimp only at hSq)

      go_simp
      try rfl
    change wpAnyH _ _ _ _ _ _ _ (Act.put _ (some 19) _) _
    simp only [Act.put, List.setIfInBounds_toArray, List.set_cons_succ, List.set_cons_zero]; refine wpAnyH_take (i := 4) (v := ?_) rfl (by kernel_rfl) (by kernel_rfl) (by kernel_rfl) (fun _ _ _ h => h) (Or.inl ⟨by rfl, ?_⟩) hSD ?_
    rotate_left
    · intro wq hSq
      (try dsimp only at hSq)
      have q0 := hSq.c 0 rfl
      go_simp
      try rfl
    change wpAnyH _ _ _ _ _ _ _ (Act.put _ (some 20) _) _
    simp only [Act.put, List.setIfInBounds_toArray, List.set_cons_succ, List.set_cons_zero]; refine wpAnyH_take (i := 5) (v := ?_) rfl (by kernel_rfl) (by kernel_rfl) (by kernel_rfl) (fun _ _ _ h => h) (Or.inl ⟨by rfl, ?_⟩) hSD ?_
    rotate_left
    · intro wq hSq
      (try dsimp only at hSq)

      go_simp
      try rfl
    change wpAnyH _ _ _ _ _ _ _ (Act.put _ (some 21) _) _
    simp only [Act.put, List.setIfInBounds_toArray, List.set_cons_succ, List.set_cons_zero]; refine wpAnyH_take (i := 6) (v := ?_) rfl (by kernel_rfl) (by kernel_rfl) (by kernel_rfl) (fun _ _ _ h => h) (Or.inl ⟨by rfl, ?_⟩) hSD ?_
    rotate_left
    · intro wq hSq
      (try dsimp only at hSq)

      go_simp
      try rfl
    change wpAnyH _ _ _ _ _ _ _ (Act.put _ (some 22) _) _
    simp only [Act.put, List.setIfInBounds_toArray, List.set_cons_succ, List.set_cons_zero]; refine wpAnyH_take (i := 8) (v := ?_) rfl (by kernel_rfl) (by kernel_rfl) (by kernel_rfl) (fun _ _ _ h => h) (Or.inl ⟨by rfl, ?_⟩) hSD ?_
    rotate_left
    · intro wq hSq
      (try dsimp only at hSq)

      go_simp
      try rfl
    change wpAnyH _ _ _ _ _ _ _ (Act.put _ (some 24) _) _
    simp only [Act.put, List.setIfInBounds_toArray, List.set_cons_succ, List.set_cons_zero]; clear hSD; refine wpAnyH_ready (rs := [7]) (by kernel_rfl) (by simp) ?_; refine (AllReadyH.cons rfl (fun K hK => ?_) AllReadyH.nil); have q0 := (bG.keep OD).c (k * 6) f0; have q1 := (bG.keep OD).c (k * 6 + 1) f1; have q2 := (bG.keep OD).c (k * 6 + 2) f2; have q3 := (bG.keep OD).c (k * 6 + 3) f3; have q4 := (bG.keep OD).c (k * 6 + 4) f4; have q5 := (bG.keep OD).c (k * 6 + 5) f5
    go_simp
    refine hK.out _ _ bPD (fun hHeld => ?_); clear hK K hHeld q0 q1 q2 q3 q4 q5
    try simp only [Act.put, List.setIfInBounds_toArray, List.set_cons_zero, List.set_cons_succ]
    refine wpAnyH_ready (rs := [9]) (by kernel_rfl) (by simp) ?_; refine (AllReadyH.cons rfl (fun K hK => ?_) AllReadyH.nil)
    go_simp
    refine (idrain_any _ _ _ y on D (hry.keep OD) hwy).mono ?_; rintro e w3 ⟨v1, v2, v3, T1, T2, b0, h1, h2, rfl, hT, eT1, eT2, hb0, B2⟩; rw [HDR.out] at hT eT1 eT2; rw [HDR.out]; have oNew := ndT_own hT eT1 eT2 HBD.out HWD.out; obtain ⟨⟨n1, m1, rfl⟩, ⟨n2, m2, rfl⟩, ⟨n3, m3, rfl⟩⟩ := hT.lens; clear hT eT1 eT2; refine hK.out _ _ (bPD.keep B2) (fun hHeld => ?_); clear hK K hHeld
    try simp only [Act.put, List.setIfInBounds_toArray, List.set_cons_zero, List.set_cons_succ]
    refine wpAnyH_ready (rs := [10]) (by kernel_rfl) (by simp) ?_; refine (AllReadyH.cons rfl (fun K hK => ?_) AllReadyH.nil)
    go_simp
    refine hK.out _ _ (bPD.keep B2) (fun hHeld => ?_); clear hK K hHeld
    try simp only [Act.put, List.setIfInBounds_toArray, List.set_cons_zero, List.set_cons_succ]
    refine wpAnyH_ready (rs := [11]) (by kernel_rfl) (by simp) ?_; refine (AllReadyH.cons rfl (fun K hK => ?_) AllReadyH.nil); have q0 := ((bG.keep OD).keep B2).c (k * 6) f0; have p0 := ((bG.keep OD).keep B2).f (k * 6) f0; have q1 := ((bG.keep OD).keep B2).c (k * 6 + 1) f1; have p1 := ((bG.keep OD).keep B2).f (k * 6 + 1) f1; have q2 := ((bG.keep OD).keep B2).c (k * 6 + 2) f2; have p2 := ((bG.keep OD).keep B2).f (k * 6 + 2) f2; have q3 := ((bG.keep OD).keep B2).c (k * 6 + 3) f3; have p3 := ((bG.keep OD).keep B2).f (k * 6 + 3) f3; have q4 := ((bG.keep OD).keep B2).c (k * 6 + 4) f4; have p4 := ((bG.keep OD).keep B2).f (k * 6 + 4) f4; have q5 := ((bG.keep OD).keep B2).c (k * 6 + 5) f5; have p5 := ((bG.keep OD).keep B2).f (k * 6 + 5) f5
    go_simp
    refine hK.out _ _ (((((((bPD.keep B2).far (o := k * 6) hgT.symm).far (o := k * 6 + 1) hgT.symm).far (o := k * 6 + 2) hgT.symm).far (o := k * 6 + 3) hgT.symm).far (o := k * 6 + 4) hgT.symm).far (o := k * 6 + 5) hgT.symm) (fun hHeld => ?_); clear hK K hHeld q0 q1 q2 q3 q4 q5 p0 p1 p2 p3 p4 p5
    try simp only [Act.put, List.setIfInBounds_toArray, List.set_cons_zero, List.set_cons_succ]
    refine wpAnyH_done (by kernel_rfl) ?_ _; obtain ⟨W7, hW7⟩ : ∃ W, W = ((((((w3).setCell ⟨g, k * 6, none⟩ (.int .i64 y.an)).setCell ⟨g, k * 6 + 1, none⟩ (.slice n1 y.own.length m1)).setCell ⟨g, k * 6 + 2, none⟩ (.int .i64 y.bw)).setCell ⟨g, k * 6 + 3, none⟩ (.bool on)).setCell ⟨g, k * 6 + 4, none⟩ (.slice n2 T1.length m2)).setCell ⟨g, k * 6 + 5, none⟩ (.slice n3 T2.length m3) := ⟨_, rfl⟩; have hz7 : w3.heap.size = W7.heap.size := by rw [hW7]; simp
    have hwg : w.heap.size ≤ g := by have := hgr.1; omega
    have hD := OD.size; have hD3 := B2.size; have ng : ¬ Rg b0 w3.heap.size g := fun q => by have := q.1; have := hgr.2; omega
    have nG1 : ¬ S1 g := fun q => dj g gS q
    have nS1 : ¬ S1 R := fun q => by have := (s1 _ q).1; omega
    have nS0 : ¬ S0 R := fun q => by have := (s0 _ q).1; omega
    have nR0 : ¬ Rg b0 w3.heap.size R := fun q => by have := q.1; omega
    have nSR : ¬ (fun b => S0 b ∨ Rg b0 w3.heap.size b) R := fun q => q.elim nS0 nR0
    have ag : ∀ S : Nat → Prop, ¬ S g → AgrS S V2 W7 := fun S hg => by rw [hW7]; exact (((((((AgrS.of_below (below_step OD B2))).trans (agr_setS (o := k * 6) (u := .int .i64 y.an) _ hg)).trans (agr_setS (o := k * 6 + 1) (u := .slice n1 y.own.length m1) _ hg)).trans (agr_setS (o := k * 6 + 2) (u := .int .i64 y.bw) _ hg)).trans (agr_setS (o := k * 6 + 3) (u := .bool on) _ hg)).trans (agr_setS (o := k * 6 + 4) (u := .slice n2 T1.length m2) _ hg)).trans (agr_setS (o := k * 6 + 5) (u := .slice n3 T2.length m3) _ hg)
    have oN7 := ((((((oNew).agr (agr_setS (o := k * 6) (u := .int .i64 y.an) _ ng)).agr (agr_setS (o := k * 6 + 1) (u := .slice n1 y.own.length m1) _ ng)).agr (agr_setS (o := k * 6 + 2) (u := .int .i64 y.bw) _ ng)).agr (agr_setS (o := k * 6 + 3) (u := .bool on) _ ng)).agr (agr_setS (o := k * 6 + 4) (u := .slice n2 T1.length m2) _ ng)).agr (agr_setS (o := k * 6 + 5) (u := .slice n3 T2.length m3) _ ng); have bG7 := ((((((((bG.keep OD).keep B2)).set (k * 6) (.int .i64 y.an)).set (k * 6 + 1) (.slice n1 y.own.length m1)).set (k * 6 + 2) (.int .i64 y.bw)).set (k * 6 + 3) (.bool on)).set (k * 6 + 4) (.slice n2 T1.length m2)).set (k * 6 + 5) (.slice n3 T2.length m3); have bR7 := ((((((((bR.keep OD).keep B2)).far (o := k * 6) (u := .int .i64 y.an) (fun e => hgR e.symm)).far (o := k * 6 + 1) (u := .slice n1 y.own.length m1) (fun e => hgR e.symm)).far (o := k * 6 + 2) (u := .int .i64 y.bw) (fun e => hgR e.symm)).far (o := k * 6 + 3) (u := .bool on) (fun e => hgR e.symm)).far (o := k * 6 + 4) (u := .slice n2 T1.length m2) (fun e => hgR e.symm)).far (o := k * 6 + 5) (u := .slice n3 T2.length m3) (fun e => hgR e.symm); have bT7 := (((((((bPD.keep B2)).far (o := k * 6) (u := .int .i64 y.an) hgT.symm).far (o := k * 6 + 1) (u := .slice n1 y.own.length m1) hgT.symm).far (o := k * 6 + 2) (u := .int .i64 y.bw) hgT.symm).far (o := k * 6 + 3) (u := .bool on) hgT.symm).far (o := k * 6 + 4) (u := .slice n2 T1.length m2) hgT.symm).far (o := k * 6 + 5) (u := .slice n3 T2.length m3) hgT.symm; have B7 := (((((((below_step (below_step B1 OD) B2)).setCell (p := ⟨g, k * 6, none⟩) hwg (.int .i64 y.an)).setCell (p := ⟨g, k * 6 + 1, none⟩) hwg (.slice n1 y.own.length m1)).setCell (p := ⟨g, k * 6 + 2, none⟩) hwg (.int .i64 y.bw)).setCell (p := ⟨g, k * 6 + 3, none⟩) hwg (.bool on)).setCell (p := ⟨g, k * 6 + 4, none⟩) hwg (.slice n2 T1.length m2)).setCell (p := ⟨g, k * 6 + 5, none⟩) hwg (.slice n3 T2.length m3); have oL7 := ((((((((oL.agr (.of_below OD)).agr (.of_below B2))).agr (agr_setS (o := k * 6) (u := .int .i64 y.an) _ nG1)).agr (agr_setS (o := k * 6 + 1) (u := .slice n1 y.own.length m1) _ nG1)).agr (agr_setS (o := k * 6 + 2) (u := .int .i64 y.bw) _ nG1)).agr (agr_setS (o := k * 6 + 3) (u := .bool on) _ nG1)).agr (agr_setS (o := k * 6 + 4) (u := .slice n2 T1.length m2) _ nG1)).agr (agr_setS (o := k * 6 + 5) (u := .slice n3 T2.length m3) _ nG1); rw [← hW7] at oN7 bG7 bR7 bT7 B7 oL7 ⊢; clear hW7
    have hP := OwNS.put (cap := cap) (S' := Rg b0 w3.heap.size) (x' := ⟨y.an, y.own, y.bw, on, y.rib, y.sent⟩) hl gS bG7 (by simpa using hxl) HE.out hd hk
      (fun i hi hij f hf => by rw [List.getElem?_set_ne (by omega)]; rw [List.getElem?_set_ne (by omega)]; rw [List.getElem?_set_ne (by omega)]; rw [List.getElem?_set_ne (by omega)]; rw [List.getElem?_set_ne (by omega)]; rw [List.getElem?_set_ne (by omega)])
      (fun i hi => ag _ (HE.out i hi).2.1) (fun b q r => by have := (s0 b q).2; have := r.1; omega)
      ⟨_, _, _, oN7, by rw [List.getElem?_set_ne (by omega)]; rw [List.getElem?_set_ne (by omega)]; rw [List.getElem?_set_ne (by omega)]; rw [List.getElem?_set_ne (by omega)]; rw [List.getElem?_set_ne (by omega)]; rw [List.getElem?_set_self (by first | (rw [hxl]; omega) | (simp only [List.length_set]; rw [hxl]; omega))], by rw [List.getElem?_set_ne (by omega)]; rw [List.getElem?_set_ne (by omega)]; rw [List.getElem?_set_ne (by omega)]; rw [List.getElem?_set_ne (by omega)]; rw [List.getElem?_set_self (by first | (rw [hxl]; omega) | (simp only [List.length_set]; rw [hxl]; omega))], by rw [List.getElem?_set_ne (by omega)]; rw [List.getElem?_set_ne (by omega)]; rw [List.getElem?_set_ne (by omega)]; rw [List.getElem?_set_self (by first | (rw [hxl]; omega) | (simp only [List.length_set]; rw [hxl]; omega))], by rw [List.getElem?_set_ne (by omega)]; rw [List.getElem?_set_ne (by omega)]; rw [List.getElem?_set_self (by first | (rw [hxl]; omega) | (simp only [List.length_set]; rw [hxl]; omega))], by rw [List.getElem?_set_ne (by omega)]; rw [List.getElem?_set_self (by first | (rw [hxl]; omega) | (simp only [List.length_set]; rw [hxl]; omega))], by rw [List.getElem?_set_self (by first | (rw [hxl]; omega) | (simp only [List.length_set]; rw [hxl]; omega))]⟩
    have t0 := bT7.c 0 rfl; have t1 := bT7.c 1 rfl; have t2 := bT7.c 2 rfl; have r0 := bR7.c 0 rfl; have r1 := bR7.c 1 rfl; have r2 := bR7.c 2 rfl; have rf0 := bR7.f 0 rfl; have rf1 := bR7.f 1 rfl; have rf2 := bR7.f 2 rfl; have HZ7 := Lib.hid hz7; clear bG7 oN7 ag hz7 hD hD3 hd bG bT bPD; go_wp2; have bE := ((bR7.set 0 (.slice (some ⟨g, 0, none⟩) x.nodes.length cap)).set 1 (.slice l1 x.links.length l2)).set 2 (.int .i64 x.width); have e0 := bE.c 0 rfl; have e1 := bE.c 1 rfl; have e2 := bE.c 2 rfl; have hz7 := HZ7.out; have hD := OD.size; have hD3 := B2.size; have hsub1 : ∀ b, S1 b → w.heap.size ≤ b ∧ b < W7.heap.size := fun b q => ⟨by have := (s1 b q).1; omega, by have := (s1 b q).2; omega⟩
    have hsub : ∀ b, (S0 b ∨ Rg b0 w3.heap.size b) → w.heap.size ≤ b ∧ b < W7.heap.size := fun b q => q.elim (fun q => ⟨by have := (s0 b q).1; omega, by have := (s0 b q).2; omega⟩) (fun q => ⟨by have := q.1; omega, by have := q.2; omega⟩)
    exact bodyPost_ret (v := .tuple #[.agg #[.slice (some ⟨g, 0, none⟩) x.nodes.length cap, .slice l1 x.links.length l2, .int .i64 x.width], .bool true]) (by simp [results, Tryz.results11, go_sem, e0, e1, e2]) rfl
      ⟨_, _, rfl, ⟨fun b => S0 b ∨ Rg b0 w3.heap.size b, S1, fun b q => ⟨(hsub b q).1, by have := (hsub b q).2; simpa using this⟩, fun b q => ⟨(hsub1 b q).1, by have := (hsub1 b q).2; simpa using this⟩, fun b q r => q.elim (fun q => dj b q r) (fun q => by have := (s1 b r).2; have := q.1; omega),
        ((hP.agr (agr_setS _ nSR)).agr (agr_setS _ nSR)).agr (agr_setS _ nSR), ((oL7.agr (agr_setS _ nS1)).agr (agr_setS _ nS1)).agr (agr_setS _ nS1)⟩,
        ((B7.setCell (p := ⟨R, 0, none⟩) hwR _).setCell (p := ⟨R, 1, none⟩) hwR _).setCell (p := ⟨R, 2, none⟩) hwR _⟩
end Go.Proofs.YtkodnipmogdgkaaGreat
namespace Go.Proofs.YtkodnipmogdgkaaGreat
open Go.ChangeShapes Go.WideShapes Go.ChangeAt Go.RowKit Go.BigFrame Go.Joins
set_option linter.unusedVariables false
set_option maxRecDepth 100000
set_option linter.unusedSimpArgs false
set_option maxRecDepth 100000

theorem cntQEw_le (L : List Ent) : cntQE L ≤ 11 * (L.length + wtE L) := by
  induction L with
  | nil => simp [cntQE, cntQS]
  | cons x L ih =>
    simp only [cntQE, cntQS, wtE, List.map_cons, List.sum_cons, List.length_cons] at ih ⊢; have : cntQ x ≤ 11 + 11 * (x.p.length + x.c.length) := by unfold cntQ cntI; omega
    omega
theorem cntMSw_le (L : List Mg) : cntMS L ≤ 11 * (L.length + wtMS L) := by
  induction L with
  | nil => simp [cntMS]
  | cons x L ih =>
    simp only [cntMS, wtMS, List.map_cons, List.sum_cons, List.length_cons] at ih ⊢; have : cntM x ≤ 11 + 11 * wtM x := by unfold cntM cntI cntP wtM; omega
    omega
theorem cntNSw_le (L : List Nd) : cntNS L ≤ 11 * (L.length + wtNS L) := by
  induction L with
  | nil => simp [cntNS]
  | cons x L ih =>
    simp only [cntNS, wtNS, List.map_cons, List.sum_cons, List.length_cons] at ih ⊢
    have : cntN x ≤ 11 + 11 * wtN x := by
      have h1 := cntQEw_le x.rib; have h2 := cntQEw_le x.sent; unfold cntN cntP wtN; omega
    omega
theorem cntLSw_le (L : List Lk) : cntLS L ≤ 11 * (L.length + wtLS L) := by
  induction L with
  | nil => simp [cntLS]
  | cons x L ih =>
    simp only [cntLS, wtLS, List.map_cons, List.sum_cons, List.length_cons] at ih ⊢
    have : cntL x ≤ 11 + 11 * wtL x := by
      have h1 := cntMSw_le x.ab; have h2 := cntMSw_le x.ba; unfold cntL wtL; omega
    omega
theorem cntF_le (x : Fb) (h : wtF x ≤ 1048576) : cntF x ≤ 12000000 := by
  have h1 := cntNSw_le x.nodes; have h2 := cntLSw_le x.links; unfold cntF; unfold wtF at h
  omega
theorem cntNS_set (L : List Nd) (k : Nat) (y : Nd) (h : cntN y = cntN (L.getD k n0)) : cntNS (L.set k y) = cntNS L := by
  induction L generalizing k with
  | nil => simp
  | cons x L ih =>
    cases k with
    | zero => simp only [cntNS, List.set_cons_zero, List.map_cons, List.sum_cons] at h ⊢; rw [h]; simp
    | succ k => 
      have := ih k (by simpa using h); simp only [cntNS, List.set_cons_succ, List.map_cons, List.sum_cons] at this ⊢
      omega
theorem mark_cnt (x : Fb) (node : Int) (on : Bool) (h : wtF x ≤ 1048576) : cntF (markF x node on) ≤ 12000000 := by
  unfold markF
  split
  · have h1 := cntF_le x h
    unfold cntF at h1 ⊢
    dsimp only
    rw [cntNS_set]
    · exact h1
    · unfold cntN; rfl
  · simp [cntF, fb0, cntNS, cntLS]
end Go.Proofs.YtkodnipmogdgkaaGreat
