/-
  The library's slices.Compact at a slice of prefixes; the program's list of a table's prefixes. Conditions: those in each contract.
-/
import Derived.Test.YtbcmoofpgffbhaaF8
namespace Go.Proofs.Ytbcmoofpgffbhaa
open Go.ChangeShapes Go.WideShapes Go.ChangeAt Go.RowKit Go.BigFrame Go.Joins
set_option linter.unusedVariables false
set_option maxRecDepth 100000
set_option linter.unusedSimpArgs false
set_option maxRecDepth 100000

theorem own_setCells {base g n cap : Nat} : ∀ (vs : List Value) (o : Nat) (w : World) (xs : List Value), w.ownsRow base PT 2 (.slice (some ⟨g, 0, none⟩) n cap) n xs → ∃ xs', (w.setCells g o vs).ownsRow base PT 2 (.slice (some ⟨g, 0, none⟩) n cap) n xs' ∧ xs'.take o = xs.take o
  | [], o, w, xs, h => ⟨xs, h, rfl⟩
  | u :: r, o, w, xs, h => by
    obtain ⟨xs', h', e⟩ := own_setCells r (o + 1) (w.setCell ⟨g, o, none⟩ u) (xs.set o u) (h.stored o u).1
    refine ⟨xs', by simpa [World.setCells] using h', ?_⟩
    have e2 := congrArg (List.take o) e
    rw [List.take_take, List.take_take] at e2
    simp only [show min o (o + 1) = o by omega] at e2
    rw [e2, List.take_set_of_le (Nat.le_refl _)]
theorem grownSetCells {g : Nat} : ∀ (vs : List Value) (o : Nat) (w : World), w.grownBy (w.setCells g o vs) (some g)
  | [], o, w => World.grownBy.refl _ _
  | u :: r, o, w => grown_trans (grown_set w g o u) (grownSetCells r (o + 1) _)
theorem own_cut {w : World} {base g n cap K : Nat} {xs : List Value} (h : w.ownsRow base PT 2 (.slice (some ⟨g, 0, none⟩) n cap) n xs) (hK : K ≤ n) : w.ownsRow base PT 2 (.slice (some ⟨g, 0, none⟩) K cap) K (xs.take (K * 2)) := by
  rcases h.2 with ⟨h', _⟩ | ⟨g', cap', cur, h', hb, hg, hnc, hcm, hcs, htake⟩
  · simp at h'
  · simp only [Value.slice.injEq, Option.some.injEq, Addr.mk.injEq, and_true, true_and] at h'
    obtain ⟨rfl, rfl⟩ := h'
    refine ⟨by simp [h.1]; omega, .inr ⟨g, cap, cur, rfl, hb, hg, by omega, hcm, hcs, ?_⟩⟩
    rw [← htake, List.take_take, show min (K * 2) (n * 2) = K * 2 by omega]
theorem OwnP.at {w : World} {base g n c : Nat} {l : List (Int × Int)} (h : OwnP w base (.slice (some ⟨g, 0, none⟩) n c) l) (hn : n = l.length) {i : Nat} (hi : i < n) :
    w.cell? ⟨g, i * 2, none⟩ = some (.int .i64 (l.getD i (0, 0)).1) ∧ w.cell? ⟨g, i * 2 + 1, none⟩ = some (.int .i64 (l.getD i (0, 0)).2) := by
  subst hn
  have f := flat_get l i hi
  unfold OwnP at h
  refine ⟨(h.cellAt (i * 2) (by omega)).trans ?_, (h.cellAt (i * 2 + 1) (by omega)).trans ?_⟩
  · rw [List.getElem?_map, f.1]; rfl
  · rw [List.getElem?_map, f.2]; rfl
theorem flat_take : ∀ (m : List (Int × Int)) (K : Nat), (flat m).take (K * 2) = flat (m.take K)
  | [], K => by simp [flat]
  | p :: m, 0 => by simp [flat]
  | p :: m, K + 1 => by
    rw [flat_cons, show (K + 1) * 2 = K * 2 + 1 + 1 by omega]
    simp only [List.take_succ_cons, flat_cons, flat_take m K]
theorem OwnP.form {w : World} {base : Nat} {v : Value} {l : List (Int × Int)} (h : OwnP w base v l) (hn : 0 < l.length) : ∃ g c, v = .slice (some ⟨g, 0, none⟩) l.length c ∧ l.length ≤ c ∧ base ≤ g ∧ g < w.heap.size ∧ c ≤ 9223372036854775807 := by
  have h0 := h
  unfold OwnP at h0
  rcases h0.2 with ⟨-, e⟩ | ⟨g, c, cur, rfl, hb, hg, hnc, hcm, -, -⟩
  · omega
  · exact ⟨g, c, rfl, hnc, hb, (World.ownsRow.lt h g rfl).2, by unfold maxLen at hcm; omega⟩
theorem zeroP (w : World) : (zeroValue PT).run Try.prog w = .ok (.agg #[.int .i64 0, .int .i64 0]) w := by
  kernel_rfl
theorem clear_P (w : World) (ty : TypeId) (b o n c : Nat) (hn : 0 < n) (hc : ∀ j, j < n * 2 → (w.cell? ⟨b, o + j, none⟩).isSome = true) (hf : ∀ j, j < n * 2 → w.frozen? ⟨b, o + j, none⟩ = false) :
    (Builtin.clear_ #[23] ty #[.slice (some ⟨b, o, none⟩) n c]).run Try.prog w = .ok (.tuple #[]) (w.setCells b o (madeCells #[Value.int .i64 0, Value.int .i64 0] (n * 2)).toList) := by
  have hzc : Builtin.zeroCells #[Value.int .i64 0, Value.int .i64 0] n = madeCells #[Value.int .i64 0, Value.int .i64 0] (n * 2) := rfl
  have hl : (madeCells #[Value.int .i64 0, Value.int .i64 0] (n * 2)).toList.length = n * 2 := by simp [madeCells]
  have hst := run_storeCells_cells (P := Try.prog) b o (madeCells #[Value.int .i64 0, Value.int .i64 0] (n * 2)).toList 0 w (by rw [hl]; simpa using hc) (by rw [hl]; simpa using hf) (by
    intro v hv
    rw [made_zero] at hv
    obtain ⟨x, -, rfl⟩ := List.mem_map.1 hv
    rfl)
  simp only [Nat.add_zero] at hst
  obtain ⟨m, rfl⟩ : ∃ m, n = m + 1 := ⟨n - 1, by omega⟩
  simp [Builtin.clear_, run_underlying Try.underlying23, zeroP, Value.cells, hzc, hst]
theorem kp_small {l : List (Int × Int)} (h : l.length < 2) : kp l l.length = l := by
  match l, h with
  | [], _ => rfl
  | [x], _ => simp [kp]
theorem kp_take {l : List (Int × Int)} {k : Nat} (h : k < l.length) (e : kp l k = l.take k) (hk : kp l (k + 1) = kp l k ++ [l.getD k (0, 0)]) : kp l (k + 1) = l.take (k + 1) := by
  rw [hk, e, List.take_add_one, List.getElem?_eq_getElem h]
  simp [List.getD_eq_getElem?_getD, List.getElem?_eq_getElem h]
theorem comp_any (base : Nat) (v : Value) (l : List (Int × Int)) (w : World) (h : OwnP w base v l) (hn1 : l.length ≤ 1048576) :
    Calls Try.prog 132 #[v] w fun e w' => ∃ r, e = .returned r ∧ OwnP w' base r (kp l l.length) ∧ w.grownBy w' v.ownBlock := by
  by_cases h2 : l.length < 2
  · obtain ⟨a, c, rfl, hc⟩ := h.cap
    have e := kp_small h2
    rw [e]
    clear e
    have h2I : (l.length : Int) < 2 := by omega
    have HO := Lib.hid h
    clear h
    go_enter Try.func132, Try.ntmps132
    go_wp2
    go_ret
    exact ⟨_, rfl, HO.out, World.grownBy.refl _ _⟩
  · obtain ⟨g, cap, rfl, hc, hb, hg, hcm⟩ := h.form (by omega)
    obtain ⟨n, hn⟩ : ∃ n, n = l.length := ⟨_, rfl⟩
    have h2I : ¬ (n : Int) < 2 := by omega
    rw [← hn] at hc hn1 h h2 ⊢
    have HN := Lib.hid hn
    have HO := Lib.hid h
    clear h hn
    rw [show Value.ownBlock (.slice (some ⟨g, 0, none⟩) n cap) = some g from rfl]
    go_enter Try.func132, Try.ntmps132
    go_wp2
    go_loopw [3] (fun q wr => ∃ k : Nat, 1 ≤ k ∧ k ≤ n ∧ q = .int .i64 k ∧ kp l k = l.take k ∧ OwnP wr base (.slice (some ⟨g, 0, none⟩) n cap) l ∧ w.grownBy wr (some g)) (fun q _ => n - (intOf q).toNat)
    case atStart => exact ⟨1, Nat.le_refl _, by omega, rfl, by
      rw [kp_first]
      exact (kp_take (k := 0) (by rw [← HN.out]; omega) rfl (by simp [kp])) ▸ (kp_first l).symm, HO.out, World.grownBy.refl _ _⟩
    case round =>
      obtain ⟨k, hk1, hk, rfl, hT, hown, hgr⟩ := hrel
      obtain ⟨j, rfl⟩ : ∃ j, k = j + 1 := ⟨k - 1, by omega⟩
      have HT := Lib.hid hT
      clear hT
      by_cases hlt : j + 1 < n
      · have hltI : (j : Int) + 1 < (n : Int) := by omega
        obtain ⟨⟨ux, uy⟩, hU⟩ : ∃ U, l.getD (j + 1) (0, 0) = U := ⟨_, rfl⟩
        obtain ⟨⟨px, py⟩, hP⟩ : ∃ P, l.getD j (0, 0) = P := ⟨_, rfl⟩
        obtain ⟨c0, c1⟩ := hown.at HN.out (i := j + 1) hlt
        obtain ⟨d0, d1⟩ := hown.at HN.out (i := j) (by omega)
        rw [hU] at c0 c1
        rw [hP] at d0 d1
        dsimp only at c0 c1 d0 d1
        have HU := Lib.hid hU
        have HP := Lib.hid hP
        have hwj : IntKind.i64.wrap (j : Int) = j := wrap64_in _ (by omega) (by omega)
        have hjI : (j : Int) < (n : Int) := by omega
        have hjN : j < n := by omega
        have hkJ : (j : Int) + 1 < (n : Int) := by omega
        have hkT : ((j : Int) + 1).toNat = j + 1 := by omega
        have hk0 : (0 : Int) ≤ (j : Int) + 1 := by omega
        by_cases hsame : px = ux ∧ py = uy
        · obtain ⟨rfl, rfl⟩ := hsame
          have HSA := Lib.hid (show l.getD j (0, 0) = l.getD (j + 1) (0, 0) by rw [hU, hP])
          clear hU hP
          go_wp2_with fail
          refine wp_region_class (C := Over (wr)) (by kernel_rfl) (by kernel_rfl) (over_drew _) ?_
          repeat (first | go_big_quiet_skip | (go_big_quiet_want; go_big_quiet_op; go_big_quiet_on) | (go_big_quiet_want; apply Exists.intro; refine ⟨fun w' hC => ?_, ?_⟩; (have k0 := over_cell hC (World.block_lt_of_cell? _ _ c0) c0; have k1 := over_cell hC (World.block_lt_of_cell? _ _ c1) c1; have k2 := over_cell hC (World.block_lt_of_cell? _ _ d0) d0; have k3 := over_cell hC (World.block_lt_of_cell? _ _ d1) d1; simp [Oper.quietAt, Oper.quietUpon, go_sem, k0, k1, k2, k3, hltI, hlt, hwj, hjI, hjN, hkJ, hkT, hk0]; first | done | rfl); go_big_quiet_on; simp only [Act.put, List.setIfInBounds_toArray, List.set_cons_zero, List.set_cons_succ]))
          refine wpQuiet_nil ?_
          intro ws hC
          have k0 := over_cell hC (World.block_lt_of_cell? _ _ c0) c0
          have k1 := over_cell hC (World.block_lt_of_cell? _ _ c1) c1
          have k2 := over_cell hC (World.block_lt_of_cell? _ _ d0) d0
          have k3 := over_cell hC (World.block_lt_of_cell? _ _ d1) d1
          have hown2 := hown.keep hC
          have hgr2 := grown_trans hgr (grown_below hC (some g))
          clear hown hgr c0 c1 d0 d1 k0 k1 k2 k3
          have hsl : (j : Int) + 1 ≤ (n : Int) := by omega
          have hsc : (n : Int) ≤ (cap : Int) := by omega
          go_wp2
          obtain ⟨N, hN⟩ : ∃ N, N = n - (j + 1) := ⟨_, rfl⟩
          rw [← hN]
          have hN2 : n = j + 1 + N := by omega
          clear hN hsl hsc hjI hkJ hkT hk0 hltI hwj
          go_loopw [3, 5] (fun q p wr => ∃ (K k2 : Nat) (m : List (Int × Int)), 1 ≤ k2 ∧ k2 ≤ N ∧ m.length = n ∧ q = .int .i64 K ∧ p = .int .i64 k2 ∧ K ≤ j + k2 ∧ (kp l (j + 1 + k2)).length = K ∧ m.take K = kp l (j + 1 + k2) ∧ (∀ i, K ≤ i → i < n → m.getD i (0, 0) = l.getD i (0, 0)) ∧ OwnP wr base (.slice (some ⟨g, 0, none⟩) n cap) m ∧ w.grownBy wr (some g)) (fun _ p _ => n - (intOf p).toNat)
          case atStart => exact ⟨j + 1, 1, l, Nat.le_refl _, by omega, HN.out.symm, rfl, rfl, Nat.le_refl _, by rw [kp_old HSA.out, HT.out, List.length_take]; have := HN.out; omega, by rw [kp_old HSA.out, HT.out], fun _ _ _ => rfl, hown2, hgr2⟩
          case round =>
            obtain ⟨K, k2, m, hk1, hk2, hm, rfl, rfl, hKl, i1, i2, i3, hown, hgr⟩ := hrel
            obtain ⟨t, rfl⟩ : ∃ t, k2 = t + 1 := ⟨k2 - 1, by omega⟩
            have HI := Lib.hid (And.intro i1 (And.intro i2 i3))
            have HM := Lib.hid hm
            by_cases hlt2 : t + 1 < N
            · obtain ⟨⟨ux, uy⟩, hU⟩ : ∃ U, l.getD (j + 1 + (t + 1)) (0, 0) = U := ⟨_, rfl⟩
              obtain ⟨⟨px, py⟩, hP⟩ : ∃ P, l.getD (j + 1 + t) (0, 0) = P := ⟨_, rfl⟩
              obtain ⟨u0, u1⟩ := hown.at hm.symm (i := j + 1 + (t + 1)) (by omega)
              obtain ⟨p0, p1⟩ := hown.at hm.symm (i := j + 1 + t) (by omega)
              rw [i3 _ (by omega) (by omega), hU] at u0 u1
              rw [i3 _ (by omega) (by omega), hP] at p0 p1
              rw [show (j + 1 + (t + 1)) * 2 = (j + 1) * 2 + (t + 1) * 2 by omega] at u0 u1
              rw [show (j + 1 + t) * 2 = (j + 1) * 2 + t * 2 by omega] at p0 p1
              dsimp only at u0 u1 p0 p1
              have HU := Lib.hid hU
              clear i1 i2 i3 hm
              have hlt2I : (t : Int) + 1 < (N : Int) := by omega
              have hwt : IntKind.i64.wrap (t : Int) = t := wrap64_in _ (by omega) (by omega)
              have htI : (t : Int) < (N : Int) := by omega
              have htN : t < N := by omega
              have hk2T : ((t : Int) + 1).toNat = t + 1 := by omega
              have hk20 : (0 : Int) ≤ (t : Int) + 1 := by omega
              by_cases hsame : px = ux ∧ py = uy
              · obtain ⟨rfl, rfl⟩ := hsame
                have HSA := Lib.hid (show l.getD (j + 1 + t) (0, 0) = l.getD (j + 1 + t + 1) (0, 0) by rw [hP, show j + 1 + t + 1 = j + 1 + (t + 1) by omega, hU])
                clear hU hP
                go_wp2_with fail
                refine wp_region_class (C := Over (wr)) (by kernel_rfl) (by kernel_rfl) (over_drew _) ?_
                repeat (first | go_big_quiet_skip | (go_big_quiet_want; go_big_quiet_op; go_big_quiet_on) | (go_big_quiet_want; apply Exists.intro; refine ⟨fun w' hC => ?_, ?_⟩; (have k0 := over_cell hC (World.block_lt_of_cell? _ _ u0) u0; have k1 := over_cell hC (World.block_lt_of_cell? _ _ u1) u1; have k2 := over_cell hC (World.block_lt_of_cell? _ _ p0) p0; have k3 := over_cell hC (World.block_lt_of_cell? _ _ p1) p1; simp [Oper.quietAt, Oper.quietUpon, go_sem, k0, k1, k2, k3, hlt2I, hlt2, hwt, htI, htN, hk2T, hk20]; first | done | rfl); go_big_quiet_on; simp only [Act.put, List.setIfInBounds_toArray, List.set_cons_zero, List.set_cons_succ]))
                refine wpQuiet_nil ?_
                intro ws hC
                have k0 := over_cell hC (World.block_lt_of_cell? _ _ u0) u0
                have k1 := over_cell hC (World.block_lt_of_cell? _ _ u1) u1
                have k2 := over_cell hC (World.block_lt_of_cell? _ _ p0) p0
                have k3 := over_cell hC (World.block_lt_of_cell? _ _ p1) p1
                go_wp2
                go_roundw
                case rel =>
                  obtain ⟨i1, i2, i3⟩ := HI.out
                  have e := kp_old HSA.out
                  rw [show j + 1 + t + 1 + 1 = j + 1 + (t + 1 + 1) by omega, show j + 1 + t + 1 = j + 1 + (t + 1) by omega] at e
                  exact ⟨K, t + 1 + 1, m, by omega, by omega, HM.out, rfl, by go_num, by omega, by rw [e]; exact i1, by rw [e]; exact i2, i3, hown.keep hC, grown_trans hgr (grown_below hC _)⟩
                case measure => simp [intOf]; omega
              · have HSA := Lib.hid (show l.getD (j + 1 + t) (0, 0) ≠ l.getD (j + 1 + t + 1) (0, 0) by rw [hP, show j + 1 + t + 1 = j + 1 + (t + 1) by omega, hU]; intro q; injection q with q1 q2; exact hsame ⟨q1, q2⟩)
                clear hU hP
                by_cases hfa : px = ux
                · have hfn : ¬ py = uy := fun q => hsame ⟨hfa, q⟩
                  subst hfa
                  have hfb : (py == uy) = false := by simp [hfn]
                  have hfc : (uy == py) = false := by simp [Ne.symm hfn]
                  clear hsame
                  go_wp2_with fail
                  refine wp_region_class (C := Over (wr)) (by kernel_rfl) (by kernel_rfl) (over_drew _) ?_
                  repeat (first | go_big_quiet_skip | (go_big_quiet_want; go_big_quiet_op; go_big_quiet_on) | (go_big_quiet_want; apply Exists.intro; refine ⟨fun w' hC => ?_, ?_⟩; (have k0 := over_cell hC (World.block_lt_of_cell? _ _ u0) u0; have k1 := over_cell hC (World.block_lt_of_cell? _ _ u1) u1; have k2 := over_cell hC (World.block_lt_of_cell? _ _ p0) p0; have k3 := over_cell hC (World.block_lt_of_cell? _ _ p1) p1; simp [Oper.quietAt, Oper.quietUpon, go_sem, k0, k1, k2, k3, hlt2I, hlt2, hwt, htI, htN, hk2T, hk20, hfb, hfc]; first | done | rfl); go_big_quiet_on; simp only [Act.put, List.setIfInBounds_toArray, List.set_cons_zero, List.set_cons_succ]))
                  refine wpQuiet_nil ?_
                  intro ws hC
                  have k0 := over_cell hC (World.block_lt_of_cell? _ _ u0) u0
                  have k1 := over_cell hC (World.block_lt_of_cell? _ _ u1) u1
                  have k2 := over_cell hC (World.block_lt_of_cell? _ _ p0) p0
                  have k3 := over_cell hC (World.block_lt_of_cell? _ _ p1) p1
                  have hown2 := hown.keep hC
                  have hgr2 := grown_trans hgr (grown_below hC (some g))
                  have s0 := k0
                  have s1 := k1
                  have f0 := World.ownsRow.frozenAt (show ws.ownsRow base PT 2 (.slice (some ⟨g, 0, none⟩) n cap) n ((flat m).map (Value.int .i64)) by have h := hown2; unfold OwnP at h; rw [HM.out] at h; exact h) (K * 2)
                  have f1 := World.ownsRow.frozenAt (show ws.ownsRow base PT 2 (.slice (some ⟨g, 0, none⟩) n cap) n ((flat m).map (Value.int .i64)) by have h := hown2; unfold OwnP at h; rw [HM.out] at h; exact h) (K * 2 + 1)
                  obtain ⟨z0, e0⟩ : ∃ z, ws.cell? ⟨g, K * 2, none⟩ = some z := ⟨_, (hown2.at HM.out.symm (by omega)).1⟩
                  obtain ⟨z1, e1⟩ : ∃ z, ws.cell? ⟨g, K * 2 + 1, none⟩ = some z := ⟨_, (hown2.at HM.out.symm (by omega)).2⟩
                  have hst : OwnP ((ws.setCell ⟨g, K * 2, none⟩ (.int .i64 px)).setCell ⟨g, K * 2 + 1, none⟩ (.int .i64 uy)) base (.slice (some ⟨g, 0, none⟩) n cap) (m.set K (px, uy)) := by
                    have h := hown2
                    unfold OwnP at h ⊢
                    rw [HM.out] at h
                    have h3 := ((h.stored (K * 2) (.int .i64 px)).1.stored (K * 2 + 1) (.int .i64 uy)).1
                    rw [map_set_flat m K (by rw [HM.out]; omega)] at h3
                    rw [List.length_set, HM.out]
                    exact h3
                  have hgr3 := grown_trans (grown_trans hgr2 (grown_set ws g (K * 2) (.int .i64 px))) (grown_set _ g (K * 2 + 1) (.int .i64 uy))
                  have HST := Lib.hid (And.intro hst hgr3)
                  clear hst hgr3 hown2 hgr2 hown hgr
                  go_wp2
                  go_roundw
                  case rel =>
                    obtain ⟨i1, i2, i3⟩ := HI.out
                    have e := kp_new (l := l) (k := j + 1 + t) HSA.out
                    refine ⟨K + 1, t + 1 + 1, m.set K (px, uy), by omega, by omega, by simp [HM.out], by go_num, by go_num, by omega, ?_, ?_, ?_, HST.out.1, HST.out.2⟩
                    · rw [show j + 1 + (t + 1 + 1) = j + 1 + t + 1 + 1 by omega, e, List.length_append, show j + 1 + t + 1 = j + 1 + (t + 1) by omega, i1]; rfl
                    · rw [show j + 1 + (t + 1 + 1) = j + 1 + t + 1 + 1 by omega, e, show j + 1 + t + 1 = j + 1 + (t + 1) by omega, ← i2, HU.out, List.take_add_one, List.take_set_of_le (Nat.le_refl _)]
                      rw [List.getElem?_set_self (by rw [HM.out]; omega)]
                      rfl
                    · intro i h1 h2
                      rw [← i3 i (by omega) h2]
                      simp only [List.getD_eq_getElem?_getD, List.getElem?_set]
                      rw [if_neg (by omega)]
                  case measure => simp [intOf]; omega
                · have hfb : (px == ux) = false := by simp [hfa]
                  have hfc : (ux == px) = false := by simp [Ne.symm hfa]
                  clear hsame
                  go_wp2_with fail
                  refine wp_region_class (C := Over (wr)) (by kernel_rfl) (by kernel_rfl) (over_drew _) ?_
                  repeat (first | go_big_quiet_skip | (go_big_quiet_want; go_big_quiet_op; go_big_quiet_on) | (go_big_quiet_want; apply Exists.intro; refine ⟨fun w' hC => ?_, ?_⟩; (have k0 := over_cell hC (World.block_lt_of_cell? _ _ u0) u0; have k1 := over_cell hC (World.block_lt_of_cell? _ _ u1) u1; have k2 := over_cell hC (World.block_lt_of_cell? _ _ p0) p0; have k3 := over_cell hC (World.block_lt_of_cell? _ _ p1) p1; simp [Oper.quietAt, Oper.quietUpon, go_sem, k0, k1, k2, k3, hlt2I, hlt2, hwt, htI, htN, hk2T, hk20, hfb, hfc]; first | done | rfl); go_big_quiet_on; simp only [Act.put, List.setIfInBounds_toArray, List.set_cons_zero, List.set_cons_succ]))
                  refine wpQuiet_nil ?_
                  intro ws hC
                  have k0 := over_cell hC (World.block_lt_of_cell? _ _ u0) u0
                  have k1 := over_cell hC (World.block_lt_of_cell? _ _ u1) u1
                  have k2 := over_cell hC (World.block_lt_of_cell? _ _ p0) p0
                  have k3 := over_cell hC (World.block_lt_of_cell? _ _ p1) p1
                  have hown2 := hown.keep hC
                  have hgr2 := grown_trans hgr (grown_below hC (some g))
                  have s0 := k0
                  have s1 := k1
                  have f0 := World.ownsRow.frozenAt (show ws.ownsRow base PT 2 (.slice (some ⟨g, 0, none⟩) n cap) n ((flat m).map (Value.int .i64)) by have h := hown2; unfold OwnP at h; rw [HM.out] at h; exact h) (K * 2)
                  have f1 := World.ownsRow.frozenAt (show ws.ownsRow base PT 2 (.slice (some ⟨g, 0, none⟩) n cap) n ((flat m).map (Value.int .i64)) by have h := hown2; unfold OwnP at h; rw [HM.out] at h; exact h) (K * 2 + 1)
                  obtain ⟨z0, e0⟩ : ∃ z, ws.cell? ⟨g, K * 2, none⟩ = some z := ⟨_, (hown2.at HM.out.symm (by omega)).1⟩
                  obtain ⟨z1, e1⟩ : ∃ z, ws.cell? ⟨g, K * 2 + 1, none⟩ = some z := ⟨_, (hown2.at HM.out.symm (by omega)).2⟩
                  have hst : OwnP ((ws.setCell ⟨g, K * 2, none⟩ (.int .i64 ux)).setCell ⟨g, K * 2 + 1, none⟩ (.int .i64 uy)) base (.slice (some ⟨g, 0, none⟩) n cap) (m.set K (ux, uy)) := by
                    have h := hown2
                    unfold OwnP at h ⊢
                    rw [HM.out] at h
                    have h3 := ((h.stored (K * 2) (.int .i64 ux)).1.stored (K * 2 + 1) (.int .i64 uy)).1
                    rw [map_set_flat m K (by rw [HM.out]; omega)] at h3
                    rw [List.length_set, HM.out]
                    exact h3
                  have hgr3 := grown_trans (grown_trans hgr2 (grown_set ws g (K * 2) (.int .i64 ux))) (grown_set _ g (K * 2 + 1) (.int .i64 uy))
                  have HST := Lib.hid (And.intro hst hgr3)
                  clear hst hgr3 hown2 hgr2 hown hgr
                  go_wp2
                  go_roundw
                  case rel =>
                    obtain ⟨i1, i2, i3⟩ := HI.out
                    have e := kp_new (l := l) (k := j + 1 + t) HSA.out
                    refine ⟨K + 1, t + 1 + 1, m.set K (ux, uy), by omega, by omega, by simp [HM.out], by go_num, by go_num, by omega, ?_, ?_, ?_, HST.out.1, HST.out.2⟩
                    · rw [show j + 1 + (t + 1 + 1) = j + 1 + t + 1 + 1 by omega, e, List.length_append, show j + 1 + t + 1 = j + 1 + (t + 1) by omega, i1]; rfl
                    · rw [show j + 1 + (t + 1 + 1) = j + 1 + t + 1 + 1 by omega, e, show j + 1 + t + 1 = j + 1 + (t + 1) by omega, ← i2, HU.out, List.take_add_one, List.take_set_of_le (Nat.le_refl _)]
                      rw [List.getElem?_set_self (by rw [HM.out]; omega)]
                      rfl
                    · intro i h1 h2
                      rw [← i3 i (by omega) h2]
                      simp only [List.getD_eq_getElem?_getD, List.getElem?_set]
                      rw [if_neg (by omega)]
                  case measure => simp [intOf]; omega
            · have hend : t + 1 = N := by omega
              have hKn : K < n := by omega
              have hcl : ∀ ty, (Builtin.clear_ #[23] ty #[.slice (some ⟨g, K * 2, none⟩) (n - K) (cap - K)]).run Try.prog wr = .ok (.tuple #[]) (wr.setCells g (K * 2) (madeCells #[Value.int .i64 0, Value.int .i64 0] ((n - K) * 2)).toList) := fun ty => clear_P wr ty g (K * 2) (n - K) (cap - K) (by omega) (fun q hq => by
                have h := hown
                unfold OwnP at h
                rw [HM.out] at h
                rw [h.cellAt (K * 2 + q) (by omega), List.getElem?_eq_getElem (by rw [List.length_map, flat_len, HM.out]; omega)]; rfl) (fun q hq => by
                have h := hown
                unfold OwnP at h
                rw [HM.out] at h
                exact h.frozenAt _)
              have hKI : (K : Int) ≤ (n : Int) := by omega
              have hKc : (n : Int) ≤ (cap : Int) := by omega
              have HO2 := Lib.hid hown
              clear i1 i2 i3 hm hown
              subst hend
              have HN2 := Lib.hid hN2
              clear hN2
              go_wp2
              go_ret
              obtain ⟨i1, i2, i3⟩ := HI.out
              have h := HO2.out
              unfold OwnP at h
              rw [HM.out] at h
              obtain ⟨xs', h', e'⟩ := own_setCells (madeCells #[Value.int .i64 0, Value.int .i64 0] ((n - K) * 2)).toList (K * 2) wr _ h
              have h3 := own_cut h' (Nat.le_of_lt hKn)
              rw [e', ← List.map_take, flat_take, i2] at h3
              have en : j + 1 + (t + 1) = n := HN2.out.symm
              rw [en] at h3 i1
              refine ⟨_, rfl, ?_, grown_trans hgr (grownSetCells _ _ _)⟩
              unfold OwnP
              rw [i1]
              exact h3
        · have HSA := Lib.hid (show l.getD j (0, 0) ≠ l.getD (j + 1) (0, 0) by rw [hU, hP]; intro q; injection q with q1 q2; exact hsame ⟨q1, q2⟩)
          clear hU hP
          by_cases hfa : px = ux
          · have hfn : ¬ py = uy := fun q => hsame ⟨hfa, q⟩
            subst hfa
            have hfb : (py == uy) = false := by simp [hfn]
            have hfc : (uy == py) = false := by simp [Ne.symm hfn]
            clear hsame
            go_wp2_with fail
            refine wp_region_class (C := Over (wr)) (by kernel_rfl) (by kernel_rfl) (over_drew _) ?_
            repeat (first | go_big_quiet_skip | (go_big_quiet_want; go_big_quiet_op; go_big_quiet_on) | (go_big_quiet_want; apply Exists.intro; refine ⟨fun w' hC => ?_, ?_⟩; (have k0 := over_cell hC (World.block_lt_of_cell? _ _ c0) c0; have k1 := over_cell hC (World.block_lt_of_cell? _ _ c1) c1; have k2 := over_cell hC (World.block_lt_of_cell? _ _ d0) d0; have k3 := over_cell hC (World.block_lt_of_cell? _ _ d1) d1; simp [Oper.quietAt, Oper.quietUpon, go_sem, k0, k1, k2, k3, hltI, hlt, hwj, hjI, hjN, hkJ, hkT, hk0, hfb, hfc]; first | done | rfl); go_big_quiet_on; simp only [Act.put, List.setIfInBounds_toArray, List.set_cons_zero, List.set_cons_succ]))
            refine wpQuiet_nil ?_
            intro ws hC
            have k0 := over_cell hC (World.block_lt_of_cell? _ _ c0) c0
            have k1 := over_cell hC (World.block_lt_of_cell? _ _ c1) c1
            have k2 := over_cell hC (World.block_lt_of_cell? _ _ d0) d0
            have k3 := over_cell hC (World.block_lt_of_cell? _ _ d1) d1
            go_wp2
            go_roundw
            case rel =>
              refine ⟨j + 1 + 1, by omega, by omega, by go_num, kp_take (by rw [← HN.out]; exact hlt) HT.out (kp_new HSA.out), hown.keep hC, grown_trans hgr (grown_below hC _)⟩
            case measure => simp [intOf]; omega
          · have hfb : (px == ux) = false := by simp [hfa]
            have hfc : (ux == px) = false := by simp [Ne.symm hfa]
            clear hsame
            go_wp2_with fail
            refine wp_region_class (C := Over (wr)) (by kernel_rfl) (by kernel_rfl) (over_drew _) ?_
            repeat (first | go_big_quiet_skip | (go_big_quiet_want; go_big_quiet_op; go_big_quiet_on) | (go_big_quiet_want; apply Exists.intro; refine ⟨fun w' hC => ?_, ?_⟩; (have k0 := over_cell hC (World.block_lt_of_cell? _ _ c0) c0; have k1 := over_cell hC (World.block_lt_of_cell? _ _ c1) c1; have k2 := over_cell hC (World.block_lt_of_cell? _ _ d0) d0; have k3 := over_cell hC (World.block_lt_of_cell? _ _ d1) d1; simp [Oper.quietAt, Oper.quietUpon, go_sem, k0, k1, k2, k3, hltI, hlt, hwj, hjI, hjN, hkJ, hkT, hk0, hfb, hfc]; first | done | rfl); go_big_quiet_on; simp only [Act.put, List.setIfInBounds_toArray, List.set_cons_zero, List.set_cons_succ]))
            refine wpQuiet_nil ?_
            intro ws hC
            have k0 := over_cell hC (World.block_lt_of_cell? _ _ c0) c0
            have k1 := over_cell hC (World.block_lt_of_cell? _ _ c1) c1
            have k2 := over_cell hC (World.block_lt_of_cell? _ _ d0) d0
            have k3 := over_cell hC (World.block_lt_of_cell? _ _ d1) d1
            go_wp2
            go_roundw
            case rel =>
              refine ⟨j + 1 + 1, by omega, by omega, by go_num, kp_take (by rw [← HN.out]; exact hlt) HT.out (kp_new HSA.out), hown.keep hC, grown_trans hgr (grown_below hC _)⟩
            case measure => simp [intOf]; omega
      · have hkn : j + 1 = n := by omega
        subst hkn
        go_wp2
        go_ret
        refine ⟨_, rfl, ?_, hgr⟩
        rw [HT.out, HN.out, List.take_length]
        exact HN.out ▸ hown
end Go.Proofs.Ytbcmoofpgffbhaa
