/-
  RibGet of the model. Conditions: those in each contract.
-/
import Derived.Test.YtbmjicdnphfgaaaRB
namespace Go.Proofs.Ytbmjicdnphfgaaa
open Go.ChangeShapes Go.WideShapes Go.ChangeAt Go.RowKit Go.BigFrame Go.Joins
set_option linter.unusedVariables false
set_option maxRecDepth 100000
set_option linter.unusedSimpArgs false
set_option maxRecDepth 100000

set_option maxHeartbeats 4000000 in
theorem sget_any (v : Value) (L : List Ent) (a n pe : Int) (w : World) (h : RdE w v L) (hlp : ∀ j, j < L.length → (L.getD j e0).p.length ≤ 1048576 ∧ (L.getD j e0).c.length ≤ 1048576) :
    Calls Try.prog 9 #[.agg #[v], .agg #[.int .i64 a, .int .i64 n], .int .i64 pe] w (GetR w L a n pe) := by
  have hm := h.1
  obtain ⟨p, c, rfl, hc⟩ := h.el
  obtain ⟨N, hn⟩ : ∃ N, N = L.length := ⟨_, rfl⟩
  obtain ⟨bF, bX, bG, B0, z⟩ := three w [.slice p L.length c] [.int .i64 a, .int .i64 n] [.slice none 0 0, .int .i64 0, .slice none 0 0, .int .i64 0] 35 PT 30
  have hR := h.keep B0
  obtain ⟨W1, hW⟩ : ∃ W1, W1 = ((w.alloc (.cells #[.slice p L.length c] 35)).alloc (.cells #[.int .i64 a, .int .i64 n] PT)).alloc (.cells #[.slice none 0 0, .int .i64 0, .slice none 0 0, .int .i64 0] 30) := ⟨_, rfl⟩
  rw [← hW] at bF bX bG B0 z hR
  obtain ⟨A, hA⟩ : ∃ A, A = w.heap.size := ⟨_, rfl⟩
  obtain ⟨X, hX⟩ : ∃ X, X = w.heap.size + 1 := ⟨_, rfl⟩
  obtain ⟨Q, hQ⟩ : ∃ Q, Q = w.heap.size + 1 + 1 := ⟨_, rfl⟩
  rw [← hA] at bF
  rw [← hX] at bX
  rw [← hQ] at bG
  have hwQ : w.heap.size ≤ Q := by omega
  obtain ⟨g, hF⟩ : ∃ g, ribB L = g := ⟨_, rfl⟩
  have HF := Lib.hid hF
  rw [← hn] at hc hm bF hR hW ⊢
  have HN := Lib.hid hn
  clear hn
  go_enter Try.func9, Try.ntmps9
  go_wp2_with fail
  rw [← hW, ← hQ, ← hX]
  try rw [← hA]
  clear hW hQ hX hA z
  refine (srib_t _ hR HF).mono ?_
  rintro e V ⟨rfl, hb⟩
  replace bF := bF.keep hb
  replace bX := bX.keep hb
  replace bG := bG.keep hb
  replace B0 := below_step B0 hb
  clear hb hR
  cases g
  · have HG : Hid (getR L a n pe = none) := Lib.hid (by unfold getR; rw [hF]; rfl)
    have hlg : getE L a n pe = e0 := by unfold getE; rw [HG.out]
    clear hF
    have bGc0 := bG.c 0 rfl
    have bGf0 := bG.f 0 rfl
    have bGc1 := bG.c 1 rfl
    have bGf1 := bG.f 1 rfl
    have bGc2 := bG.c 2 rfl
    have bGf2 := bG.f 2 rfl
    have bGc3 := bG.c 3 rfl
    have bGf3 := bG.f 3 rfl
    go_wp2
    have bE := ((((bG.set 0 (.slice none 0 0)).set 1 (.int .i64 0)).set 2 (.slice none 0 0)).set 3 (.int .i64 0))
    have y0 := bE.c 0 rfl
    have y1 := bE.c 1 rfl
    have y2 := bE.c 2 rfl
    have y3 := bE.c 3 rfl
    exact bodyPost_ret (v := .tuple #[.agg #[.slice none 0 0, .int .i64 0, .slice none 0 0, .int .i64 0], .bool false]) (by simp [results, Try.results9, go_sem, y0, y1, y2, y3]) rfl
      ⟨none, 0, none, 0, by rw [hlg, HG.out]; rfl, by rw [hlg]; exact ownI_nil _ _, by rw [hlg]; exact ownI_nil _ _, by rw [hlg]; exact apart_nilR, ((((B0.setCell (p := ⟨Q, 0, none⟩) hwQ (.slice none 0 0)).setCell (p := ⟨Q, 1, none⟩) hwQ (.int .i64 0)).setCell (p := ⟨Q, 2, none⟩) hwQ (.slice none 0 0)).setCell (p := ⟨Q, 3, none⟩) hwQ (.int .i64 0))⟩
  · have HJ : Hid (getR L a n pe = getJ L a n pe N) := Lib.hid (by unfold getR; rw [hF, HN.out]; rfl)
    clear hF
    go_wp2_with fail
    go_loopw [8] (fun q wr => ∃ k : Nat, k ≤ N ∧ q = .int .i64 k ∧ (∀ i, i < k → isP L a n i = true → (L.getD i e0).pe ≠ pe) ∧ Over V wr) (fun q _ => N - (intOf q).toNat)
    case atStart => exact ⟨0, Nat.zero_le _, rfl, fun i hi => absurd hi (by omega), over_refl _⟩
    case round =>
      obtain ⟨k, hk, rfl, hok, hB⟩ := hrel
      have HO := Lib.hid hok
      clear hok
      replace bF := bF.keep hB
      replace bX := bX.keep hB
      replace bG := bG.keep hB
      have f0 := bF.c 0 rfl
      by_cases hlt : k < N
      · have hltI : (k : Int) < (N : Int) := by omega
        obtain ⟨b, o, rfl, hE⟩ := hc k hlt
        obtain ⟨E, hx⟩ : ∃ E, L.getD k e0 = E := ⟨_, rfl⟩
        rw [hx] at hE
        obtain ⟨pv, cv, hp, hq, g0, g1, g2, g3, g4, g5, g6⟩ := hE.keep (below_step B0 hB)
        have HX := Lib.hid hx
        have HCC := Lib.hid hc
        have hEl := hlp k (by rw [← HN.out]; exact hlt)
        rw [hx] at hEl
        clear hx hc hE
        by_cases hea : E.a = a
        · subst hea
          by_cases hen : E.n = n
          · subst hen
            have hyes : isP L E.a E.n k = true := by unfold isP; rw [HX.out]; exact decide_eq_true ⟨rfl, rfl⟩
            by_cases hpe : E.pe = pe
            · subst hpe
              have HGJ : Hid (getR L E.a E.n E.pe = some k) := Lib.hid (by rw [HJ.out]; exact getJ_some hlt hyes (by rw [HX.out]) HO.out)
              clear hyes
              go_wp2_with fail
              refine wp_region_class (C := Over (wr)) (by kernel_rfl) (by kernel_rfl) (over_drew _) ?_
              repeat (first | go_big_quiet_skip | (go_big_quiet_want; go_big_quiet_op; go_big_quiet_on) | (go_big_quiet_want; apply Exists.intro; refine ⟨fun w' hC => ?_, ?_⟩; (have k0 := over_cell hC bF.lt (bF.c 0 rfl); have k1 := over_cell hC bX.lt (bX.c 0 rfl); have k2 := over_cell hC bX.lt (bX.c 1 rfl); have k3 := over_cell hC (World.block_lt_of_cell? _ _ g0) g0; have k4 := over_cell hC (World.block_lt_of_cell? _ _ g1) g1; have k5 := over_cell hC (World.block_lt_of_cell? _ _ g2) g2; simp [Oper.quietAt, Oper.quietUpon, go_sem, k0, k1, k2, k3, k4, k5, hltI, hlt]; first | done | rfl); go_big_quiet_on; simp only [Act.put, List.setIfInBounds_toArray, List.set_cons_zero, List.set_cons_succ]))
              refine wpQuiet_nil ?_
              intro ws hC
              have k0 := over_cell hC bF.lt (bF.c 0 rfl)
              have k1 := over_cell hC bX.lt (bX.c 0 rfl)
              have k2 := over_cell hC bX.lt (bX.c 1 rfl)
              have k3 := over_cell hC (World.block_lt_of_cell? _ _ g0) g0
              have k4 := over_cell hC (World.block_lt_of_cell? _ _ g1) g1
              have k5 := over_cell hC (World.block_lt_of_cell? _ _ g2) g2
              have hB2 := over_step hB hC
              replace bF := bF.keep hC
              replace bG := bG.keep hC
              replace hp := hp.keep hC
              replace hq := hq.keep hC
              replace g3 := cell_keep hC (World.block_lt_of_cell? _ _ g3) g3
              replace g4 := cell_keep hC (World.block_lt_of_cell? _ _ g4) g4
              replace g5 := cell_keep hC (World.block_lt_of_cell? _ _ g5) g5
              replace g6 := cell_keep hC (World.block_lt_of_cell? _ _ g6) g6
              obtain ⟨pa, px, rfl⟩ := hp.len
              obtain ⟨ca, cx, rfl⟩ := hq.len
              have f1 := bF.c 0 rfl
              go_wp2_with fail
              refine (sown_any _ _ E.p E.c _ _ _ hp hq hEl.1 hEl.2).mono ?_
              rintro e w3 ⟨a1, d1, a2, d2, rfl, hr1, hr2, hap, hb3⟩
              have hQ2 : Q < ws.heap.size := bG.lt
              have hwW : w.heap.size ≤ ws.heap.size := Nat.le_trans B0.size hB2.size
              replace bG := bG.keep hb3
              have hB3 := below_step (below_step B0 hB2) hb3
              have hlg : getE L E.a E.n E.pe = E := by unfold getE; rw [HGJ.out]; exact HX.out
              have bGc0 := bG.c 0 rfl
              have bGf0 := bG.f 0 rfl
              have bGc1 := bG.c 1 rfl
              have bGf1 := bG.f 1 rfl
              have bGc2 := bG.c 2 rfl
              have bGf2 := bG.f 2 rfl
              have bGc3 := bG.c 3 rfl
              have bGf3 := bG.f 3 rfl
              go_wp2
              have bE := ((((bG.set 0 (.slice a1 E.p.length d1)).set 1 (.int .i64 E.pr)).set 2 (.slice a2 E.c.length d2)).set 3 (.int .i64 E.bw))
              have y0 := bE.c 0 rfl
              have y1 := bE.c 1 rfl
              have y2 := bE.c 2 rfl
              have y3 := bE.c 3 rfl
              exact bodyPost_ret (v := .tuple #[.agg #[.slice a1 E.p.length d1, .int .i64 E.pr, .slice a2 E.c.length d2, .int .i64 E.bw], .bool true]) (by simp [results, Try.results9, go_sem, y0, y1, y2, y3]) rfl
                ⟨a1, d1, a2, d2, by rw [hlg, HGJ.out]; rfl, by rw [hlg]; exact ((((hr1.far (B := Q) (o := 0) hQ2).far (B := Q) (o := 1) hQ2).far (B := Q) (o := 2) hQ2).far (B := Q) (o := 3) hQ2).mono hwW, by rw [hlg]; exact ((((hr2.far (B := Q) (o := 0) hQ2).far (B := Q) (o := 1) hQ2).far (B := Q) (o := 2) hQ2).far (B := Q) (o := 3) hQ2).mono hwW, by rw [hlg]; exact hap, ((((hB3.setCell (p := ⟨Q, 0, none⟩) hwQ (.slice a1 E.p.length d1)).setCell (p := ⟨Q, 1, none⟩) hwQ (.int .i64 E.pr)).setCell (p := ⟨Q, 2, none⟩) hwQ (.slice a2 E.c.length d2)).setCell (p := ⟨Q, 3, none⟩) hwQ (.int .i64 E.bw))⟩
            · have hpb : (E.pe == pe) = false := by simp [hpe]
              have HNEXT : Hid (∀ i, i < k + 1 → isP L E.a E.n i = true → (L.getD i e0).pe ≠ pe) := Lib.hid fun i hi hp => by
                by_cases e : i = k
                · subst e
                  rw [HX.out]; exact hpe
                · exact HO.out i (by omega) hp
              clear hpe hyes
              go_wp2_with fail
              refine wp_region_class (C := Over (wr)) (by kernel_rfl) (by kernel_rfl) (over_drew _) ?_
              repeat (first | go_big_quiet_skip | (go_big_quiet_want; go_big_quiet_op; (try simp only [hpb]); go_big_quiet_on) | (go_big_quiet_want; apply Exists.intro; refine ⟨fun w' hC => ?_, ?_⟩; (have k0 := over_cell hC bF.lt (bF.c 0 rfl); have k1 := over_cell hC bX.lt (bX.c 0 rfl); have k2 := over_cell hC bX.lt (bX.c 1 rfl); have k3 := over_cell hC (World.block_lt_of_cell? _ _ g0) g0; have k4 := over_cell hC (World.block_lt_of_cell? _ _ g1) g1; have k5 := over_cell hC (World.block_lt_of_cell? _ _ g2) g2; simp [Oper.quietAt, Oper.quietUpon, go_sem, k0, k1, k2, k3, k4, k5, hltI, hlt, hpb]; first | done | rfl); go_big_quiet_on; simp only [Act.put, List.setIfInBounds_toArray, List.set_cons_zero, List.set_cons_succ]))
              refine wpQuiet_nil ?_
              intro ws hC
              have k0 := over_cell hC bF.lt (bF.c 0 rfl)
              have k1 := over_cell hC bX.lt (bX.c 0 rfl)
              have k2 := over_cell hC bX.lt (bX.c 1 rfl)
              have k3 := over_cell hC (World.block_lt_of_cell? _ _ g0) g0
              have k4 := over_cell hC (World.block_lt_of_cell? _ _ g1) g1
              have k5 := over_cell hC (World.block_lt_of_cell? _ _ g2) g2
              go_wp2
              go_roundw
              case rel => exact ⟨k + 1, by omega, by go_num, HNEXT.out, over_step hB hC⟩
              case measure => simp [intOf]; omega
          · have hnb : (E.n == n) = false := by simp [hen]
            have HNEXT : Hid (∀ i, i < k + 1 → isP L E.a n i = true → (L.getD i e0).pe ≠ pe) := Lib.hid fun i hi hp => by
              by_cases e : i = k
              · subst e
                exact absurd hp (by unfold isP; rw [HX.out]; simp [hen])
              · exact HO.out i (by omega) hp
            clear hen
            go_wp2_with fail
            refine wp_region_class (C := Over (wr)) (by kernel_rfl) (by kernel_rfl) (over_drew _) ?_
            repeat (first | go_big_quiet_skip | (go_big_quiet_want; go_big_quiet_op; (try simp only [hnb]); go_big_quiet_on) | (go_big_quiet_want; apply Exists.intro; refine ⟨fun w' hC => ?_, ?_⟩; (have k0 := over_cell hC bF.lt (bF.c 0 rfl); have k1 := over_cell hC bX.lt (bX.c 0 rfl); have k2 := over_cell hC bX.lt (bX.c 1 rfl); have k3 := over_cell hC (World.block_lt_of_cell? _ _ g0) g0; have k4 := over_cell hC (World.block_lt_of_cell? _ _ g1) g1; have k5 := over_cell hC (World.block_lt_of_cell? _ _ g2) g2; simp [Oper.quietAt, Oper.quietUpon, go_sem, k0, k1, k2, k3, k4, k5, hltI, hlt, hnb]; first | done | rfl); go_big_quiet_on; simp only [Act.put, List.setIfInBounds_toArray, List.set_cons_zero, List.set_cons_succ]))
            refine wpQuiet_nil ?_
            intro ws hC
            have k0 := over_cell hC bF.lt (bF.c 0 rfl)
            have k1 := over_cell hC bX.lt (bX.c 0 rfl)
            have k2 := over_cell hC bX.lt (bX.c 1 rfl)
            have k3 := over_cell hC (World.block_lt_of_cell? _ _ g0) g0
            have k4 := over_cell hC (World.block_lt_of_cell? _ _ g1) g1
            have k5 := over_cell hC (World.block_lt_of_cell? _ _ g2) g2
            go_wp2
            go_roundw
            case rel => exact ⟨k + 1, by omega, by go_num, HNEXT.out, over_step hB hC⟩
            case measure => simp [intOf]; omega
        · have hab : (E.a == a) = false := by simp [hea]
          have HNEXT : Hid (∀ i, i < k + 1 → isP L a n i = true → (L.getD i e0).pe ≠ pe) := Lib.hid fun i hi hp => by
            by_cases e : i = k
            · subst e
              exact absurd hp (by unfold isP; rw [HX.out]; simp [hea])
            · exact HO.out i (by omega) hp
          clear hea
          go_wp2_with fail
          refine wp_region_class (C := Over (wr)) (by kernel_rfl) (by kernel_rfl) (over_drew _) ?_
          repeat (first | go_big_quiet_skip | (go_big_quiet_want; go_big_quiet_op; (try simp only [hab]); go_big_quiet_on) | (go_big_quiet_want; apply Exists.intro; refine ⟨fun w' hC => ?_, ?_⟩; (have k0 := over_cell hC bF.lt (bF.c 0 rfl); have k1 := over_cell hC bX.lt (bX.c 0 rfl); have k2 := over_cell hC bX.lt (bX.c 1 rfl); have k3 := over_cell hC (World.block_lt_of_cell? _ _ g0) g0; have k4 := over_cell hC (World.block_lt_of_cell? _ _ g1) g1; have k5 := over_cell hC (World.block_lt_of_cell? _ _ g2) g2; simp [Oper.quietAt, Oper.quietUpon, go_sem, k0, k1, k2, k3, k4, k5, hltI, hlt, hab]; first | done | rfl); go_big_quiet_on; simp only [Act.put, List.setIfInBounds_toArray, List.set_cons_zero, List.set_cons_succ]))
          refine wpQuiet_nil ?_
          intro ws hC
          have k0 := over_cell hC bF.lt (bF.c 0 rfl)
          have k1 := over_cell hC bX.lt (bX.c 0 rfl)
          have k2 := over_cell hC bX.lt (bX.c 1 rfl)
          have k3 := over_cell hC (World.block_lt_of_cell? _ _ g0) g0
          have k4 := over_cell hC (World.block_lt_of_cell? _ _ g1) g1
          have k5 := over_cell hC (World.block_lt_of_cell? _ _ g2) g2
          go_wp2
          go_roundw
          case rel => exact ⟨k + 1, by omega, by go_num, HNEXT.out, over_step hB hC⟩
          case measure => simp [intOf]; omega
      · have hkn : k = N := by omega
        have HG : Hid (getR L a n pe = none) := Lib.hid (by rw [HJ.out, ← hkn]; exact getJ_none k HO.out)
        have hlg : getE L a n pe = e0 := by unfold getE; rw [HG.out]
        rw [hkn]
        have hnI : ¬ (N : Int) < (N : Int) := by omega
        have hB2 := below_step B0 hB
        clear hc hkn hlt hk
        have bGc0 := bG.c 0 rfl
        have bGf0 := bG.f 0 rfl
        have bGc1 := bG.c 1 rfl
        have bGf1 := bG.f 1 rfl
        have bGc2 := bG.c 2 rfl
        have bGf2 := bG.f 2 rfl
        have bGc3 := bG.c 3 rfl
        have bGf3 := bG.f 3 rfl
        go_wp2
        have bE := ((((bG.set 0 (.slice none 0 0)).set 1 (.int .i64 0)).set 2 (.slice none 0 0)).set 3 (.int .i64 0))
        have y0 := bE.c 0 rfl
        have y1 := bE.c 1 rfl
        have y2 := bE.c 2 rfl
        have y3 := bE.c 3 rfl
        exact bodyPost_ret (v := .tuple #[.agg #[.slice none 0 0, .int .i64 0, .slice none 0 0, .int .i64 0], .bool false]) (by simp [results, Try.results9, go_sem, y0, y1, y2, y3]) rfl
          ⟨none, 0, none, 0, by rw [hlg, HG.out]; rfl, by rw [hlg]; exact ownI_nil _ _, by rw [hlg]; exact ownI_nil _ _, by rw [hlg]; exact apart_nilR, ((((hB2.setCell (p := ⟨Q, 0, none⟩) hwQ (.slice none 0 0)).setCell (p := ⟨Q, 1, none⟩) hwQ (.int .i64 0)).setCell (p := ⟨Q, 2, none⟩) hwQ (.slice none 0 0)).setCell (p := ⟨Q, 3, none⟩) hwQ (.int .i64 0))⟩
end Go.Proofs.Ytbmjicdnphfgaaa
