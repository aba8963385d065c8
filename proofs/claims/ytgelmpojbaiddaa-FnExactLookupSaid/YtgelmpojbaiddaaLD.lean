/-
  Lookup of the model: the longest prefix is the last in order. Conditions: those in each contract.
-/
import Derived.Test.YtgelmpojbaiddaaLC
namespace Go.Proofs.Ytgelmpojbaiddaa
open Go.ChangeShapes Go.WideShapes Go.ChangeAt Go.RowKit Go.BigFrame Go.Joins
set_option linter.unusedVariables false
set_option maxRecDepth 100000
set_option linter.unusedSimpArgs false
set_option maxRecDepth 100000

theorem hd_twice (x n m : Int) (hmn : m ≤ n) (hn : n ≤ 16) : hd (hd x n) m = hd x m := by
  unfold hd
  obtain ⟨k, hk⟩ : ∃ k, k = (16 - n).toNat := ⟨_, rfl⟩
  obtain ⟨d, hd'⟩ : ∃ d, (16 - m).toNat = k + d := ⟨(n - m).toNat, by omega⟩
  rw [hd', ← hk, Int.pow_add]
  have p1 : (0 : Int) < 2 ^ k := Int.pow_pos (by decide)
  rw [← Int.ediv_ediv_of_nonneg (Int.le_of_lt p1), Int.mul_ediv_cancel _ (Int.ne_of_gt p1), Int.ediv_ediv_of_nonneg (Int.le_of_lt p1)]
theorem hd_below (a n : Int) : hd a n ≤ a := by
  unfold hd
  have p1 : (0 : Int) < 2 ^ (16 - n).toNat := Int.pow_pos (by decide)
  exact Int.ediv_mul_le _ (Int.ne_of_gt p1)
theorem cmp2_lt {a n b m : Int} : cmp2 a n b m < 0 ↔ a < b ∨ (a = b ∧ n < m) := by
  rcases Int.lt_trichotomy a b with h | h | h
  · have e : cmp1 a b = -1 := cmp1_lt h
    simp [cmp2, orv, e, h]
  · subst h
    have e : cmp1 a a = 0 := cmp1_eq a
    simp [cmp2, orv, e]
    exact cmp1_neg
  · have e : cmp1 a b = 1 := cmp1_gt h
    simp [cmp2, orv, e]
    omega
theorem asc_lt {L : List Grp} (h : ascG L = true) : ∀ k j, j < k → k < L.length → cmp2 (L.getD j gr0).a (L.getD j gr0).n (L.getD k gr0).a (L.getD k gr0).n < 0
  | 0, _, h0, _ => absurd h0 (by omega)
  | k + 1, j, hj, hk => by
    simp only [ascG, decide_eq_true_eq] at h
    have h1 := h k (by omega)
    unfold upG at h1
    by_cases e : j = k
    · subst e; exact h1
    · have h2 := asc_lt (by simpa only [ascG, decide_eq_true_eq] using h) k j (by omega) (by omega)
      rw [cmp2_lt] at h1 h2 ⊢
      omega
/-- of two groups that cover an address the later has the longer prefix -/
theorem cv_up {L : List Grp} {x : Int} (h1 : allG L = true) (h2 : ascG L = true) {j k : Nat} (hjk : j < k) (hk : k < L.length) (hcj : cvG L x j = true) (hck : cvG L x k = true) : (L.getD j gr0).n < (L.getD k gr0).n := by
  have hlt := asc_lt h2 k j hjk hk
  simp only [allG, decide_eq_true_eq] at h1
  have oj := pok_of (grpB_p (h1 j (by omega)))
  have ok := pok_of (grpB_p (h1 k hk))
  unfold cvG covB at hcj hck
  simp only [Bool.and_eq_true, beq_iff_eq] at hcj hck
  rw [cmp2_lt] at hlt
  have e1 := hcj.2
  have e2 := hck.2
  generalize (L.getD j gr0).a = aj at *
  generalize (L.getD j gr0).n = nj at *
  generalize (L.getD k gr0).a = ak at *
  generalize (L.getD k gr0).n = nk at *
  by_cases hn : nj < nk
  · exact hn
  · have e3 : hd aj nk = ak := by rw [← e1, hd_twice x nj nk (by omega) oj.2.2.2.1, e2]
    have := hd_below aj nk
    omega
theorem lastC_lt {L : List Grp} {x : Int} {j : Nat} : ∀ {k}, lastC L x k = some j → j < k ∧ cvG L x j = true
  | 0, h => by cases h
  | k + 1, h => by
    unfold lastC at h
    split at h
    · rename_i hc
      cases h
      exact ⟨by omega, hc⟩
    · obtain ⟨h1, h2⟩ := lastC_lt h
      exact ⟨by omega, h2⟩
theorem slcG_t {a n x : Int} {b : Bool} (w : World) (hp : pokB a n = true) (hx : addrB x = true) (H : Hid (covB a n x = b)) : Calls Try.prog 98 #[.agg #[.int .i64 a, .int .i64 n], .int .i64 x] w fun e w' => e = .returned (.bool b) ∧ Below w.heap.size w w' := by
  obtain ⟨_, _, hn0, hn1, _⟩ := pok_of hp
  obtain ⟨hx0, hx1⟩ := addr_of hx
  have e : covB a n x = (hd x n == a) := by simp [covB, hx, hp]
  have h := H.out
  rw [e] at h
  exact h ▸ slc_any a n x w hn0 hn1 hx0 hx1
/-- the model's walk has chosen j of the first k groups -/
def chosen (L : List Grp) (j : Option Nat) : Grp := match j with | some j => L.getD j gr0 | none => gr0
set_option maxHeartbeats 2000000 in
theorem sl7look_any (v : Value) (L : List Grp) (x : Int) (w : World) (h : RdG w v L) (hall : allG L = true) (hasc : ascG L = true) (hxx : addrB x = true) :
    Calls Try.prog 68 #[.agg #[v], .int .i64 x] w fun e w' => ∃ u, e = .returned (.tuple #[.agg #[.int .i64 (chosen L (lastC L x L.length)).a, .int .i64 (chosen L (lastC L x L.length)).n, u], .bool (lastC L x L.length).isSome]) ∧ RdP w u (chosen L (lastC L x L.length)).h ∧ Below w.heap.size w w' := by
  have hm := h.1
  obtain ⟨a, c, rfl, hc⟩ := h.el
  obtain ⟨n, hn⟩ : ∃ n, n = L.length := ⟨_, rfl⟩
  rw [← hn] at hc hm ⊢
  have HN := Lib.hid hn
  have HA := Lib.hid hall
  have HS := Lib.hid hasc
  clear h hn hall hasc
  obtain ⟨bF, bQ, bO, B0, z⟩ := three w [.slice a n c] [.int .i64 0, .int .i64 0, .slice none 0 0] [.int .i64 0, .int .i64 0, .slice none 0 0] 43 GI GI
  obtain ⟨W1, hW⟩ : ∃ W1, W1 = ((w.alloc (.cells #[.slice a n c] 43)).alloc (.cells #[.int .i64 0, .int .i64 0, .slice none 0 0] GI)).alloc (.cells #[.int .i64 0, .int .i64 0, .slice none 0 0] GI) := ⟨_, rfl⟩
  obtain ⟨A, hA⟩ : ∃ A, A = w.heap.size := ⟨_, rfl⟩
  obtain ⟨Q, hQ⟩ : ∃ Q, Q = w.heap.size + 1 := ⟨_, rfl⟩
  obtain ⟨O, hO⟩ : ∃ O, O = w.heap.size + 1 + 1 := ⟨_, rfl⟩
  go_enter Try.func68, Try.ntmps68
  go_wp2
  rw [← hW] at bF bQ bO B0 ⊢
  rw [← hO, ← hQ, ← hA]
  rw [← hA] at bF
  rw [← hQ] at bQ
  rw [← hO] at bO
  have hAO : A ≠ O := by omega
  have hQO : Q ≠ O := by omega
  have hwO : w.heap.size ≤ O := by omega
  have hwQ : w.heap.size ≤ Q := by omega
  clear hW hA hQ hO z
  go_loopw [7, 8] (fun fd q wr => ∃ k : Nat, k ≤ n ∧ q = .int .i64 k ∧ ∃ (E : Grp) (hv : Value), fd = .bool (lastC L x k).isSome ∧ chosen L (lastC L x k) = E ∧ RdP w hv E.h ∧ (∃ pa px, hv = .slice pa E.h.length px) ∧ Bl wr O [.int .i64 E.a, .int .i64 E.n, hv] ∧ Bl wr A [.slice a n c] ∧ Bl wr Q [.int .i64 0, .int .i64 0, .slice none 0 0] ∧ Below w.heap.size w wr) (fun _ q _ => n - (intOf q).toNat)
  case atStart => exact ⟨0, Nat.zero_le _, rfl, gr0, .slice none 0 0, rfl, rfl, RdP.nil _, ⟨none, 0, rfl⟩, bO, bF, bQ, B0⟩
  case round =>
    clear bO bF bQ B0
    obtain ⟨k, hk, rfl, F, hu, rfl, hF, hRF, ⟨ua, ux, rfl⟩, bO, bF, bQ, hB⟩ := hrel
    have f0 := bF.c 0 rfl
    by_cases hlt : k < n
    · have hltI : (k : Int) < (n : Int) := by omega
      obtain ⟨b, o, rfl, hE⟩ := hc k hlt
      obtain ⟨E, hx⟩ : ∃ E, L.getD k gr0 = E := ⟨_, rfl⟩
      rw [hx] at hE
      obtain ⟨hv, hpw, d0, d1, d2⟩ := hE
      obtain ⟨pa, px, rfl⟩ := hpw.len
      have g0 := cell_keep hB (World.block_lt_of_cell? _ _ d0) d0
      have g1 := cell_keep hB (World.block_lt_of_cell? _ _ d1) d1
      have g2 := cell_keep hB (World.block_lt_of_cell? _ _ d2) d2
      have hpk : pokB E.a E.n = true := by
        have h1 := HA.out
        simp only [allG, decide_eq_true_eq] at h1
        have h2 := grpB_p (h1 k (by rw [← HN.out]; exact hlt))
        rwa [hx] at h2
      have HX := Lib.hid hx
      have HCC := Lib.hid hc
      obtain ⟨t, ht⟩ : ∃ t, covB E.a E.n x = t := ⟨_, rfl⟩
      have hct : cvG L x k = t := by unfold cvG; rw [hx, ht]
      have HC := Lib.hid ht
      obtain ⟨fb, hfb⟩ : ∃ fb, (lastC L x k).isSome = fb := ⟨_, rfl⟩
      rw [hfb]
      clear hx hc d0 d1 d2 ht
      cases t
      · have HL1 : Hid (lastC L x (k + 1) = lastC L x k) := Lib.hid (by show (if cvG L x k then _ else _) = _; rw [hct]; rfl)
        have HFB := Lib.hid hfb
        have HFF := Lib.hid hF
        clear hct hfb hF
        go_wp2_with fail
        refine wp_region_class (C := Over (wr)) (by kernel_rfl) (by kernel_rfl) (over_drew _) ?_
        repeat (first | go_big_quiet_skip | (go_big_quiet_want; go_big_quiet_op; go_big_quiet_on) | (go_big_quiet_want; go_big_quiet_op; apply Exists.intro; refine ⟨fun w' hC => ?_, ?_⟩; ((first | (go_at_call 98; refine (slcG_t _ hpk hxx HC).mono ?_; rintro e w1 ⟨rfl, hb1⟩; exact ⟨rfl, over_step hC hb1⟩))); go_big_quiet_on) | (go_big_quiet_want; apply Exists.intro; refine ⟨fun w' hC => ?_, ?_⟩; (have k0 := over_cell hC bF.lt (bF.c 0 rfl); have k1 := over_cell hC (World.block_lt_of_cell? _ _ g0) g0; have k2 := over_cell hC (World.block_lt_of_cell? _ _ g1) g1; have k3 := over_cell hC (World.block_lt_of_cell? _ _ g2) g2; simp [Oper.quietAt, Oper.quietUpon, go_sem, k0, k1, k2, k3, hltI, hlt]; first | done | rfl); go_big_quiet_on; simp only [Act.put, List.setIfInBounds_toArray, List.set_cons_zero, List.set_cons_succ]))
        refine wpQuiet_nil ?_
        intro ws hC
        have k0 := over_cell hC bF.lt (bF.c 0 rfl)
        have k1 := over_cell hC (World.block_lt_of_cell? _ _ g0) g0
        have k2 := over_cell hC (World.block_lt_of_cell? _ _ g1) g1
        have k3 := over_cell hC (World.block_lt_of_cell? _ _ g2) g2
        replace bO := bO.keep hC
        replace bF := bF.keep hC
        replace bQ := bQ.keep hC
        go_wp2
        go_roundw
        case rel => exact ⟨k + 1, by omega, by go_num, F, .slice ua F.h.length ux, by rw [HL1.out, HFB.out], by rw [HL1.out]; exact HFF.out, hRF, ⟨ua, ux, rfl⟩, bO, bF, bQ, over_step hB hC⟩
        case measure => simp [intOf]; omega
      · have HL1 : Hid (lastC L x (k + 1) = some k) := Lib.hid (by show (if cvG L x k then _ else _) = _; rw [hct]; rfl)
        cases fb
        · clear hct hfb hF
          go_wp2_with fail
          refine wp_region_class (C := Over (wr)) (by kernel_rfl) (by kernel_rfl) (over_drew _) ?_
          repeat (first | go_big_quiet_skip | (go_big_quiet_want; go_big_quiet_op; go_big_quiet_on) | (go_big_quiet_want; go_big_quiet_op; apply Exists.intro; refine ⟨fun w' hC => ?_, ?_⟩; ((first | (go_at_call 98; refine (slcG_t _ hpk hxx HC).mono ?_; rintro e w1 ⟨rfl, hb1⟩; exact ⟨rfl, over_step hC hb1⟩))); go_big_quiet_on) | (go_big_quiet_want; apply Exists.intro; refine ⟨fun w' hC => ?_, ?_⟩; (have k0 := over_cell hC bF.lt (bF.c 0 rfl); have k1 := over_cell hC (World.block_lt_of_cell? _ _ g0) g0; have k2 := over_cell hC (World.block_lt_of_cell? _ _ g1) g1; have k3 := over_cell hC (World.block_lt_of_cell? _ _ g2) g2; simp [Oper.quietAt, Oper.quietUpon, go_sem, k0, k1, k2, k3, hltI, hlt]; first | done | rfl); go_big_quiet_on; simp only [Act.put, List.setIfInBounds_toArray, List.set_cons_zero, List.set_cons_succ]))
          refine wpQuiet_nil ?_
          intro ws hC
          have k0 := over_cell hC bF.lt (bF.c 0 rfl)
          have k1 := over_cell hC (World.block_lt_of_cell? _ _ g0) g0
          have k2 := over_cell hC (World.block_lt_of_cell? _ _ g1) g1
          have k3 := over_cell hC (World.block_lt_of_cell? _ _ g2) g2
          replace bO := bO.keep hC
          replace bF := bF.keep hC
          replace bQ := bQ.keep hC
          have hB2 := over_step hB hC
          replace g0 := cell_keep hC (World.block_lt_of_cell? _ _ g0) g0
          replace g1 := cell_keep hC (World.block_lt_of_cell? _ _ g1) g1
          replace g2 := cell_keep hC (World.block_lt_of_cell? _ _ g2) g2
          have f0 := bF.c 0 rfl
          have o0 := bO.c 0 rfl
          have o1 := bO.c 1 rfl
          have o2 := bO.c 2 rfl
          have of0 := bO.f 0 rfl
          have of1 := bO.f 1 rfl
          have of2 := bO.f 2 rfl
          go_wp2
          go_roundw
          case rel =>
            refine ⟨k + 1, by omega, by go_num, E, .slice pa E.h.length px, by rw [HL1.out]; rfl, by rw [HL1.out]; exact HX.out, hpw, ⟨pa, px, rfl⟩, ((bO.set 0 (.int .i64 E.a)).set 1 (.int .i64 E.n)).set 2 (.slice pa E.h.length px), ((bF.far (C := O) (o := 0) hAO).far (C := O) (o := 1) hAO).far (C := O) (o := 2) hAO, ((bQ.far (C := O) (o := 0) hQO).far (C := O) (o := 1) hQO).far (C := O) (o := 2) hQO, ((hB2.setCell (p := ⟨O, 0, none⟩) hwO _).setCell (p := ⟨O, 1, none⟩) hwO _).setCell (p := ⟨O, 2, none⟩) hwO _⟩
          case measure => simp [intOf]; omega
        · obtain ⟨j, hj⟩ := Option.isSome_iff_exists.1 hfb
          have h1 := lastC_lt hj
          have hup := cv_up HA.out HS.out h1.1 (by rw [← HN.out]; exact hlt) h1.2 hct
          rw [HX.out, show L.getD j gr0 = F by rw [← hF, hj]; rfl] at hup
          have D1 : decide (F.n < E.n) = true := decide_eq_true hup
          clear hct hfb hF hj h1
          go_wp2_with fail
          refine wp_region_class (C := Over (wr)) (by kernel_rfl) (by kernel_rfl) (over_drew _) ?_
          repeat (first | go_big_quiet_skip | (go_big_quiet_want; go_big_quiet_op; (try simp only [D1]); go_big_quiet_on) | (go_big_quiet_want; go_big_quiet_op; apply Exists.intro; refine ⟨fun w' hC => ?_, ?_⟩; ((first | (go_at_call 98; refine (slcG_t _ hpk hxx HC).mono ?_; rintro e w1 ⟨rfl, hb1⟩; exact ⟨rfl, over_step hC hb1⟩))); go_big_quiet_on) | (go_big_quiet_want; apply Exists.intro; refine ⟨fun w' hC => ?_, ?_⟩; (have k0 := over_cell hC bF.lt (bF.c 0 rfl); have k1 := over_cell hC (World.block_lt_of_cell? _ _ g0) g0; have k2 := over_cell hC (World.block_lt_of_cell? _ _ g1) g1; have k3 := over_cell hC (World.block_lt_of_cell? _ _ g2) g2; have k4 := over_cell hC bO.lt (bO.c 1 rfl); simp [Oper.quietAt, Oper.quietUpon, go_sem, k0, k1, k2, k3, k4, hltI, hlt]; first | done | rfl); go_big_quiet_on; simp only [Act.put, List.setIfInBounds_toArray, List.set_cons_zero, List.set_cons_succ]))
          refine wpQuiet_nil ?_
          intro ws hC
          have k0 := over_cell hC bF.lt (bF.c 0 rfl)
          have k1 := over_cell hC (World.block_lt_of_cell? _ _ g0) g0
          have k2 := over_cell hC (World.block_lt_of_cell? _ _ g1) g1
          have k3 := over_cell hC (World.block_lt_of_cell? _ _ g2) g2
          have k4 := over_cell hC bO.lt (bO.c 1 rfl)
          replace bO := bO.keep hC
          replace bF := bF.keep hC
          replace bQ := bQ.keep hC
          have hB2 := over_step hB hC
          replace g0 := cell_keep hC (World.block_lt_of_cell? _ _ g0) g0
          replace g1 := cell_keep hC (World.block_lt_of_cell? _ _ g1) g1
          replace g2 := cell_keep hC (World.block_lt_of_cell? _ _ g2) g2
          have f0 := bF.c 0 rfl
          have o0 := bO.c 0 rfl
          have o1 := bO.c 1 rfl
          have o2 := bO.c 2 rfl
          have of0 := bO.f 0 rfl
          have of1 := bO.f 1 rfl
          have of2 := bO.f 2 rfl
          go_wp2
          go_roundw
          case rel =>
            refine ⟨k + 1, by omega, by go_num, E, .slice pa E.h.length px, by rw [HL1.out]; rfl, by rw [HL1.out]; exact HX.out, hpw, ⟨pa, px, rfl⟩, ((bO.set 0 (.int .i64 E.a)).set 1 (.int .i64 E.n)).set 2 (.slice pa E.h.length px), ((bF.far (C := O) (o := 0) hAO).far (C := O) (o := 1) hAO).far (C := O) (o := 2) hAO, ((bQ.far (C := O) (o := 0) hQO).far (C := O) (o := 1) hQO).far (C := O) (o := 2) hQO, ((hB2.setCell (p := ⟨O, 0, none⟩) hwO _).setCell (p := ⟨O, 1, none⟩) hwO _).setCell (p := ⟨O, 2, none⟩) hwO _⟩
          case measure => simp [intOf]; omega
    · have hkn : k = n := by omega
      rw [hkn] at hF ⊢
      have hnI : ¬ (n : Int) < (n : Int) := by omega
      obtain ⟨fb, hfb⟩ : ∃ fb, (lastC L x n).isSome = fb := ⟨_, rfl⟩
      rw [hfb]
      have HFF := Lib.hid (And.intro hfb hF)
      clear hc hfb hF hkn hlt hk
      have o0 := bO.c 0 rfl
      have o1 := bO.c 1 rfl
      have o2 := bO.c 2 rfl
      have q0 := bQ.c 0 rfl
      have q1 := bQ.c 1 rfl
      have q2 := bQ.c 2 rfl
      have qf0 := bQ.f 0 rfl
      have qf1 := bQ.f 1 rfl
      have qf2 := bQ.f 2 rfl
      go_wp2
      have bE := ((bQ.set 0 (.int .i64 F.a)).set 1 (.int .i64 F.n)).set 2 (.slice ua F.h.length ux)
      have e0 := bE.c 0 rfl
      have e1 := bE.c 1 rfl
      have e2 := bE.c 2 rfl
      exact bodyPost_ret (v := .tuple #[.agg #[.int .i64 F.a, .int .i64 F.n, .slice ua F.h.length ux], .bool fb]) (by simp [results, Try.results68, go_sem, e0, e1, e2]) rfl
        ⟨.slice ua F.h.length ux, by rw [HFF.out.1, HFF.out.2], by rw [HFF.out.2]; exact hRF, ((hB.setCell (p := ⟨Q, 0, none⟩) hwQ _).setCell (p := ⟨Q, 1, none⟩) hwQ _).setCell (p := ⟨Q, 2, none⟩) hwQ _⟩
theorem lastC_bad {L : List Grp} {x : Int} (h : addrB x = false) : ∀ k, lastC L x k = none := fun k => lastC_none k fun i _ => by simp [cvG, covB, h]
set_option maxHeartbeats 2000000 in
theorem slook_any (v : Value) (L : List Grp) (x : Int) (w : World) (h : RdG w v L) (hln : ∀ j, j < L.length → (L.getD j gr0).h.length ≤ 1048576) :
    Calls Try.prog 28 #[.agg #[v], .int .i64 x] w (LookR w L x) := by
  obtain ⟨p, c, rfl⟩ := h.len
  obtain ⟨bF, bQ, B0, z⟩ := two w [.slice p L.length c] [.int .i64 0, .int .i64 0, .slice none 0 0] 43 GI
  have hR := h.keep B0
  obtain ⟨W1, hW⟩ : ∃ W1, W1 = (w.alloc (.cells #[.slice p L.length c] 43)).alloc (.cells #[.int .i64 0, .int .i64 0, .slice none 0 0] GI) := ⟨_, rfl⟩
  rw [← hW] at bF bQ B0 z hR
  obtain ⟨A, hA⟩ : ∃ A, A = w.heap.size := ⟨_, rfl⟩
  obtain ⟨Q, hQ⟩ : ∃ Q, Q = w.heap.size + 1 := ⟨_, rfl⟩
  rw [← hA] at bF
  rw [← hQ] at bQ
  have hwQ : w.heap.size ≤ Q := by omega
  cases hf : fibB L
  · have HF := Lib.hid hf
    have HG : Hid (lookJ L x = none) := Lib.hid (by unfold lookJ; rw [hf]; rfl)
    clear hf
    go_enter Try.func28, Try.ntmps28
    go_wp2_with fail
    rw [← hW]
    rw [← hQ]
    try rw [← hA]
    clear hW hQ hA z
    refine (sfib_t _ hR HF).mono ?_
    rintro e w1 ⟨rfl, hb⟩
    replace bF := bF.keep hb
    replace bQ := bQ.keep hb
    have B1 := below_step B0 hb
    have hQ1 : Q < w1.heap.size := bQ.lt
    have q0 := bQ.c 0 rfl
    have q1 := bQ.c 1 rfl
    have q2 := bQ.c 2 rfl
    have qf0 := bQ.f 0 rfl
    have qf1 := bQ.f 1 rfl
    have qf2 := bQ.f 2 rfl
    go_wp2
    have bE := ((bQ.set 0 (.int .i64 0)).set 1 (.int .i64 0)).set 2 (.slice none 0 0)
    have e0 := bE.c 0 rfl
    have e1 := bE.c 1 rfl
    have e2 := bE.c 2 rfl
    have hlg : lookG L x = gr0 := by unfold lookG; rw [HG.out]
    exact bodyPost_ret (v := .tuple #[.agg #[.int .i64 0, .int .i64 0, .slice none 0 0], .bool false]) (by simp [results, Try.results28, go_sem, e0, e1, e2]) rfl
      ⟨none, 0, by rw [hlg, HG.out]; rfl, by rw [hlg]; exact OwnHp.nil _ _, ((B1.setCell (p := ⟨Q, 0, none⟩) hwQ _).setCell (p := ⟨Q, 1, none⟩) hwQ _).setCell (p := ⟨Q, 2, none⟩) hwQ _⟩
  · have HF := Lib.hid hf
    have HJ : Hid (lookJ L x = lastC L x L.length) := Lib.hid (by unfold lookJ; rw [hf]; rfl)
    have hal : allG L = true ∧ ascG L = true := by
      have q := hf
      unfold fibB at q
      simp only [Bool.and_eq_true] at q
      exact q.2
    have HAL := Lib.hid hal
    clear hf hal
    cases hx : addrB x
    · have HX := Lib.hid hx
      have HG : Hid (lookJ L x = none) := Lib.hid (by rw [HJ.out, lastC_bad hx])
      clear hx
      go_enter Try.func28, Try.ntmps28
      go_wp2_with fail
      rw [← hW]
      rw [← hQ]
      try rw [← hA]
      clear hW hQ hA z
      refine (sfib_t _ hR HF).mono ?_
      rintro e w1 ⟨rfl, hb⟩
      replace bF := bF.keep hb
      replace bQ := bQ.keep hb
      have B1 := below_step B0 hb
      have hQ1 : Q < w1.heap.size := bQ.lt
      go_wp2_with fail
      refine (saddr_t _ HX).mono ?_
      rintro e w2 ⟨rfl, rfl⟩
      have q0 := bQ.c 0 rfl
      have q1 := bQ.c 1 rfl
      have q2 := bQ.c 2 rfl
      have qf0 := bQ.f 0 rfl
      have qf1 := bQ.f 1 rfl
      have qf2 := bQ.f 2 rfl
      go_wp2
      have bE := ((bQ.set 0 (.int .i64 0)).set 1 (.int .i64 0)).set 2 (.slice none 0 0)
      have e0 := bE.c 0 rfl
      have e1 := bE.c 1 rfl
      have e2 := bE.c 2 rfl
      have hlg : lookG L x = gr0 := by unfold lookG; rw [HG.out]
      exact bodyPost_ret (v := .tuple #[.agg #[.int .i64 0, .int .i64 0, .slice none 0 0], .bool false]) (by simp [results, Try.results28, go_sem, e0, e1, e2]) rfl
        ⟨none, 0, by rw [hlg, HG.out]; rfl, by rw [hlg]; exact OwnHp.nil _ _, ((B1.setCell (p := ⟨Q, 0, none⟩) hwQ _).setCell (p := ⟨Q, 1, none⟩) hwQ _).setCell (p := ⟨Q, 2, none⟩) hwQ _⟩
    · have HX := Lib.hid hx
      clear hx
      go_enter Try.func28, Try.ntmps28
      go_wp2_with fail
      rw [← hW]
      rw [← hQ]
      try rw [← hA]
      clear hW hQ hA z
      refine (sfib_t _ hR HF).mono ?_
      rintro e w1 ⟨rfl, hb⟩
      replace bF := bF.keep hb
      replace bQ := bQ.keep hb
      have B1 := below_step B0 hb
      have hQ1 : Q < w1.heap.size := bQ.lt
      have h1 := hR.keep hb
      clear hb
      go_wp2_with fail
      refine (saddr_t _ HX).mono ?_
      rintro e w2 ⟨rfl, rfl⟩
      have f1 := bF.c 0 rfl
      go_wp2_with fail
      refine (sl7look_any _ L x _ h1 HAL.out.1 HAL.out.2 HX.out).mono ?_
      rintro e w3 ⟨u, rfl, hu, hb⟩
      replace bQ := bQ.keep hb
      replace hu := hu.keep hb
      replace B1 := below_step B1 hb
      clear hb f1 h1
      have hlg : lookG L x = chosen L (lastC L x L.length) := by unfold lookG chosen; rw [HJ.out]; cases lastC L x L.length <;> rfl
      have hEl : (chosen L (lastC L x L.length)).h.length ≤ 1048576 := by
        cases hj : lastC L x L.length with
        | none => exact Nat.zero_le _
        | some j => exact hln j (lastC_lt hj).1
      obtain ⟨E, hE⟩ : ∃ E, chosen L (lastC L x L.length) = E := ⟨_, rfl⟩
      obtain ⟨fb, hfb⟩ : ∃ fb, (lastC L x L.length).isSome = fb := ⟨_, rfl⟩
      rw [hE] at hu hlg hEl ⊢
      rw [hfb]
      have HL := Lib.hid (And.intro hlg hfb)
      clear hE hfb hlg
      obtain ⟨pa, px, rfl⟩ := hu.len
      have hu2 := hu.alloc (.cells #[.int .i64 E.a, .int .i64 E.n, .slice pa E.h.length px] GI)
      replace bQ := bQ.alloc (.cells #[.int .i64 E.a, .int .i64 E.n, .slice pa E.h.length px] GI)
      have hw3 : w.heap.size ≤ w3.heap.size := B1.size
      replace B1 := B1.alloc B1.size (.cells #[.int .i64 E.a, .int .i64 E.n, .slice pa E.h.length px] GI)
      have hQ4 : Q < (w3.alloc (.cells #[.int .i64 E.a, .int .i64 E.n, .slice pa E.h.length px] GI)).heap.size := bQ.lt
      have hwQ4 : w.heap.size ≤ (w3.alloc (.cells #[.int .i64 E.a, .int .i64 E.n, .slice pa E.h.length px] GI)).heap.size := by simp; omega
      go_wp2_with fail
      refine (sown7_any _ E.h _ _ _ hu2 hEl).mono ?_
      rintro e w4 ⟨p4, x4, rfl, ho, hb⟩
      replace bQ := bQ.keep hb
      replace B1 := below_step B1 hb
      clear hb hu hu2
      have q0 := bQ.c 0 rfl
      have q1 := bQ.c 1 rfl
      have q2 := bQ.c 2 rfl
      have qf0 := bQ.f 0 rfl
      have qf1 := bQ.f 1 rfl
      have qf2 := bQ.f 2 rfl
      go_wp2
      have bE := ((bQ.set 0 (.int .i64 E.a)).set 1 (.int .i64 E.n)).set 2 (.slice p4 E.h.length x4)
      have e0 := bE.c 0 rfl
      have e1 := bE.c 1 rfl
      have e2 := bE.c 2 rfl
      exact bodyPost_ret (v := .tuple #[.agg #[.int .i64 E.a, .int .i64 E.n, .slice p4 E.h.length x4], .bool fb]) (by simp [results, Try.results28, go_sem, e0, e1, e2]) rfl
        ⟨p4, x4, by rw [HL.out.1, HJ.out, HL.out.2], by rw [HL.out.1]; exact (((ho.far (o := 0) hQ4).far (o := 1) hQ4).far (o := 2) hQ4).mono hwQ4, ((B1.setCell (p := ⟨Q, 0, none⟩) hwQ _).setCell (p := ⟨Q, 1, none⟩) hwQ _).setCell (p := ⟨Q, 2, none⟩) hwQ _⟩
end Go.Proofs.Ytgelmpojbaiddaa
