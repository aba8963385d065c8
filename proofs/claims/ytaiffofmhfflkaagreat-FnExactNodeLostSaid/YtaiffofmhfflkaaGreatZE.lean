/-
  Entries that a switch may know, and that it may have sent: contracts of the program's tests on them, one by one and all. Conditions: those in each contract.
-/
import Derived.Test.YtaiffofmhfflkaaGreatZC
import Derived.Test.YtaiffofmhfflkaaGreatI8
namespace Go.Proofs.YtaiffofmhfflkaaGreat
open Go.ChangeShapes Go.WideShapes Go.ChangeAt Go.RowKit Go.BigFrame Go.Joins
set_option linter.unusedVariables false
set_option maxRecDepth 100000
set_option linter.unusedSimpArgs false
set_option maxRecDepth 100000

theorem rdI_nil8 (w : World) : RdI w (.slice none 0 0) [] := ⟨by simp, by simp, .inl ⟨none, 0, rfl, rfl, fun _ => rfl⟩⟩
theorem iown8_any (ov rv sv : Value) (N : Nd) (w : World) : Calls Tryz.prog 182 #[.agg #[.int .i64 N.an, ov, .int .i64 N.bw, .bool N.dr, rv, sv]] w fun e w' => e = .returned (.agg #[.slice none 0 0, .int .i64 100, .slice none 0 0, .int .i64 N.bw]) ∧ Below w.heap.size w w' := by
  obtain ⟨bA, bR, B0, z⟩ := two w [.int .i64 N.an, ov, .int .i64 N.bw, .bool N.dr, rv, sv] [.slice none 0 0, .int .i64 100, .slice none 0 0, .int .i64 N.bw] 34 133
  have a2 := (Bl.new w [.int .i64 N.an, ov, .int .i64 N.bw, .bool N.dr, rv, sv] 34 w.heap.size rfl).c 2 rfl
  have e0 := bR.c 0 rfl
  have e1 := bR.c 1 rfl
  have e2 := bR.c 2 rfl
  have e3 := bR.c 3 rfl
  clear z
  go_enter Tryz.func182, Tryz.ntmps182
  go_wp2_with fail
  exact bodyPost_ret (v := .agg #[.slice none 0 0, .int .i64 100, .slice none 0 0, .int .i64 N.bw]) (by simp [results, Tryz.results182, go_sem, e0, e1, e2, e3]) rfl
    ⟨rfl, B0⟩
theorem iph_t {pv cv : Value} {p c : List Int} {pr bw an : Int} {b : Bool} (w : World) (hp : RdI w pv p) (hc : RdI w cv c) (H : Hid (aokB p pr c bw = true ∧ decide (an ∈ p) = b)) :
    Calls Tryz.prog 183 #[.agg #[pv, .int .i64 pr, cv, .int .i64 bw], .int .i64 an] w fun e w' => e = .returned (.bool b) ∧ Below w.heap.size w w' := by
  have h := ipath_any pv cv p c pr bw an w hp hc
  rw [H.out.1, Bool.true_and, H.out.2] at h
  exact h
theorem isame8_t {pv mv pv2 mv2 : Value} {ps ms ps2 ms2 : List Int} {pr bw pr2 bw2 : Int} {b : Bool} (w : World) (hp : RdI w pv ps) (hm : RdI w mv ms) (hp2 : RdI w pv2 ps2) (hm2 : RdI w mv2 ms2) (H : Hid (sameB ps pr ms bw ps2 pr2 ms2 bw2 = b)) :
    Calls Tryz.prog 181 #[.agg #[pv, .int .i64 pr, mv, .int .i64 bw], .agg #[pv2, .int .i64 pr2, mv2, .int .i64 bw2]] w fun e w' => e = .returned (.bool b) ∧ Below w.heap.size w w' := H.out ▸ isameA_any pv mv pv2 mv2 ps ms ps2 ms2 pr bw pr2 bw2 w hp hm hp2 hm2
theorem know_own {an bw : Int} {E : Ent} (h : E.pe = -1) : knowB an bw E = sameB E.p E.pr E.c E.bw [] 100 [] bw := by rw [knowB, if_pos h]
theorem know_no {an bw : Int} {E : Ent} (h : ¬ E.pe = -1) (h2 : E.p.length = 0) : knowB an bw E = false := by rw [knowB, if_neg h, h2]; rfl
theorem know_yes {an bw : Int} {E : Ent} (h : ¬ E.pe = -1) (h2 : 0 < E.p.length) : knowB an bw E = !decide (an ∈ E.p) := by rw [knowB, if_neg h]; simp [h2]
set_option maxHeartbeats 1000000 in
theorem iknow_any (ov rv sv : Value) (N : Nd) (E : Ent) (pa : Option Addr) (px : Nat) (qa : Option Addr) (qx : Nat) (w : World) (hp : RdI w (.slice pa E.p.length px) E.p) (hq : RdI w (.slice qa E.c.length qx) E.c) (hA : aokB E.p E.pr E.c E.bw = true) :
    Calls Tryz.prog 130 #[.agg #[.int .i64 N.an, ov, .int .i64 N.bw, .bool N.dr, rv, sv], .agg #[.int .i64 E.a, .int .i64 E.n, .int .i64 E.pe, .slice pa E.p.length px, .int .i64 E.pr, .slice qa E.c.length qx, .int .i64 E.bw]] w fun e w' => e = .returned (.bool (knowB N.an N.bw E)) ∧ Below w.heap.size w w' := by
  obtain ⟨bA, bE, B0, z⟩ := two w [.int .i64 N.an, ov, .int .i64 N.bw, .bool N.dr, rv, sv] [.int .i64 E.a, .int .i64 E.n, .int .i64 E.pe, .slice pa E.p.length px, .int .i64 E.pr, .slice qa E.c.length qx, .int .i64 E.bw] 34 EI
  replace hp := hp.keep B0
  replace hq := hq.keep B0
  clear z
  have e2 := bE.c 2 rfl
  by_cases hpe : E.pe = -1
  · have hpb : (E.pe == -1) = true := by simp [hpe]
    rw [know_own hpe]
    obtain ⟨g, hg⟩ : ∃ g, sameB E.p E.pr E.c E.bw [] 100 [] N.bw = g := ⟨_, rfl⟩
    rw [hg]
    have HG := Lib.hid hg
    clear hg hpe hA
    obtain ⟨V, hV⟩ : ∃ V, V = (w.alloc (.cells #[.int .i64 N.an, ov, .int .i64 N.bw, .bool N.dr, rv, sv] 34)).alloc (.cells #[.int .i64 E.a, .int .i64 E.n, .int .i64 E.pe, .slice pa E.p.length px, .int .i64 E.pr, .slice qa E.c.length qx, .int .i64 E.bw] EI) := ⟨_, rfl⟩
    go_enter Tryz.func130, Tryz.ntmps130
    go_wp2_with fail
    rw [← hV] at bA bE B0 hp hq e2 ⊢
    clear hV
    refine wp_region_class (C := Over (V)) (by kernel_rfl) (by kernel_rfl) (over_drew _) ?_
    repeat (first | go_big_quiet_skip | (go_big_quiet_want; go_big_quiet_op; go_big_quiet_on) | (go_big_quiet_want; go_big_quiet_op; apply Exists.intro; refine ⟨fun w' hC => ?_, ?_⟩; ((first | (go_at_call 182; refine (iown8_any ov rv sv N _).mono ?_; rintro e w1 ⟨rfl, hb1⟩; exact ⟨rfl, over_step hC hb1⟩) | (go_at_call 181; refine (isame8_t _ (rdI_over hp hC) (rdI_over hq hC) (rdI_nil8 _) (rdI_nil8 _) HG).mono ?_; rintro e w1 ⟨rfl, hb1⟩; exact ⟨rfl, over_step hC hb1⟩))); go_big_quiet_on) | (go_big_quiet_want; apply Exists.intro; refine ⟨fun w' hC => ?_, ?_⟩; (have k0 := over_cell hC bA.lt (bA.c 0 rfl); have k1 := over_cell hC bA.lt (bA.c 1 rfl); have k2 := over_cell hC bA.lt (bA.c 2 rfl); have k3 := over_cell hC bA.lt (bA.c 3 rfl); have k4 := over_cell hC bA.lt (bA.c 4 rfl); have k5 := over_cell hC bA.lt (bA.c 5 rfl); have k6 := over_cell hC bE.lt (bE.c 0 rfl); have k7 := over_cell hC bE.lt (bE.c 1 rfl); have k8 := over_cell hC bE.lt (bE.c 2 rfl); have k9 := over_cell hC bE.lt (bE.c 3 rfl); have k10 := over_cell hC bE.lt (bE.c 4 rfl); have k11 := over_cell hC bE.lt (bE.c 5 rfl); have k12 := over_cell hC bE.lt (bE.c 6 rfl); simp [Oper.quietAt, Oper.quietUpon, go_sem, k0, k1, k2, k3, k4, k5, k6, k7, k8, k9, k10, k11, k12]; first | done | rfl); go_big_quiet_on; simp only [Act.put, List.setIfInBounds_toArray, List.set_cons_zero, List.set_cons_succ]))
    refine wpQuiet_nil ?_
    intro wr hC
    have k0 := over_cell hC bA.lt (bA.c 0 rfl)
    have k1 := over_cell hC bA.lt (bA.c 1 rfl)
    have k2 := over_cell hC bA.lt (bA.c 2 rfl)
    have k3 := over_cell hC bA.lt (bA.c 3 rfl)
    have k4 := over_cell hC bA.lt (bA.c 4 rfl)
    have k5 := over_cell hC bA.lt (bA.c 5 rfl)
    have k6 := over_cell hC bE.lt (bE.c 0 rfl)
    have k7 := over_cell hC bE.lt (bE.c 1 rfl)
    have k8 := over_cell hC bE.lt (bE.c 2 rfl)
    have k9 := over_cell hC bE.lt (bE.c 3 rfl)
    have k10 := over_cell hC bE.lt (bE.c 4 rfl)
    have k11 := over_cell hC bE.lt (bE.c 5 rfl)
    have k12 := over_cell hC bE.lt (bE.c 6 rfl)
    go_wp2
    go_ret
    exact ⟨rfl, over_step B0 hC⟩
  · have hpb : (E.pe == -1) = false := by simp [hpe]
    by_cases h0 : E.p.length = 0
    · rw [know_no hpe h0]
      rw [h0] at hp bE B0 ⊢
      have e3 := bE.c 3 rfl
      clear hpe h0 hA
      go_enter Tryz.func130, Tryz.ntmps130
      go_wp2
      go_ret
      exact ⟨rfl, B0⟩
    · rw [know_yes hpe (by omega)]
      obtain ⟨g, hg⟩ : ∃ g, decide (N.an ∈ E.p) = g := ⟨_, rfl⟩
      rw [hg]
      have HG := Lib.hid (And.intro hA hg)
      have hlI : (0 : Int) < (E.p.length : Int) := by omega
      clear hg hpe hA h0
      have e3 := bE.c 3 rfl
      have e4 := bE.c 4 rfl
      have e5 := bE.c 5 rfl
      have e6 := bE.c 6 rfl
      have a0 := bA.c 0 rfl
      go_enter Tryz.func130, Tryz.ntmps130
      go_wp2_with fail
      refine (iph_t _ hp hq HG).mono ?_
      rintro e w1 ⟨rfl, hb⟩
      replace B0 := below_step B0 hb
      go_wp2
      go_ret
      exact ⟨rfl, B0⟩
theorem isend_any (E : Ent) (pa : Option Addr) (px : Nat) (qa : Option Addr) (qx : Nat) (w : World) :
    Calls Tryz.prog 131 #[.agg #[.int .i64 E.a, .int .i64 E.n, .int .i64 E.pe, .slice pa E.p.length px, .int .i64 E.pr, .slice qa E.c.length qx, .int .i64 E.bw]] w fun e w' => e = .returned (.bool (sendB E)) ∧ Below w.heap.size w w' := by
  obtain ⟨bE, B0, z⟩ := one w [.int .i64 E.a, .int .i64 E.n, .int .i64 E.pe, .slice pa E.p.length px, .int .i64 E.pr, .slice qa E.c.length qx, .int .i64 E.bw] EI
  clear z
  have e2 := bE.c 2 rfl
  have e3 := bE.c 3 rfl
  unfold sendB
  cases hpe : (E.pe == -1)
  · rw [Bool.not_false, Bool.true_and]
    have hne : (E.pe != -1) = true := by simp [bne, hpe]
    obtain ⟨n, hn⟩ : ∃ n, n = E.p.length := ⟨_, rfl⟩
    rw [← hn] at bE B0 e3 ⊢
    clear hn hpe
    by_cases h0 : n = 0
    · subst h0
      go_enter Tryz.func131, Tryz.ntmps131
      go_wp2
      go_ret
      exact ⟨rfl, B0⟩
    · go_enter Tryz.func131, Tryz.ntmps131
      go_wp2
      go_ret
      exact ⟨rfl, B0⟩
  · rw [Bool.not_true, Bool.false_and]
    have hne : (E.pe != -1) = false := by simp [bne, hpe]
    clear hpe
    go_enter Tryz.func131, Tryz.ntmps131
    go_wp2
    go_ret
    exact ⟨rfl, B0⟩
theorem iclK_any (ov rv sv : Value) (N : Nd) (E : Ent) (pa : Option Addr) (px : Nat) (qa : Option Addr) (qx : Nat) (C : Nat) (w : World) (hp : RdI w (.slice pa E.p.length px) E.p) (hq : RdI w (.slice qa E.c.length qx) E.c) (hA : aokB E.p E.pr E.c E.bw = true) (bC : Bl w C [.func (.func 130) #[.agg #[.int .i64 N.an, ov, .int .i64 N.bw, .bool N.dr, rv, sv]] #[]]) :
    Calls Tryz.prog 180 #[.agg #[.int .i64 E.a, .int .i64 E.n, .int .i64 E.pe, .slice pa E.p.length px, .int .i64 E.pr, .slice qa E.c.length qx, .int .i64 E.bw], .pointer (some ⟨C, 0, none⟩)] w fun e w' => e = .returned (.bool (!knowB N.an N.bw E)) ∧ Below w.heap.size w w' := by
  obtain ⟨bE, B0, z⟩ := one w [.int .i64 E.a, .int .i64 E.n, .int .i64 E.pe, .slice pa E.p.length px, .int .i64 E.pr, .slice qa E.c.length qx, .int .i64 E.bw] EI
  replace hp := hp.keep B0
  replace hq := hq.keep B0
  have c0 := (bC.keep B0).c 0 rfl
  clear z
  have x0 := bE.c 0 rfl
  have x1 := bE.c 1 rfl
  have x2 := bE.c 2 rfl
  have x3 := bE.c 3 rfl
  have x4 := bE.c 4 rfl
  have x5 := bE.c 5 rfl
  have x6 := bE.c 6 rfl
  go_enter Tryz.func180, Tryz.ntmps180
  go_wp2_with fail
  refine (iknow_any ov rv sv N E pa px qa qx _ hp hq hA).mono ?_
  rintro e w1 ⟨rfl, hb⟩
  replace B0 := below_step B0 hb
  go_wp2
  go_ret
  exact ⟨rfl, B0⟩
set_option maxHeartbeats 1000000 in
theorem iixK_any (ov rv sv : Value) (N : Nd) (v : Value) (L : List Ent) (C : Nat) (w : World) (h : RdE w v L) (hV : ∀ i, i < L.length → aokB (L.getD i e0).p (L.getD i e0).pr (L.getD i e0).c (L.getD i e0).bw = true) (bC : Bl w C [.func (.func 130) #[.agg #[.int .i64 N.an, ov, .int .i64 N.bw, .bool N.dr, rv, sv]] #[]]) :
    Calls Tryz.prog 169 #[v, .func (.func 180) #[] #[.pointer (some ⟨C, 0, none⟩)]] w fun e w' => ∃ r : Int, e = .returned (.int .i64 r) ∧ decide (0 ≤ r) = (!L.all fun E => knowB N.an N.bw E) ∧ Below w.heap.size w w' := by
  have hm := h.1
  obtain ⟨a, c, rfl, hc⟩ := h.el
  obtain ⟨n, hn⟩ : ∃ n, n = L.length := ⟨_, rfl⟩
  rw [← hn] at hc hm ⊢
  have HN := Lib.hid hn
  have HV := Lib.hid hV
  clear h hn hV
  go_enter Tryz.func169, Tryz.ntmps169
  go_wp2
  go_loopw [8] (fun q wr => ∃ k : Nat, k ≤ n ∧ q = .int .i64 k ∧ (∀ j, j < k → knowB N.an N.bw (L.getD j e0) = true) ∧ Below w.heap.size w wr) (fun q _ => n - (intOf q).toNat)
  case atStart => exact ⟨0, Nat.zero_le _, rfl, fun j hj => by omega, Below.refl _ _⟩
  case round =>
    obtain ⟨k, hk, rfl, hyes, hB⟩ := hrel
    have HY := Lib.hid hyes
    clear hyes
    by_cases hlt : k < n
    · have hltI : (k : Int) < (n : Int) := by omega
      obtain ⟨b, o, rfl, hE⟩ := hc k hlt
      obtain ⟨E, hx⟩ : ∃ E, L.getD k e0 = E := ⟨_, rfl⟩
      rw [hx] at hE
      have hA := HV.out k (by rw [← HN.out]; exact hlt)
      rw [hx] at hA
      obtain ⟨pv, cv, hp, hq, g0, g1, g2, g3, g4, g5, g6⟩ := hE.keep hB
      obtain ⟨pa, px, rfl⟩ := hp.len
      obtain ⟨qa, qx, rfl⟩ := hq.len
      have HX := Lib.hid hx
      have HC := Lib.hid hc
      have HA := Lib.hid hA
      clear hx hc hE hA
      go_wp2_with fail
      refine (iclK_any ov rv sv N E pa px qa qx C wr hp hq HA.out (bC.keep hB)).mono ?_
      rintro e w1 ⟨rfl, hb1⟩
      clear g0 g1 g2 g3 g4 g5 g6 hp hq
      cases hbq : knowB N.an N.bw E
      · go_wp2
        go_ret
        refine ⟨(k : Int), rfl, ?_, below_step hB hb1⟩
        rw [show decide (0 ≤ (k : Int)) = true by simp]
        symm
        rw [Bool.not_eq_true', List.all_eq_false]
        refine ⟨E, ?_, by rw [hbq]; simp⟩
        rw [← HX.out, List.getD_eq_getElem?_getD, List.getElem?_eq_getElem (by rw [← HN.out]; exact hlt)]
        exact List.getElem_mem _
      · go_wp2
        go_roundw
        case rel =>
          refine ⟨k + 1, by omega, by go_num, fun j hj => ?_, below_step hB hb1⟩
          by_cases hjk : j = k
          · subst hjk; rw [HX.out]; exact hbq
          · exact HY.out j (by omega)
        case measure => simp [intOf]; omega
    · have hkn : k = n := by omega
      subst hkn
      clear hc
      go_wp2
      go_ret
      refine ⟨-1, rfl, ?_, hB⟩
      have e : (L.all fun E => knowB N.an N.bw E) = true := by
        rw [List.all_eq_true]
        intro E hE
        obtain ⟨i, hi, e⟩ := List.mem_iff_getElem.1 hE
        have := HY.out i (by rw [HN.out]; exact hi)
        rw [List.getD_eq_getElem?_getD, List.getElem?_eq_getElem hi] at this
        rw [← e]
        exact this
      rw [e]
      rfl
theorem icfK_any (ov rv sv : Value) (N : Nd) (v : Value) (L : List Ent) (C : Nat) (w : World) (h : RdE w v L) (hV : ∀ i, i < L.length → aokB (L.getD i e0).p (L.getD i e0).pr (L.getD i e0).c (L.getD i e0).bw = true) (bC : Bl w C [.func (.func 130) #[.agg #[.int .i64 N.an, ov, .int .i64 N.bw, .bool N.dr, rv, sv]] #[]]) :
    Calls Tryz.prog 179 #[v, .func (.func 180) #[] #[.pointer (some ⟨C, 0, none⟩)]] w fun e w' => e = .returned (.bool (!L.all fun E => knowB N.an N.bw E)) ∧ Below w.heap.size w w' := by
  obtain ⟨a, c, hv⟩ := h.len
  have hcall := iixK_any ov rv sv N v L C w h hV bC
  rw [hv] at hcall ⊢
  have HC := Lib.hid hcall
  clear hcall hv h bC hV
  go_enter Tryz.func179, Tryz.ntmps179
  go_wp2_with fail
  refine HC.out.mono ?_
  rintro e w1 ⟨r, rfl, hr, hb⟩
  have HR := Lib.hid hr
  clear hr
  go_wp2
  go_ret
  exact ⟨ret_bool HR.out, hb⟩
theorem ievK_any (ov rv sv : Value) (N : Nd) (v : Value) (L : List Ent) (w : World) (h : RdE w v L) (hV : ∀ i, i < L.length → aokB (L.getD i e0).p (L.getD i e0).pr (L.getD i e0).c (L.getD i e0).bw = true) :
    Calls Tryz.prog 129 #[v, .func (.func 130) #[.agg #[.int .i64 N.an, ov, .int .i64 N.bw, .bool N.dr, rv, sv]] #[]] w fun e w' => e = .returned (.bool (L.all fun E => knowB N.an N.bw E)) ∧ Below w.heap.size w w' := by
  obtain ⟨bC, B0, z⟩ := one w [.func (.func 130) #[.agg #[.int .i64 N.an, ov, .int .i64 N.bw, .bool N.dr, rv, sv]] #[]] 146
  replace h := h.keep B0
  obtain ⟨a, c, hv⟩ := h.len
  have hcall := icfK_any ov rv sv N v L w.heap.size _ h hV bC
  rw [hv] at hcall ⊢
  have HC := Lib.hid hcall
  clear hcall hv h hV z
  go_enter Tryz.func129, Tryz.ntmps129
  go_wp2_with fail
  refine HC.out.mono ?_
  rintro e w1 ⟨rfl, hb⟩
  replace B0 := below_step B0 hb
  go_wp2
  go_ret
  exact ⟨by simp, B0⟩
theorem ievK_t (ov rv sv : Value) (N : Nd) {v : Value} {L : List Ent} {b : Bool} (w : World) (h : RdE w v L) (hV : ∀ i, i < L.length → aokB (L.getD i e0).p (L.getD i e0).pr (L.getD i e0).c (L.getD i e0).bw = true) (H : Hid ((L.all fun E => knowB N.an N.bw E) = b)) :
    Calls Tryz.prog 129 #[v, .func (.func 130) #[.agg #[.int .i64 N.an, ov, .int .i64 N.bw, .bool N.dr, rv, sv]] #[]] w fun e w' => e = .returned (.bool b) ∧ Below w.heap.size w w' := H.out ▸ ievK_any ov rv sv N v L w h hV
theorem iclS_any  (E : Ent) (pa : Option Addr) (px : Nat) (qa : Option Addr) (qx : Nat) (C : Nat) (w : World) (hp : RdI w (.slice pa E.p.length px) E.p) (hq : RdI w (.slice qa E.c.length qx) E.c) (bC : Bl w C [.func (.func 131) #[] #[]]) :
    Calls Tryz.prog 180 #[.agg #[.int .i64 E.a, .int .i64 E.n, .int .i64 E.pe, .slice pa E.p.length px, .int .i64 E.pr, .slice qa E.c.length qx, .int .i64 E.bw], .pointer (some ⟨C, 0, none⟩)] w fun e w' => e = .returned (.bool (!sendB E)) ∧ Below w.heap.size w w' := by
  obtain ⟨bE, B0, z⟩ := one w [.int .i64 E.a, .int .i64 E.n, .int .i64 E.pe, .slice pa E.p.length px, .int .i64 E.pr, .slice qa E.c.length qx, .int .i64 E.bw] EI
  replace hp := hp.keep B0
  replace hq := hq.keep B0
  have c0 := (bC.keep B0).c 0 rfl
  clear z
  have x0 := bE.c 0 rfl
  have x1 := bE.c 1 rfl
  have x2 := bE.c 2 rfl
  have x3 := bE.c 3 rfl
  have x4 := bE.c 4 rfl
  have x5 := bE.c 5 rfl
  have x6 := bE.c 6 rfl
  go_enter Tryz.func180, Tryz.ntmps180
  go_wp2_with fail
  refine (isend_any E pa px qa qx _).mono ?_
  rintro e w1 ⟨rfl, hb⟩
  replace B0 := below_step B0 hb
  go_wp2
  go_ret
  exact ⟨rfl, B0⟩
set_option maxHeartbeats 1000000 in
theorem iixS_any  (v : Value) (L : List Ent) (C : Nat) (w : World) (h : RdE w v L) (bC : Bl w C [.func (.func 131) #[] #[]]) :
    Calls Tryz.prog 169 #[v, .func (.func 180) #[] #[.pointer (some ⟨C, 0, none⟩)]] w fun e w' => ∃ r : Int, e = .returned (.int .i64 r) ∧ decide (0 ≤ r) = (!L.all fun E => sendB E) ∧ Below w.heap.size w w' := by
  have hm := h.1
  obtain ⟨a, c, rfl, hc⟩ := h.el
  obtain ⟨n, hn⟩ : ∃ n, n = L.length := ⟨_, rfl⟩
  rw [← hn] at hc hm ⊢
  have HN := Lib.hid hn

  clear h hn
  go_enter Tryz.func169, Tryz.ntmps169
  go_wp2
  go_loopw [8] (fun q wr => ∃ k : Nat, k ≤ n ∧ q = .int .i64 k ∧ (∀ j, j < k → sendB (L.getD j e0) = true) ∧ Below w.heap.size w wr) (fun q _ => n - (intOf q).toNat)
  case atStart => exact ⟨0, Nat.zero_le _, rfl, fun j hj => by omega, Below.refl _ _⟩
  case round =>
    obtain ⟨k, hk, rfl, hyes, hB⟩ := hrel
    have HY := Lib.hid hyes
    clear hyes
    by_cases hlt : k < n
    · have hltI : (k : Int) < (n : Int) := by omega
      obtain ⟨b, o, rfl, hE⟩ := hc k hlt
      obtain ⟨E, hx⟩ : ∃ E, L.getD k e0 = E := ⟨_, rfl⟩
      rw [hx] at hE


      obtain ⟨pv, cv, hp, hq, g0, g1, g2, g3, g4, g5, g6⟩ := hE.keep hB
      obtain ⟨pa, px, rfl⟩ := hp.len
      obtain ⟨qa, qx, rfl⟩ := hq.len
      have HX := Lib.hid hx
      have HC := Lib.hid hc

      clear hx hc hE
      go_wp2_with fail
      refine (iclS_any  E pa px qa qx C wr hp hq (bC.keep hB)).mono ?_
      rintro e w1 ⟨rfl, hb1⟩
      clear g0 g1 g2 g3 g4 g5 g6 hp hq
      cases hbq : sendB E
      · go_wp2
        go_ret
        refine ⟨(k : Int), rfl, ?_, below_step hB hb1⟩
        rw [show decide (0 ≤ (k : Int)) = true by simp]
        symm
        rw [Bool.not_eq_true', List.all_eq_false]
        refine ⟨E, ?_, by rw [hbq]; simp⟩
        rw [← HX.out, List.getD_eq_getElem?_getD, List.getElem?_eq_getElem (by rw [← HN.out]; exact hlt)]
        exact List.getElem_mem _
      · go_wp2
        go_roundw
        case rel =>
          refine ⟨k + 1, by omega, by go_num, fun j hj => ?_, below_step hB hb1⟩
          by_cases hjk : j = k
          · subst hjk; rw [HX.out]; exact hbq
          · exact HY.out j (by omega)
        case measure => simp [intOf]; omega
    · have hkn : k = n := by omega
      subst hkn
      clear hc
      go_wp2
      go_ret
      refine ⟨-1, rfl, ?_, hB⟩
      have e : (L.all fun E => sendB E) = true := by
        rw [List.all_eq_true]
        intro E hE
        obtain ⟨i, hi, e⟩ := List.mem_iff_getElem.1 hE
        have := HY.out i (by rw [HN.out]; exact hi)
        rw [List.getD_eq_getElem?_getD, List.getElem?_eq_getElem hi] at this
        rw [← e]
        exact this
      rw [e]
      rfl
theorem icfS_any  (v : Value) (L : List Ent) (C : Nat) (w : World) (h : RdE w v L) (bC : Bl w C [.func (.func 131) #[] #[]]) :
    Calls Tryz.prog 179 #[v, .func (.func 180) #[] #[.pointer (some ⟨C, 0, none⟩)]] w fun e w' => e = .returned (.bool (!L.all fun E => sendB E)) ∧ Below w.heap.size w w' := by
  obtain ⟨a, c, hv⟩ := h.len
  have hcall := iixS_any  v L C w h bC
  rw [hv] at hcall ⊢
  have HC := Lib.hid hcall
  clear hcall hv h bC
  go_enter Tryz.func179, Tryz.ntmps179
  go_wp2_with fail
  refine HC.out.mono ?_
  rintro e w1 ⟨r, rfl, hr, hb⟩
  have HR := Lib.hid hr
  clear hr
  go_wp2
  go_ret
  exact ⟨ret_bool HR.out, hb⟩
theorem ievS_any  (v : Value) (L : List Ent) (w : World) (h : RdE w v L) :
    Calls Tryz.prog 129 #[v, .func (.func 131) #[] #[]] w fun e w' => e = .returned (.bool (L.all fun E => sendB E)) ∧ Below w.heap.size w w' := by
  obtain ⟨bC, B0, z⟩ := one w [.func (.func 131) #[] #[]] 146
  replace h := h.keep B0
  obtain ⟨a, c, hv⟩ := h.len
  have hcall := icfS_any  v L w.heap.size _ h bC
  rw [hv] at hcall ⊢
  have HC := Lib.hid hcall
  clear hcall hv h z
  go_enter Tryz.func129, Tryz.ntmps129
  go_wp2_with fail
  refine HC.out.mono ?_
  rintro e w1 ⟨rfl, hb⟩
  replace B0 := below_step B0 hb
  go_wp2
  go_ret
  exact ⟨by simp, B0⟩
theorem ievS_t  {v : Value} {L : List Ent} {b : Bool} (w : World) (h : RdE w v L) (H : Hid ((L.all fun E => sendB E) = b)) :
    Calls Tryz.prog 129 #[v, .func (.func 131) #[] #[]] w fun e w' => e = .returned (.bool b) ∧ Below w.heap.size w w' := H.out ▸ ievS_any  v L w h
end Go.Proofs.YtaiffofmhfflkaaGreat
