/-
  Entries that a switch may know, and that it may have sent: contracts of the program's tests on them, one by one and all. Conditions: those in each contract.
  NodeOk of the program and of the model. Conditions: those in each contract.
  Ranks, of the program and of the model. Conditions: those in each contract.
  Better and Equal, of the program and of the model. Conditions: those in each contract.
  Lists compared, of the library and of the model. Conditions: those in each contract.
  AttrCmp, of the program and of the model. Conditions: those in each contract.
  NodeOk of the model. Conditions: those in each contract.
-/
import Derived.Test.YtkodnipmogdgkaaGreatFBg
import Derived.Test.YtkodnipmogdgkaaGreatFBc
namespace Go.Proofs.YtkodnipmogdgkaaGreat
open Go.ChangeShapes Go.WideShapes Go.ChangeAt Go.RowKit Go.BigFrame Go.Joins
set_option linter.unusedVariables false
set_option maxRecDepth 100000
set_option maxRecDepth 100000
set_option linter.unusedSimpArgs false
set_option maxRecDepth 100000

theorem rdI_nil8 (w : World) : RdI w (.slice none 0 0) [] := ⟨by simp, by simp, .inl ⟨none, 0, rfl, rfl, fun _ => rfl⟩⟩
theorem iown8_any (ov rv sv : Value) (N : Nd) (w : World) : Calls Tryz.prog 182 #[.agg #[.int .i64 N.an, ov, .int .i64 N.bw, .bool N.dr, rv, sv]] w fun e w' => e = .returned (.agg #[.slice none 0 0, .int .i64 100, .slice none 0 0, .int .i64 N.bw]) ∧ Below w.heap.size w w' := by
 obtain ⟨bA, bR, B0, z⟩ := two w [.int .i64 N.an, ov, .int .i64 N.bw, .bool N.dr, rv, sv] [.slice none 0 0, .int .i64 100, .slice none 0 0, .int .i64 N.bw] 58 134; have a2 := (Bl.new w [.int .i64 N.an, ov, .int .i64 N.bw, .bool N.dr, rv, sv] 58 w.heap.size rfl).c 2 rfl; have e0 := bR.c 0 rfl; have e1 := bR.c 1 rfl; have e2 := bR.c 2 rfl; have e3 := bR.c 3 rfl; clear z
 go_enter Tryz.func182, Tryz.ntmps182
 go_wp2_with fail
 exact bodyPost_ret (v := .agg #[.slice none 0 0, .int .i64 100, .slice none 0 0, .int .i64 N.bw]) (by simp [results, Tryz.results182, go_sem, e0, e1, e2, e3]) rfl
  ⟨rfl, B0⟩
theorem iph_t {pv cv : Value} {p c : List Int} {pr bw an : Int} {b : Bool} (w : World) (hp : RdI w pv p) (hc : RdI w cv c) (H : Hid (aokB p pr c bw = true ∧ decide (an ∈ p) = b)) :
  Calls Tryz.prog 163 #[.agg #[pv, .int .i64 pr, cv, .int .i64 bw], .int .i64 an] w fun e w' => e = .returned (.bool b) ∧ Below w.heap.size w w' := by
 have h := ipath_any pv cv p c pr bw an w hp hc; rw [H.out.1, Bool.true_and, H.out.2] at h
 exact h
theorem isame8_t {pv mv pv2 mv2 : Value} {ps ms ps2 ms2 : List Int} {pr bw pr2 bw2 : Int} {b : Bool} (w : World) (hp : RdI w pv ps) (hm : RdI w mv ms) (hp2 : RdI w pv2 ps2) (hm2 : RdI w mv2 ms2) (H : Hid (sameB ps pr ms bw ps2 pr2 ms2 bw2 = b)) :
  Calls Tryz.prog 165 #[.agg #[pv, .int .i64 pr, mv, .int .i64 bw], .agg #[pv2, .int .i64 pr2, mv2, .int .i64 bw2]] w fun e w' => e = .returned (.bool b) ∧ Below w.heap.size w w' := H.out ▸ isameA_any pv mv pv2 mv2 ps ms ps2 ms2 pr bw pr2 bw2 w hp hm hp2 hm2
theorem know_own {an bw : Int} {E : Ent} (h : E.pe = -1) : knowB an bw E = sameB E.p E.pr E.c E.bw [] 100 [] bw := by rw [knowB, if_pos h]
theorem know_no {an bw : Int} {E : Ent} (h : ¬ E.pe = -1) (h2 : E.p.length = 0) : knowB an bw E = false := by rw [knowB, if_neg h, h2]; rfl
theorem know_yes {an bw : Int} {E : Ent} (h : ¬ E.pe = -1) (h2 : 0 < E.p.length) : knowB an bw E = !decide (an ∈ E.p) := by rw [knowB, if_neg h]; simp [h2]
set_option maxHeartbeats 1000000 in
theorem iknow_any (ov rv sv : Value) (N : Nd) (E : Ent) (pa : Option Addr) (px : Nat) (qa : Option Addr) (qx : Nat) (w : World) (hp : RdI w (.slice pa E.p.length px) E.p) (hq : RdI w (.slice qa E.c.length qx) E.c) (hA : aokB E.p E.pr E.c E.bw = true) :
  Calls Tryz.prog 137 #[.agg #[.int .i64 N.an, ov, .int .i64 N.bw, .bool N.dr, rv, sv], .agg #[.int .i64 E.a, .int .i64 E.n, .int .i64 E.pe, .slice pa E.p.length px, .int .i64 E.pr, .slice qa E.c.length qx, .int .i64 E.bw]] w fun e w' => e = .returned (.bool (knowB N.an N.bw E)) ∧ Below w.heap.size w w' := by
 obtain ⟨bA, bE, B0, z⟩ := two w [.int .i64 N.an, ov, .int .i64 N.bw, .bool N.dr, rv, sv] [.int .i64 E.a, .int .i64 E.n, .int .i64 E.pe, .slice pa E.p.length px, .int .i64 E.pr, .slice qa E.c.length qx, .int .i64 E.bw] 58 EI; replace hp := hp.keep B0; replace hq := hq.keep B0; clear z; have e2 := bE.c 2 rfl
 by_cases hpe : E.pe = -1
 ·have hpb : (E.pe == -1) = true := by simp [hpe]
  rw [know_own hpe]; obtain ⟨g, hg⟩ : ∃ g, sameB E.p E.pr E.c E.bw [] 100 [] N.bw = g := ⟨_, rfl⟩; rw [hg]; have HG := Lib.hid hg; clear hg hpe hA; obtain ⟨V, hV⟩ : ∃ V, V = (w.alloc (.cells #[.int .i64 N.an, ov, .int .i64 N.bw, .bool N.dr, rv, sv] 58)).alloc (.cells #[.int .i64 E.a, .int .i64 E.n, .int .i64 E.pe, .slice pa E.p.length px, .int .i64 E.pr, .slice qa E.c.length qx, .int .i64 E.bw] EI) := ⟨_, rfl⟩
  go_enter Tryz.func137, Tryz.ntmps137
  go_wp2_with fail; rw [← hV] at bA bE B0 hp hq e2 ⊢; clear hV; refine wp_region_class (C := Over (V)) (by kernel_rfl) (by kernel_rfl) (over_drew _) ?_
  repeat (first | go_big_quiet_skip | (go_big_quiet_want; go_big_quiet_op; go_big_quiet_on) | (go_big_quiet_want; go_big_quiet_op; apply Exists.intro; refine ⟨fun w' hC => ?_, ?_⟩; ((first | (go_at_call 182; refine (iown8_any ov rv sv N _).mono ?_; rintro e w1 ⟨rfl, hb1⟩; exact ⟨rfl, over_step hC hb1⟩) | (go_at_call 165; refine (isame8_t _ (rdI_over hp hC) (rdI_over hq hC) (rdI_nil8 _) (rdI_nil8 _) HG).mono ?_; rintro e w1 ⟨rfl, hb1⟩; exact ⟨rfl, over_step hC hb1⟩))); go_big_quiet_on) | (go_big_quiet_want; apply Exists.intro; refine ⟨fun w' hC => ?_, ?_⟩; (have k0 := over_cell hC bA.lt (bA.c 0 rfl); have k1 := over_cell hC bA.lt (bA.c 1 rfl); have k2 := over_cell hC bA.lt (bA.c 2 rfl); have k3 := over_cell hC bA.lt (bA.c 3 rfl); have k4 := over_cell hC bA.lt (bA.c 4 rfl); have k5 := over_cell hC bA.lt (bA.c 5 rfl); have k6 := over_cell hC bE.lt (bE.c 0 rfl); have k7 := over_cell hC bE.lt (bE.c 1 rfl); have k8 := over_cell hC bE.lt (bE.c 2 rfl); have k9 := over_cell hC bE.lt (bE.c 3 rfl); have k10 := over_cell hC bE.lt (bE.c 4 rfl); have k11 := over_cell hC bE.lt (bE.c 5 rfl); have k12 := over_cell hC bE.lt (bE.c 6 rfl); simp [Oper.quietAt, Oper.quietUpon, go_sem, k0, k1, k2, k3, k4, k5, k6, k7, k8, k9, k10, k11, k12]; first | done | rfl); go_big_quiet_on; simp only [Act.put, List.setIfInBounds_toArray, List.set_cons_zero, List.set_cons_succ]))
  refine wpQuiet_nil ?_; intro wr hC; have k0 := over_cell hC bA.lt (bA.c 0 rfl); have k1 := over_cell hC bA.lt (bA.c 1 rfl); have k2 := over_cell hC bA.lt (bA.c 2 rfl); have k3 := over_cell hC bA.lt (bA.c 3 rfl); have k4 := over_cell hC bA.lt (bA.c 4 rfl); have k5 := over_cell hC bA.lt (bA.c 5 rfl); have k6 := over_cell hC bE.lt (bE.c 0 rfl); have k7 := over_cell hC bE.lt (bE.c 1 rfl); have k8 := over_cell hC bE.lt (bE.c 2 rfl); have k9 := over_cell hC bE.lt (bE.c 3 rfl); have k10 := over_cell hC bE.lt (bE.c 4 rfl); have k11 := over_cell hC bE.lt (bE.c 5 rfl); have k12 := over_cell hC bE.lt (bE.c 6 rfl); go_wp2
  go_ret
  exact ⟨rfl, over_step B0 hC⟩
 ·have hpb : (E.pe == -1) = false := by simp [hpe]
  by_cases h0 : E.p.length = 0
  ·rw [know_no hpe h0]
   rw [h0] at hp bE B0 ⊢; have e3 := bE.c 3 rfl; clear hpe h0 hA
   go_enter Tryz.func137, Tryz.ntmps137
   go_wp2
   go_ret
   exact ⟨rfl, B0⟩
  ·rw [know_yes hpe (by omega)]
   obtain ⟨g, hg⟩ : ∃ g, decide (N.an ∈ E.p) = g := ⟨_, rfl⟩; rw [hg]; have HG := Lib.hid (And.intro hA hg); have hlI : (0 : Int) < (E.p.length : Int) := by omega
   clear hg hpe hA h0; have e3 := bE.c 3 rfl; have e4 := bE.c 4 rfl; have e5 := bE.c 5 rfl; have e6 := bE.c 6 rfl; have a0 := bA.c 0 rfl
   go_enter Tryz.func137, Tryz.ntmps137
   go_wp2_with fail; refine (iph_t _ hp hq HG).mono ?_; rintro e w1 ⟨rfl, hb⟩; replace B0 := below_step B0 hb; go_wp2
   go_ret
   exact ⟨rfl, B0⟩
theorem isend_any (E : Ent) (pa : Option Addr) (px : Nat) (qa : Option Addr) (qx : Nat) (w : World) :
  Calls Tryz.prog 138 #[.agg #[.int .i64 E.a, .int .i64 E.n, .int .i64 E.pe, .slice pa E.p.length px, .int .i64 E.pr, .slice qa E.c.length qx, .int .i64 E.bw]] w fun e w' => e = .returned (.bool (sendB E)) ∧ Below w.heap.size w w' := by
 obtain ⟨bE, B0, z⟩ := one w [.int .i64 E.a, .int .i64 E.n, .int .i64 E.pe, .slice pa E.p.length px, .int .i64 E.pr, .slice qa E.c.length qx, .int .i64 E.bw] EI; clear z; have e2 := bE.c 2 rfl; have e3 := bE.c 3 rfl; unfold sendB; cases hpe : (E.pe == -1)
 ·rw [Bool.not_false, Bool.true_and]
  have hne : (E.pe != -1) = true := by simp [bne, hpe]
  obtain ⟨n, hn⟩ : ∃ n, n = E.p.length := ⟨_, rfl⟩; rw [← hn] at bE B0 e3 ⊢; clear hn hpe
  by_cases h0 : n = 0
  ·subst h0
   go_enter Tryz.func138, Tryz.ntmps138
   go_wp2
   go_ret
   exact ⟨rfl, B0⟩
  ·go_enter Tryz.func138, Tryz.ntmps138
   go_wp2
   go_ret
   exact ⟨rfl, B0⟩
 ·rw [Bool.not_true, Bool.false_and]
  have hne : (E.pe != -1) = false := by simp [bne, hpe]
  clear hpe
  go_enter Tryz.func138, Tryz.ntmps138
  go_wp2
  go_ret
  exact ⟨rfl, B0⟩
theorem iclK_any (ov rv sv : Value) (N : Nd) (E : Ent) (pa : Option Addr) (px : Nat) (qa : Option Addr) (qx : Nat) (C : Nat) (w : World) (hp : RdI w (.slice pa E.p.length px) E.p) (hq : RdI w (.slice qa E.c.length qx) E.c) (hA : aokB E.p E.pr E.c E.bw = true) (bC : Bl w C [.func (.func 137) #[.agg #[.int .i64 N.an, ov, .int .i64 N.bw, .bool N.dr, rv, sv]] #[]]) :
  Calls Tryz.prog 160 #[.agg #[.int .i64 E.a, .int .i64 E.n, .int .i64 E.pe, .slice pa E.p.length px, .int .i64 E.pr, .slice qa E.c.length qx, .int .i64 E.bw], .pointer (some ⟨C, 0, none⟩)] w fun e w' => e = .returned (.bool (!knowB N.an N.bw E)) ∧ Below w.heap.size w w' := by
 obtain ⟨bE, B0, z⟩ := one w [.int .i64 E.a, .int .i64 E.n, .int .i64 E.pe, .slice pa E.p.length px, .int .i64 E.pr, .slice qa E.c.length qx, .int .i64 E.bw] EI; replace hp := hp.keep B0; replace hq := hq.keep B0; have c0 := (bC.keep B0).c 0 rfl; clear z; have x0 := bE.c 0 rfl; have x1 := bE.c 1 rfl; have x2 := bE.c 2 rfl; have x3 := bE.c 3 rfl; have x4 := bE.c 4 rfl; have x5 := bE.c 5 rfl; have x6 := bE.c 6 rfl
 go_enter Tryz.func160, Tryz.ntmps160
 go_wp2_with fail; refine (iknow_any ov rv sv N E pa px qa qx _ hp hq hA).mono ?_; rintro e w1 ⟨rfl, hb⟩; replace B0 := below_step B0 hb; go_wp2
 go_ret
 exact ⟨rfl, B0⟩
set_option maxHeartbeats 1000000 in
theorem iixK_any (ov rv sv : Value) (N : Nd) (v : Value) (L : List Ent) (C : Nat) (w : World) (h : RdE w v L) (hV : ∀ i, i < L.length → aokB (L.getD i e0).p (L.getD i e0).pr (L.getD i e0).c (L.getD i e0).bw = true) (bC : Bl w C [.func (.func 137) #[.agg #[.int .i64 N.an, ov, .int .i64 N.bw, .bool N.dr, rv, sv]] #[]]) :
  Calls Tryz.prog 192 #[v, .func (.func 160) #[] #[.pointer (some ⟨C, 0, none⟩)]] w fun e w' => ∃ r : Int, e = .returned (.int .i64 r) ∧ decide (0 ≤ r) = (!L.all fun E => knowB N.an N.bw E) ∧ Below w.heap.size w w' := by
 have hm := h.1; obtain ⟨a, c, rfl, hc⟩ := h.el; obtain ⟨n, hn⟩ : ∃ n, n = L.length := ⟨_, rfl⟩; rw [← hn] at hc hm ⊢; have HN := Lib.hid hn; have HV := Lib.hid hV; clear h hn hV
 go_enter Tryz.func192, Tryz.ntmps192
 go_wp2
 go_loopw [8] (fun q wr => ∃ k : Nat, k ≤ n ∧ q = .int .i64 k ∧ (∀ j, j < k → knowB N.an N.bw (L.getD j e0) = true) ∧ Below w.heap.size w wr) (fun q _ => n - (intOf q).toNat)
 case atStart => exact ⟨0, Nat.zero_le _, rfl, fun j hj => by omega, Below.refl _ _⟩
 case round =>
  obtain ⟨k, hk, rfl, hyes, hB⟩ := hrel; have HY := Lib.hid hyes; clear hyes
  by_cases hlt : k < n
  ·have hltI : (k : Int) < (n : Int) := by omega
   obtain ⟨b, o, rfl, hE⟩ := hc k hlt; obtain ⟨E, hx⟩ : ∃ E, L.getD k e0 = E := ⟨_, rfl⟩; rw [hx] at hE; have hA := HV.out k (by rw [← HN.out]; exact hlt); rw [hx] at hA; obtain ⟨pv, cv, hp, hq, g0, g1, g2, g3, g4, g5, g6⟩ := hE.keep hB; obtain ⟨pa, px, rfl⟩ := hp.len; obtain ⟨qa, qx, rfl⟩ := hq.len; have HX := Lib.hid hx; have HC := Lib.hid hc; have HA := Lib.hid hA; clear hx hc hE hA; go_wp2_with fail; refine (iclK_any ov rv sv N E pa px qa qx C wr hp hq HA.out (bC.keep hB)).mono ?_; rintro e w1 ⟨rfl, hb1⟩; clear g0 g1 g2 g3 g4 g5 g6 hp hq; cases hbq : knowB N.an N.bw E
   ·go_wp2
    go_ret
    refine ⟨(k : Int), rfl, ?_, below_step hB hb1⟩; rw [show decide (0 ≤ (k : Int)) = true by simp]
    symm
    rw [Bool.not_eq_true', List.all_eq_false]; refine ⟨E, ?_, by rw [hbq]; simp⟩; rw [← HX.out, List.getD_eq_getElem?_getD, List.getElem?_eq_getElem (by rw [← HN.out]; exact hlt)]
    exact List.getElem_mem _
   ·go_wp2
    go_roundw
    case rel =>
     refine ⟨k + 1, by omega, by go_num, fun j hj => ?_, below_step hB hb1⟩
     by_cases hjk : j = k
     ·subst hjk; rw [HX.out]; exact hbq
     ·exact HY.out j (by omega)
    case measure => simp [intOf]; omega
  ·have hkn : k = n := by omega
   subst hkn; clear hc; go_wp2
   go_ret
   refine ⟨-1, rfl, ?_, hB⟩
   have e : (L.all fun E => knowB N.an N.bw E) = true := by
    rw [List.all_eq_true]; intro E hE; obtain ⟨i, hi, e⟩ := List.mem_iff_getElem.1 hE; have := HY.out i (by rw [HN.out]; exact hi); rw [List.getD_eq_getElem?_getD, List.getElem?_eq_getElem hi] at this; rw [← e]
    exact this
   rw [e]
   rfl
theorem icfK_any (ov rv sv : Value) (N : Nd) (v : Value) (L : List Ent) (C : Nat) (w : World) (h : RdE w v L) (hV : ∀ i, i < L.length → aokB (L.getD i e0).p (L.getD i e0).pr (L.getD i e0).c (L.getD i e0).bw = true) (bC : Bl w C [.func (.func 137) #[.agg #[.int .i64 N.an, ov, .int .i64 N.bw, .bool N.dr, rv, sv]] #[]]) :
  Calls Tryz.prog 159 #[v, .func (.func 160) #[] #[.pointer (some ⟨C, 0, none⟩)]] w fun e w' => e = .returned (.bool (!L.all fun E => knowB N.an N.bw E)) ∧ Below w.heap.size w w' := by
 obtain ⟨a, c, hv⟩ := h.len; have hcall := iixK_any ov rv sv N v L C w h hV bC; rw [hv] at hcall ⊢; have HC := Lib.hid hcall; clear hcall hv h bC hV
 go_enter Tryz.func159, Tryz.ntmps159
 go_wp2_with fail; refine HC.out.mono ?_; rintro e w1 ⟨r, rfl, hr, hb⟩; have HR := Lib.hid hr; clear hr; go_wp2
 go_ret
 exact ⟨ret_bool HR.out, hb⟩
theorem ievK_any (ov rv sv : Value) (N : Nd) (v : Value) (L : List Ent) (w : World) (h : RdE w v L) (hV : ∀ i, i < L.length → aokB (L.getD i e0).p (L.getD i e0).pr (L.getD i e0).c (L.getD i e0).bw = true) :
  Calls Tryz.prog 106 #[v, .func (.func 137) #[.agg #[.int .i64 N.an, ov, .int .i64 N.bw, .bool N.dr, rv, sv]] #[]] w fun e w' => e = .returned (.bool (L.all fun E => knowB N.an N.bw E)) ∧ Below w.heap.size w w' := by
 obtain ⟨bC, B0, z⟩ := one w [.func (.func 137) #[.agg #[.int .i64 N.an, ov, .int .i64 N.bw, .bool N.dr, rv, sv]] #[]] 142; replace h := h.keep B0; obtain ⟨a, c, hv⟩ := h.len; have hcall := icfK_any ov rv sv N v L w.heap.size _ h hV bC; rw [hv] at hcall ⊢; have HC := Lib.hid hcall; clear hcall hv h hV z
 go_enter Tryz.func106, Tryz.ntmps106
 go_wp2_with fail; refine HC.out.mono ?_; rintro e w1 ⟨rfl, hb⟩; replace B0 := below_step B0 hb; go_wp2
 go_ret
 exact ⟨by simp, B0⟩
theorem ievK_t (ov rv sv : Value) (N : Nd) {v : Value} {L : List Ent} {b : Bool} (w : World) (h : RdE w v L) (hV : ∀ i, i < L.length → aokB (L.getD i e0).p (L.getD i e0).pr (L.getD i e0).c (L.getD i e0).bw = true) (H : Hid ((L.all fun E => knowB N.an N.bw E) = b)) :
  Calls Tryz.prog 106 #[v, .func (.func 137) #[.agg #[.int .i64 N.an, ov, .int .i64 N.bw, .bool N.dr, rv, sv]] #[]] w fun e w' => e = .returned (.bool b) ∧ Below w.heap.size w w' := H.out ▸ ievK_any ov rv sv N v L w h hV
theorem iclS_any  (E : Ent) (pa : Option Addr) (px : Nat) (qa : Option Addr) (qx : Nat) (C : Nat) (w : World) (hp : RdI w (.slice pa E.p.length px) E.p) (hq : RdI w (.slice qa E.c.length qx) E.c) (bC : Bl w C [.func (.func 138) #[] #[]]) :
  Calls Tryz.prog 160 #[.agg #[.int .i64 E.a, .int .i64 E.n, .int .i64 E.pe, .slice pa E.p.length px, .int .i64 E.pr, .slice qa E.c.length qx, .int .i64 E.bw], .pointer (some ⟨C, 0, none⟩)] w fun e w' => e = .returned (.bool (!sendB E)) ∧ Below w.heap.size w w' := by
 obtain ⟨bE, B0, z⟩ := one w [.int .i64 E.a, .int .i64 E.n, .int .i64 E.pe, .slice pa E.p.length px, .int .i64 E.pr, .slice qa E.c.length qx, .int .i64 E.bw] EI; replace hp := hp.keep B0; replace hq := hq.keep B0; have c0 := (bC.keep B0).c 0 rfl; clear z; have x0 := bE.c 0 rfl; have x1 := bE.c 1 rfl; have x2 := bE.c 2 rfl; have x3 := bE.c 3 rfl; have x4 := bE.c 4 rfl; have x5 := bE.c 5 rfl; have x6 := bE.c 6 rfl
 go_enter Tryz.func160, Tryz.ntmps160
 go_wp2_with fail; refine (isend_any E pa px qa qx _).mono ?_; rintro e w1 ⟨rfl, hb⟩; replace B0 := below_step B0 hb; go_wp2
 go_ret
 exact ⟨rfl, B0⟩
set_option maxHeartbeats 1000000 in
theorem iixS_any  (v : Value) (L : List Ent) (C : Nat) (w : World) (h : RdE w v L) (bC : Bl w C [.func (.func 138) #[] #[]]) :
  Calls Tryz.prog 192 #[v, .func (.func 160) #[] #[.pointer (some ⟨C, 0, none⟩)]] w fun e w' => ∃ r : Int, e = .returned (.int .i64 r) ∧ decide (0 ≤ r) = (!L.all fun E => sendB E) ∧ Below w.heap.size w w' := by
 have hm := h.1; obtain ⟨a, c, rfl, hc⟩ := h.el; obtain ⟨n, hn⟩ : ∃ n, n = L.length := ⟨_, rfl⟩; rw [← hn] at hc hm ⊢; have HN := Lib.hid hn

 clear h hn
 go_enter Tryz.func192, Tryz.ntmps192
 go_wp2
 go_loopw [8] (fun q wr => ∃ k : Nat, k ≤ n ∧ q = .int .i64 k ∧ (∀ j, j < k → sendB (L.getD j e0) = true) ∧ Below w.heap.size w wr) (fun q _ => n - (intOf q).toNat)
 case atStart => exact ⟨0, Nat.zero_le _, rfl, fun j hj => by omega, Below.refl _ _⟩
 case round =>
  obtain ⟨k, hk, rfl, hyes, hB⟩ := hrel; have HY := Lib.hid hyes; clear hyes
  by_cases hlt : k < n
  ·have hltI : (k : Int) < (n : Int) := by omega
   obtain ⟨b, o, rfl, hE⟩ := hc k hlt; obtain ⟨E, hx⟩ : ∃ E, L.getD k e0 = E := ⟨_, rfl⟩; rw [hx] at hE


   obtain ⟨pv, cv, hp, hq, g0, g1, g2, g3, g4, g5, g6⟩ := hE.keep hB; obtain ⟨pa, px, rfl⟩ := hp.len; obtain ⟨qa, qx, rfl⟩ := hq.len; have HX := Lib.hid hx; have HC := Lib.hid hc

   clear hx hc hE; go_wp2_with fail; refine (iclS_any  E pa px qa qx C wr hp hq (bC.keep hB)).mono ?_; rintro e w1 ⟨rfl, hb1⟩; clear g0 g1 g2 g3 g4 g5 g6 hp hq; cases hbq : sendB E
   ·go_wp2
    go_ret
    refine ⟨(k : Int), rfl, ?_, below_step hB hb1⟩; rw [show decide (0 ≤ (k : Int)) = true by simp]
    symm
    rw [Bool.not_eq_true', List.all_eq_false]; refine ⟨E, ?_, by rw [hbq]; simp⟩; rw [← HX.out, List.getD_eq_getElem?_getD, List.getElem?_eq_getElem (by rw [← HN.out]; exact hlt)]
    exact List.getElem_mem _
   ·go_wp2
    go_roundw
    case rel =>
     refine ⟨k + 1, by omega, by go_num, fun j hj => ?_, below_step hB hb1⟩
     by_cases hjk : j = k
     ·subst hjk; rw [HX.out]; exact hbq
     ·exact HY.out j (by omega)
    case measure => simp [intOf]; omega
  ·have hkn : k = n := by omega
   subst hkn; clear hc; go_wp2
   go_ret
   refine ⟨-1, rfl, ?_, hB⟩
   have e : (L.all fun E => sendB E) = true := by
    rw [List.all_eq_true]; intro E hE; obtain ⟨i, hi, e⟩ := List.mem_iff_getElem.1 hE; have := HY.out i (by rw [HN.out]; exact hi); rw [List.getD_eq_getElem?_getD, List.getElem?_eq_getElem hi] at this; rw [← e]
    exact this
   rw [e]
   rfl
theorem icfS_any  (v : Value) (L : List Ent) (C : Nat) (w : World) (h : RdE w v L) (bC : Bl w C [.func (.func 138) #[] #[]]) :
  Calls Tryz.prog 159 #[v, .func (.func 160) #[] #[.pointer (some ⟨C, 0, none⟩)]] w fun e w' => e = .returned (.bool (!L.all fun E => sendB E)) ∧ Below w.heap.size w w' := by
 obtain ⟨a, c, hv⟩ := h.len; have hcall := iixS_any  v L C w h bC; rw [hv] at hcall ⊢; have HC := Lib.hid hcall; clear hcall hv h bC
 go_enter Tryz.func159, Tryz.ntmps159
 go_wp2_with fail; refine HC.out.mono ?_; rintro e w1 ⟨r, rfl, hr, hb⟩; have HR := Lib.hid hr; clear hr; go_wp2
 go_ret
 exact ⟨ret_bool HR.out, hb⟩
theorem ievS_any  (v : Value) (L : List Ent) (w : World) (h : RdE w v L) :
  Calls Tryz.prog 106 #[v, .func (.func 138) #[] #[]] w fun e w' => e = .returned (.bool (L.all fun E => sendB E)) ∧ Below w.heap.size w w' := by
 obtain ⟨bC, B0, z⟩ := one w [.func (.func 138) #[] #[]] 142; replace h := h.keep B0; obtain ⟨a, c, hv⟩ := h.len; have hcall := icfS_any  v L w.heap.size _ h bC; rw [hv] at hcall ⊢; have HC := Lib.hid hcall; clear hcall hv h z
 go_enter Tryz.func106, Tryz.ntmps106
 go_wp2_with fail; refine HC.out.mono ?_; rintro e w1 ⟨rfl, hb⟩; replace B0 := below_step B0 hb; go_wp2
 go_ret
 exact ⟨by simp, B0⟩
theorem ievS_t  {v : Value} {L : List Ent} {b : Bool} (w : World) (h : RdE w v L) (H : Hid ((L.all fun E => sendB E) = b)) :
  Calls Tryz.prog 106 #[v, .func (.func 138) #[] #[]] w fun e w' => e = .returned (.bool b) ∧ Below w.heap.size w w' := H.out ▸ ievS_any  v L w h
end Go.Proofs.YtkodnipmogdgkaaGreat
namespace Go.Proofs.YtkodnipmogdgkaaGreat
open Go.ChangeShapes Go.WideShapes Go.ChangeAt Go.RowKit Go.BigFrame Go.Joins
open List (setIfInBounds_toArray set_cons_succ set_cons_zero)
set_option linter.unusedVariables false
set_option maxRecDepth 100000
set_option linter.unusedSimpArgs false
set_option maxRecDepth 100000

theorem numok8 {n : Int} {b : Bool} (w : World) (H : Hid (asB n = b)) : Calls Tryz.prog 132 #[.int .i64 n] w fun e w' => e = .returned (.bool b) ∧ w = w' := H.out ▸ numok_any n w
theorem sas8 {n : Int} {b : Bool} (w : World) (H : Hid (asB n = b)) : Calls Tryz.prog 121 #[.int .i64 n] w fun e w' => e = .returned (.bool b) ∧ w = w' := H.out ▸ sas_any n w
theorem ipfx8 {v : Value} {l : List (Int × Int)} {b : Bool} (w : World) (h : RdP w v l) (H : Hid ((decide ((l.length : Int) ≤ 2) && pfxB l) = b)) : Calls Tryz.prog 133 #[v, .int .i64 2] w fun e w' => e = .returned (.bool b) ∧ Below w.heap.size w w' := H.out ▸ ipfx_any v l 2 w h
theorem spfx8 {v : Value} {l : List (Int × Int)} {b : Bool} (w : World) (h : RdP w v l) (H : Hid ((decide ((l.length : Int) ≤ 8) && pfxB l) = b)) : Calls Tryz.prog 122 #[v] w fun e w' => e = .returned (.bool b) ∧ Below w.heap.size w w' := H.out ▸ spfx_any v l w h
theorem within8 {n : Int} {b : Bool} (w : World) (H : Hid (inB n 0 1000 = b)) : Calls Tryz.prog 51 #[.int .i64 n, .int .i64 0, .int .i64 1000] w fun e w' => e = .returned (.bool b) ∧ w = w' := within_t w H
theorem slL_t {v u : Value} {l m : List (Int × Int)} {b : Bool} (w : World) (h1 : RdP w v l) (h2 : RdP w u m) (H : Hid (decide (l = m) = b)) : Calls Tryz.prog 135 #[v, u] w fun e w' => e = .returned (.bool b) ∧ Below w.heap.size w w' := H.out ▸ slL_any v u l m w h1 h2
/-- a switch is valid -/
def ndB (N : Nd) : Bool := asB N.an && ((decide ((N.own.length : Int) ≤ 2) && pfxB N.own) && (inB N.bw 0 1000 && (ribB N.rib && (ribB N.sent && (decide (ownL N.rib = N.own) && ((N.rib.all fun E => knowB N.an N.bw E) && N.sent.all fun E => sendB E))))))
theorem rib_ok {L : List Ent} (h : ribB L = true) : (∀ i, i < L.length → entB (L.getD i e0).a (L.getD i e0).n (L.getD i e0).pe (L.getD i e0).p (L.getD i e0).pr (L.getD i e0).c (L.getD i e0).bw = true) ∧ L.length ≤ 60 ∧ L.Pairwise ltE := by
 unfold ribB tabB at h; simp only [Bool.and_eq_true, decide_eq_true_eq] at h; refine ⟨h.2.1, by omega, pairwise_of_next e0 ltE ltE_trans L fun i hi => ?_⟩; have := h.2.2 i hi; unfold upE at this
 exact ecmp_lt.1 this
theorem rib_attr {L : List Ent} (h : ribB L = true) : ∀ i, i < L.length → aokB (L.getD i e0).p (L.getD i e0).pr (L.getD i e0).c (L.getD i e0).bw = true := fun i hi => by
 have := (rib_ok h).1 i hi; unfold entB at this; simp only [Bool.and_eq_true] at this
 exact this.2.2
theorem rib_peer {L : List Ent} (h : ribB L = true) : ∀ i, i < L.length → -1 ≤ (L.getD i e0).pe := fun i hi => by
 have := (rib_ok h).1 i hi; unfold entB inB at this; simp only [Bool.and_eq_true, decide_eq_true_eq] at this
 exact this.2.1.1
theorem mem_get {L : List Ent} {E : Ent} (h : E ∈ L) : ∃ i, i < L.length ∧ L.getD i e0 = E := by
 obtain ⟨i, hi, e⟩ := List.mem_iff_getElem.1 h
 exact ⟨i, hi, by rw [List.getD_eq_getElem?_getD, List.getElem?_eq_getElem hi]; exact e⟩
theorem pfx_sorted {l : List (Int × Int)} (h : pfxB l = true) : l.Pairwise ltP := by
 unfold pfxB at h; simp only [decide_eq_true_eq] at h; refine pairwise_of_next (0, 0) ltP (fun _ _ _ => ltP_trans) l fun i hi => ?_
 have := h.2 i hi; unfold upAt at this
 exact cmp2_lt8.1 this
set_option maxHeartbeats 8000000 in
theorem indok_any (ov rv sv : Value) (N : Nd) (w : World) (h : RdN w ov rv sv N) :
  Calls Tryz.prog 81 #[.agg #[.int .i64 N.an, ov, .int .i64 N.bw, .bool N.dr, rv, sv]] w fun e w' => e = .returned (.bool (ndB N)) ∧ Below w.heap.size w w' := by
 obtain ⟨bA, B0, z⟩ := one w [.int .i64 N.an, ov, .int .i64 N.bw, .bool N.dr, rv, sv] 58; replace h := h.keep B0; obtain ⟨hO, hR, hS⟩ := h; obtain ⟨V, hV⟩ : ∃ V, V = w.alloc (.cells #[.int .i64 N.an, ov, .int .i64 N.bw, .bool N.dr, rv, sv] 58) := ⟨_, rfl⟩; rw [← hV] at bA B0 hO hR hS; clear z; unfold ndB; cases hAA : asB N.an
 ·rw [Bool.false_and]
  have HA := Lib.hid hAA; clear hAA
  go_enter Tryz.func81, Tryz.ntmps81
  go_wp2_with fail; rw [← hV]; clear hV; refine wp_region_class (C := Over (V)) (by kernel_rfl) (by kernel_rfl) (over_drew _) ?_
  repeat (first | go_big_quiet_skip | (go_big_quiet_want; go_big_quiet_op; go_big_quiet_on) | (go_big_quiet_want; go_big_quiet_op; apply Exists.intro; refine ⟨fun w' hC => ?_, ?_⟩; ((first | (go_at_call 132; refine (numok8 _ HA).mono ?_; rintro e w1 ⟨rfl, rfl⟩; exact ⟨rfl, hC⟩))); go_big_quiet_on) | (go_big_quiet_want; apply Exists.intro; refine ⟨fun w' hC => ?_, ?_⟩; (have k0 := over_cell hC bA.lt (bA.c 0 rfl); have k1 := over_cell hC bA.lt (bA.c 1 rfl); have k2 := over_cell hC bA.lt (bA.c 2 rfl); have k3 := over_cell hC bA.lt (bA.c 3 rfl); have k4 := over_cell hC bA.lt (bA.c 4 rfl); have k5 := over_cell hC bA.lt (bA.c 5 rfl); simp [Oper.quietAt, Oper.quietUpon, go_sem, k0, k1, k2, k3, k4, k5]; first | done | rfl); go_big_quiet_on; simp only [Act.put, setIfInBounds_toArray, set_cons_succ, set_cons_zero]))
  refine wpQuiet_nil ?_; intro wr hC; have k0 := over_cell hC bA.lt (bA.c 0 rfl); have k1 := over_cell hC bA.lt (bA.c 1 rfl); have k2 := over_cell hC bA.lt (bA.c 2 rfl); have k3 := over_cell hC bA.lt (bA.c 3 rfl); have k4 := over_cell hC bA.lt (bA.c 4 rfl); have k5 := over_cell hC bA.lt (bA.c 5 rfl); go_wp2
  go_ret
  exact ⟨rfl, over_step B0 hC⟩
 ·rw [Bool.true_and]
  have HA := Lib.hid hAA; clear hAA; cases hOO : (decide ((N.own.length : Int) ≤ 2) && pfxB N.own)
  ·rw [Bool.false_and]
   have HO := Lib.hid hOO; clear hOO
   go_enter Tryz.func81, Tryz.ntmps81
   go_wp2_with fail; rw [← hV]; clear hV; refine wp_region_class (C := Over (V)) (by kernel_rfl) (by kernel_rfl) (over_drew _) ?_
   repeat (first | go_big_quiet_skip | (go_big_quiet_want; go_big_quiet_op; go_big_quiet_on) | (go_big_quiet_want; go_big_quiet_op; apply Exists.intro; refine ⟨fun w' hC => ?_, ?_⟩; ((first | (go_at_call 132; refine (numok8 _ HA).mono ?_; rintro e w1 ⟨rfl, rfl⟩; exact ⟨rfl, hC⟩) | (go_at_call 133; refine (ipfx8 _ (hO.keep hC) HO).mono ?_; rintro e w1 ⟨rfl, hb1⟩; exact ⟨rfl, over_step hC hb1⟩))); go_big_quiet_on) | (go_big_quiet_want; apply Exists.intro; refine ⟨fun w' hC => ?_, ?_⟩; (have k0 := over_cell hC bA.lt (bA.c 0 rfl); have k1 := over_cell hC bA.lt (bA.c 1 rfl); have k2 := over_cell hC bA.lt (bA.c 2 rfl); have k3 := over_cell hC bA.lt (bA.c 3 rfl); have k4 := over_cell hC bA.lt (bA.c 4 rfl); have k5 := over_cell hC bA.lt (bA.c 5 rfl); simp [Oper.quietAt, Oper.quietUpon, go_sem, k0, k1, k2, k3, k4, k5]; first | done | rfl); go_big_quiet_on; simp only [Act.put, setIfInBounds_toArray, set_cons_succ, set_cons_zero]))
   refine wpQuiet_nil ?_; intro wr hC; have k0 := over_cell hC bA.lt (bA.c 0 rfl); have k1 := over_cell hC bA.lt (bA.c 1 rfl); have k2 := over_cell hC bA.lt (bA.c 2 rfl); have k3 := over_cell hC bA.lt (bA.c 3 rfl); have k4 := over_cell hC bA.lt (bA.c 4 rfl); have k5 := over_cell hC bA.lt (bA.c 5 rfl); go_wp2
   go_ret
   exact ⟨rfl, over_step B0 hC⟩
  ·rw [Bool.true_and]
   have HO := Lib.hid hOO; clear hOO; cases hBB : inB N.bw 0 1000
   ·rw [Bool.false_and]
    have HB := Lib.hid hBB; clear hBB
    go_enter Tryz.func81, Tryz.ntmps81
    go_wp2_with fail; rw [← hV]; clear hV; refine wp_region_class (C := Over (V)) (by kernel_rfl) (by kernel_rfl) (over_drew _) ?_
    repeat (first | go_big_quiet_skip | (go_big_quiet_want; go_big_quiet_op; go_big_quiet_on) | (go_big_quiet_want; go_big_quiet_op; apply Exists.intro; refine ⟨fun w' hC => ?_, ?_⟩; ((first | (go_at_call 132; refine (numok8 _ HA).mono ?_; rintro e w1 ⟨rfl, rfl⟩; exact ⟨rfl, hC⟩) | (go_at_call 133; refine (ipfx8 _ (hO.keep hC) HO).mono ?_; rintro e w1 ⟨rfl, hb1⟩; exact ⟨rfl, over_step hC hb1⟩) | (go_at_call 51; refine (within8 _ HB).mono ?_; rintro e w1 ⟨rfl, rfl⟩; exact ⟨rfl, hC⟩))); go_big_quiet_on) | (go_big_quiet_want; apply Exists.intro; refine ⟨fun w' hC => ?_, ?_⟩; (have k0 := over_cell hC bA.lt (bA.c 0 rfl); have k1 := over_cell hC bA.lt (bA.c 1 rfl); have k2 := over_cell hC bA.lt (bA.c 2 rfl); have k3 := over_cell hC bA.lt (bA.c 3 rfl); have k4 := over_cell hC bA.lt (bA.c 4 rfl); have k5 := over_cell hC bA.lt (bA.c 5 rfl); simp [Oper.quietAt, Oper.quietUpon, go_sem, k0, k1, k2, k3, k4, k5]; first | done | rfl); go_big_quiet_on; simp only [Act.put, setIfInBounds_toArray, set_cons_succ, set_cons_zero]))
    refine wpQuiet_nil ?_; intro wr hC; have k0 := over_cell hC bA.lt (bA.c 0 rfl); have k1 := over_cell hC bA.lt (bA.c 1 rfl); have k2 := over_cell hC bA.lt (bA.c 2 rfl); have k3 := over_cell hC bA.lt (bA.c 3 rfl); have k4 := over_cell hC bA.lt (bA.c 4 rfl); have k5 := over_cell hC bA.lt (bA.c 5 rfl); go_wp2
    go_ret
    exact ⟨rfl, over_step B0 hC⟩
   ·rw [Bool.true_and]
    have HB := Lib.hid hBB; clear hBB; cases hRR : ribB N.rib
    ·rw [Bool.false_and]
     have HR := Lib.hid hRR; clear hRR
     go_enter Tryz.func81, Tryz.ntmps81
     go_wp2_with fail; rw [← hV]; clear hV; refine wp_region_class (C := Over (V)) (by kernel_rfl) (by kernel_rfl) (over_drew _) ?_
     repeat (first | go_big_quiet_skip | (go_big_quiet_want; go_big_quiet_op; go_big_quiet_on) | (go_big_quiet_want; go_big_quiet_op; apply Exists.intro; refine ⟨fun w' hC => ?_, ?_⟩; ((first | (go_at_call 132; refine (numok8 _ HA).mono ?_; rintro e w1 ⟨rfl, rfl⟩; exact ⟨rfl, hC⟩) | (go_at_call 133; refine (ipfx8 _ (hO.keep hC) HO).mono ?_; rintro e w1 ⟨rfl, hb1⟩; exact ⟨rfl, over_step hC hb1⟩) | (go_at_call 51; refine (within8 _ HB).mono ?_; rintro e w1 ⟨rfl, rfl⟩; exact ⟨rfl, hC⟩) | (go_at_call_of 134 (Value.agg #[rv]); refine (irib_t _ (hR.keep hC) HR).mono ?_; rintro e w1 ⟨rfl, hb1⟩; exact ⟨rfl, over_step hC hb1⟩))); go_big_quiet_on) | (go_big_quiet_want; apply Exists.intro; refine ⟨fun w' hC => ?_, ?_⟩; (have k0 := over_cell hC bA.lt (bA.c 0 rfl); have k1 := over_cell hC bA.lt (bA.c 1 rfl); have k2 := over_cell hC bA.lt (bA.c 2 rfl); have k3 := over_cell hC bA.lt (bA.c 3 rfl); have k4 := over_cell hC bA.lt (bA.c 4 rfl); have k5 := over_cell hC bA.lt (bA.c 5 rfl); simp [Oper.quietAt, Oper.quietUpon, go_sem, k0, k1, k2, k3, k4, k5]; first | done | rfl); go_big_quiet_on; simp only [Act.put, setIfInBounds_toArray, set_cons_succ, set_cons_zero]))
     refine wpQuiet_nil ?_; intro wr hC; have k0 := over_cell hC bA.lt (bA.c 0 rfl); have k1 := over_cell hC bA.lt (bA.c 1 rfl); have k2 := over_cell hC bA.lt (bA.c 2 rfl); have k3 := over_cell hC bA.lt (bA.c 3 rfl); have k4 := over_cell hC bA.lt (bA.c 4 rfl); have k5 := over_cell hC bA.lt (bA.c 5 rfl); go_wp2
     go_ret
     exact ⟨rfl, over_step B0 hC⟩
    ·rw [Bool.true_and]
     have HR := Lib.hid hRR; clear hRR; cases hSS : ribB N.sent
     ·rw [Bool.false_and]
      have HS := Lib.hid hSS; clear hSS
      go_enter Tryz.func81, Tryz.ntmps81
      go_wp2_with fail; rw [← hV]; clear hV; refine wp_region_class (C := Over (V)) (by kernel_rfl) (by kernel_rfl) (over_drew _) ?_
      repeat (first | go_big_quiet_skip | (go_big_quiet_want; go_big_quiet_op; go_big_quiet_on) | (go_big_quiet_want; go_big_quiet_op; apply Exists.intro; refine ⟨fun w' hC => ?_, ?_⟩; ((first | (go_at_call 132; refine (numok8 _ HA).mono ?_; rintro e w1 ⟨rfl, rfl⟩; exact ⟨rfl, hC⟩) | (go_at_call 133; refine (ipfx8 _ (hO.keep hC) HO).mono ?_; rintro e w1 ⟨rfl, hb1⟩; exact ⟨rfl, over_step hC hb1⟩) | (go_at_call 51; refine (within8 _ HB).mono ?_; rintro e w1 ⟨rfl, rfl⟩; exact ⟨rfl, hC⟩) | (go_at_call_of 134 (Value.agg #[rv]); refine (irib_t _ (hR.keep hC) HR).mono ?_; rintro e w1 ⟨rfl, hb1⟩; exact ⟨rfl, over_step hC hb1⟩) | (go_at_call_of 134 (Value.agg #[sv]); refine (irib_t _ (hS.keep hC) HS).mono ?_; rintro e w1 ⟨rfl, hb1⟩; exact ⟨rfl, over_step hC hb1⟩))); go_big_quiet_on) | (go_big_quiet_want; apply Exists.intro; refine ⟨fun w' hC => ?_, ?_⟩; (have k0 := over_cell hC bA.lt (bA.c 0 rfl); have k1 := over_cell hC bA.lt (bA.c 1 rfl); have k2 := over_cell hC bA.lt (bA.c 2 rfl); have k3 := over_cell hC bA.lt (bA.c 3 rfl); have k4 := over_cell hC bA.lt (bA.c 4 rfl); have k5 := over_cell hC bA.lt (bA.c 5 rfl); simp [Oper.quietAt, Oper.quietUpon, go_sem, k0, k1, k2, k3, k4, k5]; first | done | rfl); go_big_quiet_on; simp only [Act.put, setIfInBounds_toArray, set_cons_succ, set_cons_zero]))
      refine wpQuiet_nil ?_; intro wr hC; have k0 := over_cell hC bA.lt (bA.c 0 rfl); have k1 := over_cell hC bA.lt (bA.c 1 rfl); have k2 := over_cell hC bA.lt (bA.c 2 rfl); have k3 := over_cell hC bA.lt (bA.c 3 rfl); have k4 := over_cell hC bA.lt (bA.c 4 rfl); have k5 := over_cell hC bA.lt (bA.c 5 rfl); go_wp2
      go_ret
      exact ⟨rfl, over_step B0 hC⟩
     ·rw [Bool.true_and]
      have HS := Lib.hid hSS; clear hSS; have HLR : Hid (N.rib.length ≤ 1048576) := Lib.hid (by have := (rib_ok HR.out).2.1; omega); have HVR := Lib.hid (rib_attr HR.out); have eo : ownL N.rib = pfx (N.rib.filter fun F => F.pe == -1) := rfl; rw [eo]; clear eo; cases hE : decide (pfx (N.rib.filter fun F => F.pe == -1) = N.own)
      ·rw [Bool.false_and]
       have HE := Lib.hid hE; clear hE
       go_enter Tryz.func81, Tryz.ntmps81
       go_wp2_with fail; rw [← hV]; clear hV; refine wp_region_held_drew (S := fun w' => Over V w') (by kernel_rfl) (over_drew V) (fun hHeld => ?_); obtain ⟨u0, e0'⟩ : ∃ u, u = V.drew := ⟨_, rfl⟩; have O : Over V u0 := by rw [e0']; exact over_drew V
       rw [← e0']; clear e0' hHeld; refine tk 0 3 (v := ?_) O ?_ ?_; rotate_left
       ·intro wq hSq
        go_simp
        try rfl
       simp only [Act.put, setIfInBounds_toArray, set_cons_succ, set_cons_zero]; refine tk 1 4 (v := ?_) O ?_ ?_; rotate_left
       ·intro wq hSq
        have q0 := over_cell hSq bA.lt (bA.c 0 rfl)
        go_simp
        try rfl
       simp only [Act.put, setIfInBounds_toArray, set_cons_succ, set_cons_zero]; refine rd1 2 fun K hK => ?_
       go_simp
       refine (numok8 _ HA).mono ?_; rintro e wn ⟨rfl, rfl⟩; refine hK.out _ _ O (fun _ => ?_); clear hK K
       try simp only [Act.put, setIfInBounds_toArray, set_cons_succ, set_cons_zero]
       refine tk 3 6 (v := ?_) O ?_ ?_; rotate_left
       ·intro wq hSq
        go_simp
        try rfl
       simp only [Act.put, setIfInBounds_toArray, set_cons_succ, set_cons_zero]; refine tk 4 7 (v := ?_) O ?_ ?_; rotate_left
       ·intro wq hSq
        go_simp
        try rfl
       simp only [Act.put, setIfInBounds_toArray, set_cons_succ, set_cons_zero]; refine tk 5 8 (v := ?_) O ?_ ?_; rotate_left
       ·intro wq hSq
        have q1 := over_cell hSq bA.lt (bA.c 1 rfl)
        go_simp
        try rfl
       simp only [Act.put, setIfInBounds_toArray, set_cons_succ, set_cons_zero]; refine rd1 6 fun K hK => ?_
       go_simp
       refine (ipfx8 _ (hO.keep O) HO).mono ?_; rintro e wn ⟨rfl, hb⟩; replace O := over_step O hb; clear hb; refine hK.out _ _ O (fun _ => ?_); clear hK K
       try simp only [Act.put, setIfInBounds_toArray, set_cons_succ, set_cons_zero]
       refine tk 7 10 (v := ?_) O ?_ ?_; rotate_left
       ·intro wq hSq
        go_simp
        try rfl
       simp only [Act.put, setIfInBounds_toArray, set_cons_succ, set_cons_zero]; refine tk 8 11 (v := ?_) O ?_ ?_; rotate_left
       ·intro wq hSq
        go_simp
        try rfl
       simp only [Act.put, setIfInBounds_toArray, set_cons_succ, set_cons_zero]; refine tk 9 12 (v := ?_) O ?_ ?_; rotate_left
       ·intro wq hSq
        go_simp
        try rfl
       simp only [Act.put, setIfInBounds_toArray, set_cons_succ, set_cons_zero]; refine tk 10 13 (v := ?_) O ?_ ?_; rotate_left
       ·intro wq hSq
        have q2 := over_cell hSq bA.lt (bA.c 2 rfl)
        go_simp
        try rfl
       simp only [Act.put, setIfInBounds_toArray, set_cons_succ, set_cons_zero]; refine rd1 11 fun K hK => ?_
       go_simp
       refine (within8 _ HB).mono ?_; rintro e wn ⟨rfl, rfl⟩; refine hK.out _ _ O (fun _ => ?_); clear hK K
       try simp only [Act.put, setIfInBounds_toArray, set_cons_succ, set_cons_zero]
       refine tk 12 15 (v := ?_) O ?_ ?_; rotate_left
       ·intro wq hSq
        go_simp
        try rfl
       simp only [Act.put, setIfInBounds_toArray, set_cons_succ, set_cons_zero]; refine tk 13 16 (v := ?_) O ?_ ?_; rotate_left
       ·intro wq hSq
        go_simp
        try rfl
       simp only [Act.put, setIfInBounds_toArray, set_cons_succ, set_cons_zero]; refine tk 14 17 (v := ?_) O ?_ ?_; rotate_left
       ·intro wq hSq
        go_simp
        try rfl
       simp only [Act.put, setIfInBounds_toArray, set_cons_succ, set_cons_zero]; refine tk 15 18 (v := ?_) O ?_ ?_; rotate_left
       ·intro wq hSq
        have q4 := over_cell hSq bA.lt (bA.c 4 rfl)
        go_simp
        try rfl
       simp only [Act.put, setIfInBounds_toArray, set_cons_succ, set_cons_zero]; refine rd1 16 fun K hK => ?_
       go_simp
       refine (irib_t _ (hR.keep O) HR).mono ?_; rintro e wn ⟨rfl, hb⟩; replace O := over_step O hb; clear hb; refine hK.out _ _ O (fun _ => ?_); clear hK K
       try simp only [Act.put, setIfInBounds_toArray, set_cons_succ, set_cons_zero]
       refine tk 17 20 (v := ?_) O ?_ ?_; rotate_left
       ·intro wq hSq
        go_simp
        try rfl
       simp only [Act.put, setIfInBounds_toArray, set_cons_succ, set_cons_zero]; refine tk 18 21 (v := ?_) O ?_ ?_; rotate_left
       ·intro wq hSq
        go_simp
        try rfl
       simp only [Act.put, setIfInBounds_toArray, set_cons_succ, set_cons_zero]; refine tk 19 22 (v := ?_) O ?_ ?_; rotate_left
       ·intro wq hSq
        go_simp
        try rfl
       simp only [Act.put, setIfInBounds_toArray, set_cons_succ, set_cons_zero]; refine tk 20 23 (v := ?_) O ?_ ?_; rotate_left
       ·intro wq hSq
        have q5 := over_cell hSq bA.lt (bA.c 5 rfl)
        go_simp
        try rfl
       simp only [Act.put, setIfInBounds_toArray, set_cons_succ, set_cons_zero]; refine rd1 21 fun K hK => ?_
       go_simp
       refine (irib_t _ (hS.keep O) HS).mono ?_; rintro e wn ⟨rfl, hb⟩; replace O := over_step O hb; clear hb; refine hK.out _ _ O (fun _ => ?_); clear hK K
       try simp only [Act.put, setIfInBounds_toArray, set_cons_succ, set_cons_zero]
       refine tk 22 25 (v := ?_) O ?_ ?_; rotate_left
       ·intro wq hSq
        go_simp
        try rfl
       simp only [Act.put, setIfInBounds_toArray, set_cons_succ, set_cons_zero]; refine tk 23 26 (v := ?_) O ?_ ?_; rotate_left
       ·intro wq hSq
        go_simp
        try rfl
       simp only [Act.put, setIfInBounds_toArray, set_cons_succ, set_cons_zero]; refine tk 24 27 (v := ?_) O ?_ ?_; rotate_left
       ·intro wq hSq
        go_simp
        try rfl
       simp only [Act.put, setIfInBounds_toArray, set_cons_succ, set_cons_zero]; refine tk 25 28 (v := ?_) O ?_ ?_; rotate_left
       ·intro wq hSq
        have q4 := over_cell hSq bA.lt (bA.c 4 rfl)
        go_simp
        try rfl
       simp only [Act.put, setIfInBounds_toArray, set_cons_succ, set_cons_zero]; refine tk 27 30 (v := ?_) O ?_ ?_; rotate_left
       ·intro wq hSq
        go_simp
        try rfl
       simp only [Act.put, setIfInBounds_toArray, set_cons_succ, set_cons_zero]; refine tk 28 31 (v := ?_) O ?_ ?_; rotate_left
       ·intro wq hSq
        have q1 := over_cell hSq bA.lt (bA.c 1 rfl)
        go_simp
        try rfl
       simp only [Act.put, setIfInBounds_toArray, set_cons_succ, set_cons_zero]; refine rd1 26 fun K hK => ?_
       go_simp
       refine (ifr_any rv N.rib (-1) _ (hR.keep O) HLR.out).mono ?_; rintro e wn ⟨u, rfl, hu, hb⟩; replace O := over_step O hb; clear hb; refine hK.out _ _ O (fun _ => ?_); clear hK K
       try simp only [Act.put, setIfInBounds_toArray, set_cons_succ, set_cons_zero]
       replace hu := hu.rd; obtain ⟨ua, uc, rfl⟩ := hu.len; refine rd1 29 fun K hK => ?_
       go_simp
       refine (slL_t _ (hu.keep (Below.refl _ _)) (hO.keep O) HE).mono ?_; rintro e wn ⟨rfl, hb⟩; replace O := over_step O hb; clear hb; refine hK.out _ _ O (fun _ => ?_); clear hK K
       try simp only [Act.put, setIfInBounds_toArray, set_cons_succ, set_cons_zero]
       refine tk 30 33 (v := ?_) O ?_ ?_; rotate_left
       ·intro wq hSq
        go_simp
        try rfl
       simp only [Act.put, setIfInBounds_toArray, set_cons_succ, set_cons_zero]; refine tk 31 34 (v := ?_) O ?_ ?_; rotate_left
       ·intro wq hSq
        go_simp
        try rfl
       simp only [Act.put, setIfInBounds_toArray, set_cons_succ, set_cons_zero]; refine wpAnyH_take (i := 32) (v := undef) rfl (by kernel_rfl) (by kernel_rfl) (by kernel_rfl) (fun _ _ _ h => h) (Or.inr ⟨by rfl, by rfl⟩) O ?_
       change wpAnyH _ _ _ _ _ _ _ (Act.put _ (some 35) _) _
       simp only [Act.put, setIfInBounds_toArray, set_cons_succ, set_cons_zero]; refine wpAnyH_take (i := 33) (v := undef) rfl (by kernel_rfl) (by kernel_rfl) (by kernel_rfl) (fun _ _ _ h => h) (Or.inr ⟨by rfl, by rfl⟩) O ?_
       change wpAnyH _ _ _ _ _ _ _ (Act.put _ (some 36) _) _
       simp only [Act.put, setIfInBounds_toArray, set_cons_succ, set_cons_zero]; refine wpAnyH_take (i := 34) (v := undef) rfl (by kernel_rfl) (by kernel_rfl) (by kernel_rfl) (fun _ _ _ h => h) (Or.inr ⟨by rfl, by rfl⟩) O ?_
       change wpAnyH _ _ _ _ _ _ _ (Act.put _ (some 37) _) _
       simp only [Act.put, setIfInBounds_toArray, set_cons_succ, set_cons_zero]; refine wpAnyH_take (i := 35) (v := undef) rfl (by kernel_rfl) (by kernel_rfl) (by kernel_rfl) (fun _ _ _ h => h) (Or.inr ⟨by rfl, by rfl⟩) O ?_
       change wpAnyH _ _ _ _ _ _ _ (Act.put _ (some 38) _) _
       simp only [Act.put, setIfInBounds_toArray, set_cons_succ, set_cons_zero]; refine wpAnyH_take (i := 36) (v := undef) rfl (by kernel_rfl) (by kernel_rfl) (by kernel_rfl) (fun _ _ _ h => h) (Or.inr ⟨by rfl, by rfl⟩) O ?_
       change wpAnyH _ _ _ _ _ _ _ (Act.put _ (some 39) _) _
       simp only [Act.put, setIfInBounds_toArray, set_cons_succ, set_cons_zero]; refine wpAnyH_take (i := 37) (v := undef) rfl (by kernel_rfl) (by kernel_rfl) (by kernel_rfl) (fun _ _ _ h => h) (Or.inr ⟨by rfl, by rfl⟩) O ?_
       change wpAnyH _ _ _ _ _ _ _ (Act.put _ (some 40) _) _
       simp only [Act.put, setIfInBounds_toArray, set_cons_succ, set_cons_zero]; refine tk 38 41 (v := ?_) O ?_ ?_; rotate_left
       ·intro wq hSq
        go_simp
        try rfl
       simp only [Act.put, setIfInBounds_toArray, set_cons_succ, set_cons_zero]; refine tk 39 42 (v := ?_) O ?_ ?_; rotate_left
       ·intro wq hSq
        go_simp
        try rfl
       simp only [Act.put, setIfInBounds_toArray, set_cons_succ, set_cons_zero]; refine wpAnyH_take (i := 40) (v := undef) rfl (by kernel_rfl) (by kernel_rfl) (by kernel_rfl) (fun _ _ _ h => h) (Or.inr ⟨by rfl, by rfl⟩) O ?_
       change wpAnyH _ _ _ _ _ _ _ (Act.put _ (some 43) _) _
       simp only [Act.put, setIfInBounds_toArray, set_cons_succ, set_cons_zero]; refine wpAnyH_take (i := 41) (v := undef) rfl (by kernel_rfl) (by kernel_rfl) (by kernel_rfl) (fun _ _ _ h => h) (Or.inr ⟨by rfl, by rfl⟩) O ?_
       change wpAnyH _ _ _ _ _ _ _ (Act.put _ (some 44) _) _
       simp only [Act.put, setIfInBounds_toArray, set_cons_succ, set_cons_zero]; refine wpAnyH_take (i := 42) (v := undef) rfl (by kernel_rfl) (by kernel_rfl) (by kernel_rfl) (fun _ _ _ h => h) (Or.inr ⟨by rfl, by rfl⟩) O ?_
       change wpAnyH _ _ _ _ _ _ _ (Act.put _ (some 45) _) _
       simp only [Act.put, setIfInBounds_toArray, set_cons_succ, set_cons_zero]; refine wpAnyH_take (i := 43) (v := undef) rfl (by kernel_rfl) (by kernel_rfl) (by kernel_rfl) (fun _ _ _ h => h) (Or.inr ⟨by rfl, by rfl⟩) O ?_
       change wpAnyH _ _ _ _ _ _ _ (Act.put _ (some 46) _) _
       simp only [Act.put, setIfInBounds_toArray, set_cons_succ, set_cons_zero]; refine tk 44 47 (v := ?_) O ?_ ?_; rotate_left
       ·intro wq hSq
        go_simp
        try rfl
       simp only [Act.put, setIfInBounds_toArray, set_cons_succ, set_cons_zero]; refine rd1 45 fun K hK => ?_
       go_simp
       refine hK.out _ _ O (fun _ => ?_); clear hK K
       try simp only [Act.put, setIfInBounds_toArray, set_cons_succ, set_cons_zero]
       refine wpAnyH_done (by kernel_rfl) ?_ _; go_wp2
       go_ret
       exact ⟨rfl, over_step B0 O⟩
      ·rw [Bool.true_and]
       have HE := Lib.hid hE; clear hE; cases hK : N.rib.all fun E => knowB N.an N.bw E
       ·rw [Bool.false_and]
        have HK := Lib.hid hK; clear hK
        go_enter Tryz.func81, Tryz.ntmps81
        go_wp2_with fail; rw [← hV]; clear hV; refine wp_region_held_drew (S := fun w' => Over V w') (by kernel_rfl) (over_drew V) (fun hHeld => ?_); obtain ⟨u0, e0'⟩ : ∃ u, u = V.drew := ⟨_, rfl⟩; have O : Over V u0 := by rw [e0']; exact over_drew V
        rw [← e0']; clear e0' hHeld; refine tk 0 3 (v := ?_) O ?_ ?_; rotate_left
        ·intro wq hSq
         go_simp
         try rfl
        simp only [Act.put, setIfInBounds_toArray, set_cons_succ, set_cons_zero]; refine tk 1 4 (v := ?_) O ?_ ?_; rotate_left
        ·intro wq hSq
         have q0 := over_cell hSq bA.lt (bA.c 0 rfl)
         go_simp
         try rfl
        simp only [Act.put, setIfInBounds_toArray, set_cons_succ, set_cons_zero]; refine rd1 2 fun K hK => ?_
        go_simp
        refine (numok8 _ HA).mono ?_; rintro e wn ⟨rfl, rfl⟩; refine hK.out _ _ O (fun _ => ?_); clear hK K
        try simp only [Act.put, setIfInBounds_toArray, set_cons_succ, set_cons_zero]
        refine tk 3 6 (v := ?_) O ?_ ?_; rotate_left
        ·intro wq hSq
         go_simp
         try rfl
        simp only [Act.put, setIfInBounds_toArray, set_cons_succ, set_cons_zero]; refine tk 4 7 (v := ?_) O ?_ ?_; rotate_left
        ·intro wq hSq
         go_simp
         try rfl
        simp only [Act.put, setIfInBounds_toArray, set_cons_succ, set_cons_zero]; refine tk 5 8 (v := ?_) O ?_ ?_; rotate_left
        ·intro wq hSq
         have q1 := over_cell hSq bA.lt (bA.c 1 rfl)
         go_simp
         try rfl
        simp only [Act.put, setIfInBounds_toArray, set_cons_succ, set_cons_zero]; refine rd1 6 fun K hK => ?_
        go_simp
        refine (ipfx8 _ (hO.keep O) HO).mono ?_; rintro e wn ⟨rfl, hb⟩; replace O := over_step O hb; clear hb; refine hK.out _ _ O (fun _ => ?_); clear hK K
        try simp only [Act.put, setIfInBounds_toArray, set_cons_succ, set_cons_zero]
        refine tk 7 10 (v := ?_) O ?_ ?_; rotate_left
        ·intro wq hSq
         go_simp
         try rfl
        simp only [Act.put, setIfInBounds_toArray, set_cons_succ, set_cons_zero]; refine tk 8 11 (v := ?_) O ?_ ?_; rotate_left
        ·intro wq hSq
         go_simp
         try rfl
        simp only [Act.put, setIfInBounds_toArray, set_cons_succ, set_cons_zero]; refine tk 9 12 (v := ?_) O ?_ ?_; rotate_left
        ·intro wq hSq
         go_simp
         try rfl
        simp only [Act.put, setIfInBounds_toArray, set_cons_succ, set_cons_zero]; refine tk 10 13 (v := ?_) O ?_ ?_; rotate_left
        ·intro wq hSq
         have q2 := over_cell hSq bA.lt (bA.c 2 rfl)
         go_simp
         try rfl
        simp only [Act.put, setIfInBounds_toArray, set_cons_succ, set_cons_zero]; refine rd1 11 fun K hK => ?_
        go_simp
        refine (within8 _ HB).mono ?_; rintro e wn ⟨rfl, rfl⟩; refine hK.out _ _ O (fun _ => ?_); clear hK K
        try simp only [Act.put, setIfInBounds_toArray, set_cons_succ, set_cons_zero]
        refine tk 12 15 (v := ?_) O ?_ ?_; rotate_left
        ·intro wq hSq
         go_simp
         try rfl
        simp only [Act.put, setIfInBounds_toArray, set_cons_succ, set_cons_zero]; refine tk 13 16 (v := ?_) O ?_ ?_; rotate_left
        ·intro wq hSq
         go_simp
         try rfl
        simp only [Act.put, setIfInBounds_toArray, set_cons_succ, set_cons_zero]; refine tk 14 17 (v := ?_) O ?_ ?_; rotate_left
        ·intro wq hSq
         go_simp
         try rfl
        simp only [Act.put, setIfInBounds_toArray, set_cons_succ, set_cons_zero]; refine tk 15 18 (v := ?_) O ?_ ?_; rotate_left
        ·intro wq hSq
         have q4 := over_cell hSq bA.lt (bA.c 4 rfl)
         go_simp
         try rfl
        simp only [Act.put, setIfInBounds_toArray, set_cons_succ, set_cons_zero]; refine rd1 16 fun K hK => ?_
        go_simp
        refine (irib_t _ (hR.keep O) HR).mono ?_; rintro e wn ⟨rfl, hb⟩; replace O := over_step O hb; clear hb; refine hK.out _ _ O (fun _ => ?_); clear hK K
        try simp only [Act.put, setIfInBounds_toArray, set_cons_succ, set_cons_zero]
        refine tk 17 20 (v := ?_) O ?_ ?_; rotate_left
        ·intro wq hSq
         go_simp
         try rfl
        simp only [Act.put, setIfInBounds_toArray, set_cons_succ, set_cons_zero]; refine tk 18 21 (v := ?_) O ?_ ?_; rotate_left
        ·intro wq hSq
         go_simp
         try rfl
        simp only [Act.put, setIfInBounds_toArray, set_cons_succ, set_cons_zero]; refine tk 19 22 (v := ?_) O ?_ ?_; rotate_left
        ·intro wq hSq
         go_simp
         try rfl
        simp only [Act.put, setIfInBounds_toArray, set_cons_succ, set_cons_zero]; refine tk 20 23 (v := ?_) O ?_ ?_; rotate_left
        ·intro wq hSq
         have q5 := over_cell hSq bA.lt (bA.c 5 rfl)
         go_simp
         try rfl
        simp only [Act.put, setIfInBounds_toArray, set_cons_succ, set_cons_zero]; refine rd1 21 fun K hK => ?_
        go_simp
        refine (irib_t _ (hS.keep O) HS).mono ?_; rintro e wn ⟨rfl, hb⟩; replace O := over_step O hb; clear hb; refine hK.out _ _ O (fun _ => ?_); clear hK K
        try simp only [Act.put, setIfInBounds_toArray, set_cons_succ, set_cons_zero]
        refine tk 22 25 (v := ?_) O ?_ ?_; rotate_left
        ·intro wq hSq
         go_simp
         try rfl
        simp only [Act.put, setIfInBounds_toArray, set_cons_succ, set_cons_zero]; refine tk 23 26 (v := ?_) O ?_ ?_; rotate_left
        ·intro wq hSq
         go_simp
         try rfl
        simp only [Act.put, setIfInBounds_toArray, set_cons_succ, set_cons_zero]; refine tk 24 27 (v := ?_) O ?_ ?_; rotate_left
        ·intro wq hSq
         go_simp
         try rfl
        simp only [Act.put, setIfInBounds_toArray, set_cons_succ, set_cons_zero]; refine tk 25 28 (v := ?_) O ?_ ?_; rotate_left
        ·intro wq hSq
         have q4 := over_cell hSq bA.lt (bA.c 4 rfl)
         go_simp
         try rfl
        simp only [Act.put, setIfInBounds_toArray, set_cons_succ, set_cons_zero]; refine tk 27 30 (v := ?_) O ?_ ?_; rotate_left
        ·intro wq hSq
         go_simp
         try rfl
        simp only [Act.put, setIfInBounds_toArray, set_cons_succ, set_cons_zero]; refine tk 28 31 (v := ?_) O ?_ ?_; rotate_left
        ·intro wq hSq
         have q1 := over_cell hSq bA.lt (bA.c 1 rfl)
         go_simp
         try rfl
        simp only [Act.put, setIfInBounds_toArray, set_cons_succ, set_cons_zero]; refine rd1 26 fun K hK => ?_
        go_simp
        refine (ifr_any rv N.rib (-1) _ (hR.keep O) HLR.out).mono ?_; rintro e wn ⟨u, rfl, hu, hb⟩; replace O := over_step O hb; clear hb; refine hK.out _ _ O (fun _ => ?_); clear hK K
        try simp only [Act.put, setIfInBounds_toArray, set_cons_succ, set_cons_zero]
        replace hu := hu.rd; obtain ⟨ua, uc, rfl⟩ := hu.len; refine rd1 29 fun K hK => ?_
        go_simp
        refine (slL_t _ (hu.keep (Below.refl _ _)) (hO.keep O) HE).mono ?_; rintro e wn ⟨rfl, hb⟩; replace O := over_step O hb; clear hb; refine hK.out _ _ O (fun _ => ?_); clear hK K
        try simp only [Act.put, setIfInBounds_toArray, set_cons_succ, set_cons_zero]
        refine tk 30 33 (v := ?_) O ?_ ?_; rotate_left
        ·intro wq hSq
         go_simp
         try rfl
        simp only [Act.put, setIfInBounds_toArray, set_cons_succ, set_cons_zero]; refine tk 31 34 (v := ?_) O ?_ ?_; rotate_left
        ·intro wq hSq
         go_simp
         try rfl
        simp only [Act.put, setIfInBounds_toArray, set_cons_succ, set_cons_zero]; refine tk 32 35 (v := ?_) O ?_ ?_; rotate_left
        ·intro wq hSq
         go_simp
         try rfl
        simp only [Act.put, setIfInBounds_toArray, set_cons_succ, set_cons_zero]; refine tk 33 36 (v := ?_) O ?_ ?_; rotate_left
        ·intro wq hSq
         go_simp
         try rfl
        simp only [Act.put, setIfInBounds_toArray, set_cons_succ, set_cons_zero]; refine tk 34 37 (v := ?_) O ?_ ?_; rotate_left
        ·intro wq hSq
         have q4 := over_cell hSq bA.lt (bA.c 4 rfl)
         go_simp
         try rfl
        simp only [Act.put, setIfInBounds_toArray, set_cons_succ, set_cons_zero]; refine tk 35 38 (v := ?_) O ?_ ?_; rotate_left
        ·intro wq hSq
         have q0 := over_cell hSq bA.lt (bA.c 0 rfl); have q1 := over_cell hSq bA.lt (bA.c 1 rfl); have q2 := over_cell hSq bA.lt (bA.c 2 rfl); have q3 := over_cell hSq bA.lt (bA.c 3 rfl); have q4 := over_cell hSq bA.lt (bA.c 4 rfl); have q5 := over_cell hSq bA.lt (bA.c 5 rfl)
         go_simp
         try rfl
        simp only [Act.put, setIfInBounds_toArray, set_cons_succ, set_cons_zero]; refine tk 36 39 (v := ?_) O ?_ ?_; rotate_left
        ·intro wq hSq
         go_simp
         try rfl
        simp only [Act.put, setIfInBounds_toArray, set_cons_succ, set_cons_zero]; refine rd1 37 fun K hK => ?_
        go_simp
        refine (ievK_t ov rv sv N _ (hR.keep O) HVR.out HK).mono ?_; rintro e wn ⟨rfl, hb⟩; replace O := over_step O hb; clear hb; refine hK.out _ _ O (fun _ => ?_); clear hK K
        try simp only [Act.put, setIfInBounds_toArray, set_cons_succ, set_cons_zero]
        refine tk 38 41 (v := ?_) O ?_ ?_; rotate_left
        ·intro wq hSq
         go_simp
         try rfl
        simp only [Act.put, setIfInBounds_toArray, set_cons_succ, set_cons_zero]; refine tk 39 42 (v := ?_) O ?_ ?_; rotate_left
        ·intro wq hSq
         go_simp
         try rfl
        simp only [Act.put, setIfInBounds_toArray, set_cons_succ, set_cons_zero]; refine wpAnyH_take (i := 40) (v := undef) rfl (by kernel_rfl) (by kernel_rfl) (by kernel_rfl) (fun _ _ _ h => h) (Or.inr ⟨by rfl, by rfl⟩) O ?_
        change wpAnyH _ _ _ _ _ _ _ (Act.put _ (some 43) _) _
        simp only [Act.put, setIfInBounds_toArray, set_cons_succ, set_cons_zero]; refine wpAnyH_take (i := 41) (v := undef) rfl (by kernel_rfl) (by kernel_rfl) (by kernel_rfl) (fun _ _ _ h => h) (Or.inr ⟨by rfl, by rfl⟩) O ?_
        change wpAnyH _ _ _ _ _ _ _ (Act.put _ (some 44) _) _
        simp only [Act.put, setIfInBounds_toArray, set_cons_succ, set_cons_zero]; refine wpAnyH_take (i := 42) (v := undef) rfl (by kernel_rfl) (by kernel_rfl) (by kernel_rfl) (fun _ _ _ h => h) (Or.inr ⟨by rfl, by rfl⟩) O ?_
        change wpAnyH _ _ _ _ _ _ _ (Act.put _ (some 45) _) _
        simp only [Act.put, setIfInBounds_toArray, set_cons_succ, set_cons_zero]; refine wpAnyH_take (i := 43) (v := undef) rfl (by kernel_rfl) (by kernel_rfl) (by kernel_rfl) (fun _ _ _ h => h) (Or.inr ⟨by rfl, by rfl⟩) O ?_
        change wpAnyH _ _ _ _ _ _ _ (Act.put _ (some 46) _) _
        simp only [Act.put, setIfInBounds_toArray, set_cons_succ, set_cons_zero]; refine tk 44 47 (v := ?_) O ?_ ?_; rotate_left
        ·intro wq hSq
         go_simp
         try rfl
        simp only [Act.put, setIfInBounds_toArray, set_cons_succ, set_cons_zero]; refine rd1 45 fun K hK => ?_
        go_simp
        refine hK.out _ _ O (fun _ => ?_); clear hK K
        try simp only [Act.put, setIfInBounds_toArray, set_cons_succ, set_cons_zero]
        refine wpAnyH_done (by kernel_rfl) ?_ _; go_wp2
        go_ret
        exact ⟨rfl, over_step B0 O⟩
       ·rw [Bool.true_and]
        have HK := Lib.hid hK; clear hK; obtain ⟨g, hg⟩ : ∃ g, (N.sent.all fun E => sendB E) = g := ⟨_, rfl⟩; rw [hg]; have HSS := Lib.hid hg; clear hg
        go_enter Tryz.func81, Tryz.ntmps81
        go_wp2_with fail; rw [← hV]; clear hV; refine wp_region_held_drew (S := fun w' => Over V w') (by kernel_rfl) (over_drew V) (fun hHeld => ?_); obtain ⟨u0, e0'⟩ : ∃ u, u = V.drew := ⟨_, rfl⟩; have O : Over V u0 := by rw [e0']; exact over_drew V
        rw [← e0']; clear e0' hHeld; refine tk 0 3 (v := ?_) O ?_ ?_; rotate_left
        ·intro wq hSq
         go_simp
         try rfl
        simp only [Act.put, setIfInBounds_toArray, set_cons_succ, set_cons_zero]; refine tk 1 4 (v := ?_) O ?_ ?_; rotate_left
        ·intro wq hSq
         have q0 := over_cell hSq bA.lt (bA.c 0 rfl)
         go_simp
         try rfl
        simp only [Act.put, setIfInBounds_toArray, set_cons_succ, set_cons_zero]; refine rd1 2 fun K hK => ?_
        go_simp
        refine (numok8 _ HA).mono ?_; rintro e wn ⟨rfl, rfl⟩; refine hK.out _ _ O (fun _ => ?_); clear hK K
        try simp only [Act.put, setIfInBounds_toArray, set_cons_succ, set_cons_zero]
        refine tk 3 6 (v := ?_) O ?_ ?_; rotate_left
        ·intro wq hSq
         go_simp
         try rfl
        simp only [Act.put, setIfInBounds_toArray, set_cons_succ, set_cons_zero]; refine tk 4 7 (v := ?_) O ?_ ?_; rotate_left
        ·intro wq hSq
         go_simp
         try rfl
        simp only [Act.put, setIfInBounds_toArray, set_cons_succ, set_cons_zero]; refine tk 5 8 (v := ?_) O ?_ ?_; rotate_left
        ·intro wq hSq
         have q1 := over_cell hSq bA.lt (bA.c 1 rfl)
         go_simp
         try rfl
        simp only [Act.put, setIfInBounds_toArray, set_cons_succ, set_cons_zero]; refine rd1 6 fun K hK => ?_
        go_simp
        refine (ipfx8 _ (hO.keep O) HO).mono ?_; rintro e wn ⟨rfl, hb⟩; replace O := over_step O hb; clear hb; refine hK.out _ _ O (fun _ => ?_); clear hK K
        try simp only [Act.put, setIfInBounds_toArray, set_cons_succ, set_cons_zero]
        refine tk 7 10 (v := ?_) O ?_ ?_; rotate_left
        ·intro wq hSq
         go_simp
         try rfl
        simp only [Act.put, setIfInBounds_toArray, set_cons_succ, set_cons_zero]; refine tk 8 11 (v := ?_) O ?_ ?_; rotate_left
        ·intro wq hSq
         go_simp
         try rfl
        simp only [Act.put, setIfInBounds_toArray, set_cons_succ, set_cons_zero]; refine tk 9 12 (v := ?_) O ?_ ?_; rotate_left
        ·intro wq hSq
         go_simp
         try rfl
        simp only [Act.put, setIfInBounds_toArray, set_cons_succ, set_cons_zero]; refine tk 10 13 (v := ?_) O ?_ ?_; rotate_left
        ·intro wq hSq
         have q2 := over_cell hSq bA.lt (bA.c 2 rfl)
         go_simp
         try rfl
        simp only [Act.put, setIfInBounds_toArray, set_cons_succ, set_cons_zero]; refine rd1 11 fun K hK => ?_
        go_simp
        refine (within8 _ HB).mono ?_; rintro e wn ⟨rfl, rfl⟩; refine hK.out _ _ O (fun _ => ?_); clear hK K
        try simp only [Act.put, setIfInBounds_toArray, set_cons_succ, set_cons_zero]
        refine tk 12 15 (v := ?_) O ?_ ?_; rotate_left
        ·intro wq hSq
         go_simp
         try rfl
        simp only [Act.put, setIfInBounds_toArray, set_cons_succ, set_cons_zero]; refine tk 13 16 (v := ?_) O ?_ ?_; rotate_left
        ·intro wq hSq
         go_simp
         try rfl
        simp only [Act.put, setIfInBounds_toArray, set_cons_succ, set_cons_zero]; refine tk 14 17 (v := ?_) O ?_ ?_; rotate_left
        ·intro wq hSq
         go_simp
         try rfl
        simp only [Act.put, setIfInBounds_toArray, set_cons_succ, set_cons_zero]; refine tk 15 18 (v := ?_) O ?_ ?_; rotate_left
        ·intro wq hSq
         have q4 := over_cell hSq bA.lt (bA.c 4 rfl)
         go_simp
         try rfl
        simp only [Act.put, setIfInBounds_toArray, set_cons_succ, set_cons_zero]; refine rd1 16 fun K hK => ?_
        go_simp
        refine (irib_t _ (hR.keep O) HR).mono ?_; rintro e wn ⟨rfl, hb⟩; replace O := over_step O hb; clear hb; refine hK.out _ _ O (fun _ => ?_); clear hK K
        try simp only [Act.put, setIfInBounds_toArray, set_cons_succ, set_cons_zero]
        refine tk 17 20 (v := ?_) O ?_ ?_; rotate_left
        ·intro wq hSq
         go_simp
         try rfl
        simp only [Act.put, setIfInBounds_toArray, set_cons_succ, set_cons_zero]; refine tk 18 21 (v := ?_) O ?_ ?_; rotate_left
        ·intro wq hSq
         go_simp
         try rfl
        simp only [Act.put, setIfInBounds_toArray, set_cons_succ, set_cons_zero]; refine tk 19 22 (v := ?_) O ?_ ?_; rotate_left
        ·intro wq hSq
         go_simp
         try rfl
        simp only [Act.put, setIfInBounds_toArray, set_cons_succ, set_cons_zero]; refine tk 20 23 (v := ?_) O ?_ ?_; rotate_left
        ·intro wq hSq
         have q5 := over_cell hSq bA.lt (bA.c 5 rfl)
         go_simp
         try rfl
        simp only [Act.put, setIfInBounds_toArray, set_cons_succ, set_cons_zero]; refine rd1 21 fun K hK => ?_
        go_simp
        refine (irib_t _ (hS.keep O) HS).mono ?_; rintro e wn ⟨rfl, hb⟩; replace O := over_step O hb; clear hb; refine hK.out _ _ O (fun _ => ?_); clear hK K
        try simp only [Act.put, setIfInBounds_toArray, set_cons_succ, set_cons_zero]
        refine tk 22 25 (v := ?_) O ?_ ?_; rotate_left
        ·intro wq hSq
         go_simp
         try rfl
        simp only [Act.put, setIfInBounds_toArray, set_cons_succ, set_cons_zero]; refine tk 23 26 (v := ?_) O ?_ ?_; rotate_left
        ·intro wq hSq
         go_simp
         try rfl
        simp only [Act.put, setIfInBounds_toArray, set_cons_succ, set_cons_zero]; refine tk 24 27 (v := ?_) O ?_ ?_; rotate_left
        ·intro wq hSq
         go_simp
         try rfl
        simp only [Act.put, setIfInBounds_toArray, set_cons_succ, set_cons_zero]; refine tk 25 28 (v := ?_) O ?_ ?_; rotate_left
        ·intro wq hSq
         have q4 := over_cell hSq bA.lt (bA.c 4 rfl)
         go_simp
         try rfl
        simp only [Act.put, setIfInBounds_toArray, set_cons_succ, set_cons_zero]; refine tk 27 30 (v := ?_) O ?_ ?_; rotate_left
        ·intro wq hSq
         go_simp
         try rfl
        simp only [Act.put, setIfInBounds_toArray, set_cons_succ, set_cons_zero]; refine tk 28 31 (v := ?_) O ?_ ?_; rotate_left
        ·intro wq hSq
         have q1 := over_cell hSq bA.lt (bA.c 1 rfl)
         go_simp
         try rfl
        simp only [Act.put, setIfInBounds_toArray, set_cons_succ, set_cons_zero]; refine rd1 26 fun K hK => ?_
        go_simp
        refine (ifr_any rv N.rib (-1) _ (hR.keep O) HLR.out).mono ?_; rintro e wn ⟨u, rfl, hu, hb⟩; replace O := over_step O hb; clear hb; refine hK.out _ _ O (fun _ => ?_); clear hK K
        try simp only [Act.put, setIfInBounds_toArray, set_cons_succ, set_cons_zero]
        replace hu := hu.rd; obtain ⟨ua, uc, rfl⟩ := hu.len; refine rd1 29 fun K hK => ?_
        go_simp
        refine (slL_t _ (hu.keep (Below.refl _ _)) (hO.keep O) HE).mono ?_; rintro e wn ⟨rfl, hb⟩; replace O := over_step O hb; clear hb; refine hK.out _ _ O (fun _ => ?_); clear hK K
        try simp only [Act.put, setIfInBounds_toArray, set_cons_succ, set_cons_zero]
        refine tk 30 33 (v := ?_) O ?_ ?_; rotate_left
        ·intro wq hSq
         go_simp
         try rfl
        simp only [Act.put, setIfInBounds_toArray, set_cons_succ, set_cons_zero]; refine tk 31 34 (v := ?_) O ?_ ?_; rotate_left
        ·intro wq hSq
         go_simp
         try rfl
        simp only [Act.put, setIfInBounds_toArray, set_cons_succ, set_cons_zero]; refine tk 32 35 (v := ?_) O ?_ ?_; rotate_left
        ·intro wq hSq
         go_simp
         try rfl
        simp only [Act.put, setIfInBounds_toArray, set_cons_succ, set_cons_zero]; refine tk 33 36 (v := ?_) O ?_ ?_; rotate_left
        ·intro wq hSq
         go_simp
         try rfl
        simp only [Act.put, setIfInBounds_toArray, set_cons_succ, set_cons_zero]; refine tk 34 37 (v := ?_) O ?_ ?_; rotate_left
        ·intro wq hSq
         have q4 := over_cell hSq bA.lt (bA.c 4 rfl)
         go_simp
         try rfl
        simp only [Act.put, setIfInBounds_toArray, set_cons_succ, set_cons_zero]; refine tk 35 38 (v := ?_) O ?_ ?_; rotate_left
        ·intro wq hSq
         have q0 := over_cell hSq bA.lt (bA.c 0 rfl); have q1 := over_cell hSq bA.lt (bA.c 1 rfl); have q2 := over_cell hSq bA.lt (bA.c 2 rfl); have q3 := over_cell hSq bA.lt (bA.c 3 rfl); have q4 := over_cell hSq bA.lt (bA.c 4 rfl); have q5 := over_cell hSq bA.lt (bA.c 5 rfl)
         go_simp
         try rfl
        simp only [Act.put, setIfInBounds_toArray, set_cons_succ, set_cons_zero]; refine tk 36 39 (v := ?_) O ?_ ?_; rotate_left
        ·intro wq hSq
         go_simp
         try rfl
        simp only [Act.put, setIfInBounds_toArray, set_cons_succ, set_cons_zero]; refine rd1 37 fun K hK => ?_
        go_simp
        refine (ievK_t ov rv sv N _ (hR.keep O) HVR.out HK).mono ?_; rintro e wn ⟨rfl, hb⟩; replace O := over_step O hb; clear hb; refine hK.out _ _ O (fun _ => ?_); clear hK K
        try simp only [Act.put, setIfInBounds_toArray, set_cons_succ, set_cons_zero]
        refine tk 38 41 (v := ?_) O ?_ ?_; rotate_left
        ·intro wq hSq
         go_simp
         try rfl
        simp only [Act.put, setIfInBounds_toArray, set_cons_succ, set_cons_zero]; refine tk 39 42 (v := ?_) O ?_ ?_; rotate_left
        ·intro wq hSq
         go_simp
         try rfl
        simp only [Act.put, setIfInBounds_toArray, set_cons_succ, set_cons_zero]; refine tk 40 43 (v := ?_) O ?_ ?_; rotate_left
        ·intro wq hSq
         go_simp
         try rfl
        simp only [Act.put, setIfInBounds_toArray, set_cons_succ, set_cons_zero]; refine tk 41 44 (v := ?_) O ?_ ?_; rotate_left
        ·intro wq hSq
         go_simp
         try rfl
        simp only [Act.put, setIfInBounds_toArray, set_cons_succ, set_cons_zero]; refine tk 42 45 (v := ?_) O ?_ ?_; rotate_left
        ·intro wq hSq
         have q5 := over_cell hSq bA.lt (bA.c 5 rfl)
         go_simp
         try rfl
        simp only [Act.put, setIfInBounds_toArray, set_cons_succ, set_cons_zero]; refine rd1 43 fun K hK => ?_
        go_simp
        refine (ievS_t _ (hS.keep O) HSS).mono ?_; rintro e wn ⟨rfl, hb⟩; replace O := over_step O hb; clear hb; refine hK.out _ _ O (fun _ => ?_); clear hK K
        try simp only [Act.put, setIfInBounds_toArray, set_cons_succ, set_cons_zero]
        refine tk 44 47 (v := ?_) O ?_ ?_; rotate_left
        ·intro wq hSq
         go_simp
         try rfl
        simp only [Act.put, setIfInBounds_toArray, set_cons_succ, set_cons_zero]; refine rd1 45 fun K hK => ?_
        go_simp
        refine hK.out _ _ O (fun _ => ?_); clear hK K
        try simp only [Act.put, setIfInBounds_toArray, set_cons_succ, set_cons_zero]
        refine wpAnyH_done (by kernel_rfl) ?_ _; go_wp2
        go_ret
        exact ⟨rfl, over_step B0 O⟩
end Go.Proofs.YtkodnipmogdgkaaGreat
namespace Go.Proofs.YtkodnipmogdgkaaGreat
open Go.ChangeShapes Go.WideShapes Go.ChangeAt Go.RowKit Go.BigFrame Go.Joins
set_option linter.unusedVariables false
set_option maxRecDepth 100000

def nm (a b : Int) : Int := Lib.compareInt a b
theorem snum_any (a b : Int) (w : World) : Calls Tryz.prog 157 #[.int .i64 a, .int .i64 b] w fun e w' => e = .returned (.int .i64 (nm a b)) ∧ w = w' := by
 by_cases h0 : a < b
 ·have e : nm a b = -1 := by simp [nm, Lib.compareInt, h0]
  rw [e]; clear e
  go_enter Tryz.func157, Tryz.ntmps157
  go_wp2
  go_ret
  exact ⟨rfl, rfl⟩
 ·by_cases h1 : b < a
  ·have e : nm a b = 1 := by simp only [nm, Lib.compareInt]; split <;> first | omega | (split <;> omega)
   rw [e]; clear e
   go_enter Tryz.func157, Tryz.ntmps157
   go_wp2
   go_ret
   exact ⟨rfl, rfl⟩
  ·have e : nm a b = 0 := by simp only [nm, Lib.compareInt]; split <;> first | omega | (split <;> omega)
   rw [e]; clear e
   go_enter Tryz.func157, Tryz.ntmps157
   go_wp2
   go_ret
   exact ⟨rfl, rfl⟩
theorem nm_zero (a b : Int) : nm a b = 0 ↔ a = b := by
 unfold nm Lib.compareInt
 split
 ·constructor <;> intro h <;> omega
 ·split
  ·constructor <;> intro h <;> omega
  ·constructor <;> intro h <;> omega
/-- the rank: greater preference first, then the shorter path -/
def rk (pr : Int) (pl : Nat) (pr' : Int) (pl' : Nat) : Int := if pr = pr' then nm pl pl' else nm pr' pr
theorem srank_any (pa ca qa da : Option Addr) (pd cd qd dd : Nat) (p c q d : List Int) (pr bw pr' bw' : Int) (w : World) (hpl : p.length ≤ 8) (hql : q.length ≤ 8) :
  Calls Tryz.prog 155 #[.agg #[.slice pa p.length pd, .int .i64 pr, .slice ca c.length cd, .int .i64 bw], .agg #[.slice qa q.length qd, .int .i64 pr', .slice da d.length dd, .int .i64 bw']] w fun e w' => e = .returned (.int .i64 (rk pr p.length pr' q.length)) ∧ Below w.heap.size w w' := by
 have bA := Bx.new w (.slice pa p.length pd) (.int .i64 pr) (.slice ca c.length cd) (.int .i64 bw) 134 w.heap.size rfl; have z0 : (w.alloc (.cells #[.slice pa p.length pd, .int .i64 pr, .slice ca c.length cd, .int .i64 bw] 134)).heap.size = w.heap.size + 1 := by simp
 have bB := Bx.new (w.alloc (.cells #[.slice pa p.length pd, .int .i64 pr, .slice ca c.length cd, .int .i64 bw] 134)) (.slice qa q.length qd) (.int .i64 pr') (.slice da d.length dd) (.int .i64 bw') 134 (w.heap.size + 1) z0.symm; replace bA := bA.alloc (.cells #[.slice qa q.length qd, .int .i64 pr', .slice da d.length dd, .int .i64 bw'] 134); have B1 : Below w.heap.size w ((w.alloc (.cells #[.slice pa p.length pd, .int .i64 pr, .slice ca c.length cd, .int .i64 bw] 134)).alloc (.cells #[.slice qa q.length qd, .int .i64 pr', .slice da d.length dd, .int .i64 bw'] 134)) := ((Below.refl _ _).alloc (Nat.le_refl _) _).alloc (by rw [z0]; omega) _; clear z0
 by_cases h : pr = pr'
 ·skip
  rw [show rk pr p.length pr' q.length = nm p.length q.length by simp [rk, h]]; have hne : (pr != pr') = false := by simp [h]
  clear h
  go_enter Tryz.func155, Tryz.ntmps155
  have kA0 := bA.c0; have kA1 := bA.c1; have kA2 := bA.c2; have kA3 := bA.c3; have kB0 := bB.c0; have kB1 := bB.c1; have kB2 := bB.c2; have kB3 := bB.c3; go_wp2_with fail; clear kA0 kA1 kA2 kA3 kB0 kB1 kB2 kB3; refine (snum_any _ _ _).mono ?_; rintro e w1 ⟨rfl, rfl⟩; go_wp2
  go_ret
  exact ⟨rfl, B1⟩
 ·skip
  rw [show rk pr p.length pr' q.length = nm pr' pr by simp [rk, h]]; have hne : (pr != pr') = true := by simp [h]
  clear h
  go_enter Tryz.func155, Tryz.ntmps155
  have kA0 := bA.c0; have kA1 := bA.c1; have kA2 := bA.c2; have kA3 := bA.c3; have kB0 := bB.c0; have kB1 := bB.c1; have kB2 := bB.c2; have kB3 := bB.c3; go_wp2_with fail; clear kA0 kA1 kA2 kA3 kB0 kB1 kB2 kB3; refine (snum_any _ _ _).mono ?_; rintro e w1 ⟨rfl, rfl⟩; go_wp2
  go_ret
  exact ⟨rfl, B1⟩
end Go.Proofs.YtkodnipmogdgkaaGreat
namespace Go.Proofs.YtkodnipmogdgkaaGreat
open Go.ChangeShapes Go.WideShapes Go.ChangeAt Go.RowKit Go.BigFrame Go.Joins
set_option linter.unusedVariables false
set_option maxRecDepth 100000

end Go.Proofs.YtkodnipmogdgkaaGreat
namespace Go.Proofs.YtkodnipmogdgkaaGreat
open Go.ChangeShapes Go.WideShapes Go.ChangeAt Go.RowKit Go.BigFrame Go.Joins
set_option linter.unusedVariables false
set_option maxRecDepth 100000

/-- element by element, a proper beginning first -/
def lx : List Int → List Int → Int
 | [], [] => 0
 | [], _ :: _ => -1
 | _ :: _, [] => 1
 | x :: l, y :: m => if nm x y = 0 then lx l m else nm x y
theorem lx_drop : ∀ (k : Nat) (l m : List Int), l.take k = m.take k → k ≤ l.length → k ≤ m.length → lx l m = lx (l.drop k) (m.drop k)
 | 0, l, m, _, _, _ => by simp
 | k + 1, [], m, _, h, _ => by simp at h
 | k + 1, x :: l, [], _, _, h => by simp at h
 | k + 1, x :: l, y :: m, h, h1, h2 => by
  simp only [List.take_succ_cons, List.cons.injEq] at h; obtain ⟨rfl, h⟩ := h; have := lx_drop k l m h (by simpa using h1) (by simpa using h2); simp only [lx, (nm_zero x x).2 rfl, if_true, List.drop_succ_cons]
  exact this
theorem lx_ne {l m : List Int} {k : Nat} {x y : Int} (h : l.take k = m.take k) (h1 : k < l.length) (h2 : k < m.length) (hx : l.getD k 0 = x) (hy : m.getD k 0 = y) (hne : x ≠ y) : lx l m = nm x y := by
 rw [lx_drop k l m h (by omega) (by omega), List.drop_eq_getElem_cons h1, List.drop_eq_getElem_cons h2]; have e1 : l.getD k 0 = l[k] := by simp [List.getD, h1]
 have e2 : m.getD k 0 = m[k] := by simp [List.getD, h2]
 rw [← e1, ← e2, hx, hy]; simp only [lx]; rw [if_neg (fun h => hne ((nm_zero x y).1 h))]
theorem lx_end {l m : List Int} {k : Nat} (h : l.take k = m.take k) (h1 : k ≤ l.length) (h2 : k ≤ m.length) (he : k = l.length ∨ k = m.length) : lx l m = if l.length < m.length then -1 else if m.length < l.length then 1 else 0 := by
 rw [lx_drop k l m h h1 h2]
 rcases he with rfl | rfl
 ·rw [List.drop_eq_nil_of_le (Nat.le_refl l.length)]
  by_cases hlt : l.length < m.length
  ·rw [if_pos hlt, List.drop_eq_getElem_cons hlt]
   rfl
  ·rw [if_neg hlt, if_neg (by omega), List.drop_eq_nil_of_le (by omega)]
   rfl
 ·rw [List.drop_eq_nil_of_le (Nat.le_refl m.length)]
  by_cases hlt : m.length < l.length
  ·rw [if_neg (by omega), if_pos hlt, List.drop_eq_getElem_cons hlt]
   rfl
  ·rw [if_neg (by omega), if_neg hlt, List.drop_eq_nil_of_le (by omega)]
   rfl
theorem nm_lt {x y : Int} (h : x < y) : nm x y = -1 := by simp [nm, Lib.compareInt, h]
theorem nm_gt {x y : Int} (h : y < x) : nm x y = 1 := by simp only [nm, Lib.compareInt]; split <;> first | omega | (split <;> omega)

theorem slist_any (v u : Value) (l m : List Int) (w : World) (h1 : RdI w v l) (h2 : RdI w u m) :
  Calls Tryz.prog 156 #[v, u] w fun e w' => e = .returned (.int .i64 (lx l m)) ∧ Below w.heap.size w w' := by
 have hm := h1.2.1; have hm' := h2.2.1; unfold maxLen at hm hm'; obtain ⟨a, c, rfl, hc⟩ := h1.el; obtain ⟨a', c', rfl, hc'⟩ := h2.el; obtain ⟨n, hn⟩ : ∃ n, n = l.length := ⟨_, rfl⟩; obtain ⟨n', hn'⟩ : ∃ n, n = m.length := ⟨_, rfl⟩; rw [← hn] at hc hm ⊢; rw [← hn'] at hc' hm' ⊢; have HN := Lib.hid hn; have HN' := Lib.hid hn'; clear h1 h2 hn hn'
 go_enter Tryz.func156, Tryz.ntmps156
 go_wp2
 go_loopw [5] (fun q wr => ∃ k : Nat, k ≤ n ∧ k ≤ n' ∧ q = .int .i64 k ∧ l.take k = m.take k ∧ Below w.heap.size w wr) (fun q _ => n - (intOf q).toNat)
 case atStart => exact ⟨0, Nat.zero_le _, Nat.zero_le _, rfl, rfl, Below.refl _ _⟩
 case round =>
  obtain ⟨k, hk, hk', rfl, ht, hB⟩ := hrel; have HT := Lib.hid ht; clear ht
  by_cases hlt : k < n ∧ k < n'
  ·obtain ⟨hlt, hlt'⟩ := hlt
   have hltI : (k : Int) < (n : Int) := by omega
   have hltI' : (k : Int) < (n' : Int) := by omega
   obtain ⟨b, o, rfl, e1⟩ := hc k hlt; obtain ⟨b', o', rfl, e2⟩ := hc' k hlt'; replace e1 := cell_keep hB (World.block_lt_of_cell? w _ e1) e1; replace e2 := cell_keep hB (World.block_lt_of_cell? w _ e2) e2; obtain ⟨x, hx⟩ : ∃ x, l.getD k 0 = x := ⟨_, rfl⟩; obtain ⟨y, hy⟩ : ∃ y, m.getD k 0 = y := ⟨_, rfl⟩; rw [hx] at e1; rw [hy] at e2; have HX := Lib.hid hx; have HY := Lib.hid hy; clear hx hy hc hc'
   by_cases hxy : x < y
   ·have HF := Lib.hid ((lx_ne HT.out (by rw [← HN.out]; exact hlt) (by rw [← HN'.out]; exact hlt') HX.out HY.out (by omega)).trans (nm_lt hxy))
    go_wp2
    first | (go_quiet (fail); go_wp2) | skip
    go_ret
    exact ⟨ret_int (by rw [HF.out]), by first | exact hB | exact below_drewN hB _⟩
   ·by_cases hyx : y < x
    ·have HF := Lib.hid ((lx_ne HT.out (by rw [← HN.out]; exact hlt) (by rw [← HN'.out]; exact hlt') HX.out HY.out (by omega)).trans (nm_gt hyx))
     go_wp2
     first | (go_quiet (fail); go_wp2; first | (go_quiet (fail); go_wp2) | skip) | skip
     go_ret
     exact ⟨ret_int (by rw [HF.out]), by first | exact hB | exact below_drewN hB _ | exact below_drewN (below_drewN hB _) _⟩
    ·have HE := Lib.hid (show x = y by omega)
     go_wp2
     first | (go_quiet (fail); go_wp2; first | (go_quiet (fail); go_wp2) | skip) | skip
     go_roundw
     case rel => exact ⟨k + 1, by omega, by omega, by go_num, take_eq_succ_I HT.out (by rw [← HN.out]; exact hlt) (by rw [← HN'.out]; exact hlt') (by rw [HX.out, HY.out, HE.out]), by first | exact hB | exact below_drewN hB _ | exact below_drewN (below_drewN hB _) _⟩
     case measure => simp [intOf]; omega
  ·have HF := Lib.hid (lx_end HT.out (by rw [← HN.out]; exact hk) (by rw [← HN'.out]; exact hk') (by rw [← HN.out, ← HN'.out]; omega))
   have HL := Lib.hid hlt; clear hc hc'
   by_cases hk1 : k < n
   ·have hkn : n' < n := by omega
    have hq1 : (k : Int) < (n : Int) := by omega
    have hq2 : ¬ (k : Int) < (n' : Int) := by omega
    have hq3 : (n' : Int) < (n : Int) := by omega
    go_wp2
    go_ret
    exact ⟨ret_int (by rw [HF.out, ← HN.out, ← HN'.out, if_neg (by omega), if_pos hkn]), hB⟩
   ·by_cases hnn : n < n'
    ·go_wp2
     go_ret
     exact ⟨ret_int (by rw [HF.out, ← HN.out, ← HN'.out, if_pos hnn]), hB⟩
    ·have hq : n = n' := by omega
     have hq3 : ¬ (n' : Int) < (n : Int) := by omega
     go_wp2
     go_ret
     exact ⟨ret_int (by rw [HF.out, ← HN.out, ← HN'.out, if_neg hnn, if_neg (by omega)]), hB⟩
end Go.Proofs.YtkodnipmogdgkaaGreat
namespace Go.Proofs.YtkodnipmogdgkaaGreat
open Go.ChangeShapes Go.WideShapes Go.ChangeAt Go.RowKit Go.BigFrame Go.Joins
set_option linter.unusedVariables false
set_option maxRecDepth 100000

/-- the first that is not zero -/
def or4 (a b c d : Int) : Int := if a ≠ 0 then a else if b ≠ 0 then b else if c ≠ 0 then c else d
theorem sl2cmp_any (pa ca qa da : Option Addr) (pd cd qd dd : Nat) (p c q d : List Int) (pr bw pr' bw' : Int) (w : World) (hp : RdI w (.slice pa p.length pd) p) (hc : RdI w (.slice ca c.length cd) c) (hq : RdI w (.slice qa q.length qd) q) (hd : RdI w (.slice da d.length dd) d) (hpl : p.length ≤ 8) (hql : q.length ≤ 8) :
  Calls Tryz.prog 102 #[.agg #[.slice pa p.length pd, .int .i64 pr, .slice ca c.length cd, .int .i64 bw], .agg #[.slice qa q.length qd, .int .i64 pr', .slice da d.length dd, .int .i64 bw']] w fun e w' => e = .returned (.int .i64 (or4 (rk pr p.length pr' q.length) (lx p q) (lx c d) (nm bw bw'))) ∧ Below w.heap.size w w' := by
 have bA := Bx.new w (.slice pa p.length pd) (.int .i64 pr) (.slice ca c.length cd) (.int .i64 bw) 134 w.heap.size rfl; have z0 : (w.alloc (.cells #[.slice pa p.length pd, .int .i64 pr, .slice ca c.length cd, .int .i64 bw] 134)).heap.size = w.heap.size + 1 := by simp
 have bB := Bx.new (w.alloc (.cells #[.slice pa p.length pd, .int .i64 pr, .slice ca c.length cd, .int .i64 bw] 134)) (.slice qa q.length qd) (.int .i64 pr') (.slice da d.length dd) (.int .i64 bw') 134 (w.heap.size + 1) z0.symm; replace bA := bA.alloc (.cells #[.slice qa q.length qd, .int .i64 pr', .slice da d.length dd, .int .i64 bw'] 134); have B1 : Below w.heap.size w ((w.alloc (.cells #[.slice pa p.length pd, .int .i64 pr, .slice ca c.length cd, .int .i64 bw] 134)).alloc (.cells #[.slice qa q.length qd, .int .i64 pr', .slice da d.length dd, .int .i64 bw'] 134)) := ((Below.refl _ _).alloc (Nat.le_refl _) _).alloc (by rw [z0]; omega) _; clear z0; replace hp := hp.keep B1; replace hc := hc.keep B1; replace hq := hq.keep B1; replace hd := hd.keep B1; obtain ⟨z0, e0⟩ : ∃ z, rk pr p.length pr' q.length = z := ⟨_, rfl⟩; rw [e0]; have H0 := Lib.hid e0; clear e0; obtain ⟨z1, e1⟩ : ∃ z, lx p q = z := ⟨_, rfl⟩; rw [e1]; have H1 := Lib.hid e1; clear e1; obtain ⟨z2, e2⟩ : ∃ z, lx c d = z := ⟨_, rfl⟩; rw [e2]; have H2 := Lib.hid e2; clear e2
 by_cases h0 : z0 = 0
 ·subst h0
  by_cases h1 : z1 = 0
  ·subst h1
   by_cases h2 : z2 = 0
   ·subst h2
    rw [show or4 0 0 0 (nm bw bw') = nm bw bw' by simp [or4]]
    go_enter Tryz.func102, Tryz.ntmps102
    have kA0 := bA.c0; have kA1 := bA.c1; have kA2 := bA.c2; have kA3 := bA.c3; have kB0 := bB.c0; have kB1 := bB.c1; have kB2 := bB.c2; have kB3 := bB.c3; go_wp2_with fail; clear kA0 kA1 kA2 kA3 kB0 kB1 kB2 kB3; refine (srank_any pa ca qa da pd cd qd dd p c q d pr bw pr' bw' _ hpl hql).mono ?_; rintro e w1 ⟨rfl, hb⟩; replace bA := bA.keep hb; replace bB := bB.keep hb; replace hp := hp.keep hb; replace hc := hc.keep hb; replace hq := hq.keep hb; replace hd := hd.keep hb; replace B1 := below_step B1 hb; clear hb; rw [H0.out]; have kA0 := bA.c0; have kA1 := bA.c1; have kA2 := bA.c2; have kA3 := bA.c3; have kB0 := bB.c0; have kB1 := bB.c1; have kB2 := bB.c2; have kB3 := bB.c3; go_wp2_with fail; clear kA0 kA1 kA2 kA3 kB0 kB1 kB2 kB3; refine (slist_any _ _ p q _ hp hq).mono ?_; rintro e w2 ⟨rfl, hb⟩; replace bA := bA.keep hb; replace bB := bB.keep hb; replace hp := hp.keep hb; replace hc := hc.keep hb; replace hq := hq.keep hb; replace hd := hd.keep hb; replace B1 := below_step B1 hb; clear hb; rw [H1.out]; have kA0 := bA.c0; have kA1 := bA.c1; have kA2 := bA.c2; have kA3 := bA.c3; have kB0 := bB.c0; have kB1 := bB.c1; have kB2 := bB.c2; have kB3 := bB.c3; go_wp2_with fail; clear kA0 kA1 kA2 kA3 kB0 kB1 kB2 kB3; refine (slist_any _ _ c d _ hc hd).mono ?_; rintro e w3 ⟨rfl, hb⟩; replace bA := bA.keep hb; replace bB := bB.keep hb; replace hp := hp.keep hb; replace hc := hc.keep hb; replace hq := hq.keep hb; replace hd := hd.keep hb; replace B1 := below_step B1 hb; clear hb; rw [H2.out]; have kA0 := bA.c0; have kA1 := bA.c1; have kA2 := bA.c2; have kA3 := bA.c3; have kB0 := bB.c0; have kB1 := bB.c1; have kB2 := bB.c2; have kB3 := bB.c3; go_wp2_with fail; clear kA0 kA1 kA2 kA3 kB0 kB1 kB2 kB3; refine (snum_any _ _ _).mono ?_; rintro e w4 ⟨rfl, rfl⟩; go_wp2
    go_ret
    exact ⟨rfl, B1⟩
   ·have n2 : (z2 != 0) = true := by simp [h2]
    rw [show or4 0 0 z2 (nm bw bw') = z2 by simp [or4, h2]]
    go_enter Tryz.func102, Tryz.ntmps102
    have kA0 := bA.c0; have kA1 := bA.c1; have kA2 := bA.c2; have kA3 := bA.c3; have kB0 := bB.c0; have kB1 := bB.c1; have kB2 := bB.c2; have kB3 := bB.c3; go_wp2_with fail; clear kA0 kA1 kA2 kA3 kB0 kB1 kB2 kB3; refine (srank_any pa ca qa da pd cd qd dd p c q d pr bw pr' bw' _ hpl hql).mono ?_; rintro e w1 ⟨rfl, hb⟩; replace bA := bA.keep hb; replace bB := bB.keep hb; replace hp := hp.keep hb; replace hc := hc.keep hb; replace hq := hq.keep hb; replace hd := hd.keep hb; replace B1 := below_step B1 hb; clear hb; rw [H0.out]; have kA0 := bA.c0; have kA1 := bA.c1; have kA2 := bA.c2; have kA3 := bA.c3; have kB0 := bB.c0; have kB1 := bB.c1; have kB2 := bB.c2; have kB3 := bB.c3; go_wp2_with fail; clear kA0 kA1 kA2 kA3 kB0 kB1 kB2 kB3; refine (slist_any _ _ p q _ hp hq).mono ?_; rintro e w2 ⟨rfl, hb⟩; replace bA := bA.keep hb; replace bB := bB.keep hb; replace hp := hp.keep hb; replace hc := hc.keep hb; replace hq := hq.keep hb; replace hd := hd.keep hb; replace B1 := below_step B1 hb; clear hb; rw [H1.out]; have kA0 := bA.c0; have kA1 := bA.c1; have kA2 := bA.c2; have kA3 := bA.c3; have kB0 := bB.c0; have kB1 := bB.c1; have kB2 := bB.c2; have kB3 := bB.c3; go_wp2_with fail; clear kA0 kA1 kA2 kA3 kB0 kB1 kB2 kB3; refine (slist_any _ _ c d _ hc hd).mono ?_; rintro e w3 ⟨rfl, hb⟩; replace bA := bA.keep hb; replace bB := bB.keep hb; replace hp := hp.keep hb; replace hc := hc.keep hb; replace hq := hq.keep hb; replace hd := hd.keep hb; replace B1 := below_step B1 hb; clear hb; rw [H2.out]; go_wp2
    go_ret
    exact ⟨rfl, B1⟩
  ·have n1 : (z1 != 0) = true := by simp [h1]
   rw [show or4 0 z1 z2 (nm bw bw') = z1 by simp [or4, h1]]
   go_enter Tryz.func102, Tryz.ntmps102
   have kA0 := bA.c0; have kA1 := bA.c1; have kA2 := bA.c2; have kA3 := bA.c3; have kB0 := bB.c0; have kB1 := bB.c1; have kB2 := bB.c2; have kB3 := bB.c3; go_wp2_with fail; clear kA0 kA1 kA2 kA3 kB0 kB1 kB2 kB3; refine (srank_any pa ca qa da pd cd qd dd p c q d pr bw pr' bw' _ hpl hql).mono ?_; rintro e w1 ⟨rfl, hb⟩; replace bA := bA.keep hb; replace bB := bB.keep hb; replace hp := hp.keep hb; replace hc := hc.keep hb; replace hq := hq.keep hb; replace hd := hd.keep hb; replace B1 := below_step B1 hb; clear hb; rw [H0.out]; have kA0 := bA.c0; have kA1 := bA.c1; have kA2 := bA.c2; have kA3 := bA.c3; have kB0 := bB.c0; have kB1 := bB.c1; have kB2 := bB.c2; have kB3 := bB.c3; go_wp2_with fail; clear kA0 kA1 kA2 kA3 kB0 kB1 kB2 kB3; refine (slist_any _ _ p q _ hp hq).mono ?_; rintro e w2 ⟨rfl, hb⟩; replace bA := bA.keep hb; replace bB := bB.keep hb; replace hp := hp.keep hb; replace hc := hc.keep hb; replace hq := hq.keep hb; replace hd := hd.keep hb; replace B1 := below_step B1 hb; clear hb; rw [H1.out]; go_wp2
   go_ret
   exact ⟨rfl, B1⟩
 ·have n0 : (z0 != 0) = true := by simp [h0]
  rw [show or4 z0 z1 z2 (nm bw bw') = z0 by simp [or4, h0]]
  go_enter Tryz.func102, Tryz.ntmps102
  have kA0 := bA.c0; have kA1 := bA.c1; have kA2 := bA.c2; have kA3 := bA.c3; have kB0 := bB.c0; have kB1 := bB.c1; have kB2 := bB.c2; have kB3 := bB.c3; go_wp2_with fail; clear kA0 kA1 kA2 kA3 kB0 kB1 kB2 kB3; refine (srank_any pa ca qa da pd cd qd dd p c q d pr bw pr' bw' _ hpl hql).mono ?_; rintro e w1 ⟨rfl, hb⟩; replace bA := bA.keep hb; replace bB := bB.keep hb; replace hp := hp.keep hb; replace hc := hc.keep hb; replace hq := hq.keep hb; replace hd := hd.keep hb; replace B1 := below_step B1 hb; clear hb; rw [H0.out]; go_wp2
  go_ret
  exact ⟨rfl, B1⟩
end Go.Proofs.YtkodnipmogdgkaaGreat
namespace Go.Proofs.YtkodnipmogdgkaaGreat
open Go.ChangeShapes Go.WideShapes Go.ChangeAt Go.RowKit Go.BigFrame Go.Joins
set_option linter.unusedVariables false
set_option maxRecDepth 100000
set_option linter.unusedSimpArgs false
set_option maxRecDepth 100000

theorem smine8_any (ov rv sv : Value) (N : Nd) (w : World) : Calls Tryz.prog 125 #[.agg #[.int .i64 N.an, ov, .int .i64 N.bw, .bool N.dr, rv, sv]] w fun e w' => e = .returned (.agg #[.slice none 0 0, .int .i64 100, .slice none 0 0, .int .i64 N.bw]) ∧ Below w.heap.size w w' := by
 obtain ⟨bA, bR, B0, z⟩ := two w [.int .i64 N.an, ov, .int .i64 N.bw, .bool N.dr, rv, sv] [.slice none 0 0, .int .i64 100, .slice none 0 0, .int .i64 N.bw] 58 134; have a2 := (Bl.new w [.int .i64 N.an, ov, .int .i64 N.bw, .bool N.dr, rv, sv] 58 w.heap.size rfl).c 2 rfl; have e0 := bR.c 0 rfl; have e1 := bR.c 1 rfl; have e2 := bR.c 2 rfl; have e3 := bR.c 3 rfl; clear z
 go_enter Tryz.func125, Tryz.ntmps125
 go_wp2_with fail
 exact bodyPost_ret (v := .agg #[.slice none 0 0, .int .i64 100, .slice none 0 0, .int .i64 N.bw]) (by simp [results, Tryz.results125, go_sem, e0, e1, e2, e3]) rfl
  ⟨rfl, B0⟩
theorem lx_zero8 : ∀ (l m : List Int), lx l m = 0 ↔ l = m
 | [], [] => by simp [lx]
 | [], _ :: _ => by simp [lx]
 | _ :: _, [] => by simp [lx]
 | x :: l, y :: m => by
  rw [lx, List.cons.injEq]
  by_cases h : nm x y = 0
  ·rw [if_pos h, lx_zero8 l m]
   have := (nm_zero x y).1 h
   simp [this]
  ·rw [if_neg h]
   constructor
   ·intro q; exact absurd q h
   ·rintro ⟨q, -⟩; exact absurd ((nm_zero x y).2 q) h
theorem or4_zero8 {p q c d : List Int} {pr pr' bw bw' : Int} : (or4 (rk pr p.length pr' q.length) (lx p q) (lx c d) (nm bw bw') = 0) ↔ sameB p pr c bw q pr' d bw' = true := by
 unfold sameB or4; rw [decide_eq_true_eq]
 by_cases h2 : lx p q = 0
 ·have e2 := (lx_zero8 p q).1 h2
  subst e2
  by_cases h1 : pr = pr'
  ·subst h1
   have : rk pr p.length pr p.length = 0 := by
    unfold rk; rw [if_pos rfl]
    exact (nm_zero _ _).2 rfl
   rw [this, h2]; simp only [ne_eq, not_true_eq_false, if_false]
   by_cases h3 : lx c d = 0
   ·have e3 := (lx_zero8 c d).1 h3
    subst e3; have hz := (lx_zero8 c c).2 rfl
    simp [hz, nm_zero]
   ·have e3 : ¬ c = d := fun q => h3 ((lx_zero8 c d).2 q)
    simp [e3, h3]
  ·have h0 : rk pr p.length pr' p.length ≠ 0 := by
    unfold rk; rw [if_neg h1]; intro q
    exact h1 ((nm_zero _ _).1 q).symm
   rw [if_pos h0]
   simp [h0, h1]
 ·have e2 : ¬ p = q := fun q => h2 ((lx_zero8 _ _).2 q)
  simp only [e2, false_and, iff_false]
  split
  ·assumption
  ·simpa using h2
theorem scmp8_t (pa ca : Option Addr) (pd cd : Nat) (p c : List Int) (pr bw bw' : Int) (r : Int) (w : World) (hp : RdI w (.slice pa p.length pd) p) (hc : RdI w (.slice ca c.length cd) c) (H : Hid (p.length ≤ 8 ∧ or4 (rk pr p.length 100 0) (lx p []) (lx c []) (nm bw bw') = r)) :
  Calls Tryz.prog 102 #[.agg #[.slice pa p.length pd, .int .i64 pr, .slice ca c.length cd, .int .i64 bw], .agg #[.slice none 0 0, .int .i64 100, .slice none 0 0, .int .i64 bw']] w fun e w' => e = .returned (.int .i64 r) ∧ Below w.heap.size w w' :=
 H.out.2 ▸ sl2cmp_any pa ca none none pd cd 0 0 p c [] [] pr bw 100 bw' w hp hc (rdI_nil8 w) (rdI_nil8 w) H.out.1 (by simp)
set_option maxHeartbeats 1000000 in
theorem sgone_any (v : Value) (l : List (Int × Int)) (a0 n0 : Int) (w : World) (h : RdP w v l) :
  Calls Tryz.prog 116 #[v, .agg #[.int .i64 a0, .int .i64 n0]] w fun e w' => e = .returned (.bool (decide ((a0, n0) ∈ l))) ∧ Below w.heap.size w w' := by
 have hm := h.1; obtain ⟨a, c, rfl, hc⟩ := h.el; obtain ⟨n, hn⟩ : ∃ n, n = l.length := ⟨_, rfl⟩; rw [← hn] at hc hm ⊢; have HN := Lib.hid hn; clear h hn; obtain ⟨bP, B0, z⟩ := one w [.int .i64 a0, .int .i64 n0] PT; obtain ⟨V, hV⟩ : ∃ V, V = w.alloc (.cells #[.int .i64 a0, .int .i64 n0] PT) := ⟨_, rfl⟩; rw [← hV] at bP B0; clear z
 go_enter Tryz.func116, Tryz.ntmps116
 go_wp2; rw [← hV]; clear hV
 go_loopw [5] (fun i wr => ∃ k : Nat, k ≤ n ∧ i = .int .i64 k ∧ (∀ j, j < k → l.getD j (0, 0) ≠ (a0, n0)) ∧ Over V wr) (fun i _ => n - (intOf i).toNat)
 case atStart => exact ⟨0, Nat.zero_le _, rfl, fun j hj => by omega, over_refl _⟩
 case round =>
  obtain ⟨k, hk, rfl, ht, hB⟩ := hrel; have HT := Lib.hid ht; clear ht
  by_cases hlt : k < n
  ·have hltI : (k : Int) < (n : Int) := by omega
   obtain ⟨b, o, rfl, d0, d1⟩ := hc k hlt; have e0 := cell_keep (below_step B0 hB) (World.block_lt_of_cell? w _ d0) d0; have e1 := cell_keep (below_step B0 hB) (World.block_lt_of_cell? w _ d1) d1; have e2 := over_cell hB bP.lt (bP.c 0 rfl); have e3 := over_cell hB bP.lt (bP.c 1 rfl); obtain ⟨⟨x, y⟩, hx⟩ : ∃ q, l.getD k (0, 0) = q := ⟨_, rfl⟩; rw [hx] at e0 e1; have HX := Lib.hid hx; clear hx hc d0 d1
   by_cases hxy : x = a0 ∧ y = n0
   ·obtain ⟨rfl, rfl⟩ := hxy
    have hM : decide ((x, y) ∈ l) = true := by
     rw [decide_eq_true_eq, ← HX.out, List.getD_eq_getElem?_getD, List.getElem?_eq_getElem (by rw [← HN.out]; exact hlt)]
     exact List.getElem_mem _
    have HM := Lib.hid hM; clear hM; go_wp2
    go_region
    go_wp2
    go_ret
    exact ⟨ret_bool HM.out.symm, below_step B0 hB.drew⟩
   ·have HT2 : Hid (∀ j, j < k + 1 → l.getD j (0, 0) ≠ (a0, n0)) := Lib.hid fun j hj => by
     by_cases e : j = k
     ·subst e
      rw [HX.out]; intro q
      injection q with q1 q2
      exact hxy ⟨q1, q2⟩
     ·exact HT.out j (by omega)
    by_cases hx : x = a0
    ·have hy : ¬ y = n0 := fun e => hxy ⟨hx, e⟩
     subst hx; clear hxy; go_wp2
     go_region
     go_wp2
     go_roundw
     case rel => exact ⟨k + 1, by omega, by go_num, HT2.out, hB.drew⟩
     case measure => simp [intOf]; omega
    ·clear hxy
     go_wp2
     go_region
     go_wp2
     go_roundw
     case rel => exact ⟨k + 1, by omega, by go_num, HT2.out, hB.drew⟩
     case measure => simp [intOf]; omega
  ·have hkn : k = n := by omega
   have hM : decide ((a0, n0) ∈ l) = false := by
    rw [decide_eq_false_iff_not]; intro q; obtain ⟨i, hi, e⟩ := List.mem_iff_getElem.1 q; refine HT.out i (by rw [hkn, HN.out]; exact hi) ?_; rw [List.getD_eq_getElem?_getD, List.getElem?_eq_getElem hi]
    exact e
   have HM := Lib.hid hM; clear hM hkn hc; go_wp2
   go_ret
   exact ⟨ret_bool HM.out.symm, below_step B0 hB⟩
theorem sgone_t {v : Value} {l : List (Int × Int)} {a0 n0 : Int} {b : Bool} (w : World) (h : RdP w v l) (H : Hid (decide ((a0, n0) ∈ l) = b)) :
  Calls Tryz.prog 116 #[v, .agg #[.int .i64 a0, .int .i64 n0]] w fun e w' => e = .returned (.bool b) ∧ Below w.heap.size w w' := H.out ▸ sgone_any v l a0 n0 w h
theorem nd_iff {N : Nd} (h1 : asB N.an = true) (h2 : (decide ((N.own.length : Int) ≤ 2) && pfxB N.own) = true) (h3 : inB N.bw 0 1000 = true) (h4 : ribB N.rib = true) (h5 : ribB N.sent = true) :
  ndB N = ((N.rib.all (knowM N.an N.bw N.own) && decide (ownN N.rib = N.own.length)) && N.sent.all fun E => sendB E) := by
 have e := know_iff (an := N.an) (bw := N.bw) (rib_ok h4).2.2 (pfx_sorted (by simp only [Bool.and_eq_true] at h2; exact h2.2)) (fun E hE => by obtain ⟨i, hi, q⟩ := mem_get hE; rw [← q]; exact rib_peer h4 i hi); unfold ndB; rw [h1, h2, h3, h4, h5, Bool.true_and, Bool.true_and, Bool.true_and, Bool.true_and, Bool.true_and, ← Bool.and_assoc, ← e]
theorem all_no {L : List Ent} {f : Ent → Bool} {k : Nat} {E : Ent} (hk : k < L.length) (hx : L.getD k e0 = E) (h : f E = false) : L.all f = false := by
 rw [List.all_eq_false]; refine ⟨E, ?_, by rw [h]; simp⟩; rw [← hx, List.getD_eq_getElem?_getD, List.getElem?_eq_getElem hk]
 exact List.getElem_mem _
theorem all_yes {L : List Ent} {f : Ent → Bool} {n : Nat} (hn : n = L.length) (h : ∀ i, i < n → f (L.getD i e0) = true) : L.all f = true := by
 rw [List.all_eq_true]; intro E hE; obtain ⟨i, hi, e⟩ := mem_get hE; rw [← e]
 exact h i (by omega)
theorem ownN_next {L : List Ent} {k : Nat} {E : Ent} (hk : k < L.length) (hx : L.getD k e0 = E) : ownN (L.take (k + 1)) = ownN (L.take k) + (if 0 ≤ E.pe then 0 else 1) := by
 have hg : L[k] = E := by simpa [List.getD, hk] using hx
 unfold ownN; rw [List.take_add_one, List.getElem?_eq_getElem hk, hg, List.filter_append, List.length_append]
 by_cases h : 0 ≤ E.pe <;> simp [h]
theorem ownN_le (L : List Ent) (k : Nat) : ownN (L.take k) ≤ k := by
 unfold ownN; have := List.length_filter_le (fun E : Ent => !decide (0 ≤ E.pe)) (L.take k); rw [List.length_take] at this
 omega
end Go.Proofs.YtkodnipmogdgkaaGreat
