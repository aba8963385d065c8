/-
  NodeOk of the model. Conditions: those in each contract.
  Words for the laws on switches. Conditions: those in each statement.
 Copies of switches and NodeDrain, of the program and of the model. Conditions: those in each contract.
 Words for the laws on functions that answer a switch. Conditions: those in each statement.
  Lists of one's own that grow; copies of tables and switches as memory of one's own. Conditions: those in each contract.
  Copies of lists of messages, of the program. Conditions: those in each contract.
-/
import Derived.Test.YtkodnipmogdgkaaGreatFBh
import Derived.Test.YtkodnipmogdgkaaGreatFBd
import Derived.Deep.RegionHeld
import Derived.Test.YtkodnipmogdgkaaGreatFBg
import Derived.Test.YtkodnipmogdgkaaGreatFBb
namespace Go.Proofs.YtkodnipmogdgkaaGreat
open Go.ChangeShapes Go.WideShapes Go.ChangeAt Go.RowKit Go.BigFrame Go.Joins
set_option linter.unusedVariables false
set_option maxRecDepth 100000
set_option maxRecDepth 100000
set_option linter.unusedSimpArgs false
set_option maxRecDepth 100000

theorem sha8_t {v : Value} {l : List Int} {x : Int} {b : Bool} (w : World) (h : RdI w v l) (H : Hid (decide (x ∈ l) = b)) : Calls Tryz.prog 124 #[v, .int .i64 x] w fun e w' => e = .returned (.bool b) ∧ Below w.heap.size w w' := H.out ▸ shas_any v l x w h
theorem rdE_at {W : World} {a : Option Addr} {n c : Nat} {L : List Ent} (h : RdE W (.slice a n c) L) (hn : n = L.length) : ∀ i, i < n → ∃ b o, a = some ⟨b, o, none⟩ ∧ EntAt W b (o + i * 7) (L.getD i e0) := by
 obtain ⟨a', c', e, hc⟩ := h.el
 injection e with q1 q2 q3
 subst q1; intro i hi
 exact hc i (by omega)
theorem allNext {L : List Ent} {f : Ent → Bool} {k : Nat} {E : Ent} (h : ∀ j, j < k → f (L.getD j e0) = true) (hx : L.getD k e0 = E) (hE : f E = true) : ∀ j, j < k + 1 → f (L.getD j e0) = true := by
 intro j hj
 by_cases e : j = k
 ·subst e; rw [hx]; exact hE
 ·exact h j (by omega)
set_option maxHeartbeats 8000000 in
theorem sndok_any (ov rv sv : Value) (N : Nd) (w : World) (h : RdN w ov rv sv N) :
  Calls Tryz.prog 74 #[.agg #[.int .i64 N.an, ov, .int .i64 N.bw, .bool N.dr, rv, sv]] w fun e w' => e = .returned (.bool (ndB N)) ∧ Below w.heap.size w w' := by
 obtain ⟨hO, hR, hS⟩ := h; obtain ⟨oa, oc, hov⟩ := hO.len; obtain ⟨ra, rc, hrv⟩ := hR.len; obtain ⟨sa, sc, hsv⟩ := hS.len; obtain ⟨on, hon⟩ : ∃ on, on = N.own.length := ⟨_, rfl⟩; obtain ⟨rn, hrn0⟩ : ∃ rn, rn = N.rib.length := ⟨_, rfl⟩; obtain ⟨sn, hsn⟩ : ∃ sn, sn = N.sent.length := ⟨_, rfl⟩; rw [← hon] at hov; rw [← hrn0] at hrv; rw [← hsn] at hsv; subst hov hrv hsv; have hoB := hO.1; rw [← hon] at hoB; have hRE : ∀ {W : World}, RdE W (.slice ra rn rc) N.rib → ∀ i, i < rn → ∃ b o, ra = some ⟨b, o, none⟩ ∧ EntAt W b (o + i * 7) (N.rib.getD i e0) := fun h i hi => rdE_at h hrn0 i hi
 have hSE : ∀ {W : World}, RdE W (.slice sa sn sc) N.sent → ∀ i, i < sn → ∃ b o, sa = some ⟨b, o, none⟩ ∧ EntAt W b (o + i * 7) (N.sent.getD i e0) := fun h i hi => rdE_at h hsn i hi
 obtain ⟨bA, B0, z⟩ := one w [.int .i64 N.an, .slice oa on oc, .int .i64 N.bw, .bool N.dr, .slice ra rn rc, .slice sa sn sc] 58; replace hO := hO.keep B0; replace hR := hR.keep B0; replace hS := hS.keep B0; have HON := Lib.hid hon; have HRN := Lib.hid hrn0; have HSN := Lib.hid hsn; clear z hon hrn0 hsn; have a0 := bA.c 0 rfl; cases hAA : asB N.an
 ·have HF : Hid (ndB N = false) := Lib.hid (by unfold ndB; rw [hAA]; rfl)
  have HA := Lib.hid hAA; clear hAA
  go_enter Tryz.func74, Tryz.ntmps74
  go_wp2_with fail; refine (sas8 _ HA).mono ?_; rintro e w1 ⟨rfl, rfl⟩; go_wp2
  go_ret
  exact ⟨ret_bool HF.out.symm, B0⟩
 ·have HA := Lib.hid hAA
  clear hAA; cases hOO : (decide ((N.own.length : Int) ≤ 2) && pfxB N.own)
  ·have HF : Hid (ndB N = false) := Lib.hid (by unfold ndB; rw [HA.out, hOO]; rfl)
   cases hGG : (decide ((N.own.length : Int) ≤ 8) && pfxB N.own)
   ·have HG := Lib.hid hGG
    clear hGG hOO
    go_enter Tryz.func74, Tryz.ntmps74
    go_wp2_with fail; refine (sas8 _ HA).mono ?_; rintro e w1 ⟨rfl, rfl⟩; have a1 := bA.c 1 rfl; go_wp2_with fail; clear a1; refine (spfx8 _ hO HG).mono ?_; rintro e w2 ⟨rfl, hb⟩; replace bA := bA.keep hb; replace hO := hO.keep hb; replace hR := hR.keep hb; replace hS := hS.keep hb; replace B0 := below_step B0 hb; clear hb; have a1 := bA.c 1 rfl; have a2 := bA.c 2 rfl; go_wp2
    go_ret
    exact ⟨ret_bool HF.out.symm, B0⟩
   ·have HG := Lib.hid hGG
    have hl2 : (2 : Int) < (on : Int) := by
     rw [HON.out]; simp only [Bool.and_eq_true] at hGG; rw [hGG.2, Bool.and_true, decide_eq_false_iff_not] at hOO
     omega
    clear hGG hOO
    go_enter Tryz.func74, Tryz.ntmps74
    go_wp2_with fail; refine (sas8 _ HA).mono ?_; rintro e w1 ⟨rfl, rfl⟩; have a1 := bA.c 1 rfl; go_wp2_with fail; clear a1; refine (spfx8 _ hO HG).mono ?_; rintro e w2 ⟨rfl, hb⟩; replace bA := bA.keep hb; replace hO := hO.keep hb; replace hR := hR.keep hb; replace hS := hS.keep hb; replace B0 := below_step B0 hb; clear hb; have a1 := bA.c 1 rfl; have a2 := bA.c 2 rfl; go_wp2
    go_ret
    exact ⟨ret_bool HF.out.symm, B0⟩
  ·have HO := Lib.hid hOO
   have hl2 : ¬ (2 : Int) < (on : Int) := by
    rw [HON.out]; simp only [Bool.and_eq_true, decide_eq_true_eq] at hOO
    omega
   have HG : Hid ((decide ((N.own.length : Int) ≤ 8) && pfxB N.own) = true) := Lib.hid (by
    simp only [Bool.and_eq_true, decide_eq_true_eq] at hOO ⊢
    exact ⟨by omega, hOO.2⟩)
   clear hOO; cases hBB : inB N.bw 0 1000
   ·have HF : Hid (ndB N = false) := Lib.hid (by unfold ndB; rw [HA.out, HO.out, hBB]; rfl)
    by_cases hb0 : N.bw < 0
    ·clear hBB
     go_enter Tryz.func74, Tryz.ntmps74
     go_wp2_with fail; refine (sas8 _ HA).mono ?_; rintro e w1 ⟨rfl, rfl⟩; have a1 := bA.c 1 rfl; go_wp2_with fail; clear a1; refine (spfx8 _ hO HG).mono ?_; rintro e w2 ⟨rfl, hb⟩; replace bA := bA.keep hb; replace hO := hO.keep hb; replace hR := hR.keep hb; replace hS := hS.keep hb; replace B0 := below_step B0 hb; clear hb; have a1 := bA.c 1 rfl; have a2 := bA.c 2 rfl; go_wp2
     go_ret
     exact ⟨ret_bool HF.out.symm, B0⟩
    ·have hb1 : 1000 < N.bw := by
      unfold inB at hBB; rw [decide_eq_false_iff_not] at hBB
      omega
     clear hBB
     go_enter Tryz.func74, Tryz.ntmps74
     go_wp2_with fail; refine (sas8 _ HA).mono ?_; rintro e w1 ⟨rfl, rfl⟩; have a1 := bA.c 1 rfl; go_wp2_with fail; clear a1; refine (spfx8 _ hO HG).mono ?_; rintro e w2 ⟨rfl, hb⟩; replace bA := bA.keep hb; replace hO := hO.keep hb; replace hR := hR.keep hb; replace hS := hS.keep hb; replace B0 := below_step B0 hb; clear hb; have a1 := bA.c 1 rfl; have a2 := bA.c 2 rfl; go_wp2
     go_ret
     exact ⟨ret_bool HF.out.symm, B0⟩
   ·have HB := Lib.hid hBB
    have hb0 : ¬ N.bw < 0 := by
     unfold inB at hBB; rw [decide_eq_true_eq] at hBB
     omega
    have hb1 : ¬ 1000 < N.bw := by
     unfold inB at hBB; rw [decide_eq_true_eq] at hBB
     omega
    clear hBB; cases hRR : ribB N.rib
    ·have HF : Hid (ndB N = false) := Lib.hid (by unfold ndB; rw [HA.out, HO.out, HB.out, hRR]; rfl)
     have HR := Lib.hid hRR; clear hRR
     go_enter Tryz.func74, Tryz.ntmps74
     go_wp2_with fail; refine (sas8 _ HA).mono ?_; rintro e w1 ⟨rfl, rfl⟩; have a1 := bA.c 1 rfl; go_wp2_with fail; clear a1; refine (spfx8 _ hO HG).mono ?_; rintro e w2 ⟨rfl, hb⟩; replace bA := bA.keep hb; replace hO := hO.keep hb; replace hR := hR.keep hb; replace hS := hS.keep hb; replace B0 := below_step B0 hb; clear hb; have a1 := bA.c 1 rfl; have a2 := bA.c 2 rfl; have a4 := bA.c 4 rfl; go_wp2_with fail; clear a1 a2 a4; refine (srib_t _ hR HR).mono ?_; rintro e w3 ⟨rfl, hb⟩; replace bA := bA.keep hb; replace hO := hO.keep hb; replace hR := hR.keep hb; replace hS := hS.keep hb; replace B0 := below_step B0 hb; clear hb; go_wp2
     go_ret
     exact ⟨ret_bool HF.out.symm, B0⟩
    ·have HR := Lib.hid hRR
     clear hRR; cases hSS : ribB N.sent
     ·have HF : Hid (ndB N = false) := Lib.hid (by unfold ndB; rw [HA.out, HO.out, HB.out, HR.out, hSS]; rfl)
      have HS := Lib.hid hSS; clear hSS
      go_enter Tryz.func74, Tryz.ntmps74
      go_wp2_with fail; refine (sas8 _ HA).mono ?_; rintro e w1 ⟨rfl, rfl⟩; have a1 := bA.c 1 rfl; go_wp2_with fail; clear a1; refine (spfx8 _ hO HG).mono ?_; rintro e w2 ⟨rfl, hb⟩; replace bA := bA.keep hb; replace hO := hO.keep hb; replace hR := hR.keep hb; replace hS := hS.keep hb; replace B0 := below_step B0 hb; clear hb; have a1 := bA.c 1 rfl; have a2 := bA.c 2 rfl; have a4 := bA.c 4 rfl; go_wp2_with fail; clear a1 a2 a4; refine (srib_t _ hR HR).mono ?_; rintro e w3 ⟨rfl, hb⟩; replace bA := bA.keep hb; replace hO := hO.keep hb; replace hR := hR.keep hb; replace hS := hS.keep hb; replace B0 := below_step B0 hb; clear hb; have a5 := bA.c 5 rfl; go_wp2_with fail; clear a5; refine (srib_t _ hS HS).mono ?_; rintro e w4 ⟨rfl, hb⟩; replace bA := bA.keep hb; replace hO := hO.keep hb; replace hR := hR.keep hb; replace hS := hS.keep hb; replace B0 := below_step B0 hb; clear hb; go_wp2
      go_ret
      exact ⟨ret_bool HF.out.symm, B0⟩
     ·have HS := Lib.hid hSS
      clear hSS
      go_enter Tryz.func74, Tryz.ntmps74
      go_wp2_with fail; refine (sas8 _ HA).mono ?_; rintro e w1 ⟨rfl, rfl⟩; have a1 := bA.c 1 rfl; go_wp2_with fail; clear a1; refine (spfx8 _ hO HG).mono ?_; rintro e w2 ⟨rfl, hb⟩; replace bA := bA.keep hb; replace hO := hO.keep hb; replace hR := hR.keep hb; replace hS := hS.keep hb; replace B0 := below_step B0 hb; clear hb; have a1 := bA.c 1 rfl; have a2 := bA.c 2 rfl; have a4 := bA.c 4 rfl; go_wp2_with fail; clear a1 a2 a4; refine (srib_t _ hR HR).mono ?_; rintro e w3 ⟨rfl, hb⟩; replace bA := bA.keep hb; replace hO := hO.keep hb; replace hR := hR.keep hb; replace hS := hS.keep hb; replace B0 := below_step B0 hb; clear hb; have a5 := bA.c 5 rfl; go_wp2_with fail; clear a5; refine (srib_t _ hS HS).mono ?_; rintro e w4 ⟨rfl, hb⟩; replace bA := bA.keep hb; replace hO := hO.keep hb; replace hR := hR.keep hb; replace hS := hS.keep hb; replace B0 := below_step B0 hb; clear hb; clear HG; have HND := Lib.hid (nd_iff HA.out HO.out HB.out HR.out HS.out); obtain ⟨V, hV⟩ : ∃ V, V = w4 := ⟨_, rfl⟩; rw [← hV] at bA hO hR hS B0; have hc := (hRE hR); have hd := (hSE hS)
      have hsn60 : sn ≤ 60 := by
       have := (rib_ok HS.out).2.1; rw [← HSN.out] at this
       exact this
      have hrn : rn ≤ 60 := by
       have := (rib_ok HR.out).2.1; rw [← HRN.out] at this
       exact this
      clear hRE hSE; go_wp2; rw [← hV]; clear hV
      go_loopw [3, 4] (fun q i wr => ∃ k : Nat, k ≤ rn ∧ i = .int .i64 k ∧ q = .int .i64 (ownN (N.rib.take k)) ∧ (∀ j, j < k → knowM N.an N.bw N.own (N.rib.getD j e0) = true) ∧ Over V wr) (fun _ i _ => rn - (intOf i).toNat)
      case atStart => exact ⟨0, Nat.zero_le _, rfl, by simp [ownN], fun j hj => by omega, over_refl _⟩
      case round =>
       obtain ⟨k, hk, rfl, rfl, hyes, hB⟩ := hrel; have HY := Lib.hid hyes; clear hyes; have a0 := over_cell hB bA.lt (bA.c 0 rfl); have a1 := over_cell hB bA.lt (bA.c 1 rfl); have a2 := over_cell hB bA.lt (bA.c 2 rfl); have a3 := over_cell hB bA.lt (bA.c 3 rfl); have a4 := over_cell hB bA.lt (bA.c 4 rfl); have a5 := over_cell hB bA.lt (bA.c 5 rfl); have lA := (bA.keep hB).lt
       by_cases hlt : k < rn
       ·have hltI : (k : Int) < (rn : Int) := by omega
        obtain ⟨b, o, rfl, hE⟩ := hc k hlt; obtain ⟨E, hx⟩ : ∃ E, N.rib.getD k e0 = E := ⟨_, rfl⟩; rw [hx] at hE; have hkR : k < N.rib.length := by rw [← HRN.out]; exact hlt
        have HNX := Lib.hid (ownN_next hkR hx); have hle := ownN_le N.rib k
        have hp8 : E.p.length ≤ 8 := by
         have q := rib_attr HR.out k hkR; rw [hx] at q; unfold aokB at q; simp only [Bool.and_eq_true, decide_eq_true_eq] at q
         omega
        have HX := Lib.hid hx; obtain ⟨pv, cv, hp, hq, g0, g1, g2, g3, g4, g5, g6⟩ := hE.keep hB; obtain ⟨pa, px, rfl⟩ := hp.len; obtain ⟨qa, qx, rfl⟩ := hq.len; obtain ⟨m, hm⟩ : ∃ m, m = ownN (N.rib.take k) := ⟨_, rfl⟩; rw [← hm] at HNX hle ⊢; have HM := Lib.hid hm; have HC := Lib.hid hc; have hmw : IntKind.i64.wrap ((m : Int) + 1) = (m : Int) + 1 := wrap64_in _ (by omega) (by omega); have bE := Bl.new wr [.int .i64 E.a, .int .i64 E.n, .int .i64 E.pe, .slice pa E.p.length px, .int .i64 E.pr, .slice qa E.c.length qx, .int .i64 E.bw] EI wr.heap.size rfl; have A1 : Below wr.heap.size wr (wr.alloc (.cells #[.int .i64 E.a, .int .i64 E.n, .int .i64 E.pe, .slice pa E.p.length px, .int .i64 E.pr, .slice qa E.c.length qx, .int .i64 E.bw] EI)) := (Below.refl _ _).alloc (Nat.le_refl _) _; have hp1 := hp.keep A1; have hq1 := hq.keep A1; have hB1 := over_step hB A1; have hO1 := hO.keep hB1; clear hm hx hc hE hp hq hkR; have e2 := bE.c 2 rfl
        by_cases hpe : 0 ≤ E.pe
        ·have e3 := bE.c 3 rfl
         cases hmem : decide (N.an ∈ E.p)
         ·have HME := Lib.hid hmem
          by_cases h0 : E.p.length = 0
          ·have HF : Hid (ndB N = false) := Lib.hid (by rw [HND.out, all_no (by rw [← HRN.out]; exact hlt) HX.out (by unfold knowM; rw [if_pos hpe, h0]; simp)]; rfl)
           clear hmem; rw [h0] at bE A1 hp1 hB1 hO1 e2 e3 g3; go_wp2_with fail; refine (sha8_t _ hp1 HME).mono ?_; rintro e w5 ⟨rfl, hb⟩; have e3 := (bE.keep hb).c 3 rfl; go_wp2
           go_ret
           exact ⟨ret_bool HF.out.symm, below_step B0 (over_step hB1 hb)⟩
          ·have HOK : Hid (knowM N.an N.bw N.own E = true) := Lib.hid (by unfold knowM; rw [if_pos hpe, hmem]; simp only [Bool.not_false, Bool.true_and, decide_eq_true_eq]; omega)
           have h0b : ((E.p.length : Int) == 0) = false := by rw [beq_eq_false_iff_ne]; omega
           have HPE := Lib.hid hpe; clear hmem; go_wp2_with fail; refine (sha8_t _ hp1 HME).mono ?_; rintro e w5 ⟨rfl, hb⟩; have e3 := (bE.keep hb).c 3 rfl; go_wp2
           go_roundw
           case rel => exact ⟨k + 1, by omega, by go_num, by rw [HNX.out, if_pos (by have := HPE.out; omega)]; rfl, allNext HY.out HX.out HOK.out, over_step hB1 hb⟩
           case measure => simp [intOf]; omega
         ·have HME := Lib.hid hmem
          have HF : Hid (ndB N = false) := Lib.hid (by rw [HND.out, all_no (by rw [← HRN.out]; exact hlt) HX.out (by unfold knowM; rw [if_pos hpe, hmem]; simp)]; rfl); clear hmem; go_wp2_with fail; refine (sha8_t _ hp1 HME).mono ?_; rintro e w5 ⟨rfl, hb⟩; go_wp2
          go_ret
          exact ⟨ret_bool HF.out.symm, below_step B0 (over_step hB1 hb)⟩
        ·cases hmem : decide ((E.a, E.n) ∈ N.own)
         ·have HME := Lib.hid hmem
          have HF : Hid (ndB N = false) := Lib.hid (by rw [HND.out, all_no (by rw [← HRN.out]; exact hlt) HX.out (by unfold knowM; rw [if_neg hpe, hmem]; simp)]; rfl); clear hmem; obtain ⟨V1, hV1⟩ : ∃ V1, V1 = wr.alloc (.cells #[.int .i64 E.a, .int .i64 E.n, .int .i64 E.pe, .slice pa E.p.length px, .int .i64 E.pr, .slice qa E.c.length qx, .int .i64 E.bw] EI) := ⟨_, rfl⟩; have bA1 := bA.keep hB1; rw [← hV1] at bE hp1 hq1 hB1 hO1 bA1 e2; go_wp2_with fail; rw [← hV1]; clear hV1 g0 g1 g2 g3 g4 g5 g6 a0 a1 a2 a3 a4 a5 A1; refine wp_region_class (C := Over (V1)) (by kernel_rfl) (by kernel_rfl) (over_drew _) ?_
          repeat (first | go_big_quiet_skip | (go_big_quiet_want; go_big_quiet_op; go_big_quiet_on) | (go_big_quiet_want; go_big_quiet_op; apply Exists.intro; refine ⟨fun w' hC => ?_, ?_⟩; ((first | (go_at_call 116; refine (sgone_t _ (hO1.keep hC) HME).mono ?_; rintro e w1 ⟨rfl, hb1⟩; exact ⟨rfl, over_step hC hb1⟩))); go_big_quiet_on) | (go_big_quiet_want; apply Exists.intro; refine ⟨fun w' hC => ?_, ?_⟩; (have k0 := over_cell hC bA1.lt (bA1.c 0 rfl); have k1 := over_cell hC bA1.lt (bA1.c 1 rfl); have k2 := over_cell hC bA1.lt (bA1.c 2 rfl); have k3 := over_cell hC bA1.lt (bA1.c 3 rfl); have k4 := over_cell hC bA1.lt (bA1.c 4 rfl); have k5 := over_cell hC bA1.lt (bA1.c 5 rfl); have k6 := over_cell hC bE.lt (bE.c 0 rfl); have k7 := over_cell hC bE.lt (bE.c 1 rfl); have k8 := over_cell hC bE.lt (bE.c 2 rfl); have k9 := over_cell hC bE.lt (bE.c 3 rfl); have k10 := over_cell hC bE.lt (bE.c 4 rfl); have k11 := over_cell hC bE.lt (bE.c 5 rfl); have k12 := over_cell hC bE.lt (bE.c 6 rfl); simp [Oper.quietAt, Oper.quietUpon, go_sem, k0, k1, k2, k3, k4, k5, k6, k7, k8, k9, k10, k11, k12]; first | done | rfl); go_big_quiet_on; simp only [Act.put, List.setIfInBounds_toArray, List.set_cons_zero, List.set_cons_succ]))
          refine wpQuiet_nil ?_; intro wr hC; have k0 := over_cell hC bA1.lt (bA1.c 0 rfl); have k1 := over_cell hC bA1.lt (bA1.c 1 rfl); have k2 := over_cell hC bA1.lt (bA1.c 2 rfl); have k3 := over_cell hC bA1.lt (bA1.c 3 rfl); have k4 := over_cell hC bA1.lt (bA1.c 4 rfl); have k5 := over_cell hC bA1.lt (bA1.c 5 rfl); have k6 := over_cell hC bE.lt (bE.c 0 rfl); have k7 := over_cell hC bE.lt (bE.c 1 rfl); have k8 := over_cell hC bE.lt (bE.c 2 rfl); have k9 := over_cell hC bE.lt (bE.c 3 rfl); have k10 := over_cell hC bE.lt (bE.c 4 rfl); have k11 := over_cell hC bE.lt (bE.c 5 rfl); have k12 := over_cell hC bE.lt (bE.c 6 rfl); go_wp2
          go_ret
          exact ⟨ret_bool HF.out.symm, below_step B0 (over_step hB1 hC)⟩
         ·obtain ⟨r, hr⟩ : ∃ r, or4 (rk E.pr E.p.length 100 0) (lx E.p []) (lx E.c []) (nm E.bw N.bw) = r := ⟨_, rfl⟩
          have HR4 := Lib.hid (And.intro hp8 hr); have HME := Lib.hid hmem
          by_cases hr0 : r = 0
          ·have HOK : Hid (knowM N.an N.bw N.own E = true) := Lib.hid (by unfold knowM; rw [if_neg hpe, hmem, Bool.true_and]; exact or4_zero8.1 (hr.trans hr0))
           have hrb : (r != 0) = false := by simp [hr0]
           have HPE := Lib.hid hpe; clear hmem hr hr0; obtain ⟨V1, hV1⟩ : ∃ V1, V1 = wr.alloc (.cells #[.int .i64 E.a, .int .i64 E.n, .int .i64 E.pe, .slice pa E.p.length px, .int .i64 E.pr, .slice qa E.c.length qx, .int .i64 E.bw] EI) := ⟨_, rfl⟩; have bA1 := bA.keep hB1; rw [← hV1] at bE hp1 hq1 hB1 hO1 bA1 e2; go_wp2_with fail; rw [← hV1]; clear hV1 g0 g1 g2 g3 g4 g5 g6 a0 a1 a2 a3 a4 a5 A1; refine wp_region_class (C := Over (V1)) (by kernel_rfl) (by kernel_rfl) (over_drew _) ?_
           repeat (first | go_big_quiet_skip | (go_big_quiet_want; go_big_quiet_op; go_big_quiet_on) | (go_big_quiet_want; go_big_quiet_op; apply Exists.intro; refine ⟨fun w' hC => ?_, ?_⟩; ((first | (go_at_call 116; refine (sgone_t _ (hO1.keep hC) HME).mono ?_; rintro e w1 ⟨rfl, hb1⟩; exact ⟨rfl, over_step hC hb1⟩) | (go_at_call 125; refine (smine8_any _ _ _ N _).mono ?_; rintro e w1 ⟨rfl, hb1⟩; exact ⟨rfl, over_step hC hb1⟩) | (go_at_call 102; refine (scmp8_t pa qa px qx E.p E.c E.pr E.bw N.bw r _ (rdI_over hp1 hC) (rdI_over hq1 hC) HR4).mono ?_; rintro e w1 ⟨rfl, hb1⟩; exact ⟨rfl, over_step hC hb1⟩))); go_big_quiet_on) | (go_big_quiet_want; apply Exists.intro; refine ⟨fun w' hC => ?_, ?_⟩; (have k0 := over_cell hC bA1.lt (bA1.c 0 rfl); have k1 := over_cell hC bA1.lt (bA1.c 1 rfl); have k2 := over_cell hC bA1.lt (bA1.c 2 rfl); have k3 := over_cell hC bA1.lt (bA1.c 3 rfl); have k4 := over_cell hC bA1.lt (bA1.c 4 rfl); have k5 := over_cell hC bA1.lt (bA1.c 5 rfl); have k6 := over_cell hC bE.lt (bE.c 0 rfl); have k7 := over_cell hC bE.lt (bE.c 1 rfl); have k8 := over_cell hC bE.lt (bE.c 2 rfl); have k9 := over_cell hC bE.lt (bE.c 3 rfl); have k10 := over_cell hC bE.lt (bE.c 4 rfl); have k11 := over_cell hC bE.lt (bE.c 5 rfl); have k12 := over_cell hC bE.lt (bE.c 6 rfl); simp [Oper.quietAt, Oper.quietUpon, go_sem, k0, k1, k2, k3, k4, k5, k6, k7, k8, k9, k10, k11, k12]; first | done | rfl); go_big_quiet_on; simp only [Act.put, List.setIfInBounds_toArray, List.set_cons_zero, List.set_cons_succ]))
           refine wpQuiet_nil ?_; intro wr hC; have k0 := over_cell hC bA1.lt (bA1.c 0 rfl); have k1 := over_cell hC bA1.lt (bA1.c 1 rfl); have k2 := over_cell hC bA1.lt (bA1.c 2 rfl); have k3 := over_cell hC bA1.lt (bA1.c 3 rfl); have k4 := over_cell hC bA1.lt (bA1.c 4 rfl); have k5 := over_cell hC bA1.lt (bA1.c 5 rfl); have k6 := over_cell hC bE.lt (bE.c 0 rfl); have k7 := over_cell hC bE.lt (bE.c 1 rfl); have k8 := over_cell hC bE.lt (bE.c 2 rfl); have k9 := over_cell hC bE.lt (bE.c 3 rfl); have k10 := over_cell hC bE.lt (bE.c 4 rfl); have k11 := over_cell hC bE.lt (bE.c 5 rfl); have k12 := over_cell hC bE.lt (bE.c 6 rfl); go_wp2
           go_roundw
           case rel => exact ⟨k + 1, by omega, by go_num, by rw [HNX.out, if_neg (by have := HPE.out; omega)]; go_num, allNext HY.out HX.out HOK.out, over_step hB1 hC⟩
           case measure => simp [intOf]; omega
          ·have HF : Hid (ndB N = false) := Lib.hid (by
            rw [HND.out, all_no (by rw [← HRN.out]; exact hlt) HX.out (by
             unfold knowM; rw [if_neg hpe, hmem, Bool.true_and]; cases hs : sameB E.p E.pr E.c E.bw [] 100 [] N.bw
             ·rfl
             ·exact absurd (hr.symm.trans (or4_zero8.2 hs)) hr0)]
            rfl)
           have hrb : (r != 0) = true := by simp [hr0]
           clear hmem hr hr0; obtain ⟨V1, hV1⟩ : ∃ V1, V1 = wr.alloc (.cells #[.int .i64 E.a, .int .i64 E.n, .int .i64 E.pe, .slice pa E.p.length px, .int .i64 E.pr, .slice qa E.c.length qx, .int .i64 E.bw] EI) := ⟨_, rfl⟩; have bA1 := bA.keep hB1; rw [← hV1] at bE hp1 hq1 hB1 hO1 bA1 e2; go_wp2_with fail; rw [← hV1]; clear hV1 g0 g1 g2 g3 g4 g5 g6 a0 a1 a2 a3 a4 a5 A1; refine wp_region_class (C := Over (V1)) (by kernel_rfl) (by kernel_rfl) (over_drew _) ?_
           repeat (first | go_big_quiet_skip | (go_big_quiet_want; go_big_quiet_op; go_big_quiet_on) | (go_big_quiet_want; go_big_quiet_op; apply Exists.intro; refine ⟨fun w' hC => ?_, ?_⟩; ((first | (go_at_call 116; refine (sgone_t _ (hO1.keep hC) HME).mono ?_; rintro e w1 ⟨rfl, hb1⟩; exact ⟨rfl, over_step hC hb1⟩) | (go_at_call 125; refine (smine8_any _ _ _ N _).mono ?_; rintro e w1 ⟨rfl, hb1⟩; exact ⟨rfl, over_step hC hb1⟩) | (go_at_call 102; refine (scmp8_t pa qa px qx E.p E.c E.pr E.bw N.bw r _ (rdI_over hp1 hC) (rdI_over hq1 hC) HR4).mono ?_; rintro e w1 ⟨rfl, hb1⟩; exact ⟨rfl, over_step hC hb1⟩))); go_big_quiet_on) | (go_big_quiet_want; apply Exists.intro; refine ⟨fun w' hC => ?_, ?_⟩; (have k0 := over_cell hC bA1.lt (bA1.c 0 rfl); have k1 := over_cell hC bA1.lt (bA1.c 1 rfl); have k2 := over_cell hC bA1.lt (bA1.c 2 rfl); have k3 := over_cell hC bA1.lt (bA1.c 3 rfl); have k4 := over_cell hC bA1.lt (bA1.c 4 rfl); have k5 := over_cell hC bA1.lt (bA1.c 5 rfl); have k6 := over_cell hC bE.lt (bE.c 0 rfl); have k7 := over_cell hC bE.lt (bE.c 1 rfl); have k8 := over_cell hC bE.lt (bE.c 2 rfl); have k9 := over_cell hC bE.lt (bE.c 3 rfl); have k10 := over_cell hC bE.lt (bE.c 4 rfl); have k11 := over_cell hC bE.lt (bE.c 5 rfl); have k12 := over_cell hC bE.lt (bE.c 6 rfl); simp [Oper.quietAt, Oper.quietUpon, go_sem, k0, k1, k2, k3, k4, k5, k6, k7, k8, k9, k10, k11, k12]; first | done | rfl); go_big_quiet_on; simp only [Act.put, List.setIfInBounds_toArray, List.set_cons_zero, List.set_cons_succ]))
           refine wpQuiet_nil ?_; intro wr hC; have k0 := over_cell hC bA1.lt (bA1.c 0 rfl); have k1 := over_cell hC bA1.lt (bA1.c 1 rfl); have k2 := over_cell hC bA1.lt (bA1.c 2 rfl); have k3 := over_cell hC bA1.lt (bA1.c 3 rfl); have k4 := over_cell hC bA1.lt (bA1.c 4 rfl); have k5 := over_cell hC bA1.lt (bA1.c 5 rfl); have k6 := over_cell hC bE.lt (bE.c 0 rfl); have k7 := over_cell hC bE.lt (bE.c 1 rfl); have k8 := over_cell hC bE.lt (bE.c 2 rfl); have k9 := over_cell hC bE.lt (bE.c 3 rfl); have k10 := over_cell hC bE.lt (bE.c 4 rfl); have k11 := over_cell hC bE.lt (bE.c 5 rfl); have k12 := over_cell hC bE.lt (bE.c 6 rfl); go_wp2
           go_ret
           exact ⟨ret_bool HF.out.symm, below_step B0 (over_step hB1 hC)⟩
       ·have hkn : k = rn := by omega
        have HR2 : Hid (N.rib.all (knowM N.an N.bw N.own) = true) := Lib.hid (all_yes HRN.out (fun i hi => HY.out i (by omega))); have e : N.rib.take k = N.rib := List.take_of_length_le (by rw [hkn, HRN.out]; exact Nat.le_refl _); rw [e]; clear e hkn hc; go_wp2
        go_loopw [6] (fun i w6 => ∃ j : Nat, j ≤ sn ∧ i = .int .i64 j ∧ (∀ i, i < j → sendB (N.sent.getD i e0) = true) ∧ Over V w6) (fun i _ => sn - (intOf i).toNat)
        case atStart => exact ⟨0, Nat.zero_le _, rfl, fun i hi => by omega, hB⟩
        case round =>
         clear hB a0 a1 a2 a3 a4 a5; obtain ⟨j, hj, rfl, hyes, hB2⟩ := hrel; have HY2 := Lib.hid hyes; clear hyes; have a0 := over_cell hB2 bA.lt (bA.c 0 rfl); have a1 := over_cell hB2 bA.lt (bA.c 1 rfl); have a2 := over_cell hB2 bA.lt (bA.c 2 rfl); have a3 := over_cell hB2 bA.lt (bA.c 3 rfl); have a4 := over_cell hB2 bA.lt (bA.c 4 rfl); have a5 := over_cell hB2 bA.lt (bA.c 5 rfl)
         by_cases hlt2 : j < sn
         ·have hltI : (j : Int) < (sn : Int) := by omega
          obtain ⟨b, o, rfl, hE⟩ := hd j hlt2; obtain ⟨E, hx⟩ : ∃ E, N.sent.getD j e0 = E := ⟨_, rfl⟩; rw [hx] at hE; have hkR : j < N.sent.length := by rw [← HSN.out]; exact hlt2
          have hpe1 := rib_peer HS.out j hkR; rw [hx] at hpe1; have HX := Lib.hid hx; obtain ⟨pv, cv, hp, hq, g0, g1, g2, g3, g4, g5, g6⟩ := hE.keep hB2; obtain ⟨pa, px, rfl⟩ := hp.len; obtain ⟨qa, qx, rfl⟩ := hq.len; have HC := Lib.hid hd; clear hx hd hE hp hq
          by_cases hpe : E.pe < 0
          ·have HF : Hid (ndB N = false) := Lib.hid (by rw [HND.out, all_no hkR HX.out (by unfold sendB; rw [show E.pe = -1 by omega]; rfl), Bool.and_false])
           clear hkR hpe1; go_wp2
           go_ret
           exact ⟨ret_bool HF.out.symm, below_step B0 hB2⟩
          ·by_cases h0 : E.p.length = 0
           ·have HF : Hid (ndB N = false) := Lib.hid (by rw [HND.out, all_no hkR HX.out (by unfold sendB; rw [h0]; simp), Bool.and_false])
            rw [h0] at g3; clear hkR hpe1 h0; go_wp2
            go_ret
            exact ⟨ret_bool HF.out.symm, below_step B0 hB2⟩
           ·have HOK : Hid (sendB E = true) := Lib.hid (by
             unfold sendB; rw [show (E.pe == -1) = false by simp; omega]; simp only [Bool.not_false, Bool.true_and, decide_eq_true_eq]
             omega)
            have h0b : ((E.p.length : Int) == 0) = false := by rw [beq_eq_false_iff_ne]; omega
            clear hkR hpe1; go_wp2
            go_roundw
            case rel => exact ⟨j + 1, by omega, by go_num, allNext (f := fun E => sendB E) HY2.out HX.out HOK.out, hB2⟩
            case measure => simp [intOf]; omega
         ·have HS2 : Hid ((N.sent.all fun E => sendB E) = true) := Lib.hid (all_yes HSN.out (fun i hi => HY2.out i (by omega)))
          clear hd; cases hcnt : decide (ownN N.rib = N.own.length)
          ·have HF : Hid (ndB N = false) := Lib.hid (by rw [HND.out, hcnt, Bool.and_false, Bool.false_and])
           have hcb : ((ownN N.rib : Int) == (on : Int)) = false := by
            rw [beq_eq_false_iff_ne]; intro q; rw [decide_eq_false_iff_not] at hcnt
            exact hcnt (by rw [← HON.out]; omega)
           clear hcnt; go_wp2
           go_ret
           exact ⟨ret_bool HF.out.symm, below_step B0 hB2⟩
          ·have HF : Hid (ndB N = true) := Lib.hid (by rw [HND.out, hcnt, HS2.out, HR2.out]; rfl)
           have hcb : ((ownN N.rib : Int) == (on : Int)) = true := by
            rw [beq_iff_eq]; rw [decide_eq_true_eq] at hcnt; rw [HON.out, hcnt]
           clear hcnt; go_wp2
           go_ret
           exact ⟨ret_bool HF.out.symm, below_step B0 hB2⟩
end Go.Proofs.YtkodnipmogdgkaaGreat
namespace Go.Proofs.YtkodnipmogdgkaaGreat
open Go.ChangeShapes Go.WideShapes Go.ChangeAt Go.RowKit Go.BigFrame Go.Joins
set_option linter.unusedVariables false
set_option maxRecDepth 100000
set_option linter.unusedSimpArgs false
set_option maxRecDepth 100000

/-- the numbers of its slices are numbers -/
def BdN (N : Nd) : Prop := (∀ i, i < N.rib.length → BdE (N.rib.getD i e0)) ∧ ∀ i, i < N.sent.length → BdE (N.sent.getD i e0)
theorem RdN.bd {w : World} {ov rv sv : Value} {N : Nd} (h : RdN w ov rv sv N) : BdN N := ⟨h.2.1.bd, h.2.2.bd⟩
theorem sndok_t {ov rv sv : Value} {N : Nd} {b : Bool} (w : World) (h : RdN w ov rv sv N) (H : Hid (ndB N = b)) :
  Calls Tryz.prog 74 #[.agg #[.int .i64 N.an, ov, .int .i64 N.bw, .bool N.dr, rv, sv]] w fun e w' => e = .returned (.bool b) ∧ Below w.heap.size w w' := H.out ▸ sndok_any ov rv sv N w h
end Go.Proofs.YtkodnipmogdgkaaGreat
namespace Go.Proofs.YtkodnipmogdgkaaGreat
open Go.ChangeShapes Go.WideShapes Go.ChangeAt Go.RowKit Go.BigFrame Go.Joins
set_option linter.unusedVariables false
set_option linter.unusedSimpArgs false
set_option maxRecDepth 100000

theorem wp_appPS {ops : Array Oper} {rest : List Oper} {o : Oper} {a : Act} {Q : Exit → Act → World → Prop} {w : World} (hgd : o.guard = none) (s x : Operand)
  (ho : o.op = .call { callee := .builtin .append, args := #[s, x], argTypes := #[53, 53] })
  (base : Nat) (v u : Value) (l m : List (Int × Int)) (hs : a.eval s = v) (hx : a.eval x = u) (hown : OwnP w base v l) (hu : RdP w u m) (hlen : l.length + m.length ≤ 4294967296) (hbase : base ≤ w.heap.size)
  (h : ∀ v' w', OwnP w' base v' (l ++ m) → w.grownBy w' v.ownBlock → wpList Tryz.prog ops Q rest (a.put o.dst v') w') : wpList Tryz.prog ops Q (o :: rest) a w := by
 obtain ⟨i0, hi, hz0, hz1, hz2⟩ := info_parts infoP; have hmap : (flat l).map (Value.int .i64) ++ (flat m).map (Value.int .i64) = (flat (l ++ m)).map (Value.int .i64) := by rw [flat_append, List.map_append]
 have hl2 : (l ++ m).length = l.length + m.length := by simp
 have done : ∀ (ad : Addr) (c : Nat), u = .slice (some ad) m.length c → (∀ j y, ((flat m).map (Value.int .i64))[j]? = some y → w.cell? (ad.add j) = some y) → wpList Tryz.prog ops Q (o :: rest) a w := by
  intro ad c hv hc; refine wpList_append_own w hgd s x 53 ho base PT i0 (.agg #[.int .i64 0, .int .i64 0]) 2 16 Tryz.underlying53 hi hz0 hz1 hz2 rfl (by decide) v l.length ((flat l).map (Value.int .i64)) hs hown ad m.length c ((flat m).map (Value.int .i64)) (hx.trans hv) (by simp [flat_len]) hc (by simp [Value.oneCell']) (by unfold maxLen; omega) (by omega) hbase ?_; intro v' w' ho' hg' _; refine h v' w' ?_ hg'; unfold OwnP; rw [hl2, ← hmap]
  exact ho'
 obtain ⟨hm, ⟨p, c, hv, rfl, hac⟩ | ⟨b, off, c, hv, hp, hc⟩⟩ := hu
 ·cases p with
  | none =>
   have hc0 := hac rfl; subst hc0; refine wpList_append_own_none hgd s x 53 ho base PT i0 2 Tryz.underlying53 hi v l.length ((flat l).map (Value.int .i64)) hs hown (hx.trans hv) ?_
   exact h v w (by simpa using hown) ⟨rfl, rfl, rfl, Nat.le_refl _, fun _ _ _ => rfl⟩
  | some ad => exact done ad c hv (by simp [flat])
 ·refine done ⟨b, off, none⟩ c hv (fun j y hy => ?_)
  have hj : j < m.length * 2 := by
   have := (List.getElem?_eq_some_iff.1 hy).1; rw [List.length_map, flat_len] at this
   exact this
  have hadd : (⟨b, off, none⟩ : Addr).add j = ⟨b, off + j, none⟩ := by unfold Addr.add; split <;> simp_all
  rw [hadd]; obtain ⟨i, hi' | hi'⟩ : ∃ i, j = i * 2 ∨ j = i * 2 + 1 := ⟨j / 2, by omega⟩
  ·have e := flat_get m i (by omega)
   subst hi'; rw [List.getElem?_map, e.1] at hy; rw [(hc i (by omega)).1]
   simpa using hy
  ·have e := flat_get m i (by omega)
   subst hi'; rw [List.getElem?_map, e.2] at hy; rw [show off + (i * 2 + 1) = off + i * 2 + 1 by omega, (hc i (by omega)).2]
   simpa using hy
theorem OwnP.lenS8 {w : World} {base : Nat} {v : Value} {l : List (Int × Int)} (h : OwnP w base v l) : ∃ a c, v = .slice a l.length c := by
 obtain ⟨a, c, hv, -⟩ := h.cap
 exact ⟨a, c, hv⟩
theorem NdT.far {w : World} {b0 h1 h2 h3 C o : Nat} {ov ru su u : Value} {own : List (Int × Int)} {T1 T2 : List ET} (h : NdT w b0 h1 h2 h3 ov ru su own T1 T2) (hC : C < b0) : NdT (w.setCell ⟨C, o, none⟩ u) b0 h1 h2 h3 ov ru su own T1 T2 :=
 ⟨h.o.far hC, h.oh, h.r.far (Nat.lt_of_lt_of_le hC h.q1), h.ri, h.s.far (Nat.lt_of_lt_of_le hC (Nat.le_trans h.q1 h.q2)), h.si, h.q1, h.q2, h.q3⟩
/-- a switch of the call's own that reads as D -/
def NewNdT (w : World) (D : Nd) (e : Ending) (w' : World) : Prop :=
 ∃ ov ru su T1 T2 b0 h1 h2, e = .returned (.agg #[.int .i64 D.an, ov, .int .i64 D.bw, .bool D.dr, ru, su]) ∧ NdT w' b0 h1 h2 w'.heap.size ov ru su D.own T1 T2 ∧ entT T1 = D.rib ∧ entT T2 = D.sent ∧ w.heap.size ≤ b0 ∧ Below w.heap.size w w'
theorem NdT.rd {w : World} {b0 h1 h2 h3 : Nat} {ov ru su : Value} {D : Nd} {T1 T2 : List ET} (h : NdT w b0 h1 h2 h3 ov ru su D.own T1 T2) (e1 : entT T1 = D.rib) (e2 : entT T2 = D.sent) (hd : BdN D) : RdN w ov ru su D :=
 ⟨h.o.rd, e1 ▸ h.r.rd (fun t ht => bd_mem (L := D.rib) hd.1 (e1 ▸ entT_mem ht)), e2 ▸ h.s.rd (fun t ht => bd_mem (L := D.sent) hd.2 (e2 ▸ entT_mem ht))⟩
theorem NdT.lens {w : World} {b0 h1 h2 h3 : Nat} {ov ru su : Value} {own : List (Int × Int)} {T1 T2 : List ET} (h : NdT w b0 h1 h2 h3 ov ru su own T1 T2) : (∃ a c, ov = .slice a own.length c) ∧ (∃ a c, ru = .slice a T1.length c) ∧ ∃ a c, su = .slice a T2.length c := ⟨h.o.lenS8, h.r.lenV, h.s.lenV⟩
set_option maxHeartbeats 2000000 in
theorem icopy8_any (ov rv sv : Value) (N : Nd) (w : World) (h : RdN w ov rv sv N) (hn : wtN N ≤ 1048576) :
  Calls Tryz.prog 79 #[.agg #[.int .i64 N.an, ov, .int .i64 N.bw, .bool N.dr, rv, sv]] w (NewNdT w N) := by
 have hl1 : N.own.length ≤ 1048576 := by unfold wtN at hn; omega
 have hl2 : N.rib.length + wtE N.rib ≤ 1048576 := by unfold wtN at hn; omega
 have hl3 : N.sent.length + wtE N.sent ≤ 1048576 := by unfold wtN at hn; omega
 obtain ⟨oa, oc, hov⟩ := h.1.len; obtain ⟨ra, rc, hrv⟩ := h.2.1.len; obtain ⟨sa, sc, hsv⟩ := h.2.2.len; subst hov hrv hsv; obtain ⟨bA, bR, B1, z⟩ := two w [.int .i64 N.an, .slice oa N.own.length oc, .int .i64 N.bw, .bool N.dr, .slice ra N.rib.length rc, .slice sa N.sent.length sc] [.int .i64 0, .slice none 0 0, .int .i64 0, .bool false, .slice none 0 0, .slice none 0 0] 58 58; obtain ⟨V, hV⟩ : ∃ V, V = (w.alloc (.cells #[.int .i64 N.an, .slice oa N.own.length oc, .int .i64 N.bw, .bool N.dr, .slice ra N.rib.length rc, .slice sa N.sent.length sc] 58)).alloc (.cells #[.int .i64 0, .slice none 0 0, .int .i64 0, .bool false, .slice none 0 0, .slice none 0 0] 58) := ⟨_, rfl⟩; have a1 := bA.c 1 rfl; clear hn
 go_enter Tryz.func79, Tryz.ntmps79
 go_wp2_with (at_builtin; refine Hid.out ?_); refine Lib.hid ?_; rw [← hV] at bA bR B1 z ⊢; obtain ⟨A, hA⟩ : ∃ A, A = w.heap.size := ⟨_, rfl⟩; obtain ⟨R, hR⟩ : ∃ R, R = w.heap.size + 1 := ⟨_, rfl⟩; rw [← hA] at bA; rw [← hR] at bR; rw [← hR]
 try rw [← hA]
 have hAR : A ≠ R := by omega
 have hwA : w.heap.size ≤ A := by omega
 have hwR : w.heap.size ≤ R := by omega
 have hAV : A < V.heap.size := by rw [z]; omega
 have hRV : R < V.heap.size := by rw [z]; omega
 have hwV : w.heap.size ≤ V.heap.size := by omega
 have hVA : A + 2 = V.heap.size := by omega
 clear hV hA hR z a1; refine wp_appPS rfl _ _ rfl V.heap.size (.slice none 0 0) (.slice oa N.own.length oc) [] N.own rfl rfl (World.ownsRow_nil _ _ _ _) (h.keep B1).1 (by simp; omega) (Nat.le_refl _) ?_; intro v1 w1 ho1 hg1; rw [List.nil_append] at ho1; obtain ⟨x1, y1, rfl⟩ := ho1.lenS8; replace bA := bA.grown hg1 (by simp [Value.ownBlock]); replace bR := bR.grown hg1 (by simp [Value.ownBlock]); have B2 : Below w.heap.size w w1 := Below.grown B1 hg1 B1.size (fun k hk => by simp [Value.ownBlock] at hk); have hVw : V.heap.size ≤ w1.heap.size := hg1.size; clear hg1 B1; have a1 := bA.c 1 rfl; have af1 := bA.f 1 rfl; have a4 := bA.c 4 rfl; go_wp2_with fail; clear a1 af1 a4; have bA2 := bA.set 1 (.slice x1 N.own.length y1); have bR2 := bR.far (o := 1) (u := .slice x1 N.own.length y1) hAR.symm; have ho2 := ho1.far (o := 1) (u := .slice x1 N.own.length y1) hAV; have B3 := B2.setCell (p := ⟨A, 1, none⟩) hwA (.slice x1 N.own.length y1); obtain ⟨W2, hW2⟩ : ∃ W, W = w1.setCell ⟨A, 1, none⟩ (.slice x1 N.own.length y1) := ⟨_, rfl⟩; have hVW : V.heap.size ≤ W2.heap.size := by rw [hW2]; simpa using hVw
 rw [← hW2] at bA2 bR2 ho2 B3 ⊢; have HOH : Hid (∀ k, (Value.slice x1 N.own.length y1).ownBlock = some k → k < W2.heap.size) := Lib.hid fun k hk => (World.ownsRow.lt ho2 k hk).2
 clear hW2 bA bR ho1 B2 hVw; simp only [List.set_cons_zero, List.set_cons_succ] at bA2; refine (irc_any _ N.rib W2 (h.keep B3).2.1 (by omega) (lens_of hl2)).mono ?_; rintro e w2 ⟨ru, T1, rfl, hT1, hE1, hb⟩; obtain ⟨x2, y2, rfl⟩ := hT1.lenV; have HE1 := Lib.hid hE1; have hI1 := Lib.hid hT1.inH; have hs2 := hb.size; replace bA2 := bA2.keep hb; replace bR2 := bR2.keep hb; replace ho2 := ho2.keep hb; replace B3 := below_step B3 hb; clear hb hE1; have a4 := bA2.c 4 rfl; have af4 := bA2.f 4 rfl; have a5 := bA2.c 5 rfl; go_wp2_with fail; clear a4 af4 a5; have bA3 := bA2.set 4 (.slice x2 T1.length y2); have bR3 := bR2.far (o := 4) (u := .slice x2 T1.length y2) hAR.symm; have ho3 := ho2.far (o := 4) (u := .slice x2 T1.length y2) hAV; have hT13 := hT1.far (o := 4) (u := .slice x2 T1.length y2) (Nat.lt_of_lt_of_le hAV hVW); have B4 := B3.setCell (p := ⟨A, 4, none⟩) hwA (.slice x2 T1.length y2); obtain ⟨W3, hW3⟩ : ∃ W, W = w2.setCell ⟨A, 4, none⟩ (.slice x2 T1.length y2) := ⟨_, rfl⟩; have hs3 : w2.heap.size = W3.heap.size := by rw [hW3]; simp
 rw [← hW3] at bA3 bR3 ho3 hT13 B4 ⊢; rw [hs3] at hI1 hs2; clear hW3 bA2 bR2 ho2 B3 hT1 hs3; simp only [List.set_cons_zero, List.set_cons_succ] at bA3; refine (irc_any _ N.sent W3 (h.keep B4).2.2 (by omega) (lens_of hl3)).mono ?_; rintro e w3 ⟨su, T2, rfl, hT2, hE2, hb⟩; obtain ⟨x3, y3, rfl⟩ := hT2.lenV; have HE2 := Lib.hid hE2; have hI2 := Lib.hid hT2.inH; have hs4 := hb.size; replace bA3 := bA3.keep hb; replace bR3 := bR3.keep hb; replace ho3 := ho3.keep hb; replace hT13 := hT13.keep hb; replace B4 := below_step B4 hb
 have hN : NdT w3 V.heap.size W2.heap.size W3.heap.size w3.heap.size (.slice x1 N.own.length y1) (.slice x2 T1.length y2) (.slice x3 T2.length y3) N.own T1 T2 :=
  ⟨ho3, HOH.out, hT13, hI1.out, hT2, hI2.out, hVW, hs2, hs4⟩
 clear hb hE2 h ho3 hT13 hT2; have bA4 := bA3.set 5 (.slice x3 T2.length y3); have bR4 := bR3.far (o := 5) (u := .slice x3 T2.length y3) hAR.symm; have hN4 := hN.far (C := A) (o := 5) (u := .slice x3 T2.length y3) hAV; have B5 := B4.setCell (p := ⟨A, 5, none⟩) hwA (.slice x3 T2.length y3); have a5 := bA3.c 5 rfl; have af5 := bA3.f 5 rfl; have k0 := bA4.c 0 rfl; have k1 := bA4.c 1 rfl; have k2 := bA4.c 2 rfl; have k3 := bA4.c 3 rfl; have k4 := bA4.c 4 rfl; have k5 := bA4.c 5 rfl; have r0 := bR4.c 0 rfl; have rf0 := bR4.f 0 rfl; have r1 := bR4.c 1 rfl; have rf1 := bR4.f 1 rfl; have r2 := bR4.c 2 rfl; have rf2 := bR4.f 2 rfl; have r3 := bR4.c 3 rfl; have rf3 := bR4.f 3 rfl; have r4 := bR4.c 4 rfl; have rf4 := bR4.f 4 rfl; have r5 := bR4.c 5 rfl; have rf5 := bR4.f 5 rfl; go_wp2_with fail; have bE := ((((((bR4.set 0 (.int .i64 N.an)).set 1 (.slice x1 N.own.length y1)).set 2 (.int .i64 N.bw)).set 3 (.bool N.dr)).set 4 (.slice x2 T1.length y2)).set 5 (.slice x3 T2.length y3)); have e0 := bE.c 0 rfl; have e1 := bE.c 1 rfl; have e2 := bE.c 2 rfl; have e3 := bE.c 3 rfl; have e4 := bE.c 4 rfl; have e5 := bE.c 5 rfl
 exact bodyPost_ret (v := .agg #[.int .i64 N.an, .slice x1 N.own.length y1, .int .i64 N.bw, .bool N.dr, .slice x2 T1.length y2, .slice x3 T2.length y3]) (by simp [results, Tryz.results79, go_sem, e0, e1, e2, e3, e4, e5]) rfl
  ⟨_, _, _, T1, T2, V.heap.size, W2.heap.size, W3.heap.size, rfl, by simpa using ((((((hN4.far (C := R) (o := 0) (u := .int .i64 N.an) hRV).far (C := R) (o := 1) (u := .slice x1 N.own.length y1) hRV).far (C := R) (o := 2) (u := .int .i64 N.bw) hRV).far (C := R) (o := 3) (u := .bool N.dr) hRV).far (C := R) (o := 4) (u := .slice x2 T1.length y2) hRV).far (C := R) (o := 5) (u := .slice x3 T2.length y3) hRV), HE1.out, HE2.out, hwV, ((((((B5.setCell (p := ⟨R, 0, none⟩) hwR (.int .i64 N.an)).setCell (p := ⟨R, 1, none⟩) hwR (.slice x1 N.own.length y1)).setCell (p := ⟨R, 2, none⟩) hwR (.int .i64 N.bw)).setCell (p := ⟨R, 3, none⟩) hwR (.bool N.dr)).setCell (p := ⟨R, 4, none⟩) hwR (.slice x2 T1.length y2)).setCell (p := ⟨R, 5, none⟩) hwR (.slice x3 T2.length y3))⟩
set_option maxHeartbeats 2000000 in
theorem sown8_any (ov rv sv : Value) (N : Nd) (w : World) (h : RdN w ov rv sv N) (hn : wtN N ≤ 1048576) :
  Calls Tryz.prog 76 #[.agg #[.int .i64 N.an, ov, .int .i64 N.bw, .bool N.dr, rv, sv]] w (NewNdT w N) := by
 have hl1 : N.own.length ≤ 1048576 := by unfold wtN at hn; omega
 have hl2 : N.rib.length + wtE N.rib ≤ 1048576 := by unfold wtN at hn; omega
 have hl3 : N.sent.length + wtE N.sent ≤ 1048576 := by unfold wtN at hn; omega
 obtain ⟨oa, oc, hov⟩ := h.1.len; obtain ⟨ra, rc, hrv⟩ := h.2.1.len; obtain ⟨sa, sc, hsv⟩ := h.2.2.len; subst hov hrv hsv; obtain ⟨bA, bR, B1, z⟩ := two w [.int .i64 N.an, .slice oa N.own.length oc, .int .i64 N.bw, .bool N.dr, .slice ra N.rib.length rc, .slice sa N.sent.length sc] [.int .i64 0, .slice none 0 0, .int .i64 0, .bool false, .slice none 0 0, .slice none 0 0] 58 58; obtain ⟨V, hV⟩ : ∃ V, V = (w.alloc (.cells #[.int .i64 N.an, .slice oa N.own.length oc, .int .i64 N.bw, .bool N.dr, .slice ra N.rib.length rc, .slice sa N.sent.length sc] 58)).alloc (.cells #[.int .i64 0, .slice none 0 0, .int .i64 0, .bool false, .slice none 0 0, .slice none 0 0] 58) := ⟨_, rfl⟩; have a1 := bA.c 1 rfl; clear hn
 go_enter Tryz.func76, Tryz.ntmps76
 go_wp2_with (at_builtin; refine Hid.out ?_); refine Lib.hid ?_; rw [← hV] at bA bR B1 z ⊢; obtain ⟨A, hA⟩ : ∃ A, A = w.heap.size := ⟨_, rfl⟩; obtain ⟨R, hR⟩ : ∃ R, R = w.heap.size + 1 := ⟨_, rfl⟩; rw [← hA] at bA; rw [← hR] at bR; rw [← hR]
 try rw [← hA]
 have hAR : A ≠ R := by omega
 have hwA : w.heap.size ≤ A := by omega
 have hwR : w.heap.size ≤ R := by omega
 have hAV : A < V.heap.size := by rw [z]; omega
 have hRV : R < V.heap.size := by rw [z]; omega
 have hwV : w.heap.size ≤ V.heap.size := by omega
 have hVA : A + 2 = V.heap.size := by omega
 clear hV hA hR z a1; obtain ⟨bZ, N0, z0⟩ := one V ([] : List Value) PT
 have hem : OwnP (V.alloc (.cells #[] PT)) V.heap.size (.slice (some ⟨A + 2, 0, none⟩) 0 0) [] := by
  rw [hVA]
  exact World.ownsRow_lit (e := PT) (size := 2) V #[] 0 (Nat.le_refl _) (by simp) (by simp)
 refine wp_appPS rfl _ _ rfl V.heap.size (.slice (some ⟨A + 2, 0, none⟩) 0 0) (.slice oa N.own.length oc) [] N.own rfl rfl hem ((h.keep B1).1.keep N0) (by simp; omega) (Nat.le_trans (Nat.le_refl _) N0.size) ?_; intro v1 w1 ho1 hg1; rw [List.nil_append] at ho1; obtain ⟨x1, y1, rfl⟩ := ho1.lenS8; replace bA := (bA.keep N0).grown hg1 (by simp [Value.ownBlock]); replace bR := (bR.keep N0).grown hg1 (by simp [Value.ownBlock]; omega); have B2 : Below w.heap.size w w1 := Below.grown (below_step B1 N0) hg1 (below_step B1 N0).size (fun k hk => by simp [Value.ownBlock] at hk; omega); have hVw : V.heap.size ≤ w1.heap.size := Nat.le_trans N0.size hg1.size; clear hg1 B1; have a1 := bA.c 1 rfl; have af1 := bA.f 1 rfl; have a4 := bA.c 4 rfl; go_wp2_with fail; clear a1 af1 a4; have bA2 := bA.set 1 (.slice x1 N.own.length y1); have bR2 := bR.far (o := 1) (u := .slice x1 N.own.length y1) hAR.symm; have ho2 := ho1.far (o := 1) (u := .slice x1 N.own.length y1) hAV; have B3 := B2.setCell (p := ⟨A, 1, none⟩) hwA (.slice x1 N.own.length y1); obtain ⟨W2, hW2⟩ : ∃ W, W = w1.setCell ⟨A, 1, none⟩ (.slice x1 N.own.length y1) := ⟨_, rfl⟩; have hVW : V.heap.size ≤ W2.heap.size := by rw [hW2]; simpa using hVw
 rw [← hW2] at bA2 bR2 ho2 B3 ⊢; have HOH : Hid (∀ k, (Value.slice x1 N.own.length y1).ownBlock = some k → k < W2.heap.size) := Lib.hid fun k hk => (World.ownsRow.lt ho2 k hk).2
 clear hW2 bA bR ho1 B2 hVw; simp only [List.set_cons_zero, List.set_cons_succ] at bA2; refine (sown6_any _ N.rib W2 (h.keep B3).2.1 (by omega) (lens_of hl2)).mono ?_; rintro e w2 ⟨ru, T1, rfl, hT1, hE1, hb⟩; obtain ⟨x2, y2, rfl⟩ := hT1.lenV; have HE1 := Lib.hid hE1; have hI1 := Lib.hid hT1.inH; have hs2 := hb.size; replace bA2 := bA2.keep hb; replace bR2 := bR2.keep hb; replace ho2 := ho2.keep hb; replace B3 := below_step B3 hb; clear hb hE1; have a4 := bA2.c 4 rfl; have af4 := bA2.f 4 rfl; have a5 := bA2.c 5 rfl; go_wp2_with fail; clear a4 af4 a5; have bA3 := bA2.set 4 (.slice x2 T1.length y2); have bR3 := bR2.far (o := 4) (u := .slice x2 T1.length y2) hAR.symm; have ho3 := ho2.far (o := 4) (u := .slice x2 T1.length y2) hAV; have hT13 := hT1.far (o := 4) (u := .slice x2 T1.length y2) (Nat.lt_of_lt_of_le hAV hVW); have B4 := B3.setCell (p := ⟨A, 4, none⟩) hwA (.slice x2 T1.length y2); obtain ⟨W3, hW3⟩ : ∃ W, W = w2.setCell ⟨A, 4, none⟩ (.slice x2 T1.length y2) := ⟨_, rfl⟩; have hs3 : w2.heap.size = W3.heap.size := by rw [hW3]; simp
 rw [← hW3] at bA3 bR3 ho3 hT13 B4 ⊢; rw [hs3] at hI1 hs2; clear hW3 bA2 bR2 ho2 B3 hT1 hs3; simp only [List.set_cons_zero, List.set_cons_succ] at bA3; refine (sown6_any _ N.sent W3 (h.keep B4).2.2 (by omega) (lens_of hl3)).mono ?_; rintro e w3 ⟨su, T2, rfl, hT2, hE2, hb⟩; obtain ⟨x3, y3, rfl⟩ := hT2.lenV; have HE2 := Lib.hid hE2; have hI2 := Lib.hid hT2.inH; have hs4 := hb.size; replace bA3 := bA3.keep hb; replace bR3 := bR3.keep hb; replace ho3 := ho3.keep hb; replace hT13 := hT13.keep hb; replace B4 := below_step B4 hb
 have hN : NdT w3 V.heap.size W2.heap.size W3.heap.size w3.heap.size (.slice x1 N.own.length y1) (.slice x2 T1.length y2) (.slice x3 T2.length y3) N.own T1 T2 :=
  ⟨ho3, HOH.out, hT13, hI1.out, hT2, hI2.out, hVW, hs2, hs4⟩
 clear hb hE2 h ho3 hT13 hT2; have bA4 := bA3.set 5 (.slice x3 T2.length y3); have bR4 := bR3.far (o := 5) (u := .slice x3 T2.length y3) hAR.symm; have hN4 := hN.far (C := A) (o := 5) (u := .slice x3 T2.length y3) hAV; have B5 := B4.setCell (p := ⟨A, 5, none⟩) hwA (.slice x3 T2.length y3); have a5 := bA3.c 5 rfl; have af5 := bA3.f 5 rfl; have k0 := bA4.c 0 rfl; have k1 := bA4.c 1 rfl; have k2 := bA4.c 2 rfl; have k3 := bA4.c 3 rfl; have k4 := bA4.c 4 rfl; have k5 := bA4.c 5 rfl; have r0 := bR4.c 0 rfl; have rf0 := bR4.f 0 rfl; have r1 := bR4.c 1 rfl; have rf1 := bR4.f 1 rfl; have r2 := bR4.c 2 rfl; have rf2 := bR4.f 2 rfl; have r3 := bR4.c 3 rfl; have rf3 := bR4.f 3 rfl; have r4 := bR4.c 4 rfl; have rf4 := bR4.f 4 rfl; have r5 := bR4.c 5 rfl; have rf5 := bR4.f 5 rfl; go_wp2_with fail; have bE := ((((((bR4.set 0 (.int .i64 N.an)).set 1 (.slice x1 N.own.length y1)).set 2 (.int .i64 N.bw)).set 3 (.bool N.dr)).set 4 (.slice x2 T1.length y2)).set 5 (.slice x3 T2.length y3)); have e0 := bE.c 0 rfl; have e1 := bE.c 1 rfl; have e2 := bE.c 2 rfl; have e3 := bE.c 3 rfl; have e4 := bE.c 4 rfl; have e5 := bE.c 5 rfl
 exact bodyPost_ret (v := .agg #[.int .i64 N.an, .slice x1 N.own.length y1, .int .i64 N.bw, .bool N.dr, .slice x2 T1.length y2, .slice x3 T2.length y3]) (by simp [results, Tryz.results76, go_sem, e0, e1, e2, e3, e4, e5]) rfl
  ⟨_, _, _, T1, T2, V.heap.size, W2.heap.size, W3.heap.size, rfl, by simpa using ((((((hN4.far (C := R) (o := 0) (u := .int .i64 N.an) hRV).far (C := R) (o := 1) (u := .slice x1 N.own.length y1) hRV).far (C := R) (o := 2) (u := .int .i64 N.bw) hRV).far (C := R) (o := 3) (u := .bool N.dr) hRV).far (C := R) (o := 4) (u := .slice x2 T1.length y2) hRV).far (C := R) (o := 5) (u := .slice x3 T2.length y3) hRV), HE1.out, HE2.out, hwV, ((((((B5.setCell (p := ⟨R, 0, none⟩) hwR (.int .i64 N.an)).setCell (p := ⟨R, 1, none⟩) hwR (.slice x1 N.own.length y1)).setCell (p := ⟨R, 2, none⟩) hwR (.int .i64 N.bw)).setCell (p := ⟨R, 3, none⟩) hwR (.bool N.dr)).setCell (p := ⟨R, 4, none⟩) hwR (.slice x2 T1.length y2)).setCell (p := ⟨R, 5, none⟩) hwR (.slice x3 T2.length y3))⟩
end Go.Proofs.YtkodnipmogdgkaaGreat
namespace Go.Proofs.YtkodnipmogdgkaaGreat
open Go.ChangeShapes Go.WideShapes Go.ChangeAt Go.RowKit Go.BigFrame Go.Joins
set_option linter.unusedVariables false
set_option linter.unusedSimpArgs false
set_option maxRecDepth 100000

end Go.Proofs.YtkodnipmogdgkaaGreat
namespace Go.Proofs.YtkodnipmogdgkaaGreat
open Go.ChangeShapes Go.WideShapes Go.ChangeAt Go.RowKit Go.BigFrame Go.Joins
set_option linter.unusedVariables false
set_option maxRecDepth 100000
set_option linter.unusedSimpArgs false
set_option maxRecDepth 100000

theorem app_some {xs ys : List Value} {i : Nat} {x : Value} (h : xs[i]? = some x) : (xs ++ ys)[i]? = some x := by
 rw [List.getElem?_append_left (List.getElem?_eq_some_iff.1 h).1]; exact h
theorem ElM.app {xs : List Value} {w : World} {E : Nat → Prop} {i : Nat} {x : Mg} (h : ElM xs w E i x) (ys : List Value) : ElM (xs ++ ys) w E i x := by
 obtain ⟨gv, cv, pv, mv, ho, k0, k1, k2, k3, k4, k5, k6, k7, k8, k9, k10⟩ := h
 exact ⟨gv, cv, pv, mv, ho, app_some k0, app_some k1, app_some k2, app_some k3, app_some k4, app_some k5, app_some k6, app_some k7, app_some k8, app_some k9, app_some k10⟩
theorem ElM.agr {xs : List Value} {w w' : World} {E : Nat → Prop} {i : Nat} {x : Mg} (h : ElM xs w E i x) (a : AgrS E w w') : ElM xs w' E i x := by
 obtain ⟨gv, cv, pv, mv, ho, k⟩ := h
 exact ⟨gv, cv, pv, mv, ho.agr a, k⟩
/-- a list of the call's own that grows -/
structure GrMS (w : World) (base : Nat) (v : Value) (L : List Mg) (xs : List Value) : Prop where
 row : w.ownsRow base 157 11 v L.length xs
 el : ∃ E : Nat → Nat → Prop, (∀ i, i < L.length → (∀ b, E i b → base ≤ b ∧ b < w.heap.size) ∧ (∀ b, E i b → v.ownBlock ≠ some b) ∧ ElM xs w (E i) i (L.getD i m0)) ∧ ∀ i j, i < L.length → j < L.length → i ≠ j → Dj (E i) (E j)
theorem GrMS.nil (w : World) (base : Nat) : GrMS w base (.slice none 0 0) [] [] := ⟨World.ownsRow_nil _ _ _ _, fun _ _ => False, fun i hi => absurd hi (by simp), fun i j hi => absurd hi (by simp)⟩
theorem GrMS.agr {w w' : World} {base : Nat} {v : Value} {L : List Mg} {xs : List Value} (h : GrMS w base v L xs) (a : AgrS (fun b => base ≤ b) w w') : GrMS w' base v L xs := by
 obtain ⟨hr, E, hE, hd⟩ := h; refine ⟨row_agrS hr (fun k hk => (World.ownsRow.lt hr k hk).1) a, E, fun i hi => ?_, hd⟩; obtain ⟨e1, e2, e3⟩ := hE i hi
 exact ⟨fun b hb => ⟨(e1 b hb).1, Nat.lt_of_lt_of_le (e1 b hb).2 a.1⟩, e2, e3.agr (a.sub fun b hb => (e1 b hb).1)⟩
theorem GrMS.keep {w w' : World} {base : Nat} {v : Value} {L : List Mg} {xs : List Value} (h : GrMS w base v L xs) (b : Below w.heap.size w w') : GrMS w' base v L xs := h.agr (.of_below b)
theorem GrMS.far {w : World} {base B o : Nat} {v u : Value} {L : List Mg} {xs : List Value} (h : GrMS w base v L xs) (hB : B < base) : GrMS (w.setCell ⟨B, o, none⟩ u) base v L xs := h.agr (agr_setS w (by omega))
theorem GrMS.lenV {w : World} {base : Nat} {v : Value} {L : List Mg} {xs : List Value} (h : GrMS w base v L xs) : ∃ a c, v = .slice a L.length c := by
 rcases h.row.2 with ⟨hv, hn⟩ | ⟨g, cap, cur, hv, _⟩
 ·exact ⟨none, 0, by rw [hv, hn]⟩
 ·exact ⟨_, cap, hv⟩
theorem GrMS.step {w0 w1 w4 : World} {base : Nat} {v v' : Value} {L : List Mg} {xs : List Value} {S : Nat → Prop} {gv cv pv mv : Value} {x : Mg} (h : GrMS w0 base v L xs) (hb : base ≤ w0.heap.size) (B : Below w0.heap.size w0 w1) (o : OwM w1 S gv cv pv mv x)
  (hS : ∀ b, S b → w0.heap.size ≤ b ∧ b < w1.heap.size) (hrow : w4.ownsRow base 157 11 v' (L.length + 1) (xs ++ [.int .i64 x.kn, .int .i64 x.sa, .int .i64 x.ho, .int .i64 x.ix, gv, cv, pv, .int .i64 x.pr, mv, .int .i64 x.bw, .int .i64 x.er])) (hg : w1.grownBy w4 v.ownBlock) (hor : v'.ownBlock = v.ownBlock ∨ v'.ownBlock = some w1.heap.size) : GrMS w4 base v' (L ++ [x]) (xs ++ [.int .i64 x.kn, .int .i64 x.sa, .int .i64 x.ho, .int .i64 x.ix, gv, cv, pv, .int .i64 x.pr, mv, .int .i64 x.bw, .int .i64 x.er]) := by
 obtain ⟨hr, E, hE, hd⟩ := h; have hxl := hr.1; have hv := World.ownsRow.lt hr; have B' := B.size; have hg' := hg.size; refine ⟨by simpa using hrow, fun i => if i = L.length then S else E i, fun i hi => ?_, fun i j hi hj hne => ?_⟩
 ·dsimp only
  by_cases hi1 : i = L.length
  ·subst hi1
   rw [if_pos rfl, show (L ++ [x]).getD L.length m0 = x by simp [List.getD]]; refine ⟨fun b q => ⟨Nat.le_trans hb (hS b q).1, Nat.lt_of_lt_of_le (hS b q).2 hg'⟩, fun b q e => ?_, gv, cv, pv, mv, o.agr ⟨hg', fun b q l => hg.block b l fun e => ?_⟩, by rw [List.getElem?_append_right (by omega), show L.length * 11 - xs.length = 0 by omega]; rfl, by rw [List.getElem?_append_right (by omega), show L.length * 11 + 1 - xs.length = 1 by omega]; rfl, by rw [List.getElem?_append_right (by omega), show L.length * 11 + 2 - xs.length = 2 by omega]; rfl, by rw [List.getElem?_append_right (by omega), show L.length * 11 + 3 - xs.length = 3 by omega]; rfl, by rw [List.getElem?_append_right (by omega), show L.length * 11 + 4 - xs.length = 4 by omega]; rfl, by rw [List.getElem?_append_right (by omega), show L.length * 11 + 5 - xs.length = 5 by omega]; rfl, by rw [List.getElem?_append_right (by omega), show L.length * 11 + 6 - xs.length = 6 by omega]; rfl, by rw [List.getElem?_append_right (by omega), show L.length * 11 + 7 - xs.length = 7 by omega]; rfl, by rw [List.getElem?_append_right (by omega), show L.length * 11 + 8 - xs.length = 8 by omega]; rfl, by rw [List.getElem?_append_right (by omega), show L.length * 11 + 9 - xs.length = 9 by omega]; rfl, by rw [List.getElem?_append_right (by omega), show L.length * 11 + 10 - xs.length = 10 by omega]; rfl⟩
   ·have hb1 := hS b q
    rcases hor with r | r
    ·have := (hv b (by rw [← r]; exact e)).2; omega
    ·rw [r] at e; cases e; omega
   ·have hb1 := hS b q
    have := (hv b e.symm).2; omega
  ·have hi2 : i < L.length := by simp at hi; omega
   obtain ⟨e1, e2, e3⟩ := hE i hi2; rw [if_neg hi1, show (L ++ [x]).getD i m0 = L.getD i m0 by simp [List.getD, List.getElem?_append_left hi2]]; refine ⟨fun b q => ⟨(e1 b q).1, by have := (e1 b q).2; omega⟩, fun b q e => ?_, (e3.agr ⟨by omega, fun b q l => ?_⟩).app _⟩
   ·rcases hor with r | r
    ·exact e2 b q (by rw [← r]; exact e)
    ·have := (e1 b q).2
     rw [r] at e; cases e; omega
   ·have := (e1 b q).2
    exact (hg.block b (by omega) (fun e => e2 b q e.symm)).trans (B.block b this)
 ·have hi' : i < L.length + 1 := by simpa using hi
  have hj' : j < L.length + 1 := by simpa using hj
  dsimp only
  by_cases hi1 : i = L.length
  ·have hj2 : j < L.length := by omega
   rw [if_pos hi1, if_neg (by omega)]; intro b q r; have h1 := hS b q; have h2 := ((hE j hj2).1 b r).2
   omega
  ·by_cases hj1 : j = L.length
   ·rw [if_neg hi1, if_pos hj1]
    intro b q r; have h1 := hS b r; have h2 := ((hE i (by omega)).1 b q).2
    omega
   ·rw [if_neg hi1, if_neg hj1]
    exact hd i j (by omega) (by omega) hne
theorem GrMS.own {w : World} {base : Nat} {v : Value} {L : List Mg} {xs : List Value} (h : GrMS w base v L xs) (hl : L.length ≤ 1048576) : OwMS w (Rg base w.heap.size) v L := by
 obtain ⟨hr, E, hE, hd⟩ := h; have hv := World.ownsRow.lt hr; refine ⟨hl, ?_⟩
 rcases hr.2 with ⟨rfl, hn⟩ | ⟨g, cap, cur, rfl, hb, hc, rest⟩
 ·exact .inl ⟨rfl, List.eq_nil_of_length_eq_zero hn⟩
 ·have hgl := hv g rfl
  refine .inr ⟨g, cap, xs, E, rfl, hgl, ⟨hgl.2, fun i x e => ?_, fun i hi => World.ownsRow.frozenAt hr i⟩, hr.1, fun i hi => ?_, hd⟩
  ·have hil : i < xs.length := (List.getElem?_eq_some_iff.1 e).1
   exact (World.ownsRow.cellAt hr i (by rw [← hr.1]; exact hil)).trans e
  ·obtain ⟨e1, e2, e3⟩ := hE i hi
   exact ⟨e1, fun q => e2 g q rfl, e3⟩
theorem below_grM {V w w' : World} {base : Nat} {v : Value} {L : List Mg} {xs : List Value} (h : Below V.heap.size V w) (ho : GrMS w base v L xs) (hb : V.heap.size ≤ base) (hg : w.grownBy w' v.ownBlock) : Below V.heap.size V w' :=
 Below.grown h hg h.size (fun k hk => Nat.le_trans hb (World.ownsRow.lt ho.row k hk).1)
theorem wp_apM {ops : Array Oper} {rest : List Oper} {o : Oper} {a : Act} {Q : Exit → Act → World → Prop} {w : World} (hgd : o.guard = none) (s x : Operand)
  (ho : o.op = .call { callee := .builtin .append, args := #[s, x], argTypes := #[68, 68] })
  (base g c : Nat) (v : Value) (n : Nat) (xs : List Value) (ys : List Value) (hs : a.eval s = v) (hx : a.eval x = .slice (some ⟨g, 0, none⟩) 1 c) (hown : w.ownsRow base 157 11 v n xs)
  (h0 : Bl w g ys) (h7 : ys.length = 11) (h1 : ∀ u ∈ ys, u.oneCell' = true) (hlen : n + 1 ≤ 4294967296) (hbase : base ≤ w.heap.size)
  (h : ∀ v' w', w'.ownsRow base 157 11 v' (n + 1) (xs ++ ys) → w.grownBy w' v.ownBlock → (v'.ownBlock = v.ownBlock ∨ v'.ownBlock = some w.heap.size) → wpList Tryz.prog ops Q rest (a.put o.dst v') w') : wpList Tryz.prog ops Q (o :: rest) a w := by
 obtain ⟨i0, hi, hz0, hz1, hz2⟩ := info_parts infoOM; refine wpList_append_own_at (w := w) hgd s x 68 ho base 157 i0 (.agg #[.int .i64 0, .int .i64 0, .int .i64 0, .int .i64 0, .slice none 0 0, .slice none 0 0, .slice none 0 0, .int .i64 0, .slice none 0 0, .int .i64 0, .int .i64 0]) 11 152 Tryz.underlying68 hi hz0 hz1 hz2 rfl (by decide) v n xs hs hown ⟨g, 0, none⟩ 1 c ys hx (by omega) (fun j y hy => ?_) h1 (by unfold maxLen; omega) (by omega) hbase fun v' w' ho' hg' _ hor => h v' w' ho' hg' hor
 have hadd : ∀ j, (⟨g, 0, none⟩ : Addr).add j = ⟨g, j, none⟩ := fun j => by unfold Addr.add; split <;> simp_all
 rw [hadd]
 exact h0.c j hy
theorem ElN.app {xs : List Value} {w : World} {E : Nat → Prop} {i : Nat} {x : Nd} (h : ElN xs w E i x) (ys : List Value) : ElN (xs ++ ys) w E i x := by
 obtain ⟨ov, rv, sv, ho, k0, k1, k2, k3, k4, k5⟩ := h
 exact ⟨ov, rv, sv, ho, app_some k0, app_some k1, app_some k2, app_some k3, app_some k4, app_some k5⟩
theorem ElN.agr {xs : List Value} {w w' : World} {E : Nat → Prop} {i : Nat} {x : Nd} (h : ElN xs w E i x) (a : AgrS E w w') : ElN xs w' E i x := by
 obtain ⟨ov, rv, sv, ho, k⟩ := h
 exact ⟨ov, rv, sv, ho.agr a, k⟩
/-- a list of the call's own that grows -/
structure GrNS (w : World) (base : Nat) (v : Value) (L : List Nd) (xs : List Value) : Prop where
 row : w.ownsRow base 58 6 v L.length xs
 el : ∃ E : Nat → Nat → Prop, (∀ i, i < L.length → (∀ b, E i b → base ≤ b ∧ b < w.heap.size) ∧ (∀ b, E i b → v.ownBlock ≠ some b) ∧ ElN xs w (E i) i (L.getD i n0)) ∧ ∀ i j, i < L.length → j < L.length → i ≠ j → Dj (E i) (E j)
theorem GrNS.nil (w : World) (base : Nat) : GrNS w base (.slice none 0 0) [] [] := ⟨World.ownsRow_nil _ _ _ _, fun _ _ => False, fun i hi => absurd hi (by simp), fun i j hi => absurd hi (by simp)⟩
theorem GrNS.agr {w w' : World} {base : Nat} {v : Value} {L : List Nd} {xs : List Value} (h : GrNS w base v L xs) (a : AgrS (fun b => base ≤ b) w w') : GrNS w' base v L xs := by
 obtain ⟨hr, E, hE, hd⟩ := h; refine ⟨row_agrS hr (fun k hk => (World.ownsRow.lt hr k hk).1) a, E, fun i hi => ?_, hd⟩; obtain ⟨e1, e2, e3⟩ := hE i hi
 exact ⟨fun b hb => ⟨(e1 b hb).1, Nat.lt_of_lt_of_le (e1 b hb).2 a.1⟩, e2, e3.agr (a.sub fun b hb => (e1 b hb).1)⟩
theorem GrNS.keep {w w' : World} {base : Nat} {v : Value} {L : List Nd} {xs : List Value} (h : GrNS w base v L xs) (b : Below w.heap.size w w') : GrNS w' base v L xs := h.agr (.of_below b)
theorem GrNS.far {w : World} {base B o : Nat} {v u : Value} {L : List Nd} {xs : List Value} (h : GrNS w base v L xs) (hB : B < base) : GrNS (w.setCell ⟨B, o, none⟩ u) base v L xs := h.agr (agr_setS w (by omega))
theorem GrNS.lenV {w : World} {base : Nat} {v : Value} {L : List Nd} {xs : List Value} (h : GrNS w base v L xs) : ∃ a c, v = .slice a L.length c := by
 rcases h.row.2 with ⟨hv, hn⟩ | ⟨g, cap, cur, hv, _⟩
 ·exact ⟨none, 0, by rw [hv, hn]⟩
 ·exact ⟨_, cap, hv⟩
theorem GrNS.step {w0 w1 w4 : World} {base : Nat} {v v' : Value} {L : List Nd} {xs : List Value} {S : Nat → Prop} {ov rv sv : Value} {x : Nd} (h : GrNS w0 base v L xs) (hb : base ≤ w0.heap.size) (B : Below w0.heap.size w0 w1) (o : OwN w1 S ov rv sv x)
  (hS : ∀ b, S b → w0.heap.size ≤ b ∧ b < w1.heap.size) (hrow : w4.ownsRow base 58 6 v' (L.length + 1) (xs ++ [.int .i64 x.an, ov, .int .i64 x.bw, .bool x.dr, rv, sv])) (hg : w1.grownBy w4 v.ownBlock) (hor : v'.ownBlock = v.ownBlock ∨ v'.ownBlock = some w1.heap.size) : GrNS w4 base v' (L ++ [x]) (xs ++ [.int .i64 x.an, ov, .int .i64 x.bw, .bool x.dr, rv, sv]) := by
 obtain ⟨hr, E, hE, hd⟩ := h; have hxl := hr.1; have hv := World.ownsRow.lt hr; have B' := B.size; have hg' := hg.size; refine ⟨by simpa using hrow, fun i => if i = L.length then S else E i, fun i hi => ?_, fun i j hi hj hne => ?_⟩
 ·dsimp only
  by_cases hi1 : i = L.length
  ·subst hi1
   rw [if_pos rfl, show (L ++ [x]).getD L.length n0 = x by simp [List.getD]]; refine ⟨fun b q => ⟨Nat.le_trans hb (hS b q).1, Nat.lt_of_lt_of_le (hS b q).2 hg'⟩, fun b q e => ?_, ov, rv, sv, o.agr ⟨hg', fun b q l => hg.block b l fun e => ?_⟩, by rw [List.getElem?_append_right (by omega), show L.length * 6 - xs.length = 0 by omega]; rfl, by rw [List.getElem?_append_right (by omega), show L.length * 6 + 1 - xs.length = 1 by omega]; rfl, by rw [List.getElem?_append_right (by omega), show L.length * 6 + 2 - xs.length = 2 by omega]; rfl, by rw [List.getElem?_append_right (by omega), show L.length * 6 + 3 - xs.length = 3 by omega]; rfl, by rw [List.getElem?_append_right (by omega), show L.length * 6 + 4 - xs.length = 4 by omega]; rfl, by rw [List.getElem?_append_right (by omega), show L.length * 6 + 5 - xs.length = 5 by omega]; rfl⟩
   ·have hb1 := hS b q
    rcases hor with r | r
    ·have := (hv b (by rw [← r]; exact e)).2; omega
    ·rw [r] at e; cases e; omega
   ·have hb1 := hS b q
    have := (hv b e.symm).2; omega
  ·have hi2 : i < L.length := by simp at hi; omega
   obtain ⟨e1, e2, e3⟩ := hE i hi2; rw [if_neg hi1, show (L ++ [x]).getD i n0 = L.getD i n0 by simp [List.getD, List.getElem?_append_left hi2]]; refine ⟨fun b q => ⟨(e1 b q).1, by have := (e1 b q).2; omega⟩, fun b q e => ?_, (e3.agr ⟨by omega, fun b q l => ?_⟩).app _⟩
   ·rcases hor with r | r
    ·exact e2 b q (by rw [← r]; exact e)
    ·have := (e1 b q).2
     rw [r] at e; cases e; omega
   ·have := (e1 b q).2
    exact (hg.block b (by omega) (fun e => e2 b q e.symm)).trans (B.block b this)
 ·have hi' : i < L.length + 1 := by simpa using hi
  have hj' : j < L.length + 1 := by simpa using hj
  dsimp only
  by_cases hi1 : i = L.length
  ·have hj2 : j < L.length := by omega
   rw [if_pos hi1, if_neg (by omega)]; intro b q r; have h1 := hS b q; have h2 := ((hE j hj2).1 b r).2
   omega
  ·by_cases hj1 : j = L.length
   ·rw [if_neg hi1, if_pos hj1]
    intro b q r; have h1 := hS b r; have h2 := ((hE i (by omega)).1 b q).2
    omega
   ·rw [if_neg hi1, if_neg hj1]
    exact hd i j (by omega) (by omega) hne
theorem GrNS.own {w : World} {base : Nat} {v : Value} {L : List Nd} {xs : List Value} (h : GrNS w base v L xs) (hl : L.length ≤ 1048576) : OwNS w (Rg base w.heap.size) v L := by
 obtain ⟨hr, E, hE, hd⟩ := h; have hv := World.ownsRow.lt hr; refine ⟨hl, ?_⟩
 rcases hr.2 with ⟨rfl, hn⟩ | ⟨g, cap, cur, rfl, hb, hc, rest⟩
 ·exact .inl ⟨rfl, List.eq_nil_of_length_eq_zero hn⟩
 ·have hgl := hv g rfl
  refine .inr ⟨g, cap, xs, E, rfl, hgl, ⟨hgl.2, fun i x e => ?_, fun i hi => World.ownsRow.frozenAt hr i⟩, hr.1, fun i hi => ?_, hd⟩
  ·have hil : i < xs.length := (List.getElem?_eq_some_iff.1 e).1
   exact (World.ownsRow.cellAt hr i (by rw [← hr.1]; exact hil)).trans e
  ·obtain ⟨e1, e2, e3⟩ := hE i hi
   exact ⟨e1, fun q => e2 g q rfl, e3⟩
theorem below_grN {V w w' : World} {base : Nat} {v : Value} {L : List Nd} {xs : List Value} (h : Below V.heap.size V w) (ho : GrNS w base v L xs) (hb : V.heap.size ≤ base) (hg : w.grownBy w' v.ownBlock) : Below V.heap.size V w' :=
 Below.grown h hg h.size (fun k hk => Nat.le_trans hb (World.ownsRow.lt ho.row k hk).1)
theorem ne_grN {w : World} {base B : Nat} {v : Value} {L : List Nd} {xs : List Value} (h : GrNS w base v L xs) (hB : B < base) : some B ≠ v.ownBlock := fun q => by
 have := (World.ownsRow.lt h.row B q.symm).1
 omega
theorem step_apN {ops : Array Oper} {o : Oper} {a : Act} {K : Act → World → Prop} {Q : Exit → Act → World → Prop} {E : Prop} {w : World} (hgd : o.guard = none) (s x : Operand)
  (ho : o.op = .call { callee := .builtin .append, args := #[s, x], argTypes := #[27, 27] })
  (base g c : Nat) (v : Value) (n : Nat) (xs : List Value) (ys : List Value) (hs : a.eval s = v) (hx : a.eval x = .slice (some ⟨g, 0, none⟩) 1 c) (hown : w.ownsRow base 58 6 v n xs)
  (h0 : Bl w g ys) (h7 : ys.length = 6) (h1 : ∀ u ∈ ys, u.oneCell' = true) (hlen : n + 1 ≤ 4294967296) (hbase : base ≤ w.heap.size)
  (h : ∀ v' w', w'.ownsRow base 58 6 v' (n + 1) (xs ++ ys) → w.grownBy w' v.ownBlock → (v'.ownBlock = v.ownBlock ∨ v'.ownBlock = some w.heap.size) → K (a.put o.dst v') w') : if Region.wanted o (yielded ops a.tmps) = true then Oper.wp Tryz.prog o a w K Q else E := by
 have hw : Region.wanted o (yielded ops a.tmps) = true := by simp [Region.wanted, hgd]
 rw [if_pos hw]; obtain ⟨i0, hi, hz0, hz1, hz2⟩ := info_parts infoON
 obtain ⟨v', w', hr, h2, h3, -, h5⟩ := run_append_own_at (P := Tryz.prog) w base 27 o.type 58 i0 (.agg #[.int .i64 0, .slice none 0 0, .int .i64 0, .bool false, .slice none 0 0, .slice none 0 0]) 6 96 Tryz.underlying27 hi hz0 hz1 hz2 rfl (by decide) v n xs hown ⟨g, 0, none⟩ 1 c ys (by omega) (fun j y hy => by
  have hadd : ∀ j, (⟨g, 0, none⟩ : Addr).add j = ⟨g, j, none⟩ := fun j => by unfold Addr.add; split <;> simp_all
  rw [hadd]
  exact h0.c j hy) h1 (by unfold maxLen; omega) (by omega) hbase
 unfold Oper.wp execOp; simp only [ho, resolve, invoke, builtin, Sem.run_bind, Sem.run_pure, Result.andThen_ok, List.map_toArray, List.map_cons, List.map_nil, hs, hx, hr]
 exact h v' w' h2 h3 h5
theorem ElL.app {xs : List Value} {w : World} {E : Nat → Prop} {i : Nat} {x : Lk} (h : ElL xs w E i x) (ys : List Value) : ElL (xs ++ ys) w E i x := by
 obtain ⟨av, bv, ho, k0, k1, k2, k3, k4, k5, k6⟩ := h
 exact ⟨av, bv, ho, app_some k0, app_some k1, app_some k2, app_some k3, app_some k4, app_some k5, app_some k6⟩
theorem ElL.agr {xs : List Value} {w w' : World} {E : Nat → Prop} {i : Nat} {x : Lk} (h : ElL xs w E i x) (a : AgrS E w w') : ElL xs w' E i x := by
 obtain ⟨av, bv, ho, k⟩ := h
 exact ⟨av, bv, ho.agr a, k⟩
/-- a list of the call's own that grows -/
structure GrLS (w : World) (base : Nat) (v : Value) (L : List Lk) (xs : List Value) : Prop where
 row : w.ownsRow base 70 7 v L.length xs
 el : ∃ E : Nat → Nat → Prop, (∀ i, i < L.length → (∀ b, E i b → base ≤ b ∧ b < w.heap.size) ∧ (∀ b, E i b → v.ownBlock ≠ some b) ∧ ElL xs w (E i) i (L.getD i l0)) ∧ ∀ i j, i < L.length → j < L.length → i ≠ j → Dj (E i) (E j)
theorem GrLS.nil (w : World) (base : Nat) : GrLS w base (.slice none 0 0) [] [] := ⟨World.ownsRow_nil _ _ _ _, fun _ _ => False, fun i hi => absurd hi (by simp), fun i j hi => absurd hi (by simp)⟩
theorem GrLS.agr {w w' : World} {base : Nat} {v : Value} {L : List Lk} {xs : List Value} (h : GrLS w base v L xs) (a : AgrS (fun b => base ≤ b) w w') : GrLS w' base v L xs := by
 obtain ⟨hr, E, hE, hd⟩ := h; refine ⟨row_agrS hr (fun k hk => (World.ownsRow.lt hr k hk).1) a, E, fun i hi => ?_, hd⟩; obtain ⟨e1, e2, e3⟩ := hE i hi
 exact ⟨fun b hb => ⟨(e1 b hb).1, Nat.lt_of_lt_of_le (e1 b hb).2 a.1⟩, e2, e3.agr (a.sub fun b hb => (e1 b hb).1)⟩
theorem GrLS.keep {w w' : World} {base : Nat} {v : Value} {L : List Lk} {xs : List Value} (h : GrLS w base v L xs) (b : Below w.heap.size w w') : GrLS w' base v L xs := h.agr (.of_below b)
theorem GrLS.far {w : World} {base B o : Nat} {v u : Value} {L : List Lk} {xs : List Value} (h : GrLS w base v L xs) (hB : B < base) : GrLS (w.setCell ⟨B, o, none⟩ u) base v L xs := h.agr (agr_setS w (by omega))
theorem GrLS.lenV {w : World} {base : Nat} {v : Value} {L : List Lk} {xs : List Value} (h : GrLS w base v L xs) : ∃ a c, v = .slice a L.length c := by
 rcases h.row.2 with ⟨hv, hn⟩ | ⟨g, cap, cur, hv, _⟩
 ·exact ⟨none, 0, by rw [hv, hn]⟩
 ·exact ⟨_, cap, hv⟩
theorem GrLS.step {w0 w1 w4 : World} {base : Nat} {v v' : Value} {L : List Lk} {xs : List Value} {S : Nat → Prop} {av bv : Value} {x : Lk} (h : GrLS w0 base v L xs) (hb : base ≤ w0.heap.size) (B : Below w0.heap.size w0 w1) (o : OwL w1 S av bv x)
  (hS : ∀ b, S b → w0.heap.size ≤ b ∧ b < w1.heap.size) (hrow : w4.ownsRow base 70 7 v' (L.length + 1) (xs ++ [.int .i64 x.a, .int .i64 x.ai, .int .i64 x.b, .int .i64 x.bi, .bool x.up, av, bv])) (hg : w1.grownBy w4 v.ownBlock) (hor : v'.ownBlock = v.ownBlock ∨ v'.ownBlock = some w1.heap.size) : GrLS w4 base v' (L ++ [x]) (xs ++ [.int .i64 x.a, .int .i64 x.ai, .int .i64 x.b, .int .i64 x.bi, .bool x.up, av, bv]) := by
 obtain ⟨hr, E, hE, hd⟩ := h; have hxl := hr.1; have hv := World.ownsRow.lt hr; have B' := B.size; have hg' := hg.size; refine ⟨by simpa using hrow, fun i => if i = L.length then S else E i, fun i hi => ?_, fun i j hi hj hne => ?_⟩
 ·dsimp only
  by_cases hi1 : i = L.length
  ·subst hi1
   rw [if_pos rfl, show (L ++ [x]).getD L.length l0 = x by simp [List.getD]]; refine ⟨fun b q => ⟨Nat.le_trans hb (hS b q).1, Nat.lt_of_lt_of_le (hS b q).2 hg'⟩, fun b q e => ?_, av, bv, o.agr ⟨hg', fun b q l => hg.block b l fun e => ?_⟩, by rw [List.getElem?_append_right (by omega), show L.length * 7 - xs.length = 0 by omega]; rfl, by rw [List.getElem?_append_right (by omega), show L.length * 7 + 1 - xs.length = 1 by omega]; rfl, by rw [List.getElem?_append_right (by omega), show L.length * 7 + 2 - xs.length = 2 by omega]; rfl, by rw [List.getElem?_append_right (by omega), show L.length * 7 + 3 - xs.length = 3 by omega]; rfl, by rw [List.getElem?_append_right (by omega), show L.length * 7 + 4 - xs.length = 4 by omega]; rfl, by rw [List.getElem?_append_right (by omega), show L.length * 7 + 5 - xs.length = 5 by omega]; rfl, by rw [List.getElem?_append_right (by omega), show L.length * 7 + 6 - xs.length = 6 by omega]; rfl⟩
   ·have hb1 := hS b q
    rcases hor with r | r
    ·have := (hv b (by rw [← r]; exact e)).2; omega
    ·rw [r] at e; cases e; omega
   ·have hb1 := hS b q
    have := (hv b e.symm).2; omega
  ·have hi2 : i < L.length := by simp at hi; omega
   obtain ⟨e1, e2, e3⟩ := hE i hi2; rw [if_neg hi1, show (L ++ [x]).getD i l0 = L.getD i l0 by simp [List.getD, List.getElem?_append_left hi2]]; refine ⟨fun b q => ⟨(e1 b q).1, by have := (e1 b q).2; omega⟩, fun b q e => ?_, (e3.agr ⟨by omega, fun b q l => ?_⟩).app _⟩
   ·rcases hor with r | r
    ·exact e2 b q (by rw [← r]; exact e)
    ·have := (e1 b q).2
     rw [r] at e; cases e; omega
   ·have := (e1 b q).2
    exact (hg.block b (by omega) (fun e => e2 b q e.symm)).trans (B.block b this)
 ·have hi' : i < L.length + 1 := by simpa using hi
  have hj' : j < L.length + 1 := by simpa using hj
  dsimp only
  by_cases hi1 : i = L.length
  ·have hj2 : j < L.length := by omega
   rw [if_pos hi1, if_neg (by omega)]; intro b q r; have h1 := hS b q; have h2 := ((hE j hj2).1 b r).2
   omega
  ·by_cases hj1 : j = L.length
   ·rw [if_neg hi1, if_pos hj1]
    intro b q r; have h1 := hS b r; have h2 := ((hE i (by omega)).1 b q).2
    omega
   ·rw [if_neg hi1, if_neg hj1]
    exact hd i j (by omega) (by omega) hne
theorem GrLS.own {w : World} {base : Nat} {v : Value} {L : List Lk} {xs : List Value} (h : GrLS w base v L xs) (hl : L.length ≤ 1048576) : OwLS w (Rg base w.heap.size) v L := by
 obtain ⟨hr, E, hE, hd⟩ := h; have hv := World.ownsRow.lt hr; refine ⟨hl, ?_⟩
 rcases hr.2 with ⟨rfl, hn⟩ | ⟨g, cap, cur, rfl, hb, hc, rest⟩
 ·exact .inl ⟨rfl, List.eq_nil_of_length_eq_zero hn⟩
 ·have hgl := hv g rfl
  refine .inr ⟨g, cap, xs, E, rfl, hgl, ⟨hgl.2, fun i x e => ?_, fun i hi => World.ownsRow.frozenAt hr i⟩, hr.1, fun i hi => ?_, hd⟩
  ·have hil : i < xs.length := (List.getElem?_eq_some_iff.1 e).1
   exact (World.ownsRow.cellAt hr i (by rw [← hr.1]; exact hil)).trans e
  ·obtain ⟨e1, e2, e3⟩ := hE i hi
   exact ⟨e1, fun q => e2 g q rfl, e3⟩
theorem below_grL {V w w' : World} {base : Nat} {v : Value} {L : List Lk} {xs : List Value} (h : Below V.heap.size V w) (ho : GrLS w base v L xs) (hb : V.heap.size ≤ base) (hg : w.grownBy w' v.ownBlock) : Below V.heap.size V w' :=
 Below.grown h hg h.size (fun k hk => Nat.le_trans hb (World.ownsRow.lt ho.row k hk).1)
theorem ne_grL {w : World} {base B : Nat} {v : Value} {L : List Lk} {xs : List Value} (h : GrLS w base v L xs) (hB : B < base) : some B ≠ v.ownBlock := fun q => by
 have := (World.ownsRow.lt h.row B q.symm).1
 omega
theorem wp_apL {ops : Array Oper} {rest : List Oper} {o : Oper} {a : Act} {Q : Exit → Act → World → Prop} {w : World} (hgd : o.guard = none) (s x : Operand)
  (ho : o.op = .call { callee := .builtin .append, args := #[s, x], argTypes := #[28, 28] })
  (base g c : Nat) (v : Value) (n : Nat) (xs : List Value) (ys : List Value) (hs : a.eval s = v) (hx : a.eval x = .slice (some ⟨g, 0, none⟩) 1 c) (hown : w.ownsRow base 70 7 v n xs)
  (h0 : Bl w g ys) (h7 : ys.length = 7) (h1 : ∀ u ∈ ys, u.oneCell' = true) (hlen : n + 1 ≤ 4294967296) (hbase : base ≤ w.heap.size)
  (h : ∀ v' w', w'.ownsRow base 70 7 v' (n + 1) (xs ++ ys) → w.grownBy w' v.ownBlock → (v'.ownBlock = v.ownBlock ∨ v'.ownBlock = some w.heap.size) → wpList Tryz.prog ops Q rest (a.put o.dst v') w') : wpList Tryz.prog ops Q (o :: rest) a w := by
 obtain ⟨i0, hi, hz0, hz1, hz2⟩ := info_parts infoOL; refine wpList_append_own_at (w := w) hgd s x 28 ho base 70 i0 (.agg #[.int .i64 0, .int .i64 0, .int .i64 0, .int .i64 0, .bool false, .slice none 0 0, .slice none 0 0]) 7 88 Tryz.underlying28 hi hz0 hz1 hz2 rfl (by decide) v n xs hs hown ⟨g, 0, none⟩ 1 c ys hx (by omega) (fun j y hy => ?_) h1 (by unfold maxLen; omega) (by omega) hbase fun v' w' ho' hg' _ hor => h v' w' ho' hg' hor
 have hadd : ∀ j, (⟨g, 0, none⟩ : Addr).add j = ⟨g, j, none⟩ := fun j => by unfold Addr.add; split <;> simp_all
 rw [hadd]
 exact h0.c j hy
theorem step_apL {ops : Array Oper} {o : Oper} {a : Act} {K : Act → World → Prop} {Q : Exit → Act → World → Prop} {E : Prop} {w : World} (hgd : o.guard = none) (s x : Operand)
  (ho : o.op = .call { callee := .builtin .append, args := #[s, x], argTypes := #[28, 28] })
  (base g c : Nat) (v : Value) (n : Nat) (xs : List Value) (ys : List Value) (hs : a.eval s = v) (hx : a.eval x = .slice (some ⟨g, 0, none⟩) 1 c) (hown : w.ownsRow base 70 7 v n xs)
  (h0 : Bl w g ys) (h7 : ys.length = 7) (h1 : ∀ u ∈ ys, u.oneCell' = true) (hlen : n + 1 ≤ 4294967296) (hbase : base ≤ w.heap.size)
  (h : ∀ v' w', w'.ownsRow base 70 7 v' (n + 1) (xs ++ ys) → w.grownBy w' v.ownBlock → (v'.ownBlock = v.ownBlock ∨ v'.ownBlock = some w.heap.size) → K (a.put o.dst v') w') : if Region.wanted o (yielded ops a.tmps) = true then Oper.wp Tryz.prog o a w K Q else E := by
 have hw : Region.wanted o (yielded ops a.tmps) = true := by simp [Region.wanted, hgd]
 rw [if_pos hw]; obtain ⟨i0, hi, hz0, hz1, hz2⟩ := info_parts infoOL
 obtain ⟨v', w', hr, h2, h3, -, h5⟩ := run_append_own_at (P := Tryz.prog) w base 28 o.type 70 i0 (.agg #[.int .i64 0, .int .i64 0, .int .i64 0, .int .i64 0, .bool false, .slice none 0 0, .slice none 0 0]) 7 88 Tryz.underlying28 hi hz0 hz1 hz2 rfl (by decide) v n xs hown ⟨g, 0, none⟩ 1 c ys (by omega) (fun j y hy => by
  have hadd : ∀ j, (⟨g, 0, none⟩ : Addr).add j = ⟨g, j, none⟩ := fun j => by unfold Addr.add; split <;> simp_all
  rw [hadd]
  exact h0.c j hy) h1 (by unfold maxLen; omega) (by omega) hbase
 unfold Oper.wp execOp; simp only [ho, resolve, invoke, builtin, Sem.run_bind, Sem.run_pure, Result.andThen_ok, List.map_toArray, List.map_cons, List.map_nil, hs, hx, hr]
 exact h v' w' h2 h3 h5
theorem owP_pr {w : World} {lo hi : Nat} {v : Value} {l : List (Int × Int)} (h : OwnP w lo v l) (hh : ∀ k, v.ownBlock = some k → k < hi) (hl : l.length ≤ 1048576) : OwPr w (Rg lo hi) v l :=
 ⟨OwnP.mono h (Nat.zero_le _), fun k hk => ⟨(World.ownsRow.lt h k hk).1, hh k hk⟩, hl⟩
def tq : ET := ⟨e0, .slice none 0 0, .slice none 0 0⟩
theorem ap_ne {v u : Value} {b : Nat} (h : Apart v u) (q : v.ownBlock = some b) (r : u.ownBlock = some b) : False := by
 rcases h.1 with s | s
 ·rw [s] at q; cases q
 ·exact s (q.trans r.symm)
theorem rowsT_get (T : List ET) (i : Nat) (hi : i < T.length) : (rowsT T)[i * 2]? = some (T[i]'hi).u ∧ (rowsT T)[i * 2 + 1]? = some (T[i]'hi).v := by
 induction T generalizing i with
 | nil => simp at hi
 | cons t T ih =>
  have e : rowsT (t :: T) = [t.u, t.v] ++ rowsT T := by simp [rowsT]
  rw [e]; cases i with
  | zero => exact ⟨rfl, rfl⟩
  | succ i =>
   rw [List.getElem?_append_right (by simp; omega), List.getElem?_append_right (by simp; omega), show (i + 1) * 2 - [t.u, t.v].length = i * 2 by simp; omega, show (i + 1) * 2 + 1 - [t.u, t.v].length = i * 2 + 1 by simp; omega]
   exact ih i (by simpa using hi)
theorem pw_at {l : List Value} (h : l.Pairwise Apart) {i j : Nat} {x y : Value} (hi : l[i]? = some x) (hj : l[j]? = some y) (hne : i ≠ j) : Apart x y := by
 obtain ⟨a, rfl⟩ := List.getElem?_eq_some_iff.1 hi; obtain ⟨b, rfl⟩ := List.getElem?_eq_some_iff.1 hj; rw [List.pairwise_iff_getElem] at h
 rcases Nat.lt_or_gt_of_ne hne with q | q
 ·exact h i j a b q
 ·exact (h j i b a q).symm
theorem rows_at {T : List ET} (h : (rowsT T).Pairwise Apart) (i : Nat) (hi : i < T.length) : Apart (T[i]'hi).u (T[i]'hi).v := pw_at h (rowsT_get T i hi).1 (rowsT_get T i hi).2 (by omega)
theorem rows_two {T : List ET} (h : (rowsT T).Pairwise Apart) (i j : Nat) (hi : i < T.length) (hj : j < T.length) (hne : i ≠ j) : Apart (T[i]'hi).u (T[j]'hj).u ∧ Apart (T[i]'hi).u (T[j]'hj).v ∧ Apart (T[i]'hi).v (T[j]'hj).u ∧ Apart (T[i]'hi).v (T[j]'hj).v :=
 ⟨pw_at h (rowsT_get T i hi).1 (rowsT_get T j hj).1 (by omega), pw_at h (rowsT_get T i hi).1 (rowsT_get T j hj).2 (by omega), pw_at h (rowsT_get T i hi).2 (rowsT_get T j hj).1 (by omega), pw_at h (rowsT_get T i hi).2 (rowsT_get T j hj).2 (by omega)⟩
theorem wtE_mem {T : List ET} {n : Nat} (h : wtE (entT T) ≤ n) {t : ET} (ht : t ∈ T) : t.E.p.length ≤ n ∧ t.E.c.length ≤ n := by
 induction T with
 | nil => simp at ht
 | cons s T ih =>
  have e : wtE (entT (s :: T)) = (s.E.p.length + s.E.c.length) + wtE (entT T) := by simp [entT, wtE]
  rw [e] at h
  rcases List.mem_cons.1 ht with rfl | q
  ·exact ⟨by omega, by omega⟩
  ·exact ih (by omega) q
theorem owT_Q {w : World} {base hi : Nat} {v : Value} {T : List ET} (h : OwnT w base v T) (hh : InH hi v T) (hl : T.length ≤ 1048576) (hn : ∀ t ∈ T, t.E.p.length ≤ 1048576 ∧ t.E.c.length ≤ 1048576) (hd : ∀ t ∈ T, BdE t.E) : OwQS w (Rg base hi) v (entT T) := by
 have hv := World.ownsRow.lt h.row; have hap := h.apart; refine ⟨by rw [entT_len]; exact hl, ?_⟩; rw [entT_len]
 rcases h.row.2 with ⟨rfl, hn0⟩ | ⟨g, cap, cur, rfl, hb, hc, rest⟩
 ·exact .inl ⟨rfl, by rw [List.eq_nil_of_length_eq_zero hn0]; rfl⟩
 ·have hgl := hv g rfl
  refine .inr ⟨g, cap, flatT T, fun i b => (T.getD i tq).u.ownBlock = some b ∨ (T.getD i tq).v.ownBlock = some b, rfl, ⟨hgl.1, hh.1 g rfl⟩, ⟨hgl.2, fun i x e => ?_, fun i hi => World.ownsRow.frozenAt h.row i⟩, flatT_len T, fun i hi => ?_, fun i j hi hj hne => ?_⟩
  ·have hil : i < (flatT T).length := (List.getElem?_eq_some_iff.1 e).1
   exact (World.ownsRow.cellAt h.row i (by rw [← h.row.1]; exact hil)).trans e
  ·have eT : T.getD i tq = T[i] := by simp [List.getD, hi]
   have mT : T[i] ∈ T := List.getElem_mem hi
   dsimp only
   rw [entT_get hi, eT]; obtain ⟨o1, o2⟩ := h.own _ mT; obtain ⟨l1, l2⟩ := h.lt _ mT; obtain ⟨i1, i2⟩ := hh.2 _ mT; obtain ⟨s1, s2⟩ := h.sep _ mT; have ha := rows_at hap i hi; refine ⟨fun b q => ?_, fun q => ?_, T[i].u, T[i].v, ⟨fun b => T[i].u.ownBlock = some b, fun b => T[i].v.ownBlock = some b, fun b q => .inl q, fun b q => .inr q, fun b q r => ?_, ⟨OwnI.mono o1 (Nat.zero_le _), fun k q => q, (hn _ mT).1, (hd _ mT).1⟩, ⟨OwnI.mono o2 (Nat.zero_le _), fun k q => q, (hn _ mT).2, (hd _ mT).2⟩⟩, ?_, ?_, ?_, ?_, ?_, ?_, ?_⟩
   ·rcases q with q | q
    ·exact ⟨(l1 b q).1, i1 b q⟩
    ·exact ⟨(l2 b q).1, i2 b q⟩
   ·rcases q with q | q
    ·rcases s1 with s | s
     ·rw [s] at q; cases q
     ·exact s q
    ·rcases s2 with s | s
     ·rw [s] at q; cases q
     ·exact s q
   ·rcases ha.1 with s | s
    ·rw [s] at q; cases q
    ·exact s (q.trans r.symm)
   ·exact flatT_get T i 0 hi (by omega)
   ·exact flatT_get T i 1 hi (by omega)
   ·exact flatT_get T i 2 hi (by omega)
   ·exact flatT_get T i 3 hi (by omega)
   ·exact flatT_get T i 4 hi (by omega)
   ·exact flatT_get T i 5 hi (by omega)
   ·exact flatT_get T i 6 hi (by omega)
  ·have eI : T.getD i tq = T[i] := by simp [List.getD, hi]
   have eJ : T.getD j tq = T[j] := by simp [List.getD, hj]
   dsimp only
   rw [eI, eJ]; have hij := rows_two hap i j hi hj hne; intro b q r
   rcases q with q | q <;> rcases r with r | r
   ·exact ap_ne hij.1 q r
   ·exact ap_ne hij.2.1 q r
   ·exact ap_ne hij.2.2.1 q r
   ·exact ap_ne hij.2.2.2 q r
theorem ndT_own {w : World} {b0 h1 h2 h3 : Nat} {ov ru su : Value} {D : Nd} {T1 T2 : List ET} (h : NdT w b0 h1 h2 h3 ov ru su D.own T1 T2) (e1 : entT T1 = D.rib) (e2 : entT T2 = D.sent) (hd : BdN D) (hn : wtN D ≤ 1048576) : OwN w (Rg b0 h3) ov ru su D := by
 have q1 := h.q1; have q2 := h.q2; have q3 := h.q3; have hl1 : D.own.length ≤ 1048576 := by unfold wtN at hn; omega
 have hl2 : D.rib.length + wtE D.rib ≤ 1048576 := by unfold wtN at hn; omega
 have hl3 : D.sent.length + wtE D.sent ≤ 1048576 := by unfold wtN at hn; omega
 have r1 := owT_Q h.r h.ri (by rw [← entT_len T1, e1]; omega) (fun t ht => wtE_mem (by rw [e1]; omega) ht) (fun t ht => bd_mem (L := D.rib) hd.1 (e1 ▸ entT_mem ht)); have r2 := owT_Q h.s h.si (by rw [← entT_len T2, e2]; omega) (fun t ht => wtE_mem (by rw [e2]; omega) ht) (fun t ht => bd_mem (L := D.sent) hd.2 (e2 ▸ entT_mem ht)); rw [e1] at r1; rw [e2] at r2
 exact ⟨Rg b0 h1, Rg h1 h2, Rg h2 h3, fun b q => ⟨q.1, by have := q.2; omega⟩, fun b q => ⟨by have := q.1; omega, by have := q.2; omega⟩, fun b q => ⟨by have := q.1; omega, q.2⟩, fun b q r => by have := q.2; have := r.1; omega, fun b q r => by have := q.2; have := r.1; omega, fun b q r => by have := q.2; have := r.1; omega, owP_pr h.o h.oh hl1, r1, r2⟩
end Go.Proofs.YtkodnipmogdgkaaGreat
namespace Go.Proofs.YtkodnipmogdgkaaGreat
open Go.ChangeShapes Go.WideShapes Go.ChangeAt Go.RowKit Go.BigFrame Go.Joins
set_option linter.unusedVariables false
set_option maxRecDepth 100000
set_option linter.unusedSimpArgs false
set_option maxRecDepth 100000

set_option maxHeartbeats 4000000 in
theorem icm_any (v : Value) (L : List Mg) (w : World) (h : RdMS w v L) (hn : L.length + wtMS L ≤ 1048576) :
  Calls Tryz.prog 80 #[v] w fun e w' => ∃ u, e = .returned u ∧ OwMS w' (Rg w.heap.size w'.heap.size) u L ∧ Below w.heap.size w w' := by
 obtain ⟨a, c, rfl, hc⟩ := h.el; obtain ⟨n, hn'⟩ : ∃ n, n = L.length := ⟨_, rfl⟩; rw [← hn'] at hc hn ⊢; have hnn : n ≤ 1048576 := by omega
 have HN := Lib.hid hn'; have HW := Lib.hid hn; clear hn' h hn
 go_enter Tryz.func80, Tryz.ntmps80
 go_wp2
 go_loopw [3, 8] (fun s q wr => ∃ (k : Nat) (xs : List Value), k ≤ n ∧ q = .int .i64 k ∧ GrMS wr w.heap.size s (L.take k) xs ∧ Below w.heap.size w wr) (fun _ q _ => n - (intOf q).toNat)
 case atStart => exact ⟨0, [], Nat.zero_le _, rfl, by simpa using GrMS.nil _ _, Below.refl _ _⟩
 case round =>
  obtain ⟨k, xs, hk, rfl, hG, hB⟩ := hrel
  by_cases hlt : k < n
  ·have hltI : (k : Int) < (n : Int) := by omega
   obtain ⟨b, o, rfl, hE⟩ := hc k hlt; obtain ⟨x, hx⟩ : ∃ x, L.getD k m0 = x := ⟨_, rfl⟩; rw [hx] at hE
   have hwx : wtM x ≤ 1048576 := by
    have h1 := wtM_at (L := L) (j := k) (by rw [← HN.out]; exact hlt); rw [hx] at h1; have := HW.out
    omega
   have hl4 : x.gs.length ≤ 1048576 ∧ x.cs.length ≤ 1048576 ∧ x.ps.length ≤ 1048576 ∧ x.ms.length ≤ 1048576 := by unfold wtM at hwx; omega
   have HTK : Hid (L.take (k + 1) = L.take k ++ [x]) := Lib.hid (by
    rw [List.take_succ_eq_append_getElem (by rw [← HN.out]; exact hlt)]; rw [← hx]
    simp [List.getD, show k < L.length by rw [← HN.out]; exact hlt])
   have HLK : Hid ((L.take k).length = k) := Lib.hid (by rw [List.length_take]; have := HN.out; omega); have HCC := Lib.hid hc; obtain ⟨gv, cv, pv, mv, ⟨r0, r1, r2, r3⟩, k0, k1, k2, k3, k4, k5, k6, k7, k8, k9, k10⟩ := hE.keep hB; clear hx hc hE hwx; obtain ⟨ga, gx, rfl⟩ := r0.len; obtain ⟨ca, cx, rfl⟩ := r1.len; obtain ⟨pa, px, rfl⟩ := r2.len; obtain ⟨ma, mx, rfl⟩ := r3.len; have bP := Bl.new wr [.int .i64 x.kn, .int .i64 x.sa, .int .i64 x.ho, .int .i64 x.ix, .slice ga x.gs.length gx, .slice ca x.cs.length cx, .slice pa x.ps.length px, .int .i64 x.pr, .slice ma x.ms.length mx, .int .i64 x.bw, .int .i64 x.er] 157 wr.heap.size rfl; have A1 : Below wr.heap.size wr (wr.alloc (.cells #[.int .i64 x.kn, .int .i64 x.sa, .int .i64 x.ho, .int .i64 x.ix, .slice ga x.gs.length gx, .slice ca x.cs.length cx, .slice pa x.ps.length px, .int .i64 x.pr, .slice ma x.ms.length mx, .int .i64 x.bw, .int .i64 x.er] 157)) := (Below.refl _ _).alloc (Nat.le_refl _) _; have z : (wr.alloc (.cells #[.int .i64 x.kn, .int .i64 x.sa, .int .i64 x.ho, .int .i64 x.ix, .slice ga x.gs.length gx, .slice ca x.cs.length cx, .slice pa x.ps.length px, .int .i64 x.pr, .slice ma x.ms.length mx, .int .i64 x.bw, .int .i64 x.er] 157)).heap.size = wr.heap.size + 1 := by simp
   have p4 := bP.c 4 rfl; go_wp2_with (at_builtin; refine Hid.out ?_); refine Lib.hid ?_; clear p4 k0 k1 k2 k3 k4 k5 k6 k7 k8 k9 k10; obtain ⟨V, hV⟩ : ∃ V, V = wr.alloc (.cells #[.int .i64 x.kn, .int .i64 x.sa, .int .i64 x.ho, .int .i64 x.ix, .slice ga x.gs.length gx, .slice ca x.cs.length cx, .slice pa x.ps.length px, .int .i64 x.pr, .slice ma x.ms.length mx, .int .i64 x.bw, .int .i64 x.er] 157) := ⟨_, rfl⟩; rw [← hV] at bP A1 z ⊢; clear hV; obtain ⟨P, hP⟩ : ∃ P, P = wr.heap.size := ⟨_, rfl⟩; rw [← hP] at bP z ⊢; have hPw : wr.heap.size ≤ P := by omega
   have hPV : P < V.heap.size := by omega
   have HPz := Lib.hid hP; clear hP; refine wp_appPS rfl _ _ rfl V.heap.size (.slice none 0 0) (.slice ga x.gs.length gx) [] x.gs rfl rfl (World.ownsRow_nil _ _ _ _) (r0.keep A1) (by simp; omega) (Nat.le_refl _) ?_; intro v1 w1 ho1 hg1; rw [List.nil_append] at ho1; obtain ⟨g1, y1, rfl⟩ := ho1.lenS8; replace bP := bP.grown hg1 (by simp [Value.ownBlock]); have B2 : Below wr.heap.size wr w1 := Below.grown A1 hg1 A1.size (fun k hk => by simp [Value.ownBlock] at hk); have hs1 : V.heap.size ≤ w1.heap.size := hg1.size; clear hg1 A1; have p4 := bP.c 4 rfl; have pf4 := bP.f 4 rfl; have p5 := bP.c 5 rfl; go_wp2_with (at_builtin; refine Hid.out ?_); refine Lib.hid ?_; clear p4 pf4 p5; have bP2 := bP.set 4 (.slice g1 x.gs.length y1); have ho2 := ho1.far (o := 4) (u := .slice g1 x.gs.length y1) hPV; have B3 := B2.setCell (p := ⟨P, 4, none⟩) hPw (.slice g1 x.gs.length y1); obtain ⟨W2, hW2⟩ : ∃ W, W = w1.setCell ⟨P, 4, none⟩ (.slice g1 x.gs.length y1) := ⟨_, rfl⟩; have hz2 : w1.heap.size = W2.heap.size := by rw [hW2]; simp
   rw [← hW2] at bP2 ho2 B3 ⊢; have HO1 : Hid (∀ k, (Value.slice g1 x.gs.length y1).ownBlock = some k → k < W2.heap.size) := Lib.hid fun k hk => (World.ownsRow.lt ho2 k hk).2
   clear hW2 bP ho1 B2; simp only [List.set_cons_zero, List.set_cons_succ] at bP2; refine wp_appPS rfl _ _ rfl W2.heap.size (.slice none 0 0) (.slice ca x.cs.length cx) [] x.cs rfl rfl (World.ownsRow_nil _ _ _ _) (r1.keep B3) (by simp; omega) (Nat.le_refl _) ?_; intro v2 w2 ho3 hg2; rw [List.nil_append] at ho3; obtain ⟨g2, y2, rfl⟩ := ho3.lenS8; replace bP2 := bP2.grown hg2 (by simp [Value.ownBlock]); have ho4 := ho2.kept hg2 (by cases g1 <;> simp [Value.ownBlock]); have B4 : Below wr.heap.size wr w2 := Below.grown B3 hg2 B3.size (fun k hk => by simp [Value.ownBlock] at hk); have hs2 : W2.heap.size ≤ w2.heap.size := hg2.size; clear hg2 B3 ho2; have p5 := bP2.c 5 rfl; have pf5 := bP2.f 5 rfl; have p6 := bP2.c 6 rfl; have p7 := bP2.c 7 rfl; have p8 := bP2.c 8 rfl; have p9 := bP2.c 9 rfl; go_wp2_with fail; clear p5 pf5 p6 p7 p8 p9; have bP3 := bP2.set 5 (.slice g2 x.cs.length y2); have ho5 := ho4.far (o := 5) (u := .slice g2 x.cs.length y2) hPV; have ho6 := ho3.far (o := 5) (u := .slice g2 x.cs.length y2) (show P < W2.heap.size by omega); have B5 := B4.setCell (p := ⟨P, 5, none⟩) hPw (.slice g2 x.cs.length y2); obtain ⟨W3, hW3⟩ : ∃ W, W = w2.setCell ⟨P, 5, none⟩ (.slice g2 x.cs.length y2) := ⟨_, rfl⟩; have hz3 : w2.heap.size = W3.heap.size := by rw [hW3]; simp
   rw [← hW3] at bP3 ho5 ho6 B5 ⊢; have HO2 : Hid (∀ k, (Value.slice g2 x.cs.length y2).ownBlock = some k → k < W3.heap.size) := Lib.hid fun k hk => (World.ownsRow.lt ho6 k hk).2
   clear hW3 bP2 ho4 ho3 B4; simp only [List.set_cons_zero, List.set_cons_succ] at bP3; refine (icopy_any _ _ x.ps x.ms x.pr x.bw W3 (r2.keep B5) (r3.keep B5) hl4.2.2.1 hl4.2.2.2).mono ?_; rintro e w3 ⟨g3, y3, g4, y4, rfl, o3, o4, ap, hb⟩; replace bP3 := bP3.keep hb; replace ho5 := ho5.keep hb; replace ho6 := ho6.keep hb; have hs3 := hb.size; replace B5 := below_step B5 hb; clear hb; have p6 := bP3.c 6 rfl; have p7 := bP3.c 7 rfl; have p8 := bP3.c 8 rfl; have p9 := bP3.c 9 rfl; have pf6 := bP3.f 6 rfl; have pf7 := bP3.f 7 rfl; have pf8 := bP3.f 8 rfl; have pf9 := bP3.f 9 rfl; have p0 := bP3.c 0 rfl; have p1 := bP3.c 1 rfl; have p2 := bP3.c 2 rfl; have p3 := bP3.c 3 rfl; have p4 := bP3.c 4 rfl; have p5 := bP3.c 5 rfl; have p10 := bP3.c 10 rfl; go_wp2_with (at_builtin; refine Hid.out ?_); refine Lib.hid ?_; clear p0 p1 p2 p3 p4 p5 p6 p7 p8 p9 p10 pf6 pf7 pf8 pf9 bP3; have hPW3 : P < W3.heap.size := by omega
   have hPW2 : P < W2.heap.size := by omega
   have ux1 := (((ho5.far (o := 6) (u := .slice g3 x.ps.length y3) hPV).far (o := 7) (u := .int .i64 x.pr) hPV).far (o := 8) (u := .slice g4 x.ms.length y4) hPV).far (o := 9) (u := .int .i64 x.bw) hPV; have ux2 := (((ho6.far (o := 6) (u := .slice g3 x.ps.length y3) hPW2).far (o := 7) (u := .int .i64 x.pr) hPW2).far (o := 8) (u := .slice g4 x.ms.length y4) hPW2).far (o := 9) (u := .int .i64 x.bw) hPW2; have ux3 := (((o3.far (o := 6) (u := .slice g3 x.ps.length y3) hPW3).far (o := 7) (u := .int .i64 x.pr) hPW3).far (o := 8) (u := .slice g4 x.ms.length y4) hPW3).far (o := 9) (u := .int .i64 x.bw) hPW3; have ux4 := (((o4.far (o := 6) (u := .slice g3 x.ps.length y3) hPW3).far (o := 7) (u := .int .i64 x.pr) hPW3).far (o := 8) (u := .slice g4 x.ms.length y4) hPW3).far (o := 9) (u := .int .i64 x.bw) hPW3; have B6 := (((B5.setCell (p := ⟨P, 6, none⟩) hPw (.slice g3 x.ps.length y3)).setCell (p := ⟨P, 7, none⟩) hPw (.int .i64 x.pr)).setCell (p := ⟨P, 8, none⟩) hPw (.slice g4 x.ms.length y4)).setCell (p := ⟨P, 9, none⟩) hPw (.int .i64 x.bw); obtain ⟨W4, hW4⟩ : ∃ W, W = (((w3.setCell ⟨P, 6, none⟩ (.slice g3 x.ps.length y3)).setCell ⟨P, 7, none⟩ (.int .i64 x.pr)).setCell ⟨P, 8, none⟩ (.slice g4 x.ms.length y4)).setCell ⟨P, 9, none⟩ (.int .i64 x.bw) := ⟨_, rfl⟩; have hz4 : w3.heap.size = W4.heap.size := by rw [hW4]; simp
   rw [← hW4] at ux1 ux2 ux3 ux4 B6 ⊢
   try rw [hz4]
   clear hW4 ho5 ho6 o3 o4 B5; have bN := Bl.new W4 [.int .i64 x.kn, .int .i64 x.sa, .int .i64 x.ho, .int .i64 x.ix, .slice g1 x.gs.length y1, .slice g2 x.cs.length y2, .slice g3 x.ps.length y3, .int .i64 x.pr, .slice g4 x.ms.length y4, .int .i64 x.bw, .int .i64 x.er] 157 W4.heap.size rfl; have N1 : Below W4.heap.size W4 (W4.alloc (.cells #[.int .i64 x.kn, .int .i64 x.sa, .int .i64 x.ho, .int .i64 x.ix, .slice g1 x.gs.length y1, .slice g2 x.cs.length y2, .slice g3 x.ps.length y3, .int .i64 x.pr, .slice g4 x.ms.length y4, .int .i64 x.bw, .int .i64 x.er] 157)) := (Below.refl _ _).alloc (Nat.le_refl _) _; have z5 : (W4.alloc (.cells #[.int .i64 x.kn, .int .i64 x.sa, .int .i64 x.ho, .int .i64 x.ix, .slice g1 x.gs.length y1, .slice g2 x.cs.length y2, .slice g3 x.ps.length y3, .int .i64 x.pr, .slice g4 x.ms.length y4, .int .i64 x.bw, .int .i64 x.er] 157)).heap.size = W4.heap.size + 1 := by simp
   have B7 := below_step B6 N1; replace ux1 := ux1.keep N1; replace ux2 := ux2.keep N1; replace ux3 := ux3.keep N1; replace ux4 := ux4.keep N1; obtain ⟨W5, hW5⟩ : ∃ W, W = W4.alloc (.cells #[.int .i64 x.kn, .int .i64 x.sa, .int .i64 x.ho, .int .i64 x.ix, .slice g1 x.gs.length y1, .slice g2 x.cs.length y2, .slice g3 x.ps.length y3, .int .i64 x.pr, .slice g4 x.ms.length y4, .int .i64 x.bw, .int .i64 x.er] 157) := ⟨_, rfl⟩; rw [← hW5] at ux1 ux2 ux3 ux4 bN B7 z5 ⊢; clear hW5 N1 B6; have l3 := fun k q => (World.ownsRow.lt ux3 k q)
   have l4 := fun k q => (World.ownsRow.lt ux4 k q)
   have hO : OwM W5 (Rg wr.heap.size W5.heap.size) (.slice g1 x.gs.length y1) (.slice g2 x.cs.length y2) (.slice g3 x.ps.length y3) (.slice g4 x.ms.length y4) x :=
    ⟨Rg V.heap.size W2.heap.size, Rg W2.heap.size W3.heap.size, fun b => (Value.slice g3 x.ps.length y3).ownBlock = some b, fun b => (Value.slice g4 x.ms.length y4).ownBlock = some b,
     fun b q => ⟨by have := q.1; omega, by have := q.2; omega⟩, fun b q => ⟨by have := q.1; omega, by have := q.2; omega⟩, fun b q => ⟨by have := (l3 b q).1; omega, (l3 b q).2⟩, fun b q => ⟨by have := (l4 b q).1; omega, (l4 b q).2⟩,
     fun b q r => by have := q.2; have := r.1; omega, fun b q r => by have := q.2; have := (l3 b r).1; omega, fun b q r => by have := q.2; have := (l4 b r).1; omega, fun b q r => by have := q.2; have := (l3 b r).1; omega, fun b q r => by have := q.2; have := (l4 b r).1; omega, fun b q r => ap_ne ap q r,
     owP_pr ux1 HO1.out hl4.1, owP_pr ux2 HO2.out hl4.2.1, ⟨ux3.mono (Nat.zero_le _), fun k q => q, hl4.2.2.1, r2.1⟩, ⟨ux4.mono (Nat.zero_le _), fun k q => q, hl4.2.2.2, r3.1⟩⟩
   clear ux1 ux2 ux3 ux4 l3 l4 HO1 HO2 ap r0 r1 r2 r3; have hG0 := hG.keep B7; have hbw : w.heap.size ≤ W5.heap.size := Nat.le_trans hB.size B7.size; refine wp_apM rfl (.tmp 24) (.tmp 26) rfl w.heap.size W4.heap.size 1 _ (L.take k).length xs [.int .i64 x.kn, .int .i64 x.sa, .int .i64 x.ho, .int .i64 x.ix, .slice g1 x.gs.length y1, .slice g2 x.cs.length y2, .slice g3 x.ps.length y3, .int .i64 x.pr, .slice g4 x.ms.length y4, .int .i64 x.bw, .int .i64 x.er] rfl rfl hG0.row bN rfl (by simp [Value.oneCell']) (by rw [HLK.out]; omega) hbw ?_; intro v4 w5 hrow hg hor; have hGn := hG.step hB.size B7 hO (fun b q => q) hrow hg hor; have hBn := below_grM (below_step hB B7) hG0 (Nat.le_refl _) hg; rw [← HTK.out] at hGn; clear hG hG0 hO hrow hg hor B7 hB bN; go_wp2
   go_roundw
   case rel => exact ⟨k + 1, _, by omega, by go_num, hGn, hBn⟩
   case measure => simp [intOf]; omega
  ·have hkn : k = n := by omega
   subst hkn; clear hc; go_wp2
   go_ret
   refine ⟨_, rfl, ?_, hB⟩; have := hG.own (by rw [List.length_take]; omega); rw [HN.out, List.take_length] at this
   exact this
end Go.Proofs.YtkodnipmogdgkaaGreat
