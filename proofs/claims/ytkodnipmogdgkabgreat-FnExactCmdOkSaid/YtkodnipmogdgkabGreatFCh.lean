/-
  NodeOk of the model. Conditions: those in each contract.
  Copies of tables, of the model. Conditions: those in each contract.
  Tables without some of their entries, of the model. Conditions: those in each contract.
  The library's IndexFunc and DeleteFunc at rows of entries. Conditions: those in each contract.
  The library's IndexFunc and DeleteFunc at rows of entries, for the closure of RibDropPeer. Conditions: those in each contract.
  RibDropPeer of the program and of the model. Conditions: those in each contract.
  Marks on a table that was made by the call; they are found again. Conditions: those in each contract.
  Marks on a table that was made by the call, and how they are found again: contracts. Conditions: those in each contract.
  Words for the law on RibDropPeer. Conditions: those in each statement.
  The prefixes of a table: contracts of RibPrefixes of the program and of the model. Conditions: those in each contract.
  The library's slices.Compact at a slice of prefixes; the program's list of a table's prefixes. Conditions: those in each contract.
  A list of prefixes is marked, and its marks are found again. Conditions: those in each contract.
  Marks on switches: on a copy of an argument, on an answer; the latter are found again. Conditions: those in each contract.
  Words for the laws on switches. Conditions: those in each statement.
  Copies of switches and NodeDrain, of the program and of the model. Conditions: those in each contract.
  Words for the laws on functions that answer a switch. Conditions: those in each statement.
-/
import Derived.Test.YtkodnipmogdgkabGreatFCg
import Derived.Test.YtkodnipmogdgkabGreatFCd
import Derived.Test.YtkodnipmogdgkabGreatFCe
import Derived.Test.YtkodnipmogdgkabGreatFCb
import Derived.Deep.RegionHeld
namespace Go.Proofs.YtkodnipmogdgkabGreat
open Go.ChangeShapes Go.WideShapes Go.ChangeAt Go.RowKit Go.BigFrame Go.Joins
set_option linter.unusedVariables false
set_option maxRecDepth 100000
set_option maxRecDepth 100000
set_option linter.unusedSimpArgs false
set_option maxRecDepth 100000

theorem sha8_t {v : Value} {l : List Int} {x : Int} {b : Bool} (w : World) (h : RdI w v l) (H : Hid (decide (x ∈ l) = b)) : Calls Tryz.prog 48 #[v, .int .i64 x] w fun e w' => e = .returned (.bool b) ∧ Below w.heap.size w w' := H.out ▸ shas_any v l x w h
theorem rdE_at {W : World} {a : Option Addr} {n c : Nat} {L : List Ent} (h : RdE W (.slice a n c) L) (hn : n = L.length) : ∀ i, i < n → ∃ b o, a = some ⟨b, o, none⟩ ∧ EntAt W b (o + i * 7) (L.getD i e0) := by
  obtain ⟨a', c', e, hc⟩ := h.el
  injection e with q1 q2 q3
  subst q1; intro i hi
  exact hc i (by omega)
theorem allNext {L : List Ent} {f : Ent → Bool} {k : Nat} {E : Ent} (h : ∀ j, j < k → f (L.getD j e0) = true) (hx : L.getD k e0 = E) (hE : f E = true) : ∀ j, j < k + 1 → f (L.getD j e0) = true := by
  intro j hj
  by_cases e : j = k
  · subst e; rw [hx]; exact hE
  · exact h j (by omega)
set_option maxHeartbeats 8000000 in
theorem sndok_any (ov rv sv : Value) (N : Nd) (w : World) (h : RdN w ov rv sv N) :
    Calls Tryz.prog 23 #[.agg #[.int .i64 N.an, ov, .int .i64 N.bw, .bool N.dr, rv, sv]] w fun e w' => e = .returned (.bool (ndB N)) ∧ Below w.heap.size w w' := by
  obtain ⟨hO, hR, hS⟩ := h; obtain ⟨oa, oc, hov⟩ := hO.len; obtain ⟨ra, rc, hrv⟩ := hR.len; obtain ⟨sa, sc, hsv⟩ := hS.len; obtain ⟨on, hon⟩ : ∃ on, on = N.own.length := ⟨_, rfl⟩; obtain ⟨rn, hrn0⟩ : ∃ rn, rn = N.rib.length := ⟨_, rfl⟩; obtain ⟨sn, hsn⟩ : ∃ sn, sn = N.sent.length := ⟨_, rfl⟩; rw [← hon] at hov; rw [← hrn0] at hrv; rw [← hsn] at hsv; subst hov hrv hsv; have hoB := hO.1; rw [← hon] at hoB; have hRE : ∀ {W : World}, RdE W (.slice ra rn rc) N.rib → ∀ i, i < rn → ∃ b o, ra = some ⟨b, o, none⟩ ∧ EntAt W b (o + i * 7) (N.rib.getD i e0) := fun h i hi => rdE_at h hrn0 i hi
  have hSE : ∀ {W : World}, RdE W (.slice sa sn sc) N.sent → ∀ i, i < sn → ∃ b o, sa = some ⟨b, o, none⟩ ∧ EntAt W b (o + i * 7) (N.sent.getD i e0) := fun h i hi => rdE_at h hsn i hi
  obtain ⟨bA, B0, z⟩ := one w [.int .i64 N.an, .slice oa on oc, .int .i64 N.bw, .bool N.dr, .slice ra rn rc, .slice sa sn sc] 71; replace hO := hO.keep B0; replace hR := hR.keep B0; replace hS := hS.keep B0; have HON := Lib.hid hon; have HRN := Lib.hid hrn0; have HSN := Lib.hid hsn; clear z hon hrn0 hsn; have a0 := bA.c 0 rfl; cases hAA : asB N.an
  · have HF : Hid (ndB N = false) := Lib.hid (by unfold ndB; rw [hAA]; rfl)
    have HA := Lib.hid hAA; clear hAA
    go_enter Tryz.func23, Tryz.ntmps23
    go_wp2_with fail; refine (sas8 _ HA).mono ?_; rintro e w1 ⟨rfl, rfl⟩; go_wp2
    go_ret
    exact ⟨ret_bool HF.out.symm, B0⟩
  · have HA := Lib.hid hAA
    clear hAA; cases hOO : (decide ((N.own.length : Int) ≤ 2) && pfxB N.own)
    · have HF : Hid (ndB N = false) := Lib.hid (by unfold ndB; rw [HA.out, hOO]; rfl)
      cases hGG : (decide ((N.own.length : Int) ≤ 8) && pfxB N.own)
      · have HG := Lib.hid hGG
        clear hGG hOO
        go_enter Tryz.func23, Tryz.ntmps23
        go_wp2_with fail; refine (sas8 _ HA).mono ?_; rintro e w1 ⟨rfl, rfl⟩; have a1 := bA.c 1 rfl; go_wp2_with fail; clear a1; refine (spfx8 _ hO HG).mono ?_; rintro e w2 ⟨rfl, hb⟩; replace bA := bA.keep hb; replace hO := hO.keep hb; replace hR := hR.keep hb; replace hS := hS.keep hb; replace B0 := below_step B0 hb; clear hb; have a1 := bA.c 1 rfl; have a2 := bA.c 2 rfl; go_wp2
        go_ret
        exact ⟨ret_bool HF.out.symm, B0⟩
      · have HG := Lib.hid hGG
        have hl2 : (2 : Int) < (on : Int) := by
          rw [HON.out]; simp only [Bool.and_eq_true] at hGG; rw [hGG.2, Bool.and_true, decide_eq_false_iff_not] at hOO
          omega
        clear hGG hOO
        go_enter Tryz.func23, Tryz.ntmps23
        go_wp2_with fail; refine (sas8 _ HA).mono ?_; rintro e w1 ⟨rfl, rfl⟩; have a1 := bA.c 1 rfl; go_wp2_with fail; clear a1; refine (spfx8 _ hO HG).mono ?_; rintro e w2 ⟨rfl, hb⟩; replace bA := bA.keep hb; replace hO := hO.keep hb; replace hR := hR.keep hb; replace hS := hS.keep hb; replace B0 := below_step B0 hb; clear hb; have a1 := bA.c 1 rfl; have a2 := bA.c 2 rfl; go_wp2
        go_ret
        exact ⟨ret_bool HF.out.symm, B0⟩
    · have HO := Lib.hid hOO
      have hl2 : ¬ (2 : Int) < (on : Int) := by
        rw [HON.out]; simp only [Bool.and_eq_true, decide_eq_true_eq] at hOO
        omega
      have HG : Hid ((decide ((N.own.length : Int) ≤ 8) && pfxB N.own) = true) := Lib.hid (by
        simp only [Bool.and_eq_true, decide_eq_true_eq] at hOO ⊢
        exact ⟨by omega, hOO.2⟩)
      clear hOO; cases hBB : inB N.bw 0 1000
      · have HF : Hid (ndB N = false) := Lib.hid (by unfold ndB; rw [HA.out, HO.out, hBB]; rfl)
        by_cases hb0 : N.bw < 0
        · clear hBB
          go_enter Tryz.func23, Tryz.ntmps23
          go_wp2_with fail; refine (sas8 _ HA).mono ?_; rintro e w1 ⟨rfl, rfl⟩; have a1 := bA.c 1 rfl; go_wp2_with fail; clear a1; refine (spfx8 _ hO HG).mono ?_; rintro e w2 ⟨rfl, hb⟩; replace bA := bA.keep hb; replace hO := hO.keep hb; replace hR := hR.keep hb; replace hS := hS.keep hb; replace B0 := below_step B0 hb; clear hb; have a1 := bA.c 1 rfl; have a2 := bA.c 2 rfl; go_wp2
          go_ret
          exact ⟨ret_bool HF.out.symm, B0⟩
        · have hb1 : 1000 < N.bw := by
            unfold inB at hBB; rw [decide_eq_false_iff_not] at hBB
            omega
          clear hBB
          go_enter Tryz.func23, Tryz.ntmps23
          go_wp2_with fail; refine (sas8 _ HA).mono ?_; rintro e w1 ⟨rfl, rfl⟩; have a1 := bA.c 1 rfl; go_wp2_with fail; clear a1; refine (spfx8 _ hO HG).mono ?_; rintro e w2 ⟨rfl, hb⟩; replace bA := bA.keep hb; replace hO := hO.keep hb; replace hR := hR.keep hb; replace hS := hS.keep hb; replace B0 := below_step B0 hb; clear hb; have a1 := bA.c 1 rfl; have a2 := bA.c 2 rfl; go_wp2
          go_ret
          exact ⟨ret_bool HF.out.symm, B0⟩
      · have HB := Lib.hid hBB
        have hb0 : ¬ N.bw < 0 := by
          unfold inB at hBB; rw [decide_eq_true_eq] at hBB
          omega
        have hb1 : ¬ 1000 < N.bw := by
          unfold inB at hBB; rw [decide_eq_true_eq] at hBB
          omega
        clear hBB; cases hRR : ribB N.rib
        · have HF : Hid (ndB N = false) := Lib.hid (by unfold ndB; rw [HA.out, HO.out, HB.out, hRR]; rfl)
          have HR := Lib.hid hRR; clear hRR
          go_enter Tryz.func23, Tryz.ntmps23
          go_wp2_with fail; refine (sas8 _ HA).mono ?_; rintro e w1 ⟨rfl, rfl⟩; have a1 := bA.c 1 rfl; go_wp2_with fail; clear a1; refine (spfx8 _ hO HG).mono ?_; rintro e w2 ⟨rfl, hb⟩; replace bA := bA.keep hb; replace hO := hO.keep hb; replace hR := hR.keep hb; replace hS := hS.keep hb; replace B0 := below_step B0 hb; clear hb; have a1 := bA.c 1 rfl; have a2 := bA.c 2 rfl; have a4 := bA.c 4 rfl; go_wp2_with fail; clear a1 a2 a4; refine (srib_t _ hR HR).mono ?_; rintro e w3 ⟨rfl, hb⟩; replace bA := bA.keep hb; replace hO := hO.keep hb; replace hR := hR.keep hb; replace hS := hS.keep hb; replace B0 := below_step B0 hb; clear hb; go_wp2
          go_ret
          exact ⟨ret_bool HF.out.symm, B0⟩
        · have HR := Lib.hid hRR
          clear hRR; cases hSS : ribB N.sent
          · have HF : Hid (ndB N = false) := Lib.hid (by unfold ndB; rw [HA.out, HO.out, HB.out, HR.out, hSS]; rfl)
            have HS := Lib.hid hSS; clear hSS
            go_enter Tryz.func23, Tryz.ntmps23
            go_wp2_with fail; refine (sas8 _ HA).mono ?_; rintro e w1 ⟨rfl, rfl⟩; have a1 := bA.c 1 rfl; go_wp2_with fail; clear a1; refine (spfx8 _ hO HG).mono ?_; rintro e w2 ⟨rfl, hb⟩; replace bA := bA.keep hb; replace hO := hO.keep hb; replace hR := hR.keep hb; replace hS := hS.keep hb; replace B0 := below_step B0 hb; clear hb; have a1 := bA.c 1 rfl; have a2 := bA.c 2 rfl; have a4 := bA.c 4 rfl; go_wp2_with fail; clear a1 a2 a4; refine (srib_t _ hR HR).mono ?_; rintro e w3 ⟨rfl, hb⟩; replace bA := bA.keep hb; replace hO := hO.keep hb; replace hR := hR.keep hb; replace hS := hS.keep hb; replace B0 := below_step B0 hb; clear hb; have a5 := bA.c 5 rfl; go_wp2_with fail; clear a5; refine (srib_t _ hS HS).mono ?_; rintro e w4 ⟨rfl, hb⟩; replace bA := bA.keep hb; replace hO := hO.keep hb; replace hR := hR.keep hb; replace hS := hS.keep hb; replace B0 := below_step B0 hb; clear hb; go_wp2
            go_ret
            exact ⟨ret_bool HF.out.symm, B0⟩
          · have HS := Lib.hid hSS
            clear hSS
            go_enter Tryz.func23, Tryz.ntmps23
            go_wp2_with fail; refine (sas8 _ HA).mono ?_; rintro e w1 ⟨rfl, rfl⟩; have a1 := bA.c 1 rfl; go_wp2_with fail; clear a1; refine (spfx8 _ hO HG).mono ?_; rintro e w2 ⟨rfl, hb⟩; replace bA := bA.keep hb; replace hO := hO.keep hb; replace hR := hR.keep hb; replace hS := hS.keep hb; replace B0 := below_step B0 hb; clear hb; have a1 := bA.c 1 rfl; have a2 := bA.c 2 rfl; have a4 := bA.c 4 rfl; go_wp2_with fail; clear a1 a2 a4; refine (srib_t _ hR HR).mono ?_; rintro e w3 ⟨rfl, hb⟩; replace bA := bA.keep hb; replace hO := hO.keep hb; replace hR := hR.keep hb; replace hS := hS.keep hb; replace B0 := below_step B0 hb; clear hb; have a5 := bA.c 5 rfl; go_wp2_with fail; clear a5; refine (srib_t _ hS HS).mono ?_; rintro e w4 ⟨rfl, hb⟩; replace bA := bA.keep hb; replace hO := hO.keep hb; replace hR := hR.keep hb; replace hS := hS.keep hb; replace B0 := below_step B0 hb; clear hb; clear HG; have HND := Lib.hid (nd_iff HA.out HO.out HB.out HR.out HS.out); obtain ⟨V, hV⟩ : ∃ V, V = w4 := ⟨_, rfl⟩; rw [← hV] at bA hO hR hS B0; have hc := (hRE hR); have hd := (hSE hS)
            have hsn60 : sn ≤ 60 := by
              have := (rib_ok HS.out).2.1; rw [← HSN.out] at this
              exact this
            have hrn : rn ≤ 60 := by
              have := (rib_ok HR.out).2.1; rw [← HRN.out] at this
              exact this
            clear hRE hSE; go_wp2; rw [← hV]; clear hV
            go_loopw [3, 4] (fun q i wr => ∃ k : Nat, k ≤ rn ∧ i = .int .i64 k ∧ q = .int .i64 (ownN (N.rib.take k)) ∧ (∀ j, j < k → knowM N.an N.bw N.own (N.rib.getD j e0) = true) ∧ Over V wr) (fun _ i _ => rn - (intOf i).toNat)
            case atStart => exact ⟨0, Nat.zero_le _, rfl, by simp [ownN], fun j hj => by omega, over_refl _⟩
            case round =>
              obtain ⟨k, hk, rfl, rfl, hyes, hB⟩ := hrel; have HY := Lib.hid hyes; clear hyes; have a0 := over_cell hB bA.lt (bA.c 0 rfl); have a1 := over_cell hB bA.lt (bA.c 1 rfl); have a2 := over_cell hB bA.lt (bA.c 2 rfl); have a3 := over_cell hB bA.lt (bA.c 3 rfl); have a4 := over_cell hB bA.lt (bA.c 4 rfl); have a5 := over_cell hB bA.lt (bA.c 5 rfl); have lA := (bA.keep hB).lt
              by_cases hlt : k < rn
              · have hltI : (k : Int) < (rn : Int) := by omega
                obtain ⟨b, o, rfl, hE⟩ := hc k hlt; obtain ⟨E, hx⟩ : ∃ E, N.rib.getD k e0 = E := ⟨_, rfl⟩; rw [hx] at hE; have hkR : k < N.rib.length := by rw [← HRN.out]; exact hlt
                have HNX := Lib.hid (ownN_next hkR hx); have hle := ownN_le N.rib k
                have hp8 : E.p.length ≤ 8 := by
                  have q := rib_attr HR.out k hkR; rw [hx] at q; unfold aokB at q; simp only [Bool.and_eq_true, decide_eq_true_eq] at q
                  omega
                have HX := Lib.hid hx; obtain ⟨pv, cv, hp, hq, g0, g1, g2, g3, g4, g5, g6⟩ := hE.keep hB; obtain ⟨pa, px, rfl⟩ := hp.len; obtain ⟨qa, qx, rfl⟩ := hq.len; obtain ⟨m, hm⟩ : ∃ m, m = ownN (N.rib.take k) := ⟨_, rfl⟩; rw [← hm] at HNX hle ⊢; have HM := Lib.hid hm; have HC := Lib.hid hc; have hmw : IntKind.i64.wrap ((m : Int) + 1) = (m : Int) + 1 := wrap64_in _ (by omega) (by omega); have bE := Bl.new wr [.int .i64 E.a, .int .i64 E.n, .int .i64 E.pe, .slice pa E.p.length px, .int .i64 E.pr, .slice qa E.c.length qx, .int .i64 E.bw] EI wr.heap.size rfl; have A1 : Below wr.heap.size wr (wr.alloc (.cells #[.int .i64 E.a, .int .i64 E.n, .int .i64 E.pe, .slice pa E.p.length px, .int .i64 E.pr, .slice qa E.c.length qx, .int .i64 E.bw] EI)) := (Below.refl _ _).alloc (Nat.le_refl _) _; have hp1 := hp.keep A1; have hq1 := hq.keep A1; have hB1 := over_step hB A1; have hO1 := hO.keep hB1; clear hm hx hc hE hp hq hkR; have e2 := bE.c 2 rfl
                by_cases hpe : 0 ≤ E.pe
                · have e3 := bE.c 3 rfl
                  cases hmem : decide (N.an ∈ E.p)
                  · have HME := Lib.hid hmem
                    by_cases h0 : E.p.length = 0
                    · have HF : Hid (ndB N = false) := Lib.hid (by rw [HND.out, all_no (by rw [← HRN.out]; exact hlt) HX.out (by unfold knowM; rw [if_pos hpe, h0]; simp)]; rfl)
                      clear hmem; rw [h0] at bE A1 hp1 hB1 hO1 e2 e3 g3; go_wp2_with fail; refine (sha8_t _ hp1 HME).mono ?_; rintro e w5 ⟨rfl, hb⟩; have e3 := (bE.keep hb).c 3 rfl; go_wp2
                      go_ret
                      exact ⟨ret_bool HF.out.symm, below_step B0 (over_step hB1 hb)⟩
                    · have HOK : Hid (knowM N.an N.bw N.own E = true) := Lib.hid (by unfold knowM; rw [if_pos hpe, hmem]; simp only [Bool.not_false, Bool.true_and, decide_eq_true_eq]; omega)
                      have h0b : ((E.p.length : Int) == 0) = false := by rw [beq_eq_false_iff_ne]; omega
                      have HPE := Lib.hid hpe; clear hmem; go_wp2_with fail; refine (sha8_t _ hp1 HME).mono ?_; rintro e w5 ⟨rfl, hb⟩; have e3 := (bE.keep hb).c 3 rfl; go_wp2
                      go_roundw
                      case rel => exact ⟨k + 1, by omega, by go_num, by rw [HNX.out, if_pos (by have := HPE.out; omega)]; rfl, allNext HY.out HX.out HOK.out, over_step hB1 hb⟩
                      case measure => simp [intOf]; omega
                  · have HME := Lib.hid hmem
                    have HF : Hid (ndB N = false) := Lib.hid (by rw [HND.out, all_no (by rw [← HRN.out]; exact hlt) HX.out (by unfold knowM; rw [if_pos hpe, hmem]; simp)]; rfl); clear hmem; go_wp2_with fail; refine (sha8_t _ hp1 HME).mono ?_; rintro e w5 ⟨rfl, hb⟩; go_wp2
                    go_ret
                    exact ⟨ret_bool HF.out.symm, below_step B0 (over_step hB1 hb)⟩
                · cases hmem : decide ((E.a, E.n) ∈ N.own)
                  · have HME := Lib.hid hmem
                    have HF : Hid (ndB N = false) := Lib.hid (by rw [HND.out, all_no (by rw [← HRN.out]; exact hlt) HX.out (by unfold knowM; rw [if_neg hpe, hmem]; simp)]; rfl); clear hmem; obtain ⟨V1, hV1⟩ : ∃ V1, V1 = wr.alloc (.cells #[.int .i64 E.a, .int .i64 E.n, .int .i64 E.pe, .slice pa E.p.length px, .int .i64 E.pr, .slice qa E.c.length qx, .int .i64 E.bw] EI) := ⟨_, rfl⟩; have bA1 := bA.keep hB1; rw [← hV1] at bE hp1 hq1 hB1 hO1 bA1 e2; go_wp2_with fail; rw [← hV1]; clear hV1 g0 g1 g2 g3 g4 g5 g6 a0 a1 a2 a3 a4 a5 A1; refine wp_region_class (C := Over (V1)) (by kernel_rfl) (by kernel_rfl) (over_drew _) ?_
                    repeat (first | go_big_quiet_skip | (go_big_quiet_want; go_big_quiet_op; go_big_quiet_on) | (go_big_quiet_want; go_big_quiet_op; apply Exists.intro; refine ⟨fun w' hC => ?_, ?_⟩; ((first | (go_at_call 49; refine (sgone_t _ (hO1.keep hC) HME).mono ?_; rintro e w1 ⟨rfl, hb1⟩; exact ⟨rfl, over_step hC hb1⟩))); go_big_quiet_on) | (go_big_quiet_want; apply Exists.intro; refine ⟨fun w' hC => ?_, ?_⟩; (have k0 := over_cell hC bA1.lt (bA1.c 0 rfl); have k1 := over_cell hC bA1.lt (bA1.c 1 rfl); have k2 := over_cell hC bA1.lt (bA1.c 2 rfl); have k3 := over_cell hC bA1.lt (bA1.c 3 rfl); have k4 := over_cell hC bA1.lt (bA1.c 4 rfl); have k5 := over_cell hC bA1.lt (bA1.c 5 rfl); have k6 := over_cell hC bE.lt (bE.c 0 rfl); have k7 := over_cell hC bE.lt (bE.c 1 rfl); have k8 := over_cell hC bE.lt (bE.c 2 rfl); have k9 := over_cell hC bE.lt (bE.c 3 rfl); have k10 := over_cell hC bE.lt (bE.c 4 rfl); have k11 := over_cell hC bE.lt (bE.c 5 rfl); have k12 := over_cell hC bE.lt (bE.c 6 rfl); simp [Oper.quietAt, Oper.quietUpon, go_sem, k0, k1, k2, k3, k4, k5, k6, k7, k8, k9, k10, k11, k12]; first | done | rfl); go_big_quiet_on; simp only [Act.put, List.setIfInBounds_toArray, List.set_cons_zero, List.set_cons_succ]))
                    refine wpQuiet_nil ?_; intro wr hC; have k0 := over_cell hC bA1.lt (bA1.c 0 rfl); have k1 := over_cell hC bA1.lt (bA1.c 1 rfl); have k2 := over_cell hC bA1.lt (bA1.c 2 rfl); have k3 := over_cell hC bA1.lt (bA1.c 3 rfl); have k4 := over_cell hC bA1.lt (bA1.c 4 rfl); have k5 := over_cell hC bA1.lt (bA1.c 5 rfl); have k6 := over_cell hC bE.lt (bE.c 0 rfl); have k7 := over_cell hC bE.lt (bE.c 1 rfl); have k8 := over_cell hC bE.lt (bE.c 2 rfl); have k9 := over_cell hC bE.lt (bE.c 3 rfl); have k10 := over_cell hC bE.lt (bE.c 4 rfl); have k11 := over_cell hC bE.lt (bE.c 5 rfl); have k12 := over_cell hC bE.lt (bE.c 6 rfl); go_wp2
                    go_ret
                    exact ⟨ret_bool HF.out.symm, below_step B0 (over_step hB1 hC)⟩
                  · obtain ⟨r, hr⟩ : ∃ r, or4 (rk E.pr E.p.length 100 0) (lx E.p []) (lx E.c []) (nm E.bw N.bw) = r := ⟨_, rfl⟩
                    have HR4 := Lib.hid (And.intro hp8 hr); have HME := Lib.hid hmem
                    by_cases hr0 : r = 0
                    · have HOK : Hid (knowM N.an N.bw N.own E = true) := Lib.hid (by unfold knowM; rw [if_neg hpe, hmem, Bool.true_and]; exact or4_zero8.1 (hr.trans hr0))
                      have hrb : (r != 0) = false := by simp [hr0]
                      have HPE := Lib.hid hpe; clear hmem hr hr0; obtain ⟨V1, hV1⟩ : ∃ V1, V1 = wr.alloc (.cells #[.int .i64 E.a, .int .i64 E.n, .int .i64 E.pe, .slice pa E.p.length px, .int .i64 E.pr, .slice qa E.c.length qx, .int .i64 E.bw] EI) := ⟨_, rfl⟩; have bA1 := bA.keep hB1; rw [← hV1] at bE hp1 hq1 hB1 hO1 bA1 e2; go_wp2_with fail; rw [← hV1]; clear hV1 g0 g1 g2 g3 g4 g5 g6 a0 a1 a2 a3 a4 a5 A1; refine wp_region_class (C := Over (V1)) (by kernel_rfl) (by kernel_rfl) (over_drew _) ?_
                      repeat (first | go_big_quiet_skip | (go_big_quiet_want; go_big_quiet_op; go_big_quiet_on) | (go_big_quiet_want; go_big_quiet_op; apply Exists.intro; refine ⟨fun w' hC => ?_, ?_⟩; ((first | (go_at_call 49; refine (sgone_t _ (hO1.keep hC) HME).mono ?_; rintro e w1 ⟨rfl, hb1⟩; exact ⟨rfl, over_step hC hb1⟩) | (go_at_call 51; refine (smine8_any _ _ _ N _).mono ?_; rintro e w1 ⟨rfl, hb1⟩; exact ⟨rfl, over_step hC hb1⟩) | (go_at_call 50; refine (scmp8_t pa qa px qx E.p E.c E.pr E.bw N.bw r _ (rdI_over hp1 hC) (rdI_over hq1 hC) HR4).mono ?_; rintro e w1 ⟨rfl, hb1⟩; exact ⟨rfl, over_step hC hb1⟩))); go_big_quiet_on) | (go_big_quiet_want; apply Exists.intro; refine ⟨fun w' hC => ?_, ?_⟩; (have k0 := over_cell hC bA1.lt (bA1.c 0 rfl); have k1 := over_cell hC bA1.lt (bA1.c 1 rfl); have k2 := over_cell hC bA1.lt (bA1.c 2 rfl); have k3 := over_cell hC bA1.lt (bA1.c 3 rfl); have k4 := over_cell hC bA1.lt (bA1.c 4 rfl); have k5 := over_cell hC bA1.lt (bA1.c 5 rfl); have k6 := over_cell hC bE.lt (bE.c 0 rfl); have k7 := over_cell hC bE.lt (bE.c 1 rfl); have k8 := over_cell hC bE.lt (bE.c 2 rfl); have k9 := over_cell hC bE.lt (bE.c 3 rfl); have k10 := over_cell hC bE.lt (bE.c 4 rfl); have k11 := over_cell hC bE.lt (bE.c 5 rfl); have k12 := over_cell hC bE.lt (bE.c 6 rfl); simp [Oper.quietAt, Oper.quietUpon, go_sem, k0, k1, k2, k3, k4, k5, k6, k7, k8, k9, k10, k11, k12]; first | done | rfl); go_big_quiet_on; simp only [Act.put, List.setIfInBounds_toArray, List.set_cons_zero, List.set_cons_succ]))
                      refine wpQuiet_nil ?_; intro wr hC; have k0 := over_cell hC bA1.lt (bA1.c 0 rfl); have k1 := over_cell hC bA1.lt (bA1.c 1 rfl); have k2 := over_cell hC bA1.lt (bA1.c 2 rfl); have k3 := over_cell hC bA1.lt (bA1.c 3 rfl); have k4 := over_cell hC bA1.lt (bA1.c 4 rfl); have k5 := over_cell hC bA1.lt (bA1.c 5 rfl); have k6 := over_cell hC bE.lt (bE.c 0 rfl); have k7 := over_cell hC bE.lt (bE.c 1 rfl); have k8 := over_cell hC bE.lt (bE.c 2 rfl); have k9 := over_cell hC bE.lt (bE.c 3 rfl); have k10 := over_cell hC bE.lt (bE.c 4 rfl); have k11 := over_cell hC bE.lt (bE.c 5 rfl); have k12 := over_cell hC bE.lt (bE.c 6 rfl); go_wp2
                      go_roundw
                      case rel => exact ⟨k + 1, by omega, by go_num, by rw [HNX.out, if_neg (by have := HPE.out; omega)]; go_num, allNext HY.out HX.out HOK.out, over_step hB1 hC⟩
                      case measure => simp [intOf]; omega
                    · have HF : Hid (ndB N = false) := Lib.hid (by
                        rw [HND.out, all_no (by rw [← HRN.out]; exact hlt) HX.out (by
                          unfold knowM; rw [if_neg hpe, hmem, Bool.true_and]; cases hs : sameB E.p E.pr E.c E.bw [] 100 [] N.bw
                          · rfl
                          · exact absurd (hr.symm.trans (or4_zero8.2 hs)) hr0)]
                        rfl)
                      have hrb : (r != 0) = true := by simp [hr0]
                      clear hmem hr hr0; obtain ⟨V1, hV1⟩ : ∃ V1, V1 = wr.alloc (.cells #[.int .i64 E.a, .int .i64 E.n, .int .i64 E.pe, .slice pa E.p.length px, .int .i64 E.pr, .slice qa E.c.length qx, .int .i64 E.bw] EI) := ⟨_, rfl⟩; have bA1 := bA.keep hB1; rw [← hV1] at bE hp1 hq1 hB1 hO1 bA1 e2; go_wp2_with fail; rw [← hV1]; clear hV1 g0 g1 g2 g3 g4 g5 g6 a0 a1 a2 a3 a4 a5 A1; refine wp_region_class (C := Over (V1)) (by kernel_rfl) (by kernel_rfl) (over_drew _) ?_
                      repeat (first | go_big_quiet_skip | (go_big_quiet_want; go_big_quiet_op; go_big_quiet_on) | (go_big_quiet_want; go_big_quiet_op; apply Exists.intro; refine ⟨fun w' hC => ?_, ?_⟩; ((first | (go_at_call 49; refine (sgone_t _ (hO1.keep hC) HME).mono ?_; rintro e w1 ⟨rfl, hb1⟩; exact ⟨rfl, over_step hC hb1⟩) | (go_at_call 51; refine (smine8_any _ _ _ N _).mono ?_; rintro e w1 ⟨rfl, hb1⟩; exact ⟨rfl, over_step hC hb1⟩) | (go_at_call 50; refine (scmp8_t pa qa px qx E.p E.c E.pr E.bw N.bw r _ (rdI_over hp1 hC) (rdI_over hq1 hC) HR4).mono ?_; rintro e w1 ⟨rfl, hb1⟩; exact ⟨rfl, over_step hC hb1⟩))); go_big_quiet_on) | (go_big_quiet_want; apply Exists.intro; refine ⟨fun w' hC => ?_, ?_⟩; (have k0 := over_cell hC bA1.lt (bA1.c 0 rfl); have k1 := over_cell hC bA1.lt (bA1.c 1 rfl); have k2 := over_cell hC bA1.lt (bA1.c 2 rfl); have k3 := over_cell hC bA1.lt (bA1.c 3 rfl); have k4 := over_cell hC bA1.lt (bA1.c 4 rfl); have k5 := over_cell hC bA1.lt (bA1.c 5 rfl); have k6 := over_cell hC bE.lt (bE.c 0 rfl); have k7 := over_cell hC bE.lt (bE.c 1 rfl); have k8 := over_cell hC bE.lt (bE.c 2 rfl); have k9 := over_cell hC bE.lt (bE.c 3 rfl); have k10 := over_cell hC bE.lt (bE.c 4 rfl); have k11 := over_cell hC bE.lt (bE.c 5 rfl); have k12 := over_cell hC bE.lt (bE.c 6 rfl); simp [Oper.quietAt, Oper.quietUpon, go_sem, k0, k1, k2, k3, k4, k5, k6, k7, k8, k9, k10, k11, k12]; first | done | rfl); go_big_quiet_on; simp only [Act.put, List.setIfInBounds_toArray, List.set_cons_zero, List.set_cons_succ]))
                      refine wpQuiet_nil ?_; intro wr hC; have k0 := over_cell hC bA1.lt (bA1.c 0 rfl); have k1 := over_cell hC bA1.lt (bA1.c 1 rfl); have k2 := over_cell hC bA1.lt (bA1.c 2 rfl); have k3 := over_cell hC bA1.lt (bA1.c 3 rfl); have k4 := over_cell hC bA1.lt (bA1.c 4 rfl); have k5 := over_cell hC bA1.lt (bA1.c 5 rfl); have k6 := over_cell hC bE.lt (bE.c 0 rfl); have k7 := over_cell hC bE.lt (bE.c 1 rfl); have k8 := over_cell hC bE.lt (bE.c 2 rfl); have k9 := over_cell hC bE.lt (bE.c 3 rfl); have k10 := over_cell hC bE.lt (bE.c 4 rfl); have k11 := over_cell hC bE.lt (bE.c 5 rfl); have k12 := over_cell hC bE.lt (bE.c 6 rfl); go_wp2
                      go_ret
                      exact ⟨ret_bool HF.out.symm, below_step B0 (over_step hB1 hC)⟩
              · have hkn : k = rn := by omega
                have HR2 : Hid (N.rib.all (knowM N.an N.bw N.own) = true) := Lib.hid (all_yes HRN.out (fun i hi => HY.out i (by omega))); have e : N.rib.take k = N.rib := List.take_of_length_le (by rw [hkn, HRN.out]; exact Nat.le_refl _); rw [e]; clear e hkn hc; go_wp2
                go_loopw [6] (fun i w6 => ∃ j : Nat, j ≤ sn ∧ i = .int .i64 j ∧ (∀ i, i < j → sendB (N.sent.getD i e0) = true) ∧ Over V w6) (fun i _ => sn - (intOf i).toNat)
                case atStart => exact ⟨0, Nat.zero_le _, rfl, fun i hi => by omega, hB⟩
                case round =>
                  clear hB a0 a1 a2 a3 a4 a5; obtain ⟨j, hj, rfl, hyes, hB2⟩ := hrel; have HY2 := Lib.hid hyes; clear hyes; have a0 := over_cell hB2 bA.lt (bA.c 0 rfl); have a1 := over_cell hB2 bA.lt (bA.c 1 rfl); have a2 := over_cell hB2 bA.lt (bA.c 2 rfl); have a3 := over_cell hB2 bA.lt (bA.c 3 rfl); have a4 := over_cell hB2 bA.lt (bA.c 4 rfl); have a5 := over_cell hB2 bA.lt (bA.c 5 rfl)
                  by_cases hlt2 : j < sn
                  · have hltI : (j : Int) < (sn : Int) := by omega
                    obtain ⟨b, o, rfl, hE⟩ := hd j hlt2; obtain ⟨E, hx⟩ : ∃ E, N.sent.getD j e0 = E := ⟨_, rfl⟩; rw [hx] at hE; have hkR : j < N.sent.length := by rw [← HSN.out]; exact hlt2
                    have hpe1 := rib_peer HS.out j hkR; rw [hx] at hpe1; have HX := Lib.hid hx; obtain ⟨pv, cv, hp, hq, g0, g1, g2, g3, g4, g5, g6⟩ := hE.keep hB2; obtain ⟨pa, px, rfl⟩ := hp.len; obtain ⟨qa, qx, rfl⟩ := hq.len; have HC := Lib.hid hd; clear hx hd hE hp hq
                    by_cases hpe : E.pe < 0
                    · have HF : Hid (ndB N = false) := Lib.hid (by rw [HND.out, all_no hkR HX.out (by unfold sendB; rw [show E.pe = -1 by omega]; rfl), Bool.and_false])
                      clear hkR hpe1; go_wp2
                      go_ret
                      exact ⟨ret_bool HF.out.symm, below_step B0 hB2⟩
                    · by_cases h0 : E.p.length = 0
                      · have HF : Hid (ndB N = false) := Lib.hid (by rw [HND.out, all_no hkR HX.out (by unfold sendB; rw [h0]; simp), Bool.and_false])
                        rw [h0] at g3; clear hkR hpe1 h0; go_wp2
                        go_ret
                        exact ⟨ret_bool HF.out.symm, below_step B0 hB2⟩
                      · have HOK : Hid (sendB E = true) := Lib.hid (by
                          unfold sendB; rw [show (E.pe == -1) = false by simp; omega]; simp only [Bool.not_false, Bool.true_and, decide_eq_true_eq]
                          omega)
                        have h0b : ((E.p.length : Int) == 0) = false := by rw [beq_eq_false_iff_ne]; omega
                        clear hkR hpe1; go_wp2
                        go_roundw
                        case rel => exact ⟨j + 1, by omega, by go_num, allNext (f := fun E => sendB E) HY2.out HX.out HOK.out, hB2⟩
                        case measure => simp [intOf]; omega
                  · have HS2 : Hid ((N.sent.all fun E => sendB E) = true) := Lib.hid (all_yes HSN.out (fun i hi => HY2.out i (by omega)))
                    clear hd; cases hcnt : decide (ownN N.rib = N.own.length)
                    · have HF : Hid (ndB N = false) := Lib.hid (by rw [HND.out, hcnt, Bool.and_false, Bool.false_and])
                      have hcb : ((ownN N.rib : Int) == (on : Int)) = false := by
                        rw [beq_eq_false_iff_ne]; intro q; rw [decide_eq_false_iff_not] at hcnt
                        exact hcnt (by rw [← HON.out]; omega)
                      clear hcnt; go_wp2
                      go_ret
                      exact ⟨ret_bool HF.out.symm, below_step B0 hB2⟩
                    · have HF : Hid (ndB N = true) := Lib.hid (by rw [HND.out, hcnt, HS2.out, HR2.out]; rfl)
                      have hcb : ((ownN N.rib : Int) == (on : Int)) = true := by
                        rw [beq_iff_eq]; rw [decide_eq_true_eq] at hcnt; rw [HON.out, hcnt]
                      clear hcnt; go_wp2
                      go_ret
                      exact ⟨ret_bool HF.out.symm, below_step B0 hB2⟩
end Go.Proofs.YtkodnipmogdgkabGreat
namespace Go.Proofs.YtkodnipmogdgkabGreat
open Go.ChangeShapes Go.WideShapes Go.ChangeAt Go.RowKit Go.BigFrame Go.Joins
set_option linter.unusedVariables false
set_option maxRecDepth 100000
set_option linter.unusedSimpArgs false
set_option maxRecDepth 100000

end Go.Proofs.YtkodnipmogdgkabGreat
namespace Go.Proofs.YtkodnipmogdgkabGreat
open Go.ChangeShapes Go.WideShapes Go.ChangeAt Go.RowKit Go.BigFrame Go.Joins
set_option linter.unusedVariables false
set_option maxRecDepth 100000
set_option linter.unusedSimpArgs false
set_option maxRecDepth 100000

end Go.Proofs.YtkodnipmogdgkabGreat
namespace Go.Proofs.YtkodnipmogdgkabGreat
open Go.ChangeShapes Go.WideShapes Go.ChangeAt Go.RowKit Go.BigFrame Go.Joins
set_option linter.unusedVariables false
set_option maxRecDepth 100000
set_option linter.unusedSimpArgs false
set_option maxRecDepth 100000

end Go.Proofs.YtkodnipmogdgkabGreat
namespace Go.Proofs.YtkodnipmogdgkabGreat
open Go.ChangeShapes Go.WideShapes Go.ChangeAt Go.RowKit Go.BigFrame Go.Joins
set_option linter.unusedVariables false
set_option maxRecDepth 100000
set_option linter.unusedSimpArgs false
set_option maxRecDepth 100000

end Go.Proofs.YtkodnipmogdgkabGreat
namespace Go.Proofs.YtkodnipmogdgkabGreat
open Go.ChangeShapes Go.WideShapes Go.ChangeAt Go.RowKit Go.BigFrame Go.Joins
set_option linter.unusedVariables false
set_option maxRecDepth 100000
set_option linter.unusedSimpArgs false
set_option maxRecDepth 100000

end Go.Proofs.YtkodnipmogdgkabGreat
namespace Go.Proofs.YtkodnipmogdgkabGreat
open Go.ChangeShapes Go.WideShapes Go.ChangeAt Go.RowKit Go.BigFrame Go.Joins
set_option linter.unusedVariables false
set_option maxRecDepth 100000
set_option linter.unusedSimpArgs false
set_option maxRecDepth 100000

/-- an entry as marks from k on leave it -/
def markE (k : Int) (p c : Nat) : Ent := ⟨k, k + 1, k + 2, imarks (k + 3) p, k + 3 + p, imarks (k + 3 + p + 1) c, k + 3 + p + 1 + c⟩
def wE (E : Ent) : Nat := 5 + E.p.length + E.c.length
/-- a table's entries bear the marks from k on; W: how many each bears -/
def MarkedW (k : Int) (W : List Nat) (L : List Ent) (j : Nat) : Prop := L.map wE = W ∧ ∀ i, i < j → i < L.length → L.getD i e0 = markE (k + (W.take i).sum) (L.getD i e0).p.length (L.getD i e0).c.length
end Go.Proofs.YtkodnipmogdgkabGreat
namespace Go.Proofs.YtkodnipmogdgkabGreat
open Go.ChangeShapes Go.WideShapes Go.ChangeAt Go.RowKit Go.BigFrame Go.Joins
set_option linter.unusedVariables false
set_option maxRecDepth 100000
set_option linter.unusedSimpArgs false
set_option maxRecDepth 100000

/-- no block but those from base to hi has turned -/
structure MidB (base hi : Nat) (w w' : World) : Prop where
  os : w'.os = w.os
  tape : w'.tape = w.tape
  output : w'.output = w.output
  size : w.heap.size ≤ w'.heap.size
  block : ∀ i, i < w.heap.size → (i < base ∨ hi ≤ i) → w'.heap[i]? = w.heap[i]?
theorem MidB.refl (base hi : Nat) (w : World) : MidB base hi w w := ⟨rfl, rfl, rfl, Nat.le_refl _, fun _ _ _ => rfl⟩
theorem MidB.grown {base hi : Nat} {w w' w2 : World} {row : Option Nat} (h : MidB base hi w w') (hg : w'.grownBy w2 row) (hr : ∀ k, row = some k → base ≤ k ∧ k < hi) : MidB base hi w w2 :=
  ⟨hg.os.trans h.os, hg.tape.trans h.tape, hg.output.trans h.output, Nat.le_trans h.size hg.size, fun i hi' hc => (hg.block i (Nat.lt_of_lt_of_le hi' h.size) (fun e => by have := hr i e.symm; omega)).trans (h.block i hi' hc)⟩
theorem MidB.trans {base hi : Nat} {a b c : World} (h : MidB base hi a b) (k : MidB base hi b c) : MidB base hi a c :=
  ⟨k.os.trans h.os, k.tape.trans h.tape, k.output.trans h.output, Nat.le_trans h.size k.size, fun i hi' hc => (k.block i (Nat.lt_of_lt_of_le hi' h.size) hc).trans (h.block i hi' hc)⟩
theorem MidB.below {base hi B : Nat} {w w' : World} (h : MidB base hi w w') (h1 : B ≤ base) (h2 : B ≤ w.heap.size) : Below B w w' :=
  ⟨h.os, h.tape, h.output, h.size, fun i hi' => h.block i (by omega) (.inl (by omega))⟩
/-- all blocks of a table lie below hi -/
def InH (hi : Nat) (v : Value) (T : List ET) : Prop := (∀ k, v.ownBlock = some k → k < hi) ∧ ∀ t ∈ T, (∀ k, t.u.ownBlock = some k → k < hi) ∧ ∀ k, t.v.ownBlock = some k → k < hi
end Go.Proofs.YtkodnipmogdgkabGreat
namespace Go.Proofs.YtkodnipmogdgkabGreat
open Go.ChangeShapes Go.WideShapes Go.ChangeAt Go.RowKit Go.BigFrame Go.Joins
set_option linter.unusedVariables false
set_option maxRecDepth 100000
set_option linter.unusedSimpArgs false
set_option maxRecDepth 100000

theorem OwnI.softT {base hi b : Nat} {w w' : World} {v : Value} {l : List Int} (h : OwnI w b v l) (s : Soft base hi w w') (hv : hi ≤ b) : OwnI w' b v l := by
  unfold OwnI at h ⊢; refine ⟨h.1, ?_⟩
  rcases h.2 with hn | ⟨g, cap, cur, e, hb, hg, rest⟩
  · exact .inl hn
  · have hlt : g < w.heap.size := (World.ownsRow.lt h g (by rw [e]; rfl)).2
    exact .inr ⟨g, cap, cur, e, hb, (s.block g hlt (.inr (by omega))).trans hg, rest⟩
theorem OwnT.soft {base hi b : Nat} {w w' : World} {v : Value} {T : List ET} (h : OwnT w b v T) (s : Soft base hi w w') (hv : hi ≤ b) : OwnT w' b v T := by
  refine ⟨⟨h.row.1, ?_⟩, fun t ht => ⟨(h.own t ht).1.softT s hv, (h.own t ht).2.softT s hv⟩, h.len, h.sep, h.apart⟩
  rcases h.row.2 with hn | ⟨g, cap, cur, e, hb, hg, rest⟩
  · exact .inl hn
  · have hlt : g < w.heap.size := (World.ownsRow.lt h.row g (by rw [e]; rfl)).2
    exact .inr ⟨g, cap, cur, e, hb, (s.block g hlt (.inr (by omega))).trans hg, rest⟩
theorem bd_mem {L : List Ent} (h : ∀ i, i < L.length → BdE (L.getD i e0)) {E : Ent} (hE : E ∈ L) : BdE E := by
  obtain ⟨i, hi, e⟩ := List.mem_iff_getElem.1 hE; have := h i hi; rw [List.getD_eq_getElem?_getD, List.getElem?_eq_getElem hi] at this; rw [← e]
  exact this
theorem entT_mem {T : List ET} {t : ET} (h : t ∈ T) : t.E ∈ entT T := List.mem_map.2 ⟨t, h, rfl⟩
end Go.Proofs.YtkodnipmogdgkabGreat
namespace Go.Proofs.YtkodnipmogdgkabGreat
open Go.ChangeShapes Go.WideShapes Go.ChangeAt Go.RowKit Go.BigFrame Go.Joins
set_option linter.unusedVariables false
set_option maxRecDepth 100000
set_option linter.unusedSimpArgs false
set_option maxRecDepth 100000

end Go.Proofs.YtkodnipmogdgkabGreat
namespace Go.Proofs.YtkodnipmogdgkabGreat
open Go.ChangeShapes Go.WideShapes Go.ChangeAt Go.RowKit Go.BigFrame Go.Joins
set_option linter.unusedVariables false
set_option maxRecDepth 100000
set_option linter.unusedSimpArgs false
set_option maxRecDepth 100000

end Go.Proofs.YtkodnipmogdgkabGreat
namespace Go.Proofs.YtkodnipmogdgkabGreat
open Go.ChangeShapes Go.WideShapes Go.ChangeAt Go.RowKit Go.BigFrame Go.Joins
set_option linter.unusedVariables false
set_option maxRecDepth 100000
set_option linter.unusedSimpArgs false
set_option maxRecDepth 100000

/-- the first n hold the marks from k on -/
def MarkP (k : Int) (n : Nat) (l : List (Int × Int)) : Prop := ∀ i : Nat, i < n → l.getD i (0, 0) = (k + (i : Int) * 2, k + (i : Int) * 2 + 1)
theorem OwnP.soft {base hi b : Nat} {w w' : World} {v : Value} {l : List (Int × Int)} (h : OwnP w b v l) (s : Soft base hi w w') (hv : hi ≤ b) : OwnP w' b v l := by
  unfold OwnP at h ⊢; refine ⟨h.1, ?_⟩
  rcases h.2 with hn | ⟨g, cap, cur, e, hb, hg, rest⟩
  · exact .inl hn
  · have hlt : g < w.heap.size := (World.ownsRow.lt h g (by rw [e]; rfl)).2
    exact .inr ⟨g, cap, cur, e, hb, (s.block g hlt (.inr (by omega))).trans hg, rest⟩
end Go.Proofs.YtkodnipmogdgkabGreat
namespace Go.Proofs.YtkodnipmogdgkabGreat
open Go.ChangeShapes Go.WideShapes Go.ChangeAt Go.RowKit Go.BigFrame Go.Joins
set_option linter.unusedVariables false
set_option maxRecDepth 100000
set_option linter.unusedSimpArgs false
set_option maxRecDepth 100000

theorem MidB.of_below {w w' : World} (base hi : Nat) (h : Below w.heap.size w w') : MidB base hi w w' := ⟨h.os, h.tape, h.output, h.size, fun i hi' _ => h.block i hi'⟩
/-- a switch of the call's own: its list, its table and what was sent lie behind one another -/
structure NdT (w : World) (b0 h1 h2 h3 : Nat) (ov ru su : Value) (own : List (Int × Int)) (T1 T2 : List ET) : Prop where
  o : OwnP w b0 ov own
  oh : ∀ k, ov.ownBlock = some k → k < h1
  r : OwnT w h1 ru T1
  ri : InH h2 ru T1
  s : OwnT w h2 su T2
  si : InH h3 su T2
  q1 : b0 ≤ h1
  q2 : h1 ≤ h2
  q3 : h2 ≤ h3
theorem NdT.keep {w w' : World} {b0 h1 h2 h3 : Nat} {ov ru su : Value} {own : List (Int × Int)} {T1 T2 : List ET} (h : NdT w b0 h1 h2 h3 ov ru su own T1 T2) (hb : Below w.heap.size w w') : NdT w' b0 h1 h2 h3 ov ru su own T1 T2 :=
  ⟨h.o.keep hb, h.oh, h.r.keep hb, h.ri, h.s.keep hb, h.si, h.q1, h.q2, h.q3⟩
/-- its slices bear the marks from 1 on -/
def MarkN (w : World) (ov ru su : Value) (n : Nat) (W1 W2 : List Nat) : Prop :=
  ∃ l L1 L2, l.length = n ∧ MarkP 1 n l ∧ RdP w ov l ∧ MarkedW (1 + (n : Int) * 2) W1 L1 L1.length ∧ RdE w ru L1 ∧ MarkedW (1 + (n : Int) * 2 + (W1.sum : Nat)) W2 L2 L2.length ∧ RdE w su L2
theorem MarkN.keep {w w' : World} {ov ru su : Value} {n : Nat} {W1 W2 : List Nat} (h : MarkN w ov ru su n W1 W2) (hb : Below w.heap.size w w') : MarkN w' ov ru su n W1 W2 := by
  obtain ⟨l, L1, L2, a, b, c, d, e, f, g⟩ := h
  exact ⟨l, L1, L2, a, b, c.keep hb, d, e.keep hb, f, g.keep hb⟩
end Go.Proofs.YtkodnipmogdgkabGreat
namespace Go.Proofs.YtkodnipmogdgkabGreat
open Go.ChangeShapes Go.WideShapes Go.ChangeAt Go.RowKit Go.BigFrame Go.Joins
set_option linter.unusedVariables false
set_option maxRecDepth 100000
set_option linter.unusedSimpArgs false
set_option maxRecDepth 100000

/-- the numbers of its slices are numbers -/
def BdN (N : Nd) : Prop := (∀ i, i < N.rib.length → BdE (N.rib.getD i e0)) ∧ ∀ i, i < N.sent.length → BdE (N.sent.getD i e0)
theorem RdN.bd {w : World} {ov rv sv : Value} {N : Nd} (h : RdN w ov rv sv N) : BdN N := ⟨h.2.1.bd, h.2.2.bd⟩
theorem sndok_t {ov rv sv : Value} {N : Nd} {b : Bool} (w : World) (h : RdN w ov rv sv N) (H : Hid (ndB N = b)) :
    Calls Tryz.prog 23 #[.agg #[.int .i64 N.an, ov, .int .i64 N.bw, .bool N.dr, rv, sv]] w fun e w' => e = .returned (.bool b) ∧ Below w.heap.size w w' := H.out ▸ sndok_any ov rv sv N w h
end Go.Proofs.YtkodnipmogdgkabGreat
namespace Go.Proofs.YtkodnipmogdgkabGreat
open Go.ChangeShapes Go.WideShapes Go.ChangeAt Go.RowKit Go.BigFrame Go.Joins
set_option linter.unusedVariables false
set_option linter.unusedSimpArgs false
set_option maxRecDepth 100000

theorem NdT.far {w : World} {b0 h1 h2 h3 C o : Nat} {ov ru su u : Value} {own : List (Int × Int)} {T1 T2 : List ET} (h : NdT w b0 h1 h2 h3 ov ru su own T1 T2) (hC : C < b0) : NdT (w.setCell ⟨C, o, none⟩ u) b0 h1 h2 h3 ov ru su own T1 T2 :=
  ⟨h.o.far hC, h.oh, h.r.far (Nat.lt_of_lt_of_le hC h.q1), h.ri, h.s.far (Nat.lt_of_lt_of_le hC (Nat.le_trans h.q1 h.q2)), h.si, h.q1, h.q2, h.q3⟩
theorem NdT.rd {w : World} {b0 h1 h2 h3 : Nat} {ov ru su : Value} {D : Nd} {T1 T2 : List ET} (h : NdT w b0 h1 h2 h3 ov ru su D.own T1 T2) (e1 : entT T1 = D.rib) (e2 : entT T2 = D.sent) (hd : BdN D) : RdN w ov ru su D :=
  ⟨h.o.rd, e1 ▸ h.r.rd (fun t ht => bd_mem (L := D.rib) hd.1 (e1 ▸ entT_mem ht)), e2 ▸ h.s.rd (fun t ht => bd_mem (L := D.sent) hd.2 (e2 ▸ entT_mem ht))⟩
end Go.Proofs.YtkodnipmogdgkabGreat
namespace Go.Proofs.YtkodnipmogdgkabGreat
open Go.ChangeShapes Go.WideShapes Go.ChangeAt Go.RowKit Go.BigFrame Go.Joins
set_option linter.unusedVariables false
set_option linter.unusedSimpArgs false
set_option maxRecDepth 100000

end Go.Proofs.YtkodnipmogdgkabGreat
