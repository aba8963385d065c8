/-
  AttrOk of the model. Conditions: those in each contract.
-/
import Derived.Test.YtbcmoofpgffbhaaI4
namespace Go.Proofs.Ytbcmoofpgffbhaa
open Go.ChangeShapes Go.WideShapes Go.ChangeAt Go.RowKit Go.BigFrame Go.Joins
set_option linter.unusedVariables false
set_option maxRecDepth 100000

theorem nums_no {l : List Int} {k : Nat} {x : Int} (hk : k < l.length) (hx : l.getD k 0 = x) (h : asB x = false) : numsB l = false := by
  unfold numsB
  simp only [decide_eq_false_iff_not]
  intro g
  have := g k hk
  rw [hx, h] at this
  cases this
theorem nums_yes {l : List Int} {n : Nat} (hn : n = l.length) (h : ∀ i, i < n → asB (l.getD i 0) = true) : numsB l = true := by
  unfold numsB
  simp only [decide_eq_true_eq]
  intro i hi
  exact h i (by omega)
theorem asc_no {l : List Int} {k : Nat} {x y : Int} (hk : k + 1 < l.length) (hx : l.getD k 0 = x) (hy : l.getD (k + 1) 0 = y) (h : ¬ x < y) : ascB l = false := by
  unfold ascB
  simp only [decide_eq_false_iff_not]
  intro g
  have := g k (by omega)
  rw [hx, hy] at this
  exact h this
theorem asc_yes {l : List Int} {n : Nat} (hn : n = l.length) (h : ∀ i, i + 1 < n → l.getD i 0 < l.getD (i + 1) 0) : ascB l = true := by
  unfold ascB
  simp only [decide_eq_true_eq]
  intro i hi
  exact h i (by omega)
theorem all_succ {l : List Int} {k : Nat} {x : Int} (h : ∀ i, i < k → asB (l.getD i 0) = true) (hx : l.getD k 0 = x) (hs : asB x = true) : ∀ i, i < k + 1 → asB (l.getD i 0) = true := by
  intro i hi
  by_cases e : i = k
  · rw [e, hx]; exact hs
  · exact h i (by omega)
theorem sas_t {n : Int} {b : Bool} (w : World) (H : Hid (asB n = b)) : Calls Try.prog 155 #[.int .i64 n] w fun e w' => e = .returned (.bool b) ∧ w = w' := H.out ▸ sas_any n w
theorem aok_eq {p c : List Int} {pr bw : Int} (h1 : p.length ≤ 8) (h2 : c.length ≤ 4) (h3 : 0 ≤ pr) (h4 : pr ≤ 1000) (h5 : 0 ≤ bw) (h6 : bw ≤ 1000) : aokB p pr c bw = (numsB p && (numsB c && ascB c)) := by
  simp [aokB, inB, h1, h2, h3, h4, h5, h6, Bool.and_assoc]

set_option maxHeartbeats 1000000 in
theorem saok_any (pv cv : Value) (p c : List Int) (pr bw : Int) (w : World) (hp : RdI w pv p) (hc : RdI w cv c) :
    Calls Try.prog 157 #[.agg #[pv, .int .i64 pr, cv, .int .i64 bw]] w fun e w' => e = .returned (.bool (aokB p pr c bw)) ∧ Below w.heap.size w w' := by
  have hp1 := hp.alloc (.cells #[pv, .int .i64 pr, cv, .int .i64 bw] 26)
  have hc1 := hc.alloc (.cells #[pv, .int .i64 pr, cv, .int .i64 bw] 26)
  have hpm := hp.2.1
  have hcm := hc.2.1
  unfold maxLen at hpm hcm
  have pb := getD_bd_I hp.1
  have cb := getD_bd_I hc.1
  obtain ⟨pa, pc, rfl, hpe⟩ := hp1.el
  obtain ⟨ca, cc, rfl, hce⟩ := hc1.el
  obtain ⟨c0, c1, c2, c3, lt, B0⟩ := box4 w (.slice pa p.length pc) (.int .i64 pr) (.slice ca c.length cc) (.int .i64 bw) 26
  clear hp hc hp1 hc1
  by_cases h0 : p.length ≤ 8
  · have g0 : ¬ ((8 : Int) < (p.length : Int)) := by omega
    by_cases h1 : c.length ≤ 4
    · have g1 : ¬ ((4 : Int) < (c.length : Int)) := by omega
      by_cases h2 : 0 ≤ pr
      · have g2 : ¬ (pr < 0) := by omega
        by_cases h3 : pr ≤ 1000
        · have g3 : ¬ (1000 < pr) := by omega
          by_cases h4 : 0 ≤ bw
          · have g4 : ¬ (bw < 0) := by omega
            by_cases h5 : bw ≤ 1000
            · have g5 : ¬ (1000 < bw) := by omega
              rw [aok_eq h0 h1 h2 h3 h4 h5]
              clear h2 h3 h4 h5
              obtain ⟨n, hn⟩ : ∃ n, n = p.length := ⟨_, rfl⟩
              obtain ⟨m, hm⟩ : ∃ m, m = c.length := ⟨_, rfl⟩
              rw [← hn] at hpe hpm c0 c1 c2 c3 g0 h0 lt B0 ⊢
              rw [← hm] at hce hcm c0 c1 c2 c3 g1 h1 lt B0 hpe ⊢
              rw [← hn] at hce
              have HN := Lib.hid hn
              have HM := Lib.hid hm
              clear hn hm
              go_enter Try.func157, Try.ntmps157
              go_wp2
              clear g0 g1 g2 g3 g4 g5
              go_loop [3] (fun q => ∃ k : Nat, k ≤ n ∧ q = .int .i64 k ∧ ∀ i, i < k → asB (p.getD i 0) = true) (fun q => n - (intOf q).toNat)
              case atStart => exact ⟨0, Nat.zero_le _, rfl, fun i hi => by omega⟩
              case round =>
                obtain ⟨k, hk, rfl, hall⟩ := hrel
                have HA := Lib.hid hall
                clear hall
                by_cases hlt : k < n
                · have hltI : (k : Int) < (n : Int) := by omega
                  obtain ⟨b, o, rfl, e1⟩ := hpe k hlt
                  obtain ⟨x, hx⟩ : ∃ x, p.getD k 0 = x := ⟨_, rfl⟩
                  rw [hx] at e1
                  have HX := Lib.hid hx
                  clear hx hpe hce pb cb
                  cases has : asB x
                  · have HF := Lib.hid (nums_no (by rw [← HN.out]; exact hlt) HX.out has)
                    have HS := Lib.hid has
                    clear has
                    go_wp2_with fail
                    refine (sas_any x _).mono ?_
                    rintro e w1 ⟨rfl, rfl⟩
                    rw [HS.out]
                    go_wp2
                    go_ret
                    exact ⟨ret_bool (by rw [HF.out]; rfl), B0⟩
                  · have HS := Lib.hid has
                    clear has
                    go_wp2_with fail
                    refine (sas_any x _).mono ?_
                    rintro e w1 ⟨rfl, rfl⟩
                    rw [HS.out]
                    go_wp2
                    go_round
                    case rel => exact ⟨k + 1, by omega, by go_num, all_succ HA.out HX.out HS.out⟩
                    case measure => simp [intOf]; omega
                · have hkn : k = n := by omega
                  have hyes := nums_yes HN.out (by rw [← hkn]; exact HA.out)
                  have HY := Lib.hid hyes
                  clear hyes hkn hpe pb HA
                  go_wp2
                  go_loopw [4] (fun q wr => ∃ j : Nat, j ≤ m ∧ q = .int .i64 j ∧ (∀ i, i < j → asB (c.getD i 0) = true) ∧ (∀ i, i + 1 < j → c.getD i 0 < c.getD (i + 1) 0) ∧ wr.cell? ⟨w.heap.size, 2, none⟩ = some (.slice ca m cc) ∧ Over (w.alloc (.cells #[.slice pa n pc, .int .i64 pr, .slice ca m cc, .int .i64 bw] 26)) wr) (fun q _ => m - (intOf q).toNat)
                  case atStart => exact ⟨0, Nat.zero_le _, rfl, fun i hi => by omega, fun i hi => by omega, c2, over_refl _⟩
                  case round =>
                    obtain ⟨j, hj, rfl, hall, hasc, d2, hB⟩ := hrel
                    have HA := Lib.hid hall
                    have HB := Lib.hid hasc
                    clear hall hasc
                    by_cases hlt2 : j < m
                    · have hltJ : (j : Int) < (m : Int) := by omega
                      obtain ⟨b, o, hca, e1⟩ := hce j hlt2
                      obtain ⟨x, hx⟩ : ∃ x, c.getD j 0 = x := ⟨_, rfl⟩
                      rw [hx] at e1
                      replace e1 := over_cell hB (World.block_lt_of_cell? _ _ e1) e1
                      have HX := Lib.hid hx
                      clear hx cb
                      cases has : asB x
                      · have HF := Lib.hid (nums_no (by rw [← HM.out]; exact hlt2) HX.out has)
                        have HS := Lib.hid has
                        clear has hce
                        subst hca
                        go_wp2_with fail
                        go_quiet ((go_at_call 155; exact q_of (sas_t _ HS)))
                        go_wp2
                        go_ret
                        exact ⟨ret_bool (by rw [HY.out, HF.out]; rfl), below_step B0 (below_drewN hB _)⟩
                      · have HS := Lib.hid has
                        clear has
                        by_cases hj0 : j = 0
                        · have hnj : ¬ 0 < j := by omega
                          have HJ := Lib.hid hj0
                          clear hce hj0
                          subst hca
                          go_wp2_with fail
                          go_quiet ((go_at_call 155; exact q_of (sas_t _ HS)))
                          go_wp2
                          go_roundw
                          case rel => exact ⟨j + 1, by omega, by go_num, all_succ HA.out HX.out HS.out, fun i hi => by have := HJ.out; omega, d2, below_drewN hB _⟩
                          case measure => simp [intOf]; omega
                        · obtain ⟨i, rfl⟩ : ∃ i, j = i + 1 := ⟨j - 1, by omega⟩
                          obtain ⟨b', o', hca', e2⟩ := hce i (by omega)
                          obtain ⟨y, hy⟩ : ∃ y, c.getD i 0 = y := ⟨_, rfl⟩
                          rw [hy] at e2
                          have HV := Lib.hid hy
                          replace e2 := over_cell hB (World.block_lt_of_cell? _ _ e2) e2
                          rw [hca] at hca'
                          injection hca' with hca'
                          injection hca' with hb1 ho1
                          clear hce hy
                          subst hb1 ho1 hca
                          have hj1 : ((i + 1 : Nat) : Int) - 1 = (i : Int) := by omega
                          have hj2 : (0 : Int) < ((i + 1 : Nat) : Int) := by omega
                          by_cases hyx : y < x
                          · have hge : decide (x ≤ y) = false := by simp; omega
                            have hge2 : ¬ x ≤ y := by omega
                            have HL := Lib.hid hyx
                            clear hyx
                            go_wp2_with fail
                            go_quiet ((go_at_call 155; exact q_of (sas_t _ HS)))
                            go_wp2
                            go_roundw
                            case rel => exact ⟨i + 1 + 1, by omega, by go_num, all_succ HA.out HX.out HS.out, fun t ht => by
                              by_cases e : t = i
                              · rw [e, HV.out, HX.out]; exact HL.out
                              · exact HB.out t (by omega), d2, below_drewN hB _⟩
                            case measure => simp [intOf]; omega
                          · have hge : decide (x ≤ y) = true := by simp; omega
                            have hge2 : x ≤ y := by omega
                            have HF := Lib.hid (asc_no (by rw [← HM.out]; exact hlt2) HV.out HX.out hyx)
                            clear hyx
                            go_wp2_with fail
                            go_quiet ((go_at_call 155; exact q_of (sas_t _ HS)))
                            go_wp2
                            go_ret
                            exact ⟨ret_bool (by rw [HY.out, HF.out, Bool.and_false]; rfl), below_step B0 (below_drewN hB _)⟩
                    · have hkn : j = m := by omega
                      have hyes := nums_yes HM.out (by rw [← hkn]; exact HA.out)
                      have hasc := asc_yes HM.out (by rw [← hkn]; exact HB.out)
                      have HZ := Lib.hid hyes
                      have HW := Lib.hid hasc
                      clear hyes hasc hkn hce cb HA HB
                      go_wp2
                      go_ret
                      exact ⟨ret_bool (by rw [HY.out, HZ.out, HW.out]; rfl), below_step B0 hB⟩
            · have e : aokB p pr c bw = false := by simp [aokB, inB, h5]
              rw [e]
              have g5 : 1000 < bw := by omega
              clear e hpe hce h5 pb cb
              go_enter Try.func157, Try.ntmps157
              go_wp2
              go_ret
              exact ⟨rfl, B0⟩
          · have e : aokB p pr c bw = false := by simp [aokB, inB, h4]
            rw [e]
            have g4 : bw < 0 := by omega
            clear e hpe hce h4 pb cb
            go_enter Try.func157, Try.ntmps157
            go_wp2
            go_ret
            exact ⟨rfl, B0⟩
        · have e : aokB p pr c bw = false := by simp [aokB, inB, h3]
          rw [e]
          have g3 : 1000 < pr := by omega
          clear e hpe hce h3 pb cb
          go_enter Try.func157, Try.ntmps157
          go_wp2
          go_ret
          exact ⟨rfl, B0⟩
      · have e : aokB p pr c bw = false := by simp [aokB, inB, h2]
        rw [e]
        have g2 : pr < 0 := by omega
        clear e hpe hce h2 pb cb
        go_enter Try.func157, Try.ntmps157
        go_wp2
        go_ret
        exact ⟨rfl, B0⟩
    · have e : aokB p pr c bw = false := by simp [aokB, inB, h1]
      rw [e]
      have g1 : (4 : Int) < (c.length : Int) := by omega
      clear e hpe hce h1 pb cb
      go_enter Try.func157, Try.ntmps157
      go_wp2
      go_ret
      exact ⟨rfl, B0⟩
  · have e : aokB p pr c bw = false := by simp [aokB, inB, h0]
    rw [e]
    have g0 : (8 : Int) < (p.length : Int) := by omega
    clear e hpe hce h0 pb cb
    go_enter Try.func157, Try.ntmps157
    go_wp2
    go_ret
    exact ⟨rfl, B0⟩
end Go.Proofs.Ytbcmoofpgffbhaa
