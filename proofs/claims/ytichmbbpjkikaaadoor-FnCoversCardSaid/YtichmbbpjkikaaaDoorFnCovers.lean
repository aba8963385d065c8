/-
  The law 'FnCovers' returns true for every input, and its arguments read afterwards as before, the listed tables holding what the program's text lays: the given statement 'Rows.FnCoversCardSaid'. No condition.
-/
import Derived.Test.YtichmbbpjkikaaaDoorCards
import Derived.Test.YtichmbbpjkikaaaDoorTie
import Derived.Deep.DeepHandedRow
import Derived.Lib.LaidTab
import Derived.Test.YtichmbbpjkikaaaDoorO2
import Derived.Test.YtichmbbpjkikaaaDoorD4
import Derived.Test.YtichmbbpjkikaaaDoorC2
import Derived.Test.YtichmbbpjkikaaaDoorR3
namespace Go.Proofs.YtichmbbpjkikaaaDoor.fnCovers
open Go.ChangeShapes Go.WideShapes Go.ChangeAt Go.RowKit Go.Proofs.YtichmbbpjkikaaaDoor
set_option linter.unusedVariables false
set_option maxRecDepth 100000
theorem gPow : Tryd.prog.globalNamed "internal/strconv.uint64pow10" = some 0 := by kernel_rfl
theorem gPowType : (Tryd.prog.globals[0]?).map (·.type) = some 129 := by kernel_rfl
theorem cellsPow : Tryd.prog.cellsOf 129 = 20 := by kernel_rfl
theorem cellsU64 : Tryd.prog.cellsOf 120 = 1 := by kernel_rfl
theorem tab_of {W : World} (h : laidMetH Tryd.prog Rows.fnCoversRow.laid W) : Tab W := by
  have h2 : laidMetH Tryd.prog [("internal/strconv.uint64pow10", Rows.laid_internal_strconv_uint64pow10)] W := h.filter (fun x => x.1 == "internal/strconv.uint64pow10")
  exact Lib.tabIs_of_head (rest := []) gPow gPowType Tryd.underlying129 Tryd.underlying120 cellsU64 cellsPow h2
set_option linter.unusedSimpArgs false in
set_option maxHeartbeats 40000000 in
theorem walk (W : World) (v0 : Value) (w0 : Is_bytes W v0) (hL : laidMetH Tryd.prog Rows.fnCoversRow.laid W) :
    Calls Tryd.prog 4 #[v0] W fun e w' => e = .returned (.bool true) ∧ Below W.heap.size W w' := by
  obtain ⟨l, hrd⟩ := w0.rd
  have ht : Tab W := tab_of hL
  clear hL w0
  go_enter Tryd.func4, Tryd.ntmps4
  go_wp2_with fail
  refine (dins_any _ l _ (hrd.keep (Below.refl _ _))).mono ?_
  rintro e w1 ⟨a, n, b, m, rfl, ho, ⟨hfa, hfn⟩, hfb, hfm⟩
  go_wp2_with fail
  refine (dcov_any _ l _ (rd_over (rd_over hrd ho) ((over_alloc (over_alloc (over_refl w1) _) _)))).mono ?_
  rintro e w2 ⟨c, k, x, rfl, ho2⟩
  obtain ⟨P, hP⟩ : ∃ P, P = w1.heap.size := ⟨_, rfl⟩
  obtain ⟨Q, hQ⟩ : ∃ Q, Q = w1.heap.size + 1 := ⟨_, rfl⟩
  have bP := (Box.new w1 (.int .i64 a) (.int .i64 n) 24 P hP).alloc (.cells #[.int .i64 b, .int .i64 m] 24)
  have bQ := Box.new (w1.alloc (.cells #[.int .i64 a, .int .i64 n] 24)) (.int .i64 b) (.int .i64 m) 24 Q (by rw [hQ]; simp)
  replace bP := bP.grown (grown_below ho2 none) (by simp)
  replace bQ := bQ.grown (grown_below ho2 none) (by simp)
  replace ho := over_trans (over_alloc (over_alloc ho (.cells #[.int .i64 a, .int .i64 n] 24)) (.cells #[.int .i64 b, .int .i64 m] 24)) ho2
  try rw [← hQ]
  try rw [← hP]
  replace bP := bP.alloc (.cells #[.int .i64 c, .int .i64 k] 24)
  replace bQ := bQ.alloc (.cells #[.int .i64 c, .int .i64 k] 24)
  replace ho := over_alloc ho (.cells #[.int .i64 c, .int .i64 k] 24)
  clear hP hQ ho2 hrd
  obtain ⟨lP, p0, p1, -, -⟩ := bP
  obtain ⟨lQ, q0, q1, -, -⟩ := bQ
  go_wp2_with fail
  generalize w2.alloc (.cells #[.int .i64 c, .int .i64 k] 24) = w3 at lP p0 p1 lQ q0 q1 ho ⊢
  by_cases hA : pokB a n = true ∧ pokB b m = true
  · obtain ⟨h1, h2⟩ := hA
    have f1 := cov_self h1
    have W1 : IntKind.i64.wrap (-1) = -1 := by decide
    have W2 : IntKind.i64.wrap 1 = 1 := by decide
    have W0 : IntKind.i64.wrap 0 = 0 := by decide
    refine (spok_any _ _ _).mono ?_
    rintro e w9 ⟨rfl, hb⟩
    replace p0 := cell_keep hb lP p0
    replace p1 := cell_keep hb lP p1
    replace q0 := cell_keep hb lQ q0
    replace q1 := cell_keep hb lQ q1
    replace lP := Nat.lt_of_lt_of_le lP hb.size
    replace lQ := Nat.lt_of_lt_of_le lQ hb.size
    replace ho := over_trans ho hb
    clear hb
    rcases order a n b m with ⟨rfl, rfl⟩ | hO | hO | ⟨rfl, hO⟩ | ⟨rfl, hO⟩
    · have hpq := ins_self h1
      have hc1 := pcmp_eq h1
      have T2 := Lib.hid hc1
      have T3 := Lib.hid f1
      have T4 := Lib.hid hpq
      have hab := True.intro
      cases hcp : covB a n x
      all_goals
        (try have T4 := Lib.hid hpq)
        (try have T5 := Lib.hid hqp)
        have T6 := Lib.hid hcp
        (try have T7 := Lib.hid (cov_addr hcp))
        go_wp2_with (first | (go_at_call 10; refine (spok_any _ _ _).mono ?_; rintro e w9 ⟨rfl, hb⟩; replace p0 := cell_keep hb lP p0; replace p1 := cell_keep hb lP p1; replace q0 := cell_keep hb lQ q0; replace q1 := cell_keep hb lQ q1; replace lP := Nat.lt_of_lt_of_le lP hb.size; replace lQ := Nat.lt_of_lt_of_le lQ hb.size; replace ho := over_trans ho hb; clear hb) | (go_at_call 23; refine (icov_any _ _ _ _).mono ?_; rintro e w9 ⟨rfl, hb⟩; replace p0 := cell_keep hb lP p0; replace p1 := cell_keep hb lP p1; replace q0 := cell_keep hb lQ q0; replace q1 := cell_keep hb lQ q1; replace lP := Nat.lt_of_lt_of_le lP hb.size; replace lQ := Nat.lt_of_lt_of_le lQ hb.size; replace ho := over_trans ho hb; clear hb) | (go_at_call 21; refine (iins_any _ _ _ _ _ (by assumption) (by assumption)).mono ?_; rintro e w9 ⟨rfl, hb⟩; replace p0 := cell_keep hb lP p0; replace p1 := cell_keep hb lP p1; replace q0 := cell_keep hb lQ q0; replace q1 := cell_keep hb lQ q1; replace lP := Nat.lt_of_lt_of_le lP hb.size; replace lQ := Nat.lt_of_lt_of_le lQ hb.size; replace ho := over_trans ho hb; clear hb) | (go_at_call 22; refine (icmp_any _ _ _ _ _).mono ?_; rintro e w9 ⟨rfl, hb⟩; replace p0 := cell_keep hb lP p0; replace p1 := cell_keep hb lP p1; replace q0 := cell_keep hb lQ q0; replace q1 := cell_keep hb lQ q1; replace lP := Nat.lt_of_lt_of_le lP hb.size; replace lQ := Nat.lt_of_lt_of_le lQ hb.size; replace ho := over_trans ho hb; clear hb) | (go_at_call 24; refine (iaddr_any _ _).mono ?_; rintro e w9 ⟨rfl, rfl⟩) | (go_at_call 17; refine (words_any _ (ht.keep (over_below ho))).mono ?_; rintro e w9 ⟨rfl, hb⟩; replace p0 := cell_keep hb lP p0; replace p1 := cell_keep hb lP p1; replace q0 := cell_keep hb lQ q0; replace q1 := cell_keep hb lQ q1; replace lP := Nat.lt_of_lt_of_le lP hb.size; replace lQ := Nat.lt_of_lt_of_le lQ hb.size; replace ho := over_trans ho hb; clear hb))
        refine wp_region_class (C := Over (w9)) (by kernel_rfl) (by kernel_rfl) (over_drew _) ?_
        repeat (first | go_big_quiet_skip | (go_big_quiet_want; go_big_quiet_op; go_big_quiet_on) | (go_big_quiet_want; go_big_quiet_op; apply Exists.intro; refine ⟨fun w' hC => ?_, ?_⟩; ((first | (go_at_call 22; refine (icmp_t _ (by assumption)).mono ?_; rintro e w1 ⟨rfl, hb1⟩; exact ⟨rfl, over_step hC hb1⟩) | (go_at_call 21; refine (iins_t _ (by assumption) (by assumption) (by assumption)).mono ?_; rintro e w1 ⟨rfl, hb1⟩; exact ⟨rfl, over_step hC hb1⟩) | (go_at_call 23; refine (icov_t _ (by assumption)).mono ?_; rintro e w1 ⟨rfl, hb1⟩; exact ⟨rfl, over_step hC hb1⟩) | (go_at_call 24; refine (iaddr_h _ (by assumption)).mono ?_; rintro e w1 ⟨rfl, rfl⟩; exact ⟨rfl, hC⟩) | (go_at_call 17; refine (words_any _ (ht.keep (over_below (over_trans ho hC)))).mono ?_; rintro e w1 ⟨rfl, hb1⟩; exact ⟨rfl, over_step hC hb1⟩))); go_big_quiet_on) | (go_big_quiet_want; apply Exists.intro; refine ⟨fun w' hC => ?_, ?_⟩; (have k0 := over_cell hC lP p0; have k1 := over_cell hC lP p1; have k2 := over_cell hC lQ q0; have k3 := over_cell hC lQ q1; simp [Oper.quietAt, Oper.quietUpon, go_sem, k0, k1, k2, k3, W1, W2, W0, hab]; first | done | rfl); go_big_quiet_on; simp only [Act.put, List.setIfInBounds_toArray, List.set_cons_zero, List.set_cons_succ]))
        refine wpQuiet_nil ?_
        intro wr hC
        have k0 := over_cell hC lP p0
        have k1 := over_cell hC lP p1
        have k2 := over_cell hC lQ q0
        have k3 := over_cell hC lQ q1
        clear k0 k1 k2 k3
        go_wp2
        go_ret
        exact ⟨rfl, over_trans ho hC⟩
    · have hab : ¬ a = b := by omega
      obtain ⟨hc1, hc2⟩ := pcmp_lt h1 h2 (.inl hO)
      have T2 := Lib.hid hc2
      have T3 := Lib.hid f1
      cases hpq : insB a n b m <;> cases hqp : insB b m a n <;> cases hcp : covB a n x <;> cases hcq : covB b m x
      all_goals first
        | (exfalso; first | (have q := ins_le hpq; omega) | (have q := ins_le hqp; omega) | (have q := cov_up hpq hcp; rw [hcq] at q; cases q; done) | (have q := cov_up hqp hcq; rw [hcp] at q; cases q; done) | (rcases Int.le_total m n with q | q <;> first | (have r := cov_two hcp hcq q; rw [hpq] at r; cases r; done) | (have r := cov_two hcq hcp q; rw [hqp] at r; cases r; done)))
        | skip
      all_goals
        (try have T4 := Lib.hid hpq)
        (try have T5 := Lib.hid hqp)
        have T6 := Lib.hid hcp
        (try have T7 := Lib.hid (cov_addr hcp))
        go_wp2_with (first | (go_at_call 10; refine (spok_any _ _ _).mono ?_; rintro e w9 ⟨rfl, hb⟩; replace p0 := cell_keep hb lP p0; replace p1 := cell_keep hb lP p1; replace q0 := cell_keep hb lQ q0; replace q1 := cell_keep hb lQ q1; replace lP := Nat.lt_of_lt_of_le lP hb.size; replace lQ := Nat.lt_of_lt_of_le lQ hb.size; replace ho := over_trans ho hb; clear hb) | (go_at_call 23; refine (icov_any _ _ _ _).mono ?_; rintro e w9 ⟨rfl, hb⟩; replace p0 := cell_keep hb lP p0; replace p1 := cell_keep hb lP p1; replace q0 := cell_keep hb lQ q0; replace q1 := cell_keep hb lQ q1; replace lP := Nat.lt_of_lt_of_le lP hb.size; replace lQ := Nat.lt_of_lt_of_le lQ hb.size; replace ho := over_trans ho hb; clear hb) | (go_at_call 21; refine (iins_any _ _ _ _ _ (by assumption) (by assumption)).mono ?_; rintro e w9 ⟨rfl, hb⟩; replace p0 := cell_keep hb lP p0; replace p1 := cell_keep hb lP p1; replace q0 := cell_keep hb lQ q0; replace q1 := cell_keep hb lQ q1; replace lP := Nat.lt_of_lt_of_le lP hb.size; replace lQ := Nat.lt_of_lt_of_le lQ hb.size; replace ho := over_trans ho hb; clear hb) | (go_at_call 22; refine (icmp_any _ _ _ _ _).mono ?_; rintro e w9 ⟨rfl, hb⟩; replace p0 := cell_keep hb lP p0; replace p1 := cell_keep hb lP p1; replace q0 := cell_keep hb lQ q0; replace q1 := cell_keep hb lQ q1; replace lP := Nat.lt_of_lt_of_le lP hb.size; replace lQ := Nat.lt_of_lt_of_le lQ hb.size; replace ho := over_trans ho hb; clear hb) | (go_at_call 24; refine (iaddr_any _ _).mono ?_; rintro e w9 ⟨rfl, rfl⟩) | (go_at_call 17; refine (words_any _ (ht.keep (over_below ho))).mono ?_; rintro e w9 ⟨rfl, hb⟩; replace p0 := cell_keep hb lP p0; replace p1 := cell_keep hb lP p1; replace q0 := cell_keep hb lQ q0; replace q1 := cell_keep hb lQ q1; replace lP := Nat.lt_of_lt_of_le lP hb.size; replace lQ := Nat.lt_of_lt_of_le lQ hb.size; replace ho := over_trans ho hb; clear hb))
        refine wp_region_class (C := Over (w9)) (by kernel_rfl) (by kernel_rfl) (over_drew _) ?_
        repeat (first | go_big_quiet_skip | (go_big_quiet_want; go_big_quiet_op; go_big_quiet_on) | (go_big_quiet_want; go_big_quiet_op; apply Exists.intro; refine ⟨fun w' hC => ?_, ?_⟩; ((first | (go_at_call 22; refine (icmp_t _ (by assumption)).mono ?_; rintro e w1 ⟨rfl, hb1⟩; exact ⟨rfl, over_step hC hb1⟩) | (go_at_call 21; refine (iins_t _ (by assumption) (by assumption) (by assumption)).mono ?_; rintro e w1 ⟨rfl, hb1⟩; exact ⟨rfl, over_step hC hb1⟩) | (go_at_call 23; refine (icov_t _ (by assumption)).mono ?_; rintro e w1 ⟨rfl, hb1⟩; exact ⟨rfl, over_step hC hb1⟩) | (go_at_call 24; refine (iaddr_h _ (by assumption)).mono ?_; rintro e w1 ⟨rfl, rfl⟩; exact ⟨rfl, hC⟩) | (go_at_call 17; refine (words_any _ (ht.keep (over_below (over_trans ho hC)))).mono ?_; rintro e w1 ⟨rfl, hb1⟩; exact ⟨rfl, over_step hC hb1⟩))); go_big_quiet_on) | (go_big_quiet_want; apply Exists.intro; refine ⟨fun w' hC => ?_, ?_⟩; (have k0 := over_cell hC lP p0; have k1 := over_cell hC lP p1; have k2 := over_cell hC lQ q0; have k3 := over_cell hC lQ q1; simp [Oper.quietAt, Oper.quietUpon, go_sem, k0, k1, k2, k3, W1, W2, W0, hab]; first | done | rfl); go_big_quiet_on; simp only [Act.put, List.setIfInBounds_toArray, List.set_cons_zero, List.set_cons_succ]))
        refine wpQuiet_nil ?_
        intro wr hC
        have k0 := over_cell hC lP p0
        have k1 := over_cell hC lP p1
        have k2 := over_cell hC lQ q0
        have k3 := over_cell hC lQ q1
        clear k0 k1 k2 k3
        go_wp2
        go_ret
        exact ⟨rfl, over_trans ho hC⟩
    · have hab : ¬ a = b := by omega
      obtain ⟨hc2, hc1⟩ := pcmp_lt h2 h1 (.inl hO)
      have T2 := Lib.hid hc2
      have T3 := Lib.hid f1
      cases hpq : insB a n b m <;> cases hqp : insB b m a n <;> cases hcp : covB a n x <;> cases hcq : covB b m x
      all_goals first
        | (exfalso; first | (have q := ins_le hpq; omega) | (have q := ins_le hqp; omega) | (have q := cov_up hpq hcp; rw [hcq] at q; cases q; done) | (have q := cov_up hqp hcq; rw [hcp] at q; cases q; done) | (rcases Int.le_total m n with q | q <;> first | (have r := cov_two hcp hcq q; rw [hpq] at r; cases r; done) | (have r := cov_two hcq hcp q; rw [hqp] at r; cases r; done)))
        | skip
      all_goals
        (try have T4 := Lib.hid hpq)
        (try have T5 := Lib.hid hqp)
        have T6 := Lib.hid hcp
        (try have T7 := Lib.hid (cov_addr hcp))
        go_wp2_with (first | (go_at_call 10; refine (spok_any _ _ _).mono ?_; rintro e w9 ⟨rfl, hb⟩; replace p0 := cell_keep hb lP p0; replace p1 := cell_keep hb lP p1; replace q0 := cell_keep hb lQ q0; replace q1 := cell_keep hb lQ q1; replace lP := Nat.lt_of_lt_of_le lP hb.size; replace lQ := Nat.lt_of_lt_of_le lQ hb.size; replace ho := over_trans ho hb; clear hb) | (go_at_call 23; refine (icov_any _ _ _ _).mono ?_; rintro e w9 ⟨rfl, hb⟩; replace p0 := cell_keep hb lP p0; replace p1 := cell_keep hb lP p1; replace q0 := cell_keep hb lQ q0; replace q1 := cell_keep hb lQ q1; replace lP := Nat.lt_of_lt_of_le lP hb.size; replace lQ := Nat.lt_of_lt_of_le lQ hb.size; replace ho := over_trans ho hb; clear hb) | (go_at_call 21; refine (iins_any _ _ _ _ _ (by assumption) (by assumption)).mono ?_; rintro e w9 ⟨rfl, hb⟩; replace p0 := cell_keep hb lP p0; replace p1 := cell_keep hb lP p1; replace q0 := cell_keep hb lQ q0; replace q1 := cell_keep hb lQ q1; replace lP := Nat.lt_of_lt_of_le lP hb.size; replace lQ := Nat.lt_of_lt_of_le lQ hb.size; replace ho := over_trans ho hb; clear hb) | (go_at_call 22; refine (icmp_any _ _ _ _ _).mono ?_; rintro e w9 ⟨rfl, hb⟩; replace p0 := cell_keep hb lP p0; replace p1 := cell_keep hb lP p1; replace q0 := cell_keep hb lQ q0; replace q1 := cell_keep hb lQ q1; replace lP := Nat.lt_of_lt_of_le lP hb.size; replace lQ := Nat.lt_of_lt_of_le lQ hb.size; replace ho := over_trans ho hb; clear hb) | (go_at_call 24; refine (iaddr_any _ _).mono ?_; rintro e w9 ⟨rfl, rfl⟩) | (go_at_call 17; refine (words_any _ (ht.keep (over_below ho))).mono ?_; rintro e w9 ⟨rfl, hb⟩; replace p0 := cell_keep hb lP p0; replace p1 := cell_keep hb lP p1; replace q0 := cell_keep hb lQ q0; replace q1 := cell_keep hb lQ q1; replace lP := Nat.lt_of_lt_of_le lP hb.size; replace lQ := Nat.lt_of_lt_of_le lQ hb.size; replace ho := over_trans ho hb; clear hb))
        refine wp_region_class (C := Over (w9)) (by kernel_rfl) (by kernel_rfl) (over_drew _) ?_
        repeat (first | go_big_quiet_skip | (go_big_quiet_want; go_big_quiet_op; go_big_quiet_on) | (go_big_quiet_want; go_big_quiet_op; apply Exists.intro; refine ⟨fun w' hC => ?_, ?_⟩; ((first | (go_at_call 22; refine (icmp_t _ (by assumption)).mono ?_; rintro e w1 ⟨rfl, hb1⟩; exact ⟨rfl, over_step hC hb1⟩) | (go_at_call 21; refine (iins_t _ (by assumption) (by assumption) (by assumption)).mono ?_; rintro e w1 ⟨rfl, hb1⟩; exact ⟨rfl, over_step hC hb1⟩) | (go_at_call 23; refine (icov_t _ (by assumption)).mono ?_; rintro e w1 ⟨rfl, hb1⟩; exact ⟨rfl, over_step hC hb1⟩) | (go_at_call 24; refine (iaddr_h _ (by assumption)).mono ?_; rintro e w1 ⟨rfl, rfl⟩; exact ⟨rfl, hC⟩) | (go_at_call 17; refine (words_any _ (ht.keep (over_below (over_trans ho hC)))).mono ?_; rintro e w1 ⟨rfl, hb1⟩; exact ⟨rfl, over_step hC hb1⟩))); go_big_quiet_on) | (go_big_quiet_want; apply Exists.intro; refine ⟨fun w' hC => ?_, ?_⟩; (have k0 := over_cell hC lP p0; have k1 := over_cell hC lP p1; have k2 := over_cell hC lQ q0; have k3 := over_cell hC lQ q1; simp [Oper.quietAt, Oper.quietUpon, go_sem, k0, k1, k2, k3, W1, W2, W0, hab]; first | done | rfl); go_big_quiet_on; simp only [Act.put, List.setIfInBounds_toArray, List.set_cons_zero, List.set_cons_succ]))
        refine wpQuiet_nil ?_
        intro wr hC
        have k0 := over_cell hC lP p0
        have k1 := over_cell hC lP p1
        have k2 := over_cell hC lQ q0
        have k3 := over_cell hC lQ q1
        clear k0 k1 k2 k3
        go_wp2
        go_ret
        exact ⟨rfl, over_trans ho hC⟩
    · have hab : ¬ n = m := by omega
      obtain ⟨hc1, hc2⟩ := pcmp_lt h1 h2 (.inr ⟨rfl, hO⟩)
      have T2 := Lib.hid hc2
      have T3 := Lib.hid f1
      cases hpq : insB a n a m <;> cases hqp : insB a m a n <;> cases hcp : covB a n x <;> cases hcq : covB a m x
      all_goals first
        | (exfalso; first | (have q := ins_le hpq; omega) | (have q := ins_le hqp; omega) | (have q := ins_sub h2 h1 (by omega); rw [hqp] at q; cases q; done) | (have q := cov_up hpq hcp; rw [hcq] at q; cases q; done) | (have q := cov_up hqp hcq; rw [hcp] at q; cases q; done) | (rcases Int.le_total m n with q | q <;> first | (have r := cov_two hcp hcq q; rw [hpq] at r; cases r; done) | (have r := cov_two hcq hcp q; rw [hqp] at r; cases r; done)))
        | skip
      all_goals
        (try have T4 := Lib.hid hpq)
        (try have T5 := Lib.hid hqp)
        have T6 := Lib.hid hcp
        (try have T7 := Lib.hid (cov_addr hcp))
        go_wp2_with (first | (go_at_call 10; refine (spok_any _ _ _).mono ?_; rintro e w9 ⟨rfl, hb⟩; replace p0 := cell_keep hb lP p0; replace p1 := cell_keep hb lP p1; replace q0 := cell_keep hb lQ q0; replace q1 := cell_keep hb lQ q1; replace lP := Nat.lt_of_lt_of_le lP hb.size; replace lQ := Nat.lt_of_lt_of_le lQ hb.size; replace ho := over_trans ho hb; clear hb) | (go_at_call 23; refine (icov_any _ _ _ _).mono ?_; rintro e w9 ⟨rfl, hb⟩; replace p0 := cell_keep hb lP p0; replace p1 := cell_keep hb lP p1; replace q0 := cell_keep hb lQ q0; replace q1 := cell_keep hb lQ q1; replace lP := Nat.lt_of_lt_of_le lP hb.size; replace lQ := Nat.lt_of_lt_of_le lQ hb.size; replace ho := over_trans ho hb; clear hb) | (go_at_call 21; refine (iins_any _ _ _ _ _ (by assumption) (by assumption)).mono ?_; rintro e w9 ⟨rfl, hb⟩; replace p0 := cell_keep hb lP p0; replace p1 := cell_keep hb lP p1; replace q0 := cell_keep hb lQ q0; replace q1 := cell_keep hb lQ q1; replace lP := Nat.lt_of_lt_of_le lP hb.size; replace lQ := Nat.lt_of_lt_of_le lQ hb.size; replace ho := over_trans ho hb; clear hb) | (go_at_call 22; refine (icmp_any _ _ _ _ _).mono ?_; rintro e w9 ⟨rfl, hb⟩; replace p0 := cell_keep hb lP p0; replace p1 := cell_keep hb lP p1; replace q0 := cell_keep hb lQ q0; replace q1 := cell_keep hb lQ q1; replace lP := Nat.lt_of_lt_of_le lP hb.size; replace lQ := Nat.lt_of_lt_of_le lQ hb.size; replace ho := over_trans ho hb; clear hb) | (go_at_call 24; refine (iaddr_any _ _).mono ?_; rintro e w9 ⟨rfl, rfl⟩) | (go_at_call 17; refine (words_any _ (ht.keep (over_below ho))).mono ?_; rintro e w9 ⟨rfl, hb⟩; replace p0 := cell_keep hb lP p0; replace p1 := cell_keep hb lP p1; replace q0 := cell_keep hb lQ q0; replace q1 := cell_keep hb lQ q1; replace lP := Nat.lt_of_lt_of_le lP hb.size; replace lQ := Nat.lt_of_lt_of_le lQ hb.size; replace ho := over_trans ho hb; clear hb))
        refine wp_region_class (C := Over (w9)) (by kernel_rfl) (by kernel_rfl) (over_drew _) ?_
        repeat (first | go_big_quiet_skip | (go_big_quiet_want; go_big_quiet_op; go_big_quiet_on) | (go_big_quiet_want; go_big_quiet_op; apply Exists.intro; refine ⟨fun w' hC => ?_, ?_⟩; ((first | (go_at_call 22; refine (icmp_t _ (by assumption)).mono ?_; rintro e w1 ⟨rfl, hb1⟩; exact ⟨rfl, over_step hC hb1⟩) | (go_at_call 21; refine (iins_t _ (by assumption) (by assumption) (by assumption)).mono ?_; rintro e w1 ⟨rfl, hb1⟩; exact ⟨rfl, over_step hC hb1⟩) | (go_at_call 23; refine (icov_t _ (by assumption)).mono ?_; rintro e w1 ⟨rfl, hb1⟩; exact ⟨rfl, over_step hC hb1⟩) | (go_at_call 24; refine (iaddr_h _ (by assumption)).mono ?_; rintro e w1 ⟨rfl, rfl⟩; exact ⟨rfl, hC⟩) | (go_at_call 17; refine (words_any _ (ht.keep (over_below (over_trans ho hC)))).mono ?_; rintro e w1 ⟨rfl, hb1⟩; exact ⟨rfl, over_step hC hb1⟩))); go_big_quiet_on) | (go_big_quiet_want; apply Exists.intro; refine ⟨fun w' hC => ?_, ?_⟩; (have k0 := over_cell hC lP p0; have k1 := over_cell hC lP p1; have k2 := over_cell hC lQ q0; have k3 := over_cell hC lQ q1; simp [Oper.quietAt, Oper.quietUpon, go_sem, k0, k1, k2, k3, W1, W2, W0, hab]; first | done | rfl); go_big_quiet_on; simp only [Act.put, List.setIfInBounds_toArray, List.set_cons_zero, List.set_cons_succ]))
        refine wpQuiet_nil ?_
        intro wr hC
        have k0 := over_cell hC lP p0
        have k1 := over_cell hC lP p1
        have k2 := over_cell hC lQ q0
        have k3 := over_cell hC lQ q1
        clear k0 k1 k2 k3
        go_wp2
        go_ret
        exact ⟨rfl, over_trans ho hC⟩
    · have hab : ¬ n = m := by omega
      obtain ⟨hc2, hc1⟩ := pcmp_lt h2 h1 (.inr ⟨rfl, hO⟩)
      have T2 := Lib.hid hc2
      have T3 := Lib.hid f1
      cases hpq : insB a n a m <;> cases hqp : insB a m a n <;> cases hcp : covB a n x <;> cases hcq : covB a m x
      all_goals first
        | (exfalso; first | (have q := ins_le hpq; omega) | (have q := ins_le hqp; omega) | (have q := ins_sub h1 h2 (by omega); rw [hpq] at q; cases q; done) | (have q := cov_up hpq hcp; rw [hcq] at q; cases q; done) | (have q := cov_up hqp hcq; rw [hcp] at q; cases q; done) | (rcases Int.le_total m n with q | q <;> first | (have r := cov_two hcp hcq q; rw [hpq] at r; cases r; done) | (have r := cov_two hcq hcp q; rw [hqp] at r; cases r; done)))
        | skip
      all_goals
        (try have T4 := Lib.hid hpq)
        (try have T5 := Lib.hid hqp)
        have T6 := Lib.hid hcp
        (try have T7 := Lib.hid (cov_addr hcp))
        go_wp2_with (first | (go_at_call 10; refine (spok_any _ _ _).mono ?_; rintro e w9 ⟨rfl, hb⟩; replace p0 := cell_keep hb lP p0; replace p1 := cell_keep hb lP p1; replace q0 := cell_keep hb lQ q0; replace q1 := cell_keep hb lQ q1; replace lP := Nat.lt_of_lt_of_le lP hb.size; replace lQ := Nat.lt_of_lt_of_le lQ hb.size; replace ho := over_trans ho hb; clear hb) | (go_at_call 23; refine (icov_any _ _ _ _).mono ?_; rintro e w9 ⟨rfl, hb⟩; replace p0 := cell_keep hb lP p0; replace p1 := cell_keep hb lP p1; replace q0 := cell_keep hb lQ q0; replace q1 := cell_keep hb lQ q1; replace lP := Nat.lt_of_lt_of_le lP hb.size; replace lQ := Nat.lt_of_lt_of_le lQ hb.size; replace ho := over_trans ho hb; clear hb) | (go_at_call 21; refine (iins_any _ _ _ _ _ (by assumption) (by assumption)).mono ?_; rintro e w9 ⟨rfl, hb⟩; replace p0 := cell_keep hb lP p0; replace p1 := cell_keep hb lP p1; replace q0 := cell_keep hb lQ q0; replace q1 := cell_keep hb lQ q1; replace lP := Nat.lt_of_lt_of_le lP hb.size; replace lQ := Nat.lt_of_lt_of_le lQ hb.size; replace ho := over_trans ho hb; clear hb) | (go_at_call 22; refine (icmp_any _ _ _ _ _).mono ?_; rintro e w9 ⟨rfl, hb⟩; replace p0 := cell_keep hb lP p0; replace p1 := cell_keep hb lP p1; replace q0 := cell_keep hb lQ q0; replace q1 := cell_keep hb lQ q1; replace lP := Nat.lt_of_lt_of_le lP hb.size; replace lQ := Nat.lt_of_lt_of_le lQ hb.size; replace ho := over_trans ho hb; clear hb) | (go_at_call 24; refine (iaddr_any _ _).mono ?_; rintro e w9 ⟨rfl, rfl⟩) | (go_at_call 17; refine (words_any _ (ht.keep (over_below ho))).mono ?_; rintro e w9 ⟨rfl, hb⟩; replace p0 := cell_keep hb lP p0; replace p1 := cell_keep hb lP p1; replace q0 := cell_keep hb lQ q0; replace q1 := cell_keep hb lQ q1; replace lP := Nat.lt_of_lt_of_le lP hb.size; replace lQ := Nat.lt_of_lt_of_le lQ hb.size; replace ho := over_trans ho hb; clear hb))
        refine wp_region_class (C := Over (w9)) (by kernel_rfl) (by kernel_rfl) (over_drew _) ?_
        repeat (first | go_big_quiet_skip | (go_big_quiet_want; go_big_quiet_op; go_big_quiet_on) | (go_big_quiet_want; go_big_quiet_op; apply Exists.intro; refine ⟨fun w' hC => ?_, ?_⟩; ((first | (go_at_call 22; refine (icmp_t _ (by assumption)).mono ?_; rintro e w1 ⟨rfl, hb1⟩; exact ⟨rfl, over_step hC hb1⟩) | (go_at_call 21; refine (iins_t _ (by assumption) (by assumption) (by assumption)).mono ?_; rintro e w1 ⟨rfl, hb1⟩; exact ⟨rfl, over_step hC hb1⟩) | (go_at_call 23; refine (icov_t _ (by assumption)).mono ?_; rintro e w1 ⟨rfl, hb1⟩; exact ⟨rfl, over_step hC hb1⟩) | (go_at_call 24; refine (iaddr_h _ (by assumption)).mono ?_; rintro e w1 ⟨rfl, rfl⟩; exact ⟨rfl, hC⟩) | (go_at_call 17; refine (words_any _ (ht.keep (over_below (over_trans ho hC)))).mono ?_; rintro e w1 ⟨rfl, hb1⟩; exact ⟨rfl, over_step hC hb1⟩))); go_big_quiet_on) | (go_big_quiet_want; apply Exists.intro; refine ⟨fun w' hC => ?_, ?_⟩; (have k0 := over_cell hC lP p0; have k1 := over_cell hC lP p1; have k2 := over_cell hC lQ q0; have k3 := over_cell hC lQ q1; simp [Oper.quietAt, Oper.quietUpon, go_sem, k0, k1, k2, k3, W1, W2, W0, hab]; first | done | rfl); go_big_quiet_on; simp only [Act.put, List.setIfInBounds_toArray, List.set_cons_zero, List.set_cons_succ]))
        refine wpQuiet_nil ?_
        intro wr hC
        have k0 := over_cell hC lP p0
        have k1 := over_cell hC lP p1
        have k2 := over_cell hC lQ q0
        have k3 := over_cell hC lQ q1
        clear k0 k1 k2 k3
        go_wp2
        go_ret
        exact ⟨rfl, over_trans ho hC⟩
  · have hi := ins_bad hA
    have hc := pcmp_bad hA
    refine (spok_any _ _ _).mono ?_
    rintro e w9 ⟨rfl, hb⟩
    replace p0 := cell_keep hb lP p0
    replace p1 := cell_keep hb lP p1
    replace q0 := cell_keep hb lQ q0
    replace q1 := cell_keep hb lQ q1
    replace lP := Nat.lt_of_lt_of_le lP hb.size
    replace lQ := Nat.lt_of_lt_of_le lQ hb.size
    replace ho := over_trans ho hb
    clear hb
    cases h1 : pokB a n
    · go_wp2_with (first | (go_at_call 10; refine (spok_any _ _ _).mono ?_; rintro e w9 ⟨rfl, hb⟩; replace p0 := cell_keep hb lP p0; replace p1 := cell_keep hb lP p1; replace q0 := cell_keep hb lQ q0; replace q1 := cell_keep hb lQ q1; replace lP := Nat.lt_of_lt_of_le lP hb.size; replace lQ := Nat.lt_of_lt_of_le lQ hb.size; replace ho := over_trans ho hb; clear hb) | (go_at_call 23; refine (icov_any _ _ _ _).mono ?_; rintro e w9 ⟨rfl, hb⟩; replace p0 := cell_keep hb lP p0; replace p1 := cell_keep hb lP p1; replace q0 := cell_keep hb lQ q0; replace q1 := cell_keep hb lQ q1; replace lP := Nat.lt_of_lt_of_le lP hb.size; replace lQ := Nat.lt_of_lt_of_le lQ hb.size; replace ho := over_trans ho hb; clear hb) | (go_at_call 21; refine (iins_any _ _ _ _ _ (by assumption) (by assumption)).mono ?_; rintro e w9 ⟨rfl, hb⟩; replace p0 := cell_keep hb lP p0; replace p1 := cell_keep hb lP p1; replace q0 := cell_keep hb lQ q0; replace q1 := cell_keep hb lQ q1; replace lP := Nat.lt_of_lt_of_le lP hb.size; replace lQ := Nat.lt_of_lt_of_le lQ hb.size; replace ho := over_trans ho hb; clear hb) | (go_at_call 22; refine (icmp_any _ _ _ _ _).mono ?_; rintro e w9 ⟨rfl, hb⟩; replace p0 := cell_keep hb lP p0; replace p1 := cell_keep hb lP p1; replace q0 := cell_keep hb lQ q0; replace q1 := cell_keep hb lQ q1; replace lP := Nat.lt_of_lt_of_le lP hb.size; replace lQ := Nat.lt_of_lt_of_le lQ hb.size; replace ho := over_trans ho hb; clear hb) | (go_at_call 24; refine (iaddr_any _ _).mono ?_; rintro e w9 ⟨rfl, rfl⟩) | (go_at_call 17; refine (words_any _ (ht.keep (over_below ho))).mono ?_; rintro e w9 ⟨rfl, hb⟩; replace p0 := cell_keep hb lP p0; replace p1 := cell_keep hb lP p1; replace q0 := cell_keep hb lQ q0; replace q1 := cell_keep hb lQ q1; replace lP := Nat.lt_of_lt_of_le lP hb.size; replace lQ := Nat.lt_of_lt_of_le lQ hb.size; replace ho := over_trans ho hb; clear hb))
      go_ret
      exact ⟨rfl, ho⟩
    · have h2 : pokB b m = false := by cases h : pokB b m <;> simp_all
      go_wp2_with (first | (go_at_call 10; refine (spok_any _ _ _).mono ?_; rintro e w9 ⟨rfl, hb⟩; replace p0 := cell_keep hb lP p0; replace p1 := cell_keep hb lP p1; replace q0 := cell_keep hb lQ q0; replace q1 := cell_keep hb lQ q1; replace lP := Nat.lt_of_lt_of_le lP hb.size; replace lQ := Nat.lt_of_lt_of_le lQ hb.size; replace ho := over_trans ho hb; clear hb) | (go_at_call 23; refine (icov_any _ _ _ _).mono ?_; rintro e w9 ⟨rfl, hb⟩; replace p0 := cell_keep hb lP p0; replace p1 := cell_keep hb lP p1; replace q0 := cell_keep hb lQ q0; replace q1 := cell_keep hb lQ q1; replace lP := Nat.lt_of_lt_of_le lP hb.size; replace lQ := Nat.lt_of_lt_of_le lQ hb.size; replace ho := over_trans ho hb; clear hb) | (go_at_call 21; refine (iins_any _ _ _ _ _ (by assumption) (by assumption)).mono ?_; rintro e w9 ⟨rfl, hb⟩; replace p0 := cell_keep hb lP p0; replace p1 := cell_keep hb lP p1; replace q0 := cell_keep hb lQ q0; replace q1 := cell_keep hb lQ q1; replace lP := Nat.lt_of_lt_of_le lP hb.size; replace lQ := Nat.lt_of_lt_of_le lQ hb.size; replace ho := over_trans ho hb; clear hb) | (go_at_call 22; refine (icmp_any _ _ _ _ _).mono ?_; rintro e w9 ⟨rfl, hb⟩; replace p0 := cell_keep hb lP p0; replace p1 := cell_keep hb lP p1; replace q0 := cell_keep hb lQ q0; replace q1 := cell_keep hb lQ q1; replace lP := Nat.lt_of_lt_of_le lP hb.size; replace lQ := Nat.lt_of_lt_of_le lQ hb.size; replace ho := over_trans ho hb; clear hb) | (go_at_call 24; refine (iaddr_any _ _).mono ?_; rintro e w9 ⟨rfl, rfl⟩) | (go_at_call 17; refine (words_any _ (ht.keep (over_below ho))).mono ?_; rintro e w9 ⟨rfl, hb⟩; replace p0 := cell_keep hb lP p0; replace p1 := cell_keep hb lP p1; replace q0 := cell_keep hb lQ q0; replace q1 := cell_keep hb lQ q1; replace lP := Nat.lt_of_lt_of_le lP hb.size; replace lQ := Nat.lt_of_lt_of_le lQ hb.size; replace ho := over_trans ho hb; clear hb))
      go_ret
      exact ⟨rfl, ho⟩

theorem contract (H : Type) (enc : TypeId × Value → H) (W : World) (base : Nat) (args : Array Value) (ds gs : List (DataW H)) (before : List MemPlace)
    (hval : ∀ (j : Nat) t v, Tryd.f4.params[j]? = some t → args[j]? = some v → Value.okWide Tryd.prog W .any base t v)
    (hW : DataW.Whole enc Tryd.prog Tryd.f4.params.toList Rows.fnCoversSpec.vars false W args.toList ds gs before) (hL : laidMetH Tryd.prog Rows.fnCoversRow.laid W) :
    Calls Tryd.prog 4 args W fun e W' => ∃ v, e = .returned v ∧ Rows.fnCoversSpec.post enc Tryd.prog Tryd.f4 false true false false W args v W' := by
  have hW' := hW
  obtain ⟨p, q, hA0, hV, rfl, hfz, hnd⟩ := hW
  have hA : DataW.TrodAll enc Tryd.prog W 0 (fun _ => true) true Tryd.f4.params.toList args.toList ds p := hA0
  rw [Tryd.params4] at hA hval
  obtain ⟨v0, vs0, d0, ds0, p0, q0, hargs, rfl, rfl, h0, r0⟩ := trodAll_cons hA
  obtain ⟨rfl, rfl, rfl⟩ := trodAll_nil r0
  obtain rfl : args = #[v0] := by cases args; simp_all
  obtain ⟨rfl, rfl⟩ := trodVars_none hV
  have lt0 : ∀ x ∈ p0, x.block < W.heap.size := by obtain ⟨m, hm⟩ := h0; exact DataW.trod_lt m _ _ _ hm
  have w0 := is_bytes (hval 0 22 v0 rfl rfl) h0
  clear hA0
  refine (walk W v0 w0 hL).mono fun e W' ⟨he, bel⟩ => ?_
  subst he
  exact ⟨_, rfl, _, _, _, [], _, [], hW', trodAll_mk1 (shut_bool Tryd.underlying4 _), (trodAll_cons_mk (Below.trod laidOut (by kernel_rfl) (of_decide_eq_true (by kernel_rfl)) h0 bel lt0) trodAll_mk0), rfl, bel.frame _, fun h => by cases h⟩

/-- a world for the witness: each listed table holds what its initialiser lays -/
noncomputable def laidWorld (os : Os) : World :=
  { World.holding Tryd.prog os ⟨#[], #[], []⟩ with heap := ((((World.holding Tryd.prog os ⟨#[], #[], []⟩).heap.modify 2 fun | .cells _ t frozen => .cells #[.int .u8 0, .int .u8 1, .int .u8 28, .int .u8 2, .int .u8 29, .int .u8 14, .int .u8 24, .int .u8 3, .int .u8 30, .int .u8 22, .int .u8 20, .int .u8 15, .int .u8 25, .int .u8 17, .int .u8 4, .int .u8 8, .int .u8 31, .int .u8 27, .int .u8 13, .int .u8 23, .int .u8 21, .int .u8 19, .int .u8 16, .int .u8 7, .int .u8 26, .int .u8 12, .int .u8 18, .int .u8 6, .int .u8 11, .int .u8 5, .int .u8 10, .int .u8 9] t frozen | o => o).modify 3 fun | .cells _ t frozen => .cells #[.int .u8 0, .int .u8 1, .int .u8 56, .int .u8 2, .int .u8 57, .int .u8 49, .int .u8 28, .int .u8 3, .int .u8 61, .int .u8 58, .int .u8 42, .int .u8 50, .int .u8 38, .int .u8 29, .int .u8 17, .int .u8 4, .int .u8 62, .int .u8 47, .int .u8 59, .int .u8 36, .int .u8 45, .int .u8 43, .int .u8 51, .int .u8 22, .int .u8 53, .int .u8 39, .int .u8 33, .int .u8 30, .int .u8 24, .int .u8 18, .int .u8 12, .int .u8 5, .int .u8 63, .int .u8 55, .int .u8 48, .int .u8 27, .int .u8 60, .int .u8 41, .int .u8 37, .int .u8 16, .int .u8 46, .int .u8 35, .int .u8 44, .int .u8 21, .int .u8 52, .int .u8 32, .int .u8 23, .int .u8 11, .int .u8 54, .int .u8 26, .int .u8 40, .int .u8 15, .int .u8 34, .int .u8 20, .int .u8 31, .int .u8 10, .int .u8 25, .int .u8 14, .int .u8 19, .int .u8 9, .int .u8 13, .int .u8 8, .int .u8 7, .int .u8 6] t frozen | o => o).modify 0 fun | .cells _ t frozen => .cells #[.int .u64 1, .int .u64 10, .int .u64 100, .int .u64 1000, .int .u64 10000, .int .u64 100000, .int .u64 1000000, .int .u64 10000000, .int .u64 100000000, .int .u64 1000000000, .int .u64 10000000000, .int .u64 100000000000, .int .u64 1000000000000, .int .u64 10000000000000, .int .u64 100000000000000, .int .u64 1000000000000000, .int .u64 10000000000000000, .int .u64 100000000000000000, .int .u64 1000000000000000000, .int .u64 10000000000000000000] t frozen | o => o) }

theorem laid_met (os : Os) : laidMet Tryd.prog Rows.fnCoversRow.laid ((laidWorld os).forCall (fun _ _ => 0) ⟨#[], #[.slice none 0 0], []⟩).memory :=
  laidMet_of_run' 8 (by kernel_rfl) (by kernel_rfl)
theorem reads (os : Os) {H : Type} (enc : TypeId × Value → H) : ∃ places, DataW.whole enc Tryd.prog ((laidWorld os).forCall (fun _ _ => 0) ⟨#[], #[.slice none 0 0], []⟩).memory Tryd.f4.params.toList Rows.fnCoversSpec.vars false (#[.slice none 0 0] : Array Value).toList 8 = some ([.nil], [], places) :=
  ⟨[], by kernel_rfl⟩

set_option maxRecDepth 100000 in
theorem lifted (os : Os) (started : os.Started) (H : Type) (enc : TypeId × Value → H) (F : Stop.Interp) :
    ReturnsInHanded {} Tryd.checked os 4 .any ((OpenSpec.ofChange Rows.fnCoversSpec).preRow enc Tryd.prog Tryd.f4 Rows.fnCoversRow.domain false Rows.fnCoversRow.laid) (((OpenSpec.ofChange Rows.fnCoversSpec).at F).post enc Tryd.prog Tryd.f4 false true false false) := by
  obtain ⟨places, hx⟩ := reads os enc
  refine returnsInHanded_of_row (C := Tryd.checked) (s := OpenSpec.ofChange Rows.fnCoversSpec) own started (by kernel_rfl) Tryd.func4
    (witness_row_at (enc := enc) (C := Tryd.checked) false (laidWorld os) #[.slice none 0 0] rfl (by kernel_rfl) (by kernel_rfl) (by kernel_rfl)
      (OpenSpec.preRow_of_cond 8 hx (by kernel_rfl) (fun k hk => by cases hk) (by kernel_rfl) (laid_met os))) ?_
  intro W base args ds gs before hval hW _ _ _ hL _ _
  exact contract H enc W base args ds gs before hval hW hL

theorem said : Rows.FnCoversSaid :=
  OpenClaim.holds_of_cond 4 Tryd.f4 rfl rfl rfl rfl rfl rfl rfl ⟨rfl, rfl, rfl, rfl, rfl⟩ rfl rfl rfl rfl rfl (by kernel_rfl) Tryd.func4 (by kernel_rfl)
    (of_decide_eq_true (by kernel_rfl)) (by unfold Func.isWrapper; first | (rw [if_pos (by decide +kernel)]; kernel_rfl) | (rw [if_neg (by decide +kernel)]; exact ⟨rfl, rfl⟩))
    (fun os started H enc _ F => by rw [OpenClaim.pre_eq_preRow]; exact lifted os started H enc F)

theorem plain (f : FuncId) (fn : Func) (hf : Tryd.pinned.checked.prog.funcNamed "loop.example/g00557/laws.FnCovers" = some f) (hfn : Tryd.pinned.checked.prog.funcs[f]? = some fn) :
    false = Tryd.pinned.checked.prog.looks [] ∧ ∀ (j : Nat) t, fn.params[j]? = some t → Tryd.pinned.checked.prog.wantsStandIn t = false := by
  obtain rfl : f = 4 := Option.some.inj ((show Tryd.prog.funcNamed "loop.example/g00557/laws.FnCovers" = some 4 by kernel_rfl).symm.trans hf) |>.symm
  obtain rfl : fn = Tryd.f4 := (Option.some.inj (Tryd.func4.symm.trans hfn)).symm
  refine ⟨by kernel_rfl, fun j t ht => ?_⟩
  rw [Tryd.params4] at ht
  have hm := Array.mem_of_getElem? ht
  simp at hm
  rcases hm with rfl
  · exact (show Tryd.prog.wantsStandIn 22 = false by kernel_rfl)

theorem proved : Rows.FnCoversCardSaid :=
  Claim7.holds_tied_plain_at .later [] _ _ _ _ said (fun _ h => by cases h) (by kernel_rfl) (fun _ h => by cases h) fnCovers_row_tie rfl ⟨rfl, rfl⟩ (by kernel_rfl) rfl plain (by kernel_rfl)
end Go.Proofs.YtichmbbpjkikaaaDoor.fnCovers
