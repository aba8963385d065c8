/-
  Groups: contracts of the tests that they are valid, of the program and of the model. Conditions: those in each contract.
-/
import Derived.Test.YtbcmoofpgffbhaaGB
import Derived.Test.YtbcmoofpgffbhaaW3
import Derived.Test.YtbcmoofpgffbhaaI4
namespace Go.Proofs.Ytbcmoofpgffbhaa
open Go.ChangeShapes Go.WideShapes Go.ChangeAt Go.RowKit Go.BigFrame Go.Joins
set_option linter.unusedVariables false
set_option maxRecDepth 100000
set_option linter.unusedSimpArgs false
set_option maxRecDepth 100000

def okH (l : List (Int × Int)) (i : Nat) : Prop := (inB (l.getD i (0, 0)).1 0 7 && inB (l.getD i (0, 0)).2 1 16) = true
def upH (l : List (Int × Int)) (i : Nat) : Prop := (l.getD i (0, 0)).1 < (l.getD (i + 1) (0, 0)).1
instance (l : List (Int × Int)) (i : Nat) : Decidable (okH l i) := by unfold okH; infer_instance
instance (l : List (Int × Int)) (i : Nat) : Decidable (upH l i) := by unfold upH; infer_instance
def allH (l : List (Int × Int)) : Bool := decide (∀ i, i < l.length → okH l i)
def ascH (l : List (Int × Int)) : Bool := decide (∀ i, i < l.length - 1 → upH l i)
/-- a group is valid -/
def grpB (a n : Int) (l : List (Int × Int)) : Bool := pokB a n && (decide ((l.length : Int) ≤ 4) && (allH l && ascH l))
theorem allH_no {l : List (Int × Int)} {k : Nat} {x y : Int} (hk : k < l.length) (hx : l.getD k (0, 0) = (x, y)) (h : (inB x 0 7 && inB y 1 16) = false) : allH l = false := by
  simp only [allH, decide_eq_false_iff_not]
  intro q
  have := q k hk
  unfold okH at this
  rw [hx] at this
  rw [h] at this
  cases this
theorem allH_yes {l : List (Int × Int)} {n : Nat} (hn : n = l.length) (h : ∀ i, i < n → okH l i) : allH l = true := by
  subst hn
  simpa [allH] using h
theorem ascH_no {l : List (Int × Int)} {j : Nat} {x y x' y' : Int} (hk : j + 1 < l.length) (hs : l.getD j (0, 0) = (x, y)) (hx : l.getD (j + 1) (0, 0) = (x', y')) (h : ¬ x < x') : ascH l = false := by
  simp only [ascH, decide_eq_false_iff_not]
  intro q
  have := q j (by omega)
  unfold upH at this
  rw [hs, hx] at this
  exact h this
theorem ascH_yes {l : List (Int × Int)} {n : Nat} (hn : n = l.length) (h : ∀ i, i + 1 < n → upH l i) : ascH l = true := by
  subst hn
  simp only [ascH, decide_eq_true_eq]
  exact fun i hi => h i (by omega)
theorem ihc_any (a n b m : Int) (w : World) : Calls Try.prog 138 #[.agg #[.int .i64 a, .int .i64 n], .agg #[.int .i64 b, .int .i64 m]] w fun e w' => e = .returned (.int .i64 (cmp1 a b)) ∧ Below w.heap.size w w' := by
  obtain ⟨bA, bB, B1, z⟩ := two w [.int .i64 a, .int .i64 n] [.int .i64 b, .int .i64 m] HpT HpT
  clear z
  go_enter Try.func138, Try.ntmps138
  go_wp2_with fail
  refine (compare_any a b _).mono ?_
  rintro e w1 ⟨rfl, rfl⟩
  go_wp2
  go_ret
  exact ⟨rfl, B1⟩
theorem ihc_t {a n b m r : Int} (w : World) (H : Hid (cmp1 a b = r)) : Calls Try.prog 138 #[.agg #[.int .i64 a, .int .i64 n], .agg #[.int .i64 b, .int .i64 m]] w fun e w' => e = .returned (.int .i64 r) ∧ Below w.heap.size w w' := H.out ▸ ihc_any a n b m w
theorem cmp1_neg {a b : Int} : cmp1 a b < 0 ↔ a < b := by
  unfold cmp1
  split
  · simp [*]
  · split <;> omega
set_option maxHeartbeats 1000000 in
theorem iasch_any (v : Value) (l : List (Int × Int)) (w : World) (h : RdP w v l) :
    Calls Try.prog 137 #[v, .func (.func 138) #[] #[]] w fun e w' => e = .returned (.bool (ascH l)) ∧ Below w.heap.size w w' := by
  obtain ⟨a, c, rfl, hc⟩ := h.el
  have hm := h.1
  obtain ⟨n, hn⟩ : ∃ n, n = l.length := ⟨_, rfl⟩
  rw [← hn] at hc hm ⊢
  have HN := Lib.hid hn
  clear h hn
  go_enter Try.func137, Try.ntmps137
  go_wp2
  go_loopw [5] (fun q wr => ∃ j : Nat, q = .int .i64 ((j : Int) + 1) ∧ (j + 1 ≤ n ∨ j = 0) ∧ (∀ i, i < j → upH l i) ∧ Below w.heap.size w wr) (fun q _ => n - (intOf q).toNat)
  case atStart => exact ⟨0, rfl, .inr rfl, fun i hi => by omega, Below.refl _ _⟩
  case round =>
    obtain ⟨j, rfl, hj, hup, hB⟩ := hrel
    have HU := Lib.hid hup
    clear hup
    by_cases hlt : j + 1 < n
    · have hltI : (j : Int) + 1 < (n : Int) := by omega
      obtain ⟨b, o, rfl, d0, d1⟩ := hc (j + 1) hlt
      have g0 := cell_keep (hB) (World.block_lt_of_cell? w _ d0) d0
      have g1 := cell_keep (hB) (World.block_lt_of_cell? w _ d1) d1
      obtain ⟨⟨x, y⟩, hx⟩ : ∃ q, l.getD (j + 1) (0, 0) = q := ⟨_, rfl⟩
      rw [hx] at g0 g1
      have HX := Lib.hid hx
      have HCC := Lib.hid hc
      clear hx hc d0 d1
      obtain ⟨b', o', hbo, d0, d1⟩ := HCC.out j (by omega)
      obtain ⟨rfl, rfl⟩ : b = b' ∧ o = o' := by simpa using hbo
      clear hbo
      have m0 := cell_keep (hB) (World.block_lt_of_cell? w _ d0) d0
      have m1 := cell_keep (hB) (World.block_lt_of_cell? w _ d1) d1
      obtain ⟨⟨x0, y0⟩, hs⟩ : ∃ q, l.getD j (0, 0) = q := ⟨_, rfl⟩
      rw [hs] at m0 m1
      have HS := Lib.hid hs
      clear hs d0 d1
      obtain ⟨r, hr⟩ : ∃ r, cmp1 x0 x = r := ⟨_, rfl⟩
      have HR := Lib.hid hr
      clear hr
      have hwj : IntKind.i64.wrap (j : Int) = j := wrap64_in _ (by omega) (by omega)
      have hjI : (j : Int) < (n : Int) := by omega
      have hjN : j < n := by omega
      have hkJ : (j : Int) + 1 < (n : Int) := by omega
      have hkT : ((j : Int) + 1).toNat = j + 1 := by omega
      have hk0 : (0 : Int) ≤ (j : Int) + 1 := by omega
      clear hj
      by_cases hneg : r < 0
      · have HOK : Hid (∀ i, i < j + 1 → upH l i) := Lib.hid fun i hi => by
          by_cases e : i = j
          · unfold upH; rw [e, HS.out, HX.out]; exact cmp1_neg.1 (by rw [HR.out]; exact hneg)
          · exact HU.out i (by omega)
        go_wp2_with fail
        refine wp_region_class (C := Over (wr)) (by kernel_rfl) (by kernel_rfl) (over_drew _) ?_
        repeat (first | go_big_quiet_skip | (go_big_quiet_want; go_big_quiet_op; go_big_quiet_on) | (go_big_quiet_want; go_big_quiet_op; apply Exists.intro; refine ⟨fun w' hC => ?_, ?_⟩; ((first | (go_at_call 138; refine (ihc_t _ HR).mono ?_; rintro e w1 ⟨rfl, hb1⟩; exact ⟨rfl, over_step hC hb1⟩))); go_big_quiet_on) | (go_big_quiet_want; apply Exists.intro; refine ⟨fun w' hC => ?_, ?_⟩; (have k0 := over_cell hC (World.block_lt_of_cell? _ _ g0) g0; have k1 := over_cell hC (World.block_lt_of_cell? _ _ g1) g1; have k2 := over_cell hC (World.block_lt_of_cell? _ _ m0) m0; have k3 := over_cell hC (World.block_lt_of_cell? _ _ m1) m1; simp [Oper.quietAt, Oper.quietUpon, go_sem, k0, k1, k2, k3, hltI, hwj, hjI, hjN, hkJ, hkT, hk0, hlt]; first | done | rfl); go_big_quiet_on; simp only [Act.put, List.setIfInBounds_toArray, List.set_cons_zero, List.set_cons_succ]))
        refine wpQuiet_nil ?_
        intro ws hC
        have k0 := over_cell hC (World.block_lt_of_cell? _ _ g0) g0
        have k1 := over_cell hC (World.block_lt_of_cell? _ _ g1) g1
        have k2 := over_cell hC (World.block_lt_of_cell? _ _ m0) m0
        have k3 := over_cell hC (World.block_lt_of_cell? _ _ m1) m1
        go_wp2
        go_roundw
        case rel => exact ⟨j + 1, by go_num, by omega, HOK.out, below_step hB hC⟩
        case measure => simp [intOf]; omega
      · have HF := Lib.hid (ascH_no (by rw [← HN.out]; exact hlt) HS.out HX.out (by intro q; exact hneg (by rw [← HR.out]; exact cmp1_neg.2 q)))
        go_wp2_with fail
        refine wp_region_class (C := Over (wr)) (by kernel_rfl) (by kernel_rfl) (over_drew _) ?_
        repeat (first | go_big_quiet_skip | (go_big_quiet_want; go_big_quiet_op; go_big_quiet_on) | (go_big_quiet_want; go_big_quiet_op; apply Exists.intro; refine ⟨fun w' hC => ?_, ?_⟩; ((first | (go_at_call 138; refine (ihc_t _ HR).mono ?_; rintro e w1 ⟨rfl, hb1⟩; exact ⟨rfl, over_step hC hb1⟩))); go_big_quiet_on) | (go_big_quiet_want; apply Exists.intro; refine ⟨fun w' hC => ?_, ?_⟩; (have k0 := over_cell hC (World.block_lt_of_cell? _ _ g0) g0; have k1 := over_cell hC (World.block_lt_of_cell? _ _ g1) g1; have k2 := over_cell hC (World.block_lt_of_cell? _ _ m0) m0; have k3 := over_cell hC (World.block_lt_of_cell? _ _ m1) m1; simp [Oper.quietAt, Oper.quietUpon, go_sem, k0, k1, k2, k3, hltI, hwj, hjI, hjN, hkJ, hkT, hk0, hlt]; first | done | rfl); go_big_quiet_on; simp only [Act.put, List.setIfInBounds_toArray, List.set_cons_zero, List.set_cons_succ]))
        refine wpQuiet_nil ?_
        intro ws hC
        have k0 := over_cell hC (World.block_lt_of_cell? _ _ g0) g0
        have k1 := over_cell hC (World.block_lt_of_cell? _ _ g1) g1
        have k2 := over_cell hC (World.block_lt_of_cell? _ _ m0) m0
        have k3 := over_cell hC (World.block_lt_of_cell? _ _ m1) m1
        go_wp2
        go_ret
        exact ⟨ret_bool HF.out.symm, below_step hB hC⟩
    · have hltI : ¬ (j : Int) + 1 < (n : Int) := by omega
      have HF := Lib.hid (ascH_yes HN.out (fun i hi => HU.out i (by omega)))
      clear hc
      go_wp2
      go_ret
      exact ⟨ret_bool HF.out.symm, hB⟩
theorem iasch_t {v : Value} {l : List (Int × Int)} {b : Bool} (w : World) (h : RdP w v l) (H : Hid (ascH l = b)) :
    Calls Try.prog 137 #[v, .func (.func 138) #[] #[]] w fun e w' => e = .returned (.bool b) ∧ Below w.heap.size w w' := H.out ▸ iasch_any v l w h
theorem hops_len {w : World} {v : Value} {l : List (Int × Int)} (h : RdP w v l) : ∃ x c, v = .slice x l.length c := h.len
set_option maxHeartbeats 1000000 in
theorem igrp_any (hv : Value) (l : List (Int × Int)) (a n : Int) (w : World) (h : RdP w hv l) :
    Calls Try.prog 80 #[.agg #[.int .i64 a, .int .i64 n, hv]] w fun e w' => e = .returned (.bool (grpB a n l)) ∧ Below w.heap.size w w' := by
  unfold grpB
  obtain ⟨bA, B0, z⟩ := one w [.int .i64 a, .int .i64 n, hv] GI
  replace h := h.keep B0
  clear z
  obtain ⟨x, c, rfl, hc⟩ := h.el
  have hm := h.1
  obtain ⟨N, hn⟩ : ∃ N, N = l.length := ⟨_, rfl⟩
  have HRR := Lib.hid (hn ▸ h : RdP _ (.slice x N c) l)
  rw [← hn] at hc hm bA B0 ⊢
  have HN := Lib.hid hn
  clear h hn
  cases hP : pokB a n
  · rw [Bool.false_and]
    have HP := Lib.hid hP
    clear hP
    go_enter Try.func80, Try.ntmps80
    go_wp2_with fail
    refine (ipok_t _ HP).mono ?_
    rintro e w1 ⟨rfl, hb⟩
    replace B0 := below_step B0 hb
    go_wp2
    go_ret
    exact ⟨rfl, B0⟩
  · rw [Bool.true_and]
    have HP := Lib.hid hP
    clear hP
    by_cases hbig : (N : Int) ≤ 4
    · rw [show decide ((N : Int) ≤ 4) = true by simp [hbig], Bool.true_and]
      have hb4 : ¬ (4 : Int) < (N : Int) := by omega
      go_enter Try.func80, Try.ntmps80
      go_wp2_with fail
      refine (ipok_t _ HP).mono ?_
      rintro e w1 ⟨rfl, hb⟩
      replace bA := bA.keep hb
      have HR1 := Lib.hid (HRR.out.keep hb)
      have hB0 := below_step B0 hb
      have a2 := bA.c 2 rfl
      obtain ⟨V, hV⟩ : ∃ V, V = w1 := ⟨_, rfl⟩
      subst hV
      go_wp2_with fail
      clear a2
      go_loopw [18] (fun q wr => ∃ k : Nat, k ≤ N ∧ q = .int .i64 k ∧ (∀ i, i < k → okH l i) ∧ Over V wr) (fun q _ => N - (intOf q).toNat)
      case atStart => exact ⟨0, Nat.zero_le _, rfl, fun i hi => by omega, over_refl _⟩
      case round =>
        obtain ⟨k, hk, rfl, hok, hB⟩ := hrel
        have HO := Lib.hid hok
        clear hok
        by_cases hlt : k < N
        · have hltI : (k : Int) < (N : Int) := by omega
          obtain ⟨b, o, rfl, d0, d1⟩ := hc k hlt
          have g0 := cell_keep (below_step hb hB) (World.block_lt_of_cell? _ _ d0) d0
          have g1 := cell_keep (below_step hb hB) (World.block_lt_of_cell? _ _ d1) d1
          obtain ⟨⟨x, y⟩, hx⟩ : ∃ q, l.getD k (0, 0) = q := ⟨_, rfl⟩
          rw [hx] at g0 g1
          have HX := Lib.hid hx
          have HCC := Lib.hid hc
          clear hx hc d0 d1
          cases hI : inB x 0 7
          · have HI := Lib.hid hI
            have HF := Lib.hid (allH_no (by rw [← HN.out]; exact hlt) HX.out (by rw [hI]; rfl))
            clear hI
            go_wp2_with fail
            refine (within_t _ HI).mono ?_
            rintro e w2 ⟨rfl, rfl⟩
            go_wp2
            go_ret
            exact ⟨ret_bool (by rw [HF.out]; rfl), below_step hB0 (over_alloc hB _)⟩
          · have HI := Lib.hid hI
            cases hJ : inB y 1 16
            · have HJ := Lib.hid hJ
              have HF := Lib.hid (allH_no (by rw [← HN.out]; exact hlt) HX.out (by rw [hI, hJ]; rfl))
              clear hI hJ
              go_wp2_with fail
              refine (within_t _ HI).mono ?_
              rintro e w2 ⟨rfl, rfl⟩
              go_wp2_with fail
              refine (within_t _ HJ).mono ?_
              rintro e w2 ⟨rfl, rfl⟩
              go_wp2
              go_ret
              exact ⟨ret_bool (by rw [HF.out]; rfl), below_step hB0 (over_alloc hB _)⟩
            · have HJ := Lib.hid hJ
              have HOK : Hid (∀ i, i < k + 1 → okH l i) := Lib.hid fun i hi => by
                by_cases e : i = k
                · unfold okH; rw [e, HX.out]; simp only [hI, hJ]; rfl
                · exact HO.out i (by omega)
              clear hI hJ
              go_wp2_with fail
              refine (within_t _ HI).mono ?_
              rintro e w2 ⟨rfl, rfl⟩
              go_wp2_with fail
              refine (within_t _ HJ).mono ?_
              rintro e w2 ⟨rfl, rfl⟩
              go_wp2
              go_roundw
              case rel => exact ⟨k + 1, by omega, by go_num, HOK.out, over_alloc hB _⟩
              case measure => simp [intOf]; omega
        · have hkn : k = N := by omega
          rw [hkn]
          have HF := Lib.hid (allH_yes HN.out (hkn ▸ HO.out))
          clear hc
          have hnI : ¬ (N : Int) < (N : Int) := by omega
          obtain ⟨t, ht⟩ : ∃ t, ascH l = t := ⟨_, rfl⟩
          have HT := Lib.hid ht
          clear ht
          have a2 := (bA.keep hB).c 2 rfl
          go_wp2_with fail
          refine (iasch_t _ (HR1.out.keep hB) HT).mono ?_
          rintro e w2 ⟨rfl, hb2⟩
          go_wp2
          go_ret
          exact ⟨ret_bool (by rw [HF.out, HT.out]; rfl), below_step (below_step hB0 hB) hb2⟩
    · rw [show decide ((N : Int) ≤ 4) = false by simp [hbig]]
      have hb4 : (4 : Int) < (N : Int) := by omega
      go_enter Try.func80, Try.ntmps80
      go_wp2_with fail
      refine (ipok_t _ HP).mono ?_
      rintro e w1 ⟨rfl, hb⟩
      replace bA := bA.keep hb
      replace B0 := below_step B0 hb
      have a2 := bA.c 2 rfl
      go_wp2
      go_ret
      exact ⟨rfl, B0⟩
theorem igrp_t {hv : Value} {l : List (Int × Int)} {a n : Int} {b : Bool} (w : World) (h : RdP w hv l) (H : Hid (grpB a n l = b)) :
    Calls Try.prog 80 #[.agg #[.int .i64 a, .int .i64 n, hv]] w fun e w' => e = .returned (.bool b) ∧ Below w.heap.size w w' := H.out ▸ igrp_any hv l a n w h
set_option maxHeartbeats 2000000 in
theorem sgrp_any (hv : Value) (l : List (Int × Int)) (a n : Int) (w : World) (h : RdP w hv l) :
    Calls Try.prog 77 #[.agg #[.int .i64 a, .int .i64 n, hv]] w fun e w' => e = .returned (.bool (grpB a n l)) ∧ Below w.heap.size w w' := by
  unfold grpB
  obtain ⟨bA, B0, z⟩ := one w [.int .i64 a, .int .i64 n, hv] GI
  replace h := h.keep B0
  clear z
  obtain ⟨x, c, rfl, hc⟩ := h.el
  have hm := h.1
  obtain ⟨N, hn⟩ : ∃ N, N = l.length := ⟨_, rfl⟩
  rw [← hn] at hc hm bA B0 ⊢
  have HN := Lib.hid hn
  clear h hn
  cases hP : pokB a n
  · rw [Bool.false_and]
    have HP := Lib.hid hP
    clear hP
    go_enter Try.func77, Try.ntmps77
    go_wp2_with fail
    refine (spok_t _ HP).mono ?_
    rintro e w1 ⟨rfl, hb⟩
    replace B0 := below_step B0 hb
    go_wp2
    go_ret
    exact ⟨rfl, B0⟩
  · rw [Bool.true_and]
    have HP := Lib.hid hP
    clear hP
    by_cases hbig : (N : Int) ≤ 4
    · rw [show decide ((N : Int) ≤ 4) = true by simp [hbig], Bool.true_and]
      have hb4 : ¬ (4 : Int) < (N : Int) := by omega
      go_enter Try.func77, Try.ntmps77
      go_wp2_with fail
      refine (spok_t _ HP).mono ?_
      rintro e V ⟨rfl, hb⟩
      replace bA := bA.keep hb
      have hB0 := below_step B0 hb
      have a2 := bA.c 2 rfl
      obtain ⟨A, hA⟩ : ∃ A, A = w.heap.size := ⟨_, rfl⟩
      go_wp2_with fail
      try rw [← hA]
      rw [← hA] at bA
      clear a2 hA
      go_loopw [3] (fun q wr => ∃ k : Nat, k ≤ N ∧ q = .int .i64 k ∧ (∀ i, i < k → okH l i) ∧ (∀ i, i + 1 < k → upH l i) ∧ Over V wr) (fun q _ => N - (intOf q).toNat)
      case atStart => exact ⟨0, Nat.zero_le _, rfl, fun i hi => by omega, fun i hi => by omega, over_refl _⟩
      case round =>
        obtain ⟨k, hk, rfl, hok, hup, hB⟩ := hrel
        have HO := Lib.hid hok
        have HU := Lib.hid hup
        clear hok hup
        replace bA := bA.keep hB
        have a2 := bA.c 2 rfl
        by_cases hlt : k < N
        · have hltI : (k : Int) < (N : Int) := by omega
          obtain ⟨b, o, rfl, d0, d1⟩ := hc k hlt
          have g0 := cell_keep (below_step hb hB) (World.block_lt_of_cell? _ _ d0) d0
          have g1 := cell_keep (below_step hb hB) (World.block_lt_of_cell? _ _ d1) d1
          obtain ⟨⟨x, y⟩, hx⟩ : ∃ q, l.getD k (0, 0) = q := ⟨_, rfl⟩
          rw [hx] at g0 g1
          have HX := Lib.hid hx
          have HCC := Lib.hid hc
          clear hx hc d0 d1
          have bP := Bl.new wr [.int .i64 x, .int .i64 y] HpT wr.heap.size rfl
          have hB2 : Over V (wr.alloc (.cells #[.int .i64 x, .int .i64 y] HpT)) := over_alloc hB _
          replace bA := bA.alloc (.cells #[.int .i64 x, .int .i64 y] HpT)
          cases hI : (inB x 0 7 && inB y 1 16)
          · have HF := Lib.hid (allH_no (by rw [← HN.out]; exact hlt) HX.out hI)
            simp only [inB, Bool.and_eq_false_iff, decide_eq_false_iff_not] at hI
            by_cases h1 : x < 0
            · clear hI
              go_wp2_with fail
              have Dh1 : decide (x < 0) = true := decide_eq_true (by omega)
              have Dk0 : decide ((0 : Int) < (0 : Int)) = false := by decide
              refine wp_region_class (C := Over ((wr.alloc (.cells #[.int .i64 x, .int .i64 y] HpT)))) (by kernel_rfl) (by kernel_rfl) (over_drew _) ?_
              repeat (first | go_big_quiet_skip | (go_big_quiet_want; go_big_quiet_op; (try simp only [Dh1, Dk0]); go_big_quiet_on) | (go_big_quiet_want; apply Exists.intro; refine ⟨fun w' hC => ?_, ?_⟩; (have k0 := over_cell hC bA.lt (bA.c 2 rfl); have k1 := over_cell hC bP.lt (bP.c 0 rfl); have k2 := over_cell hC bP.lt (bP.c 1 rfl); simp [Oper.quietAt, Oper.quietUpon, go_sem, k0, k1, k2, hltI, hlt, h1]; first | done | rfl); go_big_quiet_on; simp only [Act.put, List.setIfInBounds_toArray, List.set_cons_zero, List.set_cons_succ]))
              refine wpQuiet_nil ?_
              intro ws hC
              have k0 := over_cell hC bA.lt (bA.c 2 rfl)
              have k1 := over_cell hC bP.lt (bP.c 0 rfl)
              have k2 := over_cell hC bP.lt (bP.c 1 rfl)
              go_wp2
              go_ret
              exact ⟨ret_bool (by rw [HF.out]; rfl), below_step hB0 (over_step hB2 hC)⟩
            · by_cases h2 : 8 ≤ x
              · clear hI
                go_wp2_with fail
                have Dh1 : decide (x < 0) = false := decide_eq_false (by omega)
                have Dh2 : decide (8 ≤ x) = true := decide_eq_true (by omega)
                have Dk0 : decide ((0 : Int) < (0 : Int)) = false := by decide
                refine wp_region_class (C := Over ((wr.alloc (.cells #[.int .i64 x, .int .i64 y] HpT)))) (by kernel_rfl) (by kernel_rfl) (over_drew _) ?_
                repeat (first | go_big_quiet_skip | (go_big_quiet_want; go_big_quiet_op; (try simp only [Dh1, Dh2, Dk0]); go_big_quiet_on) | (go_big_quiet_want; apply Exists.intro; refine ⟨fun w' hC => ?_, ?_⟩; (have k0 := over_cell hC bA.lt (bA.c 2 rfl); have k1 := over_cell hC bP.lt (bP.c 0 rfl); have k2 := over_cell hC bP.lt (bP.c 1 rfl); simp [Oper.quietAt, Oper.quietUpon, go_sem, k0, k1, k2, hltI, hlt, h1, h2]; first | done | rfl); go_big_quiet_on; simp only [Act.put, List.setIfInBounds_toArray, List.set_cons_zero, List.set_cons_succ]))
                refine wpQuiet_nil ?_
                intro ws hC
                have k0 := over_cell hC bA.lt (bA.c 2 rfl)
                have k1 := over_cell hC bP.lt (bP.c 0 rfl)
                have k2 := over_cell hC bP.lt (bP.c 1 rfl)
                go_wp2
                go_ret
                exact ⟨ret_bool (by rw [HF.out]; rfl), below_step hB0 (over_step hB2 hC)⟩
              · by_cases h3 : y < 1
                · clear hI
                  go_wp2_with fail
                  have Dh1 : decide (x < 0) = false := decide_eq_false (by omega)
                  have Dh2 : decide (8 ≤ x) = false := decide_eq_false (by omega)
                  have Dh3 : decide (y < 1) = true := decide_eq_true (by omega)
                  have Dk0 : decide ((0 : Int) < (0 : Int)) = false := by decide
                  refine wp_region_class (C := Over ((wr.alloc (.cells #[.int .i64 x, .int .i64 y] HpT)))) (by kernel_rfl) (by kernel_rfl) (over_drew _) ?_
                  repeat (first | go_big_quiet_skip | (go_big_quiet_want; go_big_quiet_op; (try simp only [Dh1, Dh2, Dh3, Dk0]); go_big_quiet_on) | (go_big_quiet_want; apply Exists.intro; refine ⟨fun w' hC => ?_, ?_⟩; (have k0 := over_cell hC bA.lt (bA.c 2 rfl); have k1 := over_cell hC bP.lt (bP.c 0 rfl); have k2 := over_cell hC bP.lt (bP.c 1 rfl); simp [Oper.quietAt, Oper.quietUpon, go_sem, k0, k1, k2, hltI, hlt, h1, h2, h3]; first | done | rfl); go_big_quiet_on; simp only [Act.put, List.setIfInBounds_toArray, List.set_cons_zero, List.set_cons_succ]))
                  refine wpQuiet_nil ?_
                  intro ws hC
                  have k0 := over_cell hC bA.lt (bA.c 2 rfl)
                  have k1 := over_cell hC bP.lt (bP.c 0 rfl)
                  have k2 := over_cell hC bP.lt (bP.c 1 rfl)
                  go_wp2
                  go_ret
                  exact ⟨ret_bool (by rw [HF.out]; rfl), below_step hB0 (over_step hB2 hC)⟩
                · have h4 : 16 < y := by omega
                  clear hI
                  go_wp2_with fail
                  have Dh1 : decide (x < 0) = false := decide_eq_false (by omega)
                  have Dh2 : decide (8 ≤ x) = false := decide_eq_false (by omega)
                  have Dh3 : decide (y < 1) = false := decide_eq_false (by omega)
                  have Dh4 : decide (16 < y) = true := decide_eq_true (by omega)
                  have Dk0 : decide ((0 : Int) < (0 : Int)) = false := by decide
                  refine wp_region_class (C := Over ((wr.alloc (.cells #[.int .i64 x, .int .i64 y] HpT)))) (by kernel_rfl) (by kernel_rfl) (over_drew _) ?_
                  repeat (first | go_big_quiet_skip | (go_big_quiet_want; go_big_quiet_op; (try simp only [Dh1, Dh2, Dh3, Dh4, Dk0]); go_big_quiet_on) | (go_big_quiet_want; apply Exists.intro; refine ⟨fun w' hC => ?_, ?_⟩; (have k0 := over_cell hC bA.lt (bA.c 2 rfl); have k1 := over_cell hC bP.lt (bP.c 0 rfl); have k2 := over_cell hC bP.lt (bP.c 1 rfl); simp [Oper.quietAt, Oper.quietUpon, go_sem, k0, k1, k2, hltI, hlt, h1, h2, h3, h4]; first | done | rfl); go_big_quiet_on; simp only [Act.put, List.setIfInBounds_toArray, List.set_cons_zero, List.set_cons_succ]))
                  refine wpQuiet_nil ?_
                  intro ws hC
                  have k0 := over_cell hC bA.lt (bA.c 2 rfl)
                  have k1 := over_cell hC bP.lt (bP.c 0 rfl)
                  have k2 := over_cell hC bP.lt (bP.c 1 rfl)
                  go_wp2
                  go_ret
                  exact ⟨ret_bool (by rw [HF.out]; rfl), below_step hB0 (over_step hB2 hC)⟩
          · have HOK : Hid (∀ i, i < k + 1 → okH l i) := Lib.hid fun i hi => by
              by_cases e : i = k
              · unfold okH; rw [e, HX.out]; exact hI
              · exact HO.out i (by omega)
            simp only [inB, Bool.and_eq_true, decide_eq_true_eq] at hI
            have h1 : ¬ x < 0 := by omega
            have h2 : ¬ 8 ≤ x := by omega
            have h3 : ¬ y < 1 := by omega
            have h4 : ¬ 16 < y := by omega
            clear hI
            rcases Nat.eq_zero_or_pos k with rfl | hpos
            · simp only [Nat.zero_mul, Nat.add_zero] at g0 g1
              go_wp2_with fail
              have Dh1 : decide (x < 0) = false := decide_eq_false (by omega)
              have Dh2 : decide (8 ≤ x) = false := decide_eq_false (by omega)
              have Dh3 : decide (y < 1) = false := decide_eq_false (by omega)
              have Dh4 : decide (16 < y) = false := decide_eq_false (by omega)
              have Dk0 : decide ((0 : Int) < (0 : Int)) = false := by decide
              refine wp_region_class (C := Over ((wr.alloc (.cells #[.int .i64 x, .int .i64 y] HpT)))) (by kernel_rfl) (by kernel_rfl) (over_drew _) ?_
              repeat (first | go_big_quiet_skip | (go_big_quiet_want; go_big_quiet_op; (try simp only [Dh1, Dh2, Dh3, Dh4, Dk0]); go_big_quiet_on) | (go_big_quiet_want; apply Exists.intro; refine ⟨fun w' hC => ?_, ?_⟩; (have k0 := over_cell hC bA.lt (bA.c 2 rfl); have k1 := over_cell hC bP.lt (bP.c 0 rfl); have k2 := over_cell hC bP.lt (bP.c 1 rfl); simp [Oper.quietAt, Oper.quietUpon, go_sem, k0, k1, k2, hltI, hlt, h1, h2, h3, h4]; first | done | rfl); go_big_quiet_on; simp only [Act.put, List.setIfInBounds_toArray, List.set_cons_zero, List.set_cons_succ]))
              refine wpQuiet_nil ?_
              intro ws hC
              have k0 := over_cell hC bA.lt (bA.c 2 rfl)
              have k1 := over_cell hC bP.lt (bP.c 0 rfl)
              have k2 := over_cell hC bP.lt (bP.c 1 rfl)
              go_wp2
              go_roundw
              case rel => exact ⟨0 + 1, by omega, by go_num, HOK.out, fun i hi => by omega, over_step hB2 hC⟩
              case measure => simp [intOf]; omega
            · obtain ⟨j, rfl⟩ : ∃ j, k = j + 1 := ⟨k - 1, by omega⟩
              obtain ⟨b', o', hbo, d0, d1⟩ := HCC.out j (by omega)
              obtain ⟨rfl, rfl⟩ : b = b' ∧ o = o' := by simpa using hbo
              clear hbo
              have m0 := cell_keep ((below_step hb hB).alloc (below_step hb hB).size (.cells #[.int .i64 x, .int .i64 y] HpT)) (World.block_lt_of_cell? _ _ d0) d0
              have m1 := cell_keep ((below_step hb hB).alloc (below_step hb hB).size (.cells #[.int .i64 x, .int .i64 y] HpT)) (World.block_lt_of_cell? _ _ d1) d1
              obtain ⟨⟨x0, y0⟩, hs⟩ : ∃ q, l.getD j (0, 0) = q := ⟨_, rfl⟩
              rw [hs] at m0 m1
              have HS := Lib.hid hs
              clear hs d0 d1
              have hwj : IntKind.i64.wrap (j : Int) = j := wrap64_in _ (by omega) (by omega)
              have hjI : (j : Int) < (N : Int) := by omega
              have hjN : j < N := by omega
              have hkJ : (j : Int) + 1 < (N : Int) := by omega
              have hkT : ((j : Int) + 1).toNat = j + 1 := by omega
              have hk0 : (0 : Int) ≤ (j : Int) + 1 := by omega
              have hk1 : (0 : Int) < (j : Int) + 1 := by omega
              by_cases hneg : x ≤ x0
              · have HF := Lib.hid (ascH_no (by rw [← HN.out]; exact hlt) HS.out HX.out (by omega))
                go_wp2_with fail
                have Dh1 : decide (x < 0) = false := decide_eq_false (by omega)
                have Dh2 : decide (8 ≤ x) = false := decide_eq_false (by omega)
                have Dh3 : decide (y < 1) = false := decide_eq_false (by omega)
                have Dh4 : decide (16 < y) = false := decide_eq_false (by omega)
                have Dhneg : decide (x ≤ x0) = true := decide_eq_true (by omega)
                have Dk1 := decide_eq_true hk1
                refine wp_region_class (C := Over ((wr.alloc (.cells #[.int .i64 x, .int .i64 y] HpT)))) (by kernel_rfl) (by kernel_rfl) (over_drew _) ?_
                repeat (first | go_big_quiet_skip | (go_big_quiet_want; go_big_quiet_op; (try simp only [Dh1, Dh2, Dh3, Dh4, Dhneg, Dk1]); go_big_quiet_on) | (go_big_quiet_want; apply Exists.intro; refine ⟨fun w' hC => ?_, ?_⟩; (have k0 := over_cell hC bA.lt (bA.c 2 rfl); have k1 := over_cell hC bP.lt (bP.c 0 rfl); have k2 := over_cell hC bP.lt (bP.c 1 rfl); have k3 := over_cell hC (World.block_lt_of_cell? _ _ m0) m0; have k4 := over_cell hC (World.block_lt_of_cell? _ _ m1) m1; simp [Oper.quietAt, Oper.quietUpon, go_sem, k0, k1, k2, k3, k4, hltI, hlt, h1, h2, h3, h4, hwj, hjI, hjN, hkJ, hkT, hk0, hk1, hneg]; first | done | rfl); go_big_quiet_on; simp only [Act.put, List.setIfInBounds_toArray, List.set_cons_zero, List.set_cons_succ]))
                refine wpQuiet_nil ?_
                intro ws hC
                have k0 := over_cell hC bA.lt (bA.c 2 rfl)
                have k1 := over_cell hC bP.lt (bP.c 0 rfl)
                have k2 := over_cell hC bP.lt (bP.c 1 rfl)
                have k3 := over_cell hC (World.block_lt_of_cell? _ _ m0) m0
                have k4 := over_cell hC (World.block_lt_of_cell? _ _ m1) m1
                go_wp2
                go_ret
                exact ⟨ret_bool (by rw [HF.out, Bool.and_false]), below_step hB0 (over_step hB2 hC)⟩
              · have HUP : Hid (∀ i, i + 1 < j + 1 + 1 → upH l i) := Lib.hid fun i hi => by
                  by_cases e : i = j
                  · unfold upH; rw [e, HS.out, HX.out]; show x0 < x; omega
                  · exact HU.out i (by omega)
                go_wp2_with fail
                have Dh1 : decide (x < 0) = false := decide_eq_false (by omega)
                have Dh2 : decide (8 ≤ x) = false := decide_eq_false (by omega)
                have Dh3 : decide (y < 1) = false := decide_eq_false (by omega)
                have Dh4 : decide (16 < y) = false := decide_eq_false (by omega)
                have Dhneg : decide (x ≤ x0) = false := decide_eq_false (by omega)
                have Dk1 := decide_eq_true hk1
                refine wp_region_class (C := Over ((wr.alloc (.cells #[.int .i64 x, .int .i64 y] HpT)))) (by kernel_rfl) (by kernel_rfl) (over_drew _) ?_
                repeat (first | go_big_quiet_skip | (go_big_quiet_want; go_big_quiet_op; (try simp only [Dh1, Dh2, Dh3, Dh4, Dhneg, Dk1]); go_big_quiet_on) | (go_big_quiet_want; apply Exists.intro; refine ⟨fun w' hC => ?_, ?_⟩; (have k0 := over_cell hC bA.lt (bA.c 2 rfl); have k1 := over_cell hC bP.lt (bP.c 0 rfl); have k2 := over_cell hC bP.lt (bP.c 1 rfl); have k3 := over_cell hC (World.block_lt_of_cell? _ _ m0) m0; have k4 := over_cell hC (World.block_lt_of_cell? _ _ m1) m1; simp [Oper.quietAt, Oper.quietUpon, go_sem, k0, k1, k2, k3, k4, hltI, hlt, h1, h2, h3, h4, hwj, hjI, hjN, hkJ, hkT, hk0, hk1, hneg]; first | done | rfl); go_big_quiet_on; simp only [Act.put, List.setIfInBounds_toArray, List.set_cons_zero, List.set_cons_succ]))
                refine wpQuiet_nil ?_
                intro ws hC
                have k0 := over_cell hC bA.lt (bA.c 2 rfl)
                have k1 := over_cell hC bP.lt (bP.c 0 rfl)
                have k2 := over_cell hC bP.lt (bP.c 1 rfl)
                have k3 := over_cell hC (World.block_lt_of_cell? _ _ m0) m0
                have k4 := over_cell hC (World.block_lt_of_cell? _ _ m1) m1
                go_wp2
                go_roundw
                case rel => exact ⟨j + 1 + 1, by omega, by go_num, HOK.out, HUP.out, over_step hB2 hC⟩
                case measure => simp [intOf]; omega
        · have hkn : k = N := by omega
          rw [hkn] at HO HU ⊢
          have HF := Lib.hid (And.intro (allH_yes HN.out HO.out) (ascH_yes HN.out HU.out))
          clear hc
          have hnI : ¬ (N : Int) < (N : Int) := by omega
          go_wp2
          go_ret
          exact ⟨ret_bool (by rw [HF.out.1, HF.out.2]; rfl), below_step hB0 hB⟩
    · rw [show decide ((N : Int) ≤ 4) = false by simp [hbig]]
      have hb4 : (4 : Int) < (N : Int) := by omega
      go_enter Try.func77, Try.ntmps77
      go_wp2_with fail
      refine (spok_t _ HP).mono ?_
      rintro e w1 ⟨rfl, hb⟩
      replace bA := bA.keep hb
      replace B0 := below_step B0 hb
      have a2 := bA.c 2 rfl
      go_wp2
      go_ret
      exact ⟨rfl, B0⟩
theorem sgrp_t {hv : Value} {l : List (Int × Int)} {a n : Int} {b : Bool} (w : World) (h : RdP w hv l) (H : Hid (grpB a n l = b)) :
    Calls Try.prog 77 #[.agg #[.int .i64 a, .int .i64 n, hv]] w fun e w' => e = .returned (.bool b) ∧ Below w.heap.size w w' := H.out ▸ sgrp_any hv l a n w h
end Go.Proofs.Ytbcmoofpgffbhaa
