/-
  Bandwidths that the model draws; facts on weights; the laws' comparison of two lists of numbers. Conditions: those in each contract.
-/
import Derived.Test.YtgelmpojbaiddaaH0
import Derived.Test.YtgelmpojbaiddaaGW
namespace Go.Proofs.Ytgelmpojbaiddaa
open Go.ChangeShapes Go.WideShapes Go.ChangeAt Go.RowKit Go.BigFrame Go.Joins
set_option linter.unusedVariables false
set_option maxRecDepth 100000
set_option linter.unusedSimpArgs false
set_option maxRecDepth 100000

theorem Cur.other {V w w' : World} {g : Nat} {v : Value} {l : List Int} {row : Option Nat} (h : Cur V w g v l) (hg : w.grownBy w' row) (hne : some g ≠ row) (hr : ∀ k, row = some k → V.heap.size ≤ k) : Cur V w' g v l := by
  obtain ⟨i, hi, c1⟩ := h.c1
  obtain ⟨q, c2⟩ := h.c2
  exact ⟨h.rd, Below.grown h.over hg h.over.size hr, h.hg, Nat.lt_of_lt_of_le h.lt hg.size, h.len, hg.cell h.c0 hne, ⟨i, hi, hg.cell c1 hne⟩, ⟨q, hg.cell c2 hne⟩, (hg.frozen_far _ h.lt hne).trans h.f1, (hg.frozen_far _ h.lt hne).trans h.f2⟩
theorem mem_lit {x : Int} {zs : List Int} {n : Nat} (h : ∃ i : Nat, i < n ∧ x = zs.getD i 0) (hn : n = zs.length) : x ∈ zs := by
  obtain ⟨i, hi, rfl⟩ := h
  have e : zs.getD i 0 = zs[i] := by simp [List.getD, show i < zs.length by omega]
  rw [e]
  exact List.getElem_mem _
set_option maxHeartbeats 1000000 in
theorem drawW_any (v : Value) (l : List Int) (w : World) (hr : Rd w v l) :
    Calls Try.prog 26 #[v] w fun e w' => ∃ u, e = .returned u ∧ ∃ m, m.length ≤ 5 ∧ (∀ x ∈ m, -9223372036854775808 ≤ x ∧ x ≤ 9223372036854775807) ∧ OwnI w' w.heap.size u m ∧ Below w.heap.size w w' := by
  go_enter Try.func26, Try.ntmps26
  go_wp2_with fail
  refine (new_any v l _ hr).mono ?_
  rintro e w1 ⟨g, rfl, cu1⟩
  have hwg := cu1.hg
  have hg1 := cu1.lt
  go_wp2_with fail
  refine (pick_any w g v l (fun i => [0, 1, 2, 3, 4, 4, 5].getD i 0) 7 w1.heap.size _ (cu1.alloc _) (by decide) (by decide) (by omega) (by simp) (lit_cells _ [0, 1, 2, 3, 4, 4, 5] _ _ rfl)).mono ?_
  rintro e w2 ⟨n, rfl, hn, cu2, hg2⟩
  have hn5 : 0 ≤ n ∧ n ≤ 5 := by
    have := mem_lit hn rfl
    simp at this
    omega
  have hs2 := hg2.size
  clear hn cu1
  obtain ⟨N, rfl⟩ := Int.eq_ofNat_of_zero_le hn5.1
  have hN5 : N ≤ 5 := by omega
  have hB2 : w.heap.size ≤ w2.heap.size := by simp at hs2; omega
  have hgB : g < w2.heap.size := cu2.lt
  clear hg2 hs2
  go_wp2
  go_loopw [4, 6] (fun lv q wr => ∃ m : List Int, m.length ≤ N ∧ q = .int .i64 m.length ∧ OwnI wr w2.heap.size lv m ∧ (∀ x ∈ m, -9223372036854775808 ≤ x ∧ x ≤ 9223372036854775807) ∧ Cur w wr g v l ∧ w2.heap.size ≤ wr.heap.size) (fun _ q _ => N - (intOf q).toNat)
  case atStart => exact ⟨[], Nat.zero_le _, rfl, World.ownsRow_nil _ _ _ _, by simp, cu2, Nat.le_refl _⟩
  case round =>
    clear cu2
    obtain ⟨m, hm, rfl, hown, hbd, cu, hsz⟩ := hrel
    have HBD := Lib.hid hbd
    clear hbd
    by_cases hlt : m.length < N
    · have hltI : (m.length : Int) < (N : Int) := by omega
      obtain ⟨M, hM⟩ : ∃ M, m.length = M := ⟨_, rfl⟩
      rw [hM] at hm hlt hltI ⊢
      have HM := Lib.hid hM
      clear hM
      go_wp2_with fail
      refine (pick_any w g v l (fun i => [0, 1, 10, 40, 1000, 1001, -1, 10, 40].getD i 0) 9 wr.heap.size _ (cu.alloc _) (by decide) (by decide) (by omega) (by simp) (lit_cells _ [0, 1, 10, 40, 1000, 1001, -1, 10, 40] _ _ rfl)).mono ?_
      rintro e w3 ⟨x, rfl, hx, cu3, hg3⟩
      have hxb : -9223372036854775808 ≤ x ∧ x ≤ 9223372036854775807 := by
        have := mem_lit hx rfl
        simp at this
        omega
      have HXB := Lib.hid hxb
      have ho3 := (hown.alloc (.cells (([0, 1, 10, 40, 1000, 1001, -1, 10, 40] : List Int).map (Value.int .i64)).toArray IT)).kept hg3 (by
        cases hv : Value.ownBlock _ with
        | none => exact .inl rfl
        | some k => exact .inr (by have := (World.ownsRow.lt hown k hv).1; intro e; cases e; omega))
      have hs3 : w2.heap.size ≤ w3.heap.size := by have := hg3.size; simp at this; omega
      clear hx hxb hg3 hown cu
      go_wp2_with (at_builtin; refine Hid.out ?_)
      refine Lib.hid ?_
      have hlit := own_lit1_I w3 x w3.heap.size rfl
      refine wp_appI rfl _ _ rfl w2.heap.size _ _ m [x] rfl rfl (ho3.alloc _) (hlit.rd (by intro z hz; rw [List.mem_singleton.1 hz]; exact HXB.out)) (by have := HM.out; simp; omega) (Nat.le_trans hs3 (by simp)) ?_
      intro v4 w4 o4 g4
      have cu4 := (cu3.alloc (.cells #[.int .i64 x] IT)).other g4 (by
        intro e
        have := (World.ownsRow.lt ho3 g e.symm).1
        omega) (fun k hk => by have := (World.ownsRow.lt ho3 k hk).1; omega)
      have hs4 : w2.heap.size ≤ w4.heap.size := by have := g4.size; simp at this; omega
      clear g4 hlit ho3 cu3
      go_wp2
      go_roundw
      case rel => exact ⟨m ++ [x], by have := HM.out; simp; omega, by have := HM.out; simp [this], o4, fun z hz => by
        rcases List.mem_append.1 hz with q | q
        · exact HBD.out z q
        · rw [List.mem_singleton.1 q]; exact HXB.out, cu4, hs4⟩
      case measure => simp [intOf]; omega
    · have hltI : ¬ (m.length : Int) < (N : Int) := by omega
      go_wp2
      go_ret
      exact ⟨_, rfl, m, by omega, HBD.out, hown.mono hB2, cu.over⟩
theorem wsh_le {S x : Int} (h0 : 0 ≤ x) (h1 : x ≤ S) (hS : 0 < S) : wsh S x ≤ 16 := by
  unfold wsh
  rw [Int.tdiv_eq_ediv_of_nonneg (by omega)]
  split
  · omega
  · have : x * 16 / S ≤ 16 * S / S := Int.ediv_le_ediv hS (by omega)
    rwa [Int.mul_ediv_cancel _ (by omega)] at this
theorem wsh_one (S x : Int) : 1 ≤ wsh S x := by
  unfold wsh
  split <;> omega
theorem wsh_mono {S x y : Int} (h0 : 0 ≤ x) (h1 : x ≤ y) (hS : 0 < S) : wsh S x ≤ wsh S y := by
  unfold wsh
  rw [Int.tdiv_eq_ediv_of_nonneg (by omega), Int.tdiv_eq_ediv_of_nonneg (by omega)]
  have : x * 16 / S ≤ y * 16 / S := Int.ediv_le_ediv hS (by omega)
  split <;> split <;> omega
theorem wsh_mul {S x : Int} (h0 : 0 ≤ x) (hS : 0 < S) : S * wsh S x ≤ 16 * x + S := by
  unfold wsh
  rw [Int.tdiv_eq_ediv_of_nonneg (by omega)]
  split
  · omega
  · have := Int.mul_ediv_self_le (x := x * 16) (k := S) (by omega)
    omega
theorem shares_le {S : Int} (hS : 0 < S) : ∀ l : List Int, (∀ x ∈ l, 0 ≤ x) → S * (l.map (wsh S)).sum ≤ 16 * l.sum + S * l.length
  | [], _ => by simp
  | x :: l, h => by
    have h1 := shares_le hS l (fun y hy => h y (List.mem_cons_of_mem _ hy))
    have h2 := wsh_mul (h x (List.mem_cons_self ..)) hS
    rw [List.map_cons, List.sum_cons, List.sum_cons, List.length_cons, Int.mul_add, Int.mul_add, show ((l.length + 1 : Nat) : Int) = (l.length : Int) + 1 by omega, Int.mul_add]
    omega
theorem bw_mem {l : List Int} (h : bwB l = true) : ∀ x ∈ l, 0 ≤ x ∧ x ≤ 1000 := by
  intro x hx
  obtain ⟨i, hi, rfl⟩ := List.getElem_of_mem hx
  have e : l.getD i 0 = l[i] := by simp [List.getD, hi]
  have := bwB_at h i hi
  rwa [e] at this
theorem ones_sum : ∀ l : List Int, (l.map fun _ => (1 : Int)).sum = l.length
  | [] => rfl
  | x :: l => by rw [List.map_cons, List.sum_cons, ones_sum l, List.length_cons]; omega
theorem sum_pos {l : List Int} (h : bwB l = true) (h0 : ¬ (0 : Int) ∈ l) (hn : 0 < l.length) : 0 < l.sum := by
  have h1 := sum_elt h hn
  have h2 := bwB_at h 0 hn
  have e : l.getD 0 0 = l[0] := by simp [List.getD, hn]
  have h3 : l.getD 0 0 ≠ 0 := by
    intro q
    rw [e] at q
    exact h0 (q ▸ List.getElem_mem hn)
  omega
theorem wts_sum {l : List Int} (h : bwB l = true) (hn : 0 < l.length) : (wtsL l).sum ≤ 16 + l.length := by
  unfold wtsL
  by_cases h0 : (0 : Int) ∈ l
  · have e : (l.map (wtAt (decide ((0 : Int) ∈ l)) l.sum)) = l.map fun _ => (1 : Int) := by simp [wtAt, h0]
    rw [e, ones_sum]
    omega
  · have e : (l.map (wtAt (decide ((0 : Int) ∈ l)) l.sum)) = l.map (wsh l.sum) := by simp [wtAt, h0]
    have hS := sum_pos h h0 hn
    have h1 := shares_le hS l (fun x hx => (bw_mem h x hx).1)
    rw [e]
    have h2 : l.sum * (l.map (wsh l.sum)).sum ≤ l.sum * (16 + l.length) := by
      rw [Int.mul_add, Int.mul_comm l.sum 16]
      exact h1
    exact Int.le_of_mul_le_mul_left h2 hS
theorem wts_get {l : List Int} {i : Nat} (hi : i < l.length) : (wtsL l).getD i 0 = wtAt (decide ((0 : Int) ∈ l)) l.sum (l.getD i 0) := by
  simp [wtsL, List.getD, hi]
theorem wts_at {l : List Int} (h : bwB l = true) {i : Nat} (hi : i < l.length) : 1 ≤ (wtsL l).getD i 0 ∧ (wtsL l).getD i 0 ≤ 16 := by
  rw [wts_get hi]
  unfold wtAt
  split
  · omega
  · rename_i h0
    have h0' : ¬ (0 : Int) ∈ l := by simpa using h0
    exact ⟨wsh_one _ _, wsh_le (bwB_at h i hi).1 (sum_elt h hi) (sum_pos h h0' (by omega))⟩
theorem wts_mono {l : List Int} (h : bwB l = true) {i k : Nat} (hi : i < l.length) (hk : k < l.length) (hlt : l.getD k 0 < l.getD i 0) : ¬ (wtsL l).getD i 0 < (wtsL l).getD k 0 := by
  rw [wts_get hi, wts_get hk]
  unfold wtAt
  split
  · omega
  · rename_i h0
    have h0' : ¬ (0 : Int) ∈ l := by simpa using h0
    have := wsh_mono (bwB_at h k hk).1 (Int.le_of_lt hlt) (sum_pos h h0' (by omega))
    omega
theorem wts_sums {l : List Int} (h : bwB l = true) : ∀ k, k ≤ l.length → 0 ≤ ((wtsL l).take k).sum ∧ ((wtsL l).take k).sum ≤ 16 * k
  | 0, _ => by simp
  | k + 1, hk => by
    have h1 := wts_sums h k (by omega)
    have h2 := wts_at h (i := k) (by omega)
    rw [sum_take (by rw [wtsL_len]; omega)]
    omega
/-- the weights are those, or there is none -/
theorem wei_cases (l : List Int) : weiL l = [] ∨ (weiL l = wtsL l ∧ bwB l = true ∧ 0 < l.length ∧ l.length ≤ 4) := by
  unfold weiL
  split
  · rename_i h
    simp only [Bool.and_eq_true, decide_eq_true_eq] at h
    by_cases h0 : l.length = 0
    · exact .inl (by rw [List.eq_nil_of_length_eq_zero h0]; rfl)
    · exact .inr ⟨rfl, h.1, by omega, h.2⟩
  · exact .inl rfl
theorem sameI_same (v u : Value) (l : List Int) (w : World) (h1 : RdI w v l) (h2 : RdI w u l) :
    Calls Try.prog 27 #[v, u] w fun e w' => e = .returned (.bool true) ∧ Below w.heap.size w w' := by
  have hm : l.length ≤ 9223372036854775807 := by have := h1.2.1; unfold maxLen at this; omega
  obtain ⟨a, c, rfl, hc⟩ := h1.elW
  obtain ⟨a', c', rfl, hc'⟩ := h2.elW
  obtain ⟨n, hn⟩ : ∃ n, n = l.length := ⟨_, rfl⟩
  rw [← hn] at hc hc' hm ⊢
  clear hn h1 h2
  have hnn : ((n : Int) != (n : Int)) = false := by simp
  go_enter Try.func27, Try.ntmps27
  go_wp2
  go_loopw [5] (fun i wr => ∃ k : Nat, k ≤ n ∧ i = .int .i64 k ∧ Below w.heap.size w wr) (fun i _ => n - (intOf i).toNat)
  case atStart => exact ⟨0, Nat.zero_le _, rfl, Below.refl _ _⟩
  case round =>
    obtain ⟨k, hk, rfl, hB⟩ := hrel
    by_cases hlt : k < n
    · have hltI : (k : Int) < (n : Int) := by omega
      obtain ⟨b, o, rfl, d0⟩ := hc k hlt
      obtain ⟨b', o', rfl, d1⟩ := hc' k hlt
      have g0 := cell_keep hB (World.block_lt_of_cell? w _ d0) d0
      have m0 := cell_keep hB (World.block_lt_of_cell? w _ d1) d1
      obtain ⟨x, hx⟩ : ∃ x, l.getD k 0 = x := ⟨_, rfl⟩
      rw [hx] at g0 m0
      have hxx : (x != x) = false := by simp
      clear hx hc hc' d0 d1
      go_wp2_with fail
      refine wp_region_class (C := Over (wr)) (by kernel_rfl) (by kernel_rfl) (over_drew _) ?_
      repeat (first | go_big_quiet_skip | (go_big_quiet_want; go_big_quiet_op; go_big_quiet_on) | (go_big_quiet_want; apply Exists.intro; refine ⟨fun w' hC => ?_, ?_⟩; (have k0 := over_cell hC (World.block_lt_of_cell? _ _ g0) g0; have k1 := over_cell hC (World.block_lt_of_cell? _ _ m0) m0; simp [Oper.quietAt, Oper.quietUpon, go_sem, k0, k1, hltI, hlt, hxx]; first | done | rfl); go_big_quiet_on; simp only [Act.put, List.setIfInBounds_toArray, List.set_cons_zero, List.set_cons_succ]))
      refine wpQuiet_nil ?_
      intro ws hC
      have k0 := over_cell hC (World.block_lt_of_cell? _ _ g0) g0
      have k1 := over_cell hC (World.block_lt_of_cell? _ _ m0) m0
      go_wp2
      go_roundw
      case rel => exact ⟨k + 1, by omega, by go_num, below_step hB hC⟩
      case measure => simp [intOf]; omega
    · have hltI : ¬ (k : Int) < (n : Int) := by omega
      clear hc hc'
      go_wp2
      go_ret
      exact ⟨rfl, hB⟩
end Go.Proofs.Ytgelmpojbaiddaa
