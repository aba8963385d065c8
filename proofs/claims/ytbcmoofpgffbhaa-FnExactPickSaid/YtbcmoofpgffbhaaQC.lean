/-
  Pick of the model and of the program. Conditions: those in each contract.
-/
import Derived.Test.YtbcmoofpgffbhaaQB
namespace Go.Proofs.Ytbcmoofpgffbhaa
open Go.ChangeShapes Go.WideShapes Go.ChangeAt Go.RowKit Go.BigFrame Go.Joins
set_option linter.unusedVariables false
set_option maxRecDepth 100000
set_option linter.unusedSimpArgs false
set_option maxRecDepth 100000

/-- the weights of the first k hops -/
def sumW (l : List (Int × Int)) (k : Nat) : Int := ((l.take k).map (·.2)).sum
theorem sumW_succ {l : List (Int × Int)} {k : Nat} (h : k < l.length) : sumW l (k + 1) = sumW l k + (l.getD k (0, 0)).2 := by
  unfold sumW
  rw [List.take_succ_eq_append_getElem h, List.map_append, List.sum_append]
  simp [List.getD, h]
theorem w_bd {a n : Int} {l : List (Int × Int)} (h : grpB a n l = true) : l.length ≤ 4 ∧ ∀ i, i < l.length → 1 ≤ (l.getD i (0, 0)).2 ∧ (l.getD i (0, 0)).2 ≤ 16 := by
  unfold grpB at h
  simp only [Bool.and_eq_true, decide_eq_true_eq] at h
  refine ⟨by omega, fun i hi => ?_⟩
  have h2 := of_decide_eq_true h.2.2.1 i hi
  unfold okH at h2
  simp only [Bool.and_eq_true] at h2
  have h3 := h2.2
  unfold inB at h3
  simpa using h3
theorem sumW_bd {l : List (Int × Int)} (h : ∀ i, i < l.length → 1 ≤ (l.getD i (0, 0)).2 ∧ (l.getD i (0, 0)).2 ≤ 16) : ∀ k, k ≤ l.length → (k : Int) ≤ sumW l k ∧ sumW l k ≤ 16 * (k : Int)
  | 0, _ => by simp [sumW]
  | k + 1, hk => by
    have h1 := sumW_bd h k (by omega)
    have h2 := h k (by omega)
    rw [sumW_succ (by omega)]
    omega
theorem sumW_lt {l : List (Int × Int)} (h : ∀ i, i < l.length → 1 ≤ (l.getD i (0, 0)).2 ∧ (l.getD i (0, 0)).2 ≤ 16) {i : Nat} : ∀ j, i < j → j ≤ l.length → sumW l i < sumW l j
  | 0, h0, _ => absurd h0 (by omega)
  | j + 1, hij, hj => by
    have h2 := h j (by omega)
    rw [sumW_succ (by omega)]
    by_cases e : i = j
    · subst e; omega
    · have := sumW_lt h (i := i) j (by omega) (by omega)
      omega
/-- the hop among the first k that a number picks -/
def pickJ (l : List (Int × Int)) (n : Int) : Nat → Option Nat
  | 0 => none
  | k + 1 => match pickJ l n k with
    | some j => some j
    | none => if decide (n < sumW l (k + 1)) then some k else none
def pickV (l : List (Int × Int)) (n : Int) : Int := match pickJ l n l.length with | some j => (l.getD j (0, 0)).1 | none => -1
theorem pickJ_none {l : List (Int × Int)} {n : Int} : ∀ {k}, (∀ i, i < k → sumW l (i + 1) ≤ n) → pickJ l n k = none
  | 0, _ => rfl
  | k + 1, h => by
    have h1 := pickJ_none (k := k) fun i hi => h i (by omega)
    have h2 := h k (by omega)
    unfold pickJ
    rw [h1, decide_eq_false (by omega)]
    rfl
theorem pickJ_keep {l : List (Int × Int)} {n : Int} {j : Nat} : ∀ k m, k ≤ m → pickJ l n k = some j → pickJ l n m = some j
  | k, 0, h, hj => by rw [Nat.le_zero.1 h] at hj; exact hj
  | k, m + 1, h, hj => by
    by_cases e : k = m + 1
    · rw [← e]; exact hj
    · have h1 := pickJ_keep k m (by omega) hj
      unfold pickJ
      rw [h1]
theorem pickV_at {l : List (Int × Int)} {n : Int} {k : Nat} (hk : k < l.length) (h : ∀ i, i < k → sumW l (i + 1) ≤ n) (hn : n < sumW l (k + 1)) : pickV l n = (l.getD k (0, 0)).1 := by
  have e : pickJ l n l.length = some k := by
    refine pickJ_keep (k + 1) _ hk ?_
    unfold pickJ
    rw [pickJ_none h, decide_eq_true hn]
    rfl
  unfold pickV
  rw [e]
def numH (l : List (Int × Int)) (h : Int) : Int := (bits .and .i64 h 65535).tmod (sumW l l.length)
/-- what Pick answers -/
def pickF (a n : Int) (l : List (Int × Int)) (h : Int) : Int := if grpB a n l = true then (if l.length = 0 then -1 else pickV l (numH l h)) else -1
theorem pickF_no {a n : Int} {l : List (Int × Int)} {h : Int} (q : grpB a n l = false) : pickF a n l h = -1 := by unfold pickF; rw [q]; rfl
theorem pickF_nil {a n : Int} {l : List (Int × Int)} {h : Int} (q : l.length = 0) : pickF a n l h = -1 := by unfold pickF; rw [if_pos q]; split <;> rfl
theorem pickF_yes {a n : Int} {l : List (Int × Int)} {h : Int} (q : grpB a n l = true) (k : l.length ≠ 0) : pickF a n l h = pickV l (numH l h) := by unfold pickF; rw [if_pos q, if_neg k]
theorem numH_bd {l : List (Int × Int)} {h : Int} (hs : 0 < sumW l l.length) : - sumW l l.length < numH l h ∧ numH l h < sumW l l.length := ⟨Int.lt_tmod_of_pos _ hs, Int.tmod_lt_of_pos _ hs⟩
set_option maxHeartbeats 2000000 in
theorem sl7pick_any (hv : Value) (l : List (Int × Int)) (a n h : Int) (w : World) (hr : RdP w hv l) (hg : grpB a n l = true) :
    Calls Try.prog 78 #[.agg #[.int .i64 a, .int .i64 n, hv], .int .i64 h] w fun e w' => e = .returned (.int .i64 (pickF a n l h)) ∧ Below w.heap.size w w' := by
  obtain ⟨x, c, rfl, hc⟩ := hr.el
  have hwb := w_bd hg
  have hsb := sumW_bd hwb.2
  obtain ⟨m, hm⟩ : ∃ m, m = l.length := ⟨_, rfl⟩
  rw [← hm] at hc
  have hm4 : m ≤ 4 := by omega
  rw [← hm]
  have HN := Lib.hid hm
  have HSB := Lib.hid hsb
  have HWB := Lib.hid hwb
  have HG := Lib.hid hg
  obtain ⟨A0, hA0⟩ : ∃ A, bits .and .i64 h 65535 = A := ⟨_, rfl⟩
  have HA0 := Lib.hid hA0
  clear hr hm hsb hwb hg
  obtain ⟨bA, B0, z⟩ := one w [.int .i64 a, .int .i64 n, .slice x m c] GI
  go_enter Try.func78, Try.ntmps78
  go_wp2
  obtain ⟨W1, hW⟩ : ∃ W1, W1 = w.alloc (.cells #[.int .i64 a, .int .i64 n, .slice x m c] GI) := ⟨_, rfl⟩
  rw [← hW] at bA B0 z ⊢
  obtain ⟨A, hA⟩ : ∃ A, A = w.heap.size := ⟨_, rfl⟩
  rw [← hA] at bA
  try rw [← hA]
  clear hW hA z
  go_loopw [5, 6] (fun s q wr => ∃ k : Nat, k ≤ m ∧ q = .int .i64 k ∧ s = .int .i64 (sumW l k) ∧ Bl wr A [.int .i64 a, .int .i64 n, .slice x m c] ∧ Below w.heap.size w wr) (fun _ q _ => m - (intOf q).toNat)
  case atStart => exact ⟨0, Nat.zero_le _, rfl, by simp [sumW], bA, B0⟩
  case round =>
    clear bA B0
    obtain ⟨k, hk, rfl, rfl, bA, hB⟩ := hrel
    have r2 := bA.c 2 rfl
    by_cases hlt : k < m
    · have hltI : (k : Int) < (m : Int) := by omega
      obtain ⟨b, o, rfl, d0, d1⟩ := hc k hlt
      obtain ⟨⟨y, t⟩, hx⟩ : ∃ q, l.getD k (0, 0) = q := ⟨_, rfl⟩
      rw [hx] at d0 d1
      have g1 := cell_keep hB (World.block_lt_of_cell? w _ d1) d1
      have hs := sumW_succ (l := l) (k := k) (by rw [← HN.out]; exact hlt)
      rw [hx] at hs
      dsimp only at hs g1
      have hb1 := HSB.out (k + 1) (by rw [← HN.out]; omega)
      obtain ⟨u, hu⟩ : ∃ u, u = sumW l k := ⟨_, rfl⟩
      have hw1 : IntKind.i64.wrap (u + t) = u + t := wrap64_in _ (by rw [hu, ← hs]; omega) (by rw [hu, ← hs]; omega)
      have HS : Hid (sumW l (k + 1) = u + t) := Lib.hid (by rw [hs, hu])
      have HCC := Lib.hid hc
      rw [← hu]
      clear hs hb1 hu hx hc d0 d1
      go_wp2
      go_roundw
      case rel => exact ⟨k + 1, by omega, by go_num, by rw [HS.out], bA, hB⟩
      case measure => simp [intOf]; omega
    · obtain rfl : k = m := by omega
      by_cases h0 : k = 0
      · have HF := Lib.hid (pickF_nil (a := a) (n := n) (h := h) (l := l) (by rw [← HN.out]; exact h0))
        have hz : sumW l k = 0 := by rw [h0]; simp [sumW]
        rw [hz]
        clear hc h0 hz hlt
        go_wp2
        go_ret
        exact ⟨ret_int HF.out.symm, hB⟩
      · obtain ⟨u, hu⟩ : ∃ u, u = sumW l k := ⟨_, rfl⟩
        have hub := HSB.out k (by rw [← HN.out]; omega)
        rw [← hu] at hub ⊢
        have hu0 : (u == 0) = false := by simp; omega
        have hu1 : ¬ u = 0 := by omega
        obtain ⟨N0, hN0⟩ : ∃ N, N = A0.tmod u := ⟨_, rfl⟩
        have hnum : numH l h = N0 := by unfold numH; rw [HA0.out, ← HN.out, ← hu, hN0]
        have hnb := numH_bd (l := l) (h := h) (by rw [← HN.out, ← hu]; omega)
        rw [hnum, ← HN.out, ← hu] at hnb
        have hw1 : IntKind.i64.wrap (A0.tmod u) = N0 := by rw [← hN0]; exact wrap64_in _ (by omega) (by omega)
        have HNB := Lib.hid hnb
        have HU := Lib.hid hu
        have HNUM := Lib.hid hnum
        have HN0 := Lib.hid hN0
        have H0 := Lib.hid h0
        have HUB := Lib.hid hub
        clear hu hN0 hnum hnb hub h0 hlt hk
        go_wp2
        go_loopw [7, 8] (fun s q wr => ∃ i : Nat, i ≤ k ∧ q = .int .i64 i ∧ s = .int .i64 (N0 - sumW l i) ∧ (∀ j, j < i → sumW l (j + 1) ≤ N0) ∧ Bl wr A [.int .i64 a, .int .i64 n, .slice x k c] ∧ Below w.heap.size w wr) (fun _ q _ => k - (intOf q).toNat)
        case atStart => exact ⟨0, Nat.zero_le _, rfl, by simp [sumW, HN0.out], fun j hj => by omega, bA, hB⟩
        case round =>
          clear bA hB
          obtain ⟨i, hi, rfl, rfl, hall, bA, hB⟩ := hrel
          have HALL := Lib.hid hall
          clear hall
          have r2 := bA.c 2 rfl
          by_cases hlt : i < k
          · have hltI : (i : Int) < (k : Int) := by omega
            obtain ⟨b, o, rfl, d0, d1⟩ := hc i hlt
            obtain ⟨⟨y, t⟩, hx⟩ : ∃ q, l.getD i (0, 0) = q := ⟨_, rfl⟩
            rw [hx] at d0 d1
            dsimp only at d0 d1
            have g0 := cell_keep hB (World.block_lt_of_cell? w _ d0) d0
            have g1 := cell_keep hB (World.block_lt_of_cell? w _ d1) d1
            have hs := sumW_succ (l := l) (k := i) (by rw [← HN.out]; exact hlt)
            rw [hx] at hs
            dsimp only at hs
            have hb1 := HSB.out (i + 1) (by rw [← HN.out]; omega)
            obtain ⟨s, hsu⟩ : ∃ u, u = N0 - sumW l i := ⟨_, rfl⟩
            have hst : s - t = N0 - sumW l (i + 1) := by omega
            have hw1 : IntKind.i64.wrap (s - t) = s - t := wrap64_in _ (by have := HNB.out; have := HUB.out; omega) (by have := HNB.out; have := HUB.out; omega)
            have HST := Lib.hid hst
            have HX := Lib.hid hx
            have HCC := Lib.hid hc
            rw [← hsu]
            by_cases hneg : s - t < 0
            · have HF : Hid (pickF a n l h = y) := Lib.hid (by
                rw [pickF_yes HG.out (by rw [← HN.out]; exact H0.out), HNUM.out, pickV_at (k := i) (by rw [← HN.out]; exact hlt) HALL.out (by omega), HX.out])
              clear hs hb1 hsu hst hx hc d0 d1
              go_wp2
              go_ret
              exact ⟨ret_int HF.out.symm, hB⟩
            · have HAL2 : Hid (∀ j, j < i + 1 → sumW l (j + 1) ≤ N0) := Lib.hid fun j hj => by
                by_cases e : j = i
                · subst e; omega
                · exact HALL.out j (by omega)
              clear hs hb1 hsu hst hx hc d0 d1
              go_wp2
              go_roundw
              case rel => exact ⟨i + 1, by omega, by go_num, by rw [HST.out], HAL2.out, bA, hB⟩
              case measure => simp [intOf]; omega
          · exfalso
            have h1 := HALL.out (i - 1) (by have := H0.out; omega)
            rw [show i - 1 + 1 = i by have := H0.out; omega, show i = k by omega, ← HU.out] at h1
            have := HNB.out
            omega
theorem sl7pick_t {hv : Value} {l : List (Int × Int)} {a n h r : Int} (w : World) (H : Hid (pickF a n l h = r)) (hr : RdP w hv l) (hg : grpB a n l = true) :
    Calls Try.prog 78 #[.agg #[.int .i64 a, .int .i64 n, hv], .int .i64 h] w fun e w' => e = .returned (.int .i64 r) ∧ Below w.heap.size w w' := H.out ▸ sl7pick_any hv l a n h w hr hg
theorem spick_any (hv : Value) (l : List (Int × Int)) (a n h : Int) (w : World) (hr : RdP w hv l) :
    Calls Try.prog 33 #[.agg #[.int .i64 a, .int .i64 n, hv], .int .i64 h] w fun e w' => e = .returned (.int .i64 (pickF a n l h)) ∧ Below w.heap.size w w' := by
  obtain ⟨x, c, rfl⟩ := hr.len
  obtain ⟨bA, B0, z⟩ := one w [.int .i64 a, .int .i64 n, .slice x l.length c] GI
  obtain ⟨g, hg⟩ : ∃ g, grpB a n l = g := ⟨_, rfl⟩
  have HG := Lib.hid hg
  obtain ⟨r, hrr⟩ : ∃ r, pickF a n l h = r := ⟨_, rfl⟩
  have HR := Lib.hid hrr
  rw [hrr]
  clear z hg hrr
  have a0 := bA.c 0 rfl
  have a1 := bA.c 1 rfl
  have a2 := bA.c 2 rfl
  go_enter Try.func33, Try.ntmps33
  go_wp2_with fail
  refine (sgrp_t _ (hr.keep B0) HG).mono ?_
  rintro e w1 ⟨rfl, hb⟩
  replace bA := bA.keep hb
  replace B0 := below_step B0 hb
  clear hb a0 a1 a2
  have a0 := bA.c 0 rfl
  have a1 := bA.c 1 rfl
  have a2 := bA.c 2 rfl
  cases g
  · have HF : Hid (-1 = r) := Lib.hid (by rw [← HR.out]; exact (pickF_no HG.out).symm)
    go_wp2
    go_ret
    exact ⟨ret_int HF.out, B0⟩
  · go_wp2_with fail
    refine (sl7pick_t _ HR (hr.keep B0) HG.out).mono ?_
    rintro e w2 ⟨rfl, hb⟩
    replace B0 := below_step B0 hb
    clear hb a0 a1 a2 bA
    go_wp2
    go_ret
    exact ⟨rfl, B0⟩
/-- the first k shares: ends and interfaces -/
def shL (l : List (Int × Int)) : Nat → List (Int × Int)
  | 0 => []
  | k + 1 => shL l k ++ [(sumW l (k + 1), (l.getD k (0, 0)).1)]
theorem shL_len (l : List (Int × Int)) : ∀ k, (shL l k).length = k
  | 0 => rfl
  | k + 1 => by rw [shL, List.length_append, shL_len l k]; rfl
theorem shL_at (l : List (Int × Int)) : ∀ k i, i < k → (shL l k).getD i (0, 0) = (sumW l (i + 1), (l.getD i (0, 0)).1)
  | 0, i, h => absurd h (by omega)
  | k + 1, i, h => by
    have hl := shL_len l k
    rw [shL, List.getD_eq_getElem?_getD]
    by_cases e : i = k
    · subst e
      rw [List.getElem?_append_right (by omega), hl]
      simp
    · rw [List.getElem?_append_left (by omega), ← List.getD_eq_getElem?_getD]
      exact shL_at l k i (by omega)
def cellsS (S : List (Int × Int)) : List Value := (flat S).map (Value.int .i64)
/-- how the queue lies when k have been taken -/
def stL (S : List (Int × Int)) (k : Nat) : List (Int × Int) := match S, k with
  | [_, b, c, d], 1 => [b, d, c]
  | S, k => S.drop k
theorem stL_0 (S : List (Int × Int)) : stL S 0 = S := by
  unfold stL
  split
  · rename_i h; cases h
  · rfl
theorem stL_head {S : List (Int × Int)} {k : Nat} (hk : k < S.length) (h4 : S.length ≤ 4) : ∃ r, stL S k = S.getD k (0, 0) :: r := by
  match S, k with
  | [a], 0 => exact ⟨_, rfl⟩
  | [a, b], 0 => exact ⟨_, rfl⟩
  | [a, b], 1 => exact ⟨_, rfl⟩
  | [a, b, c], 0 => exact ⟨_, rfl⟩
  | [a, b, c], 1 => exact ⟨_, rfl⟩
  | [a, b, c], 2 => exact ⟨_, rfl⟩
  | [a, b, c, d], 0 => exact ⟨_, rfl⟩
  | [a, b, c, d], 1 => exact ⟨_, rfl⟩
  | [a, b, c, d], 2 => exact ⟨_, rfl⟩
  | [a, b, c, d], 3 => exact ⟨_, rfl⟩
  | [], _ => exfalso; simp only [List.length_cons, List.length_nil] at hk; omega
  | [_], k + 1 => exfalso; simp only [List.length_cons, List.length_nil] at hk; omega
  | [_, _], k + 2 => exfalso; simp only [List.length_cons, List.length_nil] at hk; omega
  | [_, _, _], k + 3 => exfalso; simp only [List.length_cons, List.length_nil] at hk; omega
  | [_, _, _, _], k + 4 => exfalso; simp only [List.length_cons, List.length_nil] at hk; omega
  | _ :: _ :: _ :: _ :: _ :: _, _ => exfalso; simp only [List.length_cons, List.length_nil] at h4; omega
/-- one taken -/
theorem ihpop_st (b0 G g c : Nat) (S : List (Int × Int)) (k : Nat) (w : World) (hk : k + 1 < S.length) (h4 : S.length ≤ 4) (hasc : ∀ i j, i < j → j < S.length → (S.getD i (0, 0)).1 < (S.getD j (0, 0)).1) (hnc : S.length ≤ c) (hcm : c ≤ 9223372036854775807)
    (bG : Bl w G [.slice (some ⟨g, 0, none⟩) (S.length - k) c]) (bQ : ∃ zs, Bl w g (cellsS (stL S k) ++ zs)) (hne : G ≠ g) (hbG : b0 ≤ G) (hbg : b0 ≤ g) :
    Calls Try.prog 82 #[.iface QuP (.pointer (some ⟨G, 0, none⟩))] w fun e w' => (∃ v, e = .returned (.iface ShT v)) ∧ (∃ zs, Bl w' g (cellsS (stL S (k + 1)) ++ zs)) ∧ Bl w' G [.slice (some ⟨g, 0, none⟩) (S.length - (k + 1)) c] ∧ Fr b0 G g w w' := by
  obtain ⟨zs, bQ⟩ := bQ
  match S, k with
  | [a, b], 0 => exact (ihpop_2 b0 G g c a.1 a.2 b.1 b.2 zs w (by simpa using hnc) hcm bG bQ hne hbG hbg).mono fun e w' ⟨h1, h2, h3, h4⟩ => ⟨h1, ⟨.int .i64 a.1 :: .int .i64 a.2 :: zs, h2⟩, h3, h4⟩
  | [a, b, d], 0 => exact (ihpop_3t b0 G g c a.1 a.2 b.1 b.2 d.1 d.2 zs w (by simpa using hnc) hcm bG bQ hne hbG hbg (hasc 1 2 (by decide) (by simp))).mono fun e w' ⟨h1, h2, h3, h4⟩ => ⟨h1, ⟨.int .i64 a.1 :: .int .i64 a.2 :: zs, h2⟩, h3, h4⟩
  | [a, b, d], 1 => exact (ihpop_2 b0 G g c b.1 b.2 d.1 d.2 zs w (by simp at hnc; omega) hcm bG bQ hne hbG hbg).mono fun e w' ⟨h1, h2, h3, h4⟩ => ⟨h1, ⟨.int .i64 b.1 :: .int .i64 b.2 :: zs, h2⟩, h3, h4⟩
  | [a, b, d, f], 0 => exact (ihpop_4 b0 G g c a.1 a.2 b.1 b.2 d.1 d.2 f.1 f.2 zs w (by simpa using hnc) hcm bG bQ hne hbG hbg (by have := hasc 1 2 (by decide) (by simp); simp at this; omega) (hasc 1 3 (by decide) (by simp))).mono fun e w' ⟨h1, h2, h3, h4⟩ => ⟨h1, ⟨.int .i64 a.1 :: .int .i64 a.2 :: zs, h2⟩, h3, h4⟩
  | [a, b, d, f], 1 => exact (ihpop_3f b0 G g c b.1 b.2 f.1 f.2 d.1 d.2 zs w (by simp at hnc; omega) hcm bG bQ hne hbG hbg (by have := hasc 2 3 (by decide) (by simp); simp at this; omega)).mono fun e w' ⟨h1, h2, h3, h4⟩ => ⟨h1, ⟨.int .i64 b.1 :: .int .i64 b.2 :: zs, h2⟩, h3, h4⟩
  | [a, b, d, f], 2 => exact (ihpop_2 b0 G g c d.1 d.2 f.1 f.2 zs w (by simp at hnc; omega) hcm bG bQ hne hbG hbg).mono fun e w' ⟨h1, h2, h3, h4⟩ => ⟨h1, ⟨.int .i64 d.1 :: .int .i64 d.2 :: zs, h2⟩, h3, h4⟩
  | [], _ => exfalso; simp only [List.length_cons, List.length_nil] at hk; omega
  | [_], _ => exfalso; simp only [List.length_cons, List.length_nil] at hk; omega
  | [_, _], k + 1 => exfalso; simp only [List.length_cons, List.length_nil] at hk; omega
  | [_, _, _], k + 2 => exfalso; simp only [List.length_cons, List.length_nil] at hk; omega
  | [_, _, _, _], k + 3 => exfalso; simp only [List.length_cons, List.length_nil] at hk; omega
  | _ :: _ :: _ :: _ :: _ :: _, _ => exfalso; simp only [List.length_cons, List.length_nil] at h4; omega
def lenAt (w : World) (G : Nat) : Nat := match w.cell? ⟨G, 0, none⟩ with | some (.slice _ n _) => n | _ => 0
theorem lenAt_eq {w : World} {G : Nat} {x : Option Addr} {n c : Nat} (h : Bl w G [.slice x n c]) : lenAt w G = n := by unfold lenAt; rw [h.c 0 rfl]
set_option maxHeartbeats 4000000 in
theorem ipick_any (hv : Value) (l : List (Int × Int)) (a n h : Int) (w : World) (hr : RdP w hv l) :
    Calls Try.prog 35 #[.agg #[.int .i64 a, .int .i64 n, hv], .int .i64 h] w fun e w' => e = .returned (.int .i64 (pickF a n l h)) ∧ Below w.heap.size w w' := by
  obtain ⟨x, c, rfl, hc⟩ := hr.el
  obtain ⟨m, hm⟩ : ∃ m, m = l.length := ⟨_, rfl⟩
  rw [← hm] at hc hr
  rw [← hm]
  have HN := Lib.hid hm
  clear hm
  obtain ⟨bA, B0, z⟩ := one w [.int .i64 a, .int .i64 n, .slice x m c] GI
  obtain ⟨g, hg⟩ : ∃ g, grpB a n l = g := ⟨_, rfl⟩
  have HG := Lib.hid hg
  have a0 := bA.c 0 rfl
  have a1 := bA.c 1 rfl
  have a2 := bA.c 2 rfl
  clear hg
  go_enter Try.func35, Try.ntmps35
  go_wp2_with fail
  refine (igrp_t _ (hr.keep B0) HG).mono ?_
  rintro e w1 ⟨rfl, hb⟩
  have hs1 := hb.size
  obtain ⟨A, hA⟩ : ∃ A, A = w.heap.size := ⟨_, rfl⟩
  rw [← hA] at bA
  try rw [← hA]
  replace bA := bA.keep hb
  replace B0 := below_step B0 hb
  have hwA : w.heap.size ≤ A := by omega
  clear hb a0 a1 a2 hA z hs1 hr
  have a2 := bA.c 2 rfl
  cases g
  · have HF : Hid (pickF a n l h = -1) := Lib.hid (pickF_no HG.out)
    clear hc
    go_wp2
    go_ret
    exact ⟨ret_int HF.out.symm, B0⟩
  · by_cases h0 : m = 0
    · have HF : Hid (pickF a n l h = -1) := Lib.hid (pickF_nil (by rw [← HN.out]; exact h0))
      clear hc
      subst h0
      go_wp2
      go_ret
      exact ⟨ret_int HF.out.symm, B0⟩
    · have hb0 : ((m : Int) == 0) = false := by simp; omega
      have hwb := w_bd HG.out
      have hsb := sumW_bd hwb.2
      have hslt := fun i j (h1 : i < j) (h2 : j ≤ l.length) => sumW_lt hwb.2 (i := i) j h1 h2
      rw [← HN.out] at hwb
      have HSB := Lib.hid hsb
      have HSL := Lib.hid hslt
      have H0 := Lib.hid h0
      have HM4 := Lib.hid hwb.1
      clear hwb hsb hslt h0
      obtain ⟨bG, N1, z1⟩ := one w1 [.slice none 0 0] QuT
      have a2' := (bA.keep N1).c 2 rfl
      go_wp2
      clear a2 a2' hb0
      obtain ⟨W1, hW⟩ : ∃ W1, W1 = w1.alloc (.cells #[.slice none 0 0] QuT) := ⟨_, rfl⟩
      rw [← hW] at bG N1 z1 ⊢
      obtain ⟨G, hG⟩ : ∃ G, G = w1.heap.size := ⟨_, rfl⟩
      rw [← hG] at bG z1
      try rw [← hG]
      have hAG : A ≠ G := by have := bA.lt; omega
      have hwG : w.heap.size ≤ G := by have := B0.size; omega
      replace bA := bA.keep N1
      replace B0 := below_step B0 N1
      have hGW : G < W1.heap.size := by omega
      have hAW : A < W1.heap.size := bA.lt
      clear hW hG N1 z1
      go_loopw [6, 22] (fun s q wr => ∃ k : Nat, k ≤ m ∧ q = .int .i64 k ∧ s = .int .i64 (sumW l k) ∧ PuSt wr W1.heap.size G (shL l k) ∧ Bl wr A [.int .i64 a, .int .i64 n, .slice x m c] ∧ Below w.heap.size w wr ∧ W1.heap.size ≤ wr.heap.size) (fun _ q _ => m - (intOf q).toNat)
      case atStart => exact ⟨0, Nat.zero_le _, rfl, by simp [sumW], ⟨hGW, _, bG, World.ownsRow_nil _ _ _ _⟩, bA, B0, Nat.le_refl _⟩
      case round =>
        clear bA bG B0
        obtain ⟨k, hk, rfl, rfl, hP, bA, hB, hsz⟩ := hrel
        by_cases hlt : k < m
        · have hltI : (k : Int) < (m : Int) := by omega
          obtain ⟨b, o, rfl, d0, d1⟩ := hc k hlt
          obtain ⟨⟨y, t⟩, hx⟩ : ∃ q, l.getD k (0, 0) = q := ⟨_, rfl⟩
          rw [hx] at d0 d1
          dsimp only at d0 d1
          have g0 := cell_keep hB (World.block_lt_of_cell? w _ d0) d0
          have g1 := cell_keep hB (World.block_lt_of_cell? w _ d1) d1
          have hs := sumW_succ (l := l) (k := k) (by rw [← HN.out]; exact hlt)
          rw [hx] at hs
          dsimp only at hs
          have hb1 := HSB.out (k + 1) (by rw [← HN.out]; omega)
          obtain ⟨u, hu⟩ : ∃ u, u = sumW l k := ⟨_, rfl⟩
          obtain ⟨v, hv⟩ : ∃ v, v = sumW l (k + 1) := ⟨_, rfl⟩
          have hm4 := HM4.out
          have hw1 : IntKind.i64.wrap (u + t) = v := by rw [show u + t = v by omega]; exact wrap64_in _ (by omega) (by omega)
          have HSH : Hid (shL l (k + 1) = shL l k ++ [(v, y)]) := Lib.hid (by rw [shL, hx, hv])
          have HASC : Hid (∀ i, i < (shL l k).length → ¬ v < ((shL l k).getD i (0, 0)).1) := Lib.hid fun i hi => by
            rw [shL_len] at hi
            rw [shL_at l k i hi, hv]
            have := HSL.out (i + 1) (k + 1) (by omega) (by rw [← HN.out]; omega)
            dsimp only
            omega
          have HV := Lib.hid hv
          have HLS : Hid ((shL l k).length + 1 ≤ 4294967296) := Lib.hid (by rw [shL_len]; omega)
          have HCC := Lib.hid hc
          obtain ⟨bN, N2, z2⟩ := one wr [.int .i64 y, .int .i64 t] HpT
          have n0 := bN.c 0 rfl
          have n1 := bN.c 1 rfl
          rw [← hu]
          clear hs hb1 hu hv hx hc d0 d1 z2
          go_wp2_with fail
          refine (ihpush_any W1.heap.size G (shL l k) v y w _ (hP.keep N2) HLS.out (Nat.le_trans hsz N2.size) (below_step hB N2) hwG (fun i hi => Int.not_lt.2 (HASC.out i hi))).mono ?_
          rintro e w3 ⟨rfl, hP3, hB3, hoth, hs3⟩
          have bA3 := hoth A _ (bA.keep N2) hAW hAG
          have hs4 := Nat.le_trans hsz (Nat.le_trans N2.size hs3)
          rw [← HSH.out] at hP3
          have HP3 := Lib.hid hP3
          clear hP hP3 hoth bN N2 n0 n1 g0 g1 bA hB hs3
          go_wp2
          go_roundw
          case rel => exact ⟨k + 1, by omega, by go_num, by rw [HV.out], HP3.out, bA3, hB3, hs4⟩
          case measure => simp [intOf]; omega
        · obtain rfl : k = m := by omega
          have hSl := shL_len l k
          obtain ⟨qb, qc, bG, bQ, hGq, hWq, hnc, hcm⟩ := hP.form (by rw [hSl]; have := H0.out; omega)
          rw [hSl] at bG hnc
          obtain ⟨u, hu⟩ : ∃ u, u = sumW l k := ⟨_, rfl⟩
          have hub := HSB.out k (by rw [← HN.out]; omega)
          rw [← hu] at hub ⊢
          have h0 := H0.out
          have hu0 : (u == 0) = false := by simp; omega
          have hu1 : ¬ u = 0 := by omega
          obtain ⟨A0, hA0⟩ : ∃ A, bits .and .i64 h 65535 = A := ⟨_, rfl⟩
          obtain ⟨N0, hN0⟩ : ∃ N, N = A0.tmod u := ⟨_, rfl⟩
          have hnum : numH l h = N0 := by unfold numH; rw [hA0, ← HN.out, ← hu, hN0]
          have hnb := numH_bd (l := l) (h := h) (by rw [← HN.out, ← hu]; omega)
          rw [hnum, ← HN.out, ← hu] at hnb
          have hm4 := HM4.out
          have hw1 : IntKind.i64.wrap (A0.tmod u) = N0 := by rw [← hN0]; exact wrap64_in _ (by omega) (by omega)
          have HNB := Lib.hid hnb
          have HU := Lib.hid hu
          have HNUM := Lib.hid hnum
          have HN0 := Lib.hid hN0
          have HNC := Lib.hid (And.intro hnc (And.intro hcm hSl))
          have HQ0 : Hid (∃ zs, Bl wr qb (cellsS (stL (shL l k) 0) ++ zs)) := Lib.hid ⟨[], by rw [stL_0, List.append_nil]; exact bQ⟩
          clear hu hN0 hnum hnb hub hlt hk h0 hm4 hc hP hnc hcm bQ hSl
          go_wp2
          rw [← HN0.out]
          go_loopw [] (fun wr => ∃ i : Nat, i < k ∧ (∀ j, j < i → sumW l (j + 1) ≤ N0) ∧ Bl wr G [.slice (some ⟨qb, 0, none⟩) (k - i) qc] ∧ (∃ zs, Bl wr qb (cellsS (stL (shL l k) i) ++ zs)) ∧ Below w.heap.size w wr) (fun wr => lenAt wr G)
          case atStart => exact ⟨0, by have := H0.out; omega, fun j hj => by omega, bG, HQ0.out, hB⟩
          case round =>
            clear bG hB bA
            obtain ⟨i, hi, hall, bG, ⟨zs, bQ⟩, hB⟩ := hrel
            have hSl := HNC.out.2.2
            obtain ⟨r, hst⟩ := stL_head (S := shL l k) (k := i) (by rw [hSl]; exact hi) (by rw [hSl]; exact HM4.out)
            rw [shL_at l k i hi] at hst
            have HLEN := Lib.hid (lenAt_eq bG)
            obtain ⟨e1, he1⟩ : ∃ v, v = sumW l (i + 1) := ⟨_, rfl⟩
            obtain ⟨y1, hy1⟩ : ∃ v, v = (l.getD i (0, 0)).1 := ⟨_, rfl⟩
            rw [← he1, ← hy1] at hst
            have hcs : cellsS (stL (shL l k) i) ++ zs = .int .i64 e1 :: .int .i64 y1 :: (cellsS r ++ zs) := by rw [hst]; simp [cellsS, flat]
            have HBQ : Hid (∃ zs, Bl wr qb (cellsS (stL (shL l k) i) ++ zs)) := Lib.hid ⟨zs, bQ⟩
            rw [hcs] at bQ
            have q0 := bQ.c 0 rfl
            have q1 := bQ.c 1 rfl
            obtain ⟨d, hd⟩ : ∃ d, d = k - i := ⟨_, rfl⟩
            have hd0 : 0 < d := by omega
            rw [← hd] at bG
            have g0 := bG.c 0 rfl
            have HD := Lib.hid hd
            have HALL := Lib.hid hall
            clear hcs hst hSl hd hall
            by_cases hle : e1 ≤ N0
            · have hik : i + 1 < k := by
                by_cases q : i + 1 = k
                · exfalso; rw [q, ← HU.out] at he1; have := HNB.out; omega
                · omega
              have HAL2 : Hid (∀ j, j < i + 1 → sumW l (j + 1) ≤ N0) := Lib.hid fun j hj => by
                by_cases q : j = i
                · subst q; omega
                · exact HALL.out j (by omega)
              have HCALL := Lib.hid (ihpop_st w.heap.size G qb qc (shL l k) i wr (by rw [HNC.out.2.2]; exact hik) (by rw [HNC.out.2.2]; exact HM4.out) (fun p q h1 h2 => by
                rw [HNC.out.2.2] at h2
                rw [shL_at l k p (by omega), shL_at l k q h2]
                exact HSL.out (p + 1) (q + 1) (by omega) (by rw [← HN.out]; omega)) (by rw [HNC.out.2.2]; exact HNC.out.1) HNC.out.2.1 (by rw [HNC.out.2.2, ← HD.out]; exact bG) HBQ.out hGq hwG (by omega))
              clear he1 hy1 bQ bG
              go_wp2_with fail
              refine HCALL.out.mono ?_
              rintro e w5 ⟨⟨vv, rfl⟩, hQ5, bG5, hF⟩
              rw [HNC.out.2.2] at bG5
              have hB5 := Below.trans hB hF.1
              have HL5 := Lib.hid (lenAt_eq bG5)
              have HX5 := Lib.hid (And.intro hQ5 (And.intro bG5 hB5))
              clear hQ5 bG5 hF hB q0 q1 g0 hB5
              go_wp2
              go_roundw
              case rel => exact ⟨i + 1, hik, HAL2.out, HX5.out.2.1, HX5.out.1, HX5.out.2.2⟩
              case measure => rw [HL5.out, HLEN.out]; omega
            · have HF : Hid (pickF a n l h = y1) := Lib.hid (by
                rw [pickF_yes HG.out (by rw [← HN.out]; exact H0.out), HNUM.out, pickV_at (k := i) (by rw [← HN.out]; exact hi) HALL.out (by omega), hy1])
              clear he1 hy1 bQ bG
              go_wp2
              go_ret
              exact ⟨ret_int HF.out.symm, hB⟩
end Go.Proofs.Ytbcmoofpgffbhaa
