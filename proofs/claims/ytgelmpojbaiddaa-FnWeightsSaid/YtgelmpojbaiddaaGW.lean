/-
  Weights of bandwidths: contracts of the program's function and of the model's, and of what they call. Conditions: those in each contract.
-/
import Derived.Test.YtgelmpojbaiddaaI4
import Derived.Test.YtgelmpojbaiddaaI7
namespace Go.Proofs.Ytgelmpojbaiddaa
open Go.ChangeShapes Go.WideShapes Go.ChangeAt Go.RowKit Go.BigFrame Go.Joins
set_option linter.unusedVariables false
set_option maxRecDepth 100000
set_option linter.unusedSimpArgs false
set_option maxRecDepth 100000

theorem RdI.elW {w : World} {v : Value} {l : List Int} (h : RdI w v l) : ∃ a c, v = .slice a l.length c ∧ ∀ i, i < l.length → ∃ b o, a = some ⟨b, o, none⟩ ∧ w.cell? ⟨b, o + i, none⟩ = some (.int .i64 (l.getD i 0)) := by
  rcases h.2.2 with ⟨a, c, rfl, rfl, -⟩ | ⟨b, o, c, rfl, -, hc⟩
  · exact ⟨a, c, rfl, fun i hi => absurd hi (by simp)⟩
  · exact ⟨_, c, rfl, fun i hi => ⟨b, o, rfl, hc i hi⟩⟩
/-- every bandwidth is in 0 .. 1000 -/
def bwB (l : List Int) : Bool := decide (∀ i, i < l.length → inB (l.getD i 0) 0 1000 = true)
theorem bwB_no {l : List Int} {k : Nat} {x : Int} (hk : k < l.length) (hx : l.getD k 0 = x) (h : inB x 0 1000 = false) : bwB l = false := by
  simp only [bwB, decide_eq_false_iff_not]
  intro q
  have := q k hk
  rw [hx, h] at this
  cases this
theorem bwB_yes {l : List Int} {n : Nat} (hn : n = l.length) (h : ∀ i, i < n → inB (l.getD i 0) 0 1000 = true) : bwB l = true := by
  subst hn
  simpa [bwB] using h
theorem bwB_at {l : List Int} (h : bwB l = true) (i : Nat) (hi : i < l.length) : 0 ≤ l.getD i 0 ∧ l.getD i 0 ≤ 1000 := by
  simp only [bwB, decide_eq_true_eq] at h
  have := h i hi
  simpa [inB] using this
theorem sum_take {l : List Int} {k : Nat} (h : k < l.length) : (l.take (k + 1)).sum = (l.take k).sum + l.getD k 0 := by
  rw [List.take_succ_eq_append_getElem h, List.sum_append]
  simp [List.getD, h]
theorem sum_bd {l : List Int} (h : bwB l = true) : ∀ k, k ≤ l.length → 0 ≤ (l.take k).sum ∧ (l.take k).sum ≤ 1000 * k
  | 0, _ => by simp
  | k + 1, hk => by
    have h1 := sum_bd h k (by omega)
    have h2 := bwB_at h k (by omega)
    rw [sum_take (by omega)]
    omega
theorem sum_at {l : List Int} (h : bwB l = true) {k : Nat} (hk : k < l.length) : ∀ j, k < j → j ≤ l.length → l.getD k 0 ≤ (l.take j).sum
  | 0, h0, _ => by omega
  | j + 1, h0, hj => by
    rw [sum_take (by omega)]
    have h2 := bwB_at h j (by omega)
    have h3 := sum_bd h j (by omega)
    by_cases e : k = j
    · subst e; omega
    · have := sum_at h hk j (by omega) (by omega)
      omega
theorem sum_all {l : List Int} (h : bwB l = true) (hl : l.length ≤ 4) : 0 ≤ l.sum ∧ l.sum ≤ 4000 := by
  have := sum_bd h l.length (Nat.le_refl _)
  rw [List.take_length] at this
  omega
theorem sum_elt {l : List Int} (h : bwB l = true) {k : Nat} (hk : k < l.length) : l.getD k 0 ≤ l.sum := by
  have := sum_at h hk l.length hk (Nat.le_refl _)
  rwa [List.take_length] at this
/-- the share of one -/
def wsh (S x : Int) : Int := if (x * 16).tdiv S < 1 then 1 else (x * 16).tdiv S
def wtAt (u : Bool) (S x : Int) : Int := if u then 1 else wsh S x
/-- the weights of bandwidths in 0 .. 1000 -/
def wtsL (l : List Int) : List Int := l.map (wtAt (decide ((0 : Int) ∈ l)) l.sum)
/-- the weights of whatever one asks -/
def weiL (l : List Int) : List Int := if bwB l && decide (l.length ≤ 4) then wtsL l else []
theorem wtsL_len (l : List Int) : (wtsL l).length = l.length := by simp [wtsL]
theorem weiL_len (l : List Int) : (weiL l).length ≤ 4 := by
  unfold weiL
  split
  · rename_i h
    simp at h
    rw [wtsL_len]
    exact h.2
  · simp
theorem wtsL_take {l : List Int} {k : Nat} (h : k < l.length) : (wtsL l).take (k + 1) = (wtsL l).take k ++ [wtAt (decide ((0 : Int) ∈ l)) l.sum (l.getD k 0)] := by
  rw [List.take_succ_eq_append_getElem (by rw [wtsL_len]; exact h)]
  simp [wtsL, List.getD, h]
theorem tdiv_bd {x S : Int} (h0 : 0 ≤ x) (h1 : x ≤ 1000) (hS : 0 ≤ S) : 0 ≤ (x * 16).tdiv S ∧ (x * 16).tdiv S ≤ 16000 := by
  rw [Int.tdiv_eq_ediv_of_nonneg (by omega)]
  refine ⟨Int.ediv_nonneg (by omega) hS, ?_⟩
  have := Int.ediv_le_self (a := x * 16) S (by omega)
  omega
theorem wsh_bd {x S : Int} (h0 : 0 ≤ x) (h1 : x ≤ 1000) (hS : 0 ≤ S) : 1 ≤ wsh S x ∧ wsh S x ≤ 16000 := by
  have := tdiv_bd h0 h1 hS
  unfold wsh
  split <;> omega
theorem weiL_bd (l : List Int) : ∀ x ∈ weiL l, -9223372036854775808 ≤ x ∧ x ≤ 9223372036854775807 := by
  intro x hx
  unfold weiL at hx
  split at hx
  · rename_i h
    simp only [Bool.and_eq_true, decide_eq_true_eq] at h
    simp only [wtsL, List.mem_map] at hx
    obtain ⟨y, hy, rfl⟩ := hx
    obtain ⟨i, hi, rfl⟩ := List.getElem_of_mem hy
    have e : l.getD i 0 = l[i] := by simp [List.getD, hi]
    have h1 := bwB_at h.1 i hi
    rw [e] at h1
    have h2 := wsh_bd h1.1 h1.2 (sum_all h.1 h.2).1
    unfold wtAt
    split <;> omega
  · simp at hx
theorem below_grownI {B : Nat} {V w w' : World} {v : Value} {l : List Int} {base : Nat} (h : Below B V w) (ho : OwnI w base v l) (hb : B ≤ base) (hB : B ≤ w.heap.size) (hg : w.grownBy w' v.ownBlock) : Below B V w' :=
  Below.grown h hg hB (fun k hk => Nat.le_trans hb (World.ownsRow.lt ho k hk).1)
theorem ibw_any (v : Value) (l : List Int) (w : World) (h : RdI w v l) :
    Calls Try.prog 63 #[v] w fun e w' => e = .returned (.bool (bwB l && decide (l.length ≤ 4))) ∧ Below w.heap.size w w' := by
  obtain ⟨a, c, rfl, hc⟩ := h.elW
  obtain ⟨n, hn⟩ : ∃ n, n = l.length := ⟨_, rfl⟩
  have hm : n ≤ 9223372036854775807 := by have := h.2.1; unfold maxLen at this; omega
  rw [← hn] at hc ⊢
  have HN := Lib.hid hn
  clear h hn
  go_enter Try.func63, Try.ntmps63
  go_wp2
  go_loopw [7] (fun q wr => ∃ k : Nat, k ≤ n ∧ q = .int .i64 k ∧ (∀ i, i < k → inB (l.getD i 0) 0 1000 = true) ∧ Below w.heap.size w wr) (fun q _ => n - (intOf q).toNat)
  case atStart => exact ⟨0, Nat.zero_le _, rfl, fun i hi => by omega, Below.refl _ _⟩
  case round =>
    obtain ⟨k, hk, rfl, hok, hB⟩ := hrel
    have HO := Lib.hid hok
    clear hok
    by_cases hlt : k < n
    · have hltI : (k : Int) < (n : Int) := by omega
      obtain ⟨b, o, rfl, d0⟩ := hc k hlt
      have q0 := cell_keep hB (World.block_lt_of_cell? w _ d0) d0
      obtain ⟨x, hx⟩ : ∃ x, l.getD k 0 = x := ⟨_, rfl⟩
      rw [hx] at q0
      have HX := Lib.hid hx
      have HCC := Lib.hid hc
      clear hx hc d0
      cases hp : inB x 0 1000
      · have HP := Lib.hid hp
        have HF := Lib.hid (bwB_no (by rw [← HN.out]; exact hlt) HX.out hp)
        clear hp
        go_wp2_with fail
        refine (within_t _ HP).mono ?_
        rintro e w1 ⟨rfl, rfl⟩
        go_wp2
        go_ret
        exact ⟨ret_bool (by rw [HF.out]; rfl), hB⟩
      · have HP := Lib.hid hp
        have HOK : Hid (∀ i, i < k + 1 → inB (l.getD i 0) 0 1000 = true) := Lib.hid fun i hi => by
          by_cases e : i = k
          · rw [e, HX.out]; exact hp
          · exact HO.out i (by omega)
        clear hp
        go_wp2_with fail
        refine (within_t _ HP).mono ?_
        rintro e w1 ⟨rfl, rfl⟩
        go_wp2
        go_roundw
        case rel => exact ⟨k + 1, by omega, by go_num, HOK.out, hB⟩
        case measure => simp [intOf]; omega
    · have hkn : k = n := by omega
      subst hkn
      have HF := Lib.hid (bwB_yes HN.out HO.out)
      clear hc
      by_cases h4 : (k : Int) ≤ 4
      · have h5 : k ≤ 4 := by omega
        have H5 := Lib.hid h5
        clear h5
        go_wp2
        go_ret
        exact ⟨ret_bool (by rw [HF.out]; have := H5.out; simp [this]), hB⟩
      · have h5 : ¬ k ≤ 4 := by omega
        have H5 := Lib.hid h5
        clear h5
        go_wp2
        go_ret
        exact ⟨ret_bool (by rw [HF.out]; have := H5.out; simp [this]), hB⟩
theorem ibw_t {v : Value} {l : List Int} {b : Bool} (w : World) (h : RdI w v l) (H : Hid ((bwB l && decide (l.length ≤ 4)) = b)) :
    Calls Try.prog 63 #[v] w fun e w' => e = .returned (.bool b) ∧ Below w.heap.size w w' := H.out ▸ ibw_any v l w h
theorem index_any (v : Value) (l : List Int) (y : Int) (w : World) (h : RdI w v l) :
    Calls Try.prog 96 #[v, .int .i64 y] w fun e w' => (∃ r : Int, e = .returned (.int .i64 r) ∧ (0 ≤ r ↔ y ∈ l)) ∧ Below w.heap.size w w' := by
  obtain ⟨a, c, rfl, hc⟩ := h.elW
  obtain ⟨n, hn⟩ : ∃ n, n = l.length := ⟨_, rfl⟩
  have hm : n ≤ 9223372036854775807 := by have := h.2.1; unfold maxLen at this; omega
  rw [← hn] at hc ⊢
  have HN := Lib.hid hn
  clear h hn
  go_enter Try.func96, Try.ntmps96
  go_wp2
  go_loopw [8] (fun q wr => ∃ k : Nat, k ≤ n ∧ q = .int .i64 k ∧ (∀ i, i < k → l.getD i 0 ≠ y) ∧ Below w.heap.size w wr) (fun q _ => n - (intOf q).toNat)
  case atStart => exact ⟨0, Nat.zero_le _, rfl, fun i hi => by omega, Below.refl _ _⟩
  case round =>
    obtain ⟨k, hk, rfl, hok, hB⟩ := hrel
    have HO := Lib.hid hok
    clear hok
    by_cases hlt : k < n
    · have hltI : (k : Int) < (n : Int) := by omega
      obtain ⟨b, o, rfl, d0⟩ := hc k hlt
      have q0 := cell_keep hB (World.block_lt_of_cell? w _ d0) d0
      obtain ⟨x, hx⟩ : ∃ x, l.getD k 0 = x := ⟨_, rfl⟩
      rw [hx] at q0
      have HX := Lib.hid hx
      have HCC := Lib.hid hc
      clear hx hc d0
      by_cases hp : y = x
      · have hp2 : (y == x) = true := by simp [hp]
        have HIN : Hid (y ∈ l) := Lib.hid (by
          have hk2 : k < l.length := by rw [← HN.out]; exact hlt
          have e : l.getD k 0 = l[k] := by simp [List.getD, hk2]
          rw [hp, ← HX.out, e]
          exact List.getElem_mem hk2)
        clear hp
        go_wp2
        go_ret
        exact ⟨⟨_, rfl, ⟨fun _ => HIN.out, fun _ => by omega⟩⟩, hB⟩
      · have hp2 : (y == x) = false := by simp [hp]
        have HOK : Hid (∀ i, i < k + 1 → l.getD i 0 ≠ y) := Lib.hid fun i hi => by
          by_cases e : i = k
          · rw [e, HX.out]; exact fun q => hp q.symm
          · exact HO.out i (by omega)
        clear hp
        go_wp2
        go_roundw
        case rel => exact ⟨k + 1, by omega, by go_num, HOK.out, hB⟩
        case measure => simp [intOf]; omega
    · have hkn : k = n := by omega
      subst hkn
      have HNO : Hid (¬ y ∈ l) := Lib.hid (by
        intro q
        obtain ⟨i, hi, e⟩ := List.getElem_of_mem q
        have e2 : l.getD i 0 = l[i] := by simp [List.getD, hi]
        exact HO.out i (by rw [HN.out]; exact hi) (e2.trans e))
      clear hc
      go_wp2
      go_ret
      exact ⟨⟨_, rfl, ⟨fun q => by omega, fun q => absurd q HNO.out⟩⟩, hB⟩
theorem contains_t {v : Value} {l : List Int} {y : Int} {b : Bool} (w : World) (h : RdI w v l) (H : Hid (decide (y ∈ l) = b)) :
    Calls Try.prog 64 #[v, .int .i64 y] w fun e w' => e = .returned (.bool b) ∧ Below w.heap.size w w' := by
  have hb := H.out
  obtain ⟨a, c, rfl, -⟩ := h.elW
  go_enter Try.func64, Try.ntmps64
  go_wp2_with fail
  refine (index_any _ l y _ h).mono ?_
  rintro e w1 ⟨⟨r, rfl, hr⟩, hb1⟩
  have HR := Lib.hid hr
  have HH := Lib.hid hb
  clear hr hb h
  by_cases hq : 0 ≤ r
  · have hq2 : r ≥ 0 := hq
    have HQ := Lib.hid hq
    go_wp2
    go_ret
    exact ⟨ret_bool (by have q := HR.out; have q2 := HQ.out; rw [← HH.out]; simp [q.1 q2]), hb1⟩
  · have HQ := Lib.hid hq
    go_wp2
    go_ret
    exact ⟨ret_bool (by have q := HR.out; have q2 := HQ.out; rw [← HH.out]; simp [show ¬ y ∈ l from fun z => by have := q.2 z; omega]; omega), hb1⟩
set_option maxHeartbeats 1000000 in
theorem iwei_any (v : Value) (l : List Int) (w : World) (h : RdI w v l) :
    Calls Try.prog 22 #[v] w fun e w' => ∃ u, e = .returned u ∧ OwnI w' w.heap.size u (weiL l) ∧ Below w.heap.size w w' := by
  have hr := h
  obtain ⟨a, c, rfl, hc⟩ := h.elW
  obtain ⟨n, hn⟩ : ∃ n, n = l.length := ⟨_, rfl⟩
  have hm : n ≤ 9223372036854775807 := by have := h.2.1; unfold maxLen at this; omega
  rw [← hn] at hc ⊢
  have HN := Lib.hid hn
  clear h hn
  cases hok : (bwB l && decide (l.length ≤ 4))
  · have HK := Lib.hid hok
    have HE : Hid (weiL l = []) := Lib.hid (by unfold weiL; rw [hok]; rfl)
    clear hok
    go_enter Try.func22, Try.ntmps22
    go_wp2_with fail
    refine (ibw_t _ (HN.out ▸ hr) HK).mono ?_
    rintro e w1 ⟨rfl, hb⟩
    go_wp2
    go_ret
    exact ⟨_, rfl, by rw [HE.out]; exact World.ownsRow_nil _ _ _ _, hb⟩
  · have HK := Lib.hid hok
    have HE : Hid (weiL l = wtsL l) := Lib.hid (by unfold weiL; rw [hok]; rfl)
    simp only [Bool.and_eq_true, decide_eq_true_eq] at hok
    have hn4 : n ≤ 4 := by rw [HN.out]; exact hok.2
    have HBW := Lib.hid hok.1
    have HSM := Lib.hid (sum_all hok.1 hok.2)
    clear hok
    have HRR := Lib.hid (HN.out ▸ hr : RdI w (.slice a n c) l)
    clear hr
    go_enter Try.func22, Try.ntmps22
    go_wp2_with fail
    refine (ibw_t _ HRR.out HK).mono ?_
    rintro e w1 ⟨rfl, hb⟩
    go_wp2
    go_loopw [3, 15] (fun s q wr => ∃ k : Nat, k ≤ n ∧ q = .int .i64 k ∧ s = .int .i64 (l.take k).sum ∧ Below w.heap.size w wr) (fun _ q _ => n - (intOf q).toNat)
    case atStart => exact ⟨0, Nat.zero_le _, rfl, rfl, hb⟩
    case round =>
      obtain ⟨k, hk, rfl, rfl, hB⟩ := hrel
      by_cases hlt : k < n
      · have hltI : (k : Int) < (n : Int) := by omega
        obtain ⟨b, o, rfl, d0⟩ := hc k hlt
        have q0 := cell_keep hB (World.block_lt_of_cell? w _ d0) d0
        obtain ⟨x, hx⟩ : ∃ x, l.getD k 0 = x := ⟨_, rfl⟩
        rw [hx] at q0
        have HX := Lib.hid hx
        have HCC := Lib.hid hc
        clear hx hc d0
        have hsb := sum_bd HBW.out k (by rw [← HN.out]; omega)
        have hxb := bwB_at HBW.out k (by rw [← HN.out]; exact hlt)
        rw [HX.out] at hxb
        obtain ⟨s, hs⟩ : ∃ s, (l.take k).sum = s := ⟨_, rfl⟩
        rw [hs] at hsb ⊢
        have HS : Hid ((l.take (k + 1)).sum = s + x) := Lib.hid (by rw [sum_take (by rw [← HN.out]; exact hlt), hs, HX.out])
        have hw1 : IntKind.i64.wrap (s + x) = s + x := wrap64_in _ (by omega) (by omega)
        clear hs
        go_wp2
        go_roundw
        case rel => exact ⟨k + 1, by omega, by go_num, by rw [HS.out], hB⟩
        case measure => simp [intOf]; omega
      · have hkn : k = n := by omega
        have hs1 : (l.take k).sum = l.sum := by rw [List.take_of_length_le (by rw [hkn, HN.out]; exact Nat.le_refl _)]
        rw [hs1, hkn]
        clear hs1 hkn hk hlt k
        obtain ⟨S, hS⟩ : ∃ S, l.sum = S := ⟨_, rfl⟩
        have hS2 := HSM.out
        rw [hS] at hS2 ⊢
        have HSS := Lib.hid hS
        clear hS hb
        have hnI : ¬ (n : Int) < (n : Int) := by omega
        obtain ⟨u, hu⟩ : ∃ u, decide ((0 : Int) ∈ l) = u := ⟨_, rfl⟩
        have HU := Lib.hid hu
        clear hu
        go_wp2_with fail
        refine (contains_t _ (HRR.out.keep hB) HU).mono ?_
        rintro e w2 ⟨rfl, hb2⟩
        replace hB := below_step hB hb2
        clear hb2 hnI
        go_wp2
        go_loopw [7, 27] (fun lv q wr => ∃ j : Nat, j ≤ n ∧ q = .int .i64 j ∧ OwnI wr w.heap.size lv ((wtsL l).take j) ∧ Below w.heap.size w wr) (fun _ q _ => n - (intOf q).toNat)
        case atStart => exact ⟨0, Nat.zero_le _, rfl, World.ownsRow_nil _ _ _ _, hB⟩
        case round =>
          clear hB
          obtain ⟨j, hj, rfl, hown, hB⟩ := hrel
          have HLN : Hid (((wtsL l).take j).length + 1 ≤ 4294967296) := Lib.hid (by rw [List.length_take, wtsL_len, ← HN.out]; omega)
          by_cases hlt : j < n
          · have hltI : (j : Int) < (n : Int) := by omega
            obtain ⟨b, o, rfl, d0⟩ := hc j hlt
            have q0 := cell_keep hB (World.block_lt_of_cell? w _ d0) d0
            obtain ⟨x, hx⟩ : ∃ x, l.getD j 0 = x := ⟨_, rfl⟩
            rw [hx] at q0
            have HX := Lib.hid hx
            have HCC := Lib.hid hc
            clear hx hc d0
            cases u
            · have hxb := bwB_at HBW.out j (by rw [← HN.out]; exact hlt)
              rw [HX.out] at hxb
              have hSp : 0 < S := by
                have h1 := sum_elt HBW.out (k := j) (by rw [← HN.out]; exact hlt)
                have h2 : x ≠ 0 := by
                  rintro rfl
                  have hk2 : j < l.length := by rw [← HN.out]; exact hlt
                  have e : l.getD j 0 = l[j] := by simp [List.getD, hk2]
                  have h3 : (0 : Int) ∈ l := by
                    rw [← HX.out, e]
                    exact List.getElem_mem hk2
                  have h4 := HU.out
                  simp [h3] at h4
                rw [HX.out, HSS.out] at h1
                omega
              have htd := tdiv_bd hxb.1 hxb.2 (Int.le_of_lt hSp)
              have hw1 : IntKind.i64.wrap (x * 16) = x * 16 := wrap64_in _ (by omega) (by omega)
              obtain ⟨t, ht⟩ : ∃ t, (x * 16).tdiv S = t := ⟨_, rfl⟩
              rw [ht] at htd
              have hw2 : IntKind.i64.wrap t = t := wrap64_in _ (by omega) (by omega)
              have hS0 : ¬ S = 0 := by omega
              have hS1 : (S == 0) = false := by simp [hS0]
              by_cases ht1 : t ≤ 1
              · have htm : t < 1 ∨ t = 1 := by omega
                have HTK : Hid ((wtsL l).take (j + 1) = (wtsL l).take j ++ [1]) := Lib.hid (by
                  rw [wtsL_take (by rw [← HN.out]; exact hlt), HX.out, HU.out, HSS.out]
                  rcases htm with q | q <;> simp [wtAt, wsh, ht, q])
                have HVB : Hid (∀ z ∈ [1], -9223372036854775808 ≤ z ∧ z ≤ 9223372036854775807) := Lib.hid (by
                  intro z hz
                  rw [List.mem_singleton.1 hz]
                  omega)
                go_wp2_with (at_builtin; refine Hid.out ?_)
                refine Lib.hid ?_
                have hlit := own_lit1_I wr (1) wr.heap.size rfl
                have hB2 : Below w.heap.size w (wr.alloc (.cells #[.int .i64 (1)] IT)) := hB.alloc hB.size _
                refine wp_appI rfl _ _ rfl w.heap.size _ _ ((wtsL l).take j) [1] rfl rfl (hown.keep ((Below.refl _ _).alloc (Nat.le_refl _) _)) (hlit.rd HVB.out) HLN.out hB2.size ?_
                intro v3 w3 o3 g3
                have hB3 := below_grownI hB2 (hown.keep ((Below.refl _ _).alloc (Nat.le_refl _) _)) (Nat.le_refl _) hB2.size g3
                clear g3 hlit hB2 hown
                go_wp2
                go_roundw
                case rel => exact ⟨j + 1, by omega, by go_num, by rw [HTK.out]; exact o3, hB3⟩
                case measure => simp [intOf]; omega
              · have htm : ¬ t < 1 := by omega
                have HTK : Hid ((wtsL l).take (j + 1) = (wtsL l).take j ++ [t]) := Lib.hid (by
                  rw [wtsL_take (by rw [← HN.out]; exact hlt), HX.out, HU.out, HSS.out]
                  simp [wtAt, wsh, ht, htm])
                have HVB : Hid (∀ z ∈ [t], -9223372036854775808 ≤ z ∧ z ≤ 9223372036854775807) := Lib.hid (by
                  intro z hz
                  rw [List.mem_singleton.1 hz]
                  omega)
                go_wp2_with (at_builtin; refine Hid.out ?_)
                refine Lib.hid ?_
                have hlit := own_lit1_I wr (t) wr.heap.size rfl
                have hB2 : Below w.heap.size w (wr.alloc (.cells #[.int .i64 (t)] IT)) := hB.alloc hB.size _
                refine wp_appI rfl _ _ rfl w.heap.size _ _ ((wtsL l).take j) [t] rfl rfl (hown.keep ((Below.refl _ _).alloc (Nat.le_refl _) _)) (hlit.rd HVB.out) HLN.out hB2.size ?_
                intro v3 w3 o3 g3
                have hB3 := below_grownI hB2 (hown.keep ((Below.refl _ _).alloc (Nat.le_refl _) _)) (Nat.le_refl _) hB2.size g3
                clear g3 hlit hB2 hown
                go_wp2
                go_roundw
                case rel => exact ⟨j + 1, by omega, by go_num, by rw [HTK.out]; exact o3, hB3⟩
                case measure => simp [intOf]; omega
            · have HTK : Hid ((wtsL l).take (j + 1) = (wtsL l).take j ++ [1]) := Lib.hid (by
                rw [wtsL_take (by rw [← HN.out]; exact hlt), HX.out, HU.out, HSS.out]
                simp [wtAt])
              have HVB : Hid (∀ z ∈ [1], -9223372036854775808 ≤ z ∧ z ≤ 9223372036854775807) := Lib.hid (by
                intro z hz
                rw [List.mem_singleton.1 hz]
                omega)
              go_wp2_with (at_builtin; refine Hid.out ?_)
              refine Lib.hid ?_
              have hlit := own_lit1_I wr (1) wr.heap.size rfl
              have hB2 : Below w.heap.size w (wr.alloc (.cells #[.int .i64 (1)] IT)) := hB.alloc hB.size _
              refine wp_appI rfl _ _ rfl w.heap.size _ _ ((wtsL l).take j) [1] rfl rfl (hown.keep ((Below.refl _ _).alloc (Nat.le_refl _) _)) (hlit.rd HVB.out) HLN.out hB2.size ?_
              intro v3 w3 o3 g3
              have hB3 := below_grownI hB2 (hown.keep ((Below.refl _ _).alloc (Nat.le_refl _) _)) (Nat.le_refl _) hB2.size g3
              clear g3 hlit hB2 hown
              go_wp2
              go_roundw
              case rel => exact ⟨j + 1, by omega, by go_num, by rw [HTK.out]; exact o3, hB3⟩
              case measure => simp [intOf]; omega
          · have hjn : j = n := by omega
            have HTT : Hid ((wtsL l).take j = wtsL l) := Lib.hid (by rw [List.take_of_length_le (by rw [wtsL_len, hjn, HN.out]; exact Nat.le_refl _)])
            rw [hjn] at hown ⊢
            have hnI : ¬ (n : Int) < (n : Int) := by omega
            have hw := hown
            rw [← hjn, HTT.out] at hw
            clear hown hjn
            go_wp2
            go_ret
            exact ⟨_, rfl, by rw [HE.out]; exact hw, hB⟩
def toldB (l : List Int) (k : Nat) : Bool := decide (∀ i, i < k → 0 < l.getD i 0)
theorem toldB_zero (l : List Int) : toldB l 0 = true := by simp [toldB]
theorem toldB_succ (l : List Int) (k : Nat) : toldB l (k + 1) = (toldB l k && decide (0 < l.getD k 0)) := by
  rw [Bool.eq_iff_iff]
  simp only [toldB, Bool.and_eq_true, decide_eq_true_eq]
  constructor
  · intro h
    exact ⟨fun i hi => h i (by omega), h k (by omega)⟩
  · rintro ⟨h1, h2⟩ i hi
    by_cases e : i = k
    · subst e; exact h2
    · exact h1 i (by omega)
theorem toldB_all {l : List Int} (h : bwB l = true) : toldB l l.length = !decide ((0 : Int) ∈ l) := by
  rw [Bool.eq_iff_iff]
  simp only [toldB, Bool.not_eq_true', decide_eq_true_eq, decide_eq_false_iff_not]
  constructor
  · intro h1 h2
    obtain ⟨i, hi, e⟩ := List.getElem_of_mem h2
    have e2 : l.getD i 0 = l[i] := by simp [List.getD, hi]
    have := h1 i hi
    omega
  · intro h1 i hi
    have e2 : l.getD i 0 = l[i] := by simp [List.getD, hi]
    have h3 := bwB_at h i hi
    have h4 : l.getD i 0 ≠ 0 := by
      intro q
      rw [e2] at q
      exact h1 (q ▸ List.getElem_mem hi)
    omega
set_option maxHeartbeats 1000000 in
theorem sl7w_any (v : Value) (l : List Int) (w : World) (h : RdI w v l) (hbw : bwB l = true) (hl4 : l.length ≤ 4) :
    Calls Try.prog 62 #[v] w fun e w' => ∃ u, e = .returned u ∧ OwnI w' w.heap.size u (wtsL l) ∧ Below w.heap.size w w' := by
  have hn4' := hl4
  obtain ⟨a, c, rfl, hc⟩ := h.elW
  obtain ⟨n, hn⟩ : ∃ n, n = l.length := ⟨_, rfl⟩
  have hm : n ≤ 9223372036854775807 := by have := h.2.1; unfold maxLen at this; omega
  rw [← hn] at hc ⊢
  have HN := Lib.hid hn
  clear h hn
  have hn4 : n ≤ 4 := by rw [HN.out]; exact hn4'
  have HBW := Lib.hid hbw
  have HSM := Lib.hid (sum_all hbw hl4)
  clear hbw hl4 hn4'
  go_enter Try.func62, Try.ntmps62
  go_wp2
  go_loopw [3, 4, 5] (fun s t q wr => ∃ k : Nat, k ≤ n ∧ q = .int .i64 k ∧ s = .int .i64 (l.take k).sum ∧ t = .bool (toldB l k) ∧ Below w.heap.size w wr) (fun _ _ q _ => n - (intOf q).toNat)
  case atStart => exact ⟨0, Nat.zero_le _, rfl, rfl, by rw [toldB_zero], Below.refl _ _⟩
  case round =>
    obtain ⟨k, hk, rfl, rfl, rfl, hB⟩ := hrel
    by_cases hlt : k < n
    · have hltI : (k : Int) < (n : Int) := by omega
      obtain ⟨b, o, rfl, d0⟩ := hc k hlt
      have q0 := cell_keep hB (World.block_lt_of_cell? w _ d0) d0
      obtain ⟨x, hx⟩ : ∃ x, l.getD k 0 = x := ⟨_, rfl⟩
      rw [hx] at q0
      have HX := Lib.hid hx
      have HCC := Lib.hid hc
      clear hx hc d0
      have hsb := sum_bd HBW.out k (by rw [← HN.out]; omega)
      have hxb := bwB_at HBW.out k (by rw [← HN.out]; exact hlt)
      rw [HX.out] at hxb
      obtain ⟨s, hs⟩ : ∃ s, (l.take k).sum = s := ⟨_, rfl⟩
      rw [hs] at hsb ⊢
      have HS : Hid ((l.take (k + 1)).sum = s + x) := Lib.hid (by rw [sum_take (by rw [← HN.out]; exact hlt), hs, HX.out])
      have hw1 : IntKind.i64.wrap (s + x) = s + x := wrap64_in _ (by omega) (by omega)
      have htk := toldB_succ l k
      rw [HX.out] at htk
      clear hs
      cases htd : toldB l k
      · have HT : Hid (toldB l (k + 1) = false) := Lib.hid (by rw [htk, htd]; rfl)
        clear htk htd
        go_wp2
        go_roundw
        case rel => exact ⟨k + 1, by omega, by go_num, by rw [HS.out], by rw [HT.out], hB⟩
        case measure => simp [intOf]; omega
      · by_cases hx0 : 0 < x
        · have HT : Hid (toldB l (k + 1) = true) := Lib.hid (by rw [htk, htd]; simp [hx0])
          clear htk htd
          go_wp2
          go_roundw
          case rel => exact ⟨k + 1, by omega, by go_num, by rw [HS.out], by rw [HT.out], hB⟩
          case measure => simp [intOf]; omega
        · have HT : Hid (toldB l (k + 1) = false) := Lib.hid (by rw [htk, htd]; simp [hx0])
          clear htk htd
          go_wp2
          go_roundw
          case rel => exact ⟨k + 1, by omega, by go_num, by rw [HS.out], by rw [HT.out], hB⟩
          case measure => simp [intOf]; omega
    · have hkn : k = n := by omega
      have hs1 : (l.take k).sum = l.sum := by rw [List.take_of_length_le (by rw [hkn, HN.out]; exact Nat.le_refl _)]
      obtain ⟨u, hu1⟩ : ∃ u, (!decide ((0 : Int) ∈ l)) = u := ⟨_, rfl⟩
      have ht1 : toldB l k = u := by rw [hkn, HN.out, toldB_all HBW.out, hu1]
      have hu : decide ((0 : Int) ∈ l) = !u := by rw [← hu1]; simp
      clear hu1
      rw [hs1, ht1, hkn]
      clear hs1 ht1 hkn hk hlt k
      obtain ⟨S, hS⟩ : ∃ S, l.sum = S := ⟨_, rfl⟩
      have hS2 := HSM.out
      rw [hS] at hS2 ⊢
      have HSS := Lib.hid hS
      clear hS
      have hnI : ¬ (n : Int) < (n : Int) := by omega
      have HU := Lib.hid hu
      clear hu
      go_wp2
      clear hnI
      go_loopw [6, 7] (fun lv q wr => ∃ j : Nat, j ≤ n ∧ q = .int .i64 j ∧ OwnI wr w.heap.size lv ((wtsL l).take j) ∧ Below w.heap.size w wr) (fun _ q _ => n - (intOf q).toNat)
      case atStart => exact ⟨0, Nat.zero_le _, rfl, World.ownsRow_nil _ _ _ _, hB⟩
      case round =>
        clear hB
        obtain ⟨j, hj, rfl, hown, hB⟩ := hrel
        have HLN : Hid (((wtsL l).take j).length + 1 ≤ 4294967296) := Lib.hid (by rw [List.length_take, wtsL_len, ← HN.out]; omega)
        by_cases hlt : j < n
        · have hltI : (j : Int) < (n : Int) := by omega
          obtain ⟨b, o, rfl, d0⟩ := hc j hlt
          have q0 := cell_keep hB (World.block_lt_of_cell? w _ d0) d0
          obtain ⟨x, hx⟩ : ∃ x, l.getD j 0 = x := ⟨_, rfl⟩
          rw [hx] at q0
          have HX := Lib.hid hx
          have HCC := Lib.hid hc
          clear hx hc d0
          cases u
          · have HTK : Hid ((wtsL l).take (j + 1) = (wtsL l).take j ++ [1]) := Lib.hid (by
              rw [wtsL_take (by rw [← HN.out]; exact hlt), HX.out, HU.out, HSS.out]
              simp [wtAt])
            have HVB : Hid (∀ z ∈ [1], -9223372036854775808 ≤ z ∧ z ≤ 9223372036854775807) := Lib.hid (by
              intro z hz
              rw [List.mem_singleton.1 hz]
              omega)
            go_wp2_with (at_builtin; refine Hid.out ?_)
            refine Lib.hid ?_
            have hlit := own_lit1_I wr (1) wr.heap.size rfl
            have hB2 : Below w.heap.size w (wr.alloc (.cells #[.int .i64 (1)] IT)) := hB.alloc hB.size _
            refine wp_appI rfl _ _ rfl w.heap.size _ _ ((wtsL l).take j) [1] rfl rfl (hown.keep ((Below.refl _ _).alloc (Nat.le_refl _) _)) (hlit.rd HVB.out) HLN.out hB2.size ?_
            intro v3 w3 o3 g3
            have hB3 := below_grownI hB2 (hown.keep ((Below.refl _ _).alloc (Nat.le_refl _) _)) (Nat.le_refl _) hB2.size g3
            clear g3 hlit hB2 hown
            go_wp2
            go_roundw
            case rel => exact ⟨j + 1, by omega, by go_num, by rw [HTK.out]; exact o3, hB3⟩
            case measure => simp [intOf]; omega
          · have hxb := bwB_at HBW.out j (by rw [← HN.out]; exact hlt)
            rw [HX.out] at hxb
            have hSp : 0 < S := by
              have h1 := sum_elt HBW.out (k := j) (by rw [← HN.out]; exact hlt)
              have h2 : x ≠ 0 := by
                rintro rfl
                have hk2 : j < l.length := by rw [← HN.out]; exact hlt
                have e : l.getD j 0 = l[j] := by simp [List.getD, hk2]
                have h3 : (0 : Int) ∈ l := by
                  rw [← HX.out, e]
                  exact List.getElem_mem hk2
                have h4 := HU.out
                simp [h3] at h4
              rw [HX.out, HSS.out] at h1
              omega
            have htd := tdiv_bd hxb.1 hxb.2 (Int.le_of_lt hSp)
            have hw1 : IntKind.i64.wrap (x * 16) = x * 16 := wrap64_in _ (by omega) (by omega)
            obtain ⟨t, ht⟩ : ∃ t, (x * 16).tdiv S = t := ⟨_, rfl⟩
            rw [ht] at htd
            have hw2 : IntKind.i64.wrap t = t := wrap64_in _ (by omega) (by omega)
            have hS0 : ¬ S = 0 := by omega
            have hS1 : (S == 0) = false := by simp [hS0]
            by_cases ht1 : t < 1
            · have HTK : Hid ((wtsL l).take (j + 1) = (wtsL l).take j ++ [1]) := Lib.hid (by
                rw [wtsL_take (by rw [← HN.out]; exact hlt), HX.out, HU.out, HSS.out]
                simp [wtAt, wsh, ht, ht1])
              have HVB : Hid (∀ z ∈ [1], -9223372036854775808 ≤ z ∧ z ≤ 9223372036854775807) := Lib.hid (by
                intro z hz
                rw [List.mem_singleton.1 hz]
                omega)
              go_wp2_with (at_builtin; refine Hid.out ?_)
              refine Lib.hid ?_
              have hlit := own_lit1_I wr (1) wr.heap.size rfl
              have hB2 : Below w.heap.size w (wr.alloc (.cells #[.int .i64 (1)] IT)) := hB.alloc hB.size _
              refine wp_appI rfl _ _ rfl w.heap.size _ _ ((wtsL l).take j) [1] rfl rfl (hown.keep ((Below.refl _ _).alloc (Nat.le_refl _) _)) (hlit.rd HVB.out) HLN.out hB2.size ?_
              intro v3 w3 o3 g3
              have hB3 := below_grownI hB2 (hown.keep ((Below.refl _ _).alloc (Nat.le_refl _) _)) (Nat.le_refl _) hB2.size g3
              clear g3 hlit hB2 hown
              go_wp2
              go_roundw
              case rel => exact ⟨j + 1, by omega, by go_num, by rw [HTK.out]; exact o3, hB3⟩
              case measure => simp [intOf]; omega
            · have HTK : Hid ((wtsL l).take (j + 1) = (wtsL l).take j ++ [t]) := Lib.hid (by
                rw [wtsL_take (by rw [← HN.out]; exact hlt), HX.out, HU.out, HSS.out]
                simp [wtAt, wsh, ht, ht1])
              have HVB : Hid (∀ z ∈ [t], -9223372036854775808 ≤ z ∧ z ≤ 9223372036854775807) := Lib.hid (by
                intro z hz
                rw [List.mem_singleton.1 hz]
                omega)
              go_wp2_with (at_builtin; refine Hid.out ?_)
              refine Lib.hid ?_
              have hlit := own_lit1_I wr (t) wr.heap.size rfl
              have hB2 : Below w.heap.size w (wr.alloc (.cells #[.int .i64 (t)] IT)) := hB.alloc hB.size _
              refine wp_appI rfl _ _ rfl w.heap.size _ _ ((wtsL l).take j) [t] rfl rfl (hown.keep ((Below.refl _ _).alloc (Nat.le_refl _) _)) (hlit.rd HVB.out) HLN.out hB2.size ?_
              intro v3 w3 o3 g3
              have hB3 := below_grownI hB2 (hown.keep ((Below.refl _ _).alloc (Nat.le_refl _) _)) (Nat.le_refl _) hB2.size g3
              clear g3 hlit hB2 hown
              go_wp2
              go_roundw
              case rel => exact ⟨j + 1, by omega, by go_num, by rw [HTK.out]; exact o3, hB3⟩
              case measure => simp [intOf]; omega
        · have hjn : j = n := by omega
          have HTT : Hid ((wtsL l).take j = wtsL l) := Lib.hid (by rw [List.take_of_length_le (by rw [wtsL_len, hjn, HN.out]; exact Nat.le_refl _)])
          rw [hjn] at hown ⊢
          have hnI : ¬ (n : Int) < (n : Int) := by omega
          have hw := hown
          rw [← hjn, HTT.out] at hw
          clear hown hjn
          go_wp2
          go_ret
          exact ⟨_, rfl, hw, hB⟩
theorem swei_any (v : Value) (l : List Int) (w : World) (h : RdI w v l) :
    Calls Try.prog 20 #[v] w fun e w' => ∃ u, e = .returned u ∧ OwnI w' w.heap.size u (weiL l) ∧ Below w.heap.size w w' := by
  have hr := h
  obtain ⟨a, c, rfl, hc⟩ := h.elW
  obtain ⟨n, hn⟩ : ∃ n, n = l.length := ⟨_, rfl⟩
  have hm : n ≤ 9223372036854775807 := by have := h.2.1; unfold maxLen at this; omega
  rw [← hn] at hc ⊢
  have HN := Lib.hid hn
  clear h hn
  have HRR := Lib.hid (HN.out ▸ hr : RdI w (.slice a n c) l)
  clear hr
  go_enter Try.func20, Try.ntmps20
  go_wp2
  go_loopw [3] (fun q wr => ∃ k : Nat, k ≤ n ∧ q = .int .i64 k ∧ (∀ i, i < k → inB (l.getD i 0) 0 1000 = true) ∧ Below w.heap.size w wr) (fun q _ => n - (intOf q).toNat)
  case atStart => exact ⟨0, Nat.zero_le _, rfl, fun i hi => by omega, Below.refl _ _⟩
  case round =>
    obtain ⟨k, hk, rfl, hok, hB⟩ := hrel
    have HO := Lib.hid hok
    clear hok
    by_cases hlt : k < n
    · have hltI : (k : Int) < (n : Int) := by omega
      obtain ⟨b, o, rfl, d0⟩ := hc k hlt
      have q0 := cell_keep hB (World.block_lt_of_cell? w _ d0) d0
      obtain ⟨x, hx⟩ : ∃ x, l.getD k 0 = x := ⟨_, rfl⟩
      rw [hx] at q0
      have HX := Lib.hid hx
      have HCC := Lib.hid hc
      clear hx hc d0
      by_cases hp : 0 ≤ x
      · by_cases hp2 : x ≤ 1000
        · have HOK : Hid (∀ i, i < k + 1 → inB (l.getD i 0) 0 1000 = true) := Lib.hid fun i hi => by
            by_cases e : i = k
            · rw [e, HX.out]; simp [inB, hp, hp2]
            · exact HO.out i (by omega)
          have hn1 : ¬ x < 0 := by omega
          have hn2 : ¬ 1000 < x := by omega
          go_wp2
          go_roundw
          case rel => exact ⟨k + 1, by omega, by go_num, HOK.out, hB⟩
          case measure => simp [intOf]; omega
        · have HE : Hid (weiL l = []) := Lib.hid (by
            unfold weiL
            rw [bwB_no (by rw [← HN.out]; exact hlt) HX.out (by simp [inB]; omega)]
            rfl)
          have hn1 : ¬ x < 0 := by omega
          have hn2 : 1000 < x := by omega
          go_wp2
          go_ret
          exact ⟨_, rfl, by rw [HE.out]; exact World.ownsRow_nil _ _ _ _, hB⟩
      · have HE : Hid (weiL l = []) := Lib.hid (by
          unfold weiL
          rw [bwB_no (by rw [← HN.out]; exact hlt) HX.out (by simp [inB]; omega)]
          rfl)
        have hn1 : x < 0 := by omega
        go_wp2
        go_ret
        exact ⟨_, rfl, by rw [HE.out]; exact World.ownsRow_nil _ _ _ _, hB⟩
    · have hkn : k = n := by omega
      rw [hkn]
      have HF := Lib.hid (bwB_yes HN.out (hkn ▸ HO.out))
      clear hkn hk hlt
      have hnI : ¬ (n : Int) < (n : Int) := by omega
      by_cases h4 : n ≤ 4
      · have h5 : ¬ (4 : Int) < (n : Int) := by omega
        have HE : Hid (wtsL l = weiL l) := Lib.hid (by unfold weiL; rw [HF.out, ← HN.out]; simp [h4])
        have H4 : Hid (l.length ≤ 4) := Lib.hid (by rw [← HN.out]; exact h4)
        clear h4
        go_wp2_with fail
        refine (sl7w_any _ l _ (HRR.out.keep hB) HF.out H4.out).mono ?_
        rintro e w1 ⟨u, rfl, ho, hb⟩
        rw [HE.out] at ho
        replace ho := ho.mono hB.size
        replace hB := below_step hB hb
        clear hb
        go_wp2
        go_ret
        exact ⟨u, rfl, ho, hB⟩
      · have h5 : (4 : Int) < (n : Int) := by omega
        have HE : Hid (weiL l = []) := Lib.hid (by unfold weiL; rw [HF.out, ← HN.out]; simp [h4])
        clear h4
        go_wp2
        go_ret
        exact ⟨_, rfl, by rw [HE.out]; exact World.ownsRow_nil _ _ _ _, hB⟩
end Go.Proofs.Ytgelmpojbaiddaa
