/-
  A list of prefixes is marked, and its marks are found again. Conditions: those in each contract.
-/
import Derived.Test.YtbcmoofpgffbhaaF7
import Derived.Test.YtbcmoofpgffbhaaF5
namespace Go.Proofs.Ytbcmoofpgffbhaa
open Go.ChangeShapes Go.WideShapes Go.ChangeAt Go.RowKit Go.BigFrame Go.Joins
set_option linter.unusedVariables false
set_option maxRecDepth 100000
set_option linter.unusedSimpArgs false
set_option maxRecDepth 100000

/-- the first n hold the marks from k on -/
def MarkP (k : Int) (n : Nat) (l : List (Int × Int)) : Prop := ∀ i : Nat, i < n → l.getD i (0, 0) = (k + (i : Int) * 2, k + (i : Int) * 2 + 1)
theorem MarkP.next {k : Int} {n : Nat} {l : List (Int × Int)} (h : MarkP k n l) (hn : n < l.length) : MarkP k (n + 1) (l.set n (k + (n : Int) * 2, k + (n : Int) * 2 + 1)) := by
  intro i hi
  by_cases e : i = n
  · subst e
    simp [List.getD_eq_getElem?_getD, hn]
  · rw [← h i (by omega)]
    simp only [List.getD_eq_getElem?_getD, List.getElem?_set]
    rw [if_neg (by omega)]
theorem OwnP.soft {base hi b : Nat} {w w' : World} {v : Value} {l : List (Int × Int)} (h : OwnP w b v l) (s : Soft base hi w w') (hv : hi ≤ b) : OwnP w' b v l := by
  unfold OwnP at h ⊢
  refine ⟨h.1, ?_⟩
  rcases h.2 with hn | ⟨g, cap, cur, e, hb, hg, rest⟩
  · exact .inl hn
  · have hlt : g < w.heap.size := (World.ownsRow.lt h g (by rw [e]; rfl)).2
    exact .inr ⟨g, cap, cur, e, hb, (s.block g hlt (.inr (by omega))).trans hg, rest⟩
theorem markP_is (v : Value) (l : List (Int × Int)) (base : Nat) (k : Int) (w : World) (h : OwnP w base v l) (hk0 : 0 ≤ k) (hk : k + l.length * 2 ≤ 4294967296) :
    Calls Try.prog 44 #[v, .int .i64 k] w fun e w' => e = .returned (.int .i64 (k + l.length * 2)) ∧ (∃ l', l'.length = l.length ∧ MarkP k l'.length l' ∧ OwnP w' base v l') ∧ w.grownBy w' v.ownBlock := by
  have h0 := h
  unfold OwnP at h0
  rcases h.2 with ⟨rfl, hn⟩ | ⟨g, cap, cur, rfl, hb, hg, hnc, hcm, hcs, htake⟩
  · have hl : l = [] := List.eq_nil_of_length_eq_zero hn
    subst hl
    clear hn h0 hk
    go_enter Try.func44, Try.ntmps44
    go_wp2
    refine wp_loop_rounds 1 ?_
    rw [rounds_succ]
    go_wp2
    go_ret
    exact ⟨ret_int (by simp), ⟨[], rfl, fun i hi => absurd hi (by simp), h⟩, ⟨rfl, rfl, rfl, Nat.le_refl _, fun _ _ _ => rfl⟩⟩
  · clear htake hcs hg h
    obtain ⟨n, hn'⟩ : ∃ n, n = l.length := ⟨_, rfl⟩
    have h1 : ∃ l' : List (Int × Int), l'.length = n ∧ MarkP k 0 l' ∧ w.ownsRow base PT 2 (.slice (some ⟨g, 0, none⟩) n cap) n ((flat l').map (Value.int .i64)) := ⟨l, hn'.symm, fun i hi => absurd hi (by omega), by rw [hn']; exact h0⟩
    rw [← hn'] at hk hnc ⊢
    have hm : n ≤ 9223372036854775807 := by unfold maxLen at hcm; omega
    clear hn' hcm cur h0
    go_enter Try.func44, Try.ntmps44
    go_wp2
    go_loopw [1, 5] (fun q i wr => ∃ j : Nat, j ≤ n ∧ i = .int .i64 j ∧ q = .int .i64 (k + (j : Int) * 2) ∧ (∃ l' : List (Int × Int), l'.length = n ∧ MarkP k j l' ∧ wr.ownsRow base PT 2 (.slice (some ⟨g, 0, none⟩) n cap) n ((flat l').map (Value.int .i64))) ∧ w.grownBy wr (some g)) (fun _ i _ => n - (intOf i).toNat)
    case atStart => exact ⟨0, Nat.zero_le _, rfl, by simp, h1, ⟨rfl, rfl, rfl, Nat.le_refl _, fun _ _ _ => rfl⟩⟩
    case round =>
      obtain ⟨j, hj, rfl, rfl, ⟨l', hl', hmk, hown⟩, hB⟩ := hrel
      by_cases hlt : j < n
      · have hltI : (j : Int) < (n : Int) := by omega
        have hfl : ((flat l').map (Value.int .i64)).length = n * 2 := by rw [List.length_map, flat_len, hl']
        have f0 := hown.frozenAt (j * 2)
        have f1 := hown.frozenAt (j * 2 + 1)
        obtain ⟨p0, e0⟩ : ∃ p0, wr.cell? ⟨g, j * 2, none⟩ = some p0 := ⟨_, (hown.cellAt (j * 2) (by omega)).trans (List.getElem?_eq_getElem (by rw [hfl]; omega))⟩
        obtain ⟨p1, e1⟩ : ∃ p1, wr.cell? ⟨g, j * 2 + 1, none⟩ = some p1 := ⟨_, (hown.cellAt (j * 2 + 1) (by omega)).trans (List.getElem?_eq_getElem (by rw [hfl]; omega))⟩
        have s1 := hown.stored (j * 2) (.int .i64 (k + (j : Int) * 2))
        have s2 := s1.1.stored (j * 2 + 1) (.int .i64 (k + (j : Int) * 2 + 1))
        have hB2 := grown_trans (grown_trans hB s1.2) s2.2
        have hst := s2.1
        rw [map_set_flat _ j (by rw [hl']; exact hlt)] at hst
        have HST := Lib.hid hst
        have HB := Lib.hid hB2
        have HMK := Lib.hid (hmk.next (by rw [hl']; exact hlt))
        have HL : Hid ((l'.set j (k + (j : Int) * 2, k + (j : Int) * 2 + 1)).length = n) := Lib.hid (by rw [List.length_set, hl'])
        clear s1 s2 hst hB2 hown hB hfl hl' hmk
        go_wp2
        go_roundw
        case rel => exact ⟨j + 1, by omega, by go_num, by congr 1; omega, ⟨_, HL.out, HMK.out, HST.out⟩, HB.out⟩
        case measure => simp [intOf]; omega
      · have hjn : j = n := by omega
        subst hjn
        go_wp2
        go_ret
        exact ⟨rfl, ⟨l', hl', by rw [hl']; exact hmk, by unfold OwnP; rw [hl']; exact hown⟩, hB⟩
theorem heldP_is (v : Value) (l : List (Int × Int)) (k : Int) (w : World) (h : RdP w v l) (hm : MarkP k l.length l) (hn : l.length ≤ 1048576) (hk0 : 0 ≤ k) (hk : k ≤ 1) :
    Calls Try.prog 46 #[v, .int .i64 k] w fun e w' => e = .returned (.int .i64 (k + l.length * 2)) ∧ Below w.heap.size w w' := by
  obtain ⟨a, c, rfl, hc⟩ := h.el
  obtain ⟨n, hn'⟩ : ∃ n, n = l.length := ⟨_, rfl⟩
  rw [← hn'] at hc hm hn ⊢
  clear hn' h
  have HM := Lib.hid hm
  clear hm
  go_enter Try.func46, Try.ntmps46
  go_wp2
  go_loopw [1, 5] (fun q i wr => ∃ j : Nat, j ≤ n ∧ i = .int .i64 j ∧ q = .int .i64 (k + (j : Int) * 2) ∧ Below w.heap.size w wr) (fun _ i _ => n - (intOf i).toNat)
  case atStart => exact ⟨0, Nat.zero_le _, rfl, by simp, Below.refl _ _⟩
  case round =>
    obtain ⟨j, hj, rfl, rfl, hB⟩ := hrel
    by_cases hlt : j < n
    · have hltI : (j : Int) < (n : Int) := by omega
      obtain ⟨b, o, rfl, g0, g1⟩ := hc j hlt
      rw [HM.out j hlt] at g0 g1
      dsimp only at g0 g1
      replace g0 := cell_keep hB (World.block_lt_of_cell? _ _ g0) g0
      replace g1 := cell_keep hB (World.block_lt_of_cell? _ _ g1) g1
      have hw1 : IntKind.i64.wrap (k + (j : Int) * 2 + 1) = k + (j : Int) * 2 + 1 := wrap64_in _ (by omega) (by omega)
      have hw2 : IntKind.i64.wrap (k + (j : Int) * 2 + 1 + 1) = k + (j : Int) * 2 + 1 + 1 := wrap64_in _ (by omega) (by omega)
      have hb0 : (k + (j : Int) * 2 != k + (j : Int) * 2) = false := by simp
      have hb1 : (k + (j : Int) * 2 + 1 != k + (j : Int) * 2 + 1) = false := by simp
      clear hc
      go_wp2
      go_roundw
      case rel => exact ⟨j + 1, by omega, by go_num, by congr 1; omega, hB⟩
      case measure => simp [intOf]; omega
    · have hjn : j = n := by omega
      subst hjn
      clear hc
      go_wp2
      go_ret
      exact ⟨rfl, hB⟩
theorem irp_any (v : Value) (L : List Ent) (w : World) (h : RdE w v L) :
    Calls Try.prog 74 #[.agg #[v]] w fun e w' => ∃ u, e = .returned u ∧ OwnP w' w.heap.size u (ansP L) ∧ Below w.heap.size w w' := by
  by_cases hb : ribB L = true
  · refine irp_of v L w h (fun base w1 u ho => ?_)
    have c := comp_any base u (pfx L) w1 ho (by rw [pfx_len]; have := ribB_len hb; omega)
    rw [pfx_len] at c
    exact c
  · have hb' : ribB L = false := by simpa using hb
    rw [ansP_no hb']
    obtain ⟨bR, B0, z⟩ := one w [v] 46
    clear z
    obtain ⟨a, c, rfl, -⟩ := h.el
    have HB := Lib.hid hb'
    clear hb hb'
    go_enter Try.func74, Try.ntmps74
    go_wp2_with fail
    refine (irib_t _ (h.keep B0) HB).mono ?_
    rintro e w1 ⟨rfl, hb1⟩
    replace B0 := below_step B0 hb1
    clear hb1
    go_wp2
    go_ret
    exact ⟨_, rfl, World.ownsRow_nil _ _ _ _, B0⟩
end Go.Proofs.Ytbcmoofpgffbhaa
