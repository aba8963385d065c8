/-
  Membership: the model's own loop and the library's search, of the program and of the model. Conditions: those in each contract.
-/
import Derived.Test.YtaiffofmhfflkaaGreatI5
import Derived.Test.YtaiffofmhfflkaaGreatShelf
import Derived.Shelf.SlicesG.SearchI
namespace Go.Proofs.YtaiffofmhfflkaaGreat
open Go.ChangeShapes Go.WideShapes Go.ChangeAt Go.RowKit Go.BigFrame Go.Joins
set_option linter.unusedVariables false
set_option maxRecDepth 100000

def searchRen : Go.Shelf.Ren := ⟨fun | 49 => 215 | 59 => 219 | 60 => 220 | 68 => 212 | n => n, fun | 0 => 0 | 3 => 3 | 4 => 4 | 22 => 209 | 23 => 3 | 51 => 218 | n => n, fun | n => n⟩
theorem searchLays : Go.Proofs.SlLaysN.n49 Tryz.prog searchRen := {
  mixed := by kernel_rfl
  f49 := ⟨"slices.BinarySearch[loop.example/g00557/impl.set[int],int]", (by kernel_rfl), Tryz.func215.trans (congrArg some (by kernel_rfl))⟩
  f59 := ⟨"cmp.Less[int]", (by kernel_rfl), Tryz.func219.trans (congrArg some (by kernel_rfl))⟩
  f60 := ⟨"slices.isNaN[int]", (by kernel_rfl), Tryz.func220.trans (congrArg some (by kernel_rfl))⟩
  f68 := ⟨"cmp.isNaN[int]", (by kernel_rfl), Tryz.func212.trans (congrArg some (by kernel_rfl))⟩
  t0 := Tryz.underlying0
  a0 := Tryz.isAgg0
  z0 := Tryz.sizeOf0
  v0 := Tryz.zeroValue0
  t3 := Tryz.underlying3
  a3 := Tryz.isAgg3
  z3 := Tryz.sizeOf3
  v3 := Tryz.zeroValue3
  t4 := Tryz.underlying4
  a4 := Tryz.isAgg4
  z4 := Tryz.sizeOf4
  v4 := Tryz.zeroValue4
  t22 := Tryz.underlying209
  a22 := Tryz.isAgg209
  z22 := Tryz.sizeOf209
  v22 := Tryz.zeroValue209
  t23 := Tryz.underlying3
  a23 := Tryz.isAgg3
  z23 := Tryz.sizeOf3
  v23 := Tryz.zeroValue3
  t51 := Tryz.underlying218
  a51 := Tryz.isAgg218
  z51 := Tryz.sizeOf218
  v51 := Tryz.zeroValue218 }
theorem search_any (v : Value) (l : List Int) (x : Int) (w : World) (h : RdI w v l) (hn : l.length ≤ 4) (hs : l.Pairwise (· ≤ ·)) :
    Calls Tryz.prog 215 #[v, .int .i64 x] w fun e w' => e = .returned (.tuple #[.int .i64 (l.countP (· < x) : Nat), .bool (decide (x ∈ l))]) ∧ Below w.heap.size w w' := by
  rcases h.2.2 with ⟨a, c, rfl, rfl, hac⟩ | ⟨b, o, c, rfl, hp, hc⟩
  · clear h hs hn
    go_enter Tryz.func215, Tryz.ntmps215
    go_wp2
    refine wp_loop_rounds 1 ?_
    rw [rounds_succ]
    go_wp2
    first | (go_quiet (fail); go_wp2) | skip
    go_ret2
    exact ⟨rfl, by first | exact Below.refl _ _ | exact below_drewN (Below.refl _ _) _⟩
  · have := Go.Proofs.AnyG.slices_BinarySearch_int searchLays b o l.length c l x w (Nat.le_refl _) (by omega) hc (by rw [List.take_length]; exact hs)
    rw [List.take_length, List.contains_eq_mem] at this
    refine this.mono fun e w' ⟨he, q, hw⟩ => ⟨he, ?_⟩
    rw [hw]
    exact below_drewN (Below.refl _ _) _
theorem sethas_any (v : Value) (l : List Int) (x : Int) (w : World) (h : RdI w v l) (hn : l.length ≤ 4) (hs : l.Pairwise (· ≤ ·)) :
    Calls Tryz.prog 211 #[v, .int .i64 x] w fun e w' => e = .returned (.bool (decide (x ∈ l))) ∧ Below w.heap.size w w' := by
  go_enter Tryz.func211, Tryz.ntmps211
  go_wp2_with fail
  refine (search_any v l x _ h hn hs).mono ?_
  rintro e w1 ⟨rfl, hb⟩
  go_wp2
  go_ret
  exact ⟨rfl, hb⟩
theorem contains_any (v : Value) (l : List Int) (x : Int) (w : World) (h : RdI w v l) :
    Calls Tryz.prog 149 #[v, .int .i64 x] w fun e w' => e = .returned (.bool (decide (x ∈ l))) ∧ Below w.heap.size w w' := by
  have hm := h.2.1
  unfold maxLen at hm
  rcases h.2.2 with ⟨a, c, rfl, rfl, hac⟩ | ⟨b, o, c, rfl, hp, hc⟩
  · exact (Tryz.slices_Contains_int_empty a c x w).mono fun e w' ⟨he, hw⟩ => ⟨he, hw ▸ Below.refl _ _⟩
  · have := Tryz.slices_Contains_int b o l.length c l x w (Nat.le_refl _) (by omega) hc
    rw [List.take_length, List.contains_eq_mem] at this
    exact this.mono fun e w' ⟨he, hw⟩ => ⟨he, hw ▸ Below.refl _ _⟩
theorem contains_yes {l : List Int} {k : Nat} {x : Int} (hk : k < l.length) (hx : l.getD k 0 = x) : decide (x ∈ l) = true := by
  have e : l.getD k 0 = l[k] := by simp [List.getD, hk]
  rw [e] at hx
  simp only [decide_eq_true_eq]
  rw [← hx]
  exact List.getElem_mem hk
theorem contains_no {l : List Int} {n : Nat} {x : Int} (hn : n = l.length) (h : ∀ i, i < n → l.getD i 0 ≠ x) : decide (x ∈ l) = false := by
  cases hc : decide (x ∈ l)
  · rfl
  · simp only [decide_eq_true_eq] at hc
    obtain ⟨i, hi, e⟩ := List.mem_iff_getElem.1 hc
    have := h i (by omega)
    have e2 : l.getD i 0 = l[i] := by simp [List.getD, hi]
    rw [e2, e] at this
    exact absurd rfl this
theorem shas_any (v : Value) (l : List Int) (x : Int) (w : World) (h : RdI w v l) :
    Calls Tryz.prog 105 #[v, .int .i64 x] w fun e w' => e = .returned (.bool (decide (x ∈ l))) ∧ Below w.heap.size w w' := by
  have hm := h.2.1
  unfold maxLen at hm
  obtain ⟨a, c, rfl, hc⟩ := h.el
  obtain ⟨n, hn⟩ : ∃ n, n = l.length := ⟨_, rfl⟩
  rw [← hn] at hc hm ⊢
  have HN := Lib.hid hn
  clear h hn
  go_enter Tryz.func105, Tryz.ntmps105
  go_wp2
  go_loopw [5] (fun q wr => ∃ k : Nat, k ≤ n ∧ q = .int .i64 k ∧ (∀ i, i < k → l.getD i 0 ≠ x) ∧ Below w.heap.size w wr) (fun q _ => n - (intOf q).toNat)
  case atStart => exact ⟨0, Nat.zero_le _, rfl, fun i hi => by omega, Below.refl _ _⟩
  case round =>
    obtain ⟨k, hk, rfl, hall, hB⟩ := hrel
    have HA := Lib.hid hall
    clear hall
    by_cases hlt : k < n
    · have hltI : (k : Int) < (n : Int) := by omega
      obtain ⟨b, o, rfl, e1⟩ := hc k hlt
      replace e1 := cell_keep hB (World.block_lt_of_cell? w _ e1) e1
      obtain ⟨y, hy⟩ : ∃ y, l.getD k 0 = y := ⟨_, rfl⟩
      rw [hy] at e1
      have HX := Lib.hid hy
      clear hy hc
      by_cases hyx : y = x
      · have HF := Lib.hid (contains_yes (by rw [← HN.out]; exact hlt) (HX.out.trans hyx))
        have hq : (y == x) = true := by simp [hyx]
        clear hyx
        go_wp2
        first | (go_quiet (fail); go_wp2) | skip
        go_ret
        exact ⟨ret_bool HF.out.symm, by first | exact hB | exact below_drewN hB _⟩
      · have hq : (y == x) = false := by simp [hyx]
        have HL := Lib.hid hyx
        clear hyx
        go_wp2
        first | (go_quiet (fail); go_wp2) | skip
        go_roundw
        case rel => exact ⟨k + 1, by omega, by go_num, fun i hi => by
            by_cases e : i = k
            · rw [e, HX.out]; exact HL.out
            · exact HA.out i (by omega), by first | exact hB | exact below_drewN hB _⟩
        case measure => simp [intOf]; omega
    · have hkn : k = n := by omega
      have HF := Lib.hid (contains_no HN.out (by rw [← hkn]; exact HA.out))
      clear hkn hc
      go_wp2
      go_ret
      exact ⟨ret_bool HF.out.symm, hB⟩
end Go.Proofs.YtaiffofmhfflkaaGreat
