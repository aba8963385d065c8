/-
  Membership: the model's own loop and the library's search, of the program and of the model. Conditions: those in each contract.
-/
import Derived.Test.YtcmbajphholliabDoorI5
import Derived.Test.YtcmbajphholliabDoorShelf
import Derived.Shelf.SlicesG.SearchI
namespace Go.Proofs.YtcmbajphholliabDoor
open Go.ChangeShapes Go.WideShapes Go.ChangeAt Go.RowKit Go.BigFrame Go.Joins
set_option linter.unusedVariables false
set_option maxRecDepth 100000

def searchRen : Go.Shelf.Ren := ⟨fun | 49 => 77 | 59 => 103 | 60 => 104 | 68 => 69 | n => n, fun | 0 => 0 | 3 => 3 | 4 => 4 | 22 => 88 | 23 => 3 | 51 => 119 | n => n, fun | n => n⟩
theorem searchLays : Go.Proofs.SlLaysN.n49 Tryd.prog searchRen := {
  mixed := by kernel_rfl
  f49 := ⟨"slices.BinarySearch[loop.example/g00557/impl.set[int],int]", (by kernel_rfl), Tryd.func77.trans (congrArg some (by kernel_rfl))⟩
  f59 := ⟨"cmp.Less[int]", (by kernel_rfl), Tryd.func103.trans (congrArg some (by kernel_rfl))⟩
  f60 := ⟨"slices.isNaN[int]", (by kernel_rfl), Tryd.func104.trans (congrArg some (by kernel_rfl))⟩
  f68 := ⟨"cmp.isNaN[int]", (by kernel_rfl), Tryd.func69.trans (congrArg some (by kernel_rfl))⟩
  t0 := Tryd.underlying0
  a0 := Tryd.isAgg0
  z0 := Tryd.sizeOf0
  v0 := Tryd.zeroValue0
  t3 := Tryd.underlying3
  a3 := Tryd.isAgg3
  z3 := Tryd.sizeOf3
  v3 := Tryd.zeroValue3
  t4 := Tryd.underlying4
  a4 := Tryd.isAgg4
  z4 := Tryd.sizeOf4
  v4 := Tryd.zeroValue4
  t22 := Tryd.underlying88
  a22 := Tryd.isAgg88
  z22 := Tryd.sizeOf88
  v22 := Tryd.zeroValue88
  t23 := Tryd.underlying3
  a23 := Tryd.isAgg3
  z23 := Tryd.sizeOf3
  v23 := Tryd.zeroValue3
  t51 := Tryd.underlying119
  a51 := Tryd.isAgg119
  z51 := Tryd.sizeOf119
  v51 := Tryd.zeroValue119 }
theorem search_any (v : Value) (l : List Int) (x : Int) (w : World) (h : RdI w v l) (hn : l.length ≤ 4) (hs : l.Pairwise (· ≤ ·)) :
    Calls Tryd.prog 77 #[v, .int .i64 x] w fun e w' => e = .returned (.tuple #[.int .i64 (l.countP (· < x) : Nat), .bool (decide (x ∈ l))]) ∧ Below w.heap.size w w' := by
  rcases h.2.2 with ⟨a, c, rfl, rfl, hac⟩ | ⟨b, o, c, rfl, hp, hc⟩
  · clear h hs hn
    go_enter Tryd.func77, Tryd.ntmps77
    go_wp2
    refine wp_loop_rounds 1 ?_
    rw [rounds_succ]
    go_wp2
    first | (go_quiet (fail); go_wp2) | skip
    go_ret2
    exact ⟨rfl, by first | exact Below.refl _ _ | exact below_drewN (Below.refl _ _) _⟩
  · have := Go.Proofs.AnyG.slices_BinarySearch_int searchLays b o l.length c l x w (Nat.le_refl _) (by omega) hc (by rw [List.take_length]; exact hs)
    rw [List.take_length, List.contains_eq_mem] at this
    refine this.mono fun e w' ⟨he, q, hw⟩ => ⟨he, ?_⟩
    rw [hw]
    exact below_drewN (Below.refl _ _) _
theorem sethas_any (v : Value) (l : List Int) (x : Int) (w : World) (h : RdI w v l) (hn : l.length ≤ 4) (hs : l.Pairwise (· ≤ ·)) :
    Calls Tryd.prog 56 #[v, .int .i64 x] w fun e w' => e = .returned (.bool (decide (x ∈ l))) ∧ Below w.heap.size w w' := by
  go_enter Tryd.func56, Tryd.ntmps56
  go_wp2_with fail
  refine (search_any v l x _ h hn hs).mono ?_
  rintro e w1 ⟨rfl, hb⟩
  go_wp2
  go_ret
  exact ⟨rfl, hb⟩
theorem contains_any (v : Value) (l : List Int) (x : Int) (w : World) (h : RdI w v l) :
    Calls Tryd.prog 55 #[v, .int .i64 x] w fun e w' => e = .returned (.bool (decide (x ∈ l))) ∧ Below w.heap.size w w' := by
  have hm := h.2.1
  unfold maxLen at hm
  rcases h.2.2 with ⟨a, c, rfl, rfl, hac⟩ | ⟨b, o, c, rfl, hp, hc⟩
  · exact (Tryd.slices_Contains_int_empty a c x w).mono fun e w' ⟨he, hw⟩ => ⟨he, hw ▸ Below.refl _ _⟩
  · have := Tryd.slices_Contains_int b o l.length c l x w (Nat.le_refl _) (by omega) hc
    rw [List.take_length, List.contains_eq_mem] at this
    exact this.mono fun e w' ⟨he, hw⟩ => ⟨he, hw ▸ Below.refl _ _⟩
theorem contains_yes {l : List Int} {k : Nat} {x : Int} (hk : k < l.length) (hx : l.getD k 0 = x) : decide (x ∈ l) = true := by
  have e : l.getD k 0 = l[k] := by simp [List.getD, hk]
  rw [e] at hx
  simp only [decide_eq_true_eq]
  rw [← hx]
  exact List.getElem_mem hk
theorem contains_no {l : List Int} {n : Nat} {x : Int} (hn : n = l.length) (h : ∀ i, i < n → l.getD i 0 ≠ x) : decide (x ∈ l) = false := by
  cases hc : decide (x ∈ l)
  · rfl
  · simp only [decide_eq_true_eq] at hc
    obtain ⟨i, hi, e⟩ := List.mem_iff_getElem.1 hc
    have := h i (by omega)
    have e2 : l.getD i 0 = l[i] := by simp [List.getD, hi]
    rw [e2, e] at this
    exact absurd rfl this
end Go.Proofs.YtcmbajphholliabDoor
