/-
  Slices of ints: what one reads as; contracts of the laws' own functions that copy, compare, mark and ask such slices. Conditions: those in each contract.
-/
import Derived.Test.YtcmbajphholliabDoorB3
import Derived.LoopN
import Derived.Laws.OwnMore
import Derived.Laws.MakeOwn
import Derived.Deep.OwnRows
namespace Go.Proofs.YtcmbajphholliabDoor
open Go.ChangeShapes Go.WideShapes Go.ChangeAt Go.RowKit Go.BigFrame
set_option linter.unusedVariables false
set_option maxRecDepth 100000

/-- the slice value v reads as the ints l -/
def RdI (w : World) (v : Value) (l : List Int) : Prop :=
  (∀ x ∈ l, -9223372036854775808 ≤ x ∧ x ≤ 9223372036854775807) ∧ l.length ≤ maxLen ∧
  ((∃ a c, v = .slice a 0 c ∧ l = [] ∧ (a = none → c = 0)) ∨
   ∃ b o c, v = .slice (some ⟨b, o, none⟩) l.length c ∧ 0 < l.length ∧ ∀ i, i < l.length → w.cell? ⟨b, o + i, none⟩ = some (.int .i64 (l.getD i 0)))

theorem RdI.keep {w w' : World} {v : Value} {l : List Int} (h : RdI w v l) (hb : Below w.heap.size w w') : RdI w' v l := by
  obtain ⟨h1, h2, h3⟩ := h
  refine ⟨h1, h2, ?_⟩
  rcases h3 with h3 | ⟨b, o, c, hv, hp, hc⟩
  · exact .inl h3
  · refine .inr ⟨b, o, c, hv, hp, fun i hi => ?_⟩
    exact cell_keep hb (World.block_lt_of_cell? w _ (hc i hi)) (hc i hi)
theorem RdI.len {w : World} {v : Value} {l : List Int} (h : RdI w v l) : ∃ a c, v = .slice a l.length c := by
  rcases h.2.2 with ⟨a, c, rfl, rfl, hac⟩ | ⟨b, o, c, rfl, _⟩
  · exact ⟨a, c, rfl⟩
  · exact ⟨_, c, rfl⟩
theorem getD_bd_I {l : List Int} (h : ∀ x ∈ l, -9223372036854775808 ≤ x ∧ x ≤ 9223372036854775807) (i : Nat) : -9223372036854775808 ≤ l.getD i 0 ∧ l.getD i 0 ≤ 9223372036854775807 := by
  by_cases hi : i < l.length
  · have e : l.getD i 0 = l[i] := by simp [List.getD, hi]
    rw [e]; exact h _ (List.getElem_mem hi)
  · simp [List.getD, List.getElem?_eq_none (by omega : l.length ≤ i)]
theorem take_eq_succ_I {l m : List Int} {k : Nat} (h : l.take k = m.take k) (h1 : k < l.length) (h2 : k < m.length) (he : l.getD k 0 = m.getD k 0) : l.take (k + 1) = m.take (k + 1) := by
  rw [List.take_succ_eq_append_getElem h1, List.take_succ_eq_append_getElem h2, h]
  have a : l.getD k 0 = l[k] := by simp [List.getD, h1]
  have b : m.getD k 0 = m[k] := by simp [List.getD, h2]
  rw [← a, ← b, he]

/-- the bytes that a marking leaves: k, k + 1, .. -/
def imarks (k : Int) (n : Nat) : List Int := (List.range n).map fun (i : Nat) => (k + (i : Int))
theorem imarks_len (k : Int) (n : Nat) : (imarks k n).length = n := by simp [imarks]
theorem imarks_succ (k : Int) (n : Nat) : imarks k (n + 1) = imarks k n ++ [(k + (n : Int))] := by simp [imarks, List.range_succ]
theorem imarks_getD (k : Int) (n i : Nat) (h : i < n) : (imarks k n).getD i 0 = (k + (i : Int)) := by simp [imarks, List.getD, h]
theorem imarks_bd (k : Int) (n : Nat) (h0 : 0 ≤ k) (h : k + n ≤ 4294967296) : ∀ x ∈ imarks k n, -9223372036854775808 ≤ x ∧ x ≤ 9223372036854775807 := by
  intro x hx
  simp only [imarks, List.mem_map, List.mem_range] at hx
  obtain ⟨i, _, rfl⟩ := hx
  omega
theorem set_marks_I (k : Int) (l : List Int) (j : Nat) (h : j < l.length) : (imarks k j ++ l.drop j).set j ((k + (j : Int))) = imarks k (j + 1) ++ l.drop (j + 1) := by
  rw [List.set_append_right _ _ (by rw [imarks_len]; exact Nat.le_refl _), imarks_len, Nat.sub_self, List.drop_eq_getElem_cons h, List.set_cons_zero, imarks_succ]
  simp

abbrev IT : TypeId := 3
/-- the bytes l in a row that the call made -/
def OwnI (w : World) (base : Nat) (v : Value) (l : List Int) : Prop := w.ownsRow base IT 1 v l.length (l.map (Value.int .i64))

theorem OwnI.rd {w : World} {base : Nat} {v : Value} {l : List Int} (h : OwnI w base v l) (hl : ∀ x ∈ l, -9223372036854775808 ≤ x ∧ x ≤ 9223372036854775807) : RdI w v l := by
  have h0 := h
  unfold OwnI at h0
  rcases h.2 with ⟨rfl, hn⟩ | ⟨g, cap, cur, rfl, hb, hg, hnc, hcm, hcs, htake⟩
  · exact ⟨hl, by omega, .inl ⟨none, 0, by rw [], List.eq_nil_of_length_eq_zero hn, fun _ => rfl⟩⟩
  · refine ⟨hl, Nat.le_trans hnc hcm, ?_⟩
    by_cases hz : l.length = 0
    · exact .inl ⟨some ⟨g, 0, none⟩, cap, by rw [hz], List.eq_nil_of_length_eq_zero hz, fun h => by cases h⟩
    · refine .inr ⟨g, 0, cap, rfl, by omega, fun i hi => ?_⟩
      rw [Nat.zero_add, h0.cellAt i (by omega)]
      simp [List.getD, hi]
theorem OwnI.keep {w w' : World} {base : Nat} {v : Value} {l : List Int} (h : OwnI w base v l) (hb : Below w.heap.size w w') : OwnI w' base v l :=
  World.ownsRow.kept (row := none) h ⟨hb.os, hb.tape, hb.output, hb.size, fun k hk _ => hb.block k hk⟩ (by cases v.ownBlock <;> simp)
theorem OwnI.mono {w : World} {base base' : Nat} {v : Value} {l : List Int} (h : OwnI w base v l) (hb : base' ≤ base) : OwnI w base' v l := by
  refine ⟨h.1, ?_⟩
  rcases h.2 with hn | ⟨g, cap, cur, hv, hg, rest⟩
  · exact .inl hn
  · exact .inr ⟨g, cap, cur, hv, by omega, rest⟩

theorem infoB_I : (Tryd.prog.info? IT).map (fun i => (i.zero, i.size, i.bytes)) = some (some (.int .i64 0), 1, 8) := by kernel_rfl
theorem OwnI.lit {base : Nat} (w : World) (cs : Array Value) (l : List Int) (hb : base ≤ w.heap.size) (hm : l.length ≤ maxLen) (h : cs.toList = l.map (Value.int .i64)) :
    OwnI (w.alloc (.cells cs IT)) base (.slice (some ⟨w.heap.size, 0, none⟩) l.length l.length) l := by
  have hs : cs.size = l.length * 1 := by rw [← Array.length_toList, h]; simp
  have := World.ownsRow_lit (e := IT) (size := 1) w cs l.length hb hm hs
  rw [h] at this
  exact this
theorem toList_madeB_I (n : Nat) : (madeCells #[Value.int .i64 0] n).toList = (List.replicate n (0 : Int)).map (Value.int .i64) := by
  rw [toList_madeCells_one]; simp

theorem set_copied_I (l : List Int) (j n : Nat) (hn : n = l.length) (h : j < n) : (l.take j ++ List.replicate (n - j) 0).set j (l.getD j 0) = l.take (j + 1) ++ List.replicate (n - (j + 1)) 0 := by
  subst hn
  have ht : (l.take j).length = j := by simp; omega
  rw [List.set_append_right _ _ (by rw [ht]; exact Nat.le_refl _), ht, Nat.sub_self, show l.length - j = (l.length - (j + 1)) + 1 by omega, List.replicate_succ, List.set_cons_zero, List.take_succ_eq_append_getElem h, List.append_assoc]
  have e : l.getD j 0 = l[j] := by simp [List.getD, h]
  rw [e]
  rfl
theorem map_set_u8_I (xs : List Int) (j : Nat) (x : Int) : (xs.map (Value.int .i64)).set j (.int .i64 x) = (xs.set j x).map (Value.int .i64) := by rw [List.map_set]

end Go.Proofs.YtcmbajphholliabDoor
