/-
  Slices of bytes: what one reads as; contracts of the laws' own functions that copy, compare, mark and ask such slices. Conditions: those in each contract.
-/
import Derived.Test.YtaiffofmhfflkaaGreatW2
import Derived.LoopN
import Derived.Laws.OwnMore
import Derived.Laws.MakeOwn
import Derived.Deep.OwnRows
namespace Go.Proofs.YtaiffofmhfflkaaGreat
open Go.ChangeShapes Go.WideShapes Go.ChangeAt Go.RowKit Go.BigFrame
set_option linter.unusedVariables false
set_option maxRecDepth 100000

/-- the slice value v reads as the bytes l -/
def Rd (w : World) (v : Value) (l : List Int) : Prop :=
  (∀ x ∈ l, 0 ≤ x ∧ x ≤ 255) ∧ l.length ≤ maxLen ∧
  ((∃ a c, v = .slice a 0 c ∧ l = [] ∧ (a = none → c = 0)) ∨
   ∃ b o c, v = .slice (some ⟨b, o, none⟩) l.length c ∧ 0 < l.length ∧ ∀ i, i < l.length → w.cell? ⟨b, o + i, none⟩ = some (.int .u8 (l.getD i 0)))

theorem Rd.keep {w w' : World} {v : Value} {l : List Int} (h : Rd w v l) (hb : Below w.heap.size w w') : Rd w' v l := by
  obtain ⟨h1, h2, h3⟩ := h
  refine ⟨h1, h2, ?_⟩
  rcases h3 with h3 | ⟨b, o, c, hv, hp, hc⟩
  · exact .inl h3
  · refine .inr ⟨b, o, c, hv, hp, fun i hi => ?_⟩
    exact cell_keep hb (World.block_lt_of_cell? w _ (hc i hi)) (hc i hi)
theorem Rd.len {w : World} {v : Value} {l : List Int} (h : Rd w v l) : ∃ a c, v = .slice a l.length c := by
  rcases h.2.2 with ⟨a, c, rfl, rfl, hac⟩ | ⟨b, o, c, rfl, _⟩
  · exact ⟨a, c, rfl⟩
  · exact ⟨_, c, rfl⟩
theorem getD_bd {l : List Int} (h : ∀ x ∈ l, 0 ≤ x ∧ x ≤ 255) (i : Nat) : 0 ≤ l.getD i 0 ∧ l.getD i 0 ≤ 255 := by
  by_cases hi : i < l.length
  · have e : l.getD i 0 = l[i] := by simp [List.getD, hi]
    rw [e]; exact h _ (List.getElem_mem hi)
  · simp [List.getD, List.getElem?_eq_none (by omega : l.length ≤ i)]
theorem take_eq_succ {l m : List Int} {k : Nat} (h : l.take k = m.take k) (h1 : k < l.length) (h2 : k < m.length) (he : l.getD k 0 = m.getD k 0) : l.take (k + 1) = m.take (k + 1) := by
  rw [List.take_succ_eq_append_getElem h1, List.take_succ_eq_append_getElem h2, h]
  have a : l.getD k 0 = l[k] := by simp [List.getD, h1]
  have b : m.getD k 0 = m[k] := by simp [List.getD, h2]
  rw [← a, ← b, he]

/-- the bytes that a marking leaves: k, k + 1, .. -/
def marks (k : Int) (n : Nat) : List Int := (List.range n).map fun (i : Nat) => (k + (i : Int)) % 256
theorem marks_len (k : Int) (n : Nat) : (marks k n).length = n := by simp [marks]
theorem marks_succ (k : Int) (n : Nat) : marks k (n + 1) = marks k n ++ [(k + (n : Int)) % 256] := by simp [marks, List.range_succ]
theorem marks_getD (k : Int) (n i : Nat) (h : i < n) : (marks k n).getD i 0 = (k + (i : Int)) % 256 := by simp [marks, List.getD, h]
theorem marks_bd (k : Int) (n : Nat) : ∀ x ∈ marks k n, 0 ≤ x ∧ x ≤ 255 := by
  intro x hx
  simp only [marks, List.mem_map] at hx
  obtain ⟨i, _, rfl⟩ := hx
  omega
theorem set_marks (k : Int) (l : List Int) (j : Nat) (h : j < l.length) : (marks k j ++ l.drop j).set j ((k + (j : Int)) % 256) = marks k (j + 1) ++ l.drop (j + 1) := by
  rw [List.set_append_right _ _ (by rw [marks_len]; exact Nat.le_refl _), marks_len, Nat.sub_self, List.drop_eq_getElem_cons h, List.set_cons_zero, marks_succ]
  simp

abbrev BT : TypeId := 5
/-- the bytes l in a row that the call made -/
def Own (w : World) (base : Nat) (v : Value) (l : List Int) : Prop := w.ownsRow base BT 1 v l.length (l.map (Value.int .u8))

theorem Own.rd {w : World} {base : Nat} {v : Value} {l : List Int} (h : Own w base v l) (hl : ∀ x ∈ l, 0 ≤ x ∧ x ≤ 255) : Rd w v l := by
  have h0 := h
  unfold Own at h0
  rcases h.2 with ⟨rfl, hn⟩ | ⟨g, cap, cur, rfl, hb, hg, hnc, hcm, hcs, htake⟩
  · exact ⟨hl, by omega, .inl ⟨none, 0, by rw [], List.eq_nil_of_length_eq_zero hn, fun _ => rfl⟩⟩
  · refine ⟨hl, Nat.le_trans hnc hcm, ?_⟩
    by_cases hz : l.length = 0
    · exact .inl ⟨some ⟨g, 0, none⟩, cap, by rw [hz], List.eq_nil_of_length_eq_zero hz, fun h => by cases h⟩
    · refine .inr ⟨g, 0, cap, rfl, by omega, fun i hi => ?_⟩
      rw [Nat.zero_add, h0.cellAt i (by omega)]
      simp [List.getD, hi]
/-- the slice's room -/
def Cap (u : Value) (xs : List Int) : Prop := ∃ a c, u = .slice a xs.length c ∧ xs.length ≤ c
theorem Own.cap {w : World} {base : Nat} {v : Value} {xs : List Int} (h : Own w base v xs) : Cap v xs := by
  rcases h.2 with ⟨hv, hn⟩ | ⟨g, cap, cur, hv, hb, hg, hnc, hcm, _⟩
  · exact ⟨none, 0, by rw [hv, hn], by omega⟩
  · exact ⟨_, cap, hv, hnc⟩
theorem Own.keep {w w' : World} {base : Nat} {v : Value} {l : List Int} (h : Own w base v l) (hb : Below w.heap.size w w') : Own w' base v l :=
  World.ownsRow.kept (row := none) h ⟨hb.os, hb.tape, hb.output, hb.size, fun k hk _ => hb.block k hk⟩ (by cases v.ownBlock <;> simp)
theorem Own.mono {w : World} {base base' : Nat} {v : Value} {l : List Int} (h : Own w base v l) (hb : base' ≤ base) : Own w base' v l := by
  refine ⟨h.1, ?_⟩
  rcases h.2 with hn | ⟨g, cap, cur, hv, hg, rest⟩
  · exact .inl hn
  · exact .inr ⟨g, cap, cur, hv, by omega, rest⟩

theorem infoB : (Tryz.prog.info? BT).map (fun i => (i.zero, i.size, i.bytes)) = some (some (.int .u8 0), 1, 1) := by kernel_rfl
theorem Own.lit {base : Nat} (w : World) (cs : Array Value) (l : List Int) (hb : base ≤ w.heap.size) (hm : l.length ≤ maxLen) (h : cs.toList = l.map (Value.int .u8)) :
    Own (w.alloc (.cells cs BT)) base (.slice (some ⟨w.heap.size, 0, none⟩) l.length l.length) l := by
  have hs : cs.size = l.length * 1 := by rw [← Array.length_toList, h]; simp
  have := World.ownsRow_lit (e := BT) (size := 1) w cs l.length hb hm hs
  rw [h] at this
  exact this
theorem toList_madeB (n : Nat) : (madeCells #[Value.int .u8 0] n).toList = (List.replicate n (0 : Int)).map (Value.int .u8) := by
  rw [toList_madeCells_one]; simp

theorem set_copied (l : List Int) (j n : Nat) (hn : n = l.length) (h : j < n) : (l.take j ++ List.replicate (n - j) 0).set j (l.getD j 0) = l.take (j + 1) ++ List.replicate (n - (j + 1)) 0 := by
  subst hn
  have ht : (l.take j).length = j := by simp; omega
  rw [List.set_append_right _ _ (by rw [ht]; exact Nat.le_refl _), ht, Nat.sub_self, show l.length - j = (l.length - (j + 1)) + 1 by omega, List.replicate_succ, List.set_cons_zero, List.take_succ_eq_append_getElem h, List.append_assoc]
  have e : l.getD j 0 = l[j] := by simp [List.getD, h]
  rw [e]
  rfl
theorem map_set_u8 (xs : List Int) (j : Nat) (x : Int) : (xs.map (Value.int .u8)).set j (.int .u8 x) = (xs.set j x).map (Value.int .u8) := by rw [List.map_set]

end Go.Proofs.YtaiffofmhfflkaaGreat
