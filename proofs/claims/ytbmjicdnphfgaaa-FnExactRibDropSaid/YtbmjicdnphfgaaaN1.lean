/-
  Slices of prefixes: what one reads as; contracts of the laws' own functions that copy, compare and size them. Conditions: those in each contract.
-/
import Derived.Test.YtbmjicdnphfgaaaI2
import Derived.Test.YtbmjicdnphfgaaaG2
import Derived.Deep.SlicePairs
namespace Go.Proofs.Ytbmjicdnphfgaaa
open Go.ChangeShapes Go.WideShapes Go.ChangeAt Go.RowKit Go.BigFrame Go.Joins
set_option linter.unusedVariables false
set_option maxRecDepth 100000
set_option linter.unusedSimpArgs false

abbrev PT : TypeId := 37
/-- the numbers of a list of prefixes, one behind the other -/
def flat (l : List (Int × Int)) : List Int := l.flatMap fun p => [p.1, p.2]
theorem flat_cons (p : Int × Int) (l : List (Int × Int)) : flat (p :: l) = p.1 :: p.2 :: flat l := rfl
theorem flat_len (l : List (Int × Int)) : (flat l).length = l.length * 2 := by
  induction l with
  | nil => rfl
  | cons p l ih => rw [flat_cons]; simp only [List.length_cons, ih]; omega
theorem flat_nil : flat [] = [] := rfl
theorem flat_append (l m : List (Int × Int)) : flat (l ++ m) = flat l ++ flat m := by simp [flat]
theorem flat_get (l : List (Int × Int)) (i : Nat) (h : i < l.length) : (flat l)[i * 2]? = some (l.getD i (0, 0)).1 ∧ (flat l)[i * 2 + 1]? = some (l.getD i (0, 0)).2 := by
  induction l generalizing i with
  | nil => simp at h
  | cons p l ih =>
    cases i with
    | zero => simp [flat_cons]
    | succ i =>
      have := ih i (by simpa using h)
      rw [flat_cons, show (i + 1) * 2 = i * 2 + 1 + 1 by omega]
      simpa using this
theorem flat_set (l : List (Int × Int)) (i : Nat) (h : i < l.length) (x y : Int) : flat (l.set i (x, y)) = ((flat l).set (i * 2) x).set (i * 2 + 1) y := by
  induction l generalizing i with
  | nil => simp at h
  | cons p l ih =>
    cases i with
    | zero => simp [flat_cons]
    | succ i =>
      have := ih i (by simpa using h)
      rw [List.set_cons_succ, flat_cons, flat_cons, this, show (i + 1) * 2 = i * 2 + 1 + 1 by omega]
      rfl
/-- the slice value v reads as the prefixes l -/
def RdP (w : World) (v : Value) (l : List (Int × Int)) : Prop :=
  l.length ≤ 9223372036854775807 ∧
  ((∃ a c, v = .slice a 0 c ∧ l = [] ∧ (a = none → c = 0)) ∨
   ∃ b o c, v = .slice (some ⟨b, o, none⟩) l.length c ∧ 0 < l.length ∧ ∀ i, i < l.length → w.cell? ⟨b, o + i * 2, none⟩ = some (.int .i64 (l.getD i (0, 0)).1) ∧ w.cell? ⟨b, o + i * 2 + 1, none⟩ = some (.int .i64 (l.getD i (0, 0)).2))
theorem RdP.keep {w w' : World} {v : Value} {l : List (Int × Int)} (h : RdP w v l) (hb : Below w.heap.size w w') : RdP w' v l := by
  obtain ⟨h2, h3⟩ := h
  refine ⟨h2, ?_⟩
  rcases h3 with h3 | ⟨b, o, c, hv, hp, hc⟩
  · exact .inl h3
  · exact .inr ⟨b, o, c, hv, hp, fun i hi => ⟨cell_keep hb (World.block_lt_of_cell? w _ (hc i hi).1) (hc i hi).1, cell_keep hb (World.block_lt_of_cell? w _ (hc i hi).2) (hc i hi).2⟩⟩
theorem RdP.len {w : World} {v : Value} {l : List (Int × Int)} (h : RdP w v l) : ∃ a c, v = .slice a l.length c := by
  rcases h.2 with ⟨a, c, rfl, rfl, hac⟩ | ⟨b, o, c, rfl, _⟩
  · exact ⟨a, c, rfl⟩
  · exact ⟨_, c, rfl⟩
theorem RdP.el {w : World} {v : Value} {l : List (Int × Int)} (h : RdP w v l) : ∃ a c, v = .slice a l.length c ∧ ∀ i, i < l.length → ∃ b o, a = some ⟨b, o, none⟩ ∧ w.cell? ⟨b, o + i * 2, none⟩ = some (.int .i64 (l.getD i (0, 0)).1) ∧ w.cell? ⟨b, o + i * 2 + 1, none⟩ = some (.int .i64 (l.getD i (0, 0)).2) := by
  rcases h.2 with ⟨a, c, rfl, rfl, -⟩ | ⟨b, o, c, rfl, -, hc⟩
  · exact ⟨a, c, rfl, fun i hi => absurd hi (by simp)⟩
  · exact ⟨_, c, rfl, fun i hi => ⟨b, o, rfl, hc i hi⟩⟩
theorem RdP.alloc {w : World} {v : Value} {l : List (Int × Int)} (h : RdP w v l) (o : Obj) : RdP (w.alloc o) v l := h.keep ((Below.refl _ _).alloc (Nat.le_refl _) _)
theorem RdP.nil (w : World) : RdP w (.slice none 0 0) [] := ⟨by simp, .inl ⟨none, 0, rfl, rfl, fun _ => rfl⟩⟩

section
variable {H : Type} {enc : TypeId × Value → H} {W : World} {base : Nat} {d : DataW H} {p : List MemPlace} {v : Value}
end
/-- a row of the call's own that holds the prefixes l -/
def OwnP (w : World) (base : Nat) (v : Value) (l : List (Int × Int)) : Prop := w.ownsRow base PT 2 v l.length ((flat l).map (Value.int .i64))
theorem OwnP.rd {w : World} {base : Nat} {v : Value} {l : List (Int × Int)} (h : OwnP w base v l) : RdP w v l := by
  have h0 := h
  unfold OwnP at h0
  rcases h.2 with ⟨rfl, hn⟩ | ⟨g, cap, cur, rfl, hb, hg, hnc, hcm, hcs, htake⟩
  · obtain rfl := List.eq_nil_of_length_eq_zero hn
    exact RdP.nil w
  · refine ⟨by unfold maxLen at hcm; omega, ?_⟩
    by_cases hz : l.length = 0
    · exact .inl ⟨some ⟨g, 0, none⟩, cap, by rw [hz], List.eq_nil_of_length_eq_zero hz, fun h => by cases h⟩
    · refine .inr ⟨g, 0, cap, rfl, by omega, fun i hi => ?_⟩
      have e := flat_get l i hi
      rw [Nat.zero_add, h0.cellAt (i * 2) (by omega), h0.cellAt (i * 2 + 1) (by omega), List.getElem?_map, List.getElem?_map, e.1, e.2]
      exact ⟨rfl, rfl⟩
theorem OwnP.keep {w w' : World} {base : Nat} {v : Value} {l : List (Int × Int)} (h : OwnP w base v l) (hb : Below w.heap.size w w') : OwnP w' base v l :=
  World.ownsRow.kept (row := none) h ⟨hb.os, hb.tape, hb.output, hb.size, fun k hk _ => hb.block k hk⟩ (by cases v.ownBlock <;> simp)
theorem OwnP.mono {w : World} {base base' : Nat} {v : Value} {l : List (Int × Int)} (h : OwnP w base v l) (hb : base' ≤ base) : OwnP w base' v l := by
  refine ⟨h.1, ?_⟩
  rcases h.2 with hn | ⟨g, cap, cur, hv, hg, rest⟩
  · exact .inl hn
  · exact .inr ⟨g, cap, cur, hv, by omega, rest⟩
theorem OwnP.alloc {w : World} {base : Nat} {v : Value} {l : List (Int × Int)} (h : OwnP w base v l) (o : Obj) : OwnP (w.alloc o) base v l := h.keep ((Below.refl _ _).alloc (Nat.le_refl _) _)
theorem OwnP.kept {w w' : World} {base : Nat} {v : Value} {l : List (Int × Int)} {row : Option Nat} (h : OwnP w base v l) (hg : w.grownBy w' row) (hne : v.ownBlock = none ∨ v.ownBlock ≠ row) : OwnP w' base v l := World.ownsRow.kept h hg hne
theorem OwnP.far {w : World} {base : Nat} {v u : Value} {l : List (Int × Int)} {B o : Nat} (h : OwnP w base v l) (hB : B < base) : OwnP (w.setCell ⟨B, o, none⟩ u) base v l :=
  h.kept (grown_set w B o u) (by
    cases hv : v.ownBlock with
    | none => exact .inl rfl
    | some k => exact .inr (by have := (World.ownsRow.lt h k hv).1; intro e; cases e; omega))
theorem OwnP.cap {w : World} {base : Nat} {v : Value} {l : List (Int × Int)} (h : OwnP w base v l) : ∃ a c, v = .slice a l.length c ∧ l.length ≤ c := by
  rcases h.2 with ⟨hv, hn⟩ | ⟨g, cap, cur, hv, hb, hg, hnc, hcm, _⟩
  · exact ⟨none, 0, by rw [hv, hn], by omega⟩
  · exact ⟨_, cap, hv, hnc⟩
theorem infoP : (Try.prog.info? PT).map (fun i => (i.zero, i.size, i.bytes)) = some (some (.agg #[.int .i64 0, .int .i64 0]), 2, 16) := by kernel_rfl
theorem made_zero (n : Nat) : (madeCells #[Value.int .i64 0, Value.int .i64 0] (n * 2)).toList = (flat (List.replicate n (0, 0))).map (Value.int .i64) := by
  apply List.ext_getElem?
  intro j
  have hz : ∀ m : Nat, flat (List.replicate m (0, 0)) = List.replicate (m * 2) 0 := by
    intro m
    induction m with
    | zero => rfl
    | succ m ih => rw [List.replicate_succ, flat_cons, ih, show (m + 1) * 2 = m * 2 + 1 + 1 by omega, List.replicate_succ, List.replicate_succ]
  rw [hz]
  by_cases hj : j < n * 2
  · have h2 : j % 2 = 0 ∨ j % 2 = 1 := by omega
    rcases h2 with h2 | h2 <;> simp [madeCells, hj, h2]
  · simp [madeCells, hj]
theorem make_P (t : TypeId) (ht : Try.prog.underlying t = some (.slice PT)) (n : Nat) (hn : n ≤ 1048576) (w : World) :
    (Instr.makeSlice t (.int .i64 (n : Int)) (.int .i64 (n : Int))).run Try.prog w = .ok (.slice (some ⟨w.heap.size, 0, none⟩) n n) (w.alloc (.cells (madeCells #[Value.int .i64 0, Value.int .i64 0] (n * 2)) PT)) := by
  obtain ⟨i, hi, hzz⟩ := Option.map_eq_some_iff.1 infoP
  simp only [Prod.mk.injEq] at hzz
  obtain ⟨hz, hs, hb⟩ := hzz
  have hr := run_make (P := Try.prog) w t PT i _ ht hi hz .i64 .i64 n n (by omega) (Int.le_refl _) (by rw [hb]; omega) (by omega)
  simpa only [Int.toNat_natCast, hs, Value.cells] using hr
theorem set_copied_of {α : Type} (d : α) (l : List α) (j n : Nat) (hn : n = l.length) (h : j < n) : (l.take j ++ List.replicate (n - j) d).set j (l.getD j d) = l.take (j + 1) ++ List.replicate (n - (j + 1)) d := by
  subst hn
  have ht : (l.take j).length = j := by simp; omega
  rw [List.set_append_right _ _ (by rw [ht]; exact Nat.le_refl _), ht, Nat.sub_self, show l.length - j = (l.length - (j + 1)) + 1 by omega, List.replicate_succ, List.set_cons_zero, List.take_succ_eq_append_getElem h, List.append_assoc]
  have e : l.getD j d = l[j] := by simp [List.getD, h]
  rw [e]
  rfl
theorem map_set_flat (xs : List (Int × Int)) (j : Nat) (h : j < xs.length) (x y : Int) : (((flat xs).map (Value.int .i64)).set (j * 2) (.int .i64 x)).set (j * 2 + 1) (.int .i64 y) = (flat (xs.set j (x, y))).map (Value.int .i64) := by
  rw [flat_set xs j h, List.map_set, List.map_set]

/-- the two slices are compared: equal prefixes -/
theorem eqPx_any (a n b m : Int) (w : World) :
    Calls Try.prog 60 #[.agg #[.int .i64 a, .int .i64 n], .agg #[.int .i64 b, .int .i64 m]] w fun e w' => e = .returned (.bool (decide (a = b ∧ n = m))) ∧ Below w.heap.size w w' := by
  obtain ⟨bA, bB, B1, z⟩ := two w [.int .i64 a, .int .i64 n] [.int .i64 b, .int .i64 m] PT PT
  clear z
  by_cases h0 : a = b
  · subst h0
    have ha : (a != a) = false := by simp
    by_cases h1 : n = m
    · subst h1
      have hn : (n != n) = false := by simp
      rw [show decide (a = a ∧ n = n) = true by simp]
      go_enter Try.func60, Try.ntmps60
      go_wp2
      go_ret
      exact ⟨rfl, B1⟩
    · have hn : (n != m) = true := by simp [h1]
      rw [show decide (a = a ∧ n = m) = false by simp [h1]]
      clear h1
      go_enter Try.func60, Try.ntmps60
      go_wp2
      go_ret
      exact ⟨rfl, B1⟩
  · have ha : (a != b) = true := by simp [h0]
    rw [show decide (a = b ∧ n = m) = false by simp [h0]]
    clear h0
    go_enter Try.func60, Try.ntmps60
    go_wp2
    go_ret
    exact ⟨rfl, B1⟩
theorem takeP_succ {l m : List (Int × Int)} {k : Nat} (h : l.take k = m.take k) (h1 : k < l.length) (h2 : k < m.length) (he : l.getD k (0, 0) = m.getD k (0, 0)) : l.take (k + 1) = m.take (k + 1) := by
  rw [List.take_succ_eq_append_getElem h1, List.take_succ_eq_append_getElem h2, h]
  have a : l.getD k (0, 0) = l[k] := by simp [List.getD, h1]
  have b : m.getD k (0, 0) = m[k] := by simp [List.getD, h2]
  rw [← a, ← b, he]
end Go.Proofs.Ytbmjicdnphfgaaa
