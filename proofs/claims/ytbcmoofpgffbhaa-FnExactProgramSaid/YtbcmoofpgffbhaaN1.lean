/-
  Slices of prefixes: what one reads as; contracts of the laws' own functions that copy, compare and size them. Conditions: those in each contract.
-/
import Derived.Test.YtbcmoofpgffbhaaI2
import Derived.Test.YtbcmoofpgffbhaaG2
import Derived.Deep.SlicePairs
namespace Go.Proofs.Ytbcmoofpgffbhaa
open Go.ChangeShapes Go.WideShapes Go.ChangeAt Go.RowKit Go.BigFrame Go.Joins
set_option linter.unusedVariables false
set_option maxRecDepth 100000
set_option linter.unusedSimpArgs false

abbrev PT : TypeId := 48
/-- the numbers of a list of prefixes, one behind the other -/
def flat (l : List (Int × Int)) : List Int := l.flatMap fun p => [p.1, p.2]
theorem flat_cons (p : Int × Int) (l : List (Int × Int)) : flat (p :: l) = p.1 :: p.2 :: flat l := rfl
theorem flat_len (l : List (Int × Int)) : (flat l).length = l.length * 2 := by
  induction l with
  | nil => rfl
  | cons p l ih => rw [flat_cons]; simp only [List.length_cons, ih]; omega
theorem flat_nil : flat [] = [] := rfl
theorem flat_append (l m : List (Int × Int)) : flat (l ++ m) = flat l ++ flat m := by simp [flat]
theorem flat_get (l : List (Int × Int)) (i : Nat) (h : i < l.length) : (flat l)[i * 2]? = some (l.getD i (0, 0)).1 ∧ (flat l)[i * 2 + 1]? = some (l.getD i (0, 0)).2 := by
  induction l generalizing i with
  | nil => simp at h
  | cons p l ih =>
    cases i with
    | zero => simp [flat_cons]
    | succ i =>
      have := ih i (by simpa using h)
      rw [flat_cons, show (i + 1) * 2 = i * 2 + 1 + 1 by omega]
      simpa using this
theorem flat_set (l : List (Int × Int)) (i : Nat) (h : i < l.length) (x y : Int) : flat (l.set i (x, y)) = ((flat l).set (i * 2) x).set (i * 2 + 1) y := by
  induction l generalizing i with
  | nil => simp at h
  | cons p l ih =>
    cases i with
    | zero => simp [flat_cons]
    | succ i =>
      have := ih i (by simpa using h)
      rw [List.set_cons_succ, flat_cons, flat_cons, this, show (i + 1) * 2 = i * 2 + 1 + 1 by omega]
      rfl
/-- the slice value v reads as the prefixes l -/
def RdP (w : World) (v : Value) (l : List (Int × Int)) : Prop :=
  l.length ≤ 9223372036854775807 ∧
  ((∃ a c, v = .slice a 0 c ∧ l = [] ∧ (a = none → c = 0)) ∨
   ∃ b o c, v = .slice (some ⟨b, o, none⟩) l.length c ∧ 0 < l.length ∧ ∀ i, i < l.length → w.cell? ⟨b, o + i * 2, none⟩ = some (.int .i64 (l.getD i (0, 0)).1) ∧ w.cell? ⟨b, o + i * 2 + 1, none⟩ = some (.int .i64 (l.getD i (0, 0)).2))
theorem RdP.keep {w w' : World} {v : Value} {l : List (Int × Int)} (h : RdP w v l) (hb : Below w.heap.size w w') : RdP w' v l := by
  obtain ⟨h2, h3⟩ := h
  refine ⟨h2, ?_⟩
  rcases h3 with h3 | ⟨b, o, c, hv, hp, hc⟩
  · exact .inl h3
  · exact .inr ⟨b, o, c, hv, hp, fun i hi => ⟨cell_keep hb (World.block_lt_of_cell? w _ (hc i hi).1) (hc i hi).1, cell_keep hb (World.block_lt_of_cell? w _ (hc i hi).2) (hc i hi).2⟩⟩
theorem RdP.len {w : World} {v : Value} {l : List (Int × Int)} (h : RdP w v l) : ∃ a c, v = .slice a l.length c := by
  rcases h.2 with ⟨a, c, rfl, rfl, hac⟩ | ⟨b, o, c, rfl, _⟩
  · exact ⟨a, c, rfl⟩
  · exact ⟨_, c, rfl⟩
theorem RdP.el {w : World} {v : Value} {l : List (Int × Int)} (h : RdP w v l) : ∃ a c, v = .slice a l.length c ∧ ∀ i, i < l.length → ∃ b o, a = some ⟨b, o, none⟩ ∧ w.cell? ⟨b, o + i * 2, none⟩ = some (.int .i64 (l.getD i (0, 0)).1) ∧ w.cell? ⟨b, o + i * 2 + 1, none⟩ = some (.int .i64 (l.getD i (0, 0)).2) := by
  rcases h.2 with ⟨a, c, rfl, rfl, -⟩ | ⟨b, o, c, rfl, -, hc⟩
  · exact ⟨a, c, rfl, fun i hi => absurd hi (by simp)⟩
  · exact ⟨_, c, rfl, fun i hi => ⟨b, o, rfl, hc i hi⟩⟩
theorem RdP.alloc {w : World} {v : Value} {l : List (Int × Int)} (h : RdP w v l) (o : Obj) : RdP (w.alloc o) v l := h.keep ((Below.refl _ _).alloc (Nat.le_refl _) _)
theorem RdP.nil (w : World) : RdP w (.slice none 0 0) [] := ⟨by simp, .inl ⟨none, 0, rfl, rfl, fun _ => rfl⟩⟩

section
variable {H : Type} {enc : TypeId × Value → H} {W : World} {base : Nat} {d : DataW H} {p : List MemPlace} {v : Value}
theorem rdP_trod {fuel : Nat} {y : DataW H × List MemPlace} (h : DataW.trod enc Try.prog W 0 (fun _ => true) true fuel 86 [v] = some y) : ∃ l, RdP W v l := by
  rcases Deep.open_slice_pairs Try.underlying86 Try.underlying41 (by kernel_rfl) rfl rfl (by kernel_rfl) (by kernel_rfl) h with ⟨hcs, _⟩ | ⟨a, len, cap, m, n, V0, V1, D0, D1, P0, P1, hcs, _, hl, hm, hmm, _, hc⟩
  · obtain ⟨rfl, -⟩ := List.cons.inj hcs
    exact ⟨[], RdP.nil W⟩
  · obtain ⟨rfl, -⟩ := List.cons.inj hcs
    have hlm : len ≤ m := by rw [hmm]; split <;> omega
    have hex : ∀ i, i < len → ∃ q : Int × Int, V0 i = .int .i64 q.1 ∧ V1 i = .int .i64 q.2 := by
      intro i hi
      obtain ⟨-, -, h0, h1⟩ := hc i (by omega)
      obtain ⟨x, e0, -, -⟩ := DataW.trod_int Try.underlying3 h0
      obtain ⟨z, e1, -, -⟩ := DataW.trod_int Try.underlying3 h1
      simp at e0 e1
      exact ⟨(x, z), e0, e1⟩
    obtain ⟨f, hf⟩ := Deep.choose_lt hex
    obtain ⟨b, off, spot⟩ := a
    refine ⟨(List.range len).map f, by simp; unfold maxLen at hm; omega, ?_⟩
    by_cases h0 : len = 0
    · subst h0
      exact .inl ⟨_, cap, rfl, rfl, fun h => by cases h⟩
    · have hspot : spot = none := by
        have h1 := (hc 0 (by omega)).1
        simpa [Addr.add] using World.cell?_spot h1
      subst hspot
      refine .inr ⟨b, off, cap, by simp, by simp; omega, fun i hi => ?_⟩
      have hi : i < len := by simpa using hi
      obtain ⟨h1, h2, -, -⟩ := hc i (by omega)
      have hadd : ∀ k, (⟨b, off, none⟩ : Addr).add k = ⟨b, off + k, none⟩ := fun k => by unfold Addr.add; split <;> simp_all
      rw [hadd, (hf i hi).1] at h1
      rw [hadd, (hf i hi).2] at h2
      rw [show ((List.range len).map f).getD i (0, 0) = f i by simp [List.getD, hi]]
      exact ⟨h1, by rw [show off + i * 2 + 1 = off + (i * 2 + 1) by omega]; exact h2⟩
end
theorem szP_any (v : Value) (l : List (Int × Int)) (left : Int) (w : World) (h : RdP w v l) (h0 : 0 ≤ left) (h1 : left ≤ 1048576) :
    Calls Try.prog 48 #[v, .int .i64 left] w fun e w' => e = .returned (.int .i64 (szN left l.length)) ∧ w = w' := by
  obtain ⟨a, c, rfl⟩ := h.len
  have hm := h.1
  clear h
  obtain ⟨n, hn⟩ : ∃ n, l.length = n := ⟨_, rfl⟩
  rw [hn] at hm ⊢
  clear hn
  by_cases hlt : left < n
  · rw [szN_lt hlt]
    go_enter Try.func48, Try.ntmps48
    go_wp2
    go_ret
    exact ⟨rfl, rfl⟩
  · rw [szN_ge hlt]
    go_enter Try.func48, Try.ntmps48
    go_wp2
    go_ret
    exact ⟨rfl, rfl⟩
/-- a row of the call's own that holds the prefixes l -/
def OwnP (w : World) (base : Nat) (v : Value) (l : List (Int × Int)) : Prop := w.ownsRow base PT 2 v l.length ((flat l).map (Value.int .i64))
theorem OwnP.rd {w : World} {base : Nat} {v : Value} {l : List (Int × Int)} (h : OwnP w base v l) : RdP w v l := by
  have h0 := h
  unfold OwnP at h0
  rcases h.2 with ⟨rfl, hn⟩ | ⟨g, cap, cur, rfl, hb, hg, hnc, hcm, hcs, htake⟩
  · obtain rfl := List.eq_nil_of_length_eq_zero hn
    exact RdP.nil w
  · refine ⟨by unfold maxLen at hcm; omega, ?_⟩
    by_cases hz : l.length = 0
    · exact .inl ⟨some ⟨g, 0, none⟩, cap, by rw [hz], List.eq_nil_of_length_eq_zero hz, fun h => by cases h⟩
    · refine .inr ⟨g, 0, cap, rfl, by omega, fun i hi => ?_⟩
      have e := flat_get l i hi
      rw [Nat.zero_add, h0.cellAt (i * 2) (by omega), h0.cellAt (i * 2 + 1) (by omega), List.getElem?_map, List.getElem?_map, e.1, e.2]
      exact ⟨rfl, rfl⟩
theorem OwnP.keep {w w' : World} {base : Nat} {v : Value} {l : List (Int × Int)} (h : OwnP w base v l) (hb : Below w.heap.size w w') : OwnP w' base v l :=
  World.ownsRow.kept (row := none) h ⟨hb.os, hb.tape, hb.output, hb.size, fun k hk _ => hb.block k hk⟩ (by cases v.ownBlock <;> simp)
theorem OwnP.mono {w : World} {base base' : Nat} {v : Value} {l : List (Int × Int)} (h : OwnP w base v l) (hb : base' ≤ base) : OwnP w base' v l := by
  refine ⟨h.1, ?_⟩
  rcases h.2 with hn | ⟨g, cap, cur, hv, hg, rest⟩
  · exact .inl hn
  · exact .inr ⟨g, cap, cur, hv, by omega, rest⟩
theorem OwnP.alloc {w : World} {base : Nat} {v : Value} {l : List (Int × Int)} (h : OwnP w base v l) (o : Obj) : OwnP (w.alloc o) base v l := h.keep ((Below.refl _ _).alloc (Nat.le_refl _) _)
theorem OwnP.kept {w w' : World} {base : Nat} {v : Value} {l : List (Int × Int)} {row : Option Nat} (h : OwnP w base v l) (hg : w.grownBy w' row) (hne : v.ownBlock = none ∨ v.ownBlock ≠ row) : OwnP w' base v l := World.ownsRow.kept h hg hne
theorem OwnP.far {w : World} {base : Nat} {v u : Value} {l : List (Int × Int)} {B o : Nat} (h : OwnP w base v l) (hB : B < base) : OwnP (w.setCell ⟨B, o, none⟩ u) base v l :=
  h.kept (grown_set w B o u) (by
    cases hv : v.ownBlock with
    | none => exact .inl rfl
    | some k => exact .inr (by have := (World.ownsRow.lt h k hv).1; intro e; cases e; omega))
theorem OwnP.cap {w : World} {base : Nat} {v : Value} {l : List (Int × Int)} (h : OwnP w base v l) : ∃ a c, v = .slice a l.length c ∧ l.length ≤ c := by
  rcases h.2 with ⟨hv, hn⟩ | ⟨g, cap, cur, hv, hb, hg, hnc, hcm, _⟩
  · exact ⟨none, 0, by rw [hv, hn], by omega⟩
  · exact ⟨_, cap, hv, hnc⟩
theorem infoP : (Try.prog.info? PT).map (fun i => (i.zero, i.size, i.bytes)) = some (some (.agg #[.int .i64 0, .int .i64 0]), 2, 16) := by kernel_rfl
theorem made_zero (n : Nat) : (madeCells #[Value.int .i64 0, Value.int .i64 0] (n * 2)).toList = (flat (List.replicate n (0, 0))).map (Value.int .i64) := by
  apply List.ext_getElem?
  intro j
  have hz : ∀ m : Nat, flat (List.replicate m (0, 0)) = List.replicate (m * 2) 0 := by
    intro m
    induction m with
    | zero => rfl
    | succ m ih => rw [List.replicate_succ, flat_cons, ih, show (m + 1) * 2 = m * 2 + 1 + 1 by omega, List.replicate_succ, List.replicate_succ]
  rw [hz]
  by_cases hj : j < n * 2
  · have h2 : j % 2 = 0 ∨ j % 2 = 1 := by omega
    rcases h2 with h2 | h2 <;> simp [madeCells, hj, h2]
  · simp [madeCells, hj]
theorem make_P (t : TypeId) (ht : Try.prog.underlying t = some (.slice PT)) (n : Nat) (hn : n ≤ 1048576) (w : World) :
    (Instr.makeSlice t (.int .i64 (n : Int)) (.int .i64 (n : Int))).run Try.prog w = .ok (.slice (some ⟨w.heap.size, 0, none⟩) n n) (w.alloc (.cells (madeCells #[Value.int .i64 0, Value.int .i64 0] (n * 2)) PT)) := by
  obtain ⟨i, hi, hzz⟩ := Option.map_eq_some_iff.1 infoP
  simp only [Prod.mk.injEq] at hzz
  obtain ⟨hz, hs, hb⟩ := hzz
  have hr := run_make (P := Try.prog) w t PT i _ ht hi hz .i64 .i64 n n (by omega) (Int.le_refl _) (by rw [hb]; omega) (by omega)
  simpa only [Int.toNat_natCast, hs, Value.cells] using hr
theorem set_copied_of {α : Type} (d : α) (l : List α) (j n : Nat) (hn : n = l.length) (h : j < n) : (l.take j ++ List.replicate (n - j) d).set j (l.getD j d) = l.take (j + 1) ++ List.replicate (n - (j + 1)) d := by
  subst hn
  have ht : (l.take j).length = j := by simp; omega
  rw [List.set_append_right _ _ (by rw [ht]; exact Nat.le_refl _), ht, Nat.sub_self, show l.length - j = (l.length - (j + 1)) + 1 by omega, List.replicate_succ, List.set_cons_zero, List.take_succ_eq_append_getElem h, List.append_assoc]
  have e : l.getD j d = l[j] := by simp [List.getD, h]
  rw [e]
  rfl
theorem map_set_flat (xs : List (Int × Int)) (j : Nat) (h : j < xs.length) (x y : Int) : (((flat xs).map (Value.int .i64)).set (j * 2) (.int .i64 x)).set (j * 2 + 1) (.int .i64 y) = (flat (xs.set j (x, y))).map (Value.int .i64) := by
  rw [flat_set xs j h, List.map_set, List.map_set]

/-- a copy in a block of its own -/
theorem toP_any (v : Value) (l : List (Int × Int)) (w : World) (h : RdP w v l) (hn : l.length ≤ 1048576) :
    Calls Try.prog 51 #[v] w fun e w' => ∃ a c, e = .returned (.slice a l.length c) ∧ OwnP w' w.heap.size (.slice a l.length c) l ∧ Below w.heap.size w w' := by
  have hmk := fun W => make_P 23 Try.underlying23 l.length hn W
  have hlit := fun (W : World) (n : Nat) (hb : w.heap.size ≤ W.heap.size) (hm : n ≤ 1048576) => World.ownsRow_lit (base := w.heap.size) (e := PT) (size := 2) W (madeCells #[Value.int .i64 0, Value.int .i64 0] (n * 2)) n hb (by unfold maxLen; omega) (size_madeCells _ _)
  obtain ⟨m1, ⟨a, c, rfl, rfl, hac⟩ | ⟨b, o, c, rfl, hp, hc⟩⟩ := h
  · have hmk0 : ∀ W : World, (Instr.makeSlice 23 (.int .i64 0) (.int .i64 0)).run Try.prog W = .ok (.slice (some ⟨W.heap.size, 0, none⟩) 0 0) (W.alloc (.cells (madeCells #[Value.int .i64 0, Value.int .i64 0] (0 * 2)) PT)) := fun W => by simpa using hmk W
    clear hmk
    have hl0 := hlit w 0 (Nat.le_refl _) (by omega)
    clear hlit
    go_enter Try.func51, Try.ntmps51
    go_wp2
    refine wp_loop_rounds 1 ?_
    rw [rounds_succ]
    go_wp2
    go_ret
    exact ⟨_, _, rfl, by unfold OwnP; simpa [madeCells, flat] using hl0, (Below.refl _ _).alloc (Nat.le_refl _) _⟩
  · obtain ⟨n, hn'⟩ : ∃ n, n = l.length := ⟨_, rfl⟩
    rw [← hn'] at hp hc hn hmk ⊢
    have HN := Lib.hid hn'
    have HL := Lib.hid (hlit w n (Nat.le_refl _) hn)
    clear m1 hn' hlit
    go_enter Try.func51, Try.ntmps51
    go_wp2
    go_loopw [4] (fun i wr => ∃ k : Nat, k ≤ n ∧ i = .int .i64 k ∧ wr.ownsRow w.heap.size PT 2 (.slice (some ⟨w.heap.size, 0, none⟩) n n) n ((flat (l.take k ++ List.replicate (n - k) (0, 0))).map (Value.int .i64)) ∧ Below w.heap.size w wr) (fun i _ => n - (intOf i).toNat)
    case atStart => exact ⟨0, Nat.zero_le _, rfl, by
      have h := HL.out
      rw [made_zero] at h
      simpa using h, (Below.refl _ _).alloc (Nat.le_refl _) _⟩
    case round =>
      obtain ⟨k, hk, rfl, hown, hB⟩ := hrel
      by_cases hlt : k < n
      · have hltI : (k : Int) < (n : Int) := by omega
        have hck := hc k hlt
        obtain ⟨⟨x, y⟩, hx⟩ : ∃ q, l.getD k (0, 0) = q := ⟨_, rfl⟩
        rw [hx] at hck
        have HX := Lib.hid hx
        have e0 := cell_keep hB (World.block_lt_of_cell? w _ hck.1) hck.1
        have e1 := cell_keep hB (World.block_lt_of_cell? w _ hck.2) hck.2
        have HC := Lib.hid (And.intro (World.block_lt_of_cell? w _ hck.1) (World.block_lt_of_cell? w _ hck.2))
        clear hck hc hx
        go_wp2_with fail
        refine (to_any x y _).mono ?_
        rintro e w2 ⟨rfl, hb⟩
        have hown2 : w2.ownsRow w.heap.size PT 2 (.slice (some ⟨w.heap.size, 0, none⟩) n n) n ((flat (l.take k ++ List.replicate (n - k) (0, 0))).map (Value.int .i64)) :=
          World.ownsRow.kept (row := none) hown ⟨hb.os, hb.tape, hb.output, hb.size, fun k hk _ => hb.block k hk⟩ (.inr (by simp [Value.ownBlock]))
        have hB2 := below_step hB hb
        clear hown hB hb e0 e1
        have hlen : (l.take k ++ List.replicate (n - k) (0, 0)).length = n := by simp; have := HN.out; omega
        have hfl : ((flat (l.take k ++ List.replicate (n - k) (0, 0))).map (Value.int .i64)).length = n * 2 := by rw [List.length_map, flat_len, hlen]
        have f0 := hown2.frozenAt (k * 2)
        have f1 := hown2.frozenAt (k * 2 + 1)
        obtain ⟨p0, e0⟩ : ∃ p0, w2.cell? ⟨w.heap.size, k * 2, none⟩ = some p0 := ⟨_, (hown2.cellAt (k * 2) (by omega)).trans (List.getElem?_eq_getElem (by rw [hfl]; omega))⟩
        obtain ⟨p1, e1⟩ : ∃ p1, w2.cell? ⟨w.heap.size, k * 2 + 1, none⟩ = some p1 := ⟨_, (hown2.cellAt (k * 2 + 1) (by omega)).trans (List.getElem?_eq_getElem (by rw [hfl]; omega))⟩
        have hst := (hown2.stored (k * 2) (.int .i64 x)).1.stored (k * 2 + 1) (.int .i64 y)
        rw [map_set_flat _ k (by rw [hlen]; exact hlt), ← HX.out, set_copied_of (0, 0) l k n HN.out hlt] at hst
        have hst1 := Lib.hid hst.1
        have hB3 : Below w.heap.size w ((w2.setCell ⟨w.heap.size, k * 2, none⟩ (.int .i64 x)).setCell ⟨w.heap.size, k * 2 + 1, none⟩ (.int .i64 y)) := (hB2.setCell (Nat.le_refl _) _).setCell (Nat.le_refl _) _
        clear hst hown2 hlen hfl hB2
        go_wp2
        go_roundw
        case rel => exact ⟨k + 1, by omega, by go_num, hst1.out, hB3⟩
        case measure => simp [intOf]; omega
      · have hkn : k = n := by omega
        subst hkn
        clear hc
        have ho : OwnP wr w.heap.size (.slice (some ⟨w.heap.size, 0, none⟩) k k) l := by
          unfold OwnP
          rw [← HN.out]
          simpa [List.take_of_length_le (show l.length ≤ k by rw [HN.out]; exact Nat.le_refl _)] using hown
        clear hown
        go_wp2
        go_ret
        exact ⟨_, _, rfl, ho, hB⟩
/-- the two slices are compared: equal prefixes -/
theorem eqPx_any (a n b m : Int) (w : World) :
    Calls Try.prog 83 #[.agg #[.int .i64 a, .int .i64 n], .agg #[.int .i64 b, .int .i64 m]] w fun e w' => e = .returned (.bool (decide (a = b ∧ n = m))) ∧ Below w.heap.size w w' := by
  obtain ⟨bA, bB, B1, z⟩ := two w [.int .i64 a, .int .i64 n] [.int .i64 b, .int .i64 m] PT PT
  clear z
  by_cases h0 : a = b
  · subst h0
    have ha : (a != a) = false := by simp
    by_cases h1 : n = m
    · subst h1
      have hn : (n != n) = false := by simp
      rw [show decide (a = a ∧ n = n) = true by simp]
      go_enter Try.func83, Try.ntmps83
      go_wp2
      go_ret
      exact ⟨rfl, B1⟩
    · have hn : (n != m) = true := by simp [h1]
      rw [show decide (a = a ∧ n = m) = false by simp [h1]]
      clear h1
      go_enter Try.func83, Try.ntmps83
      go_wp2
      go_ret
      exact ⟨rfl, B1⟩
  · have ha : (a != b) = true := by simp [h0]
    rw [show decide (a = b ∧ n = m) = false by simp [h0]]
    clear h0
    go_enter Try.func83, Try.ntmps83
    go_wp2
    go_ret
    exact ⟨rfl, B1⟩
theorem takeP_succ {l m : List (Int × Int)} {k : Nat} (h : l.take k = m.take k) (h1 : k < l.length) (h2 : k < m.length) (he : l.getD k (0, 0) = m.getD k (0, 0)) : l.take (k + 1) = m.take (k + 1) := by
  rw [List.take_succ_eq_append_getElem h1, List.take_succ_eq_append_getElem h2, h]
  have a : l.getD k (0, 0) = l[k] := by simp [List.getD, h1]
  have b : m.getD k (0, 0) = m[k] := by simp [List.getD, h2]
  rw [← a, ← b, he]
theorem eqPS_any (v u : Value) (l m : List (Int × Int)) (w : World) (h1 : RdP w v l) (h2 : RdP w u m) :
    Calls Try.prog 42 #[v, u] w fun e w' => e = .returned (.bool (decide (l = m))) ∧ Below w.heap.size w w' := by
  by_cases hlen : l.length = m.length
  · have hm1 := h1.1
    obtain ⟨a, c, rfl, hc⟩ := h1.el
    obtain ⟨a', c', rfl, hc'⟩ := h2.el
    obtain ⟨n, hn⟩ : ∃ n, n = l.length := ⟨_, rfl⟩
    have hn' : n = m.length := hn.trans hlen
    rw [← hn'] at hc' ⊢
    rw [← hn] at hc hm1 ⊢
    have HN := Lib.hid hn
    have HN' := Lib.hid hn'
    clear hn hn' hlen h1 h2
    go_enter Try.func42, Try.ntmps42
    go_wp2
    go_loopw [5] (fun i wr => ∃ k : Nat, k ≤ n ∧ i = .int .i64 k ∧ l.take k = m.take k ∧ Below w.heap.size w wr) (fun i _ => n - (intOf i).toNat)
    case atStart => exact ⟨0, Nat.zero_le _, rfl, rfl, Below.refl _ _⟩
    case round =>
      obtain ⟨k, hk, rfl, ht, hB⟩ := hrel
      have HT := Lib.hid ht
      clear ht
      by_cases hlt : k < n
      · have hltI : (k : Int) < (n : Int) := by omega
        obtain ⟨b, o, rfl, d0, d1⟩ := hc k hlt
        obtain ⟨b', o', rfl, d0', d1'⟩ := hc' k hlt
        have e0 := cell_keep hB (World.block_lt_of_cell? w _ d0) d0
        have e1 := cell_keep hB (World.block_lt_of_cell? w _ d1) d1
        have e2 := cell_keep hB (World.block_lt_of_cell? w _ d0') d0'
        have e3 := cell_keep hB (World.block_lt_of_cell? w _ d1') d1'
        obtain ⟨⟨x, y⟩, hx⟩ : ∃ q, l.getD k (0, 0) = q := ⟨_, rfl⟩
        obtain ⟨⟨x', y'⟩, hx'⟩ : ∃ q, m.getD k (0, 0) = q := ⟨_, rfl⟩
        rw [hx] at e0 e1
        rw [hx'] at e2 e3
        have HX := Lib.hid hx
        have HY := Lib.hid hx'
        clear hx hx' hc hc' d0 d1 d0' d1'
        by_cases hxy : x = x' ∧ y = y'
        · have hd : decide (x = x' ∧ y = y') = true := by simp [hxy]
          have HD := Lib.hid hd
          have HE := Lib.hid hxy
          clear hxy hd
          go_wp2
          go_region_held3 (fun w' => Over wr w' ∧ w'.cell? ⟨b, o + k * 2, none⟩ = some (.int .i64 x) ∧ w'.cell? ⟨b, o + k * 2 + 1, none⟩ = some (.int .i64 y) ∧ w'.cell? ⟨b', o' + k * 2, none⟩ = some (.int .i64 x') ∧ w'.cell? ⟨b', o' + k * 2 + 1, none⟩ = some (.int .i64 y'))
            ((first | exact ⟨over_drew _, e0, e1, e2, e3⟩ | exact (fun o => ⟨o, over_cell o (World.block_lt_of_cell? wr _ e0) e0, over_cell o (World.block_lt_of_cell? wr _ e1) e1, over_cell o (World.block_lt_of_cell? wr _ e2) e2, over_cell o (World.block_lt_of_cell? wr _ e3) e3⟩) (over_step (‹Over wr _ ∧ _›).1 (by assumption))))
            ((first | (go_at_call 83; refine (eqPx_any x y x' y' _).mono ?_; rintro e w6 ⟨rfl, hbb⟩; rw [HD.out])))
          rename_i hH
          replace hB := below_step hB hH.1
          clear hH hbb e0 e1 e2 e3
          go_wp2
          go_roundw
          case rel => exact ⟨k + 1, by omega, by go_num, takeP_succ HT.out (by rw [← HN.out]; exact hlt) (by rw [← HN'.out]; exact hlt) (by rw [HX.out, HY.out, HE.out.1, HE.out.2]), hB⟩
          case measure => simp [intOf]; omega
        · have hd : decide (x = x' ∧ y = y') = false := by simp [hxy]
          have HD := Lib.hid hd
          have hlm : decide (l = m) = false := by
            simp only [decide_eq_false_iff_not]
            rintro rfl
            have := HX.out.symm.trans HY.out
            cases this
            exact hxy ⟨rfl, rfl⟩
          have HL := Lib.hid hlm
          clear hxy hd hlm
          go_wp2
          go_region_held3 (fun w' => Over wr w' ∧ w'.cell? ⟨b, o + k * 2, none⟩ = some (.int .i64 x) ∧ w'.cell? ⟨b, o + k * 2 + 1, none⟩ = some (.int .i64 y) ∧ w'.cell? ⟨b', o' + k * 2, none⟩ = some (.int .i64 x') ∧ w'.cell? ⟨b', o' + k * 2 + 1, none⟩ = some (.int .i64 y'))
            ((first | exact ⟨over_drew _, e0, e1, e2, e3⟩ | exact (fun o => ⟨o, over_cell o (World.block_lt_of_cell? wr _ e0) e0, over_cell o (World.block_lt_of_cell? wr _ e1) e1, over_cell o (World.block_lt_of_cell? wr _ e2) e2, over_cell o (World.block_lt_of_cell? wr _ e3) e3⟩) (over_step (‹Over wr _ ∧ _›).1 (by assumption))))
            ((first | (go_at_call 83; refine (eqPx_any x y x' y' _).mono ?_; rintro e w6 ⟨rfl, hbb⟩; rw [HD.out])))
          rename_i hH
          replace hB := below_step hB hH.1
          clear hH hbb e0 e1 e2 e3
          go_wp2
          go_ret
          exact ⟨ret_bool HL.out.symm, hB⟩
      · have hkn : k = n := by omega
        have hlm : decide (l = m) = true := by
          have h := HT.out
          rw [hkn, List.take_of_length_le (by rw [HN.out]; exact Nat.le_refl _), List.take_of_length_le (by rw [HN'.out]; exact Nat.le_refl _)] at h
          simp [h]
        have HL := Lib.hid hlm
        clear hlm hkn hc hc'
        go_wp2
        go_ret
        exact ⟨ret_bool HL.out.symm, hB⟩
  · have hd : decide (l = m) = false := by
      simp only [decide_eq_false_iff_not]
      rintro rfl
      exact hlen rfl
    rw [hd]
    clear hd
    obtain ⟨a, c, rfl⟩ := h1.len
    obtain ⟨a', c', rfl⟩ := h2.len
    have hne : ((l.length : Int) != (m.length : Int)) = true := by simp; omega
    clear h1 h2
    go_enter Try.func42, Try.ntmps42
    go_wp2
    go_ret
    exact ⟨rfl, Below.refl _ _⟩
theorem eqPS_same (v u : Value) (l : List (Int × Int)) (w : World) (h1 : RdP w v l) (h2 : RdP w u l) :
    Calls Try.prog 42 #[v, u] w fun e w' => e = .returned (.bool true) ∧ Below w.heap.size w w' :=
  (eqPS_any v u l l w h1 h2).mono fun _ _ ⟨he, hb⟩ => ⟨by rw [he]; simp, hb⟩
end Go.Proofs.Ytbcmoofpgffbhaa
