/-
  Slices of bytes that the call made in whatever way (also out of a string): read, marked, compared. Conditions: those in each contract.
-/
import Derived.Test.YtcmbajphholliabDoorB3
import Derived.Lib.ConvBytes
namespace Go.Proofs.YtcmbajphholliabDoor
open Go.ChangeShapes Go.WideShapes Go.ChangeAt Go.RowKit Go.BigFrame
set_option linter.unusedVariables false
set_option maxRecDepth 100000

/-- v reads as l, in a block from base on that may be written -/
def OwnM (w : World) (base : Nat) (v : Value) (l : List Int) : Prop :=
  (∀ x ∈ l, 0 ≤ x ∧ x ≤ 255) ∧ l.length ≤ maxLen ∧
  ((∃ a c, v = .slice a 0 c ∧ l = [] ∧ (a = none → c = 0)) ∨
   ∃ g c, v = .slice (some ⟨g, 0, none⟩) l.length c ∧ base ≤ g ∧ 0 < l.length ∧ ∀ i, i < l.length → w.cell? ⟨g, i, none⟩ = some (.int .u8 (l.getD i 0)) ∧ w.frozen? ⟨g, i, none⟩ = false)
theorem OwnM.rd {w : World} {base : Nat} {v : Value} {l : List Int} (h : OwnM w base v l) : Rd w v l := by
  obtain ⟨h1, h2, h3 | ⟨g, c, hv, hb, hp, hc⟩⟩ := h
  · exact ⟨h1, h2, .inl h3⟩
  · exact ⟨h1, h2, .inr ⟨g, 0, c, hv, hp, fun i hi => by rw [Nat.zero_add]; exact (hc i hi).1⟩⟩
theorem OwnM.keep {w w' : World} {base : Nat} {v : Value} {l : List Int} (h : OwnM w base v l) (hb : Below w.heap.size w w') : OwnM w' base v l := by
  obtain ⟨h1, h2, h3 | ⟨g, c, hv, hbase, hp, hc⟩⟩ := h
  · exact ⟨h1, h2, .inl h3⟩
  · refine ⟨h1, h2, .inr ⟨g, c, hv, hbase, hp, fun i hi => ?_⟩⟩
    have hl := World.block_lt_of_cell? w _ (hc i hi).1
    exact ⟨cell_keep hb hl (hc i hi).1, (hb.frozen (p := ⟨g, i, none⟩) hl).trans (hc i hi).2⟩
theorem OwnM.mono {w : World} {base base' : Nat} {v : Value} {l : List Int} (h : OwnM w base v l) (hb : base' ≤ base) : OwnM w base' v l := by
  obtain ⟨h1, h2, h3 | ⟨g, c, hv, hbase, hp, hc⟩⟩ := h
  · exact ⟨h1, h2, .inl h3⟩
  · exact ⟨h1, h2, .inr ⟨g, c, hv, Nat.le_trans hb hbase, hp, hc⟩⟩
theorem Own.m {w : World} {base : Nat} {v : Value} {l : List Int} (h : Own w base v l) (hl : ∀ x ∈ l, 0 ≤ x ∧ x ≤ 255) : OwnM w base v l := by
  have h0 := h
  unfold Own at h0
  rcases h.2 with ⟨rfl, hn⟩ | ⟨g, cap, cur, rfl, hb, hg, hnc, hcm, hcs, htake⟩
  · exact ⟨hl, by omega, .inl ⟨none, 0, rfl, List.eq_nil_of_length_eq_zero hn, fun _ => rfl⟩⟩
  · refine ⟨hl, Nat.le_trans hnc hcm, ?_⟩
    by_cases hz : l.length = 0
    · exact .inl ⟨some ⟨g, 0, none⟩, cap, by rw [hz], List.eq_nil_of_length_eq_zero hz, fun h => by cases h⟩
    · refine .inr ⟨g, cap, rfl, hb, by omega, fun i hi => ⟨?_, h0.frozenAt i⟩⟩
      rw [h0.cellAt i (by omega)]
      simp [List.getD, hi]
/-- what a string gives when it is turned into bytes -/
def sb (s : ByteArray) : List Int := s.data.toList.map fun b => (b.toNat : Int)
theorem sb_bd (s : ByteArray) : ∀ x ∈ sb s, 0 ≤ x ∧ x ≤ 255 := by
  intro x hx
  simp only [sb, List.mem_map] at hx
  obtain ⟨b, _, rfl⟩ := hx
  have := b.toNat_lt
  omega
theorem sb_len (s : ByteArray) : (sb s).length = s.size := by simp [sb]
theorem bytesWorld_below (w : World) (e : TypeId) (s : ByteArray) : Below w.heap.size w (Lib.bytesWorld w e s) :=
  ⟨rfl, rfl, rfl, by rw [Lib.bytesWorld_size]; omega, fun j hj => Lib.bytesWorld_at_old w e s j hj⟩
theorem bytesWorld_own (w : World) (s : ByteArray) (hs : s.size ≤ maxLen) (c : Nat) : OwnM (Lib.bytesWorld w BT s) w.heap.size (.slice (some ⟨w.heap.size, 0, none⟩) s.size c) (sb s) := by
  refine ⟨sb_bd s, by rw [sb_len]; exact hs, ?_⟩
  by_cases h0 : s.size = 0
  · exact .inl ⟨_, c, by rw [h0], List.eq_nil_of_length_eq_zero (by rw [sb_len]; exact h0), fun h => by cases h⟩
  · refine .inr ⟨w.heap.size, c, by rw [sb_len], Nat.le_refl _, by rw [sb_len]; omega, fun i hi => ?_⟩
    rw [sb_len] at hi
    have hsz : s.data.toList.length = s.size := by simp
    refine ⟨?_, ?_⟩
    · rw [Lib.bytesWorld_cell w BT s i hi]
      have : (sb s).getD i 0 = ((s.data.toList.getD i 0).toNat : Int) := by
        have hi' : i < s.data.toList.length := by omega
        simp [sb, List.getD, List.getElem?_map, List.getElem?_eq_getElem hi']
      rw [this]
    · have hb := Lib.bytesWorld_at_new w BT s
      have hsize : i < (Lib.bytesCells w BT s).size := by simp [Lib.bytesCells]; have : s.data.size = s.size := rfl; omega
      simp [World.frozen?, hb]
      omega

/-- a text in bytes of the call's own -/
def TextB (w : World) (l : List Int) (e : Ending) (w' : World) : Prop := ∃ u, e = .returned u ∧ OwnM w' w.heap.size u l ∧ Below w.heap.size w w'
theorem over_mark {V w w' : World} {base : Nat} (h : Over V w) (hb : V.heap.size ≤ base) (hm : Below base w w') : Over V w' := Below.trans h (hm.mono hb)
end Go.Proofs.YtcmbajphholliabDoor
