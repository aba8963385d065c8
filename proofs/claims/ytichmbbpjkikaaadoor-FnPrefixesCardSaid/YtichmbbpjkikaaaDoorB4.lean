/-
  Slices of bytes that the call made in whatever way (also out of a string): read, marked, compared. Conditions: those in each contract.
-/
import Derived.Test.YtichmbbpjkikaaaDoorB3
import Derived.Lib.ConvBytes
namespace Go.Proofs.YtichmbbpjkikaaaDoor
open Go.ChangeShapes Go.WideShapes Go.ChangeAt Go.RowKit Go.BigFrame
set_option linter.unusedVariables false
set_option maxRecDepth 100000

/-- v reads as l, in a block from base on that may be written -/
def OwnM (w : World) (base : Nat) (v : Value) (l : List Int) : Prop :=
  (∀ x ∈ l, 0 ≤ x ∧ x ≤ 255) ∧ l.length ≤ maxLen ∧
  ((∃ a c, v = .slice a 0 c ∧ l = [] ∧ (a = none → c = 0)) ∨
   ∃ g c, v = .slice (some ⟨g, 0, none⟩) l.length c ∧ base ≤ g ∧ 0 < l.length ∧ ∀ i, i < l.length → w.cell? ⟨g, i, none⟩ = some (.int .u8 (l.getD i 0)) ∧ w.frozen? ⟨g, i, none⟩ = false)
theorem OwnM.rd {w : World} {base : Nat} {v : Value} {l : List Int} (h : OwnM w base v l) : Rd w v l := by
  obtain ⟨h1, h2, h3 | ⟨g, c, hv, hb, hp, hc⟩⟩ := h
  · exact ⟨h1, h2, .inl h3⟩
  · exact ⟨h1, h2, .inr ⟨g, 0, c, hv, hp, fun i hi => by rw [Nat.zero_add]; exact (hc i hi).1⟩⟩
theorem OwnM.keep {w w' : World} {base : Nat} {v : Value} {l : List Int} (h : OwnM w base v l) (hb : Below w.heap.size w w') : OwnM w' base v l := by
  obtain ⟨h1, h2, h3 | ⟨g, c, hv, hbase, hp, hc⟩⟩ := h
  · exact ⟨h1, h2, .inl h3⟩
  · refine ⟨h1, h2, .inr ⟨g, c, hv, hbase, hp, fun i hi => ?_⟩⟩
    have hl := World.block_lt_of_cell? w _ (hc i hi).1
    exact ⟨cell_keep hb hl (hc i hi).1, (hb.frozen (p := ⟨g, i, none⟩) hl).trans (hc i hi).2⟩
theorem OwnM.mono {w : World} {base base' : Nat} {v : Value} {l : List Int} (h : OwnM w base v l) (hb : base' ≤ base) : OwnM w base' v l := by
  obtain ⟨h1, h2, h3 | ⟨g, c, hv, hbase, hp, hc⟩⟩ := h
  · exact ⟨h1, h2, .inl h3⟩
  · exact ⟨h1, h2, .inr ⟨g, c, hv, Nat.le_trans hb hbase, hp, hc⟩⟩
theorem Own.m {w : World} {base : Nat} {v : Value} {l : List Int} (h : Own w base v l) (hl : ∀ x ∈ l, 0 ≤ x ∧ x ≤ 255) : OwnM w base v l := by
  have h0 := h
  unfold Own at h0
  rcases h.2 with ⟨rfl, hn⟩ | ⟨g, cap, cur, rfl, hb, hg, hnc, hcm, hcs, htake⟩
  · exact ⟨hl, by omega, .inl ⟨none, 0, rfl, List.eq_nil_of_length_eq_zero hn, fun _ => rfl⟩⟩
  · refine ⟨hl, Nat.le_trans hnc hcm, ?_⟩
    by_cases hz : l.length = 0
    · exact .inl ⟨some ⟨g, 0, none⟩, cap, by rw [hz], List.eq_nil_of_length_eq_zero hz, fun h => by cases h⟩
    · refine .inr ⟨g, cap, rfl, hb, by omega, fun i hi => ⟨?_, h0.frozenAt i⟩⟩
      rw [h0.cellAt i (by omega)]
      simp [List.getD, hi]
/-- what a string gives when it is turned into bytes -/
def sb (s : ByteArray) : List Int := s.data.toList.map fun b => (b.toNat : Int)
theorem sb_bd (s : ByteArray) : ∀ x ∈ sb s, 0 ≤ x ∧ x ≤ 255 := by
  intro x hx
  simp only [sb, List.mem_map] at hx
  obtain ⟨b, _, rfl⟩ := hx
  have := b.toNat_lt
  omega
theorem sb_len (s : ByteArray) : (sb s).length = s.size := by simp [sb]
theorem bytesWorld_below (w : World) (e : TypeId) (s : ByteArray) : Below w.heap.size w (Lib.bytesWorld w e s) :=
  ⟨rfl, rfl, rfl, by rw [Lib.bytesWorld_size]; omega, fun j hj => Lib.bytesWorld_at_old w e s j hj⟩
theorem bytesWorld_own (w : World) (s : ByteArray) (hs : s.size ≤ maxLen) (c : Nat) : OwnM (Lib.bytesWorld w BT s) w.heap.size (.slice (some ⟨w.heap.size, 0, none⟩) s.size c) (sb s) := by
  refine ⟨sb_bd s, by rw [sb_len]; exact hs, ?_⟩
  by_cases h0 : s.size = 0
  · exact .inl ⟨_, c, by rw [h0], List.eq_nil_of_length_eq_zero (by rw [sb_len]; exact h0), fun h => by cases h⟩
  · refine .inr ⟨w.heap.size, c, by rw [sb_len], Nat.le_refl _, by rw [sb_len]; omega, fun i hi => ?_⟩
    rw [sb_len] at hi
    have hsz : s.data.toList.length = s.size := by simp
    refine ⟨?_, ?_⟩
    · rw [Lib.bytesWorld_cell w BT s i hi]
      have : (sb s).getD i 0 = ((s.data.toList.getD i 0).toNat : Int) := by
        have hi' : i < s.data.toList.length := by omega
        simp [sb, List.getD, List.getElem?_map, List.getElem?_eq_getElem hi']
      rw [this]
    · have hb := Lib.bytesWorld_at_new w BT s
      have hsize : i < (Lib.bytesCells w BT s).size := by simp [Lib.bytesCells]; have : s.data.size = s.size := rfl; omega
      simp [World.frozen?, hb]
      omega

/-- a slice of the call's own is marked; what was there before its block is as it was -/
theorem markM_any (v : Value) (l : List Int) (base : Nat) (k : Int) (w : World) (h : OwnM w base v l) (hk0 : 0 ≤ k) (hk : k + l.length ≤ 4294967296) :
    Calls Tryd.prog 39 #[v, .int .i64 k] w fun e w' => e = .returned (.int .i64 (k + l.length)) ∧ OwnM w' base v (marks k l.length) ∧ Below base w w' := by
  obtain ⟨hbd, hm, ⟨a, c, rfl, rfl, hac⟩ | ⟨g, c, rfl, hb, hp, hc⟩⟩ := h
  · go_enter Tryd.func39, Tryd.ntmps39
    go_wp2
    refine wp_loop_rounds 1 ?_
    rw [rounds_succ]
    go_wp2
    go_ret
    exact ⟨ret_int (by simp), ⟨by simp [marks], by simp [marks, maxLen], .inl ⟨a, c, rfl, rfl, hac⟩⟩, Below.refl _ _⟩
  · obtain ⟨n, hn'⟩ : ∃ n, n = l.length := ⟨_, rfl⟩
    rw [← hn'] at hc hp hk ⊢
    have HN := Lib.hid hn'
    have hm' : n ≤ 9223372036854775807 := by unfold maxLen at hm; omega
    clear hn' hm
    go_enter Tryd.func39, Tryd.ntmps39
    go_wp2
    go_loopw [1, 5] (fun q i wr => ∃ j : Nat, j ≤ n ∧ i = .int .i64 j ∧ q = .int .i64 (k + (j : Int)) ∧ (∀ i, i < j → wr.cell? ⟨g, i, none⟩ = some (.int .u8 ((k + (i : Int)) % 256))) ∧ (∀ i, j ≤ i → i < n → wr.cell? ⟨g, i, none⟩ = some (.int .u8 (l.getD i 0))) ∧ (∀ i, i < n → wr.frozen? ⟨g, i, none⟩ = false) ∧ Below base w wr) (fun _ i _ => n - (intOf i).toNat)
    case atStart => exact ⟨0, Nat.zero_le _, rfl, by simp, fun i hi => by omega, fun i _ hi => (hc i hi).1, fun i hi => (hc i hi).2, Below.refl _ _⟩
    case round =>
      obtain ⟨j, hj, rfl, rfl, hd, hr, hf, hB⟩ := hrel
      by_cases hlt : j < n
      · have hltI : (j : Int) < (n : Int) := by omega
        have e2 := hr j (Nat.le_refl _) hlt
        have e3 := hf j hlt
        have hB2 : Below base w (wr.setCell ⟨g, j, none⟩ (.int .u8 ((k + (j : Int)) % 256))) := hB.setCell hb _
        have hd2 : ∀ i, i < j + 1 → (wr.setCell ⟨g, j, none⟩ (.int .u8 ((k + (j : Int)) % 256))).cell? ⟨g, i, none⟩ = some (.int .u8 ((k + (i : Int)) % 256)) := by
          intro i hi
          by_cases e : i = j
          · subst e
            exact World.cell?_setCell_same' _ _ _ (by rw [e2]; rfl)
          · rw [World.cell?_setCell_other _ _ _ _ (by intro h; injection h with _ h2; exact e h2.symm)]
            exact hd i (by omega)
        have hr2 : ∀ i, j + 1 ≤ i → i < n → (wr.setCell ⟨g, j, none⟩ (.int .u8 ((k + (j : Int)) % 256))).cell? ⟨g, i, none⟩ = some (.int .u8 (l.getD i 0)) := by
          intro i h1 h2
          rw [World.cell?_setCell_other _ _ _ _ (by intro h; injection h with _ h3; omega)]
          exact hr i (by omega) h2
        have hf2 : ∀ i, i < n → (wr.setCell ⟨g, j, none⟩ (.int .u8 ((k + (j : Int)) % 256))).frozen? ⟨g, i, none⟩ = false := by
          intro i hi
          rw [World.frozen?_setCell]
          exact hf i hi
        have HD := Lib.hid hd2
        have HR := Lib.hid hr2
        have HF := Lib.hid hf2
        clear hd hr hf hd2 hr2 hf2 hc
        go_wp2
        go_roundw
        case rel => exact ⟨j + 1, by omega, by go_num, by congr 1; omega, HD.out, HR.out, HF.out, hB2⟩
        case measure => simp [intOf]; omega
      · have hjn : j = n := by omega
        subst hjn
        have ho : OwnM wr base (.slice (some ⟨g, 0, none⟩) j c) (marks k j) :=
          ⟨marks_bd k j, by rw [marks_len]; simp only [maxLen]; omega, .inr ⟨g, c, by rw [marks_len], hb, by rw [marks_len]; exact hp, fun i hi => by
            rw [marks_len] at hi
            rw [marks_getD k j i hi]
            exact ⟨hd i hi, hf i hi⟩⟩⟩
        clear hd hr hf hc
        go_wp2
        go_ret
        exact ⟨rfl, ho, hB⟩
/-- a text in bytes of the call's own -/
def TextB (w : World) (l : List Int) (e : Ending) (w' : World) : Prop := ∃ u, e = .returned u ∧ OwnM w' w.heap.size u l ∧ Below w.heap.size w w'
theorem over_mark {V w w' : World} {base : Nat} (h : Over V w) (hb : V.heap.size ≤ base) (hm : Below base w w') : Over V w' := Below.trans h (hm.mono hb)
end Go.Proofs.YtichmbbpjkikaaaDoor
