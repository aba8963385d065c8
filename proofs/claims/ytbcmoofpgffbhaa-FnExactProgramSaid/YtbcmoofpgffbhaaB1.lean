/-
  Slices of bytes: what one reads as; contracts of the laws' own functions that copy, compare, mark and ask such slices. Conditions: those in each contract.
-/
import Derived.Test.YtbcmoofpgffbhaaW2
import Derived.LoopN
import Derived.Laws.OwnMore
import Derived.Laws.MakeOwn
import Derived.Deep.OwnRows
namespace Go.Proofs.Ytbcmoofpgffbhaa
open Go.ChangeShapes Go.WideShapes Go.ChangeAt Go.RowKit Go.BigFrame
set_option linter.unusedVariables false
set_option maxRecDepth 100000

/-- the slice value v reads as the bytes l -/
def Rd (w : World) (v : Value) (l : List Int) : Prop :=
  (∀ x ∈ l, 0 ≤ x ∧ x ≤ 255) ∧ l.length ≤ maxLen ∧
  ((∃ a c, v = .slice a 0 c ∧ l = [] ∧ (a = none → c = 0)) ∨
   ∃ b o c, v = .slice (some ⟨b, o, none⟩) l.length c ∧ 0 < l.length ∧ ∀ i, i < l.length → w.cell? ⟨b, o + i, none⟩ = some (.int .u8 (l.getD i 0)))

theorem Rd.keep {w w' : World} {v : Value} {l : List Int} (h : Rd w v l) (hb : Below w.heap.size w w') : Rd w' v l := by
  obtain ⟨h1, h2, h3⟩ := h
  refine ⟨h1, h2, ?_⟩
  rcases h3 with h3 | ⟨b, o, c, hv, hp, hc⟩
  · exact .inl h3
  · refine .inr ⟨b, o, c, hv, hp, fun i hi => ?_⟩
    exact cell_keep hb (World.block_lt_of_cell? w _ (hc i hi)) (hc i hi)
theorem Rd.len {w : World} {v : Value} {l : List Int} (h : Rd w v l) : ∃ a c, v = .slice a l.length c := by
  rcases h.2.2 with ⟨a, c, rfl, rfl, hac⟩ | ⟨b, o, c, rfl, _⟩
  · exact ⟨a, c, rfl⟩
  · exact ⟨_, c, rfl⟩
theorem getD_bd {l : List Int} (h : ∀ x ∈ l, 0 ≤ x ∧ x ≤ 255) (i : Nat) : 0 ≤ l.getD i 0 ∧ l.getD i 0 ≤ 255 := by
  by_cases hi : i < l.length
  · have e : l.getD i 0 = l[i] := by simp [List.getD, hi]
    rw [e]; exact h _ (List.getElem_mem hi)
  · simp [List.getD, List.getElem?_eq_none (by omega : l.length ≤ i)]
theorem take_eq_succ {l m : List Int} {k : Nat} (h : l.take k = m.take k) (h1 : k < l.length) (h2 : k < m.length) (he : l.getD k 0 = m.getD k 0) : l.take (k + 1) = m.take (k + 1) := by
  rw [List.take_succ_eq_append_getElem h1, List.take_succ_eq_append_getElem h2, h]
  have a : l.getD k 0 = l[k] := by simp [List.getD, h1]
  have b : m.getD k 0 = m[k] := by simp [List.getD, h2]
  rw [← a, ← b, he]

/-- the two slices are compared: equal lengths, equal bytes -/
theorem eqB_any (v u : Value) (l m : List Int) (w : World) (h1 : Rd w v l) (h2 : Rd w u m) :
    Calls Try.prog 13 #[v, u] w fun e w' => e = .returned (.bool (decide (l = m))) ∧ Below w.heap.size w w' := by
  by_cases hlen : l.length = m.length
  · obtain ⟨b1, m1, ⟨a, c, rfl, rfl, hac⟩ | ⟨b, o, c, rfl, hp, hc⟩⟩ := h1
    · obtain rfl : m = [] := List.eq_nil_of_length_eq_zero (by simpa using hlen.symm)
      obtain ⟨b2, m2, ⟨a', c', rfl, -, -⟩ | ⟨b', o', c', rfl, hp', hc'⟩⟩ := h2
      · clear hlen
        rw [show decide (([] : List Int) = []) = true from rfl]
        go_enter Try.func13, Try.ntmps13
        go_wp2
        refine wp_loop_rounds 1 ?_
        rw [rounds_succ]
        go_wp2
        go_ret
        exact ⟨rfl, Below.refl _ _⟩
      · simp at hp'
    · obtain ⟨b2, m2, ⟨a', c', rfl, rfl, -⟩ | ⟨b', o', c', rfl, hp', hc'⟩⟩ := h2
      · simp [hlen] at hp
      · have hn : ∃ n, n = l.length := ⟨_, rfl⟩
        obtain ⟨n, hn⟩ := hn
        have hn' : n = m.length := hn.trans hlen
        rw [← hn'] at hp' hc' m2
        rw [← hn] at hp hc m1
        rw [← hn, ← hn']
        have HN := Lib.hid hn
        have HN' := Lib.hid hn'
        unfold maxLen at m1
        clear hn hn' hlen
        go_enter Try.func13, Try.ntmps13
        go_wp2
        go_loopw [5] (fun i wr => ∃ k : Nat, k ≤ n ∧ i = .int .i64 k ∧ l.take k = m.take k ∧ Below w.heap.size w wr) (fun i _ => n - (intOf i).toNat)
        case atStart => exact ⟨0, Nat.zero_le _, rfl, rfl, Below.refl _ _⟩
        case round =>
          obtain ⟨k, hk, rfl, ht, hB⟩ := hrel
          have HT := Lib.hid ht
          clear ht
          by_cases hlt : k < n
          · have e1 := cell_keep hB (World.block_lt_of_cell? w _ (hc k hlt)) (hc k hlt)
            have e2 := cell_keep hB (World.block_lt_of_cell? w _ (hc' k hlt)) (hc' k hlt)
            have hltI : (k : Int) < (n : Int) := by omega
            obtain ⟨x, hx⟩ : ∃ x, l.getD k 0 = x := ⟨_, rfl⟩
            obtain ⟨y, hy⟩ : ∃ y, m.getD k 0 = y := ⟨_, rfl⟩
            rw [hx] at e1
            rw [hy] at e2
            have HX := Lib.hid hx
            have HY := Lib.hid hy
            clear hx hy hc hc'
            by_cases hxy : x = y
            · have hne : (x != y) = false := by simp [hxy]
              have HE := Lib.hid hxy
              clear hxy
              go_wp2
              go_quiet (fail)
              go_wp2
              go_roundw
              case rel => exact ⟨k + 1, by omega, by go_num, take_eq_succ HT.out (by rw [← HN.out]; exact hlt) (by rw [← HN'.out]; exact hlt) (by rw [HX.out, HY.out, HE.out]), hB.trans ⟨rfl, rfl, rfl, Nat.le_refl _, fun _ _ => rfl⟩⟩
              case measure => simp [intOf]; omega
            · have hne : (x != y) = true := by simp [hxy]
              have hlm : decide (l = m) = false := by
                simp only [decide_eq_false_iff_not]
                rintro rfl
                exact hxy (HX.out.symm.trans HY.out)
              have HL := Lib.hid hlm
              clear hlm hxy
              go_wp2
              go_quiet (fail)
              go_wp2
              go_ret
              exact ⟨ret_bool HL.out.symm, hB.trans ⟨rfl, rfl, rfl, Nat.le_refl _, fun _ _ => rfl⟩⟩
          · have hkn : k = n := by omega
            have hlm : decide (l = m) = true := by
              have h := HT.out
              rw [hkn, List.take_of_length_le (by rw [HN.out]; exact Nat.le_refl _), List.take_of_length_le (by rw [HN'.out]; exact Nat.le_refl _)] at h
              simp [h]
            have HL := Lib.hid hlm
            clear hlm hkn
            go_wp2
            go_ret
            exact ⟨ret_bool HL.out.symm, hB⟩
  · have hd : decide (l = m) = false := by
      simp only [decide_eq_false_iff_not]
      rintro rfl
      exact hlen rfl
    rw [hd]
    clear hd
    obtain ⟨a, c, rfl⟩ := h1.len
    obtain ⟨a', c', rfl⟩ := h2.len
    have hne : ((l.length : Int) != (m.length : Int)) = true := by simp; omega
    clear h1 h2
    go_enter Try.func13, Try.ntmps13
    go_wp2
    go_ret
    exact ⟨rfl, Below.refl _ _⟩

/-- the bytes that a marking leaves: k, k + 1, .. -/
def marks (k : Int) (n : Nat) : List Int := (List.range n).map fun (i : Nat) => (k + (i : Int)) % 256
theorem marks_len (k : Int) (n : Nat) : (marks k n).length = n := by simp [marks]
theorem marks_succ (k : Int) (n : Nat) : marks k (n + 1) = marks k n ++ [(k + (n : Int)) % 256] := by simp [marks, List.range_succ]
theorem marks_getD (k : Int) (n i : Nat) (h : i < n) : (marks k n).getD i 0 = (k + (i : Int)) % 256 := by simp [marks, List.getD, h]
theorem marks_bd (k : Int) (n : Nat) : ∀ x ∈ marks k n, 0 ≤ x ∧ x ≤ 255 := by
  intro x hx
  simp only [marks, List.mem_map] at hx
  obtain ⟨i, _, rfl⟩ := hx
  omega
theorem set_marks (k : Int) (l : List Int) (j : Nat) (h : j < l.length) : (marks k j ++ l.drop j).set j ((k + (j : Int)) % 256) = marks k (j + 1) ++ l.drop (j + 1) := by
  rw [List.set_append_right _ _ (by rw [marks_len]; exact Nat.le_refl _), marks_len, Nat.sub_self, List.drop_eq_getElem_cons h, List.set_cons_zero, marks_succ]
  simp

abbrev BT : TypeId := 5
/-- the bytes l in a row that the call made -/
def Own (w : World) (base : Nat) (v : Value) (l : List Int) : Prop := w.ownsRow base BT 1 v l.length (l.map (Value.int .u8))

theorem Own.rd {w : World} {base : Nat} {v : Value} {l : List Int} (h : Own w base v l) (hl : ∀ x ∈ l, 0 ≤ x ∧ x ≤ 255) : Rd w v l := by
  have h0 := h
  unfold Own at h0
  rcases h.2 with ⟨rfl, hn⟩ | ⟨g, cap, cur, rfl, hb, hg, hnc, hcm, hcs, htake⟩
  · exact ⟨hl, by omega, .inl ⟨none, 0, by rw [], List.eq_nil_of_length_eq_zero hn, fun _ => rfl⟩⟩
  · refine ⟨hl, Nat.le_trans hnc hcm, ?_⟩
    by_cases hz : l.length = 0
    · exact .inl ⟨some ⟨g, 0, none⟩, cap, by rw [hz], List.eq_nil_of_length_eq_zero hz, fun h => by cases h⟩
    · refine .inr ⟨g, 0, cap, rfl, by omega, fun i hi => ?_⟩
      rw [Nat.zero_add, h0.cellAt i (by omega)]
      simp [List.getD, hi]
/-- the slice's room -/
def Cap (u : Value) (xs : List Int) : Prop := ∃ a c, u = .slice a xs.length c ∧ xs.length ≤ c
theorem Own.cap {w : World} {base : Nat} {v : Value} {xs : List Int} (h : Own w base v xs) : Cap v xs := by
  rcases h.2 with ⟨hv, hn⟩ | ⟨g, cap, cur, hv, hb, hg, hnc, hcm, _⟩
  · exact ⟨none, 0, by rw [hv, hn], by omega⟩
  · exact ⟨_, cap, hv, hnc⟩
theorem Own.keep {w w' : World} {base : Nat} {v : Value} {l : List Int} (h : Own w base v l) (hb : Below w.heap.size w w') : Own w' base v l :=
  World.ownsRow.kept (row := none) h ⟨hb.os, hb.tape, hb.output, hb.size, fun k hk _ => hb.block k hk⟩ (by cases v.ownBlock <;> simp)
theorem Own.mono {w : World} {base base' : Nat} {v : Value} {l : List Int} (h : Own w base v l) (hb : base' ≤ base) : Own w base' v l := by
  refine ⟨h.1, ?_⟩
  rcases h.2 with hn | ⟨g, cap, cur, hv, hg, rest⟩
  · exact .inl hn
  · exact .inr ⟨g, cap, cur, hv, by omega, rest⟩

theorem infoB : (Try.prog.info? BT).map (fun i => (i.zero, i.size, i.bytes)) = some (some (.int .u8 0), 1, 1) := by kernel_rfl
theorem Own.lit {base : Nat} (w : World) (cs : Array Value) (l : List Int) (hb : base ≤ w.heap.size) (hm : l.length ≤ maxLen) (h : cs.toList = l.map (Value.int .u8)) :
    Own (w.alloc (.cells cs BT)) base (.slice (some ⟨w.heap.size, 0, none⟩) l.length l.length) l := by
  have hs : cs.size = l.length * 1 := by rw [← Array.length_toList, h]; simp
  have := World.ownsRow_lit (e := BT) (size := 1) w cs l.length hb hm hs
  rw [h] at this
  exact this
theorem toList_madeB (n : Nat) : (madeCells #[Value.int .u8 0] n).toList = (List.replicate n (0 : Int)).map (Value.int .u8) := by
  rw [toList_madeCells_one]; simp

theorem set_copied (l : List Int) (j n : Nat) (hn : n = l.length) (h : j < n) : (l.take j ++ List.replicate (n - j) 0).set j (l.getD j 0) = l.take (j + 1) ++ List.replicate (n - (j + 1)) 0 := by
  subst hn
  have ht : (l.take j).length = j := by simp; omega
  rw [List.set_append_right _ _ (by rw [ht]; exact Nat.le_refl _), ht, Nat.sub_self, show l.length - j = (l.length - (j + 1)) + 1 by omega, List.replicate_succ, List.set_cons_zero, List.take_succ_eq_append_getElem h, List.append_assoc]
  have e : l.getD j 0 = l[j] := by simp [List.getD, h]
  rw [e]
  rfl
theorem map_set_u8 (xs : List Int) (j : Nat) (x : Int) : (xs.map (Value.int .u8)).set j (.int .u8 x) = (xs.set j x).map (Value.int .u8) := by rw [List.map_set]

/-- a copy in a block of its own -/
theorem toB_any (v : Value) (l : List Int) (w : World) (h : Rd w v l) (hn : l.length ≤ 1048576) :
    Calls Try.prog 10 #[v] w fun e w' => e = .returned (.slice (some ⟨w.heap.size, 0, none⟩) l.length l.length) ∧ Own w' w.heap.size (.slice (some ⟨w.heap.size, 0, none⟩) l.length l.length) l ∧ Below w.heap.size w w' := by
  have hmk := fun W => run_make_row' (P := Try.prog) 22 BT (.int .u8 0) 1 Try.underlying22 infoB rfl .i64 .i64 l.length (by omega) (by omega) W
  obtain ⟨b1, m1, ⟨a, c, rfl, rfl, hac⟩ | ⟨b, o, c, rfl, hp, hc⟩⟩ := h
  · have hmk0 : ∀ W : World, (Instr.makeSlice 22 (.int .i64 0) (.int .i64 0)).run Try.prog W = .ok (.slice (some ⟨W.heap.size, 0, none⟩) 0 0) (W.alloc (.cells (madeCells #[.int .u8 0] 0) BT)) := fun W => by simpa using hmk W
    clear hmk
    go_enter Try.func10, Try.ntmps10
    go_wp2
    refine wp_loop_rounds 1 ?_
    rw [rounds_succ]
    go_wp2
    go_ret
    exact ⟨rfl, Own.lit w _ [] (Nat.le_refl _) (by simp) (by simp [madeCells]), (Below.refl _ _).alloc (Nat.le_refl _) _⟩
  · obtain ⟨n, hn'⟩ : ∃ n, n = l.length := ⟨_, rfl⟩
    rw [← hn'] at hp hc hn hmk ⊢
    have HN := Lib.hid hn'
    clear m1 hn'
    go_enter Try.func10, Try.ntmps10
    go_wp2
    go_loopw [4] (fun i wr => ∃ k : Nat, k ≤ n ∧ i = .int .i64 k ∧ wr.ownsRow w.heap.size BT 1 (.slice (some ⟨w.heap.size, 0, none⟩) n n) n ((l.take k ++ List.replicate (n - k) 0).map (Value.int .u8)) ∧ Below w.heap.size w wr) (fun i _ => n - (intOf i).toNat)
    case atStart => exact ⟨0, Nat.zero_le _, rfl, by
      have h := World.ownsRow_lit (base := w.heap.size) (e := BT) (size := 1) w (madeCells #[Value.int .u8 0] n) n (Nat.le_refl _) (by unfold maxLen; omega) (by rw [← Array.length_toList, toList_madeB]; simp)
      rw [toList_madeB] at h
      simpa using h, (Below.refl _ _).alloc (Nat.le_refl _) _⟩
    case round =>
      obtain ⟨k, hk, rfl, hown, hB⟩ := hrel
      by_cases hlt : k < n
      · have lb := World.block_lt_of_cell? w _ (hc k hlt)
        have e1 := cell_keep hB lb (hc k hlt)
        have hltI : (k : Int) < (n : Int) := by omega
        have hx : ((l.take k ++ List.replicate (n - k) 0).map (Value.int .u8))[k]? = some (.int .u8 0) := by
          have ht : (l.take k).length = k := by rw [List.length_take, ← HN.out]; omega
          rw [List.getElem?_map, List.getElem?_append_right (by rw [ht]; exact Nat.le_refl _), ht, Nat.sub_self, List.getElem?_replicate, if_pos (by omega)]
          rfl
        have e2 := (hown.cellAt k (by omega)).trans hx
        have e3 := hown.frozenAt k
        clear hx hc
        have hst := hown.stored k (.int .u8 (l.getD k 0))
        rw [map_set_u8, set_copied l k n HN.out hlt] at hst
        obtain ⟨hst1, hst2⟩ := hst
        have hB2 : Below w.heap.size w (wr.setCell ⟨w.heap.size, k, none⟩ (.int .u8 (l.getD k 0))) := hB.setCell (Nat.le_refl _) _
        clear hst2 hown
        obtain ⟨x, hx⟩ : ∃ x, l.getD k 0 = x := ⟨_, rfl⟩
        rw [hx] at e1 hst1 hB2
        clear hx
        go_wp2
        go_roundw
        case rel => exact ⟨k + 1, by omega, by go_num, hst1, hB2⟩
        case measure => simp [intOf]; omega
      · have hkn : k = n := by omega
        subst hkn
        clear hc
        have ho : Own wr w.heap.size (.slice (some ⟨w.heap.size, 0, none⟩) k k) l := by
          unfold Own
          rw [← HN.out]
          simpa [List.take_of_length_le (show l.length ≤ k by rw [HN.out]; exact Nat.le_refl _)] using hown
        clear hown
        go_wp2
        go_ret
        exact ⟨rfl, ho, hB⟩

/-- a slice of the call's own is marked: no other block has turned -/
theorem markB_any (v : Value) (l : List Int) (base : Nat) (k : Int) (w : World) (h : Own w base v l) (hk0 : 0 ≤ k) (hk : k + l.length ≤ 4294967296) :
    Calls Try.prog 14 #[v, .int .i64 k] w fun e w' => e = .returned (.int .i64 (k + l.length)) ∧ Own w' base v (marks k l.length) ∧ w.grownBy w' v.ownBlock := by
  have h0 := h
  unfold Own at h0
  rcases h.2 with ⟨rfl, hn⟩ | ⟨g, cap, cur, rfl, hb, hg, hnc, hcm, hcs, htake⟩
  · have hl : l = [] := List.eq_nil_of_length_eq_zero hn
    subst hl
    clear hn h0 hk
    go_enter Try.func14, Try.ntmps14
    go_wp2
    refine wp_loop_rounds 1 ?_
    rw [rounds_succ]
    go_wp2
    go_ret
    exact ⟨ret_int (by simp), h, ⟨rfl, rfl, rfl, Nat.le_refl _, fun _ _ _ => rfl⟩⟩
  · clear htake hcs hg h
    obtain ⟨n, hn'⟩ : ∃ n, n = l.length := ⟨_, rfl⟩
    rw [← hn'] at h0 hk hnc ⊢
    have HN := Lib.hid hn'
    have hm : n ≤ 9223372036854775807 := by unfold maxLen at hcm; omega
    clear hn' hcm cur
    go_enter Try.func14, Try.ntmps14
    go_wp2
    go_loopw [1, 5] (fun q i wr => ∃ j : Nat, j ≤ n ∧ i = .int .i64 j ∧ q = .int .i64 (k + (j : Int)) ∧ wr.ownsRow base BT 1 (.slice (some ⟨g, 0, none⟩) n cap) n ((marks k j ++ l.drop j).map (Value.int .u8)) ∧ w.grownBy wr (some g)) (fun _ i _ => n - (intOf i).toNat)
    case atStart => exact ⟨0, Nat.zero_le _, rfl, by simp, by simpa [marks] using h0, ⟨rfl, rfl, rfl, Nat.le_refl _, fun _ _ _ => rfl⟩⟩
    case round =>
      obtain ⟨j, hj, rfl, rfl, hown, hB⟩ := hrel
      by_cases hlt : j < n
      · have hltI : (j : Int) < (n : Int) := by omega
        have hx : ((marks k j ++ l.drop j).map (Value.int .u8))[j]? = some (.int .u8 (l.getD j 0)) := by
          have hl : j < l.length := by rw [← HN.out]; exact hlt
          rw [List.getElem?_map, List.getElem?_append_right (by rw [marks_len]; exact Nat.le_refl _), marks_len, Nat.sub_self, List.drop_eq_getElem_cons hl]
          simp [List.getD, hl]
        have e2 := (hown.cellAt j (by omega)).trans hx
        have e3 := hown.frozenAt j
        clear hx
        have hst := hown.stored j (.int .u8 ((k + (j : Int)) % 256))
        rw [map_set_u8, set_marks k l j (by rw [← HN.out]; exact hlt)] at hst
        obtain ⟨hst1, hst2⟩ := hst
        have hB2 : w.grownBy (wr.setCell ⟨g, j, none⟩ (.int .u8 ((k + (j : Int)) % 256))) (some g) :=
          ⟨hst2.os.trans hB.os, hst2.tape.trans hB.tape, hst2.output.trans hB.output, Nat.le_trans hB.size hst2.size, fun i hi hne => (hst2.block i (Nat.lt_of_lt_of_le hi hB.size) hne).trans (hB.block i hi hne)⟩
        clear hst2 hown hB
        go_wp2
        go_roundw
        case rel => exact ⟨j + 1, by omega, by go_num, by congr 1; omega, hst1, hB2⟩
        case measure => simp [intOf]; omega
      · have hjn : j = n := by omega
        subst hjn
        have ho : Own wr base (.slice (some ⟨g, 0, none⟩) j cap) (marks k j) := by
          unfold Own
          rw [marks_len]
          simpa [List.drop_eq_nil_of_le (show l.length ≤ j by rw [HN.out]; exact Nat.le_refl _)] using hown
        clear hown
        go_wp2
        go_ret
        exact ⟨rfl, ho, hB⟩
end Go.Proofs.Ytbcmoofpgffbhaa
