/-
  A message's rows are marked: what else lies in memory. Conditions: those in each contract.
-/
import Derived.Test.YtaffcicgljoajaaGreatDoorN8
import Derived.Test.YtaffcicgljoajaaGreatDoorN2
namespace Go.Proofs.YtaffcicgljoajaaGreatDoor
open Go.ChangeShapes Go.WideShapes Go.ChangeAt Go.RowKit Go.BigFrame
set_option linter.unusedVariables false
set_option maxRecDepth 100000
set_option linter.unusedSimpArgs false

/-- nothing has turned but blocks from base to N -/
structure Mid (base N : Nat) (w w' : World) : Prop where
  os : w'.os = w.os
  tape : w'.tape = w.tape
  output : w'.output = w.output
  size : w.heap.size ≤ w'.heap.size
  block : ∀ i, i < w.heap.size → (i < base ∨ N ≤ i) → w'.heap[i]? = w.heap[i]?
theorem Mid.of_grown {base N : Nat} {w w' : World} {row : Option Nat} (h : w.grownBy w' row) (hr : ∀ k, row = some k → base ≤ k ∧ k < N) : Mid base N w w' :=
  ⟨h.os, h.tape, h.output, h.size, fun i hi hc => h.block i hi (fun e => by have := hr i e.symm; omega)⟩
theorem Mid.trans {base N : Nat} {a b c : World} (h : Mid base N a b) (k : Mid base N b c) : Mid base N a c :=
  ⟨k.os.trans h.os, k.tape.trans h.tape, k.output.trans h.output, Nat.le_trans h.size k.size, fun i hi hc => (k.block i (Nat.lt_of_lt_of_le hi h.size) hc).trans (h.block i hi hc)⟩
theorem Mid.over {base N : Nat} {V w w' : World} (h : Over V w) (m : Mid base N w w') (hV : V.heap.size ≤ base) : Over V w' :=
  Below.trans h ⟨m.os, m.tape, m.output, m.size, fun i hi => m.block i (Nat.lt_of_lt_of_le hi h.size) (.inl (Nat.lt_of_lt_of_le hi hV))⟩
theorem Mid.own {base N : Nat} {w w' : World} {b : Nat} {v : Value} {l : List Int} (h : Own w b v l) (m : Mid base N w w') (hv : N ≤ b) : Own w' b v l := by
  refine ⟨h.1, ?_⟩
  rcases h.2 with hn | ⟨g, cap, cur, e, hb, hg, rest⟩
  · exact .inl hn
  · have hlt : g < w.heap.size := (World.ownsRow.lt h g (by rw [e]; rfl)).2
    exact .inr ⟨g, cap, cur, e, hb, (m.block g hlt (.inr (by omega))).trans hg, rest⟩
theorem markP_any (v : Value) (l : List (Int × Int)) (base : Nat) (k : Int) (w : World) (h : OwnP w base v l) (hk0 : 0 ≤ k) (hk : k + l.length * 2 ≤ 4294967296) :
    Calls Tryz.prog 51 #[v, .int .i64 k] w fun e w' => e = .returned (.int .i64 (k + l.length * 2)) ∧ (∃ l', l'.length = l.length ∧ OwnP w' base v l') ∧ w.grownBy w' v.ownBlock := by
  have h0 := h
  unfold OwnP at h0
  rcases h.2 with ⟨rfl, hn⟩ | ⟨g, cap, cur, rfl, hb, hg, hnc, hcm, hcs, htake⟩
  · have hl : l = [] := List.eq_nil_of_length_eq_zero hn
    subst hl
    clear hn h0 hk
    go_enter Tryz.func51, Tryz.ntmps51
    go_wp2
    refine wp_loop_rounds 1 ?_
    rw [rounds_succ]
    go_wp2
    go_ret
    exact ⟨ret_int (by simp), ⟨[], rfl, h⟩, ⟨rfl, rfl, rfl, Nat.le_refl _, fun _ _ _ => rfl⟩⟩
  · clear htake hcs hg h
    obtain ⟨n, hn'⟩ : ∃ n, n = l.length := ⟨_, rfl⟩
    have h1 : ∃ l' : List (Int × Int), l'.length = n ∧ w.ownsRow base PT 2 (.slice (some ⟨g, 0, none⟩) n cap) n ((flat l').map (Value.int .i64)) := ⟨l, hn'.symm, by rw [hn']; exact h0⟩
    rw [← hn'] at hk hnc ⊢
    have hm : n ≤ 9223372036854775807 := by unfold maxLen at hcm; omega
    clear hn' hcm cur h0
    go_enter Tryz.func51, Tryz.ntmps51
    go_wp2
    go_loopw [1, 5] (fun q i wr => ∃ j : Nat, j ≤ n ∧ i = .int .i64 j ∧ q = .int .i64 (k + (j : Int) * 2) ∧ (∃ l' : List (Int × Int), l'.length = n ∧ wr.ownsRow base PT 2 (.slice (some ⟨g, 0, none⟩) n cap) n ((flat l').map (Value.int .i64))) ∧ w.grownBy wr (some g)) (fun _ i _ => n - (intOf i).toNat)
    case atStart => exact ⟨0, Nat.zero_le _, rfl, by simp, h1, ⟨rfl, rfl, rfl, Nat.le_refl _, fun _ _ _ => rfl⟩⟩
    case round =>
      obtain ⟨j, hj, rfl, rfl, ⟨l', hl', hown⟩, hB⟩ := hrel
      by_cases hlt : j < n
      · have hltI : (j : Int) < (n : Int) := by omega
        have hfl : ((flat l').map (Value.int .i64)).length = n * 2 := by rw [List.length_map, flat_len, hl']
        have f0 := hown.frozenAt (j * 2)
        have f1 := hown.frozenAt (j * 2 + 1)
        obtain ⟨p0, e0⟩ : ∃ p0, wr.cell? ⟨g, j * 2, none⟩ = some p0 := ⟨_, (hown.cellAt (j * 2) (by omega)).trans (List.getElem?_eq_getElem (by rw [hfl]; omega))⟩
        obtain ⟨p1, e1⟩ : ∃ p1, wr.cell? ⟨g, j * 2 + 1, none⟩ = some p1 := ⟨_, (hown.cellAt (j * 2 + 1) (by omega)).trans (List.getElem?_eq_getElem (by rw [hfl]; omega))⟩
        have s1 := hown.stored (j * 2) (.int .i64 (k + (j : Int) * 2))
        have s2 := s1.1.stored (j * 2 + 1) (.int .i64 (k + (j : Int) * 2 + 1))
        have hB2 := grown_trans (grown_trans hB s1.2) s2.2
        have hst := s2.1
        rw [map_set_flat _ j (by rw [hl']; exact hlt)] at hst
        have HST := Lib.hid hst
        have HB := Lib.hid hB2
        have HL : Hid ((l'.set j (k + (j : Int) * 2, k + (j : Int) * 2 + 1)).length = n) := Lib.hid (by rw [List.length_set, hl'])
        clear s1 s2 hst hB2 hown hB hfl hl'
        go_wp2
        go_roundw
        case rel => exact ⟨j + 1, by omega, by go_num, by congr 1; omega, ⟨_, HL.out, HST.out⟩, HB.out⟩
        case measure => simp [intOf]; omega
      · have hjn : j = n := by omega
        subst hjn
        go_wp2
        go_ret
        exact ⟨rfl, ⟨l', hl', by unfold OwnP; rw [hl']; exact hown⟩, hB⟩
end Go.Proofs.YtaffcicgljoajaaGreatDoor
