/-
  What is drawn for the laws on encodings: texts, and encodings with their place. Conditions: those in each contract.
-/
import Derived.Test.YtichmbbpjkikaaaDoorE2
import Derived.Test.YtichmbbpjkikaaaDoorD4
import Derived.Test.YtichmbbpjkikaaaDoorR1
import Derived.Lib.SlBytesConst
import Derived.Lib.ConvBytes
namespace Go.Proofs.YtichmbbpjkikaaaDoor
open Go.ChangeShapes Go.WideShapes Go.ChangeAt Go.RowKit Go.BigFrame
set_option linter.unusedVariables false
set_option maxRecDepth 100000
set_option linter.unusedSimpArgs false

theorem cell_markedE (w : World) (C : Array Value) (t : TypeId) (i : Nat) : (w.alloc (.cells C t)).cell? ⟨w.heap.size, i, none⟩ = C[i]? := by
  have h : (w.alloc (.cells C t)).heap[w.heap.size]? = some (.cells C t) := by
    show (w.heap.push _)[w.heap.size]? = _
    simp
  unfold World.cell?
  rw [h]
  rfl
theorem dtext_any (v : Value) (l : List Int) (w : World) (h : Rd w v l) :
    Calls Tryd.prog 8 #[v] w fun e w' => ∃ a n : Int, e = .returned (.agg #[.int .i64 a, .int .i64 n]) ∧ Over w w' ∧ fits a ∧ fits n := by
  obtain ⟨R, hR⟩ : ∃ R, R = w.heap.size := ⟨_, rfl⟩
  have bR := Box.new w (.int .i64 0) (.int .i64 0) 24 R hR
  have hw0 := over_alloc (over_refl w) (.cells #[.int .i64 0, .int .i64 0] 24)
  go_enter Tryd.func8, Tryd.ntmps8
  go_wp2_with fail
  refine (new_any v l _ (h.keep hw0)).mono ?_
  rintro e w1 ⟨g, rfl, cu1⟩
  have hgV := cu1.hg
  have hRg : R ≠ g := by simp at hgV; omega
  have hRw : w.heap.size ≤ R := by omega
  replace bR : Box w1 R (.int .i64 0) (.int .i64 0) := ⟨Nat.lt_of_lt_of_le bR.lt cu1.over.size, over_cell cu1.over bR.lt bR.c0, over_cell cu1.over bR.lt bR.c1, (World.frozen?_of_block (cu1.over.block _ bR.lt)).trans bR.f0, (World.frozen?_of_block (cu1.over.block _ bR.lt)).trans bR.f1⟩
  replace cu1 := cu1.down hw0 h
  rw [← hR]
  clear hR hgV
  go_wp2_with fail
  refine (bent_any _ g v l _ cu1).mono ?_
  rintro e w2 ⟨a, n, rfl, cu2, hg2, hfa, hfn⟩
  replace bR := bR.grown hg2 (by simpa using hRg)
  have ho := cu2.over
  clear cu2 hg2 cu1
  obtain ⟨lR, r0, r1, f0, f1⟩ := bR
  go_wp2_with fail
  have e0 := set_other (u := .int .i64 n) (a := ⟨R, 1, none⟩) (by simp) (set_same (u := .int .i64 a) r0)
  have e1 := set_same (u := .int .i64 n) (set_other (u := .int .i64 a) (a := ⟨R, 0, none⟩) (by simp) r1)
  exact bodyPost_ret (v := .agg #[.int .i64 a, .int .i64 n]) (by simp [results, Tryd.results8, go_sem, e0, e1]) rfl ⟨a, n, rfl, below_set (below_set ho hRw) hRw, hfa, hfn⟩
/-- the texts that are drawn -/
def strs : List ByteArray := [⟨#[]⟩, ⟨#[49, 46, 50]⟩, ⟨#[48, 49, 46, 48, 47, 56]⟩, ⟨#[50, 53, 54, 46, 48, 47, 49, 54]⟩, ⟨#[49, 46, 48, 47, 49, 55]⟩, ⟨#[49, 46, 49, 47, 56]⟩, ⟨#[49, 46, 48, 47, 56, 32]⟩, ⟨#[49, 46, 46, 48, 47, 56]⟩, ⟨#[48, 46, 48, 47, 48]⟩]
theorem dread_any (v : Value) (l : List Int) (w : World) (h : Rd w v l) :
    Calls Tryd.prog 15 #[v] w fun e w' => ∃ u xs, e = .returned u ∧ Rd w' u xs ∧ xs.length ≤ 100 ∧ Over w w' := by
  go_enter Tryd.func15, Tryd.ntmps15
  go_wp2_with fail
  refine (new_any v l _ h).mono ?_
  rintro e w1 ⟨g, rfl, cu1⟩
  go_wp2_with fail
  refine (draw_bd _ g v l _ cu1).mono ?_
  rintro e w2 ⟨a, n, rfl, cu2, hg2, ⟨a0, a1⟩, n0, n1⟩
  clear hg2 cu1
  go_wp2_with fail
  refine (l1text_any a n _ a0 a1 n0 n1).mono ?_
  rintro e w3 ⟨u, rfl, ho, hb⟩
  have cu3 := cu2.below hb
  have hgl := cu2.lt
  have q1 : (dgI (a / 256)).length ≤ 3 := dg_len _ (by omega)
  have q2 : (dgI (a % 256)).length ≤ 3 := dg_len _ (by omega)
  have q3 : (dgI n).length ≤ 3 := dg_len _ (by omega)
  obtain ⟨L, hL⟩ : ∃ L, (((dgI (a / 256) ++ [46]) ++ dgI (a % 256)) ++ [47] ++ dgI n) = L := ⟨_, rfl⟩
  have hLn : L.length ≤ 20 := by rw [← hL]; simp only [List.length_append, List.length_cons, List.length_nil]; omega
  have hLb : ∀ x ∈ L, 0 ≤ x ∧ x ≤ 255 := by
    rw [← hL]
    intro x hx
    simp only [List.mem_append, List.mem_singleton] at hx
    rcases hx with (((hx | rfl) | hx) | rfl) | hx
    · exact dgI_bd _ x hx
    · decide
    · exact dgI_bd _ x hx
    · decide
    · exact dgI_bd _ x hx
  rw [hL] at ho
  clear hL q1 q2 q3 hb cu2
  go_wp2_with fail
  refine (once_any _ g v l 3 _ cu3 (by decide) (by decide)).mono ?_
  rintro e w4 ⟨b, rfl, cu4, hg4⟩
  cases b
  · have o4 := cu4.over
    have r4 : Rd w4 u L := (ho.kept hg4 (sepG ho hgl)).rd hLb
    clear cu4 hg4 cu3
    go_wp2_with fail
    go_ret
    exact ⟨_, L, rfl, r4, by omega, o4⟩
  · clear ho hLb hLn cu3 hg4 hgl
    have hconv := fun (W : World) (s : ByteArray) => Lib.run_convert_string_bytes (P := Tryd.prog) W 9 22 BT s Tryd.underlying9 Tryd.underlying22 Tryd.underlying5
    have hgl := cu4.lt
    have hcs : ∀ j, j < 9 → (w4.alloc (.cells (strs.map Value.string).toArray 9)).cell? ⟨w4.heap.size, j, none⟩ = some (.string (strs.getD j ⟨#[]⟩)) := by
      intro j hj
      rw [cell_markedE]
      match j, hj with
      | 0, _ => rfl
      | 1, _ => rfl
      | 2, _ => rfl
      | 3, _ => rfl
      | 4, _ => rfl
      | 5, _ => rfl
      | 6, _ => rfl
      | 7, _ => rfl
      | 8, _ => rfl
    go_wp2_with fail
    refine (below_any _ g v l 9 _ (cu4.alloc (.cells (strs.map Value.string).toArray 9)) (by decide) (by decide)).mono ?_
    rintro e w5 ⟨k, rfl, ⟨hk0, hk1⟩, cu5, hg5⟩
    obtain ⟨k, rfl⟩ := Int.eq_ofNat_of_zero_le hk0
    have e1 := hg5.cell (hcs k (by omega)) (by intro q; injection q with q; simp at q; omega)
    have hsz : (strs.getD k ⟨#[]⟩).size ≤ 8 := by
      have : ∀ j, j < 9 → (strs.getD j ⟨#[]⟩).size ≤ 8 := by decide
      exact this k (by omega)
    obtain ⟨s, hs⟩ : ∃ s, strs.getD k ⟨#[]⟩ = s := ⟨_, rfl⟩
    rw [hs] at e1 hsz
    have o5 := cu5.over
    clear hs hcs cu5 hg5 cu4 hk0
    obtain ⟨B, hB⟩ : ∃ B, B = w4.heap.size := ⟨_, rfl⟩
    rw [← hB] at e1 ⊢
    clear hB
    have hk9 : k < 9 := by omega
    have ho := bytesWorld_own w5 s (by unfold maxLen; omega) (grownCap w5 s.size 0 BT)
    have ob := over_step o5 (bytesWorld_below w5 BT s)
    go_wp2_with fail
    go_ret
    exact ⟨_, sb s, rfl, ho.rd, by rw [sb_len]; omega, ob⟩
end Go.Proofs.YtichmbbpjkikaaaDoor
