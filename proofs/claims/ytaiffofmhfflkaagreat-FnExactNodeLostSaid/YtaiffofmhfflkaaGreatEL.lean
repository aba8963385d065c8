/-
  Words for the law on RibDropPeer. Conditions: those in each statement.
-/
import Derived.Test.YtaiffofmhfflkaaGreatEI
import Derived.Test.YtaiffofmhfflkaaGreatEK
import Derived.Test.YtaiffofmhfflkaaGreatF5
import Derived.Deep.RegionHeld
namespace Go.Proofs.YtaiffofmhfflkaaGreat
open Go.ChangeShapes Go.WideShapes Go.ChangeAt Go.RowKit Go.BigFrame Go.Joins
set_option linter.unusedVariables false
set_option maxRecDepth 100000
set_option linter.unusedSimpArgs false
set_option maxRecDepth 100000

theorem OwnI.softT {base hi b : Nat} {w w' : World} {v : Value} {l : List Int} (h : OwnI w b v l) (s : Soft base hi w w') (hv : hi ≤ b) : OwnI w' b v l := by
  unfold OwnI at h ⊢
  refine ⟨h.1, ?_⟩
  rcases h.2 with hn | ⟨g, cap, cur, e, hb, hg, rest⟩
  · exact .inl hn
  · have hlt : g < w.heap.size := (World.ownsRow.lt h g (by rw [e]; rfl)).2
    exact .inr ⟨g, cap, cur, e, hb, (s.block g hlt (.inr (by omega))).trans hg, rest⟩
theorem OwnT.soft {base hi b : Nat} {w w' : World} {v : Value} {T : List ET} (h : OwnT w b v T) (s : Soft base hi w w') (hv : hi ≤ b) : OwnT w' b v T := by
  refine ⟨⟨h.row.1, ?_⟩, fun t ht => ⟨(h.own t ht).1.softT s hv, (h.own t ht).2.softT s hv⟩, h.len, h.sep, h.apart⟩
  rcases h.row.2 with hn | ⟨g, cap, cur, e, hb, hg, rest⟩
  · exact .inl hn
  · have hlt : g < w.heap.size := (World.ownsRow.lt h.row g (by rw [e]; rfl)).2
    exact .inr ⟨g, cap, cur, e, hb, (s.block g hlt (.inr (by omega))).trans hg, rest⟩
theorem blSoftT {base hi B : Nat} {w w' : World} {xs : List Value} (h : Bl w B xs) (s : Soft base hi w w') (hB : hi ≤ B) : Bl w' B xs :=
  ⟨Nat.lt_of_lt_of_le h.lt s.size, fun i x e => (World.cell?_of_block (s.block B h.lt (.inr hB))).trans (h.cs i x e), fun i hi' => (World.frozen?_of_block (s.block B h.lt (.inr hB))).trans (h.fz i hi')⟩
theorem dropP_sub {L : List Ent} {pe : Int} {E : Ent} (h : E ∈ dropP L pe) : E ∈ L := by
  unfold dropP at h
  split at h
  · exact (List.mem_filter.1 h).1
  · simp at h
theorem bd_mem {L : List Ent} (h : ∀ i, i < L.length → BdE (L.getD i e0)) {E : Ent} (hE : E ∈ L) : BdE E := by
  obtain ⟨i, hi, e⟩ := List.mem_iff_getElem.1 hE
  have := h i hi
  rw [List.getD_eq_getElem?_getD, List.getElem?_eq_getElem hi] at this
  rw [← e]
  exact this
theorem entT_mem {T : List ET} {t : ET} (h : t ∈ T) : t.E ∈ entT T := List.mem_map.2 ⟨t, h, rfl⟩
theorem lens_of {L : List Ent} (h : L.length + wtE L ≤ 1048576) : ∀ j, j < L.length → (L.getD j e0).p.length ≤ 1048576 ∧ (L.getD j e0).c.length ≤ 1048576 := fun j hj => by
  have := wt_at hj
  omega
theorem wE_filter (f : Ent → Bool) : ∀ L : List Ent, ((L.filter f).map wE).sum ≤ (L.map wE).sum
  | [] => by simp
  | E :: L => by
    have ih := wE_filter f L
    rw [List.filter_cons, List.map_cons, List.sum_cons]
    split
    · rw [List.map_cons, List.sum_cons]; omega
    · omega
theorem wE_drop {L : List Ent} (h : L.length + wtE L ≤ 1048576) (pe : Int) : ((dropP L pe).map wE).sum ≤ 8000000 := by
  have a := wE_all L
  unfold dropP
  split
  · have := wE_filter (fun E => !(E.pe == pe)) L
    omega
  · simp
theorem marked_bd {k : Int} {W : List Nat} {S : List ET} {n : Nat} (h : MarkedW k W (entT S) n) (hn : n = S.length) (hk0 : 0 ≤ k) (hk : k ≤ 32000000) (hW : W.sum ≤ 8000000) : ∀ t ∈ S, BdE t.E := by
  intro t ht
  obtain ⟨i, hi, e⟩ := List.mem_iff_getElem.1 ht
  have hl : i < (entT S).length := by rw [entT_len]; exact hi
  have q := h.2 i (by omega) hl
  have w1 := wE_get h.1 hl
  have w2 := wE_le W (i + 1)
  rw [entT_get hi, e] at q w1
  simp only [wE] at w1
  rw [q]
  unfold markE BdE
  exact ⟨imarks_bd _ _ (by omega) (by omega), imarks_bd _ _ (by omega) (by omega)⟩
end Go.Proofs.YtaiffofmhfflkaaGreat
