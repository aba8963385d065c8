/-
  Marks on a table that was made by the call; they are found again. Conditions: those in each contract.
-/
import Derived.Test.YtaiffofmhfflkaaGreatEG
namespace Go.Proofs.YtaiffofmhfflkaaGreat
open Go.ChangeShapes Go.WideShapes Go.ChangeAt Go.RowKit Go.BigFrame Go.Joins
set_option linter.unusedVariables false
set_option maxRecDepth 100000
set_option linter.unusedSimpArgs false
set_option maxRecDepth 100000

theorem apart_of {T : List ET} (h : (rowsT T).Pairwise Apart) {t : ET} (ht : t ∈ T) : Apart t.u t.v := by
  unfold rowsT at h
  rw [List.pairwise_flatMap] at h
  have := h.1 t ht
  simp at this
  exact this
theorem apart_ij {T : List ET} (h : (rowsT T).Pairwise Apart) {i j : Nat} {s t : ET} (hi : T[i]? = some s) (hj : T[j]? = some t) (hne : i ≠ j) : (Apart s.u t.u ∧ Apart s.u t.v) ∧ Apart s.v t.u ∧ Apart s.v t.v := by
  unfold rowsT at h
  rw [List.pairwise_flatMap] at h
  obtain ⟨li, ei⟩ := List.getElem?_eq_some_iff.1 hi
  obtain ⟨lj, ej⟩ := List.getElem?_eq_some_iff.1 hj
  rcases Nat.lt_or_gt_of_ne hne with q | q
  · have := List.pairwise_iff_getElem.1 h.2 i j li lj q
    rw [ei, ej] at this
    exact ⟨⟨this _ (by simp) _ (by simp), this _ (by simp) _ (by simp)⟩, this _ (by simp) _ (by simp), this _ (by simp) _ (by simp)⟩
  · have := List.pairwise_iff_getElem.1 h.2 j i lj li q
    rw [ei, ej] at this
    exact ⟨⟨(this _ (by simp) _ (by simp)).symm, (this t.v (by simp) s.u (by simp)).symm⟩, (this t.u (by simp) s.v (by simp)).symm, (this _ (by simp) _ (by simp)).symm⟩
theorem flat_same {α : Type} (f : ET → List α) {S : List ET} {j : Nat} {t t' : ET} (hj : S[j]? = some t) (h : f t' = f t) : (S.set j t').flatMap f = S.flatMap f := by
  rw [List.flatMap_def, List.flatMap_def]
  congr 1
  obtain ⟨lj, ej⟩ := List.getElem?_eq_some_iff.1 hj
  rw [List.map_set, h, ← ej]
  apply List.ext_getElem?
  intro i
  by_cases hij : j = i
  · subst hij
    rw [List.getElem?_set_self (by simpa using lj)]
    simp [List.getElem?_eq_getElem lj]
  · rw [List.getElem?_set_ne hij]
theorem flatT_set1 {x : Value} {d : Nat} (hd : d < 7) {t t' : ET} (hc : cellsT t' = (cellsT t).set d x) : ∀ (S : List ET) (j : Nat), S[j]? = some t → (flatT S).set (j * 7 + d) x = flatT (S.set j t')
  | [], j, h => by simp at h
  | s :: S, 0, h => by
    simp at h
    subst h
    rw [flatT_cons, List.set_cons_zero, flatT_cons, hc, show 0 * 7 + d = d by omega, List.set_append_left _ _ (by simp [cellsT]; omega)]
  | s :: S, j + 1, h => by
    have hl : (cellsT s).length = 7 := rfl
    rw [flatT_cons, List.set_cons_succ, flatT_cons, List.set_append_right _ _ (by rw [hl]; omega), hl, show (j + 1) * 7 + d - 7 = j * 7 + d by omega, flatT_set1 hd hc S j (by simpa using h)]
theorem set_mem {S : List ET} {j : Nat} {t t' s : ET} (hj : S[j]? = some t) (h : s ∈ S.set j t') : s = t' ∨ ∃ i, i ≠ j ∧ S[i]? = some s := by
  obtain ⟨i, hi, e⟩ := List.mem_iff_getElem.1 h
  by_cases hij : j = i
  · subst hij
    rw [List.getElem_set_self] at e
    exact .inl e.symm
  · rw [List.getElem_set_ne hij] at e
    exact .inr ⟨i, Ne.symm hij, by rw [List.getElem?_eq_getElem (by simpa using hi), e]⟩
/-- one cell of an element that is no slice is written -/
theorem OwnT.setC {w : World} {base g n cap j : Nat} {S : List ET} {t : ET} (h : OwnT w base (.slice (some ⟨g, 0, none⟩) n cap) S) (hS : S.length = n) (hj : S[j]? = some t) (d : Nat) (x : Value) (t' : ET) (hd : d < 7) (hc : cellsT t' = (cellsT t).set d x)
    (hu : t'.u = t.u) (hv : t'.v = t.v) (hp : t'.E.p = t.E.p) (hcc : t'.E.c = t.E.c) : OwnT (w.setCell ⟨g, j * 7 + d, none⟩ x) base (.slice (some ⟨g, 0, none⟩) n cap) (S.set j t') := by
  have hr := h.row
  rw [hS] at hr
  have hm : t ∈ S := List.mem_of_getElem? hj
  refine ⟨?_, fun s hs => ?_, fun s hs => ?_, fun s hs => ?_, ?_⟩
  · rw [List.length_set, hS, ← flatT_set1 hd hc S j hj]
    exact (hr.stored (j * 7 + d) x).1
  · rcases set_mem hj hs with rfl | ⟨i, -, e⟩
    · rw [hu, hv, hp, hcc]
      exact ⟨(h.own t hm).1.kept (grown_set w g _ x) (h.sep t hm).1, (h.own t hm).2.kept (grown_set w g _ x) (h.sep t hm).2⟩
    · have q := List.mem_of_getElem? e
      exact ⟨(h.own s q).1.kept (grown_set w g _ x) (h.sep s q).1, (h.own s q).2.kept (grown_set w g _ x) (h.sep s q).2⟩
  · rcases set_mem hj hs with rfl | ⟨i, -, e⟩
    · rw [hu, hv, hp, hcc]; exact h.len t hm
    · exact h.len s (List.mem_of_getElem? e)
  · rcases set_mem hj hs with rfl | ⟨i, -, e⟩
    · rw [hu, hv]; exact h.sep t hm
    · exact h.sep s (List.mem_of_getElem? e)
  · have := flat_same (fun t => [t.u, t.v]) hj (t' := t') (by rw [hu, hv])
    unfold rowsT
    rw [this]
    exact h.apart
theorem sep_symm {v u : Value} (h : u.ownBlock = none ∨ u.ownBlock ≠ v.ownBlock) : v.ownBlock = none ∨ v.ownBlock ≠ u.ownBlock := by
  rcases h with h | h
  · cases hv : v.ownBlock with
    | none => exact .inl rfl
    | some k => exact .inr (by rw [h]; simp)
  · exact .inr h.symm
/-- the first slice of an element is written -/
theorem OwnT.setU {w w' : World} {base j : Nat} {v : Value} {S : List ET} {t : ET} {p : List Int} (h : OwnT w base v S) (hj : S[j]? = some t) (hg : w.grownBy w' t.u.ownBlock) (ho : OwnI w' base t.u p) (hl : p.length = t.E.p.length) : OwnT w' base v (S.set j ⟨{ t.E with p := p }, t.u, t.v⟩) := by
  have hm : t ∈ S := List.mem_of_getElem? hj
  refine ⟨?_, fun s hs => ?_, fun s hs => ?_, fun s hs => ?_, ?_⟩
  · rw [List.length_set]
    unfold flatT
    rw [flat_same cellsT hj (by simp [cellsT])]
    exact World.ownsRow.kept h.row hg (sep_symm (h.sep t hm).1)
  · rcases set_mem hj hs with rfl | ⟨i, hi, e⟩
    · exact ⟨ho, (h.own t hm).2.kept hg (apart_of h.apart hm).symm.1⟩
    · have q := List.mem_of_getElem? e
      have a := apart_ij h.apart e hj hi
      exact ⟨(h.own s q).1.kept hg a.1.1.1, (h.own s q).2.kept hg a.2.1.1⟩
  · rcases set_mem hj hs with rfl | ⟨i, -, e⟩
    · dsimp only; rw [hl]; exact h.len t hm
    · exact h.len s (List.mem_of_getElem? e)
  · rcases set_mem hj hs with rfl | ⟨i, -, e⟩
    · exact h.sep t hm
    · exact h.sep s (List.mem_of_getElem? e)
  · unfold rowsT
    have e := flat_same (fun t => [t.u, t.v]) (t' := (⟨{ t.E with p := p }, t.u, t.v⟩ : ET)) hj rfl
    rw [e]
    exact h.apart
/-- the second slice of an element is written -/
theorem OwnT.setV {w w' : World} {base j : Nat} {v : Value} {S : List ET} {t : ET} {p : List Int} (h : OwnT w base v S) (hj : S[j]? = some t) (hg : w.grownBy w' t.v.ownBlock) (ho : OwnI w' base t.v p) (hl : p.length = t.E.c.length) : OwnT w' base v (S.set j ⟨{ t.E with c := p }, t.u, t.v⟩) := by
  have hm : t ∈ S := List.mem_of_getElem? hj
  refine ⟨?_, fun s hs => ?_, fun s hs => ?_, fun s hs => ?_, ?_⟩
  · rw [List.length_set]
    unfold flatT
    rw [flat_same cellsT hj (by simp [cellsT])]
    exact World.ownsRow.kept h.row hg (sep_symm (h.sep t hm).2)
  · rcases set_mem hj hs with rfl | ⟨i, hi, e⟩
    · exact ⟨(h.own t hm).1.kept hg (apart_of h.apart hm).1, ho⟩
    · have q := List.mem_of_getElem? e
      have a := apart_ij h.apart e hj hi
      exact ⟨(h.own s q).1.kept hg a.1.2.1, (h.own s q).2.kept hg a.2.2.1⟩
  · rcases set_mem hj hs with rfl | ⟨i, -, e⟩
    · dsimp only; rw [hl]; exact h.len t hm
    · exact h.len s (List.mem_of_getElem? e)
  · rcases set_mem hj hs with rfl | ⟨i, -, e⟩
    · exact h.sep t hm
    · exact h.sep s (List.mem_of_getElem? e)
  · unfold rowsT
    have e := flat_same (fun t => [t.u, t.v]) (t' := (⟨{ t.E with c := p }, t.u, t.v⟩ : ET)) hj rfl
    rw [e]
    exact h.apart
/-- an entry as marks from k on leave it -/
def markE (k : Int) (p c : Nat) : Ent := ⟨k, k + 1, k + 2, imarks (k + 3) p, k + 3 + p, imarks (k + 3 + p + 1) c, k + 3 + p + 1 + c⟩
def wE (E : Ent) : Nat := 5 + E.p.length + E.c.length
/-- a table's entries bear the marks from k on; W: how many each bears -/
def MarkedW (k : Int) (W : List Nat) (L : List Ent) (j : Nat) : Prop := L.map wE = W ∧ ∀ i, i < j → i < L.length → L.getD i e0 = markE (k + (W.take i).sum) (L.getD i e0).p.length (L.getD i e0).c.length
theorem markE_w (k : Int) (p c : Nat) : wE (markE k p c) = 5 + p + c := by simp [wE, markE, imarks_len]
theorem wE_get {W : List Nat} {L : List Ent} (h : L.map wE = W) {j : Nat} (hj : j < L.length) : (W.take (j + 1)).sum = (W.take j).sum + wE (L.getD j e0) := by
  subst h
  rw [List.take_add_one, List.getElem?_eq_getElem (by simpa using hj)]
  simp [List.getD, hj]
theorem wE_le (W : List Nat) (j : Nat) : (W.take j).sum ≤ W.sum := by
  have := List.sum_append (l₁ := W.take j) (l₂ := W.drop j)
  rw [List.take_append_drop] at this
  omega
theorem wE_all (L : List Ent) : (L.map wE).sum = 5 * L.length + wtE L := by
  induction L with
  | nil => simp [wtE]
  | cons E L ih =>
    have e : wtE (E :: L) = E.p.length + E.c.length + wtE L := by simp [wtE]
    rw [List.map_cons, List.sum_cons, ih, e, List.length_cons, wE]
    omega
theorem markedW_next {k : Int} {W : List Nat} {S : List ET} {j : Nat} {t t' : ET} (h : MarkedW k W (entT S) j) (hj : S[j]? = some t) (ht : t'.E = markE (k + (W.take j).sum) t.E.p.length t.E.c.length) : MarkedW k W (entT (S.set j t')) (j + 1) := by
  obtain ⟨lj, ej⟩ := List.getElem?_eq_some_iff.1 hj
  have hw : wE t'.E = wE t.E := by rw [ht, markE_w]; rfl
  refine ⟨?_, fun i hi hl => ?_⟩
  · rw [← h.1]
    unfold entT
    rw [List.map_set, List.map_set, hw]
    apply List.ext_getElem?
    intro i
    by_cases hij : j = i
    · subst hij
      rw [List.getElem?_set_self (by simpa using lj)]
      simp [hj]
    · rw [List.getElem?_set_ne hij]
  · have hlS : i < S.length := by simpa [entT] using hl
    by_cases hij : j = i
    · subst hij
      have e : (entT (S.set j t')).getD j e0 = t'.E := by simp [entT, List.getD, lj]
      rw [e, ht]
      simp [markE, imarks_len]
    · have e : (entT (S.set j t')).getD i e0 = (entT S).getD i e0 := by simp [entT, List.getD, List.getElem?_set_ne hij]
      rw [e]
      exact h.2 i (by omega) (by simpa [entT] using hlS)
end Go.Proofs.YtaiffofmhfflkaaGreat
