/-
  Words on a row of entries in which a place is made, or an entry laid into a place. Conditions: those in each contract.
-/
import Derived.Test.YtaiffofmhfflkaaPB
import Derived.Test.YtaiffofmhfflkaaEJ
namespace Go.Proofs.Ytaiffofmhfflkaa
open Go.ChangeShapes Go.WideShapes Go.ChangeAt Go.RowKit Go.BigFrame Go.Joins
set_option linter.unusedVariables false
set_option maxRecDepth 100000
set_option linter.unusedSimpArgs false
set_option maxRecDepth 100000

theorem sepI {W : World} {x v v' : Value} (h : x.ownBlock = none ∨ x.ownBlock ≠ v.ownBlock) (hx : ∀ k, x.ownBlock = some k → k < W.heap.size) (ho : v'.ownBlock = v.ownBlock ∨ ∃ k, v'.ownBlock = some k ∧ W.heap.size ≤ k) : x.ownBlock = none ∨ x.ownBlock ≠ v'.ownBlock := by
  rcases h with h | h
  · exact .inl h
  · rcases ho with e | ⟨k, e, hk⟩
    · exact .inr (by rw [e]; exact h)
    · cases q : x.ownBlock with
      | none => exact .inl rfl
      | some j => exact .inr (by rw [e]; have := hx j q; intro r; cases r; omega)
theorem apart_nil (x : Value) : Apart x (.slice none 0 0) := ⟨by cases h : x.ownBlock with
  | none => exact .inl rfl
  | some k => exact .inr (by simp [Value.ownBlock]), .inl rfl⟩
/-- a place made for one entry more -/
theorem ins_own {W w' : World} {base i : Nat} {v : Value} {S : List ET} {e : Ending} (h : OwnT W base v S) (hi : i ≤ S.length) (hI : InsE W base v S i e w') :
    ∃ v', e = .returned v' ∧ OwnT w' base v' (S.take i ++ tz :: S.drop i) ∧ W.grownBy w' v.ownBlock ∧ (v'.ownBlock = v.ownBlock ∨ ∃ k, v'.ownBlock = some k ∧ W.heap.size ≤ k) := by
  obtain ⟨v', rfl, hr, hg, ho⟩ := hI
  have hm : ∀ s ∈ S.take i ++ tz :: S.drop i, s = tz ∨ s ∈ S := fun s hs => by
    rcases List.mem_append.1 hs with q | q
    · exact .inr (List.mem_of_mem_take q)
    · rcases List.mem_cons.1 q with q | q
      · exact .inl q
      · exact .inr (List.mem_of_mem_drop q)
  have hln : (S.take i ++ tz :: S.drop i).length = S.length + 1 := by
    rw [List.length_append, List.length_cons, List.length_take, List.length_drop]
    omega
  refine ⟨v', rfl, ⟨by rw [hln]; exact hr, fun s hs => ?_, fun s hs => ?_, fun s hs => ?_, ?_⟩, hg, ho⟩
  · rcases hm s hs with rfl | q
    · exact ⟨World.ownsRow_nil _ _ _ _, World.ownsRow_nil _ _ _ _⟩
    · exact ⟨(h.own s q).1.kept hg (h.sep s q).1, (h.own s q).2.kept hg (h.sep s q).2⟩
  · rcases hm s hs with rfl | q
    · exact ⟨⟨none, 0, rfl⟩, none, 0, rfl⟩
    · exact h.len s q
  · rcases hm s hs with rfl | q
    · exact ⟨.inl rfl, .inl rfl⟩
    · exact ⟨sepI (h.sep s q).1 (fun k hk => ((h.lt s q).1 k hk).2) ho, sepI (h.sep s q).2 (fun k hk => ((h.lt s q).2 k hk).2) ho⟩
  · have ha := h.apart
    rw [← List.take_append_drop i S, rowsT_append, List.pairwise_append] at ha
    rw [rowsT_append, List.pairwise_append, show rowsT (tz :: S.drop i) = tz.u :: tz.v :: rowsT (S.drop i) by rfl, List.pairwise_cons, List.pairwise_cons]
    refine ⟨ha.1, ⟨fun x _ => ?_, fun x _ => ?_, ha.2.1⟩, fun x hx y hy => ?_⟩
    · exact (apart_nil x).symm
    · exact (apart_nil x).symm
    · rcases List.mem_cons.1 hy with rfl | hy
      · exact apart_nil x
      · rcases List.mem_cons.1 hy with rfl | hy
        · exact apart_nil x
        · exact ha.2.2 x hx y hy
theorem flat_put {S : List ET} {j : Nat} {t t' : ET} (hj : S[j]? = some t) : setAll7 (flatT S) (j * 7) (cellsT t') = flatT (S.set j t') := by
  have hlt : j < S.length := (List.getElem?_eq_some_iff.1 hj).1
  have e : S = S.take j ++ t :: S.drop (j + 1) := by
    have := List.getElem_cons_drop hlt
    rw [(List.getElem?_eq_some_iff.1 hj).2] at this
    rw [this, List.take_append_drop]
  have hl : (flatT (S.take j)).length = j * 7 := by rw [flatT_len, List.length_take]; omega
  have h1 : flatT S = flatT (S.take j) ++ cellsT t ++ flatT (S.drop (j + 1)) := by
    conv => lhs; rw [e]
    rw [flatT_append, List.append_assoc]
    rfl
  rw [h1, ← hl, setAll7_at (cellsT t') _ (cellsT t) _ rfl, List.set_eq_take_append_cons_drop, if_pos hlt, flatT_append, List.append_assoc]
  rfl
/-- an entry laid into a place -/
theorem OwnT.setT {w : World} {base g n cap j : Nat} {S : List ET} {t t' : ET} (h : OwnT w base (.slice (some ⟨g, 0, none⟩) n cap) S) (hS : S.length = n) (hj : S[j]? = some t) (ht : OwnI w base t'.u t'.E.p ∧ OwnI w base t'.v t'.E.c)
    (hl : (∃ a c, t'.u = .slice a t'.E.p.length c) ∧ ∃ a c, t'.v = .slice a t'.E.c.length c) (hap : Apart t'.u t'.v) (hnew : ∀ s ∈ S, Apart s.u t'.u ∧ Apart s.u t'.v ∧ Apart s.v t'.u ∧ Apart s.v t'.v)
    (hsv : (t'.u.ownBlock = none ∨ t'.u.ownBlock ≠ some g) ∧ (t'.v.ownBlock = none ∨ t'.v.ownBlock ≠ some g)) : OwnT (w.setCells g (j * 7) (cellsT t')) base (.slice (some ⟨g, 0, none⟩) n cap) (S.set j t') := by
  have hr := h.row
  rw [hS] at hr
  have hg : w.grownBy (w.setCells g (j * 7) (cellsT t')) (some g) := grown_setCells7 _ _ _
  have hlt : j < S.length := (List.getElem?_eq_some_iff.1 hj).1
  have hm : ∀ s ∈ S.set j t', s = t' ∨ s ∈ S := fun s hs => by
    rcases List.mem_or_eq_of_mem_set hs with q | q
    · exact .inr q
    · exact .inl q
  refine ⟨?_, fun s hs => ?_, fun s hs => ?_, fun s hs => ?_, ?_⟩
  · rw [List.length_set, hS, ← flat_put hj]
    exact row_setCells7 _ _ _ _ hr
  · rcases hm s hs with rfl | q
    · exact ⟨ht.1.kept hg hsv.1, ht.2.kept hg hsv.2⟩
    · exact ⟨(h.own s q).1.kept hg (h.sep s q).1, (h.own s q).2.kept hg (h.sep s q).2⟩
  · rcases hm s hs with rfl | q
    · exact hl
    · exact h.len s q
  · rcases hm s hs with rfl | q
    · exact hsv
    · exact h.sep s q
  · have ha := h.apart
    have e : S = S.take j ++ t :: S.drop (j + 1) := by
      have := List.getElem_cons_drop hlt
      rw [(List.getElem?_eq_some_iff.1 hj).2] at this
      rw [this, List.take_append_drop]
    rw [e, rowsT_append, List.pairwise_append, show rowsT (t :: S.drop (j + 1)) = t.u :: t.v :: rowsT (S.drop (j + 1)) by rfl, List.pairwise_cons, List.pairwise_cons] at ha
    rw [List.set_eq_take_append_cons_drop, if_pos hlt, rowsT_append, List.pairwise_append, show rowsT (t' :: S.drop (j + 1)) = t'.u :: t'.v :: rowsT (S.drop (j + 1)) by rfl, List.pairwise_cons, List.pairwise_cons]
    have inS : ∀ {x : Value}, x ∈ rowsT (S.take j) ∨ x ∈ rowsT (S.drop (j + 1)) → ∃ s ∈ S, x = s.u ∨ x = s.v := fun {x} hx => by
      rcases hx with q | q
      · obtain ⟨s, hs, e⟩ := rowsT_mem q
        exact ⟨s, List.mem_of_mem_take hs, e⟩
      · obtain ⟨s, hs, e⟩ := rowsT_mem q
        exact ⟨s, List.mem_of_mem_drop hs, e⟩
    have ap : ∀ {x : Value}, x ∈ rowsT (S.take j) ∨ x ∈ rowsT (S.drop (j + 1)) → Apart x t'.u ∧ Apart x t'.v := fun {x} hx => by
      obtain ⟨s, hs, e⟩ := inS hx
      obtain ⟨n1, n2, n3, n4⟩ := hnew s hs
      rcases e with rfl | rfl
      · exact ⟨n1, n2⟩
      · exact ⟨n3, n4⟩
    refine ⟨ha.1, ⟨fun x hx => ?_, fun x hx => (ap (.inr hx)).2.symm, ha.2.1.2.2⟩, fun x hx y hy => ?_⟩
    · rcases List.mem_cons.1 hx with rfl | hx
      · exact hap
      · exact (ap (.inr hx)).1.symm
    · rcases List.mem_cons.1 hy with rfl | hy
      · exact (ap (.inl hx)).1
      · rcases List.mem_cons.1 hy with rfl | hy
        · exact (ap (.inl hx)).2
        · exact ha.2.2 x hx y (List.mem_cons_of_mem _ (List.mem_cons_of_mem _ hy))
end Go.Proofs.Ytaiffofmhfflkaa
