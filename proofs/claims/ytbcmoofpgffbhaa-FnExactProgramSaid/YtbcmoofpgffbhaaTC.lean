/-
  Where a group is put, in words; groups of one's own, each with its memory. Conditions: those in each contract.
-/
import Derived.Test.YtbcmoofpgffbhaaTB
namespace Go.Proofs.Ytbcmoofpgffbhaa
open Go.ChangeShapes Go.WideShapes Go.ChangeAt Go.RowKit Go.BigFrame Go.Joins
set_option linter.unusedVariables false
set_option maxRecDepth 100000
set_option linter.unusedSimpArgs false
set_option maxRecDepth 100000

def ltG (y z : Grp) : Prop := y.a < z.a ∨ (y.a = z.a ∧ y.n < z.n)
theorem cmp1_z {a b : Int} : cmp1 a b = 0 ↔ a = b := by
  unfold cmp1
  constructor
  · intro h; split at h
    · cases h
    · split at h
      · cases h
      · omega
  · rintro rfl
    rw [if_neg (by omega), if_neg (by omega)]
theorem cmp2_z {a n b m : Int} : cmp2 a n b m = 0 ↔ a = b ∧ n = m := by
  unfold cmp2 orv
  constructor
  · intro h
    split at h
    · rename_i h1; exact absurd h h1
    · rename_i h1; exact ⟨cmp1_z.1 (Classical.not_not.1 h1), cmp1_z.1 h⟩
  · rintro ⟨rfl, rfl⟩
    rw [if_neg (fun q => q (cmp1_z.2 rfl))]
    exact cmp1_z.2 rfl
theorem cmpG_lt {y z : Grp} : cmp2 y.a y.n z.a z.n < 0 ↔ ltG y z := cmp2_ltX
theorem cmpG_gt {y z : Grp} : 0 < cmp2 y.a y.n z.a z.n ↔ ltG z y := by
  have h1 := cmp2_ltX (a := y.a) (n := y.n) (b := z.a) (m := z.n)
  have h2 := cmp2_z (a := y.a) (n := y.n) (b := z.a) (m := z.n)
  unfold ltG
  omega
theorem ltG_trans {x y z : Grp} (h : ltG x y) (k : ltG y z) : ltG x z := by unfold ltG at *; omega
/-- the rounds of put, in the model: what is laid out, and whether the new one is -/
def putP (L : List Grp) (x : Grp) : Nat → Bool
  | 0 => false
  | k + 1 => putP L x k || decide (cmp2 x.a x.n (L.getD k gr0).a (L.getD k gr0).n ≤ 0)
def putO (L : List Grp) (x : Grp) : Nat → List Grp
  | 0 => []
  | k + 1 => (if (!putP L x k && decide (cmp2 x.a x.n (L.getD k gr0).a (L.getD k gr0).n ≤ 0)) = true then putO L x k ++ [x] else putO L x k) ++ (if cmp2 x.a x.n (L.getD k gr0).a (L.getD k gr0).n = 0 then [] else [L.getD k gr0])
def putL (L : List Grp) (x : Grp) : List Grp := if putP L x L.length = true then putO L x L.length else putO L x L.length ++ [x]
theorem put_lo {L : List Grp} {x : Grp} {i : Nat} (h : ∀ j, j < i → ltG (L.getD j gr0) x) : ∀ k, k ≤ i → k ≤ L.length → putP L x k = false ∧ putO L x k = L.take k
  | 0, _, _ => ⟨rfl, rfl⟩
  | k + 1, hk, hl => by
    obtain ⟨h1, h2⟩ := put_lo h k (by omega) (by omega)
    have h3 := cmpG_gt.2 (h k (by omega))
    refine ⟨by rw [putP, h1, decide_eq_false (by omega)]; rfl, ?_⟩
    rw [putO, h1, decide_eq_false (by omega), h2, if_neg (by simp), if_neg (by omega), List.take_succ_eq_append_getElem (by omega)]
    simp [List.getD, show k < L.length by omega]
/-- put at place i, in the place of m - i of them -/
def splL (L : List Grp) (x : Grp) (i m : Nat) : List Grp := L.take i ++ x :: L.drop m
theorem put_hi {L : List Grp} {x : Grp} {i m : Nat} (h : ∀ j, j < i → ltG (L.getD j gr0) x) (hi : i < L.length) (hm : (m = i ∧ ltG x (L.getD i gr0)) ∨ (m = i + 1 ∧ cmp2 x.a x.n (L.getD i gr0).a (L.getD i gr0).n = 0)) (hgt : ∀ j, i < j → j < L.length → ltG x (L.getD j gr0)) :
    ∀ k, i < k → k ≤ L.length → putP L x k = true ∧ putO L x k = L.take i ++ x :: (L.take k).drop m
  | 0, hk, _ => absurd hk (by omega)
  | k + 1, hk, hl => by
    have hg : (L.getD k gr0) = L[k] := by simp [List.getD, show k < L.length by omega]
    by_cases e : k = i
    · subst e
      obtain ⟨h1, h2⟩ := put_lo h k (Nat.le_refl _) (by omega)
      rcases hm with ⟨rfl, q⟩ | ⟨rfl, q⟩
      · have q := cmpG_lt.2 q
        refine ⟨by rw [putP, decide_eq_true (by omega)]; simp, ?_⟩
        rw [putO, h1, decide_eq_true (by omega), h2, if_pos (show (!false && true) = true from rfl), if_neg (by omega), List.take_succ_eq_append_getElem (by omega), List.drop_append_of_le_length (by rw [List.length_take]; omega), List.drop_of_length_le (by rw [List.length_take]; omega), hg]
        simp
      · refine ⟨by rw [putP, decide_eq_true (by omega)]; simp, ?_⟩
        rw [putO, h1, decide_eq_true (by omega), h2, if_pos (show (!false && true) = true from rfl), if_pos q, List.drop_of_length_le (by rw [List.length_take]; omega), List.append_nil]
    · obtain ⟨h1, h2⟩ := put_hi h hi hm hgt k (by omega) (by omega)
      have q := cmpG_lt.2 (hgt k (by omega) (by omega))
      refine ⟨by rw [putP, h1]; rfl, ?_⟩
      rw [putO, h1, h2, if_neg (by simp), if_neg (by omega), List.take_succ_eq_append_getElem (by omega), List.drop_append_of_le_length (by rw [List.length_take]; omega), hg]
      simp
def SoG (L : List Grp) : Prop := L.Pairwise ltG
theorem SoG.lt {L : List Grp} (h : SoG L) {i j : Nat} (hij : i < j) (hj : j < L.length) : ltG (L.getD i gr0) (L.getD j gr0) := by
  have := List.pairwise_iff_getElem.1 h i j (by omega) hj hij
  simpa [List.getD, hj, show i < L.length by omega] using this
theorem so_spl {L : List Grp} {x : Grp} {i m : Nat} (hs : SoG L) (him : i ≤ m) (h : ∀ j, j < i → ltG (L.getD j gr0) x) (hgt : ∀ j, m ≤ j → j < L.length → ltG x (L.getD j gr0)) : SoG (splL L x i m) := by
  have h0 : (L.take i ++ L.drop i).Pairwise ltG := by rw [List.take_append_drop]; exact hs
  obtain ⟨p1, p2, p3⟩ := List.pairwise_append.1 h0
  have hsub : (L.drop m).Sublist (L.drop i) := by
    rw [show m = i + (m - i) by omega, ← List.drop_drop]
    exact List.drop_sublist _ _
  have g1 : ∀ y ∈ L.take i, ltG y x := fun y hy => by
    obtain ⟨j, hj, rfl⟩ := List.mem_iff_getElem.1 hy
    rw [List.length_take] at hj
    have := h j (by omega)
    simpa [List.getD, show j < L.length by omega] using this
  have g2 : ∀ y ∈ L.drop m, ltG x y := fun y hy => by
    obtain ⟨j, hj, rfl⟩ := List.mem_iff_getElem.1 hy
    rw [List.length_drop] at hj
    have := hgt (m + j) (by omega) (by omega)
    simpa [List.getD, show m + j < L.length by omega] using this
  refine List.pairwise_append.2 ⟨p1, List.pairwise_cons.2 ⟨g2, p2.sublist hsub⟩, fun y hy z hz => ?_⟩
  rcases List.mem_cons.1 hz with rfl | hz
  · exact g1 y hy
  · exact p3 y hy z (hsub.subset hz)
/-- what the search finds is the place -/
theorem at_put {L : List Grp} {x : Grp} {i : Nat} {f : Bool} (hs : SoG L) (h : AtG L x.a x.n i f) :
    ∃ m, (m = if f = true then i + 1 else i) ∧ i ≤ L.length ∧ (f = true → i < L.length) ∧ putL L x = splL L x i m ∧ SoG (splL L x i m) := by
  obtain ⟨h1, h2, h3, h4⟩ := h
  have hlo : ∀ j, j < i → ltG (L.getD j gr0) x := fun j hj => by
    have q := cmpG_lt.1 (h2 (i - 1) (by omega))
    by_cases e : j = i - 1
    · rw [e]; exact q
    · exact ltG_trans (hs.lt (show j < i - 1 by omega) (by omega)) q
  by_cases hi : i < L.length
  · obtain ⟨h5, h6⟩ := h3 hi
    have key : ∀ m, ((m = i ∧ ltG x (L.getD i gr0)) ∨ (m = i + 1 ∧ cmp2 x.a x.n (L.getD i gr0).a (L.getD i gr0).n = 0)) → (∀ j, i < j → j < L.length → ltG x (L.getD j gr0)) → putL L x = splL L x i m := fun m hm hgt => by
      obtain ⟨q1, q2⟩ := put_hi hlo hi hm hgt L.length hi (Nat.le_refl _)
      unfold putL splL
      rw [if_pos q1, q2, List.take_length]
    cases f
    · have hlt : ltG x (L.getD i gr0) := cmpG_gt.1 (by
        have : ¬ cmp2 (L.getD i gr0).a (L.getD i gr0).n x.a x.n = 0 := fun q => by cases h6.2 q
        omega)
      have hgt : ∀ j, i ≤ j → j < L.length → ltG x (L.getD j gr0) := fun j hj hl => by
        by_cases e : j = i
        · rw [e]; exact hlt
        · exact ltG_trans hlt (hs.lt (by omega) hl)
      exact ⟨i, rfl, h1, fun q => (by cases q), key i (.inl ⟨rfl, hlt⟩) (fun j hj hl => hgt j (by omega) hl), so_spl hs (Nat.le_refl _) hlo hgt⟩
    · have he := cmp2_z.1 (h6.1 rfl)
      have hz : cmp2 x.a x.n (L.getD i gr0).a (L.getD i gr0).n = 0 := cmp2_z.2 ⟨he.1.symm, he.2.symm⟩
      have hgt : ∀ j, i + 1 ≤ j → j < L.length → ltG x (L.getD j gr0) := fun j hj hl => by
        have := hs.lt (show i < j by omega) hl
        unfold ltG at this ⊢
        omega
      exact ⟨i + 1, rfl, h1, fun _ => hi, key (i + 1) (.inr ⟨rfl, hz⟩) (fun j hj hl => hgt j (by omega) hl), so_spl hs (by omega) hlo hgt⟩
  · have hf := h4 hi
    subst hf
    obtain rfl : i = L.length := by omega
    obtain ⟨q1, q2⟩ := put_lo hlo L.length (Nat.le_refl _) (Nat.le_refl _)
    refine ⟨L.length, rfl, Nat.le_refl _, fun q => (by cases q), ?_, so_spl hs (Nat.le_refl _) hlo (fun j hj hl => by omega)⟩
    unfold putL splL
    rw [if_neg (by rw [q1]; simp), q2, List.take_length, List.drop_length]
theorem putL_le (L : List Grp) (x : Grp) (hs : SoG L) (i : Nat) (f : Bool) (h : AtG L x.a x.n i f) : L.length ≤ (putL L x).length := by
  obtain ⟨m, hm, h1, h2, h3, -⟩ := at_put hs h
  rw [h3]
  unfold splL
  rw [List.length_append, List.length_take, List.length_cons, List.length_drop]
  cases f
  · simp at hm; omega
  · have := h2 rfl
    simp at hm; omega
/-- groups of one's own: the row, and each element with its memory -/
structure OwGs (w : World) (base : Nat) (v : Value) (Q : List (GT × (Nat → Prop))) : Prop where
  row : w.ownsRow base GI 3 v Q.length (flatG (Q.map (·.1)))
  el : ∀ q ∈ Q, (∀ b, q.2 b → base ≤ b ∧ b < w.heap.size ∧ v.ownBlock ≠ some b) ∧ OwY w q.2 q.1.u q.1.E
  dj : Q.Pairwise fun p q => Dj p.2 q.2
def grpQ (Q : List (GT × (Nat → Prop))) : List Grp := Q.map (·.1.E)
theorem grpQ_len (Q : List (GT × (Nat → Prop))) : (grpQ Q).length = Q.length := by simp [grpQ]
theorem grpQ_get {Q : List (GT × (Nat → Prop))} {i : Nat} (hi : i < Q.length) : (grpQ Q).getD i gr0 = (Q[i]'hi).1.E := by simp [grpQ, List.getD, hi]
theorem flatG_td (T : List GT) (i : Nat) : (flatG T).take (i * 3) = flatG (T.take i) ∧ (flatG T).drop (i * 3) = flatG (T.drop i) := by
  have e : flatG T = flatG (T.take i) ++ flatG (T.drop i) := by rw [← flatG_append, List.take_append_drop]
  have hl := flatG_len (T.take i)
  rw [List.length_take] at hl
  have hd := flatG_len (T.drop i)
  rw [List.length_drop] at hd
  by_cases h : i ≤ T.length
  · have hl' : (flatG (T.take i)).length = i * 3 := by rw [hl]; congr 1; omega
    constructor
    · rw [e, List.take_append_of_le_length (by omega), List.take_of_length_le (by omega)]
    · rw [e, List.drop_append_of_le_length (by omega), List.drop_of_length_le (by omega), List.nil_append]
  · have := flatG_len T
    rw [List.take_of_length_le (by omega), List.drop_of_length_le (by omega), List.take_of_length_le (by omega), List.drop_of_length_le (by omega)]
    exact ⟨rfl, rfl⟩
theorem OwGs.gr {w : World} {base : Nat} {v : Value} {Q : List (GT × (Nat → Prop))} (h : OwGs w base v Q) : GrYS w base v (grpQ Q) (flatG (Q.map (·.1))) := by
  refine ⟨by rw [grpQ_len]; exact h.row, fun i b => ∃ hi : i < Q.length, (Q[i]'hi).2 b, fun i hi => ?_, fun i j hi hj hne b => ?_⟩
  · rw [grpQ_len] at hi
    obtain ⟨e1, e2⟩ := h.el _ (List.getElem_mem hi)
    have hE : (fun b => ∃ hi : i < Q.length, (Q[i]'hi).2 b) = (Q[i]'hi).2 := by
      funext b
      exact propext ⟨fun ⟨_, q⟩ => q, fun q => ⟨hi, q⟩⟩
    have hm : i < (Q.map (·.1)).length := by rw [List.length_map]; exact hi
    have hg : ∀ t, t < 3 → (flatG (Q.map (·.1)))[i * 3 + t]? = (cellsG (Q[i]'hi).1)[t]? := fun t ht => by
      rw [flatG_get _ i t hm ht, List.getElem_map]
    refine ⟨fun b ⟨_, q⟩ => ⟨(e1 b q).1, (e1 b q).2.1⟩, fun b ⟨_, q⟩ => (e1 b q).2.2, (Q[i]'hi).1.u, ?_⟩
    rw [grpQ_get hi]
    exact ⟨by dsimp only; rw [hE]; exact e2, hg 0 (by omega), hg 1 (by omega), hg 2 (by omega)⟩
  · rw [grpQ_len] at hi hj
    rintro ⟨_, q1⟩ ⟨_, q2⟩
    rcases Nat.lt_or_gt_of_ne hne with q | q
    · exact List.pairwise_iff_getElem.1 h.dj i j hi hj q b q1 q2
    · exact List.pairwise_iff_getElem.1 h.dj j i hj hi q b q2 q1
theorem GrYS.toQ {w : World} {base : Nat} {v : Value} {L : List Grp} {xs : List Value} (h : GrYS w base v L xs) : ∃ Q, OwGs w base v Q ∧ grpQ Q = L := by
  obtain ⟨hr, E, hE, hd⟩ := h
  have hxl := hr.1
  let u : Nat → Value := fun i => (xs[i * 3 + 2]?).getD undef
  let Q : List (GT × (Nat → Prop)) := (List.range L.length).map fun i => (⟨L.getD i gr0, u i⟩, E i)
  have hQl : Q.length = L.length := by simp [Q]
  have hQ : ∀ i (hi : i < Q.length), Q[i]'hi = (⟨L.getD i gr0, u i⟩, E i) := fun i hi => by simp [Q]
  have hg : grpQ Q = L := by
    refine List.ext_getElem (by rw [grpQ_len, hQl]) fun i h1 h2 => ?_
    simp [grpQ, Q, List.getD, h2]
  have hx : flatG (Q.map (·.1)) = xs := by
    refine List.ext_getElem? fun p => ?_
    by_cases hp : p < L.length * 3
    · obtain ⟨i, t, hi, ht, rfl⟩ : ∃ i t, i < L.length ∧ t < 3 ∧ p = i * 3 + t := ⟨p / 3, p % 3, by omega, by omega, by omega⟩
      have hm : i < (Q.map (·.1)).length := by rw [List.length_map, hQl]; exact hi
      rw [flatG_get (Q.map (·.1)) i t hm ht, List.getElem_map, hQ]
      obtain ⟨-, -, yv, -, k0, k1, k2⟩ := hE i hi
      have hu : u i = yv := by simp only [u]; rw [k2]; rfl
      have ht : t = 0 ∨ t = 1 ∨ t = 2 := by omega
      rcases ht with rfl | rfl | rfl
      · rw [Nat.add_zero, k0]; rfl
      · rw [k1]; rfl
      · rw [k2, hu]; rfl
    · rw [List.getElem?_eq_none (by rw [flatG_len, List.length_map, hQl]; omega), List.getElem?_eq_none (by omega)]
  refine ⟨Q, ⟨by rw [hQl, hx]; exact hr, fun q hq => ?_, ?_⟩, hg⟩
  · obtain ⟨i, hi, rfl⟩ := List.mem_iff_getElem.1 hq
    rw [hQ i hi]
    obtain ⟨e1, e2, yv, e3, k0, k1, k2⟩ := hE i (by rw [← hQl]; exact hi)
    have hu : u i = yv := by simp only [u]; rw [k2]; rfl
    exact ⟨fun b q => ⟨(e1 b q).1, (e1 b q).2, e2 b q⟩, by rw [hu]; exact e3⟩
  · refine List.pairwise_iff_getElem.2 fun i j hi hj hij => ?_
    rw [hQ i hi, hQ j hj]
    exact hd i j (by omega) (by omega) (by omega)
theorem OwGs.rd {w : World} {base : Nat} {v : Value} {Q : List (GT × (Nat → Prop))} (h : OwGs w base v Q) : RdYS w v (grpQ Q) := by
  have e : grpT (Q.map (·.1)) = grpQ Q := by simp [grpT, grpQ]
  rw [← e]
  refine rdY_of (rowG_rd (base := base) (by rw [List.length_map]; exact h.row) fun t ht => ?_)
  obtain ⟨q, hq, rfl⟩ := List.mem_map.1 ht
  exact (h.el q hq).2.rd
theorem OwGs.keep {w w' : World} {base : Nat} {v : Value} {Q : List (GT × (Nat → Prop))} (h : OwGs w base v Q) (b : Below w.heap.size w w') : OwGs w' base v Q :=
  ⟨row_agrS h.row (S := fun _ => True) (fun _ _ => trivial) (.of_below b), fun q hq => ⟨fun c k => ⟨((h.el q hq).1 c k).1, Nat.lt_of_lt_of_le ((h.el q hq).1 c k).2.1 b.size, ((h.el q hq).1 c k).2.2⟩, (h.el q hq).2.agr (.of_below b)⟩, h.dj⟩
/-- one put in at place i, in the place of m - i of them -/
def splQ (Q : List (GT × (Nat → Prop))) (t : GT) (S : Nat → Prop) (i m : Nat) : List (GT × (Nat → Prop)) := Q.take i ++ (t, S) :: Q.drop m
theorem splQ_grp (Q : List (GT × (Nat → Prop))) (t : GT) (S : Nat → Prop) (i m : Nat) : grpQ (splQ Q t S i m) = splL (grpQ Q) t.E i m := by simp [splQ, splL, grpQ, List.map_take, List.map_drop]
theorem splQ_flat (Q : List (GT × (Nat → Prop))) (t : GT) (S : Nat → Prop) (i m : Nat) : flatG ((splQ Q t S i m).map (·.1)) = (flatG (Q.map (·.1))).take (i * 3) ++ (cellsG t ++ (flatG (Q.map (·.1))).drop (m * 3)) := by
  rw [(flatG_td _ i).1, (flatG_td _ m).2]
  simp [splQ, flatG, List.map_take, List.map_drop]
theorem OwGs.spl {w0 w1 w4 : World} {base : Nat} {v v' : Value} {Q : List (GT × (Nat → Prop))} {t : GT} {S : Nat → Prop} {i m : Nat} (h : OwGs w0 base v Q) (hb : base ≤ w0.heap.size) (B : Below w0.heap.size w0 w1) (o : OwY w1 S t.u t.E)
    (hS : ∀ b, S b → w0.heap.size ≤ b ∧ b < w1.heap.size) (him : i ≤ m) (hrow : w4.ownsRow base GI 3 v' (splQ Q t S i m).length (flatG ((splQ Q t S i m).map (·.1)))) (hg : w1.grownBy w4 v.ownBlock) (hor : v'.ownBlock = v.ownBlock ∨ ∃ k, v'.ownBlock = some k ∧ w1.heap.size ≤ k) : OwGs w4 base v' (splQ Q t S i m) := by
  have hv := World.ownsRow.lt h.row
  have B' := B.size
  have hg' := hg.size
  have old : ∀ q ∈ Q, (∀ b, q.2 b → base ≤ b ∧ b < w4.heap.size ∧ v'.ownBlock ≠ some b) ∧ OwY w4 q.2 q.1.u q.1.E := fun q hq => by
    obtain ⟨e1, e2⟩ := h.el q hq
    refine ⟨fun b k => ⟨(e1 b k).1, by have := (e1 b k).2.1; omega, fun e => ?_⟩, e2.agr ⟨by omega, fun b k l => ?_⟩⟩
    · have := (e1 b k).2
      rcases hor with r | ⟨k', r, r2⟩
      · exact this.2 (by rw [← r]; exact e)
      · rw [r] at e; cases e; omega
    · have := (e1 b k).2
      exact (hg.block b (by omega) (fun e => this.2 e.symm)).trans (B.block b l)
  have new : (∀ b, S b → base ≤ b ∧ b < w4.heap.size ∧ v'.ownBlock ≠ some b) ∧ OwY w4 S t.u t.E := by
    refine ⟨fun b k => ⟨Nat.le_trans hb (hS b k).1, by have := (hS b k).2; omega, fun e => ?_⟩, o.agr ⟨hg', fun b k l => hg.block b l fun e => ?_⟩⟩
    · have hb1 := hS b k
      rcases hor with r | ⟨k', r, r2⟩
      · have := (hv b (by rw [← r]; exact e)).2; omega
      · rw [r] at e; cases e; omega
    · have hb1 := hS b k
      have := (hv b e.symm).2; omega
  have hT := (List.take_sublist i Q).subset
  have hD := (List.drop_sublist m Q).subset
  refine ⟨hrow, fun q hq => ?_, ?_⟩
  · rcases List.mem_append.1 hq with hq | hq
    · exact old q (hT hq)
    · rcases List.mem_cons.1 hq with rfl | hq
      · exact new
      · exact old q (hD hq)
  · have h0 : (Q.take i ++ Q.drop i).Pairwise fun p q => Dj p.2 q.2 := by rw [List.take_append_drop]; exact h.dj
    obtain ⟨p1, p2, p3⟩ := List.pairwise_append.1 h0
    have hsub : (Q.drop m).Sublist (Q.drop i) := by
      rw [show m = i + (m - i) by omega, ← List.drop_drop]
      exact List.drop_sublist _ _
    have apart : ∀ q ∈ Q, Dj q.2 S := fun q hq b k1 k2 => by
      have := ((h.el q hq).1 b k1).2.1
      have := (hS b k2).1
      omega
    refine List.pairwise_append.2 ⟨p1, List.pairwise_cons.2 ⟨fun q hq b k1 k2 => apart q (hD hq) b k2 k1, p2.sublist hsub⟩, fun q hq r hr => ?_⟩
    rcases List.mem_cons.1 hr with rfl | hr
    · exact apart q (hT hq)
    · exact p3 q hq r (hsub.subset hr)
end Go.Proofs.Ytbcmoofpgffbhaa
