/-
  An entry put into its place, of the program. Conditions: those in each contract.
-/
import Derived.Test.YtaiffofmhfflkaaPC
import Derived.Test.YtaiffofmhfflkaaPD
namespace Go.Proofs.Ytaiffofmhfflkaa
open Go.ChangeShapes Go.WideShapes Go.ChangeAt Go.RowKit Go.BigFrame Go.Joins
set_option linter.unusedVariables false
set_option maxRecDepth 100000
set_option linter.unusedSimpArgs false
set_option maxRecDepth 100000

/-- what put leaves behind: the table in the block O, all else that is older than X as it was -/
def PutE (T : List ET) (Z : Ent) (O base X : Nat) (w : World) (e : Ending) (w' : World) : Prop :=
  e = .returned (.tuple #[]) ∧ ∃ (i : Nat) (f : Bool) (r : Value) (S : List ET), AtE T Z i f ∧ OwnT w' base r S ∧ entT S = (if f = true then (entT T).set i Z else (entT T).take i ++ Z :: (entT T).drop i) ∧ Bl w' O [r] ∧ Below X w w'
theorem below_low {w w' : World} {N X : Nat} (h : Below N w w') (hx : X ≤ N) : Below X w w' := ⟨h.os, h.tape, h.output, h.size, fun k hk => h.block k (by omega)⟩
theorem below_grow4 {w V W : World} {X g : Nat} (h : Below X w V) (hg : V.grownBy W (some g)) (hx : X ≤ g) (hs : X ≤ V.heap.size) : Below X w W := ⟨hg.os.trans h.os, hg.tape.trans h.tape, hg.output.trans h.output, Nat.le_trans h.size hg.size, fun k hk => (hg.block k (by omega) (by simp; omega)).trans (h.block k hk)⟩
theorem below_growV {w V W : World} {X : Nat} {r : Option Nat} (h : Below X w V) (hg : V.grownBy W r) (hs : X ≤ V.heap.size) (hx : ∀ k, r = some k → X ≤ k) : Below X w W := ⟨hg.os.trans h.os, hg.tape.trans h.tape, hg.output.trans h.output, Nat.le_trans h.size hg.size, fun k hk => (hg.block k (by omega) (fun q => by have := hx k q.symm; omega)).trans (h.block k hk)⟩
theorem below_trans4 {w V W : World} {X : Nat} (h : Below X w V) (h2 : Below V.heap.size V W) (hx : X ≤ V.heap.size) : Below X w W := ⟨h2.os.trans h.os, h2.tape.trans h.tape, h2.output.trans h.output, Nat.le_trans h.size h2.size, fun k hk => (h2.block k (by omega)).trans (h.block k hk)⟩
set_option maxHeartbeats 2000000 in
theorem mput_any (v : Value) (T : List ET) (Z : Ent) (ea : Option Addr) (ex : Nat) (fa : Option Addr) (fx : Nat) (O base X : Nat) (w : World) (h : OwnT w base v T) (hn1 : T.length ≤ 1048576) (bO : Bl w O [v]) (hOv : some O ≠ v.ownBlock) (hOt : ∀ t ∈ T, t.u.ownBlock ≠ some O ∧ t.v.ownBlock ≠ some O) (hbw : base ≤ w.heap.size) (hXb : X ≤ base) (hXO : X ≤ O)
    (hZ1 : ∀ w', Below X w w' → RdI w' (.slice ea Z.p.length ex) Z.p) (hZ2 : ∀ w', Below X w w' → RdI w' (.slice fa Z.c.length fx) Z.c) (hl1 : Z.p.length ≤ 1048576) (hl2 : Z.c.length ≤ 1048576)
    (hP : ∀ t ∈ T, pcmp t.E.a t.E.n Z.a Z.n = cmp2 t.E.a t.E.n Z.a Z.n) :
    Calls Try.prog 65 #[.pointer (some ⟨O, 0, none⟩), .agg #[.int .i64 Z.a, .int .i64 Z.n, .int .i64 Z.pe, .slice ea Z.p.length ex, .int .i64 Z.pr, .slice fa Z.c.length fx, .int .i64 Z.bw]] w (PutE T Z O base X w) := by
  have hlt : ∀ k, v.ownBlock = some k → k < w.heap.size := fun k hk => (World.ownsRow.lt h.row k hk).2
  obtain ⟨bE, B0, z⟩ := one w [.int .i64 Z.a, .int .i64 Z.n, .int .i64 Z.pe, .slice ea Z.p.length ex, .int .i64 Z.pr, .slice fa Z.c.length fx, .int .i64 Z.bw] EI
  obtain ⟨V, hV⟩ : ∃ V, V = w.alloc (.cells #[.int .i64 Z.a, .int .i64 Z.n, .int .i64 Z.pe, .slice ea Z.p.length ex, .int .i64 Z.pr, .slice fa Z.c.length fx, .int .i64 Z.bw] EI) := ⟨_, rfl⟩
  rw [← hV] at bE B0
  have bOV := bO.keep B0
  have hT := h.keep B0
  clear z
  obtain ⟨a, c, rfl⟩ := h.lenV
  go_enter Try.func65, Try.ntmps65
  go_wp2_with fail
  rw [← hV]
  clear hV
  refine wp_region_held_drew (S := fun w' => Over V w') (by kernel_rfl) (over_drew V) (fun hHeld => ?_)
  obtain ⟨u0, e0'⟩ : ∃ u, u = V.drew := ⟨_, rfl⟩
  have O1 : Over V u0 := by rw [e0']; exact over_drew V
  rw [← e0']
  clear e0' hHeld
  refine wpAnyH_take (i := 0) (v := ?_) rfl (by kernel_rfl) (by kernel_rfl) (by kernel_rfl) (fun _ _ _ h => h) (Or.inl ⟨by rfl, ?_⟩) O1 ?_
  rotate_left
  · intro wq hSq
    (try dsimp only at hSq)

    go_simp
    try rfl
  change wpAnyH _ _ _ _ _ _ _ (Act.put _ (some 7) _) _
  simp only [Act.put, List.setIfInBounds_toArray, List.set_cons_succ, List.set_cons_zero]
  refine wpAnyH_take (i := 1) (v := ?_) rfl (by kernel_rfl) (by kernel_rfl) (by kernel_rfl) (fun _ _ _ h => h) (Or.inl ⟨by rfl, ?_⟩) O1 ?_
  rotate_left
  · intro wq hSq
    (try dsimp only at hSq)

    go_simp
    try rfl
  change wpAnyH _ _ _ _ _ _ _ (Act.put _ (some 8) _) _
  simp only [Act.put, List.setIfInBounds_toArray, List.set_cons_succ, List.set_cons_zero]
  refine wpAnyH_take (i := 2) (v := ?_) rfl (by kernel_rfl) (by kernel_rfl) (by kernel_rfl) (fun _ _ _ h => h) (Or.inl ⟨by rfl, ?_⟩) O1 ?_
  rotate_left
  · intro wq hSq
    (try dsimp only at hSq)

    go_simp
    try rfl
  change wpAnyH _ _ _ _ _ _ _ (Act.put _ (some 9) _) _
  simp only [Act.put, List.setIfInBounds_toArray, List.set_cons_succ, List.set_cons_zero]
  refine wpAnyH_take (i := 3) (v := ?_) rfl (by kernel_rfl) (by kernel_rfl) (by kernel_rfl) (fun _ _ _ h => h) (Or.inl ⟨by rfl, ?_⟩) O1 ?_
  rotate_left
  · intro wq hSq
    (try dsimp only at hSq)
    have q0 := over_cell hSq bOV.lt (bOV.c 0 rfl)
    go_simp
    try rfl
  change wpAnyH _ _ _ _ _ _ _ (Act.put _ (some 10) _) _
  simp only [Act.put, List.setIfInBounds_toArray, List.set_cons_succ, List.set_cons_zero]
  refine wpAnyH_take (i := 4) (v := ?_) rfl (by kernel_rfl) (by kernel_rfl) (by kernel_rfl) (fun _ _ _ h => h) (Or.inl ⟨by rfl, ?_⟩) O1 ?_
  rotate_left
  · intro wq hSq
    (try dsimp only at hSq)
    have q0 := over_cell hSq bE.lt (bE.c 0 rfl)
    have q1 := over_cell hSq bE.lt (bE.c 1 rfl)
    have q2 := over_cell hSq bE.lt (bE.c 2 rfl)
    have q3 := over_cell hSq bE.lt (bE.c 3 rfl)
    have q4 := over_cell hSq bE.lt (bE.c 4 rfl)
    have q5 := over_cell hSq bE.lt (bE.c 5 rfl)
    have q6 := over_cell hSq bE.lt (bE.c 6 rfl)
    go_simp
    try rfl
  change wpAnyH _ _ _ _ _ _ _ (Act.put _ (some 11) _) _
  simp only [Act.put, List.setIfInBounds_toArray, List.set_cons_succ, List.set_cons_zero]
  refine wpAnyH_ready (rs := [5]) (by kernel_rfl) (by simp) ?_
  refine (AllReadyH.cons rfl (fun K hK => ?_) AllReadyH.nil)
  go_simp
  refine (ibs_any _ _ _ T Z base _ (hT.keep O1).row hT.len hn1 hP).mono ?_
  rintro e wn ⟨i, f, rfl, hAt, hb⟩
  replace O1 := over_step O1 hb
  clear hb
  refine hK.out _ _ O1 (fun _ => ?_)
  clear hK K
  try simp only [Act.put, List.setIfInBounds_toArray, List.set_cons_zero, List.set_cons_succ]
  refine wpAnyH_take (i := 6) (v := ?_) rfl (by kernel_rfl) (by kernel_rfl) (by kernel_rfl) (fun _ _ _ h => h) (Or.inl ⟨by rfl, ?_⟩) O1 ?_
  rotate_left
  · intro wq hSq
    (try dsimp only at hSq)

    go_simp
    try rfl
  change wpAnyH _ _ _ _ _ _ _ (Act.put _ (some 6) _) _
  simp only [Act.put, List.setIfInBounds_toArray, List.set_cons_succ, List.set_cons_zero]
  refine wpAnyH_take (i := 7) (v := ?_) rfl (by kernel_rfl) (by kernel_rfl) (by kernel_rfl) (fun _ _ _ h => h) (Or.inl ⟨by rfl, ?_⟩) O1 ?_
  rotate_left
  · intro wq hSq
    (try dsimp only at hSq)

    go_simp
    try rfl
  change wpAnyH _ _ _ _ _ _ _ (Act.put _ (some 13) _) _
  simp only [Act.put, List.setIfInBounds_toArray, List.set_cons_succ, List.set_cons_zero]
  refine wpAnyH_take (i := 8) (v := ?_) rfl (by kernel_rfl) (by kernel_rfl) (by kernel_rfl) (fun _ _ _ h => h) (Or.inl ⟨by rfl, ?_⟩) O1 ?_
  rotate_left
  · intro wq hSq
    (try dsimp only at hSq)

    go_simp
    try rfl
  change wpAnyH _ _ _ _ _ _ _ (Act.put _ (some 14) _) _
  simp only [Act.put, List.setIfInBounds_toArray, List.set_cons_succ, List.set_cons_zero]
  refine wpAnyH_ready (rs := [9]) (by kernel_rfl) (by simp) ?_
  refine (AllReadyH.cons rfl (fun K hK => ?_) AllReadyH.nil)
  go_simp
  refine hK.out _ _ O1 (fun _ => ?_)
  clear hK K
  try simp only [Act.put, List.setIfInBounds_toArray, List.set_cons_zero, List.set_cons_succ]
  refine wpAnyH_ready (rs := [10]) (by kernel_rfl) (by simp) ?_
  refine (AllReadyH.cons rfl (fun K hK => ?_) AllReadyH.nil)
  go_simp
  refine hK.out _ _ O1 (fun _ => ?_)
  clear hK K
  try simp only [Act.put, List.setIfInBounds_toArray, List.set_cons_zero, List.set_cons_succ]
  refine wpAnyH_done (by kernel_rfl) ?_ _
  have bOn := bOV.keep O1
  have o0 := bOn.c 0 rfl
  have of0 := bOn.f 0 rfl
  have bEn := bE.keep O1
  have hA : w.heap.size < wn.heap.size := Nat.lt_of_lt_of_le bE.lt O1.size
  have hTn := hT.keep O1
  have hXwn : Below X w wn := below_low (below_step B0 O1) (by omega)
  obtain ⟨A, hAE⟩ : ∃ A, A = w.heap.size := ⟨_, rfl⟩
  rw [← hAE] at bEn
  cases f
  · have Bz : Below wn.heap.size wn (wn.alloc (.cells #[.int .i64 0, .int .i64 0, .int .i64 0, .slice none 0 0, .int .i64 0, .slice none 0 0, .int .i64 0] EI)) := (Below.refl _ _).alloc (Nat.le_refl _) _
    have bZ0 : Bl (wn.alloc (.cells #[.int .i64 0, .int .i64 0, .int .i64 0, .slice none 0 0, .int .i64 0, .slice none 0 0, .int .i64 0] EI)) wn.heap.size cz7 := Bl.new wn cz7 EI _ rfl
    have hsa : (wn.alloc (.cells #[.int .i64 0, .int .i64 0, .int .i64 0, .slice none 0 0, .int .i64 0, .slice none 0 0, .int .i64 0] EI)).shape? wn.heap.size = some (EI, 7) := by unfold World.shape?; rw [heap_alloc_new wn _]; rfl
    have hfa : ∀ j, (wn.alloc (.cells #[.int .i64 0, .int .i64 0, .int .i64 0, .slice none 0 0, .int .i64 0, .slice none 0 0, .int .i64 0] EI)).frozen? ⟨wn.heap.size, j, none⟩ = false := fun j => World.frozen?_alloc_at _ _ _ _ rfl
    have hTA := hTn.keep Bz
    have hgb : (Value.slice a T.length c).ownBlock ≠ some wn.heap.size := fun q => by have := hlt _ q; omega
    have hX4 := below_trans4 hXwn Bz (by omega)
    have bOA := bOn.keep Bz
    have bEA := bEn.keep Bz
    have hneO := hOv
    have hOw := bO.lt
    have hneA : some A ≠ (Value.slice a T.length c).ownBlock := fun q => by have := hlt _ q.symm; omega
    have hsz := Bz.size
    have h1c : ∀ t ∈ T, t.u.oneCell' = true ∧ t.v.oneCell' = true := fun t ht => by
      obtain ⟨⟨x1, y1, e1⟩, x2, y2, e2⟩ := hTA.len t ht
      rw [e1, e2]
      exact ⟨rfl, rfl⟩
    have hiT := hAt.1
    have hno : false = true → False := by simp
    rw [← hAE]
    have HAT := Lib.hid hAt
    have HP := Lib.hid hP
    have HLT := Lib.hid hlt
    have HA := Lib.hid hAE
    have HX4 := Lib.hid hX4
    have HBO := Lib.hid bOA
    have HBE := Lib.hid bEA
    have HT1 := Lib.hid hTA
    clear hAt hP hlt hAE hX4 bOA bEA hTn bOn bEn hT h bE bO bOV hTA
    go_wp2_with fail
    refine (iins_any _ i T base _ wn.heap.size HT1.out.row h1c (by omega) bZ0 hsa (hfa 0) (hfa 7) hgb hn1 hiT).mono ?_
    rintro e w5 hI
    obtain ⟨v', rfl, hT5, hg5, ho5⟩ := ins_own HT1.out hiT hI
    have hm : (T.take i ++ tz :: T.drop i).length = T.length + 1 := by
      rw [List.length_append, List.length_cons, List.length_take, List.length_drop]
      omega
    obtain ⟨g, c2, hv, hmc, hbg, hgw, hcm⟩ := row_form hT5.row (by omega)
    subst hv
    rw [hm] at hT5 hmc ⊢
    have bO5 := HBO.out.grown hg5 hneO
    have bE5 := HBE.out.grown hg5 hneA
    have o5 := bO5.c 0 rfl
    have of5 := bO5.f 0 rfl
    have hX5 := below_growV HX4.out hg5 (by omega) (fun k hk => by have := (World.ownsRow.lt HT1.out.row k hk).1; omega)
    have hgA : g ≠ A := by
      intro q
      have hA0 := HA.out
      rcases ho5 with e | ⟨k, e, hk⟩
      · have := HLT.out g e.symm
        omega
      · have : g = k := Option.some.inj e
        omega
    have hgO : g ≠ O := by
      intro q
      rcases ho5 with e | ⟨k, e, hk⟩
      · exact hneO (by rw [← q, ← e]; rfl)
      · have : g = k := Option.some.inj e
        omega
    obtain ⟨m, hmE⟩ : ∃ m, m = T.length + 1 := ⟨_, rfl⟩
    rw [← hmE] at hm hT5 hmc
    rw [← hmE]
    have HM := Lib.hid hm
    have HME := Lib.hid hmE
    have hi4 : i < m := by omega
    have hiI : (i : Int) < (m : Int) := by omega
    have HT5 := Lib.hid hT5
    have HX5' := Lib.hid hX5
    have HO5 := Lib.hid ho5
    clear hm hmE hT5 hX5 ho5 hI hg5 HX4 HT1 HBO HBE bZ0 hsa hfa
    have hA0 := HA.out
    have hAO : A ≠ O := fun q => by omega
    have hXg : X ≤ g := by omega
    have HEQ : Hid (∀ t' : ET, t'.E = Z → entT ((T.take i ++ tz :: T.drop i).set i t') = (if false = true then (entT T).set i Z else (entT T).take i ++ Z :: (entT T).drop i)) := Lib.hid fun t' e => by
      have hl : (T.take i).length = i := by rw [List.length_take]; omega
      rw [if_neg (by simp), ← e, List.set_append_right _ _ (by omega), hl, Nat.sub_self]
      simp [entT, List.map_take, List.map_drop]
    have HT0 : Hid ((T.take i ++ tz :: T.drop i)[i]? = some tz) := Lib.hid (by
      have hl : (T.take i).length = i := by rw [List.length_take]; omega
      rw [List.getElem?_append_right (by omega), hl, Nat.sub_self]
      rfl)
    clear hA0
    go_wp2_with fail
    obtain ⟨W6, hW6⟩ : ∃ W6, W6 = w5.setCell ⟨O, 0, none⟩ (.slice (some ⟨g, 0, none⟩) m c2) := ⟨_, rfl⟩
    have hS := HT5.out.kept (grown_set w5 O 0 (.slice (some ⟨g, 0, none⟩) m c2)) (.inr (fun q => hgO (Option.some.inj q))) (fun t ht => by
      rcases List.mem_append.1 ht with q | q
      · have := hOt t (List.mem_of_mem_take q)
        exact ⟨.inr this.1, .inr this.2⟩
      · rcases List.mem_cons.1 q with rfl | q
        · exact ⟨.inl rfl, .inl rfl⟩
        · have := hOt t (List.mem_of_mem_drop q)
          exact ⟨.inr this.1, .inr this.2⟩)
    have bO4 := bO5.set 0 (.slice (some ⟨g, 0, none⟩) m c2)
    have bE4 := bE5.far (C := O) (o := 0) (u := .slice (some ⟨g, 0, none⟩) m c2) hAO
    have hgs := grown_set w5 O 0 (.slice (some ⟨g, 0, none⟩) m c2)
    have hX4 := below_growV HX5'.out hgs (by omega) (fun k hk => by cases hk; omega)
    have hs6 := hgs.size
    rw [← hW6] at hS bO4 bE4 hX4 hs6 ⊢
    clear hW6 hgs HT5 HX5' bO5 bE5 o5 of5
    have hXW : X ≤ W6.heap.size := by omega
    refine wp_region_held_drew (S := fun w' => Bl w' O [.slice (some ⟨g, 0, none⟩) m c2] ∧ Bl w' A [.int .i64 Z.a, .int .i64 Z.n, .int .i64 Z.pe, .slice ea Z.p.length ex, .int .i64 Z.pr, .slice fa Z.c.length fx, .int .i64 Z.bw]) (by kernel_rfl) ⟨bO4.keep (over_drew _), bE4.keep (over_drew _)⟩ (fun hHeld => ?_)
    obtain ⟨u0, e0'⟩ : ∃ u, u = (W6).drew := ⟨_, rfl⟩
    have O2 : Over (W6) u0 := by rw [e0']; exact over_drew _
    have SS : Bl u0 O [.slice (some ⟨g, 0, none⟩) m c2] ∧ Bl u0 A [.int .i64 Z.a, .int .i64 Z.n, .int .i64 Z.pe, .slice ea Z.p.length ex, .int .i64 Z.pr, .slice fa Z.c.length fx, .int .i64 Z.bw] := ⟨bO4.keep O2, bE4.keep O2⟩
    rw [← e0']
    clear e0' hHeld
    refine wpAnyH_take (i := 0) (v := ?_) rfl (by kernel_rfl) (by kernel_rfl) (by kernel_rfl) (fun _ _ _ h => h) (Or.inl ⟨by rfl, ?_⟩) SS ?_
    rotate_left
    · intro wq hSq
      (try dsimp only at hSq)

      go_simp
      try rfl
    change wpAnyH _ _ _ _ _ _ _ (Act.put _ (some 28) _) _
    simp only [Act.put, List.setIfInBounds_toArray, List.set_cons_succ, List.set_cons_zero]
    refine wpAnyH_take (i := 1) (v := ?_) rfl (by kernel_rfl) (by kernel_rfl) (by kernel_rfl) (fun _ _ _ h => h) (Or.inl ⟨by rfl, ?_⟩) SS ?_
    rotate_left
    · intro wq hSq
      (try dsimp only at hSq)

      go_simp
      try rfl
    change wpAnyH _ _ _ _ _ _ _ (Act.put _ (some 29) _) _
    simp only [Act.put, List.setIfInBounds_toArray, List.set_cons_succ, List.set_cons_zero]
    refine wpAnyH_take (i := 2) (v := ?_) rfl (by kernel_rfl) (by kernel_rfl) (by kernel_rfl) (fun _ _ _ h => h) (Or.inl ⟨by rfl, ?_⟩) SS ?_
    rotate_left
    · intro wq hSq
      (try dsimp only at hSq)

      go_simp
      try rfl
    change wpAnyH _ _ _ _ _ _ _ (Act.put _ (some 30) _) _
    simp only [Act.put, List.setIfInBounds_toArray, List.set_cons_succ, List.set_cons_zero]
    refine wpAnyH_take (i := 3) (v := ?_) rfl (by kernel_rfl) (by kernel_rfl) (by kernel_rfl) (fun _ _ _ h => h) (Or.inl ⟨by rfl, ?_⟩) SS ?_
    rotate_left
    · intro wq hSq
      (try dsimp only at hSq)
      have q0 := hSq.1.c 0 rfl
      go_simp
      try rfl
    change wpAnyH _ _ _ _ _ _ _ (Act.put _ (some 31) _) _
    simp only [Act.put, List.setIfInBounds_toArray, List.set_cons_succ, List.set_cons_zero]
    refine wpAnyH_take (i := 4) (v := ?_) rfl (by kernel_rfl) (by kernel_rfl) (by kernel_rfl) (fun _ _ _ h => h) (Or.inl ⟨by rfl, ?_⟩) SS ?_
    rotate_left
    · intro wq hSq
      (try dsimp only at hSq)

      go_simp
      try rfl
    change wpAnyH _ _ _ _ _ _ _ (Act.put _ (some 32) _) _
    simp only [Act.put, List.setIfInBounds_toArray, List.set_cons_succ, List.set_cons_zero]
    refine wpAnyH_take (i := 5) (v := ?_) rfl (by kernel_rfl) (by kernel_rfl) (by kernel_rfl) (fun _ _ _ h => h) (Or.inl ⟨by rfl, ?_⟩) SS ?_
    rotate_left
    · intro wq hSq
      (try dsimp only at hSq)
      have q0 := hSq.2.c 0 rfl
      have q1 := hSq.2.c 1 rfl
      have q2 := hSq.2.c 2 rfl
      have q3 := hSq.2.c 3 rfl
      have q4 := hSq.2.c 4 rfl
      have q5 := hSq.2.c 5 rfl
      have q6 := hSq.2.c 6 rfl
      go_simp
      try rfl
    change wpAnyH _ _ _ _ _ _ _ (Act.put _ (some 33) _) _
    simp only [Act.put, List.setIfInBounds_toArray, List.set_cons_succ, List.set_cons_zero]
    refine wpAnyH_ready (rs := [6]) (by kernel_rfl) (by simp) ?_
    refine (AllReadyH.cons rfl (fun K hK => ?_) AllReadyH.nil)
    go_simp
    refine (ice_any _ _ Z.p Z.c Z.a Z.n Z.pe Z.pr Z.bw _ (hZ1 _ (below_trans4 hX4 O2 hXW)) (hZ2 _ (below_trans4 hX4 O2 hXW)) hl1 hl2).mono ?_
    rintro e wn2 ⟨pa, px, ma, mx, rfl, o1, o2, ap, hb⟩
    have O3 := over_step O2 hb
    replace SS := (⟨SS.1.keep hb, SS.2.keep hb⟩ : Bl wn2 O [.slice (some ⟨g, 0, none⟩) m c2] ∧ Bl wn2 A [.int .i64 Z.a, .int .i64 Z.n, .int .i64 Z.pe, .slice ea Z.p.length ex, .int .i64 Z.pr, .slice fa Z.c.length fx, .int .i64 Z.bw])
    refine hK.out _ _ SS (fun _ => ?_)
    clear hK K
    try simp only [Act.put, List.setIfInBounds_toArray, List.set_cons_zero, List.set_cons_succ]
    refine wpAnyH_take (i := 7) (v := ?_) rfl (by kernel_rfl) (by kernel_rfl) (by kernel_rfl) (fun _ _ _ h => h) (Or.inl ⟨by rfl, ?_⟩) SS ?_
    rotate_left
    · intro wq hSq
      (try dsimp only at hSq)

      go_simp
      try rfl
    change wpAnyH _ _ _ _ _ _ _ (Act.put _ (some 35) _) _
    simp only [Act.put, List.setIfInBounds_toArray, List.set_cons_succ, List.set_cons_zero]
    have hS3 := hS.keep O3
    have hrw := hS3.row
    rw [HM.out] at hrw
    obtain ⟨hth, -⟩ := row_there7 hrw
    have hfz := hrw.frozenAt
    obtain ⟨y0, k0⟩ := Option.isSome_iff_exists.1 (hth (i * 7 + 0) (by omega))
    have n0 := hfz (i * 7 + 0)
    obtain ⟨y1, k1⟩ := Option.isSome_iff_exists.1 (hth (i * 7 + 1) (by omega))
    have n1 := hfz (i * 7 + 1)
    obtain ⟨y2, k2⟩ := Option.isSome_iff_exists.1 (hth (i * 7 + 2) (by omega))
    have n2 := hfz (i * 7 + 2)
    obtain ⟨y3, k3⟩ := Option.isSome_iff_exists.1 (hth (i * 7 + 3) (by omega))
    have n3 := hfz (i * 7 + 3)
    obtain ⟨y4, k4⟩ := Option.isSome_iff_exists.1 (hth (i * 7 + 4) (by omega))
    have n4 := hfz (i * 7 + 4)
    obtain ⟨y5, k5⟩ := Option.isSome_iff_exists.1 (hth (i * 7 + 5) (by omega))
    have n5 := hfz (i * 7 + 5)
    obtain ⟨y6, k6⟩ := Option.isSome_iff_exists.1 (hth (i * 7 + 6) (by omega))
    have n6 := hfz (i * 7 + 6)
    try simp only [Nat.add_zero] at k0 n0
    clear hth hfz
    have hbu : base ≤ u0.heap.size := by have := O2.size; omega
    have hSu := hS.keep O2
    have hgr := grown_setCells7 (g := g) (cellsT ⟨Z, .slice pa Z.p.length px, .slice ma Z.c.length mx⟩) (i * 7) wn2
    have SS5 : Bl (wn2.setCells g (i * 7) (cellsT ⟨Z, .slice pa Z.p.length px, .slice ma Z.c.length mx⟩)) O [.slice (some ⟨g, 0, none⟩) m c2] ∧ Bl (wn2.setCells g (i * 7) (cellsT ⟨Z, .slice pa Z.p.length px, .slice ma Z.c.length mx⟩)) A [.int .i64 Z.a, .int .i64 Z.n, .int .i64 Z.pe, .slice ea Z.p.length ex, .int .i64 Z.pr, .slice fa Z.c.length fx, .int .i64 Z.bw] := ⟨SS.1.grown hgr (fun q => hgO (Option.some.inj q).symm), SS.2.grown hgr (fun q => hgA (Option.some.inj q).symm)⟩
    have hS5 := OwnT.setT (t' := ⟨Z, .slice pa Z.p.length px, .slice ma Z.c.length mx⟩) hS3 HM.out HT0.out ⟨o1.mono hbu, o2.mono hbu⟩ ⟨⟨_, _, rfl⟩, _, _, rfl⟩ ap
      (fun s hs => ⟨apartI (hSu.own s hs).1 o1 (Nat.le_refl _), apartI (hSu.own s hs).1 o2 (Nat.le_refl _), apartI (hSu.own s hs).2 o1 (Nat.le_refl _), apartI (hSu.own s hs).2 o2 (Nat.le_refl _)⟩)
      ⟨sepNew hSu.row o1 (Nat.le_refl _), sepNew hSu.row o2 (Nat.le_refl _)⟩
    have hX5 := below_grow4 (below_trans4 hX4 O3 hXW) hgr hXg (by have := O3.size; omega)
    have HS5 := Lib.hid hS5
    have HX5 := Lib.hid hX5
    clear hS5 hX5 hgr hSu o1 o2 ap hS3 hrw
    refine wpAnyH_ready (rs := [8]) (by kernel_rfl) (by simp) ?_
    refine (AllReadyH.cons rfl (fun K hK => ?_) AllReadyH.nil)
    go_simp
    refine hK.out _ _ SS5 (fun _ => ?_)
    clear hK K
    try simp only [Act.put, List.setIfInBounds_toArray, List.set_cons_zero, List.set_cons_succ]
    refine wpAnyH_done (by kernel_rfl) ?_ _
    go_wp2
    go_end0
    exact ⟨rfl, i, false, _, _, HAT.out, HS5.out, HEQ.out _ rfl, SS5.1, HX5.out⟩

  · have hiT : i < T.length := by
      rcases Nat.lt_or_ge i T.length with q | q
      · exact q
      · have := hAt.2.2.2 (List.getElem?_eq_none q)
        cases this
    obtain ⟨g, cap, hv, hmc, hbg, hgw, hcm⟩ := row_form hTn.row (by omega)
    injection hv with hv1 hv2 hv3
    subst hv1 hv3
    obtain ⟨m, hm⟩ : ∃ m, m = T.length := ⟨_, rfl⟩
    have hm := hm.symm
    obtain ⟨t0, ht0⟩ : ∃ t, T[i]? = some t := ⟨T[i], List.getElem?_eq_getElem hiT⟩
    have hS := hTn
    have bO4 := bOn
    have bE4 := bEn
    rw [hm] at hS bO4 o0
    have hi4 : i < m := by omega
    have hiI : (i : Int) < (m : Int) := by omega
    have hX4 := hXwn
    have hXW : X ≤ wn.heap.size := by omega
    rw [← hAE, hm]
    have hgA : g ≠ A := by have := hlt g rfl; omega
    have hgO : g ≠ O := fun q => hOv (by rw [q]; rfl)
    have hXg : X ≤ g := by omega
    have HEQ : Hid (∀ t' : ET, t'.E = Z → entT (T.set i t') = (if true = true then (entT T).set i Z else (entT T).take i ++ Z :: (entT T).drop i)) := Lib.hid fun t' e => by rw [if_pos rfl, ← e]; simp [entT, List.map_set]
    have HM := Lib.hid hm
    have HA := Lib.hid hAE
    have HT0 := Lib.hid ht0
    have HAT := Lib.hid hAt
    have HP := Lib.hid hP
    clear hm hAE ht0 hAt hP o0 hTn bOn bEn hT h bE bO bOV hlt
    go_wp2_with fail
    refine wp_region_held_drew (S := fun w' => Bl w' O [.slice (some ⟨g, 0, none⟩) m c] ∧ Bl w' A [.int .i64 Z.a, .int .i64 Z.n, .int .i64 Z.pe, .slice ea Z.p.length ex, .int .i64 Z.pr, .slice fa Z.c.length fx, .int .i64 Z.bw]) (by kernel_rfl) ⟨bO4.keep (over_drew _), bE4.keep (over_drew _)⟩ (fun hHeld => ?_)
    obtain ⟨u0, e0'⟩ : ∃ u, u = (wn).drew := ⟨_, rfl⟩
    have O2 : Over (wn) u0 := by rw [e0']; exact over_drew _
    have SS : Bl u0 O [.slice (some ⟨g, 0, none⟩) m c] ∧ Bl u0 A [.int .i64 Z.a, .int .i64 Z.n, .int .i64 Z.pe, .slice ea Z.p.length ex, .int .i64 Z.pr, .slice fa Z.c.length fx, .int .i64 Z.bw] := ⟨bO4.keep O2, bE4.keep O2⟩
    rw [← e0']
    clear e0' hHeld
    refine wpAnyH_take (i := 0) (v := ?_) rfl (by kernel_rfl) (by kernel_rfl) (by kernel_rfl) (fun _ _ _ h => h) (Or.inl ⟨by rfl, ?_⟩) SS ?_
    rotate_left
    · intro wq hSq
      (try dsimp only at hSq)

      go_simp
      try rfl
    change wpAnyH _ _ _ _ _ _ _ (Act.put _ (some 28) _) _
    simp only [Act.put, List.setIfInBounds_toArray, List.set_cons_succ, List.set_cons_zero]
    refine wpAnyH_take (i := 1) (v := ?_) rfl (by kernel_rfl) (by kernel_rfl) (by kernel_rfl) (fun _ _ _ h => h) (Or.inl ⟨by rfl, ?_⟩) SS ?_
    rotate_left
    · intro wq hSq
      (try dsimp only at hSq)

      go_simp
      try rfl
    change wpAnyH _ _ _ _ _ _ _ (Act.put _ (some 29) _) _
    simp only [Act.put, List.setIfInBounds_toArray, List.set_cons_succ, List.set_cons_zero]
    refine wpAnyH_take (i := 2) (v := ?_) rfl (by kernel_rfl) (by kernel_rfl) (by kernel_rfl) (fun _ _ _ h => h) (Or.inl ⟨by rfl, ?_⟩) SS ?_
    rotate_left
    · intro wq hSq
      (try dsimp only at hSq)

      go_simp
      try rfl
    change wpAnyH _ _ _ _ _ _ _ (Act.put _ (some 30) _) _
    simp only [Act.put, List.setIfInBounds_toArray, List.set_cons_succ, List.set_cons_zero]
    refine wpAnyH_take (i := 3) (v := ?_) rfl (by kernel_rfl) (by kernel_rfl) (by kernel_rfl) (fun _ _ _ h => h) (Or.inl ⟨by rfl, ?_⟩) SS ?_
    rotate_left
    · intro wq hSq
      (try dsimp only at hSq)
      have q0 := hSq.1.c 0 rfl
      go_simp
      try rfl
    change wpAnyH _ _ _ _ _ _ _ (Act.put _ (some 31) _) _
    simp only [Act.put, List.setIfInBounds_toArray, List.set_cons_succ, List.set_cons_zero]
    refine wpAnyH_take (i := 4) (v := ?_) rfl (by kernel_rfl) (by kernel_rfl) (by kernel_rfl) (fun _ _ _ h => h) (Or.inl ⟨by rfl, ?_⟩) SS ?_
    rotate_left
    · intro wq hSq
      (try dsimp only at hSq)

      go_simp
      try rfl
    change wpAnyH _ _ _ _ _ _ _ (Act.put _ (some 32) _) _
    simp only [Act.put, List.setIfInBounds_toArray, List.set_cons_succ, List.set_cons_zero]
    refine wpAnyH_take (i := 5) (v := ?_) rfl (by kernel_rfl) (by kernel_rfl) (by kernel_rfl) (fun _ _ _ h => h) (Or.inl ⟨by rfl, ?_⟩) SS ?_
    rotate_left
    · intro wq hSq
      (try dsimp only at hSq)
      have q0 := hSq.2.c 0 rfl
      have q1 := hSq.2.c 1 rfl
      have q2 := hSq.2.c 2 rfl
      have q3 := hSq.2.c 3 rfl
      have q4 := hSq.2.c 4 rfl
      have q5 := hSq.2.c 5 rfl
      have q6 := hSq.2.c 6 rfl
      go_simp
      try rfl
    change wpAnyH _ _ _ _ _ _ _ (Act.put _ (some 33) _) _
    simp only [Act.put, List.setIfInBounds_toArray, List.set_cons_succ, List.set_cons_zero]
    refine wpAnyH_ready (rs := [6]) (by kernel_rfl) (by simp) ?_
    refine (AllReadyH.cons rfl (fun K hK => ?_) AllReadyH.nil)
    go_simp
    refine (ice_any _ _ Z.p Z.c Z.a Z.n Z.pe Z.pr Z.bw _ (hZ1 _ (below_trans4 hX4 O2 hXW)) (hZ2 _ (below_trans4 hX4 O2 hXW)) hl1 hl2).mono ?_
    rintro e wn2 ⟨pa, px, ma, mx, rfl, o1, o2, ap, hb⟩
    have O3 := over_step O2 hb
    replace SS := (⟨SS.1.keep hb, SS.2.keep hb⟩ : Bl wn2 O [.slice (some ⟨g, 0, none⟩) m c] ∧ Bl wn2 A [.int .i64 Z.a, .int .i64 Z.n, .int .i64 Z.pe, .slice ea Z.p.length ex, .int .i64 Z.pr, .slice fa Z.c.length fx, .int .i64 Z.bw])
    refine hK.out _ _ SS (fun _ => ?_)
    clear hK K
    try simp only [Act.put, List.setIfInBounds_toArray, List.set_cons_zero, List.set_cons_succ]
    refine wpAnyH_take (i := 7) (v := ?_) rfl (by kernel_rfl) (by kernel_rfl) (by kernel_rfl) (fun _ _ _ h => h) (Or.inl ⟨by rfl, ?_⟩) SS ?_
    rotate_left
    · intro wq hSq
      (try dsimp only at hSq)

      go_simp
      try rfl
    change wpAnyH _ _ _ _ _ _ _ (Act.put _ (some 35) _) _
    simp only [Act.put, List.setIfInBounds_toArray, List.set_cons_succ, List.set_cons_zero]
    have hS3 := hS.keep O3
    have hrw := hS3.row
    rw [HM.out] at hrw
    obtain ⟨hth, -⟩ := row_there7 hrw
    have hfz := hrw.frozenAt
    obtain ⟨y0, k0⟩ := Option.isSome_iff_exists.1 (hth (i * 7 + 0) (by omega))
    have n0 := hfz (i * 7 + 0)
    obtain ⟨y1, k1⟩ := Option.isSome_iff_exists.1 (hth (i * 7 + 1) (by omega))
    have n1 := hfz (i * 7 + 1)
    obtain ⟨y2, k2⟩ := Option.isSome_iff_exists.1 (hth (i * 7 + 2) (by omega))
    have n2 := hfz (i * 7 + 2)
    obtain ⟨y3, k3⟩ := Option.isSome_iff_exists.1 (hth (i * 7 + 3) (by omega))
    have n3 := hfz (i * 7 + 3)
    obtain ⟨y4, k4⟩ := Option.isSome_iff_exists.1 (hth (i * 7 + 4) (by omega))
    have n4 := hfz (i * 7 + 4)
    obtain ⟨y5, k5⟩ := Option.isSome_iff_exists.1 (hth (i * 7 + 5) (by omega))
    have n5 := hfz (i * 7 + 5)
    obtain ⟨y6, k6⟩ := Option.isSome_iff_exists.1 (hth (i * 7 + 6) (by omega))
    have n6 := hfz (i * 7 + 6)
    try simp only [Nat.add_zero] at k0 n0
    clear hth hfz
    have hbu : base ≤ u0.heap.size := by have := O2.size; omega
    have hSu := hS.keep O2
    have hgr := grown_setCells7 (g := g) (cellsT ⟨Z, .slice pa Z.p.length px, .slice ma Z.c.length mx⟩) (i * 7) wn2
    have SS5 : Bl (wn2.setCells g (i * 7) (cellsT ⟨Z, .slice pa Z.p.length px, .slice ma Z.c.length mx⟩)) O [.slice (some ⟨g, 0, none⟩) m c] ∧ Bl (wn2.setCells g (i * 7) (cellsT ⟨Z, .slice pa Z.p.length px, .slice ma Z.c.length mx⟩)) A [.int .i64 Z.a, .int .i64 Z.n, .int .i64 Z.pe, .slice ea Z.p.length ex, .int .i64 Z.pr, .slice fa Z.c.length fx, .int .i64 Z.bw] := ⟨SS.1.grown hgr (fun q => hgO (Option.some.inj q).symm), SS.2.grown hgr (fun q => hgA (Option.some.inj q).symm)⟩
    have hS5 := OwnT.setT (t' := ⟨Z, .slice pa Z.p.length px, .slice ma Z.c.length mx⟩) hS3 HM.out HT0.out ⟨o1.mono hbu, o2.mono hbu⟩ ⟨⟨_, _, rfl⟩, _, _, rfl⟩ ap
      (fun s hs => ⟨apartI (hSu.own s hs).1 o1 (Nat.le_refl _), apartI (hSu.own s hs).1 o2 (Nat.le_refl _), apartI (hSu.own s hs).2 o1 (Nat.le_refl _), apartI (hSu.own s hs).2 o2 (Nat.le_refl _)⟩)
      ⟨sepNew hSu.row o1 (Nat.le_refl _), sepNew hSu.row o2 (Nat.le_refl _)⟩
    have hX5 := below_grow4 (below_trans4 hX4 O3 hXW) hgr hXg (by have := O3.size; omega)
    have HS5 := Lib.hid hS5
    have HX5 := Lib.hid hX5
    clear hS5 hX5 hgr hSu o1 o2 ap hS3 hrw
    refine wpAnyH_ready (rs := [8]) (by kernel_rfl) (by simp) ?_
    refine (AllReadyH.cons rfl (fun K hK => ?_) AllReadyH.nil)
    go_simp
    refine hK.out _ _ SS5 (fun _ => ?_)
    clear hK K
    try simp only [Act.put, List.setIfInBounds_toArray, List.set_cons_zero, List.set_cons_succ]
    refine wpAnyH_done (by kernel_rfl) ?_ _
    go_wp2
    go_end0
    exact ⟨rfl, i, true, _, _, HAT.out, HS5.out, HEQ.out _ rfl, SS5.1, HX5.out⟩

end Go.Proofs.Ytaiffofmhfflkaa
