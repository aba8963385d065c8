/-
  Program of the model. Conditions: those in each contract.
-/
import Derived.Test.YtbcmoofpgffbhaaTH
namespace Go.Proofs.Ytbcmoofpgffbhaa
open Go.ChangeShapes Go.WideShapes Go.ChangeAt Go.RowKit Go.BigFrame Go.Joins
set_option linter.unusedVariables false
set_option maxRecDepth 100000
set_option linter.unusedSimpArgs false
set_option maxRecDepth 100000

theorem putO_le (L : List Grp) (x : Grp) : ∀ k, (putO L x k).length ≤ k + (if putP L x k = true then 1 else 0)
  | 0 => Nat.zero_le _
  | k + 1 => by
    have := putO_le L x k
    rw [putO, putP, List.length_append]
    cases hp : putP L x k <;> rw [hp] at this <;> simp only [Bool.not_true, Bool.not_false, Bool.true_and, Bool.false_and, Bool.true_or, Bool.false_or] at this ⊢ <;> split <;> split <;> simp_all <;> omega
theorem putL_le1 (L : List Grp) (x : Grp) : (putL L x).length ≤ L.length + 1 := by
  have := putO_le L x L.length
  unfold putL
  cases hp : putP L x L.length <;> rw [hp] at this
  · rw [if_neg (by simp), List.length_append]; simpa using this
  · rw [if_pos rfl]; simpa using this
theorem fold_le (M : List Grp) : ∀ L : List Grp, (M.foldl putL L).length ≤ L.length + M.length := by
  induction M with
  | nil => intro L; exact Nat.le_refl _
  | cons x M ih =>
    intro L
    have h1 := ih (putL L x)
    have h2 := putL_le1 L x
    rw [List.foldl_cons, List.length_cons]
    omega
/-- a store over a slice leaves what reads there -/
theorem RdP.slc {w : World} {v u : Value} {l : List (Int × Int)} {O n c : Nat} {a : Option Addr} (h : RdP w v l) (hO : w.cell? ⟨O, 0, none⟩ = some (.slice a n c)) : RdP (w.setCell ⟨O, 0, none⟩ u) v l := by
  have key : ∀ p x, w.cell? p = some (.int .i64 x) → (w.setCell ⟨O, 0, none⟩ u).cell? p = some (.int .i64 x) := fun p x hp => by
    rw [World.cell?_setCell_other]
    · exact hp
    · rintro rfl
      rw [hO] at hp
      cases hp
  obtain ⟨h2, h3⟩ := h
  refine ⟨h2, ?_⟩
  rcases h3 with h3 | ⟨b, o, c, hv, hp, hc⟩
  · exact .inl h3
  · exact .inr ⟨b, o, c, hv, hp, fun i hi => ⟨key _ _ (hc i hi).1, key _ _ (hc i hi).2⟩⟩
theorem RdG.slc {w : World} {v u : Value} {L : List Grp} {O n c : Nat} {a : Option Addr} (h : RdG w v L) (hO : w.cell? ⟨O, 0, none⟩ = some (.slice a n c)) : RdG (w.setCell ⟨O, 0, none⟩ u) v L := by
  have key : ∀ p x, w.cell? p = some (.int .i64 x) → (w.setCell ⟨O, 0, none⟩ u).cell? p = some (.int .i64 x) := fun p x hp => by
    rw [World.cell?_setCell_other]
    · exact hp
    · rintro rfl
      rw [hO] at hp
      cases hp
  obtain ⟨h2, h3⟩ := h
  refine ⟨h2, ?_⟩
  rcases h3 with h3 | ⟨b, o, c, hv, hp, hc⟩
  · exact .inl h3
  · refine .inr ⟨b, o, c, hv, hp, fun i hi => ?_⟩
    obtain ⟨yv, hr, k0, k1, k2⟩ := hc i hi
    refine ⟨yv, hr.slc hO, key _ _ k0, key _ _ k1, ?_⟩
    rw [World.cell?_setCell_other]
    · exact k2
    · intro e
      injection e with e1 e2
      omega
theorem left_step {L : List Grp} {P : List (Int × Int)} {k : Nat} {E : Grp} {g : Bool} (hk : k < L.length) (hx : L.getD k gr0 = E) (hg : goneQ P E = g) : leftL (L.take (k + 1)) P = leftL (L.take k) P ++ if g = true then [] else [E] := by
  unfold leftL
  rw [filtG_more _ hk hx, hg]
  cases g <;> simp
/-- the state of Program's first loop -/
structure GsT (w wr : World) (lo A R O : Nat) (f v2 : Value) (L : List Grp) (xs : List Value) : Prop where
  g : GrYS wr lo v2 L xs
  o : Bl wr O [v2]
  r : Bl wr R [.slice none 0 0]
  a : Bl wr A [f]
  b : Below w.heap.size w wr
  s : lo ≤ wr.heap.size
theorem GsT.keep {w wr w' : World} {lo A R O : Nat} {f v2 : Value} {L : List Grp} {xs : List Value} (h : GsT w wr lo A R O f v2 L xs) (b : Below wr.heap.size wr w') : GsT w w' lo A R O f v2 L xs :=
  ⟨h.g.keep b, h.o.keep b, h.r.keep b, h.a.keep b, below_step h.b b, Nat.le_trans h.s b.size⟩
def LayP (w : World) (lo A R O : Nat) : Prop := w.heap.size ≤ O ∧ w.heap.size ≤ R ∧ w.heap.size ≤ lo ∧ A < lo ∧ R < lo ∧ O < lo ∧ A ≠ O ∧ R ≠ O
theorem GsT.grown {w wr w3 : World} {lo A R O : Nat} {f v2 : Value} {L : List Grp} {xs : List Value} (h : GsT w wr lo A R O f v2 L xs) (hL : LayP w lo A R O) (hg : wr.grownBy w3 v2.ownBlock) :
    Bl w3 O [v2] ∧ Bl w3 R [.slice none 0 0] ∧ Bl w3 A [f] ∧ Below w.heap.size w w3 ∧ lo ≤ w3.heap.size := by
  obtain ⟨l1, l0, l2, l3, l5, l6, l7, l9⟩ := hL
  exact ⟨h.o.grown hg (neRowG h.g.row l6), h.r.grown hg (neRowG h.g.row l5), h.a.grown hg (neRowG h.g.row l3), below_growD h.b h.g.row l2 hg, Nat.le_trans h.s hg.size⟩
theorem GsT.app {w D w2 w3 : World} {lo A R O : Nat} {f v2 v3 yv : Value} {L : List Grp} {xs : List Value} {x : Grp} {S : Nat → Prop} (h : GsT w D lo A R O f v2 L xs) (hL : LayP w lo A R O) (B : Below D.heap.size D w2) (o : OwY w2 S yv x)
    (hS : ∀ b, S b → D.heap.size ≤ b ∧ b < w2.heap.size) (hr : w3.ownsRow lo GI 3 v3 (L.length + 1) (xs ++ [.int .i64 x.a, .int .i64 x.n, yv])) (hg : w2.grownBy w3 v2.ownBlock) (hor : v3.ownBlock = v2.ownBlock ∨ v3.ownBlock = some w2.heap.size) :
    GsT w (w3.setCell ⟨O, 0, none⟩ v3) lo A R O f v3 (L ++ [x]) (xs ++ [.int .i64 x.a, .int .i64 x.n, yv]) := by
  obtain ⟨b1, b2, b3, b5, b6⟩ := (h.keep B).grown hL hg
  obtain ⟨l1, l0, l2, l3, l5, l6, l7, l9⟩ := hL
  have gs := grown_set w3 O 0 v3
  exact ⟨(GrYS.step h.g h.s B o hS hr hg hor).far l6, b1.set 0 v3, b2.far l9, b3.far l7, Below.grown b5 gs b5.size (fun k hk => by cases hk; exact l1), Nat.le_trans b6 gs.size⟩
/-- what Program leaves, of the model -/
def ProS (w : World) (R : List Grp) (e : Ending) (w' : World) : Prop := ∃ v, e = .returned (.agg #[v]) ∧ RdG w' v R ∧ Below w.heap.size w w'
theorem proS_nil {w w' : World} {R : List Grp} (h : R = []) (hb : Below w.heap.size w w') : ProS w R (.returned (.agg #[.slice none 0 0])) w' := ⟨_, rfl, by subst h; exact ⟨by simp, .inl ⟨none, 0, rfl, rfl, fun _ => rfl⟩⟩, hb⟩
set_option maxHeartbeats 8000000 in
theorem spro_any (v u p : Value) (L M : List Grp) (P : List (Int × Int)) (w : World) (h : RdG w v L) (hu : RdG w u M) (hp : RdP w p P) (hl1 : L.length + wtG L ≤ 1048576) (hl2 : M.length + wtG M ≤ 1048576) (hl3 : P.length ≤ 1048576) :
    Calls Try.prog 49 #[.agg #[v], u, p] w (ProS w (progL L M P)) := by
  obtain ⟨a, c, rfl, hcL⟩ := h.el
  obtain ⟨a', c', rfl, hcM⟩ := hu.el
  obtain ⟨pa, pc, rfl⟩ := hp.len
  have hwL : ∀ j, j < L.length → (L.getD j gr0).h.length ≤ 1048576 := fun j hj => by have := wtG_at hj; omega
  have hwM : ∀ j, j < M.length → (M.getD j gr0).h.length ≤ 1048576 := fun j hj => by have := wtG_at hj; omega
  obtain ⟨n, hn⟩ : ∃ n, n = L.length := ⟨_, rfl⟩
  obtain ⟨m, hm⟩ : ∃ m, m = M.length := ⟨_, rfl⟩
  have hm1 : m ≤ 1048576 := by omega
  have hn1 : n ≤ 1048576 := by omega
  rw [← hn] at h hcL hwL
  rw [← hm] at hcM hwM
  rw [← hn, ← hm]
  have HNL := Lib.hid hn
  have HN := Lib.hid hm
  have HWM := Lib.hid hwM
  have HWL := Lib.hid hwL
  have HRP := Lib.hid (And.intro hp (show P.length ≤ 9223372036854775807 by omega))
  clear hl1 hl2 hl3 hwM hwL hm hn hp hu
  obtain ⟨bA, bR, B0, z⟩ := two w [.slice a n c] [.slice none 0 0] 57 57
  have a0 := bA.c 0 rfl
  obtain ⟨g, hg⟩ : ∃ g, fibB L = g := ⟨_, rfl⟩
  have HG := Lib.hid hg
  clear hg
  obtain ⟨A, hA⟩ : ∃ A, A = w.heap.size := ⟨_, rfl⟩
  obtain ⟨R, hR⟩ : ∃ A, A = w.heap.size + 1 := ⟨_, rfl⟩
  go_enter Try.func49, Try.ntmps49
  go_wp2_with fail
  rw [← hA] at bA
  rw [← hR] at bR
  rw [← hR]
  try rw [← hA]
  have hRw : w.heap.size ≤ R ∧ A < R := by omega
  clear hA hR z
  refine (sfib_t _ (h.keep B0) HG).mono ?_
  rintro e w1 ⟨rfl, hb⟩
  clear a0
  replace bA := bA.keep hb
  replace bR := bR.keep hb
  replace B0 := below_step B0 hb
  clear hb
  cases g
  · have HNO := Lib.hid (prog_no (M := M) (P := P) (.inl HG.out))
    have r0 := bR.c 0 rfl
    have rf := bR.f 0 rfl
    go_wp2
    have e0 := (bR.set 0 (.slice none 0 0)).c 0 rfl
    exact bodyPost_ret (v := .agg #[.slice none 0 0]) (by simp [results, Try.results49, go_sem, e0]) rfl (proS_nil HNO.out (Below.grown B0 (grown_set _ R 0 _) B0.size (fun k hk => by cases hk; omega)))
  · obtain ⟨bO, N1, z⟩ := one w1 [.slice none 0 0] 57
    have r0 := bA.c 0 rfl
    go_wp2
    clear r0
    obtain ⟨W1, hW⟩ : ∃ W1, W1 = w1.alloc (.cells #[.slice none 0 0] 57) := ⟨_, rfl⟩
    rw [← hW] at bO N1 z ⊢
    have hR1 := bR.lt
    obtain ⟨O, hO⟩ : ∃ A, A = w1.heap.size := ⟨_, rfl⟩
    rw [← hO] at bO z hR1
    try rw [← hO]
    obtain ⟨lo, hlo⟩ : ∃ n, n = W1.heap.size := ⟨_, rfl⟩
    have hwO : w.heap.size ≤ O := by have := B0.size; omega
    have HLAY : Hid (LayP w lo A R O) := Lib.hid (by unfold LayP; omega)
    have hP0 : GsT w W1 lo A R O (.slice a n c) (.slice none 0 0) (leftL (L.take 0) P) [] := ⟨by exact GrYS.nil _ _, bO, bR.keep N1, bA.keep N1, below_step B0 N1, by omega⟩
    clear hW hO hlo z N1 bO bA bR B0 hR1 h
    go_loopw [8] (fun q wr => ∃ k : Nat, k ≤ n ∧ q = .int .i64 k ∧ ∃ v2 xs, GsT w wr lo A R O (.slice a n c) v2 (leftL (L.take k) P) xs) (fun q _ => n - (intOf q).toNat)
    case atStart => exact ⟨0, Nat.zero_le _, rfl, _, _, hP0⟩
    case round =>
      clear hP0
      obtain ⟨k, hk, rfl, v2, xs, hP⟩ := hrel
      have r0 := hP.a.c 0 rfl
      by_cases hlt : k < n
      · have hltI : (k : Int) < (n : Int) := by omega
        obtain ⟨b, o, rfl, hE⟩ := hcL k hlt
        obtain ⟨E, hx⟩ : ∃ E, L.getD k gr0 = E := ⟨_, rfl⟩
        have hEl := HWL.out k hlt
        rw [hx] at hE hEl
        obtain ⟨ev, he, G0, G1, G2⟩ := hE
        obtain ⟨ea, ec, rfl⟩ := he.len
        have HRE := Lib.hid he
        have g0 := over_cell hP.b (World.block_lt_of_cell? _ _ G0) G0
        have g1 := over_cell hP.b (World.block_lt_of_cell? _ _ G1) G1
        obtain ⟨d, hd⟩ : ∃ d, goneQ P E = d := ⟨_, rfl⟩
        have HST := Lib.hid (left_step (P := P) (g := d) (by rw [← HNL.out]; exact hlt) hx hd)
        have hlen : (leftL (L.take k) P).length ≤ 1048576 := Nat.le_trans (List.length_filter_le _ _) (by rw [List.length_take]; omega)
        have HL2 : Hid ((leftL (L.take k) P).length + 1 ≤ 4294967296) := Lib.hid (by omega)
        have HD := Lib.hid hd
        have HC := Lib.hid (And.intro hcL hcM)
        have HGG := Lib.hid (And.intro G0 (And.intro G1 G2))
        clear hx hcL hcM hd he hlen G0 G1 G2
        go_wp2_with fail
        refine (sgone_any _ P E wr (HRP.out.1.keep hP.b) HRP.out.2).mono ?_
        rw [HD.out]
        rintro e w2 ⟨rfl, hb⟩
        replace hP := hP.keep hb
        clear hb g0 g1 r0
        cases d
        · have HF : Hid (leftL (L.take (k + 1)) P = leftL (L.take k) P ++ [E]) := Lib.hid (by rw [HST.out]; simp)
          obtain ⟨G0, G1, G2⟩ := HGG.out
          go_wp2_with fail
          obtain ⟨wd, rfl⟩ : ∃ W : World, W = w2 := ⟨_, rfl⟩
          have hPd := hP
          clear hP
          obtain ⟨D, hD⟩ : ∃ D, D = wd.drew := ⟨_, rfl⟩
          have OD : Over wd D := by rw [hD]; exact over_drew _
          refine wp_region_held_drew (S := fun w' => Bl w' A [.slice (some ⟨b, o, none⟩) n c] ∧ Below w.heap.size w w') (by kernel_rfl) ⟨hPd.a.keep (over_drew _), below_step hPd.b (over_drew _)⟩ (fun hHeld => ?_)
          clear hHeld
          rw [← hD]
          clear hD
          have hPD := hPd.keep OD
          clear hPd OD
          have hSD : KpG w A [.slice (some ⟨b, o, none⟩) n c] D := ⟨hPD.a, hPD.b⟩
          have hED := HRE.out.keep hPD.b
          refine wpAnyH_take (i := 0) (v := ?_) rfl (by kernel_rfl) (by kernel_rfl) (by kernel_rfl) (fun _ _ _ h => h) (Or.inl ⟨by rfl, ?_⟩) hSD ?_
          rotate_left
          · intro wq hSq
            (try dsimp only at hSq)

            go_simp
            try rfl
          change wpAnyH _ _ _ _ _ _ _ (Act.put _ (some 30) _) _
          simp only [Act.put, List.setIfInBounds_toArray, List.set_cons_succ, List.set_cons_zero]
          refine wpAnyH_take (i := 2) (v := ?_) rfl (by kernel_rfl) (by kernel_rfl) (by kernel_rfl) (fun _ _ _ h => h) (Or.inl ⟨by rfl, ?_⟩) hSD ?_
          rotate_left
          · intro wq hSq
            (try dsimp only at hSq)

            go_simp
            try rfl
          change wpAnyH _ _ _ _ _ _ _ (Act.put _ (some 32) _) _
          simp only [Act.put, List.setIfInBounds_toArray, List.set_cons_succ, List.set_cons_zero]
          refine wpAnyH_take (i := 3) (v := ?_) rfl (by kernel_rfl) (by kernel_rfl) (by kernel_rfl) (fun _ _ _ h => h) (Or.inl ⟨by rfl, ?_⟩) hSD ?_
          rotate_left
          · intro wq hSq
            (try dsimp only at hSq)
            have q0 := hSq.1.c 0 rfl
            go_simp
            try rfl
          change wpAnyH _ _ _ _ _ _ _ (Act.put _ (some 33) _) _
          simp only [Act.put, List.setIfInBounds_toArray, List.set_cons_succ, List.set_cons_zero]
          refine wpAnyH_take (i := 4) (v := ?_) rfl (by kernel_rfl) (by kernel_rfl) (by kernel_rfl) (fun _ _ _ h => h) (Or.inl ⟨by rfl, ?_⟩) hSD ?_
          rotate_left
          · intro wq hSq
            (try dsimp only at hSq)

            go_simp
            try rfl
          change wpAnyH _ _ _ _ _ _ _ (Act.put _ (some 34) _) _
          simp only [Act.put, List.setIfInBounds_toArray, List.set_cons_succ, List.set_cons_zero]
          refine wpAnyH_take (i := 5) (v := ?_) rfl (by kernel_rfl) (by kernel_rfl) (by kernel_rfl) (fun _ _ _ h => h) (Or.inl ⟨by rfl, ?_⟩) hSD ?_
          rotate_left
          · intro wq hSq
            (try dsimp only at hSq)

            go_simp
            try rfl
          change wpAnyH _ _ _ _ _ _ _ (Act.put _ (some 35) _) _
          simp only [Act.put, List.setIfInBounds_toArray, List.set_cons_succ, List.set_cons_zero]
          refine wpAnyH_take (i := 6) (v := ?_) rfl (by kernel_rfl) (by kernel_rfl) (by kernel_rfl) (fun _ _ _ h => h) (Or.inl ⟨by rfl, ?_⟩) hSD ?_
          rotate_left
          · intro wq hSq
            (try dsimp only at hSq)
            have q0 := over_cell hSq.2 (World.block_lt_of_cell? _ _ G0) G0
            have q1 := over_cell hSq.2 (World.block_lt_of_cell? _ _ G1) G1
            have q2 := over_cell hSq.2 (World.block_lt_of_cell? _ _ G2) G2
            go_simp
            try rfl
          change wpAnyH _ _ _ _ _ _ _ (Act.put _ (some 36) _) _
          simp only [Act.put, List.setIfInBounds_toArray, List.set_cons_succ, List.set_cons_zero]
          refine wpAnyH_ready (rs := [1, 7]) (by kernel_rfl) (by simp) ?_
          refine (AllReadyH.cons rfl (fun K hK => ?_) (AllReadyH.cons rfl (fun K hK => ?_) AllReadyH.nil))
          · have q := hPD.o.c 0 rfl
            go_simp
            refine hK.out _ _ hSD (fun hHeld => ?_)
            clear hK K hHeld q
            try simp only [Act.put, List.setIfInBounds_toArray, List.set_cons_zero, List.set_cons_succ]
            refine wpAnyH_ready (rs := [7]) (by kernel_rfl) (by simp) ?_
            refine (AllReadyH.cons rfl (fun K hK => ?_) AllReadyH.nil)
            go_simp
            refine (sown7_any _ E.h E.a E.n D hED hEl).mono ?_
            rintro e w1 ⟨pa, px, rfl, ho, hb⟩
            have hP1 := hPD.keep hb
            refine hK.out _ _ (hSD.next hb) (fun hHeld => ?_)
            clear hK K hHeld
            try simp only [Act.put, List.setIfInBounds_toArray, List.set_cons_zero, List.set_cons_succ]
            refine wpAnyH_ready (rs := [8]) (by kernel_rfl) (by simp) ?_
            refine (AllReadyH.cons rfl (fun K hK => ?_) AllReadyH.nil)
            go_simp
            have bN := Bl.new w1 [.int .i64 E.a, .int .i64 E.n, .slice pa E.h.length px] GI w1.heap.size rfl
            have N1 : Below w1.heap.size w1 (w1.alloc (.cells #[.int .i64 E.a, .int .i64 E.n, .slice pa E.h.length px] GI)) := (Below.refl _ _).alloc (Nat.le_refl _) _
            refine hK.out _ _ ((hSD.next hb).next N1) (fun hHeld => ?_)
            clear hK K hHeld
            try simp only [Act.put, List.setIfInBounds_toArray, List.set_cons_zero, List.set_cons_succ]
            refine wpAnyH_ready (rs := [9]) (by kernel_rfl) (by simp) ?_
            refine (AllReadyH.cons rfl (fun K hK => ?_) AllReadyH.nil)
            refine step_apY rfl (.tmp 31) (.tmp 38) rfl lo w1.heap.size 1 v2 (leftL (L.take k) P).length xs [.int .i64 E.a, .int .i64 E.n, .slice pa E.h.length px] rfl rfl (hP1.keep N1).g.row bN rfl (by simp [Value.oneCell']) HL2.out (hP1.keep N1).s ?_
            intro v5 w5 hrow hg hor
            have hs1 := hb.size
            have hG := (hP1.keep N1).grown HLAY.out hg
            have hP5 := hPD.app (S := Rg D.heap.size w1.heap.size) HLAY.out (below_step hb N1) ⟨Rg D.heap.size w1.heap.size, fun b q => q, (ho.keep N1).mono (Nat.zero_le _), fun k q => World.ownsRow.lt ho k q, hEl⟩ (fun b q => ⟨q.1, by have := q.2; have := N1.size; omega⟩) hrow hg hor
            obtain ⟨y5, z5, rfl⟩ := row_sliceGG hrow
            refine hK.out _ _ ⟨hG.2.2.1, hG.2.2.2.1⟩ (fun hHeld => ?_)
            clear hK K hHeld
            try simp only [Act.put, List.setIfInBounds_toArray, List.set_cons_zero, List.set_cons_succ]
            refine wpAnyH_ready (rs := [10]) (by kernel_rfl) (by simp) ?_
            refine (AllReadyH.cons rfl (fun K hK => ?_) AllReadyH.nil)
            go_simp
            refine hK.out _ _ ⟨hG.2.2.1, hG.2.2.2.1⟩ (fun hHeld => ?_)
            clear hK K hHeld
            try simp only [Act.put, List.setIfInBounds_toArray, List.set_cons_zero, List.set_cons_succ]
            refine wpAnyH_ready (rs := [11]) (by kernel_rfl) (by simp) ?_
            refine (AllReadyH.cons rfl (fun K hK => ?_) AllReadyH.nil)
            have o0 := hG.1.c 0 rfl
            have of0 := hG.1.f 0 rfl
            go_simp
            refine hK.out _ _ ⟨hP5.a, hP5.b⟩ (fun hHeld => ?_)
            clear hK K hHeld o0 of0
            try simp only [Act.put, List.setIfInBounds_toArray, List.set_cons_zero, List.set_cons_succ]
            refine wpAnyH_done (by kernel_rfl) ?_ _
            go_wp2
            go_roundw
            case rel => exact ⟨k + 1, by omega, by go_num, _, _, by rw [HF.out]; exact hP5⟩
            case measure => simp [intOf]; omega
          · go_simp
            refine (sown7_any _ E.h E.a E.n D hED hEl).mono ?_
            rintro e w1 ⟨pa, px, rfl, ho, hb⟩
            have hP1 := hPD.keep hb
            refine hK.out _ _ (hSD.next hb) (fun hHeld => ?_)
            clear hK K hHeld
            try simp only [Act.put, List.setIfInBounds_toArray, List.set_cons_zero, List.set_cons_succ]
            refine wpAnyH_ready (rs := [1, 8]) (by kernel_rfl) (by simp) ?_
            refine (AllReadyH.cons rfl (fun K hK => ?_) (AllReadyH.cons rfl (fun K hK => ?_) AllReadyH.nil))
            · have q := hP1.o.c 0 rfl
              go_simp
              refine hK.out _ _ (hSD.next hb) (fun hHeld => ?_)
              clear hK K hHeld q
              try simp only [Act.put, List.setIfInBounds_toArray, List.set_cons_zero, List.set_cons_succ]
              refine wpAnyH_ready (rs := [8]) (by kernel_rfl) (by simp) ?_
              refine (AllReadyH.cons rfl (fun K hK => ?_) AllReadyH.nil)
              go_simp
              have bN := Bl.new w1 [.int .i64 E.a, .int .i64 E.n, .slice pa E.h.length px] GI w1.heap.size rfl
              have N1 : Below w1.heap.size w1 (w1.alloc (.cells #[.int .i64 E.a, .int .i64 E.n, .slice pa E.h.length px] GI)) := (Below.refl _ _).alloc (Nat.le_refl _) _
              refine hK.out _ _ ((hSD.next hb).next N1) (fun hHeld => ?_)
              clear hK K hHeld
              try simp only [Act.put, List.setIfInBounds_toArray, List.set_cons_zero, List.set_cons_succ]
              refine wpAnyH_ready (rs := [9]) (by kernel_rfl) (by simp) ?_
              refine (AllReadyH.cons rfl (fun K hK => ?_) AllReadyH.nil)
              refine step_apY rfl (.tmp 31) (.tmp 38) rfl lo w1.heap.size 1 v2 (leftL (L.take k) P).length xs [.int .i64 E.a, .int .i64 E.n, .slice pa E.h.length px] rfl rfl (hP1.keep N1).g.row bN rfl (by simp [Value.oneCell']) HL2.out (hP1.keep N1).s ?_
              intro v5 w5 hrow hg hor
              have hs1 := hb.size
              have hG := (hP1.keep N1).grown HLAY.out hg
              have hP5 := hPD.app (S := Rg D.heap.size w1.heap.size) HLAY.out (below_step hb N1) ⟨Rg D.heap.size w1.heap.size, fun b q => q, (ho.keep N1).mono (Nat.zero_le _), fun k q => World.ownsRow.lt ho k q, hEl⟩ (fun b q => ⟨q.1, by have := q.2; have := N1.size; omega⟩) hrow hg hor
              obtain ⟨y5, z5, rfl⟩ := row_sliceGG hrow
              refine hK.out _ _ ⟨hG.2.2.1, hG.2.2.2.1⟩ (fun hHeld => ?_)
              clear hK K hHeld
              try simp only [Act.put, List.setIfInBounds_toArray, List.set_cons_zero, List.set_cons_succ]
              refine wpAnyH_ready (rs := [10]) (by kernel_rfl) (by simp) ?_
              refine (AllReadyH.cons rfl (fun K hK => ?_) AllReadyH.nil)
              go_simp
              refine hK.out _ _ ⟨hG.2.2.1, hG.2.2.2.1⟩ (fun hHeld => ?_)
              clear hK K hHeld
              try simp only [Act.put, List.setIfInBounds_toArray, List.set_cons_zero, List.set_cons_succ]
              refine wpAnyH_ready (rs := [11]) (by kernel_rfl) (by simp) ?_
              refine (AllReadyH.cons rfl (fun K hK => ?_) AllReadyH.nil)
              have o0 := hG.1.c 0 rfl
              have of0 := hG.1.f 0 rfl
              go_simp
              refine hK.out _ _ ⟨hP5.a, hP5.b⟩ (fun hHeld => ?_)
              clear hK K hHeld o0 of0
              try simp only [Act.put, List.setIfInBounds_toArray, List.set_cons_zero, List.set_cons_succ]
              refine wpAnyH_done (by kernel_rfl) ?_ _
              go_wp2
              go_roundw
              case rel => exact ⟨k + 1, by omega, by go_num, _, _, by rw [HF.out]; exact hP5⟩
              case measure => simp [intOf]; omega
            · go_simp
              have bN := Bl.new w1 [.int .i64 E.a, .int .i64 E.n, .slice pa E.h.length px] GI w1.heap.size rfl
              have N1 : Below w1.heap.size w1 (w1.alloc (.cells #[.int .i64 E.a, .int .i64 E.n, .slice pa E.h.length px] GI)) := (Below.refl _ _).alloc (Nat.le_refl _) _
              refine hK.out _ _ ((hSD.next hb).next N1) (fun hHeld => ?_)
              clear hK K hHeld
              try simp only [Act.put, List.setIfInBounds_toArray, List.set_cons_zero, List.set_cons_succ]
              refine wpAnyH_ready (rs := [1]) (by kernel_rfl) (by simp) ?_
              refine (AllReadyH.cons rfl (fun K hK => ?_) AllReadyH.nil)
              have q := (hP1.keep N1).o.c 0 rfl
              go_simp
              refine hK.out _ _ ((hSD.next hb).next N1) (fun hHeld => ?_)
              clear hK K hHeld q
              try simp only [Act.put, List.setIfInBounds_toArray, List.set_cons_zero, List.set_cons_succ]
              refine wpAnyH_ready (rs := [9]) (by kernel_rfl) (by simp) ?_
              refine (AllReadyH.cons rfl (fun K hK => ?_) AllReadyH.nil)
              refine step_apY rfl (.tmp 31) (.tmp 38) rfl lo w1.heap.size 1 v2 (leftL (L.take k) P).length xs [.int .i64 E.a, .int .i64 E.n, .slice pa E.h.length px] rfl rfl (hP1.keep N1).g.row bN rfl (by simp [Value.oneCell']) HL2.out (hP1.keep N1).s ?_
              intro v5 w5 hrow hg hor
              have hs1 := hb.size
              have hG := (hP1.keep N1).grown HLAY.out hg
              have hP5 := hPD.app (S := Rg D.heap.size w1.heap.size) HLAY.out (below_step hb N1) ⟨Rg D.heap.size w1.heap.size, fun b q => q, (ho.keep N1).mono (Nat.zero_le _), fun k q => World.ownsRow.lt ho k q, hEl⟩ (fun b q => ⟨q.1, by have := q.2; have := N1.size; omega⟩) hrow hg hor
              obtain ⟨y5, z5, rfl⟩ := row_sliceGG hrow
              refine hK.out _ _ ⟨hG.2.2.1, hG.2.2.2.1⟩ (fun hHeld => ?_)
              clear hK K hHeld
              try simp only [Act.put, List.setIfInBounds_toArray, List.set_cons_zero, List.set_cons_succ]
              refine wpAnyH_ready (rs := [10]) (by kernel_rfl) (by simp) ?_
              refine (AllReadyH.cons rfl (fun K hK => ?_) AllReadyH.nil)
              go_simp
              refine hK.out _ _ ⟨hG.2.2.1, hG.2.2.2.1⟩ (fun hHeld => ?_)
              clear hK K hHeld
              try simp only [Act.put, List.setIfInBounds_toArray, List.set_cons_zero, List.set_cons_succ]
              refine wpAnyH_ready (rs := [11]) (by kernel_rfl) (by simp) ?_
              refine (AllReadyH.cons rfl (fun K hK => ?_) AllReadyH.nil)
              have o0 := hG.1.c 0 rfl
              have of0 := hG.1.f 0 rfl
              go_simp
              refine hK.out _ _ ⟨hP5.a, hP5.b⟩ (fun hHeld => ?_)
              clear hK K hHeld o0 of0
              try simp only [Act.put, List.setIfInBounds_toArray, List.set_cons_zero, List.set_cons_succ]
              refine wpAnyH_done (by kernel_rfl) ?_ _
              go_wp2
              go_roundw
              case rel => exact ⟨k + 1, by omega, by go_num, _, _, by rw [HF.out]; exact hP5⟩
              case measure => simp [intOf]; omega
        · have HF : Hid (leftL (L.take (k + 1)) P = leftL (L.take k) P) := Lib.hid (by rw [HST.out]; simp)
          go_wp2
          go_roundw
          case rel => exact ⟨k + 1, by omega, by go_num, _, _, by rw [HF.out]; exact hP⟩
          case measure => simp [intOf]; omega
      · have hkn : k = n := by omega
        subst hkn
        have HT : Hid (L.take k = L) := Lib.hid (List.take_of_length_le (by rw [HNL.out]; exact Nat.le_refl _))
        rw [HT.out] at hP
        have hF0 := rdG_of (hP.g.own (Nat.le_trans (List.length_filter_le _ _) (by rw [← HNL.out]; exact hn1))).rd
        have bO0 := hP.o
        have bR0 := hP.r
        have hB0 := hP.b
        have hsl : ∃ a c, v2 = .slice a (leftL L P).length c := hP.g.lenV
        obtain ⟨va, vc, rfl⟩ := hsl
        have HLL : Hid ((leftL L P).length ≤ 1048576) := Lib.hid (Nat.le_trans (List.length_filter_le _ _) (by rw [← HNL.out]; exact hn1))
        clear hP hcL hlt
        go_wp2
        clear r0
        go_loopw [9] (fun q wr => ∃ i : Nat, i ≤ m ∧ q = .int .i64 i ∧ (∀ j, j < i → okG M j) ∧ ∃ v2, RdG wr v2 ((M.take i).foldl putL (leftL L P)) ∧ Bl wr O [v2] ∧ Bl wr R [.slice none 0 0] ∧ Below w.heap.size w wr) (fun q _ => m - (intOf q).toNat)
        case atStart => exact ⟨0, Nat.zero_le _, rfl, fun j hj => by omega, _, hF0, bO0, bR0, hB0⟩
        case round =>
          clear hF0 bO0 bR0 hB0
          obtain ⟨k, hk, rfl, hok, v2, hFd, bO, bR, hB⟩ := hrel
          obtain ⟨va, vc, rfl⟩ := hFd.len
          by_cases hlt : k < m
          · have hltI : (k : Int) < (m : Int) := by omega
            obtain ⟨b, o, rfl, hE⟩ := hcM k hlt
            obtain ⟨x, hx⟩ : ∃ E, M.getD k gr0 = E := ⟨_, rfl⟩
            have hxl := HWM.out k hlt
            rw [hx] at hE hxl
            obtain ⟨ev, he, G0, G1, G2⟩ := hE
            obtain ⟨ea, ec, rfl⟩ := he.len
            have HRX := Lib.hid he
            have g0 := over_cell hB (World.block_lt_of_cell? _ _ G0) G0
            have g1 := over_cell hB (World.block_lt_of_cell? _ _ G1) G1
            have g2 := over_cell hB (World.block_lt_of_cell? _ _ G2) G2
            obtain ⟨d, hd⟩ : ∃ d, grpB x.a x.n x.h = d := ⟨_, rfl⟩
            have HD := Lib.hid hd
            have HX := Lib.hid hx
            have HOK0 := Lib.hid hok
            have HC2 := Lib.hid hcM
            have HGG := Lib.hid (And.intro G0 (And.intro G1 G2))
            have HF := Lib.hid (fold_succ (leftL L P) (by rw [← HN.out]; exact hlt) hx)
            have HFL : Hid (((M.take k).foldl putL (leftL L P)).length ≤ 1000000000) := Lib.hid (by
              have h1 := fold_le (M.take k) (leftL L P)
              rw [List.length_take] at h1
              have h2 := HLL.out
              omega)
            obtain ⟨F, hFe⟩ : ∃ F, F = (M.take k).foldl putL (leftL L P) := ⟨_, rfl⟩
            rw [← hFe] at hFd bO HF HFL
            try rw [← hFe]
            clear hx hok hcM hd he G0 G1 G2 hFe
            go_wp2_with fail
            refine (sgrp_t _ (HRX.out.keep hB) HD).mono ?_
            rintro e w2 ⟨rfl, hb⟩
            replace hFd := hFd.keep hb
            replace bO := bO.keep hb
            replace bR := bR.keep hb
            replace hB := below_step hB hb
            clear hb g0 g1 g2
            cases d
            · have HNO := Lib.hid (prog_no (L := L) (M := M) (P := P) (.inr (allG_no (by rw [← HN.out]; exact hlt) HX.out HD.out)))
              have r0 := bR.c 0 rfl
              have rf := bR.f 0 rfl
              go_wp2
              have e0 := (bR.set 0 (.slice none 0 0)).c 0 rfl
              exact bodyPost_ret (v := .agg #[.slice none 0 0]) (by simp [results, Try.results49, go_sem, e0]) rfl (proS_nil HNO.out (Below.grown hB (grown_set _ R 0 _) hB.size (fun k hk => by cases hk; omega)))
            · have HOK : Hid (∀ j, j < k + 1 → okG M j) := Lib.hid fun j hj => by
                by_cases q : j = k
                · subst q; unfold okG; rw [HX.out]; exact HD.out
                · exact HOK0.out j (by omega)
              obtain ⟨G0, G1, G2⟩ := HGG.out
              go_wp2_with fail
              obtain ⟨wd, rfl⟩ : ∃ W : World, W = w2 := ⟨_, rfl⟩
              obtain ⟨D, hD⟩ : ∃ D, D = wd.drew := ⟨_, rfl⟩
              have OD : Over wd D := by rw [hD]; exact over_drew _
              refine wp_region_held_drew (S := fun w' => Below w.heap.size w w') (by kernel_rfl) (below_step hB (over_drew _)) (fun hHeld => ?_)
              clear hHeld
              rw [← hD]
              clear hD
              have hSD := below_step hB OD
              have bOD := bO.keep OD
              have bRD := bR.keep OD
              have hFD := hFd.keep OD
              have hBD := hSD
              have hXD := HRX.out.keep hBD
              clear hFd OD bO bR hB
              refine wpAnyH_take (i := 1) (v := ?_) rfl (by kernel_rfl) (by kernel_rfl) (by kernel_rfl) (fun _ _ _ h => h) (Or.inl ⟨by rfl, ?_⟩) hSD ?_
              rotate_left
              · intro wq hSq
                (try dsimp only at hSq)

                go_simp
                try rfl
              change wpAnyH _ _ _ _ _ _ _ (Act.put _ (some 55) _) _
              simp only [Act.put, List.setIfInBounds_toArray, List.set_cons_succ, List.set_cons_zero]
              refine wpAnyH_take (i := 2) (v := ?_) rfl (by kernel_rfl) (by kernel_rfl) (by kernel_rfl) (fun _ _ _ h => h) (Or.inl ⟨by rfl, ?_⟩) hSD ?_
              rotate_left
              · intro wq hSq
                (try dsimp only at hSq)

                go_simp
                try rfl
              change wpAnyH _ _ _ _ _ _ _ (Act.put _ (some 56) _) _
              simp only [Act.put, List.setIfInBounds_toArray, List.set_cons_succ, List.set_cons_zero]
              refine wpAnyH_take (i := 3) (v := ?_) rfl (by kernel_rfl) (by kernel_rfl) (by kernel_rfl) (fun _ _ _ h => h) (Or.inl ⟨by rfl, ?_⟩) hSD ?_
              rotate_left
              · intro wq hSq
                (try dsimp only at hSq)

                go_simp
                try rfl
              change wpAnyH _ _ _ _ _ _ _ (Act.put _ (some 57) _) _
              simp only [Act.put, List.setIfInBounds_toArray, List.set_cons_succ, List.set_cons_zero]
              refine wpAnyH_take (i := 4) (v := ?_) rfl (by kernel_rfl) (by kernel_rfl) (by kernel_rfl) (fun _ _ _ h => h) (Or.inl ⟨by rfl, ?_⟩) hSD ?_
              rotate_left
              · intro wq hSq
                (try dsimp only at hSq)
                have q0 := over_cell hSq (World.block_lt_of_cell? _ _ G0) G0
                have q1 := over_cell hSq (World.block_lt_of_cell? _ _ G1) G1
                have q2 := over_cell hSq (World.block_lt_of_cell? _ _ G2) G2
                go_simp
                try rfl
              change wpAnyH _ _ _ _ _ _ _ (Act.put _ (some 58) _) _
              simp only [Act.put, List.setIfInBounds_toArray, List.set_cons_succ, List.set_cons_zero]
              refine wpAnyH_ready (rs := [0, 5]) (by kernel_rfl) (by simp) ?_
              refine (AllReadyH.cons rfl (fun K hK => ?_) (AllReadyH.cons rfl (fun K hK => ?_) AllReadyH.nil))
              · have q := bOD.c 0 rfl
                go_simp
                refine hK.out _ _ hSD (fun hHeld => ?_)
                clear hK K hHeld q
                try simp only [Act.put, List.setIfInBounds_toArray, List.set_cons_zero, List.set_cons_succ]
                refine wpAnyH_ready (rs := [5]) (by kernel_rfl) (by simp) ?_
                refine (AllReadyH.cons rfl (fun K hK => ?_) AllReadyH.nil)
                go_simp
                refine (sown7_any _ x.h x.a x.n D hXD hxl).mono ?_
                rintro e w1 ⟨pa, px, rfl, ho, hb⟩
                have bO1 := bOD.keep hb
                have bR1 := bRD.keep hb
                have hB1 := below_step hBD hb
                refine hK.out _ _ hB1 (fun hHeld => ?_)
                clear hK K hHeld
                try simp only [Act.put, List.setIfInBounds_toArray, List.set_cons_zero, List.set_cons_succ]
                refine wpAnyH_ready (rs := [6]) (by kernel_rfl) (by simp) ?_
                refine (AllReadyH.cons rfl (fun K hK => ?_) AllReadyH.nil)
                go_simp
                refine (sput7_any _ _ F x w1 (hFD.keep hb) ho.rd HFL.out).mono ?_
                rintro e w4 ⟨v4, rfl, hF4, hb4⟩
                have bO4 := bO1.keep hb4
                have bR4 := bR1.keep hb4
                have hB4 := below_step hB1 hb4
                obtain ⟨y4, z4, rfl⟩ := hF4.len
                refine hK.out _ _ hB4 (fun hHeld => ?_)
                clear hK K hHeld
                try simp only [Act.put, List.setIfInBounds_toArray, List.set_cons_zero, List.set_cons_succ]
                refine wpAnyH_ready (rs := [7]) (by kernel_rfl) (by simp) ?_
                refine (AllReadyH.cons rfl (fun K hK => ?_) AllReadyH.nil)
                have o0 := bO4.c 0 rfl
                have of0 := bO4.f 0 rfl
                go_simp
                have gs := grown_set w4 O 0 (.slice y4 (putL F x).length z4)
                have hB5 : Below w.heap.size w (w4.setCell ⟨O, 0, none⟩ (.slice y4 (putL F x).length z4)) := Below.grown hB4 gs hB4.size (fun k hk => by cases hk; have := HLAY.out.1; omega)
                have hF5 := hF4.slc (u := .slice y4 (putL F x).length z4) o0
                have bO5 := bO4.set 0 (.slice y4 (putL F x).length z4)
                have bR5 := bR4.far (o := 0) (u := .slice y4 (putL F x).length z4) HLAY.out.2.2.2.2.2.2.2
                refine hK.out _ _ hB5 (fun hHeld => ?_)
                clear hK K hHeld o0 of0
                try simp only [Act.put, List.setIfInBounds_toArray, List.set_cons_zero, List.set_cons_succ]
                refine wpAnyH_done (by kernel_rfl) ?_ _
                go_wp2
                go_roundw
                case rel => exact ⟨k + 1, by omega, by go_num, HOK.out, _, by rw [HF.out]; exact hF5, bO5, bR5, hB5⟩
                case measure => simp [intOf]; omega
              · go_simp
                refine (sown7_any _ x.h x.a x.n D hXD hxl).mono ?_
                rintro e w1 ⟨pa, px, rfl, ho, hb⟩
                have bO1 := bOD.keep hb
                have bR1 := bRD.keep hb
                have hB1 := below_step hBD hb
                refine hK.out _ _ hB1 (fun hHeld => ?_)
                clear hK K hHeld
                try simp only [Act.put, List.setIfInBounds_toArray, List.set_cons_zero, List.set_cons_succ]
                refine wpAnyH_ready (rs := [0]) (by kernel_rfl) (by simp) ?_
                refine (AllReadyH.cons rfl (fun K hK => ?_) AllReadyH.nil)
                have q := bO1.c 0 rfl
                go_simp
                refine hK.out _ _ hB1 (fun hHeld => ?_)
                clear hK K hHeld q
                try simp only [Act.put, List.setIfInBounds_toArray, List.set_cons_zero, List.set_cons_succ]
                refine wpAnyH_ready (rs := [6]) (by kernel_rfl) (by simp) ?_
                refine (AllReadyH.cons rfl (fun K hK => ?_) AllReadyH.nil)
                go_simp
                refine (sput7_any _ _ F x w1 (hFD.keep hb) ho.rd HFL.out).mono ?_
                rintro e w4 ⟨v4, rfl, hF4, hb4⟩
                have bO4 := bO1.keep hb4
                have bR4 := bR1.keep hb4
                have hB4 := below_step hB1 hb4
                obtain ⟨y4, z4, rfl⟩ := hF4.len
                refine hK.out _ _ hB4 (fun hHeld => ?_)
                clear hK K hHeld
                try simp only [Act.put, List.setIfInBounds_toArray, List.set_cons_zero, List.set_cons_succ]
                refine wpAnyH_ready (rs := [7]) (by kernel_rfl) (by simp) ?_
                refine (AllReadyH.cons rfl (fun K hK => ?_) AllReadyH.nil)
                have o0 := bO4.c 0 rfl
                have of0 := bO4.f 0 rfl
                go_simp
                have gs := grown_set w4 O 0 (.slice y4 (putL F x).length z4)
                have hB5 : Below w.heap.size w (w4.setCell ⟨O, 0, none⟩ (.slice y4 (putL F x).length z4)) := Below.grown hB4 gs hB4.size (fun k hk => by cases hk; have := HLAY.out.1; omega)
                have hF5 := hF4.slc (u := .slice y4 (putL F x).length z4) o0
                have bO5 := bO4.set 0 (.slice y4 (putL F x).length z4)
                have bR5 := bR4.far (o := 0) (u := .slice y4 (putL F x).length z4) HLAY.out.2.2.2.2.2.2.2
                refine hK.out _ _ hB5 (fun hHeld => ?_)
                clear hK K hHeld o0 of0
                try simp only [Act.put, List.setIfInBounds_toArray, List.set_cons_zero, List.set_cons_succ]
                refine wpAnyH_done (by kernel_rfl) ?_ _
                go_wp2
                go_roundw
                case rel => exact ⟨k + 1, by omega, by go_num, HOK.out, _, by rw [HF.out]; exact hF5, bO5, bR5, hB5⟩
                case measure => simp [intOf]; omega
          · have hkm : k = m := by omega
            subst hkm
            have HT2 : Hid (M.take k = M) := Lib.hid (List.take_of_length_le (by rw [HN.out]; exact Nat.le_refl _))
            rw [HT2.out] at hFd bO
            try rw [HT2.out]
            have HAL := Lib.hid (allG_yes HN.out hok)
            obtain ⟨F, hFe⟩ : ∃ F, F = M.foldl putL (leftL L P) := ⟨_, rfl⟩
            rw [← hFe] at hFd bO
            try rw [← hFe]
            have HFE := Lib.hid hFe
            clear hFe hok hcM hlt
            obtain ⟨nf, hnf⟩ : ∃ n, n = F.length := ⟨_, rfl⟩
            rw [← hnf] at bO
            try rw [← hnf]
            have HNF := Lib.hid hnf
            have o0 := bO.c 0 rfl
            by_cases h60 : nf ≤ 60
            · have h60I : ¬ (60 : Int) < (nf : Int) := by omega
              have HE : Hid (progL L M P = F) := Lib.hid (by rw [HFE.out]; exact prog_yes HG.out HAL.out (by rw [← HFE.out, ← HNF.out]; exact h60))
              have hF5 := hFd.slc (u := .slice va nf vc) (bR.c 0 rfl)
              have gs := grown_set wr R 0 (.slice va nf vc)
              have hB5 : Below w.heap.size w (wr.setCell ⟨R, 0, none⟩ (.slice va nf vc)) := Below.grown hB gs hB.size (fun k hk => by cases hk; omega)
              have e0 := (bR.set 0 (.slice va nf vc)).c 0 rfl
              rw [← hnf] at hF5
              have HFIN := Lib.hid (And.intro hF5 (And.intro hB5 e0))
              have r0 := bR.c 0 rfl
              have rf := bR.f 0 rfl
              clear hF5 gs hB5 e0 hFd hnf
              go_wp2
              refine bodyPost_ret (v := .agg #[.slice va nf vc]) (by simp [results, Try.results49, go_sem, HFIN.out.2.2]) rfl ⟨_, rfl, ?_, HFIN.out.2.1⟩
              rw [HE.out]
              exact HFIN.out.1
            · have h60I : (60 : Int) < (nf : Int) := by omega
              have HNO : Hid (progL L M P = []) := Lib.hid (prog_many (by rw [← HFE.out, ← HNF.out]; omega))
              clear hnf
              have r0 := bR.c 0 rfl
              have rf := bR.f 0 rfl
              go_wp2
              have e0 := (bR.set 0 (.slice none 0 0)).c 0 rfl
              exact bodyPost_ret (v := .agg #[.slice none 0 0]) (by simp [results, Try.results49, go_sem, e0]) rfl (proS_nil HNO.out (Below.grown hB (grown_set _ R 0 _) hB.size (fun k hk => by cases hk; omega)))
end Go.Proofs.Ytbcmoofpgffbhaa
