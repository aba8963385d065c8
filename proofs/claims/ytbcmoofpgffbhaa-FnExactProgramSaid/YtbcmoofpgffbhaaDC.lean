/-
  Delta of the program: the whole. Conditions: those in each contract.
-/
import Derived.Test.YtbcmoofpgffbhaaDB
namespace Go.Proofs.Ytbcmoofpgffbhaa
open Go.ChangeShapes Go.WideShapes Go.ChangeAt Go.RowKit Go.BigFrame Go.Joins
set_option linter.unusedVariables false
set_option maxRecDepth 100000
set_option linter.unusedSimpArgs false
set_option maxRecDepth 100000

set_option maxHeartbeats 1000000 in
theorem iprx_any (v : Value) (L : List Grp) (w : World) (h : RdG w v L) (hn1 : L.length ≤ 1048576) :
    Calls Try.prog 92 #[.agg #[v]] w fun e w' => ∃ u, e = .returned u ∧ OwnP w' w.heap.size u (L.map pxG) ∧ Below w.heap.size w w' := by
  obtain ⟨a, c, rfl, hc⟩ := h.el
  obtain ⟨n, hn⟩ : ∃ n, n = L.length := ⟨_, rfl⟩
  rw [← hn] at hc hn1 ⊢
  have HN := Lib.hid hn
  clear h hn
  obtain ⟨bR, B0, z⟩ := one w [.slice a n c] 57
  have r0 := bR.c 0 rfl
  go_enter Try.func92, Try.ntmps92
  go_wp2
  obtain ⟨W1, hW⟩ : ∃ W1, W1 = w.alloc (.cells #[.slice a n c] 57) := ⟨_, rfl⟩
  rw [← hW] at B0 z ⊢
  have hwW : w.heap.size ≤ W1.heap.size := B0.size
  clear hW z r0 bR
  go_loopw [3, 9] (fun lv q wr => ∃ k : Nat, k ≤ n ∧ q = .int .i64 k ∧ OwnP wr W1.heap.size lv ((L.take k).map pxG) ∧ Below W1.heap.size W1 wr) (fun _ q _ => n - (intOf q).toNat)
  case atStart => exact ⟨0, Nat.zero_le _, rfl, World.ownsRow_nil _ _ _ _, Below.refl _ _⟩
  case round =>
    obtain ⟨k, hk, rfl, hok, hB⟩ := hrel
    by_cases hlt : k < n
    · have hltI : (k : Int) < (n : Int) := by omega
      have BB := below_step B0 hB
      obtain ⟨b, o, rfl, hE⟩ := hc k hlt
      obtain ⟨x, hx9⟩ : ∃ x, L.getD k gr0 = x := ⟨_, rfl⟩
      rw [hx9] at hE
      obtain ⟨xv, hx, g0, g1, g2⟩ := hE.keep BB
      obtain ⟨xa, xx, rfl⟩ := hx.len
      have HF : Hid ((L.take (k + 1)).map pxG = (L.take k).map pxG ++ [(x.a, x.n)]) := Lib.hid (by
        have hk' : k < L.length := by rw [← HN.out]; exact hlt
        have hg : L[k] = x := by simpa [List.getD, hk'] using hx9
        rw [List.take_add_one, List.getElem?_eq_getElem hk', hg]
        simp [pxG])
      have HLN : Hid (((L.take k).map pxG).length + 1 ≤ 4294967296) := Lib.hid (by rw [List.length_map, List.length_take]; omega)
      have HCC := Lib.hid hc
      clear hx9 hc hx hE
      have bP := Bl.new wr [.int .i64 x.a, .int .i64 x.n, .slice xa x.h.length xx] GI wr.heap.size rfl
      have A1 : Below wr.heap.size wr (wr.alloc (.cells #[.int .i64 x.a, .int .i64 x.n, .slice xa x.h.length xx] GI)) := (Below.refl _ _).alloc (Nat.le_refl _) _
      have p0 := bP.c 0 rfl
      have p1 := bP.c 1 rfl
      go_wp2_with (at_builtin; refine Hid.out ?_)
      refine Lib.hid ?_
      clear p0 p1 g0 g1 g2
      obtain ⟨V, hV⟩ : ∃ V, V = wr.alloc (.cells #[.int .i64 x.a, .int .i64 x.n, .slice xa x.h.length xx] GI) := ⟨_, rfl⟩
      rw [← hV] at bP A1 ⊢
      have hVe : wr.heap.size + 1 = V.heap.size := by rw [hV]; simp
      try rw [hVe]
      obtain ⟨bQ, N2, z⟩ := one V [.int .i64 x.a, .int .i64 x.n] PT
      have hB2 := below_step hB A1
      refine wp_appLd rfl _ _ rfl W1.heap.size V.heap.size 1 _ _ (x.a, x.n) rfl rfl ((hok.keep A1).keep N2) (bQ.c 0 rfl) (bQ.c 1 rfl) HLN.out (Nat.le_trans hB2.size N2.size) ?_
      intro v3 w3 o3 g3
      have O3 : Below W1.heap.size W1 w3 := below_growD (below_step hB2 N2) ((hok.keep A1).keep N2) (Nat.le_refl _) g3
      clear g3 bQ N2 z hV bP A1 hVe hB2
      go_wp2
      go_roundw
      case rel => exact ⟨k + 1, by omega, by go_num, by rw [HF.out]; exact o3, O3⟩
      case measure => simp [intOf]; omega
    · have hkn : k = n := by omega
      subst hkn
      have HT : Hid (L.take k = L) := Lib.hid (List.take_of_length_le (by rw [HN.out]; exact Nat.le_refl _))
      clear hc
      go_wp2
      go_ret
      exact ⟨_, rfl, by rw [HT.out] at hok; exact hok.mono hwW, below_step B0 hB⟩
set_option maxHeartbeats 1000000 in
theorem icgs_any (v : Value) (L : List Grp) (w : World) (h : RdG w v L) (hn1 : L.length ≤ 1048576) (hln : ∀ j, j < L.length → (L.getD j gr0).h.length ≤ 1048576) :
    Calls Try.prog 95 #[v] w fun e w' => ∃ u xs, e = .returned u ∧ GrYS w' w.heap.size u L xs ∧ Below w.heap.size w w' := by
  obtain ⟨a, c, rfl, hc⟩ := h.el
  obtain ⟨n, hn⟩ : ∃ n, n = L.length := ⟨_, rfl⟩
  rw [← hn] at hc hn1 hln ⊢
  have HN := Lib.hid hn
  have HLL := Lib.hid hln
  clear h hn hln
  go_enter Try.func95, Try.ntmps95
  go_wp2
  go_loopw [3, 8] (fun lv q wr => ∃ k : Nat, k ≤ n ∧ q = .int .i64 k ∧ (∃ xs, GrYS wr w.heap.size lv (L.take k) xs) ∧ Below w.heap.size w wr) (fun _ q _ => n - (intOf q).toNat)
  case atStart => exact ⟨0, Nat.zero_le _, rfl, ⟨[], GrYS.nil _ _⟩, Below.refl _ _⟩
  case round =>
    obtain ⟨k, hk, rfl, ⟨xs, hok⟩, hB⟩ := hrel
    by_cases hlt : k < n
    · have hltI : (k : Int) < (n : Int) := by omega
      obtain ⟨b, o, rfl, hE⟩ := hc k hlt
      obtain ⟨x, hx9⟩ : ∃ x, L.getD k gr0 = x := ⟨_, rfl⟩
      have hxl := HLL.out k hlt
      rw [hx9] at hE hxl
      obtain ⟨xv, hx, g0, g1, g2⟩ := hE.keep hB
      obtain ⟨xa, xx, rfl⟩ := hx.len
      have HF : Hid (L.take (k + 1) = L.take k ++ [x]) := Lib.hid (by
        have hk' : k < L.length := by rw [← HN.out]; exact hlt
        have hg : L[k] = x := by simpa [List.getD, hk'] using hx9
        rw [List.take_add_one, List.getElem?_eq_getElem hk', hg]
        rfl)
      obtain ⟨m, hm⟩ : ∃ m, m = (L.take k).length := ⟨_, rfl⟩
      have HLN : Hid (m + 1 ≤ 4294967296) := Lib.hid (by rw [hm, List.length_take]; omega)
      have HM := Lib.hid hm
      have HCC := Lib.hid hc
      have HXL := Lib.hid hxl
      clear hx9 hc hE hm hxl
      have bP := Bl.new wr [.int .i64 x.a, .int .i64 x.n, .slice xa x.h.length xx] GI wr.heap.size rfl
      have A1 : Below wr.heap.size wr (wr.alloc (.cells #[.int .i64 x.a, .int .i64 x.n, .slice xa x.h.length xx] GI)) := (Below.refl _ _).alloc (Nat.le_refl _) _
      have p0 := bP.c 0 rfl
      have p1 := bP.c 1 rfl
      have p2 := bP.c 2 rfl
      go_wp2_with fail
      clear p0 p1 p2 g0 g1 g2
      obtain ⟨V, hV⟩ : ∃ V, V = wr.alloc (.cells #[.int .i64 x.a, .int .i64 x.n, .slice xa x.h.length xx] GI) := ⟨_, rfl⟩
      rw [← hV] at A1 ⊢
      clear bP hV
      refine (icg_any _ x.h x.a x.n V (hx.keep A1) HXL.out).mono ?_
      rintro e w1 ⟨pa, px, rfl, ho, hb⟩
      obtain ⟨bQ, N2, z⟩ := one w1 [.int .i64 x.a, .int .i64 x.n, .slice pa x.h.length px] GI
      have hs1 := hb.size
      go_wp2_with (at_builtin; refine Hid.out ?_)
      refine Lib.hid ?_
      obtain ⟨W2, hW2⟩ : ∃ W2, W2 = w1.alloc (.cells #[.int .i64 x.a, .int .i64 x.n, .slice pa x.h.length px] GI) := ⟨_, rfl⟩
      rw [← hW2] at bQ N2 z ⊢
      have hokV := hok.keep A1
      have hok2 := (hokV.keep hb).keep N2
      have row2 := hok2.row
      rw [← HM.out] at row2
      have hB2 := below_step (below_step hB A1) (below_step hb N2)
      refine wp_apYL rfl _ _ rfl w.heap.size w1.heap.size 1 _ m xs [.int .i64 x.a, .int .i64 x.n, .slice pa x.h.length px] rfl rfl row2 bQ rfl (by simp [Value.oneCell']) HLN.out hB2.size ?_
      intro v3 w3 o3 g3 r3
      rw [HM.out] at o3
      have hG3 : GrYS w3 w.heap.size v3 (L.take k ++ [x]) (xs ++ [.int .i64 x.a, .int .i64 x.n, .slice pa x.h.length px]) :=
        GrYS.step (S := Rg V.heap.size w1.heap.size) hokV (by have := (below_step hB A1).size; omega) (below_step hb N2) ⟨Rg V.heap.size w1.heap.size, fun b q => q, (ho.keep N2).mono (Nat.zero_le _), fun k q => World.ownsRow.lt ho k q, HXL.out⟩ (fun b q => ⟨q.1, by have := q.2; omega⟩) o3 g3 r3
      have O3 : Below w.heap.size w w3 := below_growD hB2 hok2.row (Nat.le_refl _) g3
      rw [← HF.out] at hG3
      have HG3 := Lib.hid hG3
      clear g3 r3 o3 hG3 bQ N2 z hW2 hok hokV hok2 row2 ho hb hB2 hs1
      go_wp2
      go_roundw
      case rel => exact ⟨k + 1, by omega, by go_num, ⟨_, HG3.out⟩, O3⟩
      case measure => simp [intOf]; omega
    · have hkn : k = n := by omega
      subst hkn
      have HT : Hid (L.take k = L) := Lib.hid (List.take_of_length_le (by rw [HN.out]; exact Nat.le_refl _))
      clear hc
      rw [HT.out] at hok
      have HK := Lib.hid hok
      clear hok
      go_wp2
      go_ret
      exact ⟨_, xs, rfl, HK.out, hB⟩
/-- what Delta answers, both lists in memory of their own -/
def DelR (w : World) (C : List Grp) (G : List (Int × Int)) (e : Ending) (w' : World) : Prop :=
  ∃ (r s : Value) (S T : Nat → Prop), e = .returned (.tuple #[r, s]) ∧ OwYS w' S r C ∧ OwPr w' T s G ∧ (∀ b, S b → w.heap.size ≤ b ∧ b < w'.heap.size) ∧ (∀ b, T b → w.heap.size ≤ b ∧ b < w'.heap.size) ∧ Dj S T ∧ Below w.heap.size w w'
theorem delR_nil {w w' : World} {C : List Grp} {G : List (Int × Int)} (hC : C = []) (hG : G = []) (hb : Below w.heap.size w w') : DelR w C G (.returned (.tuple #[.slice none 0 0, .slice none 0 0])) w' := by
  subst hC hG
  exact ⟨_, _, fun _ => False, fun _ => False, rfl, ⟨by simp, .inl ⟨rfl, rfl⟩⟩, ⟨World.ownsRow_nil _ _ _ _, (fun k h => by cases h), by simp⟩, fun b h => h.elim, fun b h => h.elim, fun b h => h.elim, hb⟩
theorem dCame_no {L M : List Grp} (h : fibB L = false ∨ fibB M = false) : dCame L M = [] ∧ dGone L M = [] := by
  unfold dCame dGone
  rcases h with h | h <;> simp [h]
theorem dCame_yes {L M : List Grp} (h : fibB L = true) (k : fibB M = true) : dCame L M = cameL L M ∧ dGone L M = goneL L M := by
  unfold dCame dGone
  simp [h, k]
theorem getD_of_mem {L : List Grp} {n : Nat} (h : ∀ x ∈ L, x.h.length ≤ n) : ∀ j, j < L.length → (L.getD j gr0).h.length ≤ n := fun j hj => h _ (getD_memG hj)
set_option maxHeartbeats 4000000 in
theorem idel_any (v u : Value) (L M : List Grp) (w : World) (h : RdG w v L) (hu : RdG w u M) (hl1 : L.length + wtG L ≤ 1048576) (hl2 : M.length + wtG M ≤ 1048576) :
    Calls Try.prog 40 #[.agg #[v], .agg #[u]] w (DelR w (dCame L M) (dGone L M)) := by
  obtain ⟨a, c, rfl⟩ := h.len
  obtain ⟨a', c', rfl⟩ := hu.len
  have hlL : L.length ≤ 1048576 := by omega
  have hlM : M.length ≤ 1048576 := by omega
  have hwM : ∀ x ∈ M, x.h.length ≤ 1048576 := fun x hx => by
    obtain ⟨i, hi, e⟩ := mem_getD hx
    have := wtG_at hi
    rw [e] at this
    omega
  have HWM := Lib.hid hwM
  clear hl1 hl2 hwM
  obtain ⟨bA, bB, B0, z⟩ := two w [.slice a L.length c] [.slice a' M.length c'] 57 57
  have a0 := bA.c 0 rfl
  have b0 := bB.c 0 rfl
  clear z
  obtain ⟨g, hg⟩ : ∃ g, fibB L = g := ⟨_, rfl⟩
  obtain ⟨f, hf⟩ : ∃ f, fibB M = f := ⟨_, rfl⟩
  have HG := Lib.hid hg
  have HF := Lib.hid hf
  clear hg hf
  go_enter Try.func40, Try.ntmps40
  go_wp2_with fail
  refine (ifib_t _ (h.keep B0) HG).mono ?_
  rintro e w1 ⟨rfl, hb⟩
  clear a0 b0
  replace bA := bA.keep hb
  replace bB := bB.keep hb
  replace B0 := below_step B0 hb
  clear hb
  have b0 := bB.c 0 rfl
  cases g
  · have HNO := Lib.hid (dCame_no (M := M) (.inl HG.out))
    go_wp2
    exact bodyPost_ret (v := .tuple #[.slice none 0 0, .slice none 0 0]) (by simp [results, Try.results40, go_sem]) rfl (delR_nil HNO.out.1 HNO.out.2 B0)
  · go_wp2_with fail
    refine (ifib_t _ (hu.keep B0) HF).mono ?_
    rintro e w2 ⟨rfl, hb⟩
    replace bA := bA.keep hb
    replace bB := bB.keep hb
    replace B0 := below_step B0 hb
    clear hb b0
    cases f
    · have HNO := Lib.hid (dCame_no (L := L) (.inr HF.out))
      go_wp2
      exact bodyPost_ret (v := .tuple #[.slice none 0 0, .slice none 0 0]) (by simp [results, Try.results40, go_sem]) rfl (delR_nil HNO.out.1 HNO.out.2 B0)
    · have HYES := Lib.hid (dCame_yes HG.out HF.out)
      have a0 := bA.c 0 rfl
      have b0 := bB.c 0 rfl
      go_wp2_with fail
      clear a0 b0
      refine (iwoDG_any _ _ L M w2 (hu.keep B0) (h.keep B0) hlM).mono ?_
      rintro e w3 ⟨r, rfl, hr, hb⟩
      replace bA := bA.keep hb
      replace bB := bB.keep hb
      replace B0 := below_step B0 hb
      clear hb
      obtain ⟨V4, rfl⟩ : ∃ V : World, V = w3 := ⟨_, rfl⟩
      go_wp2_with fail
      refine wp_region_held_drew (S := fun w' => Over V4 w') (by kernel_rfl) (over_drew V4) (fun hHeld => ?_)
      obtain ⟨u0, e0'⟩ : ∃ u, u = V4.drew := ⟨_, rfl⟩
      have O : Over V4 u0 := by rw [e0']; exact over_drew V4
      rw [← e0']
      clear e0' hHeld
      refine wpAnyH_take (i := 0) (v := ?_) rfl (by kernel_rfl) (by kernel_rfl) (by kernel_rfl) (fun _ _ _ h => h) (Or.inl ⟨by rfl, ?_⟩) O ?_
      rotate_left
      · intro wq hSq
        (try dsimp only at hSq)
        have q0 := bA.o hSq 0 rfl
        go_simp
        try rfl
      change wpAnyH _ _ _ _ _ _ _ (Act.put _ (some 21) _) _
      simp only [Act.put, List.setIfInBounds_toArray, List.set_cons_succ, List.set_cons_zero]
      refine wpAnyH_take (i := 2) (v := ?_) rfl (by kernel_rfl) (by kernel_rfl) (by kernel_rfl) (fun _ _ _ h => h) (Or.inl ⟨by rfl, ?_⟩) O ?_
      rotate_left
      · intro wq hSq
        (try dsimp only at hSq)
        have q0 := bB.o hSq 0 rfl
        go_simp
        try rfl
      change wpAnyH _ _ _ _ _ _ _ (Act.put _ (some 23) _) _
      simp only [Act.put, List.setIfInBounds_toArray, List.set_cons_succ, List.set_cons_zero]
      refine wpAnyH_ready (rs := [1]) (by kernel_rfl) (by simp) ?_
      refine (AllReadyH.cons rfl (fun K hK => ?_) AllReadyH.nil)
      go_simp
      refine (iprx_any _ L _ (h.keep (below_step B0 O)) hlL).mono ?_
      rintro e u1 ⟨p1, rfl, oP1, hb⟩
      have O := over_step O hb
      have lP1 := World.ownsRow.lt oP1
      clear hb
      refine hK.out _ _ O (fun _ => ?_)
      clear hK K
      try simp only [Act.put, List.setIfInBounds_toArray, List.set_cons_zero, List.set_cons_succ]
      refine wpAnyH_ready (rs := [3]) (by kernel_rfl) (by simp) ?_
      refine (AllReadyH.cons rfl (fun K hK => ?_) AllReadyH.nil)
      go_simp
      refine (iprx_any _ M _ (hu.keep (below_step B0 O)) hlM).mono ?_
      rintro e u2 ⟨p2, rfl, oP2, hb⟩
      replace oP1 := oP1.keep hb
      have O := over_step O hb
      have hV2 := O.size
      clear hb
      refine hK.out _ _ O (fun _ => ?_)
      clear hK K
      try simp only [Act.put, List.setIfInBounds_toArray, List.set_cons_zero, List.set_cons_succ]
      refine wpAnyH_ready (rs := [4]) (by kernel_rfl) (by simp) ?_
      refine (AllReadyH.cons rfl (fun K hK => ?_) AllReadyH.nil)
      go_simp
      refine (iwoDP_any p1 p2 _ _ _ oP1.rd oP2.rd (by simpa using hlL) (fun p => !((M.map pxG).any fun q => sameQ p q)) (fun x => rfl)).mono ?_
      rintro e u3 ⟨gr, rfl, oG, hb⟩
      have hu3 := hb.size
      replace oP1 := oP1.keep hb
      replace oP2 := oP2.keep hb
      have O := over_step O hb
      clear hb
      refine hK.out _ _ O (fun _ => ?_)
      clear hK K
      try simp only [Act.put, List.setIfInBounds_toArray, List.set_cons_zero, List.set_cons_succ]
      refine wpAnyH_ready (rs := [5]) (by kernel_rfl) (by simp) ?_
      refine (AllReadyH.cons rfl (fun K hK => ?_) AllReadyH.nil)
      go_simp
      refine hK.out _ _ O (fun _ => ?_)
      clear hK K
      try simp only [Act.put, List.setIfInBounds_toArray, List.set_cons_zero, List.set_cons_succ]
      refine wpAnyH_done (by kernel_rfl) ?_ _
      have B4 := below_step B0 O
      have hr4 := hr.keep O
      obtain ⟨C, hC⟩ : ∃ C, C = cameL L M := ⟨_, rfl⟩
      have hCl : C.length ≤ 1048576 := by rw [hC]; exact Nat.le_trans (List.length_filter_le _ _) hlM
      have hCw : ∀ x ∈ C, x.h.length ≤ 1048576 := fun x hx => HWM.out x (by rw [hC] at hx; exact (List.mem_filter.1 hx).1)
      rw [← hC] at hr4
      have HC := Lib.hid (And.intro hC (getD_of_mem hCw))
      have lG := World.ownsRow.lt oG
      have HLG := Lib.hid lG
      have hVV := O.size
      clear hC hCw hr oP1 oP2 lP1 lG
      go_wp2_with fail
      refine (icgs_any r C u3 hr4 hCl HC.out.2).mono ?_
      rintro e w5 ⟨q, xs, rfl, hG5, hb⟩
      have oG5 := oG.keep hb
      have B5 := below_step B4 hb
      have hs5 := hb.size
      have own5 := hG5.own hCl
      have hgl : (goneL L M).length ≤ 1048576 := by unfold goneL; exact Nat.le_trans (List.length_filter_le _ _) (by simpa using hlL)
      have HQ := Lib.hid (And.intro own5 (And.intro oG5 hgl))
      have HS := Lib.hid (And.intro hs5 B4.size)
      clear hb hG5 oG5 own5 oG hr4 hgl hs5
      go_wp2
      refine bodyPost_ret (v := .tuple #[q, gr]) (by simp [results, Try.results40, go_sem]) rfl ?_
      refine ⟨q, gr, Rg u3.heap.size w5.heap.size, Rg w.heap.size u3.heap.size, rfl, ?_, ⟨?_, ?_, ?_⟩, fun b k => ⟨by have := k.1; have := HS.out.2; omega, k.2⟩, fun b k => ⟨k.1, by have := k.2; have := HS.out.1; omega⟩, fun b k l => by have := k.1; have := l.2; omega, B5⟩
      · rw [HYES.out.1, ← HC.out.1]; exact HQ.out.1
      · rw [HYES.out.2]; exact HQ.out.2.1.mono (Nat.zero_le _)
      · exact fun k hk => ⟨by have := (HLG.out k hk).1; have := B0.size; have := hV2; omega, (HLG.out k hk).2⟩
      · rw [HYES.out.2]; exact HQ.out.2.2
end Go.Proofs.Ytbcmoofpgffbhaa
