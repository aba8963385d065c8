/-
  What is drawn for the laws on attributes. Conditions: those in each contract.
-/
import Derived.Test.YtcmbajphholliabDoorAT1
namespace Go.Proofs.YtcmbajphholliabDoor
open Go.ChangeShapes Go.WideShapes Go.ChangeAt Go.RowKit Go.BigFrame Go.Joins
set_option linter.unusedVariables false
set_option maxRecDepth 100000
set_option linter.unusedSimpArgs false
set_option maxRecDepth 100000

/-- an attribute has been drawn -/
def CurA (V : World) (g : Nat) (v : Value) (l : List Int) (w : World) (m : Nat) (P : List Int → Prop) (e : Ending) (w' : World) : Prop :=
  ∃ pv pr cv bw p c, e = .returned (.agg #[pv, .int .i64 pr, cv, .int .i64 bw]) ∧ Cur V w' g v l ∧ w.grownBy w' (some g) ∧ OwnI w' w.heap.size pv p ∧ OwnI w' w.heap.size cv c ∧ Apart pv cv ∧ Sm p ∧ Sm c ∧ p.length ≤ m ∧ c.length ≤ m ∧ I64 pr ∧ I64 bw ∧ P c
set_option maxHeartbeats 8000000 in
theorem l2draw_any (V : World) (g : Nat) (v : Value) (l : List Int) (w : World) (h : Cur V w g v l) :
    Calls Tryd.prog 66 #[.pointer (some ⟨g, 0, none⟩)] w (CurA V g v l w 4 (fun c => c.Pairwise (· < ·))) := by
  have hlt := h.lt
  have hRg : w.heap.size ≠ g := by omega
  have HV := Lib.hid h.over.size
  have bR := Bx.new w (.slice none 0 0) (.int .i64 0) (.slice none 0 0) (.int .i64 0) 36 w.heap.size rfl
  have cu0 := h.alloc (.cells #[.slice none 0 0, .int .i64 0, .slice none 0 0, .int .i64 0] 36)
  have g1 := grown_alloc (World.grownBy.refl w (some g)) (.cells #[.slice none 0 0, .int .i64 0, .slice none 0 0, .int .i64 0] 36)
  go_enter Tryd.func66, Tryd.ntmps66
  go_wp2_with fail
  have hcl := cu0.lt
  refine (pick_any V g v l (fun i => [100, 100, 100, 0, 200].getD i 0) 5 (w.heap.size + 1) _ (cu0.alloc _) (by decide) (by decide) (by simp <;> omega) (by simp) (lit_cells _ [100, 100, 100, 0, 200] _ _ (by simp))).mono ?_
  rintro e w1 ⟨pr, rfl, ⟨i, hi, hx⟩, cu1, hg1⟩
  have hpr : I64 pr := by
    have q : ∀ i, i < 5 → (0 : Int) ≤ [100, 100, 100, 0, 200].getD i 0 ∧ [100, 100, 100, 0, 200].getD i (0 : Int) ≤ 200 := by decide
    have := q i hi
    rw [hx]
    exact ⟨by omega, by omega⟩
  replace g1 := grown_trans (grown_alloc g1 _) hg1
  replace bR := (bR.alloc _).grown hg1 (by simpa using hRg)
  clear hg1 cu0 hcl hi hx i
  go_wp2_with fail
  have hcl := cu1.lt
  refine (pick_any V g v l (fun i => [0, 0, 10, 40, 1000].getD i 0) 5 w1.heap.size _ (cu1.alloc _) (by decide) (by decide) (by simp <;> omega) (by simp) (lit_cells _ [0, 0, 10, 40, 1000] _ _ (by simp))).mono ?_
  rintro e w2 ⟨bw, rfl, ⟨i, hi, hx⟩, cu2, hg2⟩
  have hbw : I64 bw := by
    have q : ∀ i, i < 5 → (0 : Int) ≤ [0, 0, 10, 40, 1000].getD i 0 ∧ [0, 0, 10, 40, 1000].getD i (0 : Int) ≤ 1000 := by decide
    have := q i hi
    rw [hx]
    exact ⟨by omega, by omega⟩
  replace g1 := grown_trans (grown_alloc g1 _) hg2
  replace bR := (bR.alloc _).grown hg2 (by simpa using hRg)
  clear hg2 cu1 hcl hi hx i
  go_wp2_with fail
  obtain ⟨A, eA⟩ : ∃ A, A = w2.heap.size := ⟨_, rfl⟩
  try rw [← eA]
  have hcl := cu2.lt
  have hRl := bR.lt
  have bA := Bx.new w2 (.slice none 0 0) (.int .i64 pr) (.slice none 0 0) (.int .i64 bw) 36 A eA
  have hD : DA V w (w2.alloc (.cells #[.slice none 0 0, .int .i64 pr, .slice none 0 0, .int .i64 bw] 36)) g v l w.heap.size A (A + 1) (.slice none 0 0) pr (.slice none 0 0) bw [] [] :=
    ⟨cu2.alloc _, grown_alloc g1 _, bR.alloc _, bA, World.ownsRow_nil _ _ _ _, World.ownsRow_nil _ _ _ _, apart_nil _, .inl rfl, .inl rfl, by omega, Nat.le_refl _, by omega, by omega, hRg, by omega, by omega, by simp; omega, by have := HV.out; omega, Sm.nil, Sm.nil⟩
  clear cu2 g1 bR bA hcl hRl
  obtain ⟨w3, eW⟩ : ∃ u, u = w2.alloc (.cells #[.slice none 0 0, .int .i64 pr, .slice none 0 0, .int .i64 bw] 36) := ⟨_, rfl⟩
  rw [← eW] at hD ⊢
  clear eW eA
  refine (below_any V g v l 5 _ hD.cu (by decide) (by decide)).mono ?_
  rintro e w4 ⟨n, rfl, ⟨hn0, hn1⟩, cu, hg⟩
  replace hD := hD.keepG cu hg
  clear cu hg
  obtain ⟨n, rfl⟩ := Int.eq_ofNat_of_zero_le hn0
  go_wp2_with fail
  go_loopw [5] (fun i wr => ∃ (j : Nat) (pv : Value) (p : List Int), i = .int .i64 j ∧ j ≤ n ∧ p.length ≤ j ∧ DA V w wr g v l w.heap.size A (A + 1) pv pr (.slice none 0 0) bw p []) (fun i _ => n - (intOf i).toNat)
  case atStart => exact ⟨0, .slice none 0 0, [], rfl, Nat.zero_le _, by simp, hD⟩
  case round =>
    clear hD
    obtain ⟨j, pv, p, rfl, hj, hpj, hD⟩ := hrel
    by_cases hlt2 : j < n
    · have hltI : (j : Int) < (n : Int) := by omega
      have hLN := Lib.hid (show p.length + 1 ≤ 20 by omega)
      go_wp2_with fail
      refine wp_region_held_drew (S := fun _ => True) (by kernel_rfl) trivial (fun hHeld => ?_)
      replace hD := hD.drew
      obtain ⟨u0, e0⟩ : ∃ u, u = wr.drew := ⟨_, rfl⟩
      rw [← e0] at hD ⊢
      clear e0 hHeld
      refine wpAnyH_take (i := 0) (v := ?_) rfl (by kernel_rfl) (by kernel_rfl) (by kernel_rfl) (fun _ _ _ h => h) (Or.inl ⟨by rfl, ?_⟩) trivial ?_
      rotate_left
      · intro wq hSq
        (try dsimp only at hSq)

        go_simp
        try rfl
      change wpAnyH _ _ _ _ _ _ _ (Act.put _ (some 21) _) _
      simp only [Act.put, List.setIfInBounds_toArray, List.set_cons_succ, List.set_cons_zero]
      refine wpAnyH_take (i := 2) (v := ?_) rfl (by kernel_rfl) (by kernel_rfl) (by kernel_rfl) (fun _ _ _ h => h) (Or.inl ⟨by rfl, ?_⟩) trivial ?_
      rotate_left
      · intro wq hSq
        (try dsimp only at hSq)

        go_simp
        try rfl
      change wpAnyH _ _ _ _ _ _ _ (Act.put _ (some 23) _) _
      simp only [Act.put, List.setIfInBounds_toArray, List.set_cons_succ, List.set_cons_zero]
      refine wpAnyH_ready (rs := [1, 3]) (by kernel_rfl) (by simp) ?_
      refine (AllReadyH.cons rfl (fun K hK => ?_) (AllReadyH.cons rfl (fun K hK => ?_) AllReadyH.nil))
      · have q0 := hD.bx.c0
        go_simp
        clear q0
        refine hK.out _ _ trivial (fun _ => ?_)
        clear hK K
        try simp only [Act.put, List.setIfInBounds_toArray, List.set_cons_zero, List.set_cons_succ]
        refine wpAnyH_ready (rs := [3]) (by kernel_rfl) (by simp) ?_
        refine (AllReadyH.cons rfl (fun K hK => ?_) AllReadyH.nil)
        go_simp
        have hcg := hD.cu.lt
        replace hD := hD.alloc (.cells #[.int .i64 1, .int .i64 2, .int .i64 3, .int .i64 64512, .int .i64 65535] IT)
        have hL := lit_cells u0 [1, 2, 3, 64512, 65535] IT u0.heap.size rfl
        have hbl : u0.heap.size < (u0.alloc (.cells #[.int .i64 1, .int .i64 2, .int .i64 3, .int .i64 64512, .int .i64 65535] IT)).heap.size := by simp
        refine hK.out _ _ trivial (fun _ => ?_)
        clear hK K
        try simp only [Act.put, List.setIfInBounds_toArray, List.set_cons_zero, List.set_cons_succ]
        obtain ⟨B, eB⟩ : ∃ B, B = u0.heap.size := ⟨_, rfl⟩
        obtain ⟨u0b, eW⟩ : ∃ u, u = u0.alloc (.cells #[.int .i64 1, .int .i64 2, .int .i64 3, .int .i64 64512, .int .i64 65535] IT) := ⟨_, rfl⟩
        have hbg : B ≠ g := by omega
        rw [← eB] at hL hbl
        have hL2 : ∀ i, i < 5 → u0b.cell? ⟨B, i, none⟩ = some (.int .i64 ([1, 2, 3, 64512, 65535].getD i 0)) := by rw [eW]; exact hL
        clear hL
        rw [← eW] at hD hbl ⊢
        try rw [← eB]
        clear eB eW hcg
        refine wpAnyH_ready (rs := [4]) (by kernel_rfl) (by simp) ?_
        refine (AllReadyH.cons rfl (fun K hK => ?_) AllReadyH.nil)
        go_simp
        refine (pick_any V g v l (fun i => [1, 2, 3, 64512, 65535].getD i 0) 5 B _ hD.cu (by decide) (by decide) hbg hbl hL2).mono ?_
        rintro e u0bc ⟨x, rfl, ⟨i, hi, hx⟩, cu, hg⟩
        replace hD := hD.keepG cu hg
        clear cu hg hL2 hbl hbg
        have hxb : 0 ≤ x ∧ x ≤ 65536 := by
          have q : ∀ i, i < 5 → (0 : Int) ≤ [1, 2, 3, 64512, 65535].getD i 0 ∧ [1, 2, 3, 64512, 65535].getD i (0 : Int) ≤ 65536 := by decide
          rw [hx]; exact q i hi
        clear hx hi
        refine hK.out _ _ trivial (fun _ => ?_)
        clear hK K
        try simp only [Act.put, List.setIfInBounds_toArray, List.set_cons_zero, List.set_cons_succ]
        refine wpAnyH_ready (rs := [5]) (by kernel_rfl) (by simp) ?_
        refine (AllReadyH.cons rfl (fun K hK => ?_) AllReadyH.nil)
        go_simp
        replace hD := hD.alloc (.cells #[.int .i64 x] IT)
        have hc0 : (u0bc.alloc (.cells #[.int .i64 x] IT)).cell? ⟨u0bc.heap.size, 0, none⟩ = some (.int .i64 x) := by simp
        refine hK.out _ _ trivial (fun _ => ?_)
        clear hK K
        try simp only [Act.put, List.setIfInBounds_toArray, List.set_cons_zero, List.set_cons_succ]
        obtain ⟨G, eG⟩ : ∃ G, G = u0bc.heap.size := ⟨_, rfl⟩
        obtain ⟨u0bcd, eW⟩ : ∃ u, u = u0bc.alloc (.cells #[.int .i64 x] IT) := ⟨_, rfl⟩
        rw [← eW] at hD hc0 ⊢
        rw [← eG] at hc0 ⊢
        clear eG eW
        refine wpAnyH_ready (rs := [6]) (by kernel_rfl) (by simp) ?_
        refine (AllReadyH.cons rfl (fun K hK => ?_) AllReadyH.nil)
        refine step_appI rfl (.tmp 22) (.tmp 26) rfl (A + 1) G 1 pv p x rfl rfl hD.op hc0 (by have := hD.sp.1; omega) hD.hb0 ?_
        intro v8 w8 ho8 hg8 hor8
        obtain ⟨a8, d8, hv8⟩ := ho8.len
        rw [show (p ++ [x]).length = p.length + 1 by simp] at hv8
        subst hv8
        have hq8 := hD.box0 hg8
        refine hK.out _ _ trivial (fun _ => ?_)
        clear hK K
        try simp only [Act.put, List.setIfInBounds_toArray, List.set_cons_zero, List.set_cons_succ]
        refine wpAnyH_take (i := 7) (v := ?_) rfl (by kernel_rfl) (by kernel_rfl) (by kernel_rfl) (fun _ _ _ h => h) (Or.inl ⟨by rfl, ?_⟩) trivial ?_
        rotate_left
        · intro wq hSq
          (try dsimp only at hSq)

          go_simp
          try rfl
        change wpAnyH _ _ _ _ _ _ _ (Act.put _ (some 28) _) _
        simp only [Act.put, List.setIfInBounds_toArray, List.set_cons_succ, List.set_cons_zero]
        refine wpAnyH_ready (rs := [8]) (by kernel_rfl) (by simp) ?_
        refine (AllReadyH.cons rfl (fun K hK => ?_) AllReadyH.nil)
        have r0 := hq8.c0
        have rf0 := hq8.f0
        go_simp
        clear r0 rf0
        replace hD := hD.app0 ho8 hg8 hor8 hxb (by have := hLN.out; omega)
        refine hK.out _ _ trivial (fun _ => ?_)
        clear hK K
        try simp only [Act.put, List.setIfInBounds_toArray, List.set_cons_zero, List.set_cons_succ]
        obtain ⟨w9, eW⟩ : ∃ u, u = w8.setCell ⟨A, 0, none⟩ (.slice a8 (p.length + 1) d8) := ⟨_, rfl⟩
        rw [← eW] at hD ⊢
        refine wpAnyH_done (by kernel_rfl) ?_ _
        clear hq8 ho8 hg8 hor8 hc0 eW
        go_wp2_with fail
        go_roundw
        case rel => exact ⟨j + 1, _, _, by go_num, by omega, by simp; omega, hD⟩
        case measure => simp [intOf]; omega
      · go_simp
        have hcg := hD.cu.lt
        replace hD := hD.alloc (.cells #[.int .i64 1, .int .i64 2, .int .i64 3, .int .i64 64512, .int .i64 65535] IT)
        have hL := lit_cells u0 [1, 2, 3, 64512, 65535] IT u0.heap.size rfl
        have hbl : u0.heap.size < (u0.alloc (.cells #[.int .i64 1, .int .i64 2, .int .i64 3, .int .i64 64512, .int .i64 65535] IT)).heap.size := by simp
        refine hK.out _ _ trivial (fun _ => ?_)
        clear hK K
        try simp only [Act.put, List.setIfInBounds_toArray, List.set_cons_zero, List.set_cons_succ]
        obtain ⟨B, eB⟩ : ∃ B, B = u0.heap.size := ⟨_, rfl⟩
        obtain ⟨u0b, eW⟩ : ∃ u, u = u0.alloc (.cells #[.int .i64 1, .int .i64 2, .int .i64 3, .int .i64 64512, .int .i64 65535] IT) := ⟨_, rfl⟩
        have hbg : B ≠ g := by omega
        rw [← eB] at hL hbl
        have hL2 : ∀ i, i < 5 → u0b.cell? ⟨B, i, none⟩ = some (.int .i64 ([1, 2, 3, 64512, 65535].getD i 0)) := by rw [eW]; exact hL
        clear hL
        rw [← eW] at hD hbl ⊢
        try rw [← eB]
        clear eB eW hcg
        refine wpAnyH_ready (rs := [1, 4]) (by kernel_rfl) (by simp) ?_
        refine (AllReadyH.cons rfl (fun K hK => ?_) (AllReadyH.cons rfl (fun K hK => ?_) AllReadyH.nil))
        · have q0 := hD.bx.c0
          go_simp
          clear q0
          refine hK.out _ _ trivial (fun _ => ?_)
          clear hK K
          try simp only [Act.put, List.setIfInBounds_toArray, List.set_cons_zero, List.set_cons_succ]
          refine wpAnyH_ready (rs := [4]) (by kernel_rfl) (by simp) ?_
          refine (AllReadyH.cons rfl (fun K hK => ?_) AllReadyH.nil)
          go_simp
          refine (pick_any V g v l (fun i => [1, 2, 3, 64512, 65535].getD i 0) 5 B _ hD.cu (by decide) (by decide) hbg hbl hL2).mono ?_
          rintro e u0bc ⟨x, rfl, ⟨i, hi, hx⟩, cu, hg⟩
          replace hD := hD.keepG cu hg
          clear cu hg hL2 hbl hbg
          have hxb : 0 ≤ x ∧ x ≤ 65536 := by
            have q : ∀ i, i < 5 → (0 : Int) ≤ [1, 2, 3, 64512, 65535].getD i 0 ∧ [1, 2, 3, 64512, 65535].getD i (0 : Int) ≤ 65536 := by decide
            rw [hx]; exact q i hi
          clear hx hi
          refine hK.out _ _ trivial (fun _ => ?_)
          clear hK K
          try simp only [Act.put, List.setIfInBounds_toArray, List.set_cons_zero, List.set_cons_succ]
          refine wpAnyH_ready (rs := [5]) (by kernel_rfl) (by simp) ?_
          refine (AllReadyH.cons rfl (fun K hK => ?_) AllReadyH.nil)
          go_simp
          replace hD := hD.alloc (.cells #[.int .i64 x] IT)
          have hc0 : (u0bc.alloc (.cells #[.int .i64 x] IT)).cell? ⟨u0bc.heap.size, 0, none⟩ = some (.int .i64 x) := by simp
          refine hK.out _ _ trivial (fun _ => ?_)
          clear hK K
          try simp only [Act.put, List.setIfInBounds_toArray, List.set_cons_zero, List.set_cons_succ]
          obtain ⟨G, eG⟩ : ∃ G, G = u0bc.heap.size := ⟨_, rfl⟩
          obtain ⟨u0bcd, eW⟩ : ∃ u, u = u0bc.alloc (.cells #[.int .i64 x] IT) := ⟨_, rfl⟩
          rw [← eW] at hD hc0 ⊢
          rw [← eG] at hc0 ⊢
          clear eG eW
          refine wpAnyH_ready (rs := [6]) (by kernel_rfl) (by simp) ?_
          refine (AllReadyH.cons rfl (fun K hK => ?_) AllReadyH.nil)
          refine step_appI rfl (.tmp 22) (.tmp 26) rfl (A + 1) G 1 pv p x rfl rfl hD.op hc0 (by have := hD.sp.1; omega) hD.hb0 ?_
          intro v8 w8 ho8 hg8 hor8
          obtain ⟨a8, d8, hv8⟩ := ho8.len
          rw [show (p ++ [x]).length = p.length + 1 by simp] at hv8
          subst hv8
          have hq8 := hD.box0 hg8
          refine hK.out _ _ trivial (fun _ => ?_)
          clear hK K
          try simp only [Act.put, List.setIfInBounds_toArray, List.set_cons_zero, List.set_cons_succ]
          refine wpAnyH_take (i := 7) (v := ?_) rfl (by kernel_rfl) (by kernel_rfl) (by kernel_rfl) (fun _ _ _ h => h) (Or.inl ⟨by rfl, ?_⟩) trivial ?_
          rotate_left
          · intro wq hSq
            (try dsimp only at hSq)

            go_simp
            try rfl
          change wpAnyH _ _ _ _ _ _ _ (Act.put _ (some 28) _) _
          simp only [Act.put, List.setIfInBounds_toArray, List.set_cons_succ, List.set_cons_zero]
          refine wpAnyH_ready (rs := [8]) (by kernel_rfl) (by simp) ?_
          refine (AllReadyH.cons rfl (fun K hK => ?_) AllReadyH.nil)
          have r0 := hq8.c0
          have rf0 := hq8.f0
          go_simp
          clear r0 rf0
          replace hD := hD.app0 ho8 hg8 hor8 hxb (by have := hLN.out; omega)
          refine hK.out _ _ trivial (fun _ => ?_)
          clear hK K
          try simp only [Act.put, List.setIfInBounds_toArray, List.set_cons_zero, List.set_cons_succ]
          obtain ⟨w9, eW⟩ : ∃ u, u = w8.setCell ⟨A, 0, none⟩ (.slice a8 (p.length + 1) d8) := ⟨_, rfl⟩
          rw [← eW] at hD ⊢
          refine wpAnyH_done (by kernel_rfl) ?_ _
          clear hq8 ho8 hg8 hor8 hc0 eW
          go_wp2_with fail
          go_roundw
          case rel => exact ⟨j + 1, _, _, by go_num, by omega, by simp; omega, hD⟩
          case measure => simp [intOf]; omega
        · go_simp
          refine (pick_any V g v l (fun i => [1, 2, 3, 64512, 65535].getD i 0) 5 B _ hD.cu (by decide) (by decide) hbg hbl hL2).mono ?_
          rintro e u0bc ⟨x, rfl, ⟨i, hi, hx⟩, cu, hg⟩
          replace hD := hD.keepG cu hg
          clear cu hg hL2 hbl hbg
          have hxb : 0 ≤ x ∧ x ≤ 65536 := by
            have q : ∀ i, i < 5 → (0 : Int) ≤ [1, 2, 3, 64512, 65535].getD i 0 ∧ [1, 2, 3, 64512, 65535].getD i (0 : Int) ≤ 65536 := by decide
            rw [hx]; exact q i hi
          clear hx hi
          refine hK.out _ _ trivial (fun _ => ?_)
          clear hK K
          try simp only [Act.put, List.setIfInBounds_toArray, List.set_cons_zero, List.set_cons_succ]
          refine wpAnyH_ready (rs := [1, 5]) (by kernel_rfl) (by simp) ?_
          refine (AllReadyH.cons rfl (fun K hK => ?_) (AllReadyH.cons rfl (fun K hK => ?_) AllReadyH.nil))
          · have q0 := hD.bx.c0
            go_simp
            clear q0
            refine hK.out _ _ trivial (fun _ => ?_)
            clear hK K
            try simp only [Act.put, List.setIfInBounds_toArray, List.set_cons_zero, List.set_cons_succ]
            refine wpAnyH_ready (rs := [5]) (by kernel_rfl) (by simp) ?_
            refine (AllReadyH.cons rfl (fun K hK => ?_) AllReadyH.nil)
            go_simp
            replace hD := hD.alloc (.cells #[.int .i64 x] IT)
            have hc0 : (u0bc.alloc (.cells #[.int .i64 x] IT)).cell? ⟨u0bc.heap.size, 0, none⟩ = some (.int .i64 x) := by simp
            refine hK.out _ _ trivial (fun _ => ?_)
            clear hK K
            try simp only [Act.put, List.setIfInBounds_toArray, List.set_cons_zero, List.set_cons_succ]
            obtain ⟨G, eG⟩ : ∃ G, G = u0bc.heap.size := ⟨_, rfl⟩
            obtain ⟨u0bcd, eW⟩ : ∃ u, u = u0bc.alloc (.cells #[.int .i64 x] IT) := ⟨_, rfl⟩
            rw [← eW] at hD hc0 ⊢
            rw [← eG] at hc0 ⊢
            clear eG eW
            refine wpAnyH_ready (rs := [6]) (by kernel_rfl) (by simp) ?_
            refine (AllReadyH.cons rfl (fun K hK => ?_) AllReadyH.nil)
            refine step_appI rfl (.tmp 22) (.tmp 26) rfl (A + 1) G 1 pv p x rfl rfl hD.op hc0 (by have := hD.sp.1; omega) hD.hb0 ?_
            intro v8 w8 ho8 hg8 hor8
            obtain ⟨a8, d8, hv8⟩ := ho8.len
            rw [show (p ++ [x]).length = p.length + 1 by simp] at hv8
            subst hv8
            have hq8 := hD.box0 hg8
            refine hK.out _ _ trivial (fun _ => ?_)
            clear hK K
            try simp only [Act.put, List.setIfInBounds_toArray, List.set_cons_zero, List.set_cons_succ]
            refine wpAnyH_take (i := 7) (v := ?_) rfl (by kernel_rfl) (by kernel_rfl) (by kernel_rfl) (fun _ _ _ h => h) (Or.inl ⟨by rfl, ?_⟩) trivial ?_
            rotate_left
            · intro wq hSq
              (try dsimp only at hSq)

              go_simp
              try rfl
            change wpAnyH _ _ _ _ _ _ _ (Act.put _ (some 28) _) _
            simp only [Act.put, List.setIfInBounds_toArray, List.set_cons_succ, List.set_cons_zero]
            refine wpAnyH_ready (rs := [8]) (by kernel_rfl) (by simp) ?_
            refine (AllReadyH.cons rfl (fun K hK => ?_) AllReadyH.nil)
            have r0 := hq8.c0
            have rf0 := hq8.f0
            go_simp
            clear r0 rf0
            replace hD := hD.app0 ho8 hg8 hor8 hxb (by have := hLN.out; omega)
            refine hK.out _ _ trivial (fun _ => ?_)
            clear hK K
            try simp only [Act.put, List.setIfInBounds_toArray, List.set_cons_zero, List.set_cons_succ]
            obtain ⟨w9, eW⟩ : ∃ u, u = w8.setCell ⟨A, 0, none⟩ (.slice a8 (p.length + 1) d8) := ⟨_, rfl⟩
            rw [← eW] at hD ⊢
            refine wpAnyH_done (by kernel_rfl) ?_ _
            clear hq8 ho8 hg8 hor8 hc0 eW
            go_wp2_with fail
            go_roundw
            case rel => exact ⟨j + 1, _, _, by go_num, by omega, by simp; omega, hD⟩
            case measure => simp [intOf]; omega
          · go_simp
            replace hD := hD.alloc (.cells #[.int .i64 x] IT)
            have hc0 : (u0bc.alloc (.cells #[.int .i64 x] IT)).cell? ⟨u0bc.heap.size, 0, none⟩ = some (.int .i64 x) := by simp
            refine hK.out _ _ trivial (fun _ => ?_)
            clear hK K
            try simp only [Act.put, List.setIfInBounds_toArray, List.set_cons_zero, List.set_cons_succ]
            obtain ⟨G, eG⟩ : ∃ G, G = u0bc.heap.size := ⟨_, rfl⟩
            obtain ⟨u0bcd, eW⟩ : ∃ u, u = u0bc.alloc (.cells #[.int .i64 x] IT) := ⟨_, rfl⟩
            rw [← eW] at hD hc0 ⊢
            rw [← eG] at hc0 ⊢
            clear eG eW
            refine wpAnyH_ready (rs := [1]) (by kernel_rfl) (by simp) ?_
            refine (AllReadyH.cons rfl (fun K hK => ?_) AllReadyH.nil)
            have q0 := hD.bx.c0
            go_simp
            clear q0
            refine hK.out _ _ trivial (fun _ => ?_)
            clear hK K
            try simp only [Act.put, List.setIfInBounds_toArray, List.set_cons_zero, List.set_cons_succ]
            refine wpAnyH_ready (rs := [6]) (by kernel_rfl) (by simp) ?_
            refine (AllReadyH.cons rfl (fun K hK => ?_) AllReadyH.nil)
            refine step_appI rfl (.tmp 22) (.tmp 26) rfl (A + 1) G 1 pv p x rfl rfl hD.op hc0 (by have := hD.sp.1; omega) hD.hb0 ?_
            intro v8 w8 ho8 hg8 hor8
            obtain ⟨a8, d8, hv8⟩ := ho8.len
            rw [show (p ++ [x]).length = p.length + 1 by simp] at hv8
            subst hv8
            have hq8 := hD.box0 hg8
            refine hK.out _ _ trivial (fun _ => ?_)
            clear hK K
            try simp only [Act.put, List.setIfInBounds_toArray, List.set_cons_zero, List.set_cons_succ]
            refine wpAnyH_take (i := 7) (v := ?_) rfl (by kernel_rfl) (by kernel_rfl) (by kernel_rfl) (fun _ _ _ h => h) (Or.inl ⟨by rfl, ?_⟩) trivial ?_
            rotate_left
            · intro wq hSq
              (try dsimp only at hSq)

              go_simp
              try rfl
            change wpAnyH _ _ _ _ _ _ _ (Act.put _ (some 28) _) _
            simp only [Act.put, List.setIfInBounds_toArray, List.set_cons_succ, List.set_cons_zero]
            refine wpAnyH_ready (rs := [8]) (by kernel_rfl) (by simp) ?_
            refine (AllReadyH.cons rfl (fun K hK => ?_) AllReadyH.nil)
            have r0 := hq8.c0
            have rf0 := hq8.f0
            go_simp
            clear r0 rf0
            replace hD := hD.app0 ho8 hg8 hor8 hxb (by have := hLN.out; omega)
            refine hK.out _ _ trivial (fun _ => ?_)
            clear hK K
            try simp only [Act.put, List.setIfInBounds_toArray, List.set_cons_zero, List.set_cons_succ]
            obtain ⟨w9, eW⟩ : ∃ u, u = w8.setCell ⟨A, 0, none⟩ (.slice a8 (p.length + 1) d8) := ⟨_, rfl⟩
            rw [← eW] at hD ⊢
            refine wpAnyH_done (by kernel_rfl) ?_ _
            clear hq8 ho8 hg8 hor8 hc0 eW
            go_wp2_with fail
            go_roundw
            case rel => exact ⟨j + 1, _, _, by go_num, by omega, by simp; omega, hD⟩
            case measure => simp [intOf]; omega
    · have hjn : j = n := by omega
      have hpn : p.length ≤ 4 := by omega
      subst hjn
      clear hlt2 hj hpj hn0 hn1
      go_wp2_with fail
      refine (below_any V g v l 3 _ hD.cu (by decide) (by decide)).mono ?_
      rintro e w5 ⟨m, rfl, ⟨hm0, hm1⟩, cu, hg⟩
      replace hD := hD.keepG cu hg
      clear cu hg
      obtain ⟨m, rfl⟩ := Int.eq_ofNat_of_zero_le hm0
      go_wp2_with fail
      go_loopw [6] (fun i wr => ∃ (j : Nat) (cv : Value) (c : List Int), i = .int .i64 j ∧ j ≤ m ∧ c.length ≤ j ∧ c.Pairwise (· < ·) ∧ DA V w wr g v l w.heap.size A (A + 1) pv pr cv bw p c) (fun i _ => m - (intOf i).toNat)
      case atStart => exact ⟨0, .slice none 0 0, [], rfl, Nat.zero_le _, by simp, List.Pairwise.nil, hD⟩
      case round =>
        clear hD
        obtain ⟨j2, cv, c, rfl, hj, hcj, hpw, hD⟩ := hrel
        have hPW := Lib.hid hpw
        clear hpw
        by_cases hlt2 : j2 < m
        · have hltI : (j2 : Int) < (m : Int) := by omega
          have hLN := Lib.hid (show c.length + 1 ≤ 20 by omega)
          go_wp2_with fail
          refine wp_region_held_drew (S := fun _ => True) (by kernel_rfl) trivial (fun hHeld => ?_)
          replace hD := hD.drew
          obtain ⟨u0, e0⟩ : ∃ u, u = wr.drew := ⟨_, rfl⟩
          rw [← e0] at hD ⊢
          clear e0 hHeld
          refine wpAnyH_take (i := 0) (v := ?_) rfl (by kernel_rfl) (by kernel_rfl) (by kernel_rfl) (fun _ _ _ h => h) (Or.inl ⟨by rfl, ?_⟩) trivial ?_
          rotate_left
          · intro wq hSq
            (try dsimp only at hSq)

            go_simp
            try rfl
          change wpAnyH _ _ _ _ _ _ _ (Act.put _ (some 36) _) _
          simp only [Act.put, List.setIfInBounds_toArray, List.set_cons_succ, List.set_cons_zero]
          refine wpAnyH_take (i := 2) (v := ?_) rfl (by kernel_rfl) (by kernel_rfl) (by kernel_rfl) (fun _ _ _ h => h) (Or.inl ⟨by rfl, ?_⟩) trivial ?_
          rotate_left
          · intro wq hSq
            (try dsimp only at hSq)

            go_simp
            try rfl
          change wpAnyH _ _ _ _ _ _ _ (Act.put _ (some 38) _) _
          simp only [Act.put, List.setIfInBounds_toArray, List.set_cons_succ, List.set_cons_zero]
          refine wpAnyH_ready (rs := [1, 3]) (by kernel_rfl) (by simp) ?_
          refine (AllReadyH.cons rfl (fun K hK => ?_) (AllReadyH.cons rfl (fun K hK => ?_) AllReadyH.nil))
          · have q0 := hD.bx.c2
            go_simp
            clear q0
            refine hK.out _ _ trivial (fun _ => ?_)
            clear hK K
            try simp only [Act.put, List.setIfInBounds_toArray, List.set_cons_zero, List.set_cons_succ]
            refine wpAnyH_ready (rs := [3]) (by kernel_rfl) (by simp) ?_
            refine (AllReadyH.cons rfl (fun K hK => ?_) AllReadyH.nil)
            go_simp
            have hcg := hD.cu.lt
            replace hD := hD.alloc (.cells #[.int .i64 1000, .int .i64 1, .int .i64 7, .int .i64 65535] IT)
            have hL := lit_cells u0 [1000, 1, 7, 65535] IT u0.heap.size rfl
            have hbl : u0.heap.size < (u0.alloc (.cells #[.int .i64 1000, .int .i64 1, .int .i64 7, .int .i64 65535] IT)).heap.size := by simp
            refine hK.out _ _ trivial (fun _ => ?_)
            clear hK K
            try simp only [Act.put, List.setIfInBounds_toArray, List.set_cons_zero, List.set_cons_succ]
            obtain ⟨B, eB⟩ : ∃ B, B = u0.heap.size := ⟨_, rfl⟩
            obtain ⟨u0b, eW⟩ : ∃ u, u = u0.alloc (.cells #[.int .i64 1000, .int .i64 1, .int .i64 7, .int .i64 65535] IT) := ⟨_, rfl⟩
            have hbg : B ≠ g := by omega
            rw [← eB] at hL hbl
            have hL2 : ∀ i, i < 4 → u0b.cell? ⟨B, i, none⟩ = some (.int .i64 ([1000, 1, 7, 65535].getD i 0)) := by rw [eW]; exact hL
            clear hL
            rw [← eW] at hD hbl ⊢
            try rw [← eB]
            clear eB eW hcg
            refine wpAnyH_ready (rs := [4]) (by kernel_rfl) (by simp) ?_
            refine (AllReadyH.cons rfl (fun K hK => ?_) AllReadyH.nil)
            go_simp
            refine (pick_any V g v l (fun i => [1000, 1, 7, 65535].getD i 0) 4 B _ hD.cu (by decide) (by decide) hbg hbl hL2).mono ?_
            rintro e u0bc ⟨x, rfl, ⟨i, hi, hx⟩, cu, hg⟩
            replace hD := hD.keepG cu hg
            clear cu hg hL2 hbl hbg
            have hxb : 0 ≤ x ∧ x ≤ 65536 := by
              have q : ∀ i, i < 4 → (0 : Int) ≤ [1000, 1, 7, 65535].getD i 0 ∧ [1000, 1, 7, 65535].getD i (0 : Int) ≤ 65536 := by decide
              rw [hx]; exact q i hi
            clear hx hi
            refine hK.out _ _ trivial (fun _ => ?_)
            clear hK K
            try simp only [Act.put, List.setIfInBounds_toArray, List.set_cons_zero, List.set_cons_succ]
            refine wpAnyH_ready (rs := [5]) (by kernel_rfl) (by simp) ?_
            refine (AllReadyH.cons rfl (fun K hK => ?_) AllReadyH.nil)
            go_simp
            refine (insert_loop_any _ c x u0bc (hD.oc.rd hD.sc.bd) hPW.out ⟨by omega, by omega⟩ (by have := hD.sc.1; omega)).mono ?_
            rintro e w8 ⟨ia, ic, rfl, hio, hib⟩
            have hq2 := hD.keepB hib
            have hI := insL_sm hPW.out hD.sc (by have := hLN.out; omega) hxb
            have hPW2 := insL_pair (n := x) hPW.out
            refine hK.out _ _ trivial (fun _ => ?_)
            clear hK K
            try simp only [Act.put, List.setIfInBounds_toArray, List.set_cons_zero, List.set_cons_succ]
            refine wpAnyH_take (i := 6) (v := ?_) rfl (by kernel_rfl) (by kernel_rfl) (by kernel_rfl) (fun _ _ _ h => h) (Or.inl ⟨by rfl, ?_⟩) trivial ?_
            rotate_left
            · intro wq hSq
              (try dsimp only at hSq)

              go_simp
              try rfl
            change wpAnyH _ _ _ _ _ _ _ (Act.put _ (some 42) _) _
            simp only [Act.put, List.setIfInBounds_toArray, List.set_cons_succ, List.set_cons_zero]
            refine wpAnyH_ready (rs := [7]) (by kernel_rfl) (by simp) ?_
            refine (AllReadyH.cons rfl (fun K hK => ?_) AllReadyH.nil)
            have r2 := hq2.bx.c2
            have rf2 := hq2.bx.f2
            go_simp
            clear r2 rf2
            replace hD := hD.ins2 hio hib hI.1
            refine hK.out _ _ trivial (fun _ => ?_)
            clear hK K
            try simp only [Act.put, List.setIfInBounds_toArray, List.set_cons_zero, List.set_cons_succ]
            obtain ⟨w9, eW⟩ : ∃ u, u = w8.setCell ⟨A, 2, none⟩ (.slice ia (insL c x).length ic) := ⟨_, rfl⟩
            rw [← eW] at hD ⊢
            refine wpAnyH_done (by kernel_rfl) ?_ _
            clear hq2 hio hib eW
            go_wp2_with fail
            go_roundw
            case rel => exact ⟨j2 + 1, _, _, by go_num, by omega, by have := hI.2; omega, hPW2, hD⟩
            case measure => simp [intOf]; omega
          · go_simp
            have hcg := hD.cu.lt
            replace hD := hD.alloc (.cells #[.int .i64 1000, .int .i64 1, .int .i64 7, .int .i64 65535] IT)
            have hL := lit_cells u0 [1000, 1, 7, 65535] IT u0.heap.size rfl
            have hbl : u0.heap.size < (u0.alloc (.cells #[.int .i64 1000, .int .i64 1, .int .i64 7, .int .i64 65535] IT)).heap.size := by simp
            refine hK.out _ _ trivial (fun _ => ?_)
            clear hK K
            try simp only [Act.put, List.setIfInBounds_toArray, List.set_cons_zero, List.set_cons_succ]
            obtain ⟨B, eB⟩ : ∃ B, B = u0.heap.size := ⟨_, rfl⟩
            obtain ⟨u0b, eW⟩ : ∃ u, u = u0.alloc (.cells #[.int .i64 1000, .int .i64 1, .int .i64 7, .int .i64 65535] IT) := ⟨_, rfl⟩
            have hbg : B ≠ g := by omega
            rw [← eB] at hL hbl
            have hL2 : ∀ i, i < 4 → u0b.cell? ⟨B, i, none⟩ = some (.int .i64 ([1000, 1, 7, 65535].getD i 0)) := by rw [eW]; exact hL
            clear hL
            rw [← eW] at hD hbl ⊢
            try rw [← eB]
            clear eB eW hcg
            refine wpAnyH_ready (rs := [1, 4]) (by kernel_rfl) (by simp) ?_
            refine (AllReadyH.cons rfl (fun K hK => ?_) (AllReadyH.cons rfl (fun K hK => ?_) AllReadyH.nil))
            · have q0 := hD.bx.c2
              go_simp
              clear q0
              refine hK.out _ _ trivial (fun _ => ?_)
              clear hK K
              try simp only [Act.put, List.setIfInBounds_toArray, List.set_cons_zero, List.set_cons_succ]
              refine wpAnyH_ready (rs := [4]) (by kernel_rfl) (by simp) ?_
              refine (AllReadyH.cons rfl (fun K hK => ?_) AllReadyH.nil)
              go_simp
              refine (pick_any V g v l (fun i => [1000, 1, 7, 65535].getD i 0) 4 B _ hD.cu (by decide) (by decide) hbg hbl hL2).mono ?_
              rintro e u0bc ⟨x, rfl, ⟨i, hi, hx⟩, cu, hg⟩
              replace hD := hD.keepG cu hg
              clear cu hg hL2 hbl hbg
              have hxb : 0 ≤ x ∧ x ≤ 65536 := by
                have q : ∀ i, i < 4 → (0 : Int) ≤ [1000, 1, 7, 65535].getD i 0 ∧ [1000, 1, 7, 65535].getD i (0 : Int) ≤ 65536 := by decide
                rw [hx]; exact q i hi
              clear hx hi
              refine hK.out _ _ trivial (fun _ => ?_)
              clear hK K
              try simp only [Act.put, List.setIfInBounds_toArray, List.set_cons_zero, List.set_cons_succ]
              refine wpAnyH_ready (rs := [5]) (by kernel_rfl) (by simp) ?_
              refine (AllReadyH.cons rfl (fun K hK => ?_) AllReadyH.nil)
              go_simp
              refine (insert_loop_any _ c x u0bc (hD.oc.rd hD.sc.bd) hPW.out ⟨by omega, by omega⟩ (by have := hD.sc.1; omega)).mono ?_
              rintro e w8 ⟨ia, ic, rfl, hio, hib⟩
              have hq2 := hD.keepB hib
              have hI := insL_sm hPW.out hD.sc (by have := hLN.out; omega) hxb
              have hPW2 := insL_pair (n := x) hPW.out
              refine hK.out _ _ trivial (fun _ => ?_)
              clear hK K
              try simp only [Act.put, List.setIfInBounds_toArray, List.set_cons_zero, List.set_cons_succ]
              refine wpAnyH_take (i := 6) (v := ?_) rfl (by kernel_rfl) (by kernel_rfl) (by kernel_rfl) (fun _ _ _ h => h) (Or.inl ⟨by rfl, ?_⟩) trivial ?_
              rotate_left
              · intro wq hSq
                (try dsimp only at hSq)

                go_simp
                try rfl
              change wpAnyH _ _ _ _ _ _ _ (Act.put _ (some 42) _) _
              simp only [Act.put, List.setIfInBounds_toArray, List.set_cons_succ, List.set_cons_zero]
              refine wpAnyH_ready (rs := [7]) (by kernel_rfl) (by simp) ?_
              refine (AllReadyH.cons rfl (fun K hK => ?_) AllReadyH.nil)
              have r2 := hq2.bx.c2
              have rf2 := hq2.bx.f2
              go_simp
              clear r2 rf2
              replace hD := hD.ins2 hio hib hI.1
              refine hK.out _ _ trivial (fun _ => ?_)
              clear hK K
              try simp only [Act.put, List.setIfInBounds_toArray, List.set_cons_zero, List.set_cons_succ]
              obtain ⟨w9, eW⟩ : ∃ u, u = w8.setCell ⟨A, 2, none⟩ (.slice ia (insL c x).length ic) := ⟨_, rfl⟩
              rw [← eW] at hD ⊢
              refine wpAnyH_done (by kernel_rfl) ?_ _
              clear hq2 hio hib eW
              go_wp2_with fail
              go_roundw
              case rel => exact ⟨j2 + 1, _, _, by go_num, by omega, by have := hI.2; omega, hPW2, hD⟩
              case measure => simp [intOf]; omega
            · go_simp
              refine (pick_any V g v l (fun i => [1000, 1, 7, 65535].getD i 0) 4 B _ hD.cu (by decide) (by decide) hbg hbl hL2).mono ?_
              rintro e u0bc ⟨x, rfl, ⟨i, hi, hx⟩, cu, hg⟩
              replace hD := hD.keepG cu hg
              clear cu hg hL2 hbl hbg
              have hxb : 0 ≤ x ∧ x ≤ 65536 := by
                have q : ∀ i, i < 4 → (0 : Int) ≤ [1000, 1, 7, 65535].getD i 0 ∧ [1000, 1, 7, 65535].getD i (0 : Int) ≤ 65536 := by decide
                rw [hx]; exact q i hi
              clear hx hi
              refine hK.out _ _ trivial (fun _ => ?_)
              clear hK K
              try simp only [Act.put, List.setIfInBounds_toArray, List.set_cons_zero, List.set_cons_succ]
              refine wpAnyH_ready (rs := [1]) (by kernel_rfl) (by simp) ?_
              refine (AllReadyH.cons rfl (fun K hK => ?_) AllReadyH.nil)
              have q0 := hD.bx.c2
              go_simp
              clear q0
              refine hK.out _ _ trivial (fun _ => ?_)
              clear hK K
              try simp only [Act.put, List.setIfInBounds_toArray, List.set_cons_zero, List.set_cons_succ]
              refine wpAnyH_ready (rs := [5]) (by kernel_rfl) (by simp) ?_
              refine (AllReadyH.cons rfl (fun K hK => ?_) AllReadyH.nil)
              go_simp
              refine (insert_loop_any _ c x u0bc (hD.oc.rd hD.sc.bd) hPW.out ⟨by omega, by omega⟩ (by have := hD.sc.1; omega)).mono ?_
              rintro e w8 ⟨ia, ic, rfl, hio, hib⟩
              have hq2 := hD.keepB hib
              have hI := insL_sm hPW.out hD.sc (by have := hLN.out; omega) hxb
              have hPW2 := insL_pair (n := x) hPW.out
              refine hK.out _ _ trivial (fun _ => ?_)
              clear hK K
              try simp only [Act.put, List.setIfInBounds_toArray, List.set_cons_zero, List.set_cons_succ]
              refine wpAnyH_take (i := 6) (v := ?_) rfl (by kernel_rfl) (by kernel_rfl) (by kernel_rfl) (fun _ _ _ h => h) (Or.inl ⟨by rfl, ?_⟩) trivial ?_
              rotate_left
              · intro wq hSq
                (try dsimp only at hSq)

                go_simp
                try rfl
              change wpAnyH _ _ _ _ _ _ _ (Act.put _ (some 42) _) _
              simp only [Act.put, List.setIfInBounds_toArray, List.set_cons_succ, List.set_cons_zero]
              refine wpAnyH_ready (rs := [7]) (by kernel_rfl) (by simp) ?_
              refine (AllReadyH.cons rfl (fun K hK => ?_) AllReadyH.nil)
              have r2 := hq2.bx.c2
              have rf2 := hq2.bx.f2
              go_simp
              clear r2 rf2
              replace hD := hD.ins2 hio hib hI.1
              refine hK.out _ _ trivial (fun _ => ?_)
              clear hK K
              try simp only [Act.put, List.setIfInBounds_toArray, List.set_cons_zero, List.set_cons_succ]
              obtain ⟨w9, eW⟩ : ∃ u, u = w8.setCell ⟨A, 2, none⟩ (.slice ia (insL c x).length ic) := ⟨_, rfl⟩
              rw [← eW] at hD ⊢
              refine wpAnyH_done (by kernel_rfl) ?_ _
              clear hq2 hio hib eW
              go_wp2_with fail
              go_roundw
              case rel => exact ⟨j2 + 1, _, _, by go_num, by omega, by have := hI.2; omega, hPW2, hD⟩
              case measure => simp [intOf]; omega
        · have hcn : c.length ≤ 4 := by omega
          have hjm : j2 = m := by omega
          subst hjm
          clear hlt2 hj hcj hm0 hm1
          have r0 := hD.br.c0
          have r1 := hD.br.c1
          have r2 := hD.br.c2
          have r3 := hD.br.c3
          have rf0 := hD.br.f0
          have rf1 := hD.br.f1
          have rf2 := hD.br.f2
          have rf3 := hD.br.f3
          have a0 := hD.bx.c0
          have a1 := hD.bx.c1
          have a2 := hD.bx.c2
          have a3 := hD.bx.c3
          obtain ⟨qa, qx, rfl⟩ := hD.op.len
          obtain ⟨ra, rx, rfl⟩ := hD.oc.len
          go_wp2_with fail
          have bE := (((hD.br.set0 (u := .slice qa p.length qx)).set1 (u := .int .i64 pr)).set2 (u := .slice ra c.length rx)).set3 (u := .int .i64 bw)
          have e0 := bE.c0
          have e1 := bE.c1
          have e2 := bE.c2
          have e3 := bE.c3
          have hR1 := hD.Rb
          have hRV : V.heap.size ≤ w.heap.size := HV.out
          have hA1 := Nat.le_of_lt hD.Rb
          exact bodyPost_ret (v := .agg #[.slice qa p.length qx, .int .i64 pr, .slice ra c.length rx, .int .i64 bw]) (by simp [results, Tryd.results66, go_sem, e0, e1, e2, e3]) rfl
            ⟨_, _, _, _, p, c, rfl, (((hD.cu.setNew hRg hRV).setNew hRg hRV).setNew hRg hRV).setNew hRg hRV, grown_setNew (grown_setNew (grown_setNew (grown_setNew hD.gr (Nat.le_refl _)) (Nat.le_refl _)) (Nat.le_refl _)) (Nat.le_refl _), ((((hD.op.far (o := 0) hR1).far (o := 1) hR1).far (o := 2) hR1).far (o := 3) hR1).mono hA1, ((((hD.oc.far (o := 0) hR1).far (o := 1) hR1).far (o := 2) hR1).far (o := 3) hR1).mono hA1, hD.ap, hD.sp, hD.sc, hpn, hcn, hpr, hbw, hPW.out⟩
end Go.Proofs.YtcmbajphholliabDoor
