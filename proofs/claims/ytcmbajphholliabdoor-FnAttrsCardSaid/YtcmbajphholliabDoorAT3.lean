/-
  What is drawn for the laws on attributes: a bent one; two of them. Conditions: those in each contract.
-/
import Derived.Test.YtcmbajphholliabDoorAT2
namespace Go.Proofs.YtcmbajphholliabDoor
open Go.ChangeShapes Go.WideShapes Go.ChangeAt Go.RowKit Go.BigFrame Go.Joins
set_option linter.unusedVariables false
set_option maxRecDepth 100000
set_option linter.unusedSimpArgs false
set_option maxRecDepth 100000

def sliceLen : Option Value → Nat
  | some (.slice _ n _) => n
  | _ => 0
set_option maxHeartbeats 8000000 in
theorem l2bent_any (V : World) (g : Nat) (v : Value) (l : List Int) (w : World) (h : Cur V w g v l) :
    Calls Tryd.prog 40 #[.pointer (some ⟨g, 0, none⟩)] w (CurA V g v l w 9 (fun _ => True)) := by
  have hlt := h.lt
  have hRg : w.heap.size ≠ g := by omega
  have HV := Lib.hid h.over.size
  have bR := Bx.new w (.slice none 0 0) (.int .i64 0) (.slice none 0 0) (.int .i64 0) 36 w.heap.size rfl
  have cu0 := h.alloc (.cells #[.slice none 0 0, .int .i64 0, .slice none 0 0, .int .i64 0] 36)
  have g1 := grown_alloc (World.grownBy.refl w (some g)) (.cells #[.slice none 0 0, .int .i64 0, .slice none 0 0, .int .i64 0] 36)
  go_enter Tryd.func40, Tryd.ntmps40
  go_wp2_with fail
  refine (l2draw_any V g v l _ cu0).mono ?_
  rintro e w1 ⟨pv, pr, cv, bw, p, c, rfl, cu1, hg1, ho, hq, hap, hsp, hsc, hpn, hcn, hpr, hbw, -⟩
  replace g1 := grown_trans g1 hg1
  replace bR := bR.grown hg1 (by simpa using hRg)
  have hz1 := hg1.size
  have hzz : (w.alloc (.cells #[.slice none 0 0, .int .i64 0, .slice none 0 0, .int .i64 0] 36)).heap.size = w.heap.size + 1 := by simp
  rw [hzz] at ho hq hz1
  clear hg1 cu0 hzz
  obtain ⟨pa0, px0, rfl⟩ := ho.len
  obtain ⟨ca0, cx0, rfl⟩ := hq.len
  go_wp2_with fail
  obtain ⟨A, eA⟩ : ∃ A, A = w1.heap.size := ⟨_, rfl⟩
  try rw [← eA]
  have hcl := cu1.lt
  have bA := Bx.new w1 (.slice pa0 p.length px0) (.int .i64 pr) (.slice ca0 c.length cx0) (.int .i64 bw) 36 A eA
  have hD : DA V w (w1.alloc (.cells #[.slice pa0 p.length px0, .int .i64 pr, .slice ca0 c.length cx0, .int .i64 bw] 36)) g v l w.heap.size A (w.heap.size + 1) (.slice pa0 p.length px0) pr (.slice ca0 c.length cx0) bw p c :=
    ⟨cu1.alloc _, grown_alloc g1 _, bR.alloc _, bA, ho.alloc _, hq.alloc _, hap, OwnI.sepGe ho (Nat.le_of_eq eA.symm), OwnI.sepGe hq (Nat.le_of_eq eA.symm), by omega, Nat.le_refl _, by omega, by omega, hRg, by omega, by omega, by simp; omega, by have := HV.out; omega, hsp, hsc⟩
  obtain ⟨w3, eW⟩ : ∃ u, u = w1.alloc (.cells #[.slice pa0 p.length px0, .int .i64 pr, .slice ca0 c.length cx0, .int .i64 bw] 36) := ⟨_, rfl⟩
  rw [← eW] at hD ⊢
  obtain ⟨pv, epv⟩ : ∃ z, z = Value.slice pa0 p.length px0 := ⟨_, rfl⟩
  obtain ⟨cv, ecv⟩ : ∃ z, z = Value.slice ca0 c.length cx0 := ⟨_, rfl⟩
  rw [← epv, ← ecv] at hD
  clear cu1 g1 bR bA hcl ho hq hap hsp hsc eW eA epv ecv hz1
  refine (once_any V g v l 7 _ hD.cu (by decide) (by decide)).mono ?_
  rintro e w4 ⟨b, rfl, cu, hg⟩
  replace hD := hD.keepG cu hg
  clear cu hg
  cases b
  · have hpn9 : p.length ≤ 9 := by omega
    have hcn9 : c.length ≤ 9 := by omega
    have r0 := hD.br.c0
    have r1 := hD.br.c1
    have r2 := hD.br.c2
    have r3 := hD.br.c3
    have rf0 := hD.br.f0
    have rf1 := hD.br.f1
    have rf2 := hD.br.f2
    have rf3 := hD.br.f3
    have a0 := hD.bx.c0
    have a1 := hD.bx.c1
    have a2 := hD.bx.c2
    have a3 := hD.bx.c3
    obtain ⟨qa, qx, rfl⟩ := hD.op.len
    obtain ⟨ra, rx, rfl⟩ := hD.oc.len
    go_wp2_with fail
    have bE := (((hD.br.set0 (u := .slice qa p.length qx)).set1 (u := .int .i64 pr)).set2 (u := .slice ra c.length rx)).set3 (u := .int .i64 bw)
    have e0 := bE.c0
    have e1 := bE.c1
    have e2 := bE.c2
    have e3 := bE.c3
    have hR1 := hD.Rb
    have hRV : V.heap.size ≤ w.heap.size := HV.out
    have hA1 := Nat.le_of_lt hD.Rb
    exact bodyPost_ret (v := .agg #[.slice qa p.length qx, .int .i64 pr, .slice ra c.length rx, .int .i64 bw]) (by simp [results, Tryd.results40, go_sem, e0, e1, e2, e3]) rfl
      ⟨_, _, _, _, p, c, rfl, (((hD.cu.setNew hRg hRV).setNew hRg hRV).setNew hRg hRV).setNew hRg hRV, grown_setNew (grown_setNew (grown_setNew (grown_setNew hD.gr (Nat.le_refl _)) (Nat.le_refl _)) (Nat.le_refl _)) (Nat.le_refl _), ((((hD.op.far (o := 0) hR1).far (o := 1) hR1).far (o := 2) hR1).far (o := 3) hR1).mono hA1, ((((hD.oc.far (o := 0) hR1).far (o := 1) hR1).far (o := 2) hR1).far (o := 3) hR1).mono hA1, hD.ap, hD.sp, hD.sc, hpn9, hcn9, hpr, hbw, trivial⟩
  · go_wp2_with fail
    refine (below_any V g v l 5 _ hD.cu (by decide) (by decide)).mono ?_
    rintro e w5 ⟨q, rfl, ⟨hq0, hq1⟩, cu, hg⟩
    replace hD := hD.keepG cu hg
    clear cu hg
    by_cases q0 : q = 0
    · subst q0
      clear hq0 hq1
      have hLN := Lib.hid (show p.length + 1 ≤ 20 by omega)
      go_wp2_with fail
      refine wp_region_held_drew (S := fun _ => True) (by kernel_rfl) trivial (fun hHeld => ?_)
      replace hD := hD.drew
      obtain ⟨u0, e0⟩ : ∃ u, u = w5.drew := ⟨_, rfl⟩
      rw [← e0] at hD ⊢
      clear e0 hHeld
      refine wpAnyH_take (i := 0) (v := ?_) rfl (by kernel_rfl) (by kernel_rfl) (by kernel_rfl) (fun _ _ _ h => h) (Or.inl ⟨by rfl, ?_⟩) trivial ?_
      rotate_left
      · intro wq hSq
        (try dsimp only at hSq)

        go_simp
        try rfl
      change wpAnyH _ _ _ _ _ _ _ (Act.put _ (some 24) _) _
      simp only [Act.put, List.setIfInBounds_toArray, List.set_cons_succ, List.set_cons_zero]
      refine wpAnyH_take (i := 2) (v := ?_) rfl (by kernel_rfl) (by kernel_rfl) (by kernel_rfl) (fun _ _ _ h => h) (Or.inl ⟨by rfl, ?_⟩) trivial ?_
      rotate_left
      · intro wq hSq
        (try dsimp only at hSq)

        go_simp
        try rfl
      change wpAnyH _ _ _ _ _ _ _ (Act.put _ (some 26) _) _
      simp only [Act.put, List.setIfInBounds_toArray, List.set_cons_succ, List.set_cons_zero]
      refine wpAnyH_ready (rs := [1, 3]) (by kernel_rfl) (by simp) ?_
      refine (AllReadyH.cons rfl (fun K hK => ?_) (AllReadyH.cons rfl (fun K hK => ?_) AllReadyH.nil))
      · have q0 := hD.bx.c0
        go_simp
        clear q0
        refine hK.out _ _ trivial (fun _ => ?_)
        clear hK K
        try simp only [Act.put, List.setIfInBounds_toArray, List.set_cons_zero, List.set_cons_succ]
        refine wpAnyH_ready (rs := [3]) (by kernel_rfl) (by simp) ?_
        refine (AllReadyH.cons rfl (fun K hK => ?_) AllReadyH.nil)
        go_simp
        have hcg := hD.cu.lt
        replace hD := hD.alloc (.cells #[.int .i64 0, .int .i64 65536, .int .i64 5] IT)
        have hL := lit_cells u0 [0, 65536, 5] IT u0.heap.size rfl
        have hbl : u0.heap.size < (u0.alloc (.cells #[.int .i64 0, .int .i64 65536, .int .i64 5] IT)).heap.size := by simp
        refine hK.out _ _ trivial (fun _ => ?_)
        clear hK K
        try simp only [Act.put, List.setIfInBounds_toArray, List.set_cons_zero, List.set_cons_succ]
        obtain ⟨B, eB⟩ : ∃ B, B = u0.heap.size := ⟨_, rfl⟩
        obtain ⟨u0b, eW⟩ : ∃ u, u = u0.alloc (.cells #[.int .i64 0, .int .i64 65536, .int .i64 5] IT) := ⟨_, rfl⟩
        have hbg : B ≠ g := by omega
        rw [← eB] at hL hbl
        have hL2 : ∀ i, i < 3 → u0b.cell? ⟨B, i, none⟩ = some (.int .i64 ([0, 65536, 5].getD i 0)) := by rw [eW]; exact hL
        clear hL
        rw [← eW] at hD hbl ⊢
        try rw [← eB]
        clear eB eW hcg
        refine wpAnyH_ready (rs := [4]) (by kernel_rfl) (by simp) ?_
        refine (AllReadyH.cons rfl (fun K hK => ?_) AllReadyH.nil)
        go_simp
        refine (pick_any V g v l (fun i => [0, 65536, 5].getD i 0) 3 B _ hD.cu (by decide) (by decide) hbg hbl hL2).mono ?_
        rintro e u0bc ⟨x, rfl, ⟨i, hi, hx⟩, cu, hg⟩
        replace hD := hD.keepG cu hg
        clear cu hg hL2 hbl hbg
        have hxb : 0 ≤ x ∧ x ≤ 65536 := by
          have q : ∀ i, i < 3 → (0 : Int) ≤ [0, 65536, 5].getD i 0 ∧ [0, 65536, 5].getD i (0 : Int) ≤ 65536 := by decide
          rw [hx]; exact q i hi
        clear hx hi
        refine hK.out _ _ trivial (fun _ => ?_)
        clear hK K
        try simp only [Act.put, List.setIfInBounds_toArray, List.set_cons_zero, List.set_cons_succ]
        refine wpAnyH_ready (rs := [5]) (by kernel_rfl) (by simp) ?_
        refine (AllReadyH.cons rfl (fun K hK => ?_) AllReadyH.nil)
        go_simp
        replace hD := hD.alloc (.cells #[.int .i64 x] IT)
        have hc0 : (u0bc.alloc (.cells #[.int .i64 x] IT)).cell? ⟨u0bc.heap.size, 0, none⟩ = some (.int .i64 x) := by simp
        refine hK.out _ _ trivial (fun _ => ?_)
        clear hK K
        try simp only [Act.put, List.setIfInBounds_toArray, List.set_cons_zero, List.set_cons_succ]
        obtain ⟨G, eG⟩ : ∃ G, G = u0bc.heap.size := ⟨_, rfl⟩
        obtain ⟨u0bcd, eW⟩ : ∃ u, u = u0bc.alloc (.cells #[.int .i64 x] IT) := ⟨_, rfl⟩
        rw [← eW] at hD hc0 ⊢
        rw [← eG] at hc0 ⊢
        clear eG eW
        refine wpAnyH_ready (rs := [6]) (by kernel_rfl) (by simp) ?_
        refine (AllReadyH.cons rfl (fun K hK => ?_) AllReadyH.nil)
        refine step_appI rfl (.tmp 25) (.tmp 29) rfl (w.heap.size + 1) G 1 pv p x rfl rfl hD.op hc0 (by have := hD.sp.1; omega) hD.hb0 ?_
        intro v8 w8 ho8 hg8 hor8
        obtain ⟨a8, d8, hv8⟩ := ho8.len
        rw [show (p ++ [x]).length = p.length + 1 by simp] at hv8
        subst hv8
        have hq8 := hD.box0 hg8
        refine hK.out _ _ trivial (fun _ => ?_)
        clear hK K
        try simp only [Act.put, List.setIfInBounds_toArray, List.set_cons_zero, List.set_cons_succ]
        refine wpAnyH_take (i := 7) (v := ?_) rfl (by kernel_rfl) (by kernel_rfl) (by kernel_rfl) (fun _ _ _ h => h) (Or.inl ⟨by rfl, ?_⟩) trivial ?_
        rotate_left
        · intro wq hSq
          (try dsimp only at hSq)

          go_simp
          try rfl
        change wpAnyH _ _ _ _ _ _ _ (Act.put _ (some 31) _) _
        simp only [Act.put, List.setIfInBounds_toArray, List.set_cons_succ, List.set_cons_zero]
        refine wpAnyH_ready (rs := [8]) (by kernel_rfl) (by simp) ?_
        refine (AllReadyH.cons rfl (fun K hK => ?_) AllReadyH.nil)
        have r0 := hq8.c0
        have rf0 := hq8.f0
        go_simp
        clear r0 rf0
        replace hD := hD.app0 ho8 hg8 hor8 hxb (by have := hLN.out; omega)
        refine hK.out _ _ trivial (fun _ => ?_)
        clear hK K
        try simp only [Act.put, List.setIfInBounds_toArray, List.set_cons_zero, List.set_cons_succ]
        obtain ⟨w9, eW⟩ : ∃ u, u = w8.setCell ⟨A, 0, none⟩ (.slice a8 (p.length + 1) d8) := ⟨_, rfl⟩
        rw [← eW] at hD ⊢
        refine wpAnyH_done (by kernel_rfl) ?_ _
        clear hq8 ho8 hg8 hor8 hc0 eW
        obtain ⟨pv2, hv2⟩ : ∃ z, z = Value.slice a8 (p.length + 1) d8 := ⟨_, rfl⟩
        rw [← hv2] at hD
        obtain ⟨p2, hl2⟩ : ∃ z, z = p ++ [x] := ⟨_, rfl⟩
        rw [← hl2] at hD
        have hpn2 : p2.length ≤ 9 := by rw [hl2]; simp; omega
        clear hv2 hl2
        have hcn9 : c.length ≤ 9 := by omega
        have r0 := hD.br.c0
        have r1 := hD.br.c1
        have r2 := hD.br.c2
        have r3 := hD.br.c3
        have rf0 := hD.br.f0
        have rf1 := hD.br.f1
        have rf2 := hD.br.f2
        have rf3 := hD.br.f3
        have a0 := hD.bx.c0
        have a1 := hD.bx.c1
        have a2 := hD.bx.c2
        have a3 := hD.bx.c3
        obtain ⟨qa, qx, rfl⟩ := hD.op.len
        obtain ⟨ra, rx, rfl⟩ := hD.oc.len
        go_wp2_with fail
        have bE := (((hD.br.set0 (u := .slice qa p2.length qx)).set1 (u := .int .i64 pr)).set2 (u := .slice ra c.length rx)).set3 (u := .int .i64 bw)
        have e0 := bE.c0
        have e1 := bE.c1
        have e2 := bE.c2
        have e3 := bE.c3
        have hR1 := hD.Rb
        have hRV : V.heap.size ≤ w.heap.size := HV.out
        have hA1 := Nat.le_of_lt hD.Rb
        exact bodyPost_ret (v := .agg #[.slice qa p2.length qx, .int .i64 pr, .slice ra c.length rx, .int .i64 bw]) (by simp [results, Tryd.results40, go_sem, e0, e1, e2, e3]) rfl
          ⟨_, _, _, _, p2, c, rfl, (((hD.cu.setNew hRg hRV).setNew hRg hRV).setNew hRg hRV).setNew hRg hRV, grown_setNew (grown_setNew (grown_setNew (grown_setNew hD.gr (Nat.le_refl _)) (Nat.le_refl _)) (Nat.le_refl _)) (Nat.le_refl _), ((((hD.op.far (o := 0) hR1).far (o := 1) hR1).far (o := 2) hR1).far (o := 3) hR1).mono hA1, ((((hD.oc.far (o := 0) hR1).far (o := 1) hR1).far (o := 2) hR1).far (o := 3) hR1).mono hA1, hD.ap, hD.sp, hD.sc, hpn2, hcn9, hpr, hbw, trivial⟩
      · go_simp
        have hcg := hD.cu.lt
        replace hD := hD.alloc (.cells #[.int .i64 0, .int .i64 65536, .int .i64 5] IT)
        have hL := lit_cells u0 [0, 65536, 5] IT u0.heap.size rfl
        have hbl : u0.heap.size < (u0.alloc (.cells #[.int .i64 0, .int .i64 65536, .int .i64 5] IT)).heap.size := by simp
        refine hK.out _ _ trivial (fun _ => ?_)
        clear hK K
        try simp only [Act.put, List.setIfInBounds_toArray, List.set_cons_zero, List.set_cons_succ]
        obtain ⟨B, eB⟩ : ∃ B, B = u0.heap.size := ⟨_, rfl⟩
        obtain ⟨u0b, eW⟩ : ∃ u, u = u0.alloc (.cells #[.int .i64 0, .int .i64 65536, .int .i64 5] IT) := ⟨_, rfl⟩
        have hbg : B ≠ g := by omega
        rw [← eB] at hL hbl
        have hL2 : ∀ i, i < 3 → u0b.cell? ⟨B, i, none⟩ = some (.int .i64 ([0, 65536, 5].getD i 0)) := by rw [eW]; exact hL
        clear hL
        rw [← eW] at hD hbl ⊢
        try rw [← eB]
        clear eB eW hcg
        refine wpAnyH_ready (rs := [1, 4]) (by kernel_rfl) (by simp) ?_
        refine (AllReadyH.cons rfl (fun K hK => ?_) (AllReadyH.cons rfl (fun K hK => ?_) AllReadyH.nil))
        · have q0 := hD.bx.c0
          go_simp
          clear q0
          refine hK.out _ _ trivial (fun _ => ?_)
          clear hK K
          try simp only [Act.put, List.setIfInBounds_toArray, List.set_cons_zero, List.set_cons_succ]
          refine wpAnyH_ready (rs := [4]) (by kernel_rfl) (by simp) ?_
          refine (AllReadyH.cons rfl (fun K hK => ?_) AllReadyH.nil)
          go_simp
          refine (pick_any V g v l (fun i => [0, 65536, 5].getD i 0) 3 B _ hD.cu (by decide) (by decide) hbg hbl hL2).mono ?_
          rintro e u0bc ⟨x, rfl, ⟨i, hi, hx⟩, cu, hg⟩
          replace hD := hD.keepG cu hg
          clear cu hg hL2 hbl hbg
          have hxb : 0 ≤ x ∧ x ≤ 65536 := by
            have q : ∀ i, i < 3 → (0 : Int) ≤ [0, 65536, 5].getD i 0 ∧ [0, 65536, 5].getD i (0 : Int) ≤ 65536 := by decide
            rw [hx]; exact q i hi
          clear hx hi
          refine hK.out _ _ trivial (fun _ => ?_)
          clear hK K
          try simp only [Act.put, List.setIfInBounds_toArray, List.set_cons_zero, List.set_cons_succ]
          refine wpAnyH_ready (rs := [5]) (by kernel_rfl) (by simp) ?_
          refine (AllReadyH.cons rfl (fun K hK => ?_) AllReadyH.nil)
          go_simp
          replace hD := hD.alloc (.cells #[.int .i64 x] IT)
          have hc0 : (u0bc.alloc (.cells #[.int .i64 x] IT)).cell? ⟨u0bc.heap.size, 0, none⟩ = some (.int .i64 x) := by simp
          refine hK.out _ _ trivial (fun _ => ?_)
          clear hK K
          try simp only [Act.put, List.setIfInBounds_toArray, List.set_cons_zero, List.set_cons_succ]
          obtain ⟨G, eG⟩ : ∃ G, G = u0bc.heap.size := ⟨_, rfl⟩
          obtain ⟨u0bcd, eW⟩ : ∃ u, u = u0bc.alloc (.cells #[.int .i64 x] IT) := ⟨_, rfl⟩
          rw [← eW] at hD hc0 ⊢
          rw [← eG] at hc0 ⊢
          clear eG eW
          refine wpAnyH_ready (rs := [6]) (by kernel_rfl) (by simp) ?_
          refine (AllReadyH.cons rfl (fun K hK => ?_) AllReadyH.nil)
          refine step_appI rfl (.tmp 25) (.tmp 29) rfl (w.heap.size + 1) G 1 pv p x rfl rfl hD.op hc0 (by have := hD.sp.1; omega) hD.hb0 ?_
          intro v8 w8 ho8 hg8 hor8
          obtain ⟨a8, d8, hv8⟩ := ho8.len
          rw [show (p ++ [x]).length = p.length + 1 by simp] at hv8
          subst hv8
          have hq8 := hD.box0 hg8
          refine hK.out _ _ trivial (fun _ => ?_)
          clear hK K
          try simp only [Act.put, List.setIfInBounds_toArray, List.set_cons_zero, List.set_cons_succ]
          refine wpAnyH_take (i := 7) (v := ?_) rfl (by kernel_rfl) (by kernel_rfl) (by kernel_rfl) (fun _ _ _ h => h) (Or.inl ⟨by rfl, ?_⟩) trivial ?_
          rotate_left
          · intro wq hSq
            (try dsimp only at hSq)

            go_simp
            try rfl
          change wpAnyH _ _ _ _ _ _ _ (Act.put _ (some 31) _) _
          simp only [Act.put, List.setIfInBounds_toArray, List.set_cons_succ, List.set_cons_zero]
          refine wpAnyH_ready (rs := [8]) (by kernel_rfl) (by simp) ?_
          refine (AllReadyH.cons rfl (fun K hK => ?_) AllReadyH.nil)
          have r0 := hq8.c0
          have rf0 := hq8.f0
          go_simp
          clear r0 rf0
          replace hD := hD.app0 ho8 hg8 hor8 hxb (by have := hLN.out; omega)
          refine hK.out _ _ trivial (fun _ => ?_)
          clear hK K
          try simp only [Act.put, List.setIfInBounds_toArray, List.set_cons_zero, List.set_cons_succ]
          obtain ⟨w9, eW⟩ : ∃ u, u = w8.setCell ⟨A, 0, none⟩ (.slice a8 (p.length + 1) d8) := ⟨_, rfl⟩
          rw [← eW] at hD ⊢
          refine wpAnyH_done (by kernel_rfl) ?_ _
          clear hq8 ho8 hg8 hor8 hc0 eW
          obtain ⟨pv2, hv2⟩ : ∃ z, z = Value.slice a8 (p.length + 1) d8 := ⟨_, rfl⟩
          rw [← hv2] at hD
          obtain ⟨p2, hl2⟩ : ∃ z, z = p ++ [x] := ⟨_, rfl⟩
          rw [← hl2] at hD
          have hpn2 : p2.length ≤ 9 := by rw [hl2]; simp; omega
          clear hv2 hl2
          have hcn9 : c.length ≤ 9 := by omega
          have r0 := hD.br.c0
          have r1 := hD.br.c1
          have r2 := hD.br.c2
          have r3 := hD.br.c3
          have rf0 := hD.br.f0
          have rf1 := hD.br.f1
          have rf2 := hD.br.f2
          have rf3 := hD.br.f3
          have a0 := hD.bx.c0
          have a1 := hD.bx.c1
          have a2 := hD.bx.c2
          have a3 := hD.bx.c3
          obtain ⟨qa, qx, rfl⟩ := hD.op.len
          obtain ⟨ra, rx, rfl⟩ := hD.oc.len
          go_wp2_with fail
          have bE := (((hD.br.set0 (u := .slice qa p2.length qx)).set1 (u := .int .i64 pr)).set2 (u := .slice ra c.length rx)).set3 (u := .int .i64 bw)
          have e0 := bE.c0
          have e1 := bE.c1
          have e2 := bE.c2
          have e3 := bE.c3
          have hR1 := hD.Rb
          have hRV : V.heap.size ≤ w.heap.size := HV.out
          have hA1 := Nat.le_of_lt hD.Rb
          exact bodyPost_ret (v := .agg #[.slice qa p2.length qx, .int .i64 pr, .slice ra c.length rx, .int .i64 bw]) (by simp [results, Tryd.results40, go_sem, e0, e1, e2, e3]) rfl
            ⟨_, _, _, _, p2, c, rfl, (((hD.cu.setNew hRg hRV).setNew hRg hRV).setNew hRg hRV).setNew hRg hRV, grown_setNew (grown_setNew (grown_setNew (grown_setNew hD.gr (Nat.le_refl _)) (Nat.le_refl _)) (Nat.le_refl _)) (Nat.le_refl _), ((((hD.op.far (o := 0) hR1).far (o := 1) hR1).far (o := 2) hR1).far (o := 3) hR1).mono hA1, ((((hD.oc.far (o := 0) hR1).far (o := 1) hR1).far (o := 2) hR1).far (o := 3) hR1).mono hA1, hD.ap, hD.sp, hD.sc, hpn2, hcn9, hpr, hbw, trivial⟩
        · go_simp
          refine (pick_any V g v l (fun i => [0, 65536, 5].getD i 0) 3 B _ hD.cu (by decide) (by decide) hbg hbl hL2).mono ?_
          rintro e u0bc ⟨x, rfl, ⟨i, hi, hx⟩, cu, hg⟩
          replace hD := hD.keepG cu hg
          clear cu hg hL2 hbl hbg
          have hxb : 0 ≤ x ∧ x ≤ 65536 := by
            have q : ∀ i, i < 3 → (0 : Int) ≤ [0, 65536, 5].getD i 0 ∧ [0, 65536, 5].getD i (0 : Int) ≤ 65536 := by decide
            rw [hx]; exact q i hi
          clear hx hi
          refine hK.out _ _ trivial (fun _ => ?_)
          clear hK K
          try simp only [Act.put, List.setIfInBounds_toArray, List.set_cons_zero, List.set_cons_succ]
          refine wpAnyH_ready (rs := [1, 5]) (by kernel_rfl) (by simp) ?_
          refine (AllReadyH.cons rfl (fun K hK => ?_) (AllReadyH.cons rfl (fun K hK => ?_) AllReadyH.nil))
          · have q0 := hD.bx.c0
            go_simp
            clear q0
            refine hK.out _ _ trivial (fun _ => ?_)
            clear hK K
            try simp only [Act.put, List.setIfInBounds_toArray, List.set_cons_zero, List.set_cons_succ]
            refine wpAnyH_ready (rs := [5]) (by kernel_rfl) (by simp) ?_
            refine (AllReadyH.cons rfl (fun K hK => ?_) AllReadyH.nil)
            go_simp
            replace hD := hD.alloc (.cells #[.int .i64 x] IT)
            have hc0 : (u0bc.alloc (.cells #[.int .i64 x] IT)).cell? ⟨u0bc.heap.size, 0, none⟩ = some (.int .i64 x) := by simp
            refine hK.out _ _ trivial (fun _ => ?_)
            clear hK K
            try simp only [Act.put, List.setIfInBounds_toArray, List.set_cons_zero, List.set_cons_succ]
            obtain ⟨G, eG⟩ : ∃ G, G = u0bc.heap.size := ⟨_, rfl⟩
            obtain ⟨u0bcd, eW⟩ : ∃ u, u = u0bc.alloc (.cells #[.int .i64 x] IT) := ⟨_, rfl⟩
            rw [← eW] at hD hc0 ⊢
            rw [← eG] at hc0 ⊢
            clear eG eW
            refine wpAnyH_ready (rs := [6]) (by kernel_rfl) (by simp) ?_
            refine (AllReadyH.cons rfl (fun K hK => ?_) AllReadyH.nil)
            refine step_appI rfl (.tmp 25) (.tmp 29) rfl (w.heap.size + 1) G 1 pv p x rfl rfl hD.op hc0 (by have := hD.sp.1; omega) hD.hb0 ?_
            intro v8 w8 ho8 hg8 hor8
            obtain ⟨a8, d8, hv8⟩ := ho8.len
            rw [show (p ++ [x]).length = p.length + 1 by simp] at hv8
            subst hv8
            have hq8 := hD.box0 hg8
            refine hK.out _ _ trivial (fun _ => ?_)
            clear hK K
            try simp only [Act.put, List.setIfInBounds_toArray, List.set_cons_zero, List.set_cons_succ]
            refine wpAnyH_take (i := 7) (v := ?_) rfl (by kernel_rfl) (by kernel_rfl) (by kernel_rfl) (fun _ _ _ h => h) (Or.inl ⟨by rfl, ?_⟩) trivial ?_
            rotate_left
            · intro wq hSq
              (try dsimp only at hSq)

              go_simp
              try rfl
            change wpAnyH _ _ _ _ _ _ _ (Act.put _ (some 31) _) _
            simp only [Act.put, List.setIfInBounds_toArray, List.set_cons_succ, List.set_cons_zero]
            refine wpAnyH_ready (rs := [8]) (by kernel_rfl) (by simp) ?_
            refine (AllReadyH.cons rfl (fun K hK => ?_) AllReadyH.nil)
            have r0 := hq8.c0
            have rf0 := hq8.f0
            go_simp
            clear r0 rf0
            replace hD := hD.app0 ho8 hg8 hor8 hxb (by have := hLN.out; omega)
            refine hK.out _ _ trivial (fun _ => ?_)
            clear hK K
            try simp only [Act.put, List.setIfInBounds_toArray, List.set_cons_zero, List.set_cons_succ]
            obtain ⟨w9, eW⟩ : ∃ u, u = w8.setCell ⟨A, 0, none⟩ (.slice a8 (p.length + 1) d8) := ⟨_, rfl⟩
            rw [← eW] at hD ⊢
            refine wpAnyH_done (by kernel_rfl) ?_ _
            clear hq8 ho8 hg8 hor8 hc0 eW
            obtain ⟨pv2, hv2⟩ : ∃ z, z = Value.slice a8 (p.length + 1) d8 := ⟨_, rfl⟩
            rw [← hv2] at hD
            obtain ⟨p2, hl2⟩ : ∃ z, z = p ++ [x] := ⟨_, rfl⟩
            rw [← hl2] at hD
            have hpn2 : p2.length ≤ 9 := by rw [hl2]; simp; omega
            clear hv2 hl2
            have hcn9 : c.length ≤ 9 := by omega
            have r0 := hD.br.c0
            have r1 := hD.br.c1
            have r2 := hD.br.c2
            have r3 := hD.br.c3
            have rf0 := hD.br.f0
            have rf1 := hD.br.f1
            have rf2 := hD.br.f2
            have rf3 := hD.br.f3
            have a0 := hD.bx.c0
            have a1 := hD.bx.c1
            have a2 := hD.bx.c2
            have a3 := hD.bx.c3
            obtain ⟨qa, qx, rfl⟩ := hD.op.len
            obtain ⟨ra, rx, rfl⟩ := hD.oc.len
            go_wp2_with fail
            have bE := (((hD.br.set0 (u := .slice qa p2.length qx)).set1 (u := .int .i64 pr)).set2 (u := .slice ra c.length rx)).set3 (u := .int .i64 bw)
            have e0 := bE.c0
            have e1 := bE.c1
            have e2 := bE.c2
            have e3 := bE.c3
            have hR1 := hD.Rb
            have hRV : V.heap.size ≤ w.heap.size := HV.out
            have hA1 := Nat.le_of_lt hD.Rb
            exact bodyPost_ret (v := .agg #[.slice qa p2.length qx, .int .i64 pr, .slice ra c.length rx, .int .i64 bw]) (by simp [results, Tryd.results40, go_sem, e0, e1, e2, e3]) rfl
              ⟨_, _, _, _, p2, c, rfl, (((hD.cu.setNew hRg hRV).setNew hRg hRV).setNew hRg hRV).setNew hRg hRV, grown_setNew (grown_setNew (grown_setNew (grown_setNew hD.gr (Nat.le_refl _)) (Nat.le_refl _)) (Nat.le_refl _)) (Nat.le_refl _), ((((hD.op.far (o := 0) hR1).far (o := 1) hR1).far (o := 2) hR1).far (o := 3) hR1).mono hA1, ((((hD.oc.far (o := 0) hR1).far (o := 1) hR1).far (o := 2) hR1).far (o := 3) hR1).mono hA1, hD.ap, hD.sp, hD.sc, hpn2, hcn9, hpr, hbw, trivial⟩
          · go_simp
            replace hD := hD.alloc (.cells #[.int .i64 x] IT)
            have hc0 : (u0bc.alloc (.cells #[.int .i64 x] IT)).cell? ⟨u0bc.heap.size, 0, none⟩ = some (.int .i64 x) := by simp
            refine hK.out _ _ trivial (fun _ => ?_)
            clear hK K
            try simp only [Act.put, List.setIfInBounds_toArray, List.set_cons_zero, List.set_cons_succ]
            obtain ⟨G, eG⟩ : ∃ G, G = u0bc.heap.size := ⟨_, rfl⟩
            obtain ⟨u0bcd, eW⟩ : ∃ u, u = u0bc.alloc (.cells #[.int .i64 x] IT) := ⟨_, rfl⟩
            rw [← eW] at hD hc0 ⊢
            rw [← eG] at hc0 ⊢
            clear eG eW
            refine wpAnyH_ready (rs := [1]) (by kernel_rfl) (by simp) ?_
            refine (AllReadyH.cons rfl (fun K hK => ?_) AllReadyH.nil)
            have q0 := hD.bx.c0
            go_simp
            clear q0
            refine hK.out _ _ trivial (fun _ => ?_)
            clear hK K
            try simp only [Act.put, List.setIfInBounds_toArray, List.set_cons_zero, List.set_cons_succ]
            refine wpAnyH_ready (rs := [6]) (by kernel_rfl) (by simp) ?_
            refine (AllReadyH.cons rfl (fun K hK => ?_) AllReadyH.nil)
            refine step_appI rfl (.tmp 25) (.tmp 29) rfl (w.heap.size + 1) G 1 pv p x rfl rfl hD.op hc0 (by have := hD.sp.1; omega) hD.hb0 ?_
            intro v8 w8 ho8 hg8 hor8
            obtain ⟨a8, d8, hv8⟩ := ho8.len
            rw [show (p ++ [x]).length = p.length + 1 by simp] at hv8
            subst hv8
            have hq8 := hD.box0 hg8
            refine hK.out _ _ trivial (fun _ => ?_)
            clear hK K
            try simp only [Act.put, List.setIfInBounds_toArray, List.set_cons_zero, List.set_cons_succ]
            refine wpAnyH_take (i := 7) (v := ?_) rfl (by kernel_rfl) (by kernel_rfl) (by kernel_rfl) (fun _ _ _ h => h) (Or.inl ⟨by rfl, ?_⟩) trivial ?_
            rotate_left
            · intro wq hSq
              (try dsimp only at hSq)

              go_simp
              try rfl
            change wpAnyH _ _ _ _ _ _ _ (Act.put _ (some 31) _) _
            simp only [Act.put, List.setIfInBounds_toArray, List.set_cons_succ, List.set_cons_zero]
            refine wpAnyH_ready (rs := [8]) (by kernel_rfl) (by simp) ?_
            refine (AllReadyH.cons rfl (fun K hK => ?_) AllReadyH.nil)
            have r0 := hq8.c0
            have rf0 := hq8.f0
            go_simp
            clear r0 rf0
            replace hD := hD.app0 ho8 hg8 hor8 hxb (by have := hLN.out; omega)
            refine hK.out _ _ trivial (fun _ => ?_)
            clear hK K
            try simp only [Act.put, List.setIfInBounds_toArray, List.set_cons_zero, List.set_cons_succ]
            obtain ⟨w9, eW⟩ : ∃ u, u = w8.setCell ⟨A, 0, none⟩ (.slice a8 (p.length + 1) d8) := ⟨_, rfl⟩
            rw [← eW] at hD ⊢
            refine wpAnyH_done (by kernel_rfl) ?_ _
            clear hq8 ho8 hg8 hor8 hc0 eW
            obtain ⟨pv2, hv2⟩ : ∃ z, z = Value.slice a8 (p.length + 1) d8 := ⟨_, rfl⟩
            rw [← hv2] at hD
            obtain ⟨p2, hl2⟩ : ∃ z, z = p ++ [x] := ⟨_, rfl⟩
            rw [← hl2] at hD
            have hpn2 : p2.length ≤ 9 := by rw [hl2]; simp; omega
            clear hv2 hl2
            have hcn9 : c.length ≤ 9 := by omega
            have r0 := hD.br.c0
            have r1 := hD.br.c1
            have r2 := hD.br.c2
            have r3 := hD.br.c3
            have rf0 := hD.br.f0
            have rf1 := hD.br.f1
            have rf2 := hD.br.f2
            have rf3 := hD.br.f3
            have a0 := hD.bx.c0
            have a1 := hD.bx.c1
            have a2 := hD.bx.c2
            have a3 := hD.bx.c3
            obtain ⟨qa, qx, rfl⟩ := hD.op.len
            obtain ⟨ra, rx, rfl⟩ := hD.oc.len
            go_wp2_with fail
            have bE := (((hD.br.set0 (u := .slice qa p2.length qx)).set1 (u := .int .i64 pr)).set2 (u := .slice ra c.length rx)).set3 (u := .int .i64 bw)
            have e0 := bE.c0
            have e1 := bE.c1
            have e2 := bE.c2
            have e3 := bE.c3
            have hR1 := hD.Rb
            have hRV : V.heap.size ≤ w.heap.size := HV.out
            have hA1 := Nat.le_of_lt hD.Rb
            exact bodyPost_ret (v := .agg #[.slice qa p2.length qx, .int .i64 pr, .slice ra c.length rx, .int .i64 bw]) (by simp [results, Tryd.results40, go_sem, e0, e1, e2, e3]) rfl
              ⟨_, _, _, _, p2, c, rfl, (((hD.cu.setNew hRg hRV).setNew hRg hRV).setNew hRg hRV).setNew hRg hRV, grown_setNew (grown_setNew (grown_setNew (grown_setNew hD.gr (Nat.le_refl _)) (Nat.le_refl _)) (Nat.le_refl _)) (Nat.le_refl _), ((((hD.op.far (o := 0) hR1).far (o := 1) hR1).far (o := 2) hR1).far (o := 3) hR1).mono hA1, ((((hD.oc.far (o := 0) hR1).far (o := 1) hR1).far (o := 2) hR1).far (o := 3) hR1).mono hA1, hD.ap, hD.sp, hD.sc, hpn2, hcn9, hpr, hbw, trivial⟩
    · skip
      by_cases q1 : q = 1
      · subst q1
        clear hq0 hq1
        have hLN := Lib.hid (show c.length + 1 ≤ 20 by omega)
        go_wp2_with fail
        refine wp_region_held_drew (S := fun _ => True) (by kernel_rfl) trivial (fun hHeld => ?_)
        replace hD := hD.drew
        obtain ⟨u0, e0⟩ : ∃ u, u = w5.drew := ⟨_, rfl⟩
        rw [← e0] at hD ⊢
        clear e0 hHeld
        refine wpAnyH_take (i := 0) (v := ?_) rfl (by kernel_rfl) (by kernel_rfl) (by kernel_rfl) (fun _ _ _ h => h) (Or.inl ⟨by rfl, ?_⟩) trivial ?_
        rotate_left
        · intro wq hSq
          (try dsimp only at hSq)

          go_simp
          try rfl
        change wpAnyH _ _ _ _ _ _ _ (Act.put _ (some 34) _) _
        simp only [Act.put, List.setIfInBounds_toArray, List.set_cons_succ, List.set_cons_zero]
        refine wpAnyH_take (i := 2) (v := ?_) rfl (by kernel_rfl) (by kernel_rfl) (by kernel_rfl) (fun _ _ _ h => h) (Or.inl ⟨by rfl, ?_⟩) trivial ?_
        rotate_left
        · intro wq hSq
          (try dsimp only at hSq)

          go_simp
          try rfl
        change wpAnyH _ _ _ _ _ _ _ (Act.put _ (some 36) _) _
        simp only [Act.put, List.setIfInBounds_toArray, List.set_cons_succ, List.set_cons_zero]
        refine wpAnyH_ready (rs := [1, 3]) (by kernel_rfl) (by simp) ?_
        refine (AllReadyH.cons rfl (fun K hK => ?_) (AllReadyH.cons rfl (fun K hK => ?_) AllReadyH.nil))
        · have q0 := hD.bx.c2
          go_simp
          clear q0
          refine hK.out _ _ trivial (fun _ => ?_)
          clear hK K
          try simp only [Act.put, List.setIfInBounds_toArray, List.set_cons_zero, List.set_cons_succ]
          refine wpAnyH_ready (rs := [3]) (by kernel_rfl) (by simp) ?_
          refine (AllReadyH.cons rfl (fun K hK => ?_) AllReadyH.nil)
          go_simp
          have hcg := hD.cu.lt
          replace hD := hD.alloc (.cells #[.int .i64 0, .int .i64 1, .int .i64 65535, .int .i64 65536] IT)
          have hL := lit_cells u0 [0, 1, 65535, 65536] IT u0.heap.size rfl
          have hbl : u0.heap.size < (u0.alloc (.cells #[.int .i64 0, .int .i64 1, .int .i64 65535, .int .i64 65536] IT)).heap.size := by simp
          refine hK.out _ _ trivial (fun _ => ?_)
          clear hK K
          try simp only [Act.put, List.setIfInBounds_toArray, List.set_cons_zero, List.set_cons_succ]
          obtain ⟨B, eB⟩ : ∃ B, B = u0.heap.size := ⟨_, rfl⟩
          obtain ⟨u0b, eW⟩ : ∃ u, u = u0.alloc (.cells #[.int .i64 0, .int .i64 1, .int .i64 65535, .int .i64 65536] IT) := ⟨_, rfl⟩
          have hbg : B ≠ g := by omega
          rw [← eB] at hL hbl
          have hL2 : ∀ i, i < 4 → u0b.cell? ⟨B, i, none⟩ = some (.int .i64 ([0, 1, 65535, 65536].getD i 0)) := by rw [eW]; exact hL
          clear hL
          rw [← eW] at hD hbl ⊢
          try rw [← eB]
          clear eB eW hcg
          refine wpAnyH_ready (rs := [4]) (by kernel_rfl) (by simp) ?_
          refine (AllReadyH.cons rfl (fun K hK => ?_) AllReadyH.nil)
          go_simp
          refine (pick_any V g v l (fun i => [0, 1, 65535, 65536].getD i 0) 4 B _ hD.cu (by decide) (by decide) hbg hbl hL2).mono ?_
          rintro e u0bc ⟨x, rfl, ⟨i, hi, hx⟩, cu, hg⟩
          replace hD := hD.keepG cu hg
          clear cu hg hL2 hbl hbg
          have hxb : 0 ≤ x ∧ x ≤ 65536 := by
            have q : ∀ i, i < 4 → (0 : Int) ≤ [0, 1, 65535, 65536].getD i 0 ∧ [0, 1, 65535, 65536].getD i (0 : Int) ≤ 65536 := by decide
            rw [hx]; exact q i hi
          clear hx hi
          refine hK.out _ _ trivial (fun _ => ?_)
          clear hK K
          try simp only [Act.put, List.setIfInBounds_toArray, List.set_cons_zero, List.set_cons_succ]
          refine wpAnyH_ready (rs := [5]) (by kernel_rfl) (by simp) ?_
          refine (AllReadyH.cons rfl (fun K hK => ?_) AllReadyH.nil)
          go_simp
          replace hD := hD.alloc (.cells #[.int .i64 x] IT)
          have hc0 : (u0bc.alloc (.cells #[.int .i64 x] IT)).cell? ⟨u0bc.heap.size, 0, none⟩ = some (.int .i64 x) := by simp
          refine hK.out _ _ trivial (fun _ => ?_)
          clear hK K
          try simp only [Act.put, List.setIfInBounds_toArray, List.set_cons_zero, List.set_cons_succ]
          obtain ⟨G, eG⟩ : ∃ G, G = u0bc.heap.size := ⟨_, rfl⟩
          obtain ⟨u0bcd, eW⟩ : ∃ u, u = u0bc.alloc (.cells #[.int .i64 x] IT) := ⟨_, rfl⟩
          rw [← eW] at hD hc0 ⊢
          rw [← eG] at hc0 ⊢
          clear eG eW
          refine wpAnyH_ready (rs := [6]) (by kernel_rfl) (by simp) ?_
          refine (AllReadyH.cons rfl (fun K hK => ?_) AllReadyH.nil)
          refine step_appI rfl (.tmp 35) (.tmp 39) rfl (w.heap.size + 1) G 1 cv c x rfl rfl hD.oc hc0 (by have := hD.sc.1; omega) hD.hb0 ?_
          intro v8 w8 ho8 hg8 hor8
          obtain ⟨a8, d8, hv8⟩ := ho8.len
          rw [show (c ++ [x]).length = c.length + 1 by simp] at hv8
          subst hv8
          have hq8 := hD.box2 hg8
          refine hK.out _ _ trivial (fun _ => ?_)
          clear hK K
          try simp only [Act.put, List.setIfInBounds_toArray, List.set_cons_zero, List.set_cons_succ]
          refine wpAnyH_take (i := 7) (v := ?_) rfl (by kernel_rfl) (by kernel_rfl) (by kernel_rfl) (fun _ _ _ h => h) (Or.inl ⟨by rfl, ?_⟩) trivial ?_
          rotate_left
          · intro wq hSq
            (try dsimp only at hSq)

            go_simp
            try rfl
          change wpAnyH _ _ _ _ _ _ _ (Act.put _ (some 41) _) _
          simp only [Act.put, List.setIfInBounds_toArray, List.set_cons_succ, List.set_cons_zero]
          refine wpAnyH_ready (rs := [8]) (by kernel_rfl) (by simp) ?_
          refine (AllReadyH.cons rfl (fun K hK => ?_) AllReadyH.nil)
          have r0 := hq8.c2
          have rf0 := hq8.f2
          go_simp
          clear r0 rf0
          replace hD := hD.app2 ho8 hg8 hor8 hxb (by have := hLN.out; omega)
          refine hK.out _ _ trivial (fun _ => ?_)
          clear hK K
          try simp only [Act.put, List.setIfInBounds_toArray, List.set_cons_zero, List.set_cons_succ]
          obtain ⟨w9, eW⟩ : ∃ u, u = w8.setCell ⟨A, 2, none⟩ (.slice a8 (c.length + 1) d8) := ⟨_, rfl⟩
          rw [← eW] at hD ⊢
          refine wpAnyH_done (by kernel_rfl) ?_ _
          clear hq8 ho8 hg8 hor8 hc0 eW
          obtain ⟨cv2, hv2⟩ : ∃ z, z = Value.slice a8 (c.length + 1) d8 := ⟨_, rfl⟩
          rw [← hv2] at hD
          obtain ⟨c2, hl2⟩ : ∃ z, z = c ++ [x] := ⟨_, rfl⟩
          rw [← hl2] at hD
          have hcn2 : c2.length ≤ 9 := by rw [hl2]; simp; omega
          clear hv2 hl2
          have hpn9 : p.length ≤ 9 := by omega
          have r0 := hD.br.c0
          have r1 := hD.br.c1
          have r2 := hD.br.c2
          have r3 := hD.br.c3
          have rf0 := hD.br.f0
          have rf1 := hD.br.f1
          have rf2 := hD.br.f2
          have rf3 := hD.br.f3
          have a0 := hD.bx.c0
          have a1 := hD.bx.c1
          have a2 := hD.bx.c2
          have a3 := hD.bx.c3
          obtain ⟨qa, qx, rfl⟩ := hD.op.len
          obtain ⟨ra, rx, rfl⟩ := hD.oc.len
          go_wp2_with fail
          have bE := (((hD.br.set0 (u := .slice qa p.length qx)).set1 (u := .int .i64 pr)).set2 (u := .slice ra c2.length rx)).set3 (u := .int .i64 bw)
          have e0 := bE.c0
          have e1 := bE.c1
          have e2 := bE.c2
          have e3 := bE.c3
          have hR1 := hD.Rb
          have hRV : V.heap.size ≤ w.heap.size := HV.out
          have hA1 := Nat.le_of_lt hD.Rb
          exact bodyPost_ret (v := .agg #[.slice qa p.length qx, .int .i64 pr, .slice ra c2.length rx, .int .i64 bw]) (by simp [results, Tryd.results40, go_sem, e0, e1, e2, e3]) rfl
            ⟨_, _, _, _, p, c2, rfl, (((hD.cu.setNew hRg hRV).setNew hRg hRV).setNew hRg hRV).setNew hRg hRV, grown_setNew (grown_setNew (grown_setNew (grown_setNew hD.gr (Nat.le_refl _)) (Nat.le_refl _)) (Nat.le_refl _)) (Nat.le_refl _), ((((hD.op.far (o := 0) hR1).far (o := 1) hR1).far (o := 2) hR1).far (o := 3) hR1).mono hA1, ((((hD.oc.far (o := 0) hR1).far (o := 1) hR1).far (o := 2) hR1).far (o := 3) hR1).mono hA1, hD.ap, hD.sp, hD.sc, hpn9, hcn2, hpr, hbw, trivial⟩
        · go_simp
          have hcg := hD.cu.lt
          replace hD := hD.alloc (.cells #[.int .i64 0, .int .i64 1, .int .i64 65535, .int .i64 65536] IT)
          have hL := lit_cells u0 [0, 1, 65535, 65536] IT u0.heap.size rfl
          have hbl : u0.heap.size < (u0.alloc (.cells #[.int .i64 0, .int .i64 1, .int .i64 65535, .int .i64 65536] IT)).heap.size := by simp
          refine hK.out _ _ trivial (fun _ => ?_)
          clear hK K
          try simp only [Act.put, List.setIfInBounds_toArray, List.set_cons_zero, List.set_cons_succ]
          obtain ⟨B, eB⟩ : ∃ B, B = u0.heap.size := ⟨_, rfl⟩
          obtain ⟨u0b, eW⟩ : ∃ u, u = u0.alloc (.cells #[.int .i64 0, .int .i64 1, .int .i64 65535, .int .i64 65536] IT) := ⟨_, rfl⟩
          have hbg : B ≠ g := by omega
          rw [← eB] at hL hbl
          have hL2 : ∀ i, i < 4 → u0b.cell? ⟨B, i, none⟩ = some (.int .i64 ([0, 1, 65535, 65536].getD i 0)) := by rw [eW]; exact hL
          clear hL
          rw [← eW] at hD hbl ⊢
          try rw [← eB]
          clear eB eW hcg
          refine wpAnyH_ready (rs := [1, 4]) (by kernel_rfl) (by simp) ?_
          refine (AllReadyH.cons rfl (fun K hK => ?_) (AllReadyH.cons rfl (fun K hK => ?_) AllReadyH.nil))
          · have q0 := hD.bx.c2
            go_simp
            clear q0
            refine hK.out _ _ trivial (fun _ => ?_)
            clear hK K
            try simp only [Act.put, List.setIfInBounds_toArray, List.set_cons_zero, List.set_cons_succ]
            refine wpAnyH_ready (rs := [4]) (by kernel_rfl) (by simp) ?_
            refine (AllReadyH.cons rfl (fun K hK => ?_) AllReadyH.nil)
            go_simp
            refine (pick_any V g v l (fun i => [0, 1, 65535, 65536].getD i 0) 4 B _ hD.cu (by decide) (by decide) hbg hbl hL2).mono ?_
            rintro e u0bc ⟨x, rfl, ⟨i, hi, hx⟩, cu, hg⟩
            replace hD := hD.keepG cu hg
            clear cu hg hL2 hbl hbg
            have hxb : 0 ≤ x ∧ x ≤ 65536 := by
              have q : ∀ i, i < 4 → (0 : Int) ≤ [0, 1, 65535, 65536].getD i 0 ∧ [0, 1, 65535, 65536].getD i (0 : Int) ≤ 65536 := by decide
              rw [hx]; exact q i hi
            clear hx hi
            refine hK.out _ _ trivial (fun _ => ?_)
            clear hK K
            try simp only [Act.put, List.setIfInBounds_toArray, List.set_cons_zero, List.set_cons_succ]
            refine wpAnyH_ready (rs := [5]) (by kernel_rfl) (by simp) ?_
            refine (AllReadyH.cons rfl (fun K hK => ?_) AllReadyH.nil)
            go_simp
            replace hD := hD.alloc (.cells #[.int .i64 x] IT)
            have hc0 : (u0bc.alloc (.cells #[.int .i64 x] IT)).cell? ⟨u0bc.heap.size, 0, none⟩ = some (.int .i64 x) := by simp
            refine hK.out _ _ trivial (fun _ => ?_)
            clear hK K
            try simp only [Act.put, List.setIfInBounds_toArray, List.set_cons_zero, List.set_cons_succ]
            obtain ⟨G, eG⟩ : ∃ G, G = u0bc.heap.size := ⟨_, rfl⟩
            obtain ⟨u0bcd, eW⟩ : ∃ u, u = u0bc.alloc (.cells #[.int .i64 x] IT) := ⟨_, rfl⟩
            rw [← eW] at hD hc0 ⊢
            rw [← eG] at hc0 ⊢
            clear eG eW
            refine wpAnyH_ready (rs := [6]) (by kernel_rfl) (by simp) ?_
            refine (AllReadyH.cons rfl (fun K hK => ?_) AllReadyH.nil)
            refine step_appI rfl (.tmp 35) (.tmp 39) rfl (w.heap.size + 1) G 1 cv c x rfl rfl hD.oc hc0 (by have := hD.sc.1; omega) hD.hb0 ?_
            intro v8 w8 ho8 hg8 hor8
            obtain ⟨a8, d8, hv8⟩ := ho8.len
            rw [show (c ++ [x]).length = c.length + 1 by simp] at hv8
            subst hv8
            have hq8 := hD.box2 hg8
            refine hK.out _ _ trivial (fun _ => ?_)
            clear hK K
            try simp only [Act.put, List.setIfInBounds_toArray, List.set_cons_zero, List.set_cons_succ]
            refine wpAnyH_take (i := 7) (v := ?_) rfl (by kernel_rfl) (by kernel_rfl) (by kernel_rfl) (fun _ _ _ h => h) (Or.inl ⟨by rfl, ?_⟩) trivial ?_
            rotate_left
            · intro wq hSq
              (try dsimp only at hSq)

              go_simp
              try rfl
            change wpAnyH _ _ _ _ _ _ _ (Act.put _ (some 41) _) _
            simp only [Act.put, List.setIfInBounds_toArray, List.set_cons_succ, List.set_cons_zero]
            refine wpAnyH_ready (rs := [8]) (by kernel_rfl) (by simp) ?_
            refine (AllReadyH.cons rfl (fun K hK => ?_) AllReadyH.nil)
            have r0 := hq8.c2
            have rf0 := hq8.f2
            go_simp
            clear r0 rf0
            replace hD := hD.app2 ho8 hg8 hor8 hxb (by have := hLN.out; omega)
            refine hK.out _ _ trivial (fun _ => ?_)
            clear hK K
            try simp only [Act.put, List.setIfInBounds_toArray, List.set_cons_zero, List.set_cons_succ]
            obtain ⟨w9, eW⟩ : ∃ u, u = w8.setCell ⟨A, 2, none⟩ (.slice a8 (c.length + 1) d8) := ⟨_, rfl⟩
            rw [← eW] at hD ⊢
            refine wpAnyH_done (by kernel_rfl) ?_ _
            clear hq8 ho8 hg8 hor8 hc0 eW
            obtain ⟨cv2, hv2⟩ : ∃ z, z = Value.slice a8 (c.length + 1) d8 := ⟨_, rfl⟩
            rw [← hv2] at hD
            obtain ⟨c2, hl2⟩ : ∃ z, z = c ++ [x] := ⟨_, rfl⟩
            rw [← hl2] at hD
            have hcn2 : c2.length ≤ 9 := by rw [hl2]; simp; omega
            clear hv2 hl2
            have hpn9 : p.length ≤ 9 := by omega
            have r0 := hD.br.c0
            have r1 := hD.br.c1
            have r2 := hD.br.c2
            have r3 := hD.br.c3
            have rf0 := hD.br.f0
            have rf1 := hD.br.f1
            have rf2 := hD.br.f2
            have rf3 := hD.br.f3
            have a0 := hD.bx.c0
            have a1 := hD.bx.c1
            have a2 := hD.bx.c2
            have a3 := hD.bx.c3
            obtain ⟨qa, qx, rfl⟩ := hD.op.len
            obtain ⟨ra, rx, rfl⟩ := hD.oc.len
            go_wp2_with fail
            have bE := (((hD.br.set0 (u := .slice qa p.length qx)).set1 (u := .int .i64 pr)).set2 (u := .slice ra c2.length rx)).set3 (u := .int .i64 bw)
            have e0 := bE.c0
            have e1 := bE.c1
            have e2 := bE.c2
            have e3 := bE.c3
            have hR1 := hD.Rb
            have hRV : V.heap.size ≤ w.heap.size := HV.out
            have hA1 := Nat.le_of_lt hD.Rb
            exact bodyPost_ret (v := .agg #[.slice qa p.length qx, .int .i64 pr, .slice ra c2.length rx, .int .i64 bw]) (by simp [results, Tryd.results40, go_sem, e0, e1, e2, e3]) rfl
              ⟨_, _, _, _, p, c2, rfl, (((hD.cu.setNew hRg hRV).setNew hRg hRV).setNew hRg hRV).setNew hRg hRV, grown_setNew (grown_setNew (grown_setNew (grown_setNew hD.gr (Nat.le_refl _)) (Nat.le_refl _)) (Nat.le_refl _)) (Nat.le_refl _), ((((hD.op.far (o := 0) hR1).far (o := 1) hR1).far (o := 2) hR1).far (o := 3) hR1).mono hA1, ((((hD.oc.far (o := 0) hR1).far (o := 1) hR1).far (o := 2) hR1).far (o := 3) hR1).mono hA1, hD.ap, hD.sp, hD.sc, hpn9, hcn2, hpr, hbw, trivial⟩
          · go_simp
            refine (pick_any V g v l (fun i => [0, 1, 65535, 65536].getD i 0) 4 B _ hD.cu (by decide) (by decide) hbg hbl hL2).mono ?_
            rintro e u0bc ⟨x, rfl, ⟨i, hi, hx⟩, cu, hg⟩
            replace hD := hD.keepG cu hg
            clear cu hg hL2 hbl hbg
            have hxb : 0 ≤ x ∧ x ≤ 65536 := by
              have q : ∀ i, i < 4 → (0 : Int) ≤ [0, 1, 65535, 65536].getD i 0 ∧ [0, 1, 65535, 65536].getD i (0 : Int) ≤ 65536 := by decide
              rw [hx]; exact q i hi
            clear hx hi
            refine hK.out _ _ trivial (fun _ => ?_)
            clear hK K
            try simp only [Act.put, List.setIfInBounds_toArray, List.set_cons_zero, List.set_cons_succ]
            refine wpAnyH_ready (rs := [1, 5]) (by kernel_rfl) (by simp) ?_
            refine (AllReadyH.cons rfl (fun K hK => ?_) (AllReadyH.cons rfl (fun K hK => ?_) AllReadyH.nil))
            · have q0 := hD.bx.c2
              go_simp
              clear q0
              refine hK.out _ _ trivial (fun _ => ?_)
              clear hK K
              try simp only [Act.put, List.setIfInBounds_toArray, List.set_cons_zero, List.set_cons_succ]
              refine wpAnyH_ready (rs := [5]) (by kernel_rfl) (by simp) ?_
              refine (AllReadyH.cons rfl (fun K hK => ?_) AllReadyH.nil)
              go_simp
              replace hD := hD.alloc (.cells #[.int .i64 x] IT)
              have hc0 : (u0bc.alloc (.cells #[.int .i64 x] IT)).cell? ⟨u0bc.heap.size, 0, none⟩ = some (.int .i64 x) := by simp
              refine hK.out _ _ trivial (fun _ => ?_)
              clear hK K
              try simp only [Act.put, List.setIfInBounds_toArray, List.set_cons_zero, List.set_cons_succ]
              obtain ⟨G, eG⟩ : ∃ G, G = u0bc.heap.size := ⟨_, rfl⟩
              obtain ⟨u0bcd, eW⟩ : ∃ u, u = u0bc.alloc (.cells #[.int .i64 x] IT) := ⟨_, rfl⟩
              rw [← eW] at hD hc0 ⊢
              rw [← eG] at hc0 ⊢
              clear eG eW
              refine wpAnyH_ready (rs := [6]) (by kernel_rfl) (by simp) ?_
              refine (AllReadyH.cons rfl (fun K hK => ?_) AllReadyH.nil)
              refine step_appI rfl (.tmp 35) (.tmp 39) rfl (w.heap.size + 1) G 1 cv c x rfl rfl hD.oc hc0 (by have := hD.sc.1; omega) hD.hb0 ?_
              intro v8 w8 ho8 hg8 hor8
              obtain ⟨a8, d8, hv8⟩ := ho8.len
              rw [show (c ++ [x]).length = c.length + 1 by simp] at hv8
              subst hv8
              have hq8 := hD.box2 hg8
              refine hK.out _ _ trivial (fun _ => ?_)
              clear hK K
              try simp only [Act.put, List.setIfInBounds_toArray, List.set_cons_zero, List.set_cons_succ]
              refine wpAnyH_take (i := 7) (v := ?_) rfl (by kernel_rfl) (by kernel_rfl) (by kernel_rfl) (fun _ _ _ h => h) (Or.inl ⟨by rfl, ?_⟩) trivial ?_
              rotate_left
              · intro wq hSq
                (try dsimp only at hSq)

                go_simp
                try rfl
              change wpAnyH _ _ _ _ _ _ _ (Act.put _ (some 41) _) _
              simp only [Act.put, List.setIfInBounds_toArray, List.set_cons_succ, List.set_cons_zero]
              refine wpAnyH_ready (rs := [8]) (by kernel_rfl) (by simp) ?_
              refine (AllReadyH.cons rfl (fun K hK => ?_) AllReadyH.nil)
              have r0 := hq8.c2
              have rf0 := hq8.f2
              go_simp
              clear r0 rf0
              replace hD := hD.app2 ho8 hg8 hor8 hxb (by have := hLN.out; omega)
              refine hK.out _ _ trivial (fun _ => ?_)
              clear hK K
              try simp only [Act.put, List.setIfInBounds_toArray, List.set_cons_zero, List.set_cons_succ]
              obtain ⟨w9, eW⟩ : ∃ u, u = w8.setCell ⟨A, 2, none⟩ (.slice a8 (c.length + 1) d8) := ⟨_, rfl⟩
              rw [← eW] at hD ⊢
              refine wpAnyH_done (by kernel_rfl) ?_ _
              clear hq8 ho8 hg8 hor8 hc0 eW
              obtain ⟨cv2, hv2⟩ : ∃ z, z = Value.slice a8 (c.length + 1) d8 := ⟨_, rfl⟩
              rw [← hv2] at hD
              obtain ⟨c2, hl2⟩ : ∃ z, z = c ++ [x] := ⟨_, rfl⟩
              rw [← hl2] at hD
              have hcn2 : c2.length ≤ 9 := by rw [hl2]; simp; omega
              clear hv2 hl2
              have hpn9 : p.length ≤ 9 := by omega
              have r0 := hD.br.c0
              have r1 := hD.br.c1
              have r2 := hD.br.c2
              have r3 := hD.br.c3
              have rf0 := hD.br.f0
              have rf1 := hD.br.f1
              have rf2 := hD.br.f2
              have rf3 := hD.br.f3
              have a0 := hD.bx.c0
              have a1 := hD.bx.c1
              have a2 := hD.bx.c2
              have a3 := hD.bx.c3
              obtain ⟨qa, qx, rfl⟩ := hD.op.len
              obtain ⟨ra, rx, rfl⟩ := hD.oc.len
              go_wp2_with fail
              have bE := (((hD.br.set0 (u := .slice qa p.length qx)).set1 (u := .int .i64 pr)).set2 (u := .slice ra c2.length rx)).set3 (u := .int .i64 bw)
              have e0 := bE.c0
              have e1 := bE.c1
              have e2 := bE.c2
              have e3 := bE.c3
              have hR1 := hD.Rb
              have hRV : V.heap.size ≤ w.heap.size := HV.out
              have hA1 := Nat.le_of_lt hD.Rb
              exact bodyPost_ret (v := .agg #[.slice qa p.length qx, .int .i64 pr, .slice ra c2.length rx, .int .i64 bw]) (by simp [results, Tryd.results40, go_sem, e0, e1, e2, e3]) rfl
                ⟨_, _, _, _, p, c2, rfl, (((hD.cu.setNew hRg hRV).setNew hRg hRV).setNew hRg hRV).setNew hRg hRV, grown_setNew (grown_setNew (grown_setNew (grown_setNew hD.gr (Nat.le_refl _)) (Nat.le_refl _)) (Nat.le_refl _)) (Nat.le_refl _), ((((hD.op.far (o := 0) hR1).far (o := 1) hR1).far (o := 2) hR1).far (o := 3) hR1).mono hA1, ((((hD.oc.far (o := 0) hR1).far (o := 1) hR1).far (o := 2) hR1).far (o := 3) hR1).mono hA1, hD.ap, hD.sp, hD.sc, hpn9, hcn2, hpr, hbw, trivial⟩
            · go_simp
              replace hD := hD.alloc (.cells #[.int .i64 x] IT)
              have hc0 : (u0bc.alloc (.cells #[.int .i64 x] IT)).cell? ⟨u0bc.heap.size, 0, none⟩ = some (.int .i64 x) := by simp
              refine hK.out _ _ trivial (fun _ => ?_)
              clear hK K
              try simp only [Act.put, List.setIfInBounds_toArray, List.set_cons_zero, List.set_cons_succ]
              obtain ⟨G, eG⟩ : ∃ G, G = u0bc.heap.size := ⟨_, rfl⟩
              obtain ⟨u0bcd, eW⟩ : ∃ u, u = u0bc.alloc (.cells #[.int .i64 x] IT) := ⟨_, rfl⟩
              rw [← eW] at hD hc0 ⊢
              rw [← eG] at hc0 ⊢
              clear eG eW
              refine wpAnyH_ready (rs := [1]) (by kernel_rfl) (by simp) ?_
              refine (AllReadyH.cons rfl (fun K hK => ?_) AllReadyH.nil)
              have q0 := hD.bx.c2
              go_simp
              clear q0
              refine hK.out _ _ trivial (fun _ => ?_)
              clear hK K
              try simp only [Act.put, List.setIfInBounds_toArray, List.set_cons_zero, List.set_cons_succ]
              refine wpAnyH_ready (rs := [6]) (by kernel_rfl) (by simp) ?_
              refine (AllReadyH.cons rfl (fun K hK => ?_) AllReadyH.nil)
              refine step_appI rfl (.tmp 35) (.tmp 39) rfl (w.heap.size + 1) G 1 cv c x rfl rfl hD.oc hc0 (by have := hD.sc.1; omega) hD.hb0 ?_
              intro v8 w8 ho8 hg8 hor8
              obtain ⟨a8, d8, hv8⟩ := ho8.len
              rw [show (c ++ [x]).length = c.length + 1 by simp] at hv8
              subst hv8
              have hq8 := hD.box2 hg8
              refine hK.out _ _ trivial (fun _ => ?_)
              clear hK K
              try simp only [Act.put, List.setIfInBounds_toArray, List.set_cons_zero, List.set_cons_succ]
              refine wpAnyH_take (i := 7) (v := ?_) rfl (by kernel_rfl) (by kernel_rfl) (by kernel_rfl) (fun _ _ _ h => h) (Or.inl ⟨by rfl, ?_⟩) trivial ?_
              rotate_left
              · intro wq hSq
                (try dsimp only at hSq)

                go_simp
                try rfl
              change wpAnyH _ _ _ _ _ _ _ (Act.put _ (some 41) _) _
              simp only [Act.put, List.setIfInBounds_toArray, List.set_cons_succ, List.set_cons_zero]
              refine wpAnyH_ready (rs := [8]) (by kernel_rfl) (by simp) ?_
              refine (AllReadyH.cons rfl (fun K hK => ?_) AllReadyH.nil)
              have r0 := hq8.c2
              have rf0 := hq8.f2
              go_simp
              clear r0 rf0
              replace hD := hD.app2 ho8 hg8 hor8 hxb (by have := hLN.out; omega)
              refine hK.out _ _ trivial (fun _ => ?_)
              clear hK K
              try simp only [Act.put, List.setIfInBounds_toArray, List.set_cons_zero, List.set_cons_succ]
              obtain ⟨w9, eW⟩ : ∃ u, u = w8.setCell ⟨A, 2, none⟩ (.slice a8 (c.length + 1) d8) := ⟨_, rfl⟩
              rw [← eW] at hD ⊢
              refine wpAnyH_done (by kernel_rfl) ?_ _
              clear hq8 ho8 hg8 hor8 hc0 eW
              obtain ⟨cv2, hv2⟩ : ∃ z, z = Value.slice a8 (c.length + 1) d8 := ⟨_, rfl⟩
              rw [← hv2] at hD
              obtain ⟨c2, hl2⟩ : ∃ z, z = c ++ [x] := ⟨_, rfl⟩
              rw [← hl2] at hD
              have hcn2 : c2.length ≤ 9 := by rw [hl2]; simp; omega
              clear hv2 hl2
              have hpn9 : p.length ≤ 9 := by omega
              have r0 := hD.br.c0
              have r1 := hD.br.c1
              have r2 := hD.br.c2
              have r3 := hD.br.c3
              have rf0 := hD.br.f0
              have rf1 := hD.br.f1
              have rf2 := hD.br.f2
              have rf3 := hD.br.f3
              have a0 := hD.bx.c0
              have a1 := hD.bx.c1
              have a2 := hD.bx.c2
              have a3 := hD.bx.c3
              obtain ⟨qa, qx, rfl⟩ := hD.op.len
              obtain ⟨ra, rx, rfl⟩ := hD.oc.len
              go_wp2_with fail
              have bE := (((hD.br.set0 (u := .slice qa p.length qx)).set1 (u := .int .i64 pr)).set2 (u := .slice ra c2.length rx)).set3 (u := .int .i64 bw)
              have e0 := bE.c0
              have e1 := bE.c1
              have e2 := bE.c2
              have e3 := bE.c3
              have hR1 := hD.Rb
              have hRV : V.heap.size ≤ w.heap.size := HV.out
              have hA1 := Nat.le_of_lt hD.Rb
              exact bodyPost_ret (v := .agg #[.slice qa p.length qx, .int .i64 pr, .slice ra c2.length rx, .int .i64 bw]) (by simp [results, Tryd.results40, go_sem, e0, e1, e2, e3]) rfl
                ⟨_, _, _, _, p, c2, rfl, (((hD.cu.setNew hRg hRV).setNew hRg hRV).setNew hRg hRV).setNew hRg hRV, grown_setNew (grown_setNew (grown_setNew (grown_setNew hD.gr (Nat.le_refl _)) (Nat.le_refl _)) (Nat.le_refl _)) (Nat.le_refl _), ((((hD.op.far (o := 0) hR1).far (o := 1) hR1).far (o := 2) hR1).far (o := 3) hR1).mono hA1, ((((hD.oc.far (o := 0) hR1).far (o := 1) hR1).far (o := 2) hR1).far (o := 3) hR1).mono hA1, hD.ap, hD.sp, hD.sc, hpn9, hcn2, hpr, hbw, trivial⟩
      · skip
        by_cases q2 : q = 2
        · subst q2
          clear hq0 hq1
          go_wp2_with fail
          have hcl := hD.cu.lt
          have hL := lit_cells w5 [-1, 1000, 1001] IT w5.heap.size rfl
          refine (pick_any V g v l (fun i => [-1, 1000, 1001].getD i 0) 3 w5.heap.size _ (hD.cu.alloc _) (by decide) (by decide) (by omega) (by simp) hL).mono ?_
          rintro e w6 ⟨x, rfl, ⟨i, hi, hx⟩, cu, hg⟩
          replace hD := (hD.alloc (.cells #[.int .i64 (-1), .int .i64 1000, .int .i64 1001] IT)).keepG cu hg
          clear cu hg hL hcl
          have hxb : -1 ≤ x ∧ x ≤ 1001 := by
            have q : ∀ i, i < 3 → (-1 : Int) ≤ [-1, 1000, 1001].getD i 0 ∧ [-1, 1000, 1001].getD i (0 : Int) ≤ 1001 := by decide
            rw [hx]; exact q i hi
          clear hx hi
          have hx64 : I64 x := ⟨by omega, by omega⟩
          have a1 := hD.bx.c1
          have af1 := hD.bx.f1
          have hpn9 : p.length ≤ 9 := by omega
          have hcn9 : c.length ≤ 9 := by omega
          replace hD := hD.set1 x
          have r0 := hD.br.c0
          have r1 := hD.br.c1
          have r2 := hD.br.c2
          have r3 := hD.br.c3
          have rf0 := hD.br.f0
          have rf1 := hD.br.f1
          have rf2 := hD.br.f2
          have rf3 := hD.br.f3
          have a0 := hD.bx.c0
          have a1 := hD.bx.c1
          have a2 := hD.bx.c2
          have a3 := hD.bx.c3
          obtain ⟨qa, qx, rfl⟩ := hD.op.len
          obtain ⟨ra, rx, rfl⟩ := hD.oc.len
          go_wp2_with fail
          have bE := (((hD.br.set0 (u := .slice qa p.length qx)).set1 (u := .int .i64 x)).set2 (u := .slice ra c.length rx)).set3 (u := .int .i64 bw)
          have e0 := bE.c0
          have e1 := bE.c1
          have e2 := bE.c2
          have e3 := bE.c3
          have hR1 := hD.Rb
          have hRV : V.heap.size ≤ w.heap.size := HV.out
          have hA1 := Nat.le_of_lt hD.Rb
          exact bodyPost_ret (v := .agg #[.slice qa p.length qx, .int .i64 x, .slice ra c.length rx, .int .i64 bw]) (by simp [results, Tryd.results40, go_sem, e0, e1, e2, e3]) rfl
            ⟨_, _, _, _, p, c, rfl, (((hD.cu.setNew hRg hRV).setNew hRg hRV).setNew hRg hRV).setNew hRg hRV, grown_setNew (grown_setNew (grown_setNew (grown_setNew hD.gr (Nat.le_refl _)) (Nat.le_refl _)) (Nat.le_refl _)) (Nat.le_refl _), ((((hD.op.far (o := 0) hR1).far (o := 1) hR1).far (o := 2) hR1).far (o := 3) hR1).mono hA1, ((((hD.oc.far (o := 0) hR1).far (o := 1) hR1).far (o := 2) hR1).far (o := 3) hR1).mono hA1, hD.ap, hD.sp, hD.sc, hpn9, hcn9, hx64, hbw, trivial⟩
        · skip
          by_cases q3 : q = 3
          · subst q3
            clear hq0 hq1
            go_wp2_with fail
            have hcl := hD.cu.lt
            have hL := lit_cells w5 [-1, 1001] IT w5.heap.size rfl
            refine (pick_any V g v l (fun i => [-1, 1001].getD i 0) 2 w5.heap.size _ (hD.cu.alloc _) (by decide) (by decide) (by omega) (by simp) hL).mono ?_
            rintro e w6 ⟨x, rfl, ⟨i, hi, hx⟩, cu, hg⟩
            replace hD := (hD.alloc (.cells #[.int .i64 (-1), .int .i64 1001] IT)).keepG cu hg
            clear cu hg hL hcl
            have hxb : -1 ≤ x ∧ x ≤ 1001 := by
              have q : ∀ i, i < 2 → (-1 : Int) ≤ [-1, 1001].getD i 0 ∧ [-1, 1001].getD i (0 : Int) ≤ 1001 := by decide
              rw [hx]; exact q i hi
            clear hx hi
            have hx64 : I64 x := ⟨by omega, by omega⟩
            have a3 := hD.bx.c3
            have af3 := hD.bx.f3
            have hpn9 : p.length ≤ 9 := by omega
            have hcn9 : c.length ≤ 9 := by omega
            replace hD := hD.set3 x
            have r0 := hD.br.c0
            have r1 := hD.br.c1
            have r2 := hD.br.c2
            have r3 := hD.br.c3
            have rf0 := hD.br.f0
            have rf1 := hD.br.f1
            have rf2 := hD.br.f2
            have rf3 := hD.br.f3
            have a0 := hD.bx.c0
            have a1 := hD.bx.c1
            have a2 := hD.bx.c2
            have a3 := hD.bx.c3
            obtain ⟨qa, qx, rfl⟩ := hD.op.len
            obtain ⟨ra, rx, rfl⟩ := hD.oc.len
            go_wp2_with fail
            have bE := (((hD.br.set0 (u := .slice qa p.length qx)).set1 (u := .int .i64 pr)).set2 (u := .slice ra c.length rx)).set3 (u := .int .i64 x)
            have e0 := bE.c0
            have e1 := bE.c1
            have e2 := bE.c2
            have e3 := bE.c3
            have hR1 := hD.Rb
            have hRV : V.heap.size ≤ w.heap.size := HV.out
            have hA1 := Nat.le_of_lt hD.Rb
            exact bodyPost_ret (v := .agg #[.slice qa p.length qx, .int .i64 pr, .slice ra c.length rx, .int .i64 x]) (by simp [results, Tryd.results40, go_sem, e0, e1, e2, e3]) rfl
              ⟨_, _, _, _, p, c, rfl, (((hD.cu.setNew hRg hRV).setNew hRg hRV).setNew hRg hRV).setNew hRg hRV, grown_setNew (grown_setNew (grown_setNew (grown_setNew hD.gr (Nat.le_refl _)) (Nat.le_refl _)) (Nat.le_refl _)) (Nat.le_refl _), ((((hD.op.far (o := 0) hR1).far (o := 1) hR1).far (o := 2) hR1).far (o := 3) hR1).mono hA1, ((((hD.oc.far (o := 0) hR1).far (o := 1) hR1).far (o := 2) hR1).far (o := 3) hR1).mono hA1, hD.ap, hD.sp, hD.sc, hpn9, hcn9, hpr, hx64, trivial⟩
          · skip
            have n0 : (q == 0) = false := by simp [q0]
            have n1 : (q == 1) = false := by simp [q1]
            have n2 : (q == 2) = false := by simp [q2]
            have n3 : (q == 3) = false := by simp [q3]
            have hcn9 : c.length ≤ 9 := by omega
            have hpn8 : p.length ≤ 9 := by omega
            go_wp2_with fail
            go_loopw [] (fun wr => ∃ pv p, p.length ≤ 9 ∧ DA V w wr g v l w.heap.size A (w.heap.size + 1) pv pr cv bw p c) (fun wr => 10 - sliceLen (wr.cell? ⟨A, 0, none⟩))
            case atStart => exact ⟨_, _, hpn8, hD⟩
            case round =>
              clear hD hpn hpn8
              obtain ⟨pv, p, hpn, hD⟩ := hrel
              obtain ⟨pa, px, rfl⟩ := hD.op.len
              have hlen0 : sliceLen (wr.cell? ⟨A, 0, none⟩) = p.length := by rw [hD.bx.c0]; rfl
              have HLEN := Lib.hid hlen0
              clear hlen0
              go_wp2_with fail
              refine wp_region_held_drew (S := fun w' => w'.cell? ⟨A, 0, none⟩ = some (.slice pa p.length px)) (by kernel_rfl) hD.drew.bx.c0 (fun hHeld => ?_)
              replace hD := hD.drew
              obtain ⟨u0, e0⟩ : ∃ u, u = wr.drew := ⟨_, rfl⟩
              rw [← e0] at hD ⊢
              clear e0 hHeld
              refine wpAnyH_take (i := 0) (v := ?_) rfl (by kernel_rfl) (by kernel_rfl) (by kernel_rfl) (fun _ _ _ h => h) (Or.inl ⟨by rfl, ?_⟩) hD.bx.c0 ?_
              rotate_left
              · intro wq hSq
                (try dsimp only at hSq)

                go_simp
                try rfl
              change wpAnyH _ _ _ _ _ _ _ (Act.put _ (some 10) _) _
              simp only [Act.put, List.setIfInBounds_toArray, List.set_cons_succ, List.set_cons_zero]
              refine wpAnyH_take (i := 1) (v := ?_) rfl (by kernel_rfl) (by kernel_rfl) (by kernel_rfl) (fun _ _ _ h => h) (Or.inl ⟨by rfl, ?_⟩) hD.bx.c0 ?_
              rotate_left
              · intro wq hSq
                (try dsimp only at hSq)
                have q00 := hSq
                go_simp
                try rfl
              change wpAnyH _ _ _ _ _ _ _ (Act.put _ (some 11) _) _
              simp only [Act.put, List.setIfInBounds_toArray, List.set_cons_succ, List.set_cons_zero]
              refine wpAnyH_take (i := 2) (v := ?_) rfl (by kernel_rfl) (by kernel_rfl) (by kernel_rfl) (fun _ _ _ h => h) (Or.inl ⟨by rfl, ?_⟩) hD.bx.c0 ?_
              rotate_left
              · intro wq hSq
                (try dsimp only at hSq)

                go_simp
                try rfl
              change wpAnyH _ _ _ _ _ _ _ (Act.put _ (some 12) _) _
              simp only [Act.put, List.setIfInBounds_toArray, List.set_cons_succ, List.set_cons_zero]
              refine wpAnyH_take (i := 3) (v := ?_) rfl (by kernel_rfl) (by kernel_rfl) (by kernel_rfl) (fun _ _ _ h => h) (Or.inl ⟨by rfl, ?_⟩) hD.bx.c0 ?_
              rotate_left
              · intro wq hSq
                (try dsimp only at hSq)

                go_simp
                try rfl
              change wpAnyH _ _ _ _ _ _ _ (Act.put _ (some 13) _) _
              simp only [Act.put, List.setIfInBounds_toArray, List.set_cons_succ, List.set_cons_zero]
              refine wpAnyH_ready (rs := [4]) (by kernel_rfl) (by simp) ?_
              refine (AllReadyH.cons rfl (fun K hK => ?_) AllReadyH.nil)
              go_simp
              refine (below_any V g v l 2 _ hD.cu (by decide) (by decide)).mono ?_
              rintro e w7 ⟨y, rfl, ⟨hy0, hy1⟩, cu, hg⟩
              replace hD := hD.keepG cu hg
              clear cu hg
              refine hK.out _ _ hD.bx.c0 (fun _ => ?_)
              clear hK K
              try simp only [Act.put, List.setIfInBounds_toArray, List.set_cons_zero, List.set_cons_succ]
              have hwy : IntKind.i64.wrap (8 + y) = 8 + y := wrap64_in _ (by omega) (by omega)
              refine wpAnyH_take (i := 5) (v := ?_) rfl (by kernel_rfl) (by kernel_rfl) (by kernel_rfl) (fun _ _ _ h => h) (Or.inl ⟨by rfl, ?_⟩) hD.bx.c0 ?_
              rotate_left
              · intro wq hSq
                (try dsimp only at hSq)

                go_simp
                try rfl
              change wpAnyH _ _ _ _ _ _ _ (Act.put _ (some 15) _) _
              simp only [Act.put, List.setIfInBounds_toArray, List.set_cons_succ, List.set_cons_zero]
              refine wpAnyH_take (i := 6) (v := ?_) rfl (by kernel_rfl) (by kernel_rfl) (by kernel_rfl) (fun _ _ _ h => h) (Or.inl ⟨by rfl, ?_⟩) hD.bx.c0 ?_
              rotate_left
              · intro wq hSq
                (try dsimp only at hSq)

                go_simp
                try rfl
              change wpAnyH _ _ _ _ _ _ _ (Act.put _ (some 16) _) _
              simp only [Act.put, List.setIfInBounds_toArray, List.set_cons_succ, List.set_cons_zero]
              refine wpAnyH_done (by kernel_rfl) ?_ _
              by_cases hless : (p.length : Int) < 8 + y
              · have a0 := hD.bx.c0
                have af0 := hD.bx.f0
                go_wp2_with (at_builtin; refine Hid.out ?_)
                refine Lib.hid ?_
                have hq7 := hD.alloc (.cells #[.int .i64 9] IT)
                refine wp_appI2 rfl (.tmp 18) (.tmp 19) rfl (w.heap.size + 1) w7.heap.size 1 (.slice pa p.length px) p 9 rfl rfl hq7.op (by simp) (by omega) hq7.hb0 ?_
                intro v8 w8 ho8 hg8 hor8
                obtain ⟨a8, d8, hv8⟩ := ho8.len
                rw [show (p ++ [(9 : Int)]).length = p.length + 1 by simp] at hv8
                subst hv8
                have hq8 := hq7.box0 hg8
                have r0 := hq8.c0
                have rf0 := hq8.f0
                have hD9 := hq7.app0 ho8 hg8 hor8 (by omega) (by omega)
                have hl8 : p.length ≤ 8 := by omega
                clear a0 af0
                go_wp2_with fail
                go_roundw
                case rel => exact ⟨_, _, by simp; omega, hD9⟩
                case measure =>
                  have e1 := HLEN.out
                  have e2 := hD9.bx.c0
                  rw [e1, e2]
                  show 10 - (p.length + 1) < 10 - p.length
                  omega
              · have hpn9 := hpn
                have r0 := hD.br.c0
                have r1 := hD.br.c1
                have r2 := hD.br.c2
                have r3 := hD.br.c3
                have rf0 := hD.br.f0
                have rf1 := hD.br.f1
                have rf2 := hD.br.f2
                have rf3 := hD.br.f3
                have a0 := hD.bx.c0
                have a1 := hD.bx.c1
                have a2 := hD.bx.c2
                have a3 := hD.bx.c3
                obtain ⟨ra, rx, rfl⟩ := hD.oc.len
                go_wp2_with fail
                have bE := (((hD.br.set0 (u := .slice pa p.length px)).set1 (u := .int .i64 pr)).set2 (u := .slice ra c.length rx)).set3 (u := .int .i64 bw)
                have e0 := bE.c0
                have e1 := bE.c1
                have e2 := bE.c2
                have e3 := bE.c3
                have hR1 := hD.Rb
                have hRV : V.heap.size ≤ w.heap.size := HV.out
                have hA1 := Nat.le_of_lt hD.Rb
                exact bodyPost_ret (v := .agg #[.slice pa p.length px, .int .i64 pr, .slice ra c.length rx, .int .i64 bw]) (by simp [results, Tryd.results40, go_sem, e0, e1, e2, e3]) rfl
                  ⟨_, _, _, _, p, c, rfl, (((hD.cu.setNew hRg hRV).setNew hRg hRV).setNew hRg hRV).setNew hRg hRV, grown_setNew (grown_setNew (grown_setNew (grown_setNew hD.gr (Nat.le_refl _)) (Nat.le_refl _)) (Nat.le_refl _)) (Nat.le_refl _), ((((hD.op.far (o := 0) hR1).far (o := 1) hR1).far (o := 2) hR1).far (o := 3) hR1).mono hA1, ((((hD.oc.far (o := 0) hR1).far (o := 1) hR1).far (o := 2) hR1).far (o := 3) hR1).mono hA1, hD.ap, hD.sp, hD.sc, hpn9, hcn9, hpr, hbw, trivial⟩
end Go.Proofs.YtcmbajphholliabDoor
