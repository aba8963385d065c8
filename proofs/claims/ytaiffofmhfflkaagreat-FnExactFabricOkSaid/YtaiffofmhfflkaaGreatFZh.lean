/-
  NodeOk of the program and of the model. Conditions: those in each contract.
  Ranks, of the program and of the model. Conditions: those in each contract.
-/
import Derived.Test.YtaiffofmhfflkaaGreatFZg
import Derived.Test.YtaiffofmhfflkaaGreatFZe
namespace Go.Proofs.YtaiffofmhfflkaaGreat
open Go.ChangeShapes Go.WideShapes Go.ChangeAt Go.RowKit Go.BigFrame Go.Joins
set_option linter.unusedVariables false
set_option maxRecDepth 100000
set_option maxRecDepth 100000
set_option linter.unusedSimpArgs false
set_option maxRecDepth 100000

theorem numok8 {n : Int} {b : Bool} (w : World) (H : Hid (asB n = b)) : Calls Tryz.prog 125 #[.int .i64 n] w fun e w' => e = .returned (.bool b) ∧ w = w' := H.out ▸ numok_any n w
theorem sas8 {n : Int} {b : Bool} (w : World) (H : Hid (asB n = b)) : Calls Tryz.prog 102 #[.int .i64 n] w fun e w' => e = .returned (.bool b) ∧ w = w' := H.out ▸ sas_any n w
theorem ipfx8 {v : Value} {l : List (Int × Int)} {b : Bool} (w : World) (h : RdP w v l) (H : Hid ((decide ((l.length : Int) ≤ 2) && pfxB l) = b)) : Calls Tryz.prog 126 #[v, .int .i64 2] w fun e w' => e = .returned (.bool b) ∧ Below w.heap.size w w' := H.out ▸ ipfx_any v l 2 w h
theorem spfx8 {v : Value} {l : List (Int × Int)} {b : Bool} (w : World) (h : RdP w v l) (H : Hid ((decide ((l.length : Int) ≤ 8) && pfxB l) = b)) : Calls Tryz.prog 103 #[v] w fun e w' => e = .returned (.bool b) ∧ Below w.heap.size w w' := H.out ▸ spfx_any v l w h
theorem within8 {n : Int} {b : Bool} (w : World) (H : Hid (inB n 0 1000 = b)) : Calls Tryz.prog 63 #[.int .i64 n, .int .i64 0, .int .i64 1000] w fun e w' => e = .returned (.bool b) ∧ w = w' := within_t w H
theorem slL_t {v u : Value} {l m : List (Int × Int)} {b : Bool} (w : World) (h1 : RdP w v l) (h2 : RdP w u m) (H : Hid (decide (l = m) = b)) : Calls Tryz.prog 127 #[v, u] w fun e w' => e = .returned (.bool b) ∧ Below w.heap.size w w' := H.out ▸ slL_any v u l m w h1 h2
/-- a switch is valid -/
def ndB (N : Nd) : Bool := asB N.an && ((decide ((N.own.length : Int) ≤ 2) && pfxB N.own) && (inB N.bw 0 1000 && (ribB N.rib && (ribB N.sent && (decide (ownL N.rib = N.own) && ((N.rib.all fun E => knowB N.an N.bw E) && N.sent.all fun E => sendB E))))))
theorem rib_ok {L : List Ent} (h : ribB L = true) : (∀ i, i < L.length → entB (L.getD i e0).a (L.getD i e0).n (L.getD i e0).pe (L.getD i e0).p (L.getD i e0).pr (L.getD i e0).c (L.getD i e0).bw = true) ∧ L.length ≤ 60 ∧ L.Pairwise ltE := by
  unfold ribB tabB at h
  simp only [Bool.and_eq_true, decide_eq_true_eq] at h
  refine ⟨h.2.1, by omega, pairwise_of_next e0 ltE ltE_trans L fun i hi => ?_⟩
  have := h.2.2 i hi
  unfold upE at this
  exact ecmp_lt.1 this
theorem rib_attr {L : List Ent} (h : ribB L = true) : ∀ i, i < L.length → aokB (L.getD i e0).p (L.getD i e0).pr (L.getD i e0).c (L.getD i e0).bw = true := fun i hi => by
  have := (rib_ok h).1 i hi
  unfold entB at this
  simp only [Bool.and_eq_true] at this
  exact this.2.2
theorem rib_peer {L : List Ent} (h : ribB L = true) : ∀ i, i < L.length → -1 ≤ (L.getD i e0).pe := fun i hi => by
  have := (rib_ok h).1 i hi
  unfold entB inB at this
  simp only [Bool.and_eq_true, decide_eq_true_eq] at this
  exact this.2.1.1
theorem mem_get {L : List Ent} {E : Ent} (h : E ∈ L) : ∃ i, i < L.length ∧ L.getD i e0 = E := by
  obtain ⟨i, hi, e⟩ := List.mem_iff_getElem.1 h
  exact ⟨i, hi, by rw [List.getD_eq_getElem?_getD, List.getElem?_eq_getElem hi]; exact e⟩
theorem pfx_sorted {l : List (Int × Int)} (h : pfxB l = true) : l.Pairwise ltP := by
  unfold pfxB at h
  simp only [decide_eq_true_eq] at h
  refine pairwise_of_next (0, 0) ltP (fun _ _ _ => ltP_trans) l fun i hi => ?_
  have := h.2 i hi
  unfold upAt at this
  exact cmp2_lt8.1 this
set_option maxHeartbeats 8000000 in
theorem indok_any (ov rv sv : Value) (N : Nd) (w : World) (h : RdN w ov rv sv N) :
    Calls Tryz.prog 65 #[.agg #[.int .i64 N.an, ov, .int .i64 N.bw, .bool N.dr, rv, sv]] w fun e w' => e = .returned (.bool (ndB N)) ∧ Below w.heap.size w w' := by
  obtain ⟨bA, B0, z⟩ := one w [.int .i64 N.an, ov, .int .i64 N.bw, .bool N.dr, rv, sv] 34
  replace h := h.keep B0
  obtain ⟨hO, hR, hS⟩ := h
  obtain ⟨V, hV⟩ : ∃ V, V = w.alloc (.cells #[.int .i64 N.an, ov, .int .i64 N.bw, .bool N.dr, rv, sv] 34) := ⟨_, rfl⟩
  rw [← hV] at bA B0 hO hR hS
  clear z
  unfold ndB
  cases hAA : asB N.an
  · rw [Bool.false_and]
    have HA := Lib.hid hAA
    clear hAA
    go_enter Tryz.func65, Tryz.ntmps65
    go_wp2_with fail
    rw [← hV]
    clear hV
    refine wp_region_class (C := Over (V)) (by kernel_rfl) (by kernel_rfl) (over_drew _) ?_
    repeat (first | go_big_quiet_skip | (go_big_quiet_want; go_big_quiet_op; go_big_quiet_on) | (go_big_quiet_want; go_big_quiet_op; apply Exists.intro; refine ⟨fun w' hC => ?_, ?_⟩; ((first | (go_at_call 125; refine (numok8 _ HA).mono ?_; rintro e w1 ⟨rfl, rfl⟩; exact ⟨rfl, hC⟩))); go_big_quiet_on) | (go_big_quiet_want; apply Exists.intro; refine ⟨fun w' hC => ?_, ?_⟩; (have k0 := over_cell hC bA.lt (bA.c 0 rfl); have k1 := over_cell hC bA.lt (bA.c 1 rfl); have k2 := over_cell hC bA.lt (bA.c 2 rfl); have k3 := over_cell hC bA.lt (bA.c 3 rfl); have k4 := over_cell hC bA.lt (bA.c 4 rfl); have k5 := over_cell hC bA.lt (bA.c 5 rfl); simp [Oper.quietAt, Oper.quietUpon, go_sem, k0, k1, k2, k3, k4, k5]; first | done | rfl); go_big_quiet_on; simp only [Act.put, List.setIfInBounds_toArray, List.set_cons_zero, List.set_cons_succ]))
    refine wpQuiet_nil ?_
    intro wr hC
    have k0 := over_cell hC bA.lt (bA.c 0 rfl)
    have k1 := over_cell hC bA.lt (bA.c 1 rfl)
    have k2 := over_cell hC bA.lt (bA.c 2 rfl)
    have k3 := over_cell hC bA.lt (bA.c 3 rfl)
    have k4 := over_cell hC bA.lt (bA.c 4 rfl)
    have k5 := over_cell hC bA.lt (bA.c 5 rfl)
    go_wp2
    go_ret
    exact ⟨rfl, over_step B0 hC⟩
  · rw [Bool.true_and]
    have HA := Lib.hid hAA
    clear hAA
    cases hOO : (decide ((N.own.length : Int) ≤ 2) && pfxB N.own)
    · rw [Bool.false_and]
      have HO := Lib.hid hOO
      clear hOO
      go_enter Tryz.func65, Tryz.ntmps65
      go_wp2_with fail
      rw [← hV]
      clear hV
      refine wp_region_class (C := Over (V)) (by kernel_rfl) (by kernel_rfl) (over_drew _) ?_
      repeat (first | go_big_quiet_skip | (go_big_quiet_want; go_big_quiet_op; go_big_quiet_on) | (go_big_quiet_want; go_big_quiet_op; apply Exists.intro; refine ⟨fun w' hC => ?_, ?_⟩; ((first | (go_at_call 125; refine (numok8 _ HA).mono ?_; rintro e w1 ⟨rfl, rfl⟩; exact ⟨rfl, hC⟩) | (go_at_call 126; refine (ipfx8 _ (hO.keep hC) HO).mono ?_; rintro e w1 ⟨rfl, hb1⟩; exact ⟨rfl, over_step hC hb1⟩))); go_big_quiet_on) | (go_big_quiet_want; apply Exists.intro; refine ⟨fun w' hC => ?_, ?_⟩; (have k0 := over_cell hC bA.lt (bA.c 0 rfl); have k1 := over_cell hC bA.lt (bA.c 1 rfl); have k2 := over_cell hC bA.lt (bA.c 2 rfl); have k3 := over_cell hC bA.lt (bA.c 3 rfl); have k4 := over_cell hC bA.lt (bA.c 4 rfl); have k5 := over_cell hC bA.lt (bA.c 5 rfl); simp [Oper.quietAt, Oper.quietUpon, go_sem, k0, k1, k2, k3, k4, k5]; first | done | rfl); go_big_quiet_on; simp only [Act.put, List.setIfInBounds_toArray, List.set_cons_zero, List.set_cons_succ]))
      refine wpQuiet_nil ?_
      intro wr hC
      have k0 := over_cell hC bA.lt (bA.c 0 rfl)
      have k1 := over_cell hC bA.lt (bA.c 1 rfl)
      have k2 := over_cell hC bA.lt (bA.c 2 rfl)
      have k3 := over_cell hC bA.lt (bA.c 3 rfl)
      have k4 := over_cell hC bA.lt (bA.c 4 rfl)
      have k5 := over_cell hC bA.lt (bA.c 5 rfl)
      go_wp2
      go_ret
      exact ⟨rfl, over_step B0 hC⟩
    · rw [Bool.true_and]
      have HO := Lib.hid hOO
      clear hOO
      cases hBB : inB N.bw 0 1000
      · rw [Bool.false_and]
        have HB := Lib.hid hBB
        clear hBB
        go_enter Tryz.func65, Tryz.ntmps65
        go_wp2_with fail
        rw [← hV]
        clear hV
        refine wp_region_class (C := Over (V)) (by kernel_rfl) (by kernel_rfl) (over_drew _) ?_
        repeat (first | go_big_quiet_skip | (go_big_quiet_want; go_big_quiet_op; go_big_quiet_on) | (go_big_quiet_want; go_big_quiet_op; apply Exists.intro; refine ⟨fun w' hC => ?_, ?_⟩; ((first | (go_at_call 125; refine (numok8 _ HA).mono ?_; rintro e w1 ⟨rfl, rfl⟩; exact ⟨rfl, hC⟩) | (go_at_call 126; refine (ipfx8 _ (hO.keep hC) HO).mono ?_; rintro e w1 ⟨rfl, hb1⟩; exact ⟨rfl, over_step hC hb1⟩) | (go_at_call 63; refine (within8 _ HB).mono ?_; rintro e w1 ⟨rfl, rfl⟩; exact ⟨rfl, hC⟩))); go_big_quiet_on) | (go_big_quiet_want; apply Exists.intro; refine ⟨fun w' hC => ?_, ?_⟩; (have k0 := over_cell hC bA.lt (bA.c 0 rfl); have k1 := over_cell hC bA.lt (bA.c 1 rfl); have k2 := over_cell hC bA.lt (bA.c 2 rfl); have k3 := over_cell hC bA.lt (bA.c 3 rfl); have k4 := over_cell hC bA.lt (bA.c 4 rfl); have k5 := over_cell hC bA.lt (bA.c 5 rfl); simp [Oper.quietAt, Oper.quietUpon, go_sem, k0, k1, k2, k3, k4, k5]; first | done | rfl); go_big_quiet_on; simp only [Act.put, List.setIfInBounds_toArray, List.set_cons_zero, List.set_cons_succ]))
        refine wpQuiet_nil ?_
        intro wr hC
        have k0 := over_cell hC bA.lt (bA.c 0 rfl)
        have k1 := over_cell hC bA.lt (bA.c 1 rfl)
        have k2 := over_cell hC bA.lt (bA.c 2 rfl)
        have k3 := over_cell hC bA.lt (bA.c 3 rfl)
        have k4 := over_cell hC bA.lt (bA.c 4 rfl)
        have k5 := over_cell hC bA.lt (bA.c 5 rfl)
        go_wp2
        go_ret
        exact ⟨rfl, over_step B0 hC⟩
      · rw [Bool.true_and]
        have HB := Lib.hid hBB
        clear hBB
        cases hRR : ribB N.rib
        · rw [Bool.false_and]
          have HR := Lib.hid hRR
          clear hRR
          go_enter Tryz.func65, Tryz.ntmps65
          go_wp2_with fail
          rw [← hV]
          clear hV
          refine wp_region_class (C := Over (V)) (by kernel_rfl) (by kernel_rfl) (over_drew _) ?_
          repeat (first | go_big_quiet_skip | (go_big_quiet_want; go_big_quiet_op; go_big_quiet_on) | (go_big_quiet_want; go_big_quiet_op; apply Exists.intro; refine ⟨fun w' hC => ?_, ?_⟩; ((first | (go_at_call 125; refine (numok8 _ HA).mono ?_; rintro e w1 ⟨rfl, rfl⟩; exact ⟨rfl, hC⟩) | (go_at_call 126; refine (ipfx8 _ (hO.keep hC) HO).mono ?_; rintro e w1 ⟨rfl, hb1⟩; exact ⟨rfl, over_step hC hb1⟩) | (go_at_call 63; refine (within8 _ HB).mono ?_; rintro e w1 ⟨rfl, rfl⟩; exact ⟨rfl, hC⟩) | (go_at_call_of 114 (Value.agg #[rv]); refine (irib_t _ (hR.keep hC) HR).mono ?_; rintro e w1 ⟨rfl, hb1⟩; exact ⟨rfl, over_step hC hb1⟩))); go_big_quiet_on) | (go_big_quiet_want; apply Exists.intro; refine ⟨fun w' hC => ?_, ?_⟩; (have k0 := over_cell hC bA.lt (bA.c 0 rfl); have k1 := over_cell hC bA.lt (bA.c 1 rfl); have k2 := over_cell hC bA.lt (bA.c 2 rfl); have k3 := over_cell hC bA.lt (bA.c 3 rfl); have k4 := over_cell hC bA.lt (bA.c 4 rfl); have k5 := over_cell hC bA.lt (bA.c 5 rfl); simp [Oper.quietAt, Oper.quietUpon, go_sem, k0, k1, k2, k3, k4, k5]; first | done | rfl); go_big_quiet_on; simp only [Act.put, List.setIfInBounds_toArray, List.set_cons_zero, List.set_cons_succ]))
          refine wpQuiet_nil ?_
          intro wr hC
          have k0 := over_cell hC bA.lt (bA.c 0 rfl)
          have k1 := over_cell hC bA.lt (bA.c 1 rfl)
          have k2 := over_cell hC bA.lt (bA.c 2 rfl)
          have k3 := over_cell hC bA.lt (bA.c 3 rfl)
          have k4 := over_cell hC bA.lt (bA.c 4 rfl)
          have k5 := over_cell hC bA.lt (bA.c 5 rfl)
          go_wp2
          go_ret
          exact ⟨rfl, over_step B0 hC⟩
        · rw [Bool.true_and]
          have HR := Lib.hid hRR
          clear hRR
          cases hSS : ribB N.sent
          · rw [Bool.false_and]
            have HS := Lib.hid hSS
            clear hSS
            go_enter Tryz.func65, Tryz.ntmps65
            go_wp2_with fail
            rw [← hV]
            clear hV
            refine wp_region_class (C := Over (V)) (by kernel_rfl) (by kernel_rfl) (over_drew _) ?_
            repeat (first | go_big_quiet_skip | (go_big_quiet_want; go_big_quiet_op; go_big_quiet_on) | (go_big_quiet_want; go_big_quiet_op; apply Exists.intro; refine ⟨fun w' hC => ?_, ?_⟩; ((first | (go_at_call 125; refine (numok8 _ HA).mono ?_; rintro e w1 ⟨rfl, rfl⟩; exact ⟨rfl, hC⟩) | (go_at_call 126; refine (ipfx8 _ (hO.keep hC) HO).mono ?_; rintro e w1 ⟨rfl, hb1⟩; exact ⟨rfl, over_step hC hb1⟩) | (go_at_call 63; refine (within8 _ HB).mono ?_; rintro e w1 ⟨rfl, rfl⟩; exact ⟨rfl, hC⟩) | (go_at_call_of 114 (Value.agg #[rv]); refine (irib_t _ (hR.keep hC) HR).mono ?_; rintro e w1 ⟨rfl, hb1⟩; exact ⟨rfl, over_step hC hb1⟩) | (go_at_call_of 114 (Value.agg #[sv]); refine (irib_t _ (hS.keep hC) HS).mono ?_; rintro e w1 ⟨rfl, hb1⟩; exact ⟨rfl, over_step hC hb1⟩))); go_big_quiet_on) | (go_big_quiet_want; apply Exists.intro; refine ⟨fun w' hC => ?_, ?_⟩; (have k0 := over_cell hC bA.lt (bA.c 0 rfl); have k1 := over_cell hC bA.lt (bA.c 1 rfl); have k2 := over_cell hC bA.lt (bA.c 2 rfl); have k3 := over_cell hC bA.lt (bA.c 3 rfl); have k4 := over_cell hC bA.lt (bA.c 4 rfl); have k5 := over_cell hC bA.lt (bA.c 5 rfl); simp [Oper.quietAt, Oper.quietUpon, go_sem, k0, k1, k2, k3, k4, k5]; first | done | rfl); go_big_quiet_on; simp only [Act.put, List.setIfInBounds_toArray, List.set_cons_zero, List.set_cons_succ]))
            refine wpQuiet_nil ?_
            intro wr hC
            have k0 := over_cell hC bA.lt (bA.c 0 rfl)
            have k1 := over_cell hC bA.lt (bA.c 1 rfl)
            have k2 := over_cell hC bA.lt (bA.c 2 rfl)
            have k3 := over_cell hC bA.lt (bA.c 3 rfl)
            have k4 := over_cell hC bA.lt (bA.c 4 rfl)
            have k5 := over_cell hC bA.lt (bA.c 5 rfl)
            go_wp2
            go_ret
            exact ⟨rfl, over_step B0 hC⟩
          · rw [Bool.true_and]
            have HS := Lib.hid hSS
            clear hSS
            have HLR : Hid (N.rib.length ≤ 1048576) := Lib.hid (by have := (rib_ok HR.out).2.1; omega)
            have HVR := Lib.hid (rib_attr HR.out)
            have eo : ownL N.rib = pfx (N.rib.filter fun F => F.pe == -1) := rfl
            rw [eo]
            clear eo
            cases hE : decide (pfx (N.rib.filter fun F => F.pe == -1) = N.own)
            · rw [Bool.false_and]
              have HE := Lib.hid hE
              clear hE
              go_enter Tryz.func65, Tryz.ntmps65
              go_wp2_with fail
              rw [← hV]
              clear hV
              refine wp_region_held_drew (S := fun w' => Over V w') (by kernel_rfl) (over_drew V) (fun hHeld => ?_)
              obtain ⟨u0, e0'⟩ : ∃ u, u = V.drew := ⟨_, rfl⟩
              have O : Over V u0 := by rw [e0']; exact over_drew V
              rw [← e0']
              clear e0' hHeld
              refine wpAnyH_take (i := 0) (v := ?_) rfl (by kernel_rfl) (by kernel_rfl) (by kernel_rfl) (fun _ _ _ h => h) (Or.inl ⟨by rfl, ?_⟩) O ?_
              rotate_left
              · intro wq hSq
                (try dsimp only at hSq)

                go_simp
                try rfl
              change wpAnyH _ _ _ _ _ _ _ (Act.put _ (some 3) _) _
              simp only [Act.put, List.setIfInBounds_toArray, List.set_cons_succ, List.set_cons_zero]
              refine wpAnyH_take (i := 1) (v := ?_) rfl (by kernel_rfl) (by kernel_rfl) (by kernel_rfl) (fun _ _ _ h => h) (Or.inl ⟨by rfl, ?_⟩) O ?_
              rotate_left
              · intro wq hSq
                (try dsimp only at hSq)
                have q0 := over_cell hSq bA.lt (bA.c 0 rfl)
                go_simp
                try rfl
              change wpAnyH _ _ _ _ _ _ _ (Act.put _ (some 4) _) _
              simp only [Act.put, List.setIfInBounds_toArray, List.set_cons_succ, List.set_cons_zero]
              refine wpAnyH_ready (rs := [2]) (by kernel_rfl) (by simp) ?_
              refine (AllReadyH.cons rfl (fun K hK => ?_) AllReadyH.nil)
              go_simp
              refine (numok8 _ HA).mono ?_
              rintro e wn ⟨rfl, rfl⟩
              refine hK.out _ _ O (fun _ => ?_)
              clear hK K
              try simp only [Act.put, List.setIfInBounds_toArray, List.set_cons_zero, List.set_cons_succ]
              refine wpAnyH_take (i := 3) (v := ?_) rfl (by kernel_rfl) (by kernel_rfl) (by kernel_rfl) (fun _ _ _ h => h) (Or.inl ⟨by rfl, ?_⟩) O ?_
              rotate_left
              · intro wq hSq
                (try dsimp only at hSq)

                go_simp
                try rfl
              change wpAnyH _ _ _ _ _ _ _ (Act.put _ (some 6) _) _
              simp only [Act.put, List.setIfInBounds_toArray, List.set_cons_succ, List.set_cons_zero]
              refine wpAnyH_take (i := 4) (v := ?_) rfl (by kernel_rfl) (by kernel_rfl) (by kernel_rfl) (fun _ _ _ h => h) (Or.inl ⟨by rfl, ?_⟩) O ?_
              rotate_left
              · intro wq hSq
                (try dsimp only at hSq)

                go_simp
                try rfl
              change wpAnyH _ _ _ _ _ _ _ (Act.put _ (some 7) _) _
              simp only [Act.put, List.setIfInBounds_toArray, List.set_cons_succ, List.set_cons_zero]
              refine wpAnyH_take (i := 5) (v := ?_) rfl (by kernel_rfl) (by kernel_rfl) (by kernel_rfl) (fun _ _ _ h => h) (Or.inl ⟨by rfl, ?_⟩) O ?_
              rotate_left
              · intro wq hSq
                (try dsimp only at hSq)
                have q1 := over_cell hSq bA.lt (bA.c 1 rfl)
                go_simp
                try rfl
              change wpAnyH _ _ _ _ _ _ _ (Act.put _ (some 8) _) _
              simp only [Act.put, List.setIfInBounds_toArray, List.set_cons_succ, List.set_cons_zero]
              refine wpAnyH_ready (rs := [6]) (by kernel_rfl) (by simp) ?_
              refine (AllReadyH.cons rfl (fun K hK => ?_) AllReadyH.nil)
              go_simp
              refine (ipfx8 _ (hO.keep O) HO).mono ?_
              rintro e wn ⟨rfl, hb⟩
              replace O := over_step O hb
              clear hb
              refine hK.out _ _ O (fun _ => ?_)
              clear hK K
              try simp only [Act.put, List.setIfInBounds_toArray, List.set_cons_zero, List.set_cons_succ]
              refine wpAnyH_take (i := 7) (v := ?_) rfl (by kernel_rfl) (by kernel_rfl) (by kernel_rfl) (fun _ _ _ h => h) (Or.inl ⟨by rfl, ?_⟩) O ?_
              rotate_left
              · intro wq hSq
                (try dsimp only at hSq)

                go_simp
                try rfl
              change wpAnyH _ _ _ _ _ _ _ (Act.put _ (some 10) _) _
              simp only [Act.put, List.setIfInBounds_toArray, List.set_cons_succ, List.set_cons_zero]
              refine wpAnyH_take (i := 8) (v := ?_) rfl (by kernel_rfl) (by kernel_rfl) (by kernel_rfl) (fun _ _ _ h => h) (Or.inl ⟨by rfl, ?_⟩) O ?_
              rotate_left
              · intro wq hSq
                (try dsimp only at hSq)

                go_simp
                try rfl
              change wpAnyH _ _ _ _ _ _ _ (Act.put _ (some 11) _) _
              simp only [Act.put, List.setIfInBounds_toArray, List.set_cons_succ, List.set_cons_zero]
              refine wpAnyH_take (i := 9) (v := ?_) rfl (by kernel_rfl) (by kernel_rfl) (by kernel_rfl) (fun _ _ _ h => h) (Or.inl ⟨by rfl, ?_⟩) O ?_
              rotate_left
              · intro wq hSq
                (try dsimp only at hSq)

                go_simp
                try rfl
              change wpAnyH _ _ _ _ _ _ _ (Act.put _ (some 12) _) _
              simp only [Act.put, List.setIfInBounds_toArray, List.set_cons_succ, List.set_cons_zero]
              refine wpAnyH_take (i := 10) (v := ?_) rfl (by kernel_rfl) (by kernel_rfl) (by kernel_rfl) (fun _ _ _ h => h) (Or.inl ⟨by rfl, ?_⟩) O ?_
              rotate_left
              · intro wq hSq
                (try dsimp only at hSq)
                have q2 := over_cell hSq bA.lt (bA.c 2 rfl)
                go_simp
                try rfl
              change wpAnyH _ _ _ _ _ _ _ (Act.put _ (some 13) _) _
              simp only [Act.put, List.setIfInBounds_toArray, List.set_cons_succ, List.set_cons_zero]
              refine wpAnyH_ready (rs := [11]) (by kernel_rfl) (by simp) ?_
              refine (AllReadyH.cons rfl (fun K hK => ?_) AllReadyH.nil)
              go_simp
              refine (within8 _ HB).mono ?_
              rintro e wn ⟨rfl, rfl⟩
              refine hK.out _ _ O (fun _ => ?_)
              clear hK K
              try simp only [Act.put, List.setIfInBounds_toArray, List.set_cons_zero, List.set_cons_succ]
              refine wpAnyH_take (i := 12) (v := ?_) rfl (by kernel_rfl) (by kernel_rfl) (by kernel_rfl) (fun _ _ _ h => h) (Or.inl ⟨by rfl, ?_⟩) O ?_
              rotate_left
              · intro wq hSq
                (try dsimp only at hSq)

                go_simp
                try rfl
              change wpAnyH _ _ _ _ _ _ _ (Act.put _ (some 15) _) _
              simp only [Act.put, List.setIfInBounds_toArray, List.set_cons_succ, List.set_cons_zero]
              refine wpAnyH_take (i := 13) (v := ?_) rfl (by kernel_rfl) (by kernel_rfl) (by kernel_rfl) (fun _ _ _ h => h) (Or.inl ⟨by rfl, ?_⟩) O ?_
              rotate_left
              · intro wq hSq
                (try dsimp only at hSq)

                go_simp
                try rfl
              change wpAnyH _ _ _ _ _ _ _ (Act.put _ (some 16) _) _
              simp only [Act.put, List.setIfInBounds_toArray, List.set_cons_succ, List.set_cons_zero]
              refine wpAnyH_take (i := 14) (v := ?_) rfl (by kernel_rfl) (by kernel_rfl) (by kernel_rfl) (fun _ _ _ h => h) (Or.inl ⟨by rfl, ?_⟩) O ?_
              rotate_left
              · intro wq hSq
                (try dsimp only at hSq)

                go_simp
                try rfl
              change wpAnyH _ _ _ _ _ _ _ (Act.put _ (some 17) _) _
              simp only [Act.put, List.setIfInBounds_toArray, List.set_cons_succ, List.set_cons_zero]
              refine wpAnyH_take (i := 15) (v := ?_) rfl (by kernel_rfl) (by kernel_rfl) (by kernel_rfl) (fun _ _ _ h => h) (Or.inl ⟨by rfl, ?_⟩) O ?_
              rotate_left
              · intro wq hSq
                (try dsimp only at hSq)
                have q4 := over_cell hSq bA.lt (bA.c 4 rfl)
                go_simp
                try rfl
              change wpAnyH _ _ _ _ _ _ _ (Act.put _ (some 18) _) _
              simp only [Act.put, List.setIfInBounds_toArray, List.set_cons_succ, List.set_cons_zero]
              refine wpAnyH_ready (rs := [16]) (by kernel_rfl) (by simp) ?_
              refine (AllReadyH.cons rfl (fun K hK => ?_) AllReadyH.nil)
              go_simp
              refine (irib_t _ (hR.keep O) HR).mono ?_
              rintro e wn ⟨rfl, hb⟩
              replace O := over_step O hb
              clear hb
              refine hK.out _ _ O (fun _ => ?_)
              clear hK K
              try simp only [Act.put, List.setIfInBounds_toArray, List.set_cons_zero, List.set_cons_succ]
              refine wpAnyH_take (i := 17) (v := ?_) rfl (by kernel_rfl) (by kernel_rfl) (by kernel_rfl) (fun _ _ _ h => h) (Or.inl ⟨by rfl, ?_⟩) O ?_
              rotate_left
              · intro wq hSq
                (try dsimp only at hSq)

                go_simp
                try rfl
              change wpAnyH _ _ _ _ _ _ _ (Act.put _ (some 20) _) _
              simp only [Act.put, List.setIfInBounds_toArray, List.set_cons_succ, List.set_cons_zero]
              refine wpAnyH_take (i := 18) (v := ?_) rfl (by kernel_rfl) (by kernel_rfl) (by kernel_rfl) (fun _ _ _ h => h) (Or.inl ⟨by rfl, ?_⟩) O ?_
              rotate_left
              · intro wq hSq
                (try dsimp only at hSq)

                go_simp
                try rfl
              change wpAnyH _ _ _ _ _ _ _ (Act.put _ (some 21) _) _
              simp only [Act.put, List.setIfInBounds_toArray, List.set_cons_succ, List.set_cons_zero]
              refine wpAnyH_take (i := 19) (v := ?_) rfl (by kernel_rfl) (by kernel_rfl) (by kernel_rfl) (fun _ _ _ h => h) (Or.inl ⟨by rfl, ?_⟩) O ?_
              rotate_left
              · intro wq hSq
                (try dsimp only at hSq)

                go_simp
                try rfl
              change wpAnyH _ _ _ _ _ _ _ (Act.put _ (some 22) _) _
              simp only [Act.put, List.setIfInBounds_toArray, List.set_cons_succ, List.set_cons_zero]
              refine wpAnyH_take (i := 20) (v := ?_) rfl (by kernel_rfl) (by kernel_rfl) (by kernel_rfl) (fun _ _ _ h => h) (Or.inl ⟨by rfl, ?_⟩) O ?_
              rotate_left
              · intro wq hSq
                (try dsimp only at hSq)
                have q5 := over_cell hSq bA.lt (bA.c 5 rfl)
                go_simp
                try rfl
              change wpAnyH _ _ _ _ _ _ _ (Act.put _ (some 23) _) _
              simp only [Act.put, List.setIfInBounds_toArray, List.set_cons_succ, List.set_cons_zero]
              refine wpAnyH_ready (rs := [21]) (by kernel_rfl) (by simp) ?_
              refine (AllReadyH.cons rfl (fun K hK => ?_) AllReadyH.nil)
              go_simp
              refine (irib_t _ (hS.keep O) HS).mono ?_
              rintro e wn ⟨rfl, hb⟩
              replace O := over_step O hb
              clear hb
              refine hK.out _ _ O (fun _ => ?_)
              clear hK K
              try simp only [Act.put, List.setIfInBounds_toArray, List.set_cons_zero, List.set_cons_succ]
              refine wpAnyH_take (i := 22) (v := ?_) rfl (by kernel_rfl) (by kernel_rfl) (by kernel_rfl) (fun _ _ _ h => h) (Or.inl ⟨by rfl, ?_⟩) O ?_
              rotate_left
              · intro wq hSq
                (try dsimp only at hSq)

                go_simp
                try rfl
              change wpAnyH _ _ _ _ _ _ _ (Act.put _ (some 25) _) _
              simp only [Act.put, List.setIfInBounds_toArray, List.set_cons_succ, List.set_cons_zero]
              refine wpAnyH_take (i := 23) (v := ?_) rfl (by kernel_rfl) (by kernel_rfl) (by kernel_rfl) (fun _ _ _ h => h) (Or.inl ⟨by rfl, ?_⟩) O ?_
              rotate_left
              · intro wq hSq
                (try dsimp only at hSq)

                go_simp
                try rfl
              change wpAnyH _ _ _ _ _ _ _ (Act.put _ (some 26) _) _
              simp only [Act.put, List.setIfInBounds_toArray, List.set_cons_succ, List.set_cons_zero]
              refine wpAnyH_take (i := 24) (v := ?_) rfl (by kernel_rfl) (by kernel_rfl) (by kernel_rfl) (fun _ _ _ h => h) (Or.inl ⟨by rfl, ?_⟩) O ?_
              rotate_left
              · intro wq hSq
                (try dsimp only at hSq)

                go_simp
                try rfl
              change wpAnyH _ _ _ _ _ _ _ (Act.put _ (some 27) _) _
              simp only [Act.put, List.setIfInBounds_toArray, List.set_cons_succ, List.set_cons_zero]
              refine wpAnyH_take (i := 25) (v := ?_) rfl (by kernel_rfl) (by kernel_rfl) (by kernel_rfl) (fun _ _ _ h => h) (Or.inl ⟨by rfl, ?_⟩) O ?_
              rotate_left
              · intro wq hSq
                (try dsimp only at hSq)
                have q4 := over_cell hSq bA.lt (bA.c 4 rfl)
                go_simp
                try rfl
              change wpAnyH _ _ _ _ _ _ _ (Act.put _ (some 28) _) _
              simp only [Act.put, List.setIfInBounds_toArray, List.set_cons_succ, List.set_cons_zero]
              refine wpAnyH_take (i := 27) (v := ?_) rfl (by kernel_rfl) (by kernel_rfl) (by kernel_rfl) (fun _ _ _ h => h) (Or.inl ⟨by rfl, ?_⟩) O ?_
              rotate_left
              · intro wq hSq
                (try dsimp only at hSq)

                go_simp
                try rfl
              change wpAnyH _ _ _ _ _ _ _ (Act.put _ (some 30) _) _
              simp only [Act.put, List.setIfInBounds_toArray, List.set_cons_succ, List.set_cons_zero]
              refine wpAnyH_take (i := 28) (v := ?_) rfl (by kernel_rfl) (by kernel_rfl) (by kernel_rfl) (fun _ _ _ h => h) (Or.inl ⟨by rfl, ?_⟩) O ?_
              rotate_left
              · intro wq hSq
                (try dsimp only at hSq)
                have q1 := over_cell hSq bA.lt (bA.c 1 rfl)
                go_simp
                try rfl
              change wpAnyH _ _ _ _ _ _ _ (Act.put _ (some 31) _) _
              simp only [Act.put, List.setIfInBounds_toArray, List.set_cons_succ, List.set_cons_zero]
              refine wpAnyH_ready (rs := [26]) (by kernel_rfl) (by simp) ?_
              refine (AllReadyH.cons rfl (fun K hK => ?_) AllReadyH.nil)
              go_simp
              refine (ifr_any rv N.rib (-1) _ (hR.keep O) HLR.out).mono ?_
              rintro e wn ⟨u, rfl, hu, hb⟩
              replace O := over_step O hb
              clear hb
              refine hK.out _ _ O (fun _ => ?_)
              clear hK K
              try simp only [Act.put, List.setIfInBounds_toArray, List.set_cons_zero, List.set_cons_succ]
              replace hu := hu.rd
              obtain ⟨ua, uc, rfl⟩ := hu.len
              refine wpAnyH_ready (rs := [29]) (by kernel_rfl) (by simp) ?_
              refine (AllReadyH.cons rfl (fun K hK => ?_) AllReadyH.nil)
              go_simp
              refine (slL_t _ (hu.keep (Below.refl _ _)) (hO.keep O) HE).mono ?_
              rintro e wn ⟨rfl, hb⟩
              replace O := over_step O hb
              clear hb
              refine hK.out _ _ O (fun _ => ?_)
              clear hK K
              try simp only [Act.put, List.setIfInBounds_toArray, List.set_cons_zero, List.set_cons_succ]
              refine wpAnyH_take (i := 30) (v := ?_) rfl (by kernel_rfl) (by kernel_rfl) (by kernel_rfl) (fun _ _ _ h => h) (Or.inl ⟨by rfl, ?_⟩) O ?_
              rotate_left
              · intro wq hSq
                (try dsimp only at hSq)

                go_simp
                try rfl
              change wpAnyH _ _ _ _ _ _ _ (Act.put _ (some 33) _) _
              simp only [Act.put, List.setIfInBounds_toArray, List.set_cons_succ, List.set_cons_zero]
              refine wpAnyH_take (i := 31) (v := ?_) rfl (by kernel_rfl) (by kernel_rfl) (by kernel_rfl) (fun _ _ _ h => h) (Or.inl ⟨by rfl, ?_⟩) O ?_
              rotate_left
              · intro wq hSq
                (try dsimp only at hSq)

                go_simp
                try rfl
              change wpAnyH _ _ _ _ _ _ _ (Act.put _ (some 34) _) _
              simp only [Act.put, List.setIfInBounds_toArray, List.set_cons_succ, List.set_cons_zero]
              refine wpAnyH_take (i := 32) (v := undef) rfl (by kernel_rfl) (by kernel_rfl) (by kernel_rfl) (fun _ _ _ h => h) (Or.inr ⟨by rfl, by rfl⟩) O ?_
              change wpAnyH _ _ _ _ _ _ _ (Act.put _ (some 35) _) _
              simp only [Act.put, List.setIfInBounds_toArray, List.set_cons_succ, List.set_cons_zero]
              refine wpAnyH_take (i := 33) (v := undef) rfl (by kernel_rfl) (by kernel_rfl) (by kernel_rfl) (fun _ _ _ h => h) (Or.inr ⟨by rfl, by rfl⟩) O ?_
              change wpAnyH _ _ _ _ _ _ _ (Act.put _ (some 36) _) _
              simp only [Act.put, List.setIfInBounds_toArray, List.set_cons_succ, List.set_cons_zero]
              refine wpAnyH_take (i := 34) (v := undef) rfl (by kernel_rfl) (by kernel_rfl) (by kernel_rfl) (fun _ _ _ h => h) (Or.inr ⟨by rfl, by rfl⟩) O ?_
              change wpAnyH _ _ _ _ _ _ _ (Act.put _ (some 37) _) _
              simp only [Act.put, List.setIfInBounds_toArray, List.set_cons_succ, List.set_cons_zero]
              refine wpAnyH_take (i := 35) (v := undef) rfl (by kernel_rfl) (by kernel_rfl) (by kernel_rfl) (fun _ _ _ h => h) (Or.inr ⟨by rfl, by rfl⟩) O ?_
              change wpAnyH _ _ _ _ _ _ _ (Act.put _ (some 38) _) _
              simp only [Act.put, List.setIfInBounds_toArray, List.set_cons_succ, List.set_cons_zero]
              refine wpAnyH_take (i := 36) (v := undef) rfl (by kernel_rfl) (by kernel_rfl) (by kernel_rfl) (fun _ _ _ h => h) (Or.inr ⟨by rfl, by rfl⟩) O ?_
              change wpAnyH _ _ _ _ _ _ _ (Act.put _ (some 39) _) _
              simp only [Act.put, List.setIfInBounds_toArray, List.set_cons_succ, List.set_cons_zero]
              refine wpAnyH_take (i := 37) (v := undef) rfl (by kernel_rfl) (by kernel_rfl) (by kernel_rfl) (fun _ _ _ h => h) (Or.inr ⟨by rfl, by rfl⟩) O ?_
              change wpAnyH _ _ _ _ _ _ _ (Act.put _ (some 40) _) _
              simp only [Act.put, List.setIfInBounds_toArray, List.set_cons_succ, List.set_cons_zero]
              refine wpAnyH_take (i := 38) (v := ?_) rfl (by kernel_rfl) (by kernel_rfl) (by kernel_rfl) (fun _ _ _ h => h) (Or.inl ⟨by rfl, ?_⟩) O ?_
              rotate_left
              · intro wq hSq
                (try dsimp only at hSq)

                go_simp
                try rfl
              change wpAnyH _ _ _ _ _ _ _ (Act.put _ (some 41) _) _
              simp only [Act.put, List.setIfInBounds_toArray, List.set_cons_succ, List.set_cons_zero]
              refine wpAnyH_take (i := 39) (v := ?_) rfl (by kernel_rfl) (by kernel_rfl) (by kernel_rfl) (fun _ _ _ h => h) (Or.inl ⟨by rfl, ?_⟩) O ?_
              rotate_left
              · intro wq hSq
                (try dsimp only at hSq)

                go_simp
                try rfl
              change wpAnyH _ _ _ _ _ _ _ (Act.put _ (some 42) _) _
              simp only [Act.put, List.setIfInBounds_toArray, List.set_cons_succ, List.set_cons_zero]
              refine wpAnyH_take (i := 40) (v := undef) rfl (by kernel_rfl) (by kernel_rfl) (by kernel_rfl) (fun _ _ _ h => h) (Or.inr ⟨by rfl, by rfl⟩) O ?_
              change wpAnyH _ _ _ _ _ _ _ (Act.put _ (some 43) _) _
              simp only [Act.put, List.setIfInBounds_toArray, List.set_cons_succ, List.set_cons_zero]
              refine wpAnyH_take (i := 41) (v := undef) rfl (by kernel_rfl) (by kernel_rfl) (by kernel_rfl) (fun _ _ _ h => h) (Or.inr ⟨by rfl, by rfl⟩) O ?_
              change wpAnyH _ _ _ _ _ _ _ (Act.put _ (some 44) _) _
              simp only [Act.put, List.setIfInBounds_toArray, List.set_cons_succ, List.set_cons_zero]
              refine wpAnyH_take (i := 42) (v := undef) rfl (by kernel_rfl) (by kernel_rfl) (by kernel_rfl) (fun _ _ _ h => h) (Or.inr ⟨by rfl, by rfl⟩) O ?_
              change wpAnyH _ _ _ _ _ _ _ (Act.put _ (some 45) _) _
              simp only [Act.put, List.setIfInBounds_toArray, List.set_cons_succ, List.set_cons_zero]
              refine wpAnyH_take (i := 43) (v := undef) rfl (by kernel_rfl) (by kernel_rfl) (by kernel_rfl) (fun _ _ _ h => h) (Or.inr ⟨by rfl, by rfl⟩) O ?_
              change wpAnyH _ _ _ _ _ _ _ (Act.put _ (some 46) _) _
              simp only [Act.put, List.setIfInBounds_toArray, List.set_cons_succ, List.set_cons_zero]
              refine wpAnyH_take (i := 44) (v := ?_) rfl (by kernel_rfl) (by kernel_rfl) (by kernel_rfl) (fun _ _ _ h => h) (Or.inl ⟨by rfl, ?_⟩) O ?_
              rotate_left
              · intro wq hSq
                (try dsimp only at hSq)

                go_simp
                try rfl
              change wpAnyH _ _ _ _ _ _ _ (Act.put _ (some 47) _) _
              simp only [Act.put, List.setIfInBounds_toArray, List.set_cons_succ, List.set_cons_zero]
              refine wpAnyH_ready (rs := [45]) (by kernel_rfl) (by simp) ?_
              refine (AllReadyH.cons rfl (fun K hK => ?_) AllReadyH.nil)
              go_simp
              refine hK.out _ _ O (fun _ => ?_)
              clear hK K
              try simp only [Act.put, List.setIfInBounds_toArray, List.set_cons_zero, List.set_cons_succ]
              refine wpAnyH_done (by kernel_rfl) ?_ _
              go_wp2
              go_ret
              exact ⟨rfl, over_step B0 O⟩
            · rw [Bool.true_and]
              have HE := Lib.hid hE
              clear hE
              cases hK : N.rib.all fun E => knowB N.an N.bw E
              · rw [Bool.false_and]
                have HK := Lib.hid hK
                clear hK
                go_enter Tryz.func65, Tryz.ntmps65
                go_wp2_with fail
                rw [← hV]
                clear hV
                refine wp_region_held_drew (S := fun w' => Over V w') (by kernel_rfl) (over_drew V) (fun hHeld => ?_)
                obtain ⟨u0, e0'⟩ : ∃ u, u = V.drew := ⟨_, rfl⟩
                have O : Over V u0 := by rw [e0']; exact over_drew V
                rw [← e0']
                clear e0' hHeld
                refine wpAnyH_take (i := 0) (v := ?_) rfl (by kernel_rfl) (by kernel_rfl) (by kernel_rfl) (fun _ _ _ h => h) (Or.inl ⟨by rfl, ?_⟩) O ?_
                rotate_left
                · intro wq hSq
                  (try dsimp only at hSq)

                  go_simp
                  try rfl
                change wpAnyH _ _ _ _ _ _ _ (Act.put _ (some 3) _) _
                simp only [Act.put, List.setIfInBounds_toArray, List.set_cons_succ, List.set_cons_zero]
                refine wpAnyH_take (i := 1) (v := ?_) rfl (by kernel_rfl) (by kernel_rfl) (by kernel_rfl) (fun _ _ _ h => h) (Or.inl ⟨by rfl, ?_⟩) O ?_
                rotate_left
                · intro wq hSq
                  (try dsimp only at hSq)
                  have q0 := over_cell hSq bA.lt (bA.c 0 rfl)
                  go_simp
                  try rfl
                change wpAnyH _ _ _ _ _ _ _ (Act.put _ (some 4) _) _
                simp only [Act.put, List.setIfInBounds_toArray, List.set_cons_succ, List.set_cons_zero]
                refine wpAnyH_ready (rs := [2]) (by kernel_rfl) (by simp) ?_
                refine (AllReadyH.cons rfl (fun K hK => ?_) AllReadyH.nil)
                go_simp
                refine (numok8 _ HA).mono ?_
                rintro e wn ⟨rfl, rfl⟩
                refine hK.out _ _ O (fun _ => ?_)
                clear hK K
                try simp only [Act.put, List.setIfInBounds_toArray, List.set_cons_zero, List.set_cons_succ]
                refine wpAnyH_take (i := 3) (v := ?_) rfl (by kernel_rfl) (by kernel_rfl) (by kernel_rfl) (fun _ _ _ h => h) (Or.inl ⟨by rfl, ?_⟩) O ?_
                rotate_left
                · intro wq hSq
                  (try dsimp only at hSq)

                  go_simp
                  try rfl
                change wpAnyH _ _ _ _ _ _ _ (Act.put _ (some 6) _) _
                simp only [Act.put, List.setIfInBounds_toArray, List.set_cons_succ, List.set_cons_zero]
                refine wpAnyH_take (i := 4) (v := ?_) rfl (by kernel_rfl) (by kernel_rfl) (by kernel_rfl) (fun _ _ _ h => h) (Or.inl ⟨by rfl, ?_⟩) O ?_
                rotate_left
                · intro wq hSq
                  (try dsimp only at hSq)

                  go_simp
                  try rfl
                change wpAnyH _ _ _ _ _ _ _ (Act.put _ (some 7) _) _
                simp only [Act.put, List.setIfInBounds_toArray, List.set_cons_succ, List.set_cons_zero]
                refine wpAnyH_take (i := 5) (v := ?_) rfl (by kernel_rfl) (by kernel_rfl) (by kernel_rfl) (fun _ _ _ h => h) (Or.inl ⟨by rfl, ?_⟩) O ?_
                rotate_left
                · intro wq hSq
                  (try dsimp only at hSq)
                  have q1 := over_cell hSq bA.lt (bA.c 1 rfl)
                  go_simp
                  try rfl
                change wpAnyH _ _ _ _ _ _ _ (Act.put _ (some 8) _) _
                simp only [Act.put, List.setIfInBounds_toArray, List.set_cons_succ, List.set_cons_zero]
                refine wpAnyH_ready (rs := [6]) (by kernel_rfl) (by simp) ?_
                refine (AllReadyH.cons rfl (fun K hK => ?_) AllReadyH.nil)
                go_simp
                refine (ipfx8 _ (hO.keep O) HO).mono ?_
                rintro e wn ⟨rfl, hb⟩
                replace O := over_step O hb
                clear hb
                refine hK.out _ _ O (fun _ => ?_)
                clear hK K
                try simp only [Act.put, List.setIfInBounds_toArray, List.set_cons_zero, List.set_cons_succ]
                refine wpAnyH_take (i := 7) (v := ?_) rfl (by kernel_rfl) (by kernel_rfl) (by kernel_rfl) (fun _ _ _ h => h) (Or.inl ⟨by rfl, ?_⟩) O ?_
                rotate_left
                · intro wq hSq
                  (try dsimp only at hSq)

                  go_simp
                  try rfl
                change wpAnyH _ _ _ _ _ _ _ (Act.put _ (some 10) _) _
                simp only [Act.put, List.setIfInBounds_toArray, List.set_cons_succ, List.set_cons_zero]
                refine wpAnyH_take (i := 8) (v := ?_) rfl (by kernel_rfl) (by kernel_rfl) (by kernel_rfl) (fun _ _ _ h => h) (Or.inl ⟨by rfl, ?_⟩) O ?_
                rotate_left
                · intro wq hSq
                  (try dsimp only at hSq)

                  go_simp
                  try rfl
                change wpAnyH _ _ _ _ _ _ _ (Act.put _ (some 11) _) _
                simp only [Act.put, List.setIfInBounds_toArray, List.set_cons_succ, List.set_cons_zero]
                refine wpAnyH_take (i := 9) (v := ?_) rfl (by kernel_rfl) (by kernel_rfl) (by kernel_rfl) (fun _ _ _ h => h) (Or.inl ⟨by rfl, ?_⟩) O ?_
                rotate_left
                · intro wq hSq
                  (try dsimp only at hSq)

                  go_simp
                  try rfl
                change wpAnyH _ _ _ _ _ _ _ (Act.put _ (some 12) _) _
                simp only [Act.put, List.setIfInBounds_toArray, List.set_cons_succ, List.set_cons_zero]
                refine wpAnyH_take (i := 10) (v := ?_) rfl (by kernel_rfl) (by kernel_rfl) (by kernel_rfl) (fun _ _ _ h => h) (Or.inl ⟨by rfl, ?_⟩) O ?_
                rotate_left
                · intro wq hSq
                  (try dsimp only at hSq)
                  have q2 := over_cell hSq bA.lt (bA.c 2 rfl)
                  go_simp
                  try rfl
                change wpAnyH _ _ _ _ _ _ _ (Act.put _ (some 13) _) _
                simp only [Act.put, List.setIfInBounds_toArray, List.set_cons_succ, List.set_cons_zero]
                refine wpAnyH_ready (rs := [11]) (by kernel_rfl) (by simp) ?_
                refine (AllReadyH.cons rfl (fun K hK => ?_) AllReadyH.nil)
                go_simp
                refine (within8 _ HB).mono ?_
                rintro e wn ⟨rfl, rfl⟩
                refine hK.out _ _ O (fun _ => ?_)
                clear hK K
                try simp only [Act.put, List.setIfInBounds_toArray, List.set_cons_zero, List.set_cons_succ]
                refine wpAnyH_take (i := 12) (v := ?_) rfl (by kernel_rfl) (by kernel_rfl) (by kernel_rfl) (fun _ _ _ h => h) (Or.inl ⟨by rfl, ?_⟩) O ?_
                rotate_left
                · intro wq hSq
                  (try dsimp only at hSq)

                  go_simp
                  try rfl
                change wpAnyH _ _ _ _ _ _ _ (Act.put _ (some 15) _) _
                simp only [Act.put, List.setIfInBounds_toArray, List.set_cons_succ, List.set_cons_zero]
                refine wpAnyH_take (i := 13) (v := ?_) rfl (by kernel_rfl) (by kernel_rfl) (by kernel_rfl) (fun _ _ _ h => h) (Or.inl ⟨by rfl, ?_⟩) O ?_
                rotate_left
                · intro wq hSq
                  (try dsimp only at hSq)

                  go_simp
                  try rfl
                change wpAnyH _ _ _ _ _ _ _ (Act.put _ (some 16) _) _
                simp only [Act.put, List.setIfInBounds_toArray, List.set_cons_succ, List.set_cons_zero]
                refine wpAnyH_take (i := 14) (v := ?_) rfl (by kernel_rfl) (by kernel_rfl) (by kernel_rfl) (fun _ _ _ h => h) (Or.inl ⟨by rfl, ?_⟩) O ?_
                rotate_left
                · intro wq hSq
                  (try dsimp only at hSq)

                  go_simp
                  try rfl
                change wpAnyH _ _ _ _ _ _ _ (Act.put _ (some 17) _) _
                simp only [Act.put, List.setIfInBounds_toArray, List.set_cons_succ, List.set_cons_zero]
                refine wpAnyH_take (i := 15) (v := ?_) rfl (by kernel_rfl) (by kernel_rfl) (by kernel_rfl) (fun _ _ _ h => h) (Or.inl ⟨by rfl, ?_⟩) O ?_
                rotate_left
                · intro wq hSq
                  (try dsimp only at hSq)
                  have q4 := over_cell hSq bA.lt (bA.c 4 rfl)
                  go_simp
                  try rfl
                change wpAnyH _ _ _ _ _ _ _ (Act.put _ (some 18) _) _
                simp only [Act.put, List.setIfInBounds_toArray, List.set_cons_succ, List.set_cons_zero]
                refine wpAnyH_ready (rs := [16]) (by kernel_rfl) (by simp) ?_
                refine (AllReadyH.cons rfl (fun K hK => ?_) AllReadyH.nil)
                go_simp
                refine (irib_t _ (hR.keep O) HR).mono ?_
                rintro e wn ⟨rfl, hb⟩
                replace O := over_step O hb
                clear hb
                refine hK.out _ _ O (fun _ => ?_)
                clear hK K
                try simp only [Act.put, List.setIfInBounds_toArray, List.set_cons_zero, List.set_cons_succ]
                refine wpAnyH_take (i := 17) (v := ?_) rfl (by kernel_rfl) (by kernel_rfl) (by kernel_rfl) (fun _ _ _ h => h) (Or.inl ⟨by rfl, ?_⟩) O ?_
                rotate_left
                · intro wq hSq
                  (try dsimp only at hSq)

                  go_simp
                  try rfl
                change wpAnyH _ _ _ _ _ _ _ (Act.put _ (some 20) _) _
                simp only [Act.put, List.setIfInBounds_toArray, List.set_cons_succ, List.set_cons_zero]
                refine wpAnyH_take (i := 18) (v := ?_) rfl (by kernel_rfl) (by kernel_rfl) (by kernel_rfl) (fun _ _ _ h => h) (Or.inl ⟨by rfl, ?_⟩) O ?_
                rotate_left
                · intro wq hSq
                  (try dsimp only at hSq)

                  go_simp
                  try rfl
                change wpAnyH _ _ _ _ _ _ _ (Act.put _ (some 21) _) _
                simp only [Act.put, List.setIfInBounds_toArray, List.set_cons_succ, List.set_cons_zero]
                refine wpAnyH_take (i := 19) (v := ?_) rfl (by kernel_rfl) (by kernel_rfl) (by kernel_rfl) (fun _ _ _ h => h) (Or.inl ⟨by rfl, ?_⟩) O ?_
                rotate_left
                · intro wq hSq
                  (try dsimp only at hSq)

                  go_simp
                  try rfl
                change wpAnyH _ _ _ _ _ _ _ (Act.put _ (some 22) _) _
                simp only [Act.put, List.setIfInBounds_toArray, List.set_cons_succ, List.set_cons_zero]
                refine wpAnyH_take (i := 20) (v := ?_) rfl (by kernel_rfl) (by kernel_rfl) (by kernel_rfl) (fun _ _ _ h => h) (Or.inl ⟨by rfl, ?_⟩) O ?_
                rotate_left
                · intro wq hSq
                  (try dsimp only at hSq)
                  have q5 := over_cell hSq bA.lt (bA.c 5 rfl)
                  go_simp
                  try rfl
                change wpAnyH _ _ _ _ _ _ _ (Act.put _ (some 23) _) _
                simp only [Act.put, List.setIfInBounds_toArray, List.set_cons_succ, List.set_cons_zero]
                refine wpAnyH_ready (rs := [21]) (by kernel_rfl) (by simp) ?_
                refine (AllReadyH.cons rfl (fun K hK => ?_) AllReadyH.nil)
                go_simp
                refine (irib_t _ (hS.keep O) HS).mono ?_
                rintro e wn ⟨rfl, hb⟩
                replace O := over_step O hb
                clear hb
                refine hK.out _ _ O (fun _ => ?_)
                clear hK K
                try simp only [Act.put, List.setIfInBounds_toArray, List.set_cons_zero, List.set_cons_succ]
                refine wpAnyH_take (i := 22) (v := ?_) rfl (by kernel_rfl) (by kernel_rfl) (by kernel_rfl) (fun _ _ _ h => h) (Or.inl ⟨by rfl, ?_⟩) O ?_
                rotate_left
                · intro wq hSq
                  (try dsimp only at hSq)

                  go_simp
                  try rfl
                change wpAnyH _ _ _ _ _ _ _ (Act.put _ (some 25) _) _
                simp only [Act.put, List.setIfInBounds_toArray, List.set_cons_succ, List.set_cons_zero]
                refine wpAnyH_take (i := 23) (v := ?_) rfl (by kernel_rfl) (by kernel_rfl) (by kernel_rfl) (fun _ _ _ h => h) (Or.inl ⟨by rfl, ?_⟩) O ?_
                rotate_left
                · intro wq hSq
                  (try dsimp only at hSq)

                  go_simp
                  try rfl
                change wpAnyH _ _ _ _ _ _ _ (Act.put _ (some 26) _) _
                simp only [Act.put, List.setIfInBounds_toArray, List.set_cons_succ, List.set_cons_zero]
                refine wpAnyH_take (i := 24) (v := ?_) rfl (by kernel_rfl) (by kernel_rfl) (by kernel_rfl) (fun _ _ _ h => h) (Or.inl ⟨by rfl, ?_⟩) O ?_
                rotate_left
                · intro wq hSq
                  (try dsimp only at hSq)

                  go_simp
                  try rfl
                change wpAnyH _ _ _ _ _ _ _ (Act.put _ (some 27) _) _
                simp only [Act.put, List.setIfInBounds_toArray, List.set_cons_succ, List.set_cons_zero]
                refine wpAnyH_take (i := 25) (v := ?_) rfl (by kernel_rfl) (by kernel_rfl) (by kernel_rfl) (fun _ _ _ h => h) (Or.inl ⟨by rfl, ?_⟩) O ?_
                rotate_left
                · intro wq hSq
                  (try dsimp only at hSq)
                  have q4 := over_cell hSq bA.lt (bA.c 4 rfl)
                  go_simp
                  try rfl
                change wpAnyH _ _ _ _ _ _ _ (Act.put _ (some 28) _) _
                simp only [Act.put, List.setIfInBounds_toArray, List.set_cons_succ, List.set_cons_zero]
                refine wpAnyH_take (i := 27) (v := ?_) rfl (by kernel_rfl) (by kernel_rfl) (by kernel_rfl) (fun _ _ _ h => h) (Or.inl ⟨by rfl, ?_⟩) O ?_
                rotate_left
                · intro wq hSq
                  (try dsimp only at hSq)

                  go_simp
                  try rfl
                change wpAnyH _ _ _ _ _ _ _ (Act.put _ (some 30) _) _
                simp only [Act.put, List.setIfInBounds_toArray, List.set_cons_succ, List.set_cons_zero]
                refine wpAnyH_take (i := 28) (v := ?_) rfl (by kernel_rfl) (by kernel_rfl) (by kernel_rfl) (fun _ _ _ h => h) (Or.inl ⟨by rfl, ?_⟩) O ?_
                rotate_left
                · intro wq hSq
                  (try dsimp only at hSq)
                  have q1 := over_cell hSq bA.lt (bA.c 1 rfl)
                  go_simp
                  try rfl
                change wpAnyH _ _ _ _ _ _ _ (Act.put _ (some 31) _) _
                simp only [Act.put, List.setIfInBounds_toArray, List.set_cons_succ, List.set_cons_zero]
                refine wpAnyH_ready (rs := [26]) (by kernel_rfl) (by simp) ?_
                refine (AllReadyH.cons rfl (fun K hK => ?_) AllReadyH.nil)
                go_simp
                refine (ifr_any rv N.rib (-1) _ (hR.keep O) HLR.out).mono ?_
                rintro e wn ⟨u, rfl, hu, hb⟩
                replace O := over_step O hb
                clear hb
                refine hK.out _ _ O (fun _ => ?_)
                clear hK K
                try simp only [Act.put, List.setIfInBounds_toArray, List.set_cons_zero, List.set_cons_succ]
                replace hu := hu.rd
                obtain ⟨ua, uc, rfl⟩ := hu.len
                refine wpAnyH_ready (rs := [29]) (by kernel_rfl) (by simp) ?_
                refine (AllReadyH.cons rfl (fun K hK => ?_) AllReadyH.nil)
                go_simp
                refine (slL_t _ (hu.keep (Below.refl _ _)) (hO.keep O) HE).mono ?_
                rintro e wn ⟨rfl, hb⟩
                replace O := over_step O hb
                clear hb
                refine hK.out _ _ O (fun _ => ?_)
                clear hK K
                try simp only [Act.put, List.setIfInBounds_toArray, List.set_cons_zero, List.set_cons_succ]
                refine wpAnyH_take (i := 30) (v := ?_) rfl (by kernel_rfl) (by kernel_rfl) (by kernel_rfl) (fun _ _ _ h => h) (Or.inl ⟨by rfl, ?_⟩) O ?_
                rotate_left
                · intro wq hSq
                  (try dsimp only at hSq)

                  go_simp
                  try rfl
                change wpAnyH _ _ _ _ _ _ _ (Act.put _ (some 33) _) _
                simp only [Act.put, List.setIfInBounds_toArray, List.set_cons_succ, List.set_cons_zero]
                refine wpAnyH_take (i := 31) (v := ?_) rfl (by kernel_rfl) (by kernel_rfl) (by kernel_rfl) (fun _ _ _ h => h) (Or.inl ⟨by rfl, ?_⟩) O ?_
                rotate_left
                · intro wq hSq
                  (try dsimp only at hSq)

                  go_simp
                  try rfl
                change wpAnyH _ _ _ _ _ _ _ (Act.put _ (some 34) _) _
                simp only [Act.put, List.setIfInBounds_toArray, List.set_cons_succ, List.set_cons_zero]
                refine wpAnyH_take (i := 32) (v := ?_) rfl (by kernel_rfl) (by kernel_rfl) (by kernel_rfl) (fun _ _ _ h => h) (Or.inl ⟨by rfl, ?_⟩) O ?_
                rotate_left
                · intro wq hSq
                  (try dsimp only at hSq)

                  go_simp
                  try rfl
                change wpAnyH _ _ _ _ _ _ _ (Act.put _ (some 35) _) _
                simp only [Act.put, List.setIfInBounds_toArray, List.set_cons_succ, List.set_cons_zero]
                refine wpAnyH_take (i := 33) (v := ?_) rfl (by kernel_rfl) (by kernel_rfl) (by kernel_rfl) (fun _ _ _ h => h) (Or.inl ⟨by rfl, ?_⟩) O ?_
                rotate_left
                · intro wq hSq
                  (try dsimp only at hSq)

                  go_simp
                  try rfl
                change wpAnyH _ _ _ _ _ _ _ (Act.put _ (some 36) _) _
                simp only [Act.put, List.setIfInBounds_toArray, List.set_cons_succ, List.set_cons_zero]
                refine wpAnyH_take (i := 34) (v := ?_) rfl (by kernel_rfl) (by kernel_rfl) (by kernel_rfl) (fun _ _ _ h => h) (Or.inl ⟨by rfl, ?_⟩) O ?_
                rotate_left
                · intro wq hSq
                  (try dsimp only at hSq)
                  have q4 := over_cell hSq bA.lt (bA.c 4 rfl)
                  go_simp
                  try rfl
                change wpAnyH _ _ _ _ _ _ _ (Act.put _ (some 37) _) _
                simp only [Act.put, List.setIfInBounds_toArray, List.set_cons_succ, List.set_cons_zero]
                refine wpAnyH_take (i := 35) (v := ?_) rfl (by kernel_rfl) (by kernel_rfl) (by kernel_rfl) (fun _ _ _ h => h) (Or.inl ⟨by rfl, ?_⟩) O ?_
                rotate_left
                · intro wq hSq
                  (try dsimp only at hSq)
                  have q0 := over_cell hSq bA.lt (bA.c 0 rfl)
                  have q1 := over_cell hSq bA.lt (bA.c 1 rfl)
                  have q2 := over_cell hSq bA.lt (bA.c 2 rfl)
                  have q3 := over_cell hSq bA.lt (bA.c 3 rfl)
                  have q4 := over_cell hSq bA.lt (bA.c 4 rfl)
                  have q5 := over_cell hSq bA.lt (bA.c 5 rfl)
                  go_simp
                  try rfl
                change wpAnyH _ _ _ _ _ _ _ (Act.put _ (some 38) _) _
                simp only [Act.put, List.setIfInBounds_toArray, List.set_cons_succ, List.set_cons_zero]
                refine wpAnyH_take (i := 36) (v := ?_) rfl (by kernel_rfl) (by kernel_rfl) (by kernel_rfl) (fun _ _ _ h => h) (Or.inl ⟨by rfl, ?_⟩) O ?_
                rotate_left
                · intro wq hSq
                  (try dsimp only at hSq)

                  go_simp
                  try rfl
                change wpAnyH _ _ _ _ _ _ _ (Act.put _ (some 39) _) _
                simp only [Act.put, List.setIfInBounds_toArray, List.set_cons_succ, List.set_cons_zero]
                refine wpAnyH_ready (rs := [37]) (by kernel_rfl) (by simp) ?_
                refine (AllReadyH.cons rfl (fun K hK => ?_) AllReadyH.nil)
                go_simp
                refine (ievK_t ov rv sv N _ (hR.keep O) HVR.out HK).mono ?_
                rintro e wn ⟨rfl, hb⟩
                replace O := over_step O hb
                clear hb
                refine hK.out _ _ O (fun _ => ?_)
                clear hK K
                try simp only [Act.put, List.setIfInBounds_toArray, List.set_cons_zero, List.set_cons_succ]
                refine wpAnyH_take (i := 38) (v := ?_) rfl (by kernel_rfl) (by kernel_rfl) (by kernel_rfl) (fun _ _ _ h => h) (Or.inl ⟨by rfl, ?_⟩) O ?_
                rotate_left
                · intro wq hSq
                  (try dsimp only at hSq)

                  go_simp
                  try rfl
                change wpAnyH _ _ _ _ _ _ _ (Act.put _ (some 41) _) _
                simp only [Act.put, List.setIfInBounds_toArray, List.set_cons_succ, List.set_cons_zero]
                refine wpAnyH_take (i := 39) (v := ?_) rfl (by kernel_rfl) (by kernel_rfl) (by kernel_rfl) (fun _ _ _ h => h) (Or.inl ⟨by rfl, ?_⟩) O ?_
                rotate_left
                · intro wq hSq
                  (try dsimp only at hSq)

                  go_simp
                  try rfl
                change wpAnyH _ _ _ _ _ _ _ (Act.put _ (some 42) _) _
                simp only [Act.put, List.setIfInBounds_toArray, List.set_cons_succ, List.set_cons_zero]
                refine wpAnyH_take (i := 40) (v := undef) rfl (by kernel_rfl) (by kernel_rfl) (by kernel_rfl) (fun _ _ _ h => h) (Or.inr ⟨by rfl, by rfl⟩) O ?_
                change wpAnyH _ _ _ _ _ _ _ (Act.put _ (some 43) _) _
                simp only [Act.put, List.setIfInBounds_toArray, List.set_cons_succ, List.set_cons_zero]
                refine wpAnyH_take (i := 41) (v := undef) rfl (by kernel_rfl) (by kernel_rfl) (by kernel_rfl) (fun _ _ _ h => h) (Or.inr ⟨by rfl, by rfl⟩) O ?_
                change wpAnyH _ _ _ _ _ _ _ (Act.put _ (some 44) _) _
                simp only [Act.put, List.setIfInBounds_toArray, List.set_cons_succ, List.set_cons_zero]
                refine wpAnyH_take (i := 42) (v := undef) rfl (by kernel_rfl) (by kernel_rfl) (by kernel_rfl) (fun _ _ _ h => h) (Or.inr ⟨by rfl, by rfl⟩) O ?_
                change wpAnyH _ _ _ _ _ _ _ (Act.put _ (some 45) _) _
                simp only [Act.put, List.setIfInBounds_toArray, List.set_cons_succ, List.set_cons_zero]
                refine wpAnyH_take (i := 43) (v := undef) rfl (by kernel_rfl) (by kernel_rfl) (by kernel_rfl) (fun _ _ _ h => h) (Or.inr ⟨by rfl, by rfl⟩) O ?_
                change wpAnyH _ _ _ _ _ _ _ (Act.put _ (some 46) _) _
                simp only [Act.put, List.setIfInBounds_toArray, List.set_cons_succ, List.set_cons_zero]
                refine wpAnyH_take (i := 44) (v := ?_) rfl (by kernel_rfl) (by kernel_rfl) (by kernel_rfl) (fun _ _ _ h => h) (Or.inl ⟨by rfl, ?_⟩) O ?_
                rotate_left
                · intro wq hSq
                  (try dsimp only at hSq)

                  go_simp
                  try rfl
                change wpAnyH _ _ _ _ _ _ _ (Act.put _ (some 47) _) _
                simp only [Act.put, List.setIfInBounds_toArray, List.set_cons_succ, List.set_cons_zero]
                refine wpAnyH_ready (rs := [45]) (by kernel_rfl) (by simp) ?_
                refine (AllReadyH.cons rfl (fun K hK => ?_) AllReadyH.nil)
                go_simp
                refine hK.out _ _ O (fun _ => ?_)
                clear hK K
                try simp only [Act.put, List.setIfInBounds_toArray, List.set_cons_zero, List.set_cons_succ]
                refine wpAnyH_done (by kernel_rfl) ?_ _
                go_wp2
                go_ret
                exact ⟨rfl, over_step B0 O⟩
              · rw [Bool.true_and]
                have HK := Lib.hid hK
                clear hK
                obtain ⟨g, hg⟩ : ∃ g, (N.sent.all fun E => sendB E) = g := ⟨_, rfl⟩
                rw [hg]
                have HSS := Lib.hid hg
                clear hg
                go_enter Tryz.func65, Tryz.ntmps65
                go_wp2_with fail
                rw [← hV]
                clear hV
                refine wp_region_held_drew (S := fun w' => Over V w') (by kernel_rfl) (over_drew V) (fun hHeld => ?_)
                obtain ⟨u0, e0'⟩ : ∃ u, u = V.drew := ⟨_, rfl⟩
                have O : Over V u0 := by rw [e0']; exact over_drew V
                rw [← e0']
                clear e0' hHeld
                refine wpAnyH_take (i := 0) (v := ?_) rfl (by kernel_rfl) (by kernel_rfl) (by kernel_rfl) (fun _ _ _ h => h) (Or.inl ⟨by rfl, ?_⟩) O ?_
                rotate_left
                · intro wq hSq
                  (try dsimp only at hSq)

                  go_simp
                  try rfl
                change wpAnyH _ _ _ _ _ _ _ (Act.put _ (some 3) _) _
                simp only [Act.put, List.setIfInBounds_toArray, List.set_cons_succ, List.set_cons_zero]
                refine wpAnyH_take (i := 1) (v := ?_) rfl (by kernel_rfl) (by kernel_rfl) (by kernel_rfl) (fun _ _ _ h => h) (Or.inl ⟨by rfl, ?_⟩) O ?_
                rotate_left
                · intro wq hSq
                  (try dsimp only at hSq)
                  have q0 := over_cell hSq bA.lt (bA.c 0 rfl)
                  go_simp
                  try rfl
                change wpAnyH _ _ _ _ _ _ _ (Act.put _ (some 4) _) _
                simp only [Act.put, List.setIfInBounds_toArray, List.set_cons_succ, List.set_cons_zero]
                refine wpAnyH_ready (rs := [2]) (by kernel_rfl) (by simp) ?_
                refine (AllReadyH.cons rfl (fun K hK => ?_) AllReadyH.nil)
                go_simp
                refine (numok8 _ HA).mono ?_
                rintro e wn ⟨rfl, rfl⟩
                refine hK.out _ _ O (fun _ => ?_)
                clear hK K
                try simp only [Act.put, List.setIfInBounds_toArray, List.set_cons_zero, List.set_cons_succ]
                refine wpAnyH_take (i := 3) (v := ?_) rfl (by kernel_rfl) (by kernel_rfl) (by kernel_rfl) (fun _ _ _ h => h) (Or.inl ⟨by rfl, ?_⟩) O ?_
                rotate_left
                · intro wq hSq
                  (try dsimp only at hSq)

                  go_simp
                  try rfl
                change wpAnyH _ _ _ _ _ _ _ (Act.put _ (some 6) _) _
                simp only [Act.put, List.setIfInBounds_toArray, List.set_cons_succ, List.set_cons_zero]
                refine wpAnyH_take (i := 4) (v := ?_) rfl (by kernel_rfl) (by kernel_rfl) (by kernel_rfl) (fun _ _ _ h => h) (Or.inl ⟨by rfl, ?_⟩) O ?_
                rotate_left
                · intro wq hSq
                  (try dsimp only at hSq)

                  go_simp
                  try rfl
                change wpAnyH _ _ _ _ _ _ _ (Act.put _ (some 7) _) _
                simp only [Act.put, List.setIfInBounds_toArray, List.set_cons_succ, List.set_cons_zero]
                refine wpAnyH_take (i := 5) (v := ?_) rfl (by kernel_rfl) (by kernel_rfl) (by kernel_rfl) (fun _ _ _ h => h) (Or.inl ⟨by rfl, ?_⟩) O ?_
                rotate_left
                · intro wq hSq
                  (try dsimp only at hSq)
                  have q1 := over_cell hSq bA.lt (bA.c 1 rfl)
                  go_simp
                  try rfl
                change wpAnyH _ _ _ _ _ _ _ (Act.put _ (some 8) _) _
                simp only [Act.put, List.setIfInBounds_toArray, List.set_cons_succ, List.set_cons_zero]
                refine wpAnyH_ready (rs := [6]) (by kernel_rfl) (by simp) ?_
                refine (AllReadyH.cons rfl (fun K hK => ?_) AllReadyH.nil)
                go_simp
                refine (ipfx8 _ (hO.keep O) HO).mono ?_
                rintro e wn ⟨rfl, hb⟩
                replace O := over_step O hb
                clear hb
                refine hK.out _ _ O (fun _ => ?_)
                clear hK K
                try simp only [Act.put, List.setIfInBounds_toArray, List.set_cons_zero, List.set_cons_succ]
                refine wpAnyH_take (i := 7) (v := ?_) rfl (by kernel_rfl) (by kernel_rfl) (by kernel_rfl) (fun _ _ _ h => h) (Or.inl ⟨by rfl, ?_⟩) O ?_
                rotate_left
                · intro wq hSq
                  (try dsimp only at hSq)

                  go_simp
                  try rfl
                change wpAnyH _ _ _ _ _ _ _ (Act.put _ (some 10) _) _
                simp only [Act.put, List.setIfInBounds_toArray, List.set_cons_succ, List.set_cons_zero]
                refine wpAnyH_take (i := 8) (v := ?_) rfl (by kernel_rfl) (by kernel_rfl) (by kernel_rfl) (fun _ _ _ h => h) (Or.inl ⟨by rfl, ?_⟩) O ?_
                rotate_left
                · intro wq hSq
                  (try dsimp only at hSq)

                  go_simp
                  try rfl
                change wpAnyH _ _ _ _ _ _ _ (Act.put _ (some 11) _) _
                simp only [Act.put, List.setIfInBounds_toArray, List.set_cons_succ, List.set_cons_zero]
                refine wpAnyH_take (i := 9) (v := ?_) rfl (by kernel_rfl) (by kernel_rfl) (by kernel_rfl) (fun _ _ _ h => h) (Or.inl ⟨by rfl, ?_⟩) O ?_
                rotate_left
                · intro wq hSq
                  (try dsimp only at hSq)

                  go_simp
                  try rfl
                change wpAnyH _ _ _ _ _ _ _ (Act.put _ (some 12) _) _
                simp only [Act.put, List.setIfInBounds_toArray, List.set_cons_succ, List.set_cons_zero]
                refine wpAnyH_take (i := 10) (v := ?_) rfl (by kernel_rfl) (by kernel_rfl) (by kernel_rfl) (fun _ _ _ h => h) (Or.inl ⟨by rfl, ?_⟩) O ?_
                rotate_left
                · intro wq hSq
                  (try dsimp only at hSq)
                  have q2 := over_cell hSq bA.lt (bA.c 2 rfl)
                  go_simp
                  try rfl
                change wpAnyH _ _ _ _ _ _ _ (Act.put _ (some 13) _) _
                simp only [Act.put, List.setIfInBounds_toArray, List.set_cons_succ, List.set_cons_zero]
                refine wpAnyH_ready (rs := [11]) (by kernel_rfl) (by simp) ?_
                refine (AllReadyH.cons rfl (fun K hK => ?_) AllReadyH.nil)
                go_simp
                refine (within8 _ HB).mono ?_
                rintro e wn ⟨rfl, rfl⟩
                refine hK.out _ _ O (fun _ => ?_)
                clear hK K
                try simp only [Act.put, List.setIfInBounds_toArray, List.set_cons_zero, List.set_cons_succ]
                refine wpAnyH_take (i := 12) (v := ?_) rfl (by kernel_rfl) (by kernel_rfl) (by kernel_rfl) (fun _ _ _ h => h) (Or.inl ⟨by rfl, ?_⟩) O ?_
                rotate_left
                · intro wq hSq
                  (try dsimp only at hSq)

                  go_simp
                  try rfl
                change wpAnyH _ _ _ _ _ _ _ (Act.put _ (some 15) _) _
                simp only [Act.put, List.setIfInBounds_toArray, List.set_cons_succ, List.set_cons_zero]
                refine wpAnyH_take (i := 13) (v := ?_) rfl (by kernel_rfl) (by kernel_rfl) (by kernel_rfl) (fun _ _ _ h => h) (Or.inl ⟨by rfl, ?_⟩) O ?_
                rotate_left
                · intro wq hSq
                  (try dsimp only at hSq)

                  go_simp
                  try rfl
                change wpAnyH _ _ _ _ _ _ _ (Act.put _ (some 16) _) _
                simp only [Act.put, List.setIfInBounds_toArray, List.set_cons_succ, List.set_cons_zero]
                refine wpAnyH_take (i := 14) (v := ?_) rfl (by kernel_rfl) (by kernel_rfl) (by kernel_rfl) (fun _ _ _ h => h) (Or.inl ⟨by rfl, ?_⟩) O ?_
                rotate_left
                · intro wq hSq
                  (try dsimp only at hSq)

                  go_simp
                  try rfl
                change wpAnyH _ _ _ _ _ _ _ (Act.put _ (some 17) _) _
                simp only [Act.put, List.setIfInBounds_toArray, List.set_cons_succ, List.set_cons_zero]
                refine wpAnyH_take (i := 15) (v := ?_) rfl (by kernel_rfl) (by kernel_rfl) (by kernel_rfl) (fun _ _ _ h => h) (Or.inl ⟨by rfl, ?_⟩) O ?_
                rotate_left
                · intro wq hSq
                  (try dsimp only at hSq)
                  have q4 := over_cell hSq bA.lt (bA.c 4 rfl)
                  go_simp
                  try rfl
                change wpAnyH _ _ _ _ _ _ _ (Act.put _ (some 18) _) _
                simp only [Act.put, List.setIfInBounds_toArray, List.set_cons_succ, List.set_cons_zero]
                refine wpAnyH_ready (rs := [16]) (by kernel_rfl) (by simp) ?_
                refine (AllReadyH.cons rfl (fun K hK => ?_) AllReadyH.nil)
                go_simp
                refine (irib_t _ (hR.keep O) HR).mono ?_
                rintro e wn ⟨rfl, hb⟩
                replace O := over_step O hb
                clear hb
                refine hK.out _ _ O (fun _ => ?_)
                clear hK K
                try simp only [Act.put, List.setIfInBounds_toArray, List.set_cons_zero, List.set_cons_succ]
                refine wpAnyH_take (i := 17) (v := ?_) rfl (by kernel_rfl) (by kernel_rfl) (by kernel_rfl) (fun _ _ _ h => h) (Or.inl ⟨by rfl, ?_⟩) O ?_
                rotate_left
                · intro wq hSq
                  (try dsimp only at hSq)

                  go_simp
                  try rfl
                change wpAnyH _ _ _ _ _ _ _ (Act.put _ (some 20) _) _
                simp only [Act.put, List.setIfInBounds_toArray, List.set_cons_succ, List.set_cons_zero]
                refine wpAnyH_take (i := 18) (v := ?_) rfl (by kernel_rfl) (by kernel_rfl) (by kernel_rfl) (fun _ _ _ h => h) (Or.inl ⟨by rfl, ?_⟩) O ?_
                rotate_left
                · intro wq hSq
                  (try dsimp only at hSq)

                  go_simp
                  try rfl
                change wpAnyH _ _ _ _ _ _ _ (Act.put _ (some 21) _) _
                simp only [Act.put, List.setIfInBounds_toArray, List.set_cons_succ, List.set_cons_zero]
                refine wpAnyH_take (i := 19) (v := ?_) rfl (by kernel_rfl) (by kernel_rfl) (by kernel_rfl) (fun _ _ _ h => h) (Or.inl ⟨by rfl, ?_⟩) O ?_
                rotate_left
                · intro wq hSq
                  (try dsimp only at hSq)

                  go_simp
                  try rfl
                change wpAnyH _ _ _ _ _ _ _ (Act.put _ (some 22) _) _
                simp only [Act.put, List.setIfInBounds_toArray, List.set_cons_succ, List.set_cons_zero]
                refine wpAnyH_take (i := 20) (v := ?_) rfl (by kernel_rfl) (by kernel_rfl) (by kernel_rfl) (fun _ _ _ h => h) (Or.inl ⟨by rfl, ?_⟩) O ?_
                rotate_left
                · intro wq hSq
                  (try dsimp only at hSq)
                  have q5 := over_cell hSq bA.lt (bA.c 5 rfl)
                  go_simp
                  try rfl
                change wpAnyH _ _ _ _ _ _ _ (Act.put _ (some 23) _) _
                simp only [Act.put, List.setIfInBounds_toArray, List.set_cons_succ, List.set_cons_zero]
                refine wpAnyH_ready (rs := [21]) (by kernel_rfl) (by simp) ?_
                refine (AllReadyH.cons rfl (fun K hK => ?_) AllReadyH.nil)
                go_simp
                refine (irib_t _ (hS.keep O) HS).mono ?_
                rintro e wn ⟨rfl, hb⟩
                replace O := over_step O hb
                clear hb
                refine hK.out _ _ O (fun _ => ?_)
                clear hK K
                try simp only [Act.put, List.setIfInBounds_toArray, List.set_cons_zero, List.set_cons_succ]
                refine wpAnyH_take (i := 22) (v := ?_) rfl (by kernel_rfl) (by kernel_rfl) (by kernel_rfl) (fun _ _ _ h => h) (Or.inl ⟨by rfl, ?_⟩) O ?_
                rotate_left
                · intro wq hSq
                  (try dsimp only at hSq)

                  go_simp
                  try rfl
                change wpAnyH _ _ _ _ _ _ _ (Act.put _ (some 25) _) _
                simp only [Act.put, List.setIfInBounds_toArray, List.set_cons_succ, List.set_cons_zero]
                refine wpAnyH_take (i := 23) (v := ?_) rfl (by kernel_rfl) (by kernel_rfl) (by kernel_rfl) (fun _ _ _ h => h) (Or.inl ⟨by rfl, ?_⟩) O ?_
                rotate_left
                · intro wq hSq
                  (try dsimp only at hSq)

                  go_simp
                  try rfl
                change wpAnyH _ _ _ _ _ _ _ (Act.put _ (some 26) _) _
                simp only [Act.put, List.setIfInBounds_toArray, List.set_cons_succ, List.set_cons_zero]
                refine wpAnyH_take (i := 24) (v := ?_) rfl (by kernel_rfl) (by kernel_rfl) (by kernel_rfl) (fun _ _ _ h => h) (Or.inl ⟨by rfl, ?_⟩) O ?_
                rotate_left
                · intro wq hSq
                  (try dsimp only at hSq)

                  go_simp
                  try rfl
                change wpAnyH _ _ _ _ _ _ _ (Act.put _ (some 27) _) _
                simp only [Act.put, List.setIfInBounds_toArray, List.set_cons_succ, List.set_cons_zero]
                refine wpAnyH_take (i := 25) (v := ?_) rfl (by kernel_rfl) (by kernel_rfl) (by kernel_rfl) (fun _ _ _ h => h) (Or.inl ⟨by rfl, ?_⟩) O ?_
                rotate_left
                · intro wq hSq
                  (try dsimp only at hSq)
                  have q4 := over_cell hSq bA.lt (bA.c 4 rfl)
                  go_simp
                  try rfl
                change wpAnyH _ _ _ _ _ _ _ (Act.put _ (some 28) _) _
                simp only [Act.put, List.setIfInBounds_toArray, List.set_cons_succ, List.set_cons_zero]
                refine wpAnyH_take (i := 27) (v := ?_) rfl (by kernel_rfl) (by kernel_rfl) (by kernel_rfl) (fun _ _ _ h => h) (Or.inl ⟨by rfl, ?_⟩) O ?_
                rotate_left
                · intro wq hSq
                  (try dsimp only at hSq)

                  go_simp
                  try rfl
                change wpAnyH _ _ _ _ _ _ _ (Act.put _ (some 30) _) _
                simp only [Act.put, List.setIfInBounds_toArray, List.set_cons_succ, List.set_cons_zero]
                refine wpAnyH_take (i := 28) (v := ?_) rfl (by kernel_rfl) (by kernel_rfl) (by kernel_rfl) (fun _ _ _ h => h) (Or.inl ⟨by rfl, ?_⟩) O ?_
                rotate_left
                · intro wq hSq
                  (try dsimp only at hSq)
                  have q1 := over_cell hSq bA.lt (bA.c 1 rfl)
                  go_simp
                  try rfl
                change wpAnyH _ _ _ _ _ _ _ (Act.put _ (some 31) _) _
                simp only [Act.put, List.setIfInBounds_toArray, List.set_cons_succ, List.set_cons_zero]
                refine wpAnyH_ready (rs := [26]) (by kernel_rfl) (by simp) ?_
                refine (AllReadyH.cons rfl (fun K hK => ?_) AllReadyH.nil)
                go_simp
                refine (ifr_any rv N.rib (-1) _ (hR.keep O) HLR.out).mono ?_
                rintro e wn ⟨u, rfl, hu, hb⟩
                replace O := over_step O hb
                clear hb
                refine hK.out _ _ O (fun _ => ?_)
                clear hK K
                try simp only [Act.put, List.setIfInBounds_toArray, List.set_cons_zero, List.set_cons_succ]
                replace hu := hu.rd
                obtain ⟨ua, uc, rfl⟩ := hu.len
                refine wpAnyH_ready (rs := [29]) (by kernel_rfl) (by simp) ?_
                refine (AllReadyH.cons rfl (fun K hK => ?_) AllReadyH.nil)
                go_simp
                refine (slL_t _ (hu.keep (Below.refl _ _)) (hO.keep O) HE).mono ?_
                rintro e wn ⟨rfl, hb⟩
                replace O := over_step O hb
                clear hb
                refine hK.out _ _ O (fun _ => ?_)
                clear hK K
                try simp only [Act.put, List.setIfInBounds_toArray, List.set_cons_zero, List.set_cons_succ]
                refine wpAnyH_take (i := 30) (v := ?_) rfl (by kernel_rfl) (by kernel_rfl) (by kernel_rfl) (fun _ _ _ h => h) (Or.inl ⟨by rfl, ?_⟩) O ?_
                rotate_left
                · intro wq hSq
                  (try dsimp only at hSq)

                  go_simp
                  try rfl
                change wpAnyH _ _ _ _ _ _ _ (Act.put _ (some 33) _) _
                simp only [Act.put, List.setIfInBounds_toArray, List.set_cons_succ, List.set_cons_zero]
                refine wpAnyH_take (i := 31) (v := ?_) rfl (by kernel_rfl) (by kernel_rfl) (by kernel_rfl) (fun _ _ _ h => h) (Or.inl ⟨by rfl, ?_⟩) O ?_
                rotate_left
                · intro wq hSq
                  (try dsimp only at hSq)

                  go_simp
                  try rfl
                change wpAnyH _ _ _ _ _ _ _ (Act.put _ (some 34) _) _
                simp only [Act.put, List.setIfInBounds_toArray, List.set_cons_succ, List.set_cons_zero]
                refine wpAnyH_take (i := 32) (v := ?_) rfl (by kernel_rfl) (by kernel_rfl) (by kernel_rfl) (fun _ _ _ h => h) (Or.inl ⟨by rfl, ?_⟩) O ?_
                rotate_left
                · intro wq hSq
                  (try dsimp only at hSq)

                  go_simp
                  try rfl
                change wpAnyH _ _ _ _ _ _ _ (Act.put _ (some 35) _) _
                simp only [Act.put, List.setIfInBounds_toArray, List.set_cons_succ, List.set_cons_zero]
                refine wpAnyH_take (i := 33) (v := ?_) rfl (by kernel_rfl) (by kernel_rfl) (by kernel_rfl) (fun _ _ _ h => h) (Or.inl ⟨by rfl, ?_⟩) O ?_
                rotate_left
                · intro wq hSq
                  (try dsimp only at hSq)

                  go_simp
                  try rfl
                change wpAnyH _ _ _ _ _ _ _ (Act.put _ (some 36) _) _
                simp only [Act.put, List.setIfInBounds_toArray, List.set_cons_succ, List.set_cons_zero]
                refine wpAnyH_take (i := 34) (v := ?_) rfl (by kernel_rfl) (by kernel_rfl) (by kernel_rfl) (fun _ _ _ h => h) (Or.inl ⟨by rfl, ?_⟩) O ?_
                rotate_left
                · intro wq hSq
                  (try dsimp only at hSq)
                  have q4 := over_cell hSq bA.lt (bA.c 4 rfl)
                  go_simp
                  try rfl
                change wpAnyH _ _ _ _ _ _ _ (Act.put _ (some 37) _) _
                simp only [Act.put, List.setIfInBounds_toArray, List.set_cons_succ, List.set_cons_zero]
                refine wpAnyH_take (i := 35) (v := ?_) rfl (by kernel_rfl) (by kernel_rfl) (by kernel_rfl) (fun _ _ _ h => h) (Or.inl ⟨by rfl, ?_⟩) O ?_
                rotate_left
                · intro wq hSq
                  (try dsimp only at hSq)
                  have q0 := over_cell hSq bA.lt (bA.c 0 rfl)
                  have q1 := over_cell hSq bA.lt (bA.c 1 rfl)
                  have q2 := over_cell hSq bA.lt (bA.c 2 rfl)
                  have q3 := over_cell hSq bA.lt (bA.c 3 rfl)
                  have q4 := over_cell hSq bA.lt (bA.c 4 rfl)
                  have q5 := over_cell hSq bA.lt (bA.c 5 rfl)
                  go_simp
                  try rfl
                change wpAnyH _ _ _ _ _ _ _ (Act.put _ (some 38) _) _
                simp only [Act.put, List.setIfInBounds_toArray, List.set_cons_succ, List.set_cons_zero]
                refine wpAnyH_take (i := 36) (v := ?_) rfl (by kernel_rfl) (by kernel_rfl) (by kernel_rfl) (fun _ _ _ h => h) (Or.inl ⟨by rfl, ?_⟩) O ?_
                rotate_left
                · intro wq hSq
                  (try dsimp only at hSq)

                  go_simp
                  try rfl
                change wpAnyH _ _ _ _ _ _ _ (Act.put _ (some 39) _) _
                simp only [Act.put, List.setIfInBounds_toArray, List.set_cons_succ, List.set_cons_zero]
                refine wpAnyH_ready (rs := [37]) (by kernel_rfl) (by simp) ?_
                refine (AllReadyH.cons rfl (fun K hK => ?_) AllReadyH.nil)
                go_simp
                refine (ievK_t ov rv sv N _ (hR.keep O) HVR.out HK).mono ?_
                rintro e wn ⟨rfl, hb⟩
                replace O := over_step O hb
                clear hb
                refine hK.out _ _ O (fun _ => ?_)
                clear hK K
                try simp only [Act.put, List.setIfInBounds_toArray, List.set_cons_zero, List.set_cons_succ]
                refine wpAnyH_take (i := 38) (v := ?_) rfl (by kernel_rfl) (by kernel_rfl) (by kernel_rfl) (fun _ _ _ h => h) (Or.inl ⟨by rfl, ?_⟩) O ?_
                rotate_left
                · intro wq hSq
                  (try dsimp only at hSq)

                  go_simp
                  try rfl
                change wpAnyH _ _ _ _ _ _ _ (Act.put _ (some 41) _) _
                simp only [Act.put, List.setIfInBounds_toArray, List.set_cons_succ, List.set_cons_zero]
                refine wpAnyH_take (i := 39) (v := ?_) rfl (by kernel_rfl) (by kernel_rfl) (by kernel_rfl) (fun _ _ _ h => h) (Or.inl ⟨by rfl, ?_⟩) O ?_
                rotate_left
                · intro wq hSq
                  (try dsimp only at hSq)

                  go_simp
                  try rfl
                change wpAnyH _ _ _ _ _ _ _ (Act.put _ (some 42) _) _
                simp only [Act.put, List.setIfInBounds_toArray, List.set_cons_succ, List.set_cons_zero]
                refine wpAnyH_take (i := 40) (v := ?_) rfl (by kernel_rfl) (by kernel_rfl) (by kernel_rfl) (fun _ _ _ h => h) (Or.inl ⟨by rfl, ?_⟩) O ?_
                rotate_left
                · intro wq hSq
                  (try dsimp only at hSq)

                  go_simp
                  try rfl
                change wpAnyH _ _ _ _ _ _ _ (Act.put _ (some 43) _) _
                simp only [Act.put, List.setIfInBounds_toArray, List.set_cons_succ, List.set_cons_zero]
                refine wpAnyH_take (i := 41) (v := ?_) rfl (by kernel_rfl) (by kernel_rfl) (by kernel_rfl) (fun _ _ _ h => h) (Or.inl ⟨by rfl, ?_⟩) O ?_
                rotate_left
                · intro wq hSq
                  (try dsimp only at hSq)

                  go_simp
                  try rfl
                change wpAnyH _ _ _ _ _ _ _ (Act.put _ (some 44) _) _
                simp only [Act.put, List.setIfInBounds_toArray, List.set_cons_succ, List.set_cons_zero]
                refine wpAnyH_take (i := 42) (v := ?_) rfl (by kernel_rfl) (by kernel_rfl) (by kernel_rfl) (fun _ _ _ h => h) (Or.inl ⟨by rfl, ?_⟩) O ?_
                rotate_left
                · intro wq hSq
                  (try dsimp only at hSq)
                  have q5 := over_cell hSq bA.lt (bA.c 5 rfl)
                  go_simp
                  try rfl
                change wpAnyH _ _ _ _ _ _ _ (Act.put _ (some 45) _) _
                simp only [Act.put, List.setIfInBounds_toArray, List.set_cons_succ, List.set_cons_zero]
                refine wpAnyH_ready (rs := [43]) (by kernel_rfl) (by simp) ?_
                refine (AllReadyH.cons rfl (fun K hK => ?_) AllReadyH.nil)
                go_simp
                refine (ievS_t _ (hS.keep O) HSS).mono ?_
                rintro e wn ⟨rfl, hb⟩
                replace O := over_step O hb
                clear hb
                refine hK.out _ _ O (fun _ => ?_)
                clear hK K
                try simp only [Act.put, List.setIfInBounds_toArray, List.set_cons_zero, List.set_cons_succ]
                refine wpAnyH_take (i := 44) (v := ?_) rfl (by kernel_rfl) (by kernel_rfl) (by kernel_rfl) (fun _ _ _ h => h) (Or.inl ⟨by rfl, ?_⟩) O ?_
                rotate_left
                · intro wq hSq
                  (try dsimp only at hSq)

                  go_simp
                  try rfl
                change wpAnyH _ _ _ _ _ _ _ (Act.put _ (some 47) _) _
                simp only [Act.put, List.setIfInBounds_toArray, List.set_cons_succ, List.set_cons_zero]
                refine wpAnyH_ready (rs := [45]) (by kernel_rfl) (by simp) ?_
                refine (AllReadyH.cons rfl (fun K hK => ?_) AllReadyH.nil)
                go_simp
                refine hK.out _ _ O (fun _ => ?_)
                clear hK K
                try simp only [Act.put, List.setIfInBounds_toArray, List.set_cons_zero, List.set_cons_succ]
                refine wpAnyH_done (by kernel_rfl) ?_ _
                go_wp2
                go_ret
                exact ⟨rfl, over_step B0 O⟩
end Go.Proofs.YtaiffofmhfflkaaGreat
namespace Go.Proofs.YtaiffofmhfflkaaGreat
open Go.ChangeShapes Go.WideShapes Go.ChangeAt Go.RowKit Go.BigFrame Go.Joins
set_option linter.unusedVariables false
set_option maxRecDepth 100000

def nm (a b : Int) : Int := Lib.compareInt a b
theorem snum_any (a b : Int) (w : World) : Calls Tryz.prog 163 #[.int .i64 a, .int .i64 b] w fun e w' => e = .returned (.int .i64 (nm a b)) ∧ w = w' := by
  by_cases h0 : a < b
  · have e : nm a b = -1 := by simp [nm, Lib.compareInt, h0]
    rw [e]
    clear e
    go_enter Tryz.func163, Tryz.ntmps163
    go_wp2
    go_ret
    exact ⟨rfl, rfl⟩
  · by_cases h1 : b < a
    · have e : nm a b = 1 := by simp only [nm, Lib.compareInt]; split <;> first | omega | (split <;> omega)
      rw [e]
      clear e
      go_enter Tryz.func163, Tryz.ntmps163
      go_wp2
      go_ret
      exact ⟨rfl, rfl⟩
    · have e : nm a b = 0 := by simp only [nm, Lib.compareInt]; split <;> first | omega | (split <;> omega)
      rw [e]
      clear e
      go_enter Tryz.func163, Tryz.ntmps163
      go_wp2
      go_ret
      exact ⟨rfl, rfl⟩
theorem inum_any (a b : Int) (w : World) : Calls Tryz.prog 200 #[.int .i64 a, .int .i64 b] w fun e w' => e = .returned (.int .i64 (nm a b)) ∧ w = w' :=
  (Tryz.cmp_Compare_int a b w).mono fun _ _ ⟨he, hw⟩ => ⟨he, hw.symm⟩
theorem nm_zero (a b : Int) : nm a b = 0 ↔ a = b := by
  unfold nm Lib.compareInt
  split
  · constructor <;> intro h <;> omega
  · split
    · constructor <;> intro h <;> omega
    · constructor <;> intro h <;> omega
/-- the rank: greater preference first, then the shorter path -/
def rk (pr : Int) (pl : Nat) (pr' : Int) (pl' : Nat) : Int := if pr = pr' then nm pl pl' else nm pr' pr
theorem srank_any (pa ca qa da : Option Addr) (pd cd qd dd : Nat) (p c q d : List Int) (pr bw pr' bw' : Int) (w : World) (hpl : p.length ≤ 8) (hql : q.length ≤ 8) :
    Calls Tryz.prog 161 #[.agg #[.slice pa p.length pd, .int .i64 pr, .slice ca c.length cd, .int .i64 bw], .agg #[.slice qa q.length qd, .int .i64 pr', .slice da d.length dd, .int .i64 bw']] w fun e w' => e = .returned (.int .i64 (rk pr p.length pr' q.length)) ∧ Below w.heap.size w w' := by
  have bA := Bx.new w (.slice pa p.length pd) (.int .i64 pr) (.slice ca c.length cd) (.int .i64 bw) 133 w.heap.size rfl
  have z0 : (w.alloc (.cells #[.slice pa p.length pd, .int .i64 pr, .slice ca c.length cd, .int .i64 bw] 133)).heap.size = w.heap.size + 1 := by simp
  have bB := Bx.new (w.alloc (.cells #[.slice pa p.length pd, .int .i64 pr, .slice ca c.length cd, .int .i64 bw] 133)) (.slice qa q.length qd) (.int .i64 pr') (.slice da d.length dd) (.int .i64 bw') 133 (w.heap.size + 1) z0.symm
  replace bA := bA.alloc (.cells #[.slice qa q.length qd, .int .i64 pr', .slice da d.length dd, .int .i64 bw'] 133)
  have B1 : Below w.heap.size w ((w.alloc (.cells #[.slice pa p.length pd, .int .i64 pr, .slice ca c.length cd, .int .i64 bw] 133)).alloc (.cells #[.slice qa q.length qd, .int .i64 pr', .slice da d.length dd, .int .i64 bw'] 133)) := ((Below.refl _ _).alloc (Nat.le_refl _) _).alloc (by rw [z0]; omega) _
  clear z0
  by_cases h : pr = pr'
  · skip
    rw [show rk pr p.length pr' q.length = nm p.length q.length by simp [rk, h]]
    have hne : (pr != pr') = false := by simp [h]
    clear h
    go_enter Tryz.func161, Tryz.ntmps161
    have kA0 := bA.c0
    have kA1 := bA.c1
    have kA2 := bA.c2
    have kA3 := bA.c3
    have kB0 := bB.c0
    have kB1 := bB.c1
    have kB2 := bB.c2
    have kB3 := bB.c3
    go_wp2_with fail
    clear kA0 kA1 kA2 kA3 kB0 kB1 kB2 kB3
    refine (snum_any _ _ _).mono ?_
    rintro e w1 ⟨rfl, rfl⟩
    go_wp2
    go_ret
    exact ⟨rfl, B1⟩
  · skip
    rw [show rk pr p.length pr' q.length = nm pr' pr by simp [rk, h]]
    have hne : (pr != pr') = true := by simp [h]
    clear h
    go_enter Tryz.func161, Tryz.ntmps161
    have kA0 := bA.c0
    have kA1 := bA.c1
    have kA2 := bA.c2
    have kA3 := bA.c3
    have kB0 := bB.c0
    have kB1 := bB.c1
    have kB2 := bB.c2
    have kB3 := bB.c3
    go_wp2_with fail
    clear kA0 kA1 kA2 kA3 kB0 kB1 kB2 kB3
    refine (snum_any _ _ _).mono ?_
    rintro e w1 ⟨rfl, rfl⟩
    go_wp2
    go_ret
    exact ⟨rfl, B1⟩
end Go.Proofs.YtaiffofmhfflkaaGreat
