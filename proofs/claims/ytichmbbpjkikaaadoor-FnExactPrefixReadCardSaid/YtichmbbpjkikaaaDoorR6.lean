/-
  PrefixRead of the model, and that it answers as the program does. Conditions: those in each statement.
-/
import Derived.Test.YtichmbbpjkikaaaDoorR5
import Derived.Laws.StructEq
namespace Go.Proofs.YtichmbbpjkikaaaDoor
open Go.ChangeShapes Go.WideShapes Go.ChangeAt Go.RowKit Go.BigFrame
set_option linter.unusedVariables false
set_option maxRecDepth 100000
set_option linter.unusedSimpArgs false

theorem numV_cases (l : List Int) (i : Nat) (hi : i ≤ l.length + 1) : numV l i = (0, -1) ∨ ∃ (x : Int) (q : Nat), numV l i = (x, (q : Int)) ∧ q ≤ l.length + 1 ∧ (i ≤ l.length → q ≤ l.length) := by
  unfold numV
  split
  · exact .inl rfl
  · exact .inr ⟨_, _, rfl, (numL_end l 3 i 0 hi).1, (numL_end l 3 i 0 hi).2⟩
/-- r is what the bytes l are the text of -/
def TextOf (l : List Int) (r : Value) : Prop :=
  (∃ a n, pokB a n = true ∧ textL a n = l ∧ r = .tuple #[.agg #[.int .i64 a, .int .i64 n], .bool true]) ∨
  ((∀ a n, pokB a n = true → textL a n ≠ l) ∧ r = .tuple #[.agg #[.int .i64 0, .int .i64 0], .bool false])
theorem text_inj {a n b m : Int} (h1 : pokB a n = true) (h2 : pokB b m = true) (h : textL a n = textL b m) : a = b ∧ n = m := by
  obtain ⟨f, e1, e2, e3⟩ := scan_text a n h1
  obtain ⟨g, d1, d2, d3⟩ := scan_text b m h2
  rw [← h, e1] at d1
  injection d1 with d1
  subst d1
  exact ⟨e2.symm.trans d2, e3.symm.trans d3⟩
theorem TextOf.one {l : List Int} {r s : Value} (h : TextOf l r) (k : TextOf l s) : r = s := by
  rcases h with ⟨a, n, h1, rfl, rfl⟩ | ⟨h1, rfl⟩
  · rcases k with ⟨b, m, k1, k2, rfl⟩ | ⟨k1, rfl⟩
    · obtain ⟨rfl, rfl⟩ := text_inj k1 h1 k2
      rfl
    · exact absurd rfl (k1 a n h1)
  · rcases k with ⟨b, m, k1, k2, rfl⟩ | ⟨k1, rfl⟩
    · exact absurd k2 (h1 b m k1)
    · rfl
theorem ReadsAs.text {l : List Int} {r : Value} (h : ReadsAs l r) : TextOf l r := by
  rcases h with ⟨f, h1, h2, h3, rfl⟩ | ⟨h1, rfl⟩
  · exact .inl ⟨_, _, h2, h3, rfl⟩
  · refine .inr ⟨fun a n ha e => ?_, rfl⟩
    obtain ⟨f, e1, e2, e3⟩ := scan_text a n ha
    rw [e] at e1
    exact h1 f e1 (by rw [e2, e3]; exact ha) (by rw [e2, e3]; exact e)
theorem text_is {l : List Int} {a n x y z r : Int} {p q : Nat} (H1 : numV l 0 = (x, (p : Int))) (H2 : numV l (p + 1) = (y, (q : Int))) (H3 : numV l (q + 1) = (z, r)) (ha : pokB a n = true) (e : textL a n = l) :
    r = (l.length : Int) ∧ x ≤ 255 ∧ y ≤ 255 ∧ bits .or .i64 (wrap64 (x * 256)) y = a ∧ z = n := by
  obtain ⟨p', q', r', t1, t2, t3, t4, t5, t6, t7, t8⟩ := text_num a n ha
  obtain ⟨b0, b1, b2, b3, -⟩ := pok_of ha
  rw [e] at t1 t2 t3 t4 t5 t6 t7 t8
  rw [H1] at t1
  injection t1 with x1 p1
  obtain rfl : p = p' := (by omega)
  rw [H2] at t4
  injection t4 with y1 q1
  obtain rfl : q = q' := (by omega)
  rw [H3] at t7
  injection t7 with z1 r1
  refine ⟨by omega, by omega, by omega, ?_, z1⟩
  rw [w64 _ (by omega) (by omega), or_hl _ _ (by omega) (by omega) (by omega) (by omega)]
  omega
theorem str_ne {xs ys : List Int} (hx : ∀ x ∈ xs, 0 ≤ x ∧ x ≤ 255) (hy : ∀ x ∈ ys, 0 ≤ x ∧ x ≤ 255) (h : xs ≠ ys) : ¬ (strOfNums xs).toList = (strOfNums ys).toList := by
  intro e
  have e2 : (strOfNums xs == strOfNums ys) = true := by rw [beq_toListBytes, e]; simp
  have e3 : (strOfNums xs).data = (strOfNums ys).data := eq_of_beq (show ((strOfNums xs).data == (strOfNums ys).data) = true from e2)
  have e4 : (xs.map fun n => UInt8.ofNat n.toNat) = ys.map fun n => UInt8.ofNat n.toNat := by
    have := congrArg Array.toList e3
    exact this
  have := bytes_eq hx hy
  unfold Lib.bytesOf at this
  rw [e4, beq_self_eq_true] at this
  exact h (of_decide_eq_true this.symm)
theorem text_bad {l : List Int} (h : ∀ a n, pokB a n = true → textL a n ≠ l) : TextOf l (.tuple #[.agg #[.int .i64 0, .int .i64 0], .bool false]) := .inr ⟨h, rfl⟩
set_option maxHeartbeats 4000000 in
theorem sread_any (v : Value) (l : List Int) (w : World) (h : Rd w v l) (hl : l.length ≤ 1048576) :
    Calls Tryd.prog 41 #[v] w fun e w' => ∃ r, e = .returned r ∧ TextOf l r ∧ Below w.heap.size w w' := by
  obtain ⟨ad, c, rfl⟩ := h.len
  have hb0 : Below w.heap.size w (w.alloc (.cells #[.int .i64 0, .int .i64 0] 24)) := (Below.refl _ _).alloc (Nat.le_refl _) _
  obtain ⟨R, hR⟩ : ∃ R, R = w.heap.size := ⟨_, rfl⟩
  have bR := Box.new w (.int .i64 0) (.int .i64 0) 24 R hR
  have hRw : w.heap.size ≤ R := by omega
  have hrd := h.keep hb0
  go_enter Tryd.func41, Tryd.ntmps41
  go_wp2_with fail
  rw [← hR]
  generalize w.alloc (.cells #[.int .i64 0, .int .i64 0] 24) = w1 at hb0 bR hrd ⊢
  clear hR
  obtain ⟨hRz, cr0, cr1, cf0, cf1⟩ := bR
  refine (num_any _ l 0 _ hrd hl (by omega)).mono ?_
  rintro e w2 ⟨rfl, rfl⟩
  have hbw := hb0
  rcases numV_cases l 0 (by omega) with hv | ⟨x, p, hv, hp1, hp2⟩
  · rw [hv]
    have HV := Lib.hid hv
    clear hv
    go_wp2_with fail
    have e0 := set_other (u := .int .i64 0) (a := ⟨R, 1, none⟩) (by simp) (set_same (u := .int .i64 0) cr0)
    have e1 := set_same (u := .int .i64 0) (set_other (u := .int .i64 0) (a := ⟨R, 0, none⟩) (by simp) cr1)
    exact bodyPost_ret (v := .tuple #[.agg #[.int .i64 0, .int .i64 0], .bool false]) (by simp [results, Tryd.results41, go_sem, e0, e1]) rfl ⟨_, rfl, text_bad (fun a n ha e => by obtain ⟨p, q, r, t1, t2, t3, t4, t5, t6, t7, t8⟩ := text_num a n ha; rw [e, HV.out] at t1; injection t1 with _ t1; omega), below_set (below_set hbw hRw) hRw⟩
  · rw [hv]
    have HV := Lib.hid hv
    clear hv
    by_cases hq : p < l.length
    · have hqI : (p : Int) < (l.length : Int) := by omega
      obtain ⟨b, o, rfl, hc⟩ := hrd.bytesIn (Nat.lt_of_le_of_lt (Nat.zero_le _) hq)
      have e1 := hc p hq
      have HC := Lib.hid hc
      clear hc
      have hp0 : ¬ (p : Int) < 0 := by omega
      have hqn : ¬ l.length ≤ p := by omega
      obtain ⟨d, hd⟩ : ∃ d, l.getD p 0 = d := ⟨_, rfl⟩
      rw [hd] at e1
      have HD := Lib.hid hd
      clear hd
      by_cases h46 : d = 46
      · subst h46
        go_wp2_with fail
        rw [show ((p : Int) + 1) = ((p + 1 : Nat) : Int) by simp]
        refine (num_any _ l (p + 1) _ hrd hl (by omega)).mono ?_
        rintro e w2 ⟨rfl, rfl⟩
        rcases numV_cases l (p + 1) (by omega) with hv | ⟨y, q, hv, hq1, hq2⟩
        · rw [hv]
          have HV2 := Lib.hid hv
          clear hv e1
          go_wp2_with fail
          have e0 := set_other (u := .int .i64 0) (a := ⟨R, 1, none⟩) (by simp) (set_same (u := .int .i64 0) cr0)
          have e1 := set_same (u := .int .i64 0) (set_other (u := .int .i64 0) (a := ⟨R, 0, none⟩) (by simp) cr1)
          exact bodyPost_ret (v := .tuple #[.agg #[.int .i64 0, .int .i64 0], .bool false]) (by simp [results, Tryd.results41, go_sem, e0, e1]) rfl ⟨_, rfl, text_bad (fun a n ha e => by obtain ⟨p', q', r', t1, t2, t3, t4, t5, t6, t7, t8⟩ := text_num a n ha; rw [e] at t1 t2 t3 t4 t5 t6 t7 t8; rw [HV.out] at t1; injection t1 with _ t1; obtain rfl : p = p' := (by omega); rw [HV2.out] at t4; injection t4 with _ t4; omega), below_set (below_set hbw hRw) hRw⟩
        · rw [hv]
          have HV2 := Lib.hid hv
          clear hv e1
          by_cases hq0 : q < l.length
          · have hqJ : (q : Int) < (l.length : Int) := by omega
            have e1 := HC.out q hq0
            have hq3 : ¬ (q : Int) < 0 := by omega
            have hqm : ¬ l.length ≤ q := by omega
            obtain ⟨d, hd⟩ : ∃ d, l.getD q 0 = d := ⟨_, rfl⟩
            rw [hd] at e1
            have HD2 := Lib.hid hd
            clear hd
            by_cases h47 : d = 47
            · subst h47
              go_wp2_with fail
              rw [show ((q : Int) + 1) = ((q + 1 : Nat) : Int) by simp]
              refine (num_any _ l (q + 1) _ hrd hl (by omega)).mono ?_
              rintro e w2 ⟨rfl, rfl⟩
              obtain ⟨z, hz⟩ : ∃ z, (numV l (q + 1)).1 = z := ⟨_, rfl⟩
              obtain ⟨r, hr⟩ : ∃ r, (numV l (q + 1)).2 = r := ⟨_, rfl⟩
              have HV3 : Hid (numV l (q + 1) = (z, r)) := Lib.hid (by rw [← hz, ← hr])
              rw [hz, hr]
              clear hz hr e1
              go_wp2_with fail
              obtain ⟨A, hA⟩ : ∃ A, bits .or .i64 (wrap64 (x * 256)) y = A := ⟨_, rfl⟩
              rw [hA]
              have HA := Lib.hid hA
              clear hA
              obtain ⟨P, hP⟩ : ∃ P, P = w1.heap.size := ⟨_, rfl⟩
              have bP := Box.new w1 (.int .i64 A) (.int .i64 z) 24 P hP
              replace hbw := below_step hbw (Below.alloc (Below.refl w1.heap.size w1) (Nat.le_refl _) (.cells #[.int .i64 A, .int .i64 z] 24))
              replace hrd := hrd.alloc (.cells #[.int .i64 A, .int .i64 z] 24)
              replace cr0 : (w1.alloc (.cells #[.int .i64 A, .int .i64 z] 24)).cell? ⟨R, 0, none⟩ = some (.int .i64 0) := (World.cell?_alloc_past _ _ _ hRz).trans cr0
              replace cr1 : (w1.alloc (.cells #[.int .i64 A, .int .i64 z] 24)).cell? ⟨R, 1, none⟩ = some (.int .i64 0) := (World.cell?_alloc_past _ _ _ hRz).trans cr1
              replace cf0 : (w1.alloc (.cells #[.int .i64 A, .int .i64 z] 24)).frozen? ⟨R, 0, none⟩ = false := (World.frozen?_alloc_past _ _ _ hRz).trans cf0
              replace cf1 : (w1.alloc (.cells #[.int .i64 A, .int .i64 z] 24)).frozen? ⟨R, 1, none⟩ = false := (World.frozen?_alloc_past _ _ _ hRz).trans cf1
              have hRP : R ≠ P := by omega
              replace hRz : R < (w1.alloc (.cells #[.int .i64 A, .int .i64 z] 24)).heap.size := Nat.lt_of_lt_of_le hRz (by simp)
              rw [← hP]
              clear hP hb0 HC
              generalize w1.alloc (.cells #[.int .i64 A, .int .i64 z] 24) = w3 at bP hbw hrd cr0 cr1 cf0 cf1 hRz ⊢
              obtain ⟨lP, p0, p1, -, -⟩ := bP
              have HK : Hid (pokB A z = pokB A z) := Lib.hid rfl
              by_cases hrl : r = (l.length : Int)
              · subst hrl
                have hb9 : ((l.length : Int) == (l.length : Int)) = true := by simp
                have hc9 : ((l.length : Int) != (l.length : Int)) = false := by simp
                by_cases hx : 255 < x
                · have hx2 : ¬ x ≤ 255 := by omega
                  refine wp_region_class (C := Over (w3)) (by kernel_rfl) (by kernel_rfl) (over_drew _) ?_
                  repeat (first | go_big_quiet_skip | (go_big_quiet_want; go_big_quiet_op; go_big_quiet_on) | (go_big_quiet_want; go_big_quiet_op; apply Exists.intro; refine ⟨fun w' hC => ?_, ?_⟩; ((first | (go_at_call 10; refine (spok_t _ HK).mono ?_; rintro e w1 ⟨rfl, hb1⟩; exact ⟨rfl, over_step hC hb1⟩))); go_big_quiet_on) | (go_big_quiet_want; apply Exists.intro; refine ⟨fun w' hC => ?_, ?_⟩; (have k0 := over_cell hC lP p0; have k1 := over_cell hC lP p1; simp [Oper.quietAt, Oper.quietUpon, go_sem, k0, k1, hb9, hc9, hx]; first | done | rfl); go_big_quiet_on; simp only [Act.put, List.setIfInBounds_toArray, List.set_cons_zero, List.set_cons_succ]))
                  refine wpQuiet_nil ?_
                  intro wr hC
                  have k0 := over_cell hC lP p0
                  have k1 := over_cell hC lP p1
                  clear k0 k1
                  replace cr0 := over_cell hC hRz cr0
                  replace cr1 := over_cell hC hRz cr1
                  replace cf0 := ((grown_below (over_below hC) none).frozen_far ⟨R, 0, none⟩ hRz (by simp)).trans cf0
                  replace cf1 := ((grown_below (over_below hC) none).frozen_far ⟨R, 1, none⟩ hRz (by simp)).trans cf1
                  replace hbw := below_step hbw (over_below hC)
                  clear hC
                  go_wp2_with fail
                  have e0 := set_other (u := .int .i64 0) (a := ⟨R, 1, none⟩) (by simp) (set_same (u := .int .i64 0) cr0)
                  have e1 := set_same (u := .int .i64 0) (set_other (u := .int .i64 0) (a := ⟨R, 0, none⟩) (by simp) cr1)
                  exact bodyPost_ret (v := .tuple #[.agg #[.int .i64 0, .int .i64 0], .bool false]) (by simp [results, Tryd.results41, go_sem, e0, e1]) rfl ⟨_, rfl, text_bad (fun a n ha e => by obtain ⟨u1, u2, u3, u4, u5⟩ := text_is HV.out HV2.out HV3.out ha e; omega), below_set (below_set hbw hRw) hRw⟩
                · have hx2 : x ≤ 255 := by omega
                  by_cases hy : 255 < y
                  · have hy2 : ¬ y ≤ 255 := by omega
                    refine wp_region_class (C := Over (w3)) (by kernel_rfl) (by kernel_rfl) (over_drew _) ?_
                    repeat (first | go_big_quiet_skip | (go_big_quiet_want; go_big_quiet_op; go_big_quiet_on) | (go_big_quiet_want; go_big_quiet_op; apply Exists.intro; refine ⟨fun w' hC => ?_, ?_⟩; ((first | (go_at_call 10; refine (spok_t _ HK).mono ?_; rintro e w1 ⟨rfl, hb1⟩; exact ⟨rfl, over_step hC hb1⟩))); go_big_quiet_on) | (go_big_quiet_want; apply Exists.intro; refine ⟨fun w' hC => ?_, ?_⟩; (have k0 := over_cell hC lP p0; have k1 := over_cell hC lP p1; simp [Oper.quietAt, Oper.quietUpon, go_sem, k0, k1, hb9, hc9, hx, hy]; first | done | rfl); go_big_quiet_on; simp only [Act.put, List.setIfInBounds_toArray, List.set_cons_zero, List.set_cons_succ]))
                    refine wpQuiet_nil ?_
                    intro wr hC
                    have k0 := over_cell hC lP p0
                    have k1 := over_cell hC lP p1
                    clear k0 k1
                    replace cr0 := over_cell hC hRz cr0
                    replace cr1 := over_cell hC hRz cr1
                    replace cf0 := ((grown_below (over_below hC) none).frozen_far ⟨R, 0, none⟩ hRz (by simp)).trans cf0
                    replace cf1 := ((grown_below (over_below hC) none).frozen_far ⟨R, 1, none⟩ hRz (by simp)).trans cf1
                    replace hbw := below_step hbw (over_below hC)
                    clear hC
                    go_wp2_with fail
                    have e0 := set_other (u := .int .i64 0) (a := ⟨R, 1, none⟩) (by simp) (set_same (u := .int .i64 0) cr0)
                    have e1 := set_same (u := .int .i64 0) (set_other (u := .int .i64 0) (a := ⟨R, 0, none⟩) (by simp) cr1)
                    exact bodyPost_ret (v := .tuple #[.agg #[.int .i64 0, .int .i64 0], .bool false]) (by simp [results, Tryd.results41, go_sem, e0, e1]) rfl ⟨_, rfl, text_bad (fun a n ha e => by obtain ⟨u1, u2, u3, u4, u5⟩ := text_is HV.out HV2.out HV3.out ha e; omega), below_set (below_set hbw hRw) hRw⟩
                  · have hy2 : y ≤ 255 := by omega
                    cases hk : pokB A z
                    · replace HK := Lib.hid hk
                      clear hk
                      refine wp_region_class (C := Over (w3)) (by kernel_rfl) (by kernel_rfl) (over_drew _) ?_
                      repeat (first | go_big_quiet_skip | (go_big_quiet_want; go_big_quiet_op; go_big_quiet_on) | (go_big_quiet_want; go_big_quiet_op; apply Exists.intro; refine ⟨fun w' hC => ?_, ?_⟩; ((first | (go_at_call 10; refine (spok_t _ HK).mono ?_; rintro e w1 ⟨rfl, hb1⟩; exact ⟨rfl, over_step hC hb1⟩))); go_big_quiet_on) | (go_big_quiet_want; apply Exists.intro; refine ⟨fun w' hC => ?_, ?_⟩; (have k0 := over_cell hC lP p0; have k1 := over_cell hC lP p1; simp [Oper.quietAt, Oper.quietUpon, go_sem, k0, k1, hb9, hc9, hx, hy]; first | done | rfl); go_big_quiet_on; simp only [Act.put, List.setIfInBounds_toArray, List.set_cons_zero, List.set_cons_succ]))
                      refine wpQuiet_nil ?_
                      intro wr hC
                      have k0 := over_cell hC lP p0
                      have k1 := over_cell hC lP p1
                      clear k0 k1
                      replace cr0 := over_cell hC hRz cr0
                      replace cr1 := over_cell hC hRz cr1
                      replace cf0 := ((grown_below (over_below hC) none).frozen_far ⟨R, 0, none⟩ hRz (by simp)).trans cf0
                      replace cf1 := ((grown_below (over_below hC) none).frozen_far ⟨R, 1, none⟩ hRz (by simp)).trans cf1
                      replace hbw := below_step hbw (over_below hC)
                      clear hC
                      go_wp2_with fail
                      have e0 := set_other (u := .int .i64 0) (a := ⟨R, 1, none⟩) (by simp) (set_same (u := .int .i64 0) cr0)
                      have e1 := set_same (u := .int .i64 0) (set_other (u := .int .i64 0) (a := ⟨R, 0, none⟩) (by simp) cr1)
                      exact bodyPost_ret (v := .tuple #[.agg #[.int .i64 0, .int .i64 0], .bool false]) (by simp [results, Tryd.results41, go_sem, e0, e1]) rfl ⟨_, rfl, text_bad (fun a n ha e => by obtain ⟨u1, u2, u3, u4, u5⟩ := text_is HV.out HV2.out HV3.out ha e; rw [HA.out] at u4; rw [u4, u5] at HK; have := HK.out; rw [ha] at this; cases this), below_set (below_set hbw hRw) hRw⟩
                    · replace HK := Lib.hid hk
                      obtain ⟨k0, k1, k2, k3, -⟩ := pok_of hk
                      clear hk
                      have hcvb : ∀ w', Over w3 w' → (convert 22 9 (.slice (some ⟨b, o, none⟩) l.length c)).run Tryd.prog w' = .ok (.string (strOfNums l)) w' := fun w' ho => conv_rd (rd_over hrd ho)
                      refine wp_region_held_drew (S := (fun w' => Over w3 w' ∧ w'.cell? ⟨P, 0, none⟩ = some (.int .i64 A) ∧ w'.cell? ⟨P, 1, none⟩ = some (.int .i64 z))) (by kernel_rfl) (held0 lP p0 p1) (fun hHeld => ?_)
                      refine wpAnyH_take (i := 0) (v := ?_) rfl (by kernel_rfl) (by kernel_rfl) (by kernel_rfl) (fun _ _ _ h => h) (Or.inl ⟨by rfl, ?_⟩) (by assumption) ?_
                      rotate_left
                      · intro w hSw
                        (try dsimp only at hSw)
                        go_simp
                        try rfl
                      change wpAnyH _ _ _ _ _ _ _ (Act.put _ (some 68) _) _
                      simp only [Act.put, List.setIfInBounds_toArray, List.set_cons_succ, List.set_cons_zero]
                      refine wpAnyH_take (i := 1) (v := ?_) rfl (by kernel_rfl) (by kernel_rfl) (by kernel_rfl) (fun _ _ _ h => h) (Or.inl ⟨by rfl, ?_⟩) (by assumption) ?_
                      rotate_left
                      · intro w hSw
                        (try dsimp only at hSw)
                        go_simp
                        try rfl
                      change wpAnyH _ _ _ _ _ _ _ (Act.put _ (some 69) _) _
                      simp only [Act.put, List.setIfInBounds_toArray, List.set_cons_succ, List.set_cons_zero]
                      refine wpAnyH_take (i := 2) (v := ?_) rfl (by kernel_rfl) (by kernel_rfl) (by kernel_rfl) (fun _ _ _ h => h) (Or.inl ⟨by rfl, ?_⟩) (by assumption) ?_
                      rotate_left
                      · intro w hSw
                        (try dsimp only at hSw)
                        go_simp
                        try rfl
                      change wpAnyH _ _ _ _ _ _ _ (Act.put _ (some 70) _) _
                      simp only [Act.put, List.setIfInBounds_toArray, List.set_cons_succ, List.set_cons_zero]
                      refine wpAnyH_take (i := 3) (v := ?_) rfl (by kernel_rfl) (by kernel_rfl) (by kernel_rfl) (fun _ _ _ h => h) (Or.inl ⟨by rfl, ?_⟩) (by assumption) ?_
                      rotate_left
                      · intro w hSw
                        (try dsimp only at hSw)
                        go_simp
                        try rfl
                      change wpAnyH _ _ _ _ _ _ _ (Act.put _ (some 71) _) _
                      simp only [Act.put, List.setIfInBounds_toArray, List.set_cons_succ, List.set_cons_zero]
                      refine wpAnyH_take (i := 4) (v := ?_) rfl (by kernel_rfl) (by kernel_rfl) (by kernel_rfl) (fun _ _ _ h => h) (Or.inl ⟨by rfl, ?_⟩) (by assumption) ?_
                      rotate_left
                      · intro w hSw
                        (try dsimp only at hSw)
                        go_simp
                        try rfl
                      change wpAnyH _ _ _ _ _ _ _ (Act.put _ (some 72) _) _
                      simp only [Act.put, List.setIfInBounds_toArray, List.set_cons_succ, List.set_cons_zero]
                      refine wpAnyH_take (i := 5) (v := ?_) rfl (by kernel_rfl) (by kernel_rfl) (by kernel_rfl) (fun _ _ _ h => h) (Or.inl ⟨by rfl, ?_⟩) (by assumption) ?_
                      rotate_left
                      · intro w hSw
                        (try dsimp only at hSw)
                        go_simp
                        try rfl
                      change wpAnyH _ _ _ _ _ _ _ (Act.put _ (some 73) _) _
                      simp only [Act.put, List.setIfInBounds_toArray, List.set_cons_succ, List.set_cons_zero]
                      refine wpAnyH_take (i := 6) (v := ?_) rfl (by kernel_rfl) (by kernel_rfl) (by kernel_rfl) (fun _ _ _ h => h) (Or.inl ⟨by rfl, ?_⟩) (by assumption) ?_
                      rotate_left
                      · intro w hSw
                        (try dsimp only at hSw)
                        go_simp
                        try rfl
                      change wpAnyH _ _ _ _ _ _ _ (Act.put _ (some 74) _) _
                      simp only [Act.put, List.setIfInBounds_toArray, List.set_cons_succ, List.set_cons_zero]
                      refine wpAnyH_take (i := 7) (v := ?_) rfl (by kernel_rfl) (by kernel_rfl) (by kernel_rfl) (fun _ _ _ h => h) (Or.inl ⟨by rfl, ?_⟩) (by assumption) ?_
                      rotate_left
                      · intro w hSw
                        (try dsimp only at hSw)
                        go_simp
                        try rfl
                      change wpAnyH _ _ _ _ _ _ _ (Act.put _ (some 75) _) _
                      simp only [Act.put, List.setIfInBounds_toArray, List.set_cons_succ, List.set_cons_zero]
                      refine wpAnyH_take (i := 8) (v := ?_) rfl (by kernel_rfl) (by kernel_rfl) (by kernel_rfl) (fun _ _ _ h => h) (Or.inl ⟨by rfl, ?_⟩) (by assumption) ?_
                      rotate_left
                      · intro w hSw
                        (try dsimp only at hSw)
                        go_simp
                        try rfl
                      change wpAnyH _ _ _ _ _ _ _ (Act.put _ (some 76) _) _
                      simp only [Act.put, List.setIfInBounds_toArray, List.set_cons_succ, List.set_cons_zero]
                      refine wpAnyH_take (i := 9) (v := ?_) rfl (by kernel_rfl) (by kernel_rfl) (by kernel_rfl) (fun _ _ _ h => h) (Or.inl ⟨by rfl, ?_⟩) (by assumption) ?_
                      rotate_left
                      · intro w hSw
                        (try dsimp only at hSw)
                        go_simp
                        try rfl
                      change wpAnyH _ _ _ _ _ _ _ (Act.put _ (some 77) _) _
                      simp only [Act.put, List.setIfInBounds_toArray, List.set_cons_succ, List.set_cons_zero]
                      refine wpAnyH_take (i := 10) (v := ?_) rfl (by kernel_rfl) (by kernel_rfl) (by kernel_rfl) (fun _ _ _ h => h) (Or.inl ⟨by rfl, ?_⟩) (by assumption) ?_
                      rotate_left
                      · intro w hSw
                        (try dsimp only at hSw)
                        go_simp
                        try rfl
                      change wpAnyH _ _ _ _ _ _ _ (Act.put _ (some 78) _) _
                      simp only [Act.put, List.setIfInBounds_toArray, List.set_cons_succ, List.set_cons_zero]
                      refine wpAnyH_take (i := 11) (v := ?_) rfl (by kernel_rfl) (by kernel_rfl) (by kernel_rfl) (fun _ _ _ h => h) (Or.inl ⟨by rfl, ?_⟩) (by assumption) ?_
                      rotate_left
                      · intro w hSw
                        (try dsimp only at hSw)
                        go_simp
                        try rfl
                      change wpAnyH _ _ _ _ _ _ _ (Act.put _ (some 79) _) _
                      simp only [Act.put, List.setIfInBounds_toArray, List.set_cons_succ, List.set_cons_zero]
                      refine wpAnyH_take (i := 12) (v := ?_) rfl (by kernel_rfl) (by kernel_rfl) (by kernel_rfl) (fun _ _ _ h => h) (Or.inl ⟨by rfl, ?_⟩) (by assumption) ?_
                      rotate_left
                      · intro w hSw
                        (try dsimp only at hSw)
                        go_simp
                        try rfl
                      change wpAnyH _ _ _ _ _ _ _ (Act.put _ (some 80) _) _
                      simp only [Act.put, List.setIfInBounds_toArray, List.set_cons_succ, List.set_cons_zero]
                      refine wpAnyH_take (i := 13) (v := ?_) rfl (by kernel_rfl) (by kernel_rfl) (by kernel_rfl) (fun _ _ _ h => h) (Or.inl ⟨by rfl, ?_⟩) (by assumption) ?_
                      rotate_left
                      · intro w hSw
                        (try dsimp only at hSw)
                        go_simp
                        try rfl
                      change wpAnyH _ _ _ _ _ _ _ (Act.put _ (some 81) _) _
                      simp only [Act.put, List.setIfInBounds_toArray, List.set_cons_succ, List.set_cons_zero]
                      refine wpAnyH_ready (rs := [14]) (by kernel_rfl) (by simp) ?_
                      refine AllReadyH.cons rfl (fun K hK => ?_) AllReadyH.nil
                      go_simp
                      refine (spok_t _ HK).mono ?_
                      rintro e wa ⟨rfl, hba⟩
                      refine hK.out _ _ (heldS lP p0 p1 (‹Over w3 _ ∧ _›) hba) (fun hHeld => ?_)
                      clear hK K
                      refine wpAnyH_take (i := 15) (v := ?_) rfl (by kernel_rfl) (by kernel_rfl) (by kernel_rfl) (fun _ _ _ h => h) (Or.inl ⟨by rfl, ?_⟩) (by assumption) ?_
                      rotate_left
                      · intro w hSw
                        (try dsimp only at hSw)
                        go_simp
                        try rfl
                      change wpAnyH _ _ _ _ _ _ _ (Act.put _ (some 83) _) _
                      simp only [Act.put, List.setIfInBounds_toArray, List.set_cons_succ, List.set_cons_zero]
                      refine wpAnyH_take (i := 16) (v := ?_) rfl (by kernel_rfl) (by kernel_rfl) (by kernel_rfl) (fun _ _ _ h => h) (Or.inl ⟨by rfl, ?_⟩) (by assumption) ?_
                      rotate_left
                      · intro w hSw
                        (try dsimp only at hSw)
                        go_simp
                        try rfl
                      change wpAnyH _ _ _ _ _ _ _ (Act.put _ (some 84) _) _
                      simp only [Act.put, List.setIfInBounds_toArray, List.set_cons_succ, List.set_cons_zero]
                      refine wpAnyH_take (i := 17) (v := ?_) rfl (by kernel_rfl) (by kernel_rfl) (by kernel_rfl) (fun _ _ _ h => h) (Or.inl ⟨by rfl, ?_⟩) (by assumption) ?_
                      rotate_left
                      · intro w hSw
                        (try dsimp only at hSw)
                        go_simp
                        try rfl
                      change wpAnyH _ _ _ _ _ _ _ (Act.put _ (some 85) _) _
                      simp only [Act.put, List.setIfInBounds_toArray, List.set_cons_succ, List.set_cons_zero]
                      refine wpAnyH_take (i := 18) (v := ?_) rfl (by kernel_rfl) (by kernel_rfl) (by kernel_rfl) (fun _ _ _ h => h) (Or.inl ⟨by rfl, ?_⟩) (by assumption) ?_
                      rotate_left
                      · intro w hSw
                        (try dsimp only at hSw)
                        go_simp
                        try rfl
                      change wpAnyH _ _ _ _ _ _ _ (Act.put _ (some 86) _) _
                      simp only [Act.put, List.setIfInBounds_toArray, List.set_cons_succ, List.set_cons_zero]
                      refine wpAnyH_take (i := 21) (v := ?_) rfl (by kernel_rfl) (by kernel_rfl) (by kernel_rfl) (fun _ _ _ h => h) (Or.inl ⟨by rfl, ?_⟩) (by assumption) ?_
                      rotate_left
                      · intro w hSw
                        (try dsimp only at hSw)
                        go_simp
                        try rfl
                      change wpAnyH _ _ _ _ _ _ _ (Act.put _ (some 89) _) _
                      simp only [Act.put, List.setIfInBounds_toArray, List.set_cons_succ, List.set_cons_zero]
                      refine wpAnyH_take (i := 22) (v := ?_) rfl (by kernel_rfl) (by kernel_rfl) (by kernel_rfl) (fun _ _ _ h => h) (Or.inl ⟨by rfl, ?_⟩) (by assumption) ?_
                      rotate_left
                      · intro w hSw
                        (try dsimp only at hSw)
                        go_simp
                        try rfl
                      change wpAnyH _ _ _ _ _ _ _ (Act.put _ (some 90) _) _
                      simp only [Act.put, List.setIfInBounds_toArray, List.set_cons_succ, List.set_cons_zero]
                      refine wpAnyH_ready (rs := [19]) (by kernel_rfl) (by simp) ?_
                      refine AllReadyH.cons rfl (fun K hK => ?_) AllReadyH.nil
                      go_simp
                      refine (l1text_any A z _ k0 k1 k2 k3).mono ?_
                      rw [← textL_is A z HK.out]
                      rintro e wb ⟨u, rfl, hou, hbb⟩
                      obtain ⟨a', c', rfl⟩ := (hou.rd (textL_bd A z)).len
                      have cvu := conv_rd (hou.rd (textL_bd A z))
                      refine hK.out _ _ (heldS lP p0 p1 (‹Over w3 _ ∧ _›) hbb) (fun hHeld => ?_)
                      clear hK K
                      refine wpAnyH_ready (rs := [20]) (by kernel_rfl) (by simp) ?_
                      refine AllReadyH.cons rfl (fun K hK => ?_) AllReadyH.nil
                      go_simp
                      refine hK.out _ _ (by assumption) (fun hHeld => ?_)
                      clear hK K
                      obtain ⟨ho, q0, q1⟩ := hHeld
                      replace cr0 := over_cell ho hRz cr0
                      replace cr1 := over_cell ho hRz cr1
                      replace cf0 := ((grown_below (over_below ho) none).frozen_far ⟨R, 0, none⟩ hRz (by simp)).trans cf0
                      replace cf1 := ((grown_below (over_below ho) none).frozen_far ⟨R, 1, none⟩ hRz (by simp)).trans cf1
                      replace hbw := below_step hbw (over_below ho)
                      clear hcvb cvu
                      by_cases hq : textL A z = l
                      · rw [hq]
                        have HQ := Lib.hid hq
                        clear hq
                        refine wpAnyH_take (i := 23) (v := ?_) rfl (by kernel_rfl) (by kernel_rfl) (by kernel_rfl) (fun _ _ _ h => h) (Or.inl ⟨by rfl, ?_⟩) (by assumption) ?_
                        rotate_left
                        · intro w hSw
                          (try dsimp only at hSw)
                          go_simp
                          try rfl
                        change wpAnyH _ _ _ _ _ _ _ (Act.put _ (some 91) _) _
                        simp only [Act.put, List.setIfInBounds_toArray, List.set_cons_succ, List.set_cons_zero]
                        refine wpAnyH_take (i := 24) (v := ?_) rfl (by kernel_rfl) (by kernel_rfl) (by kernel_rfl) (fun _ _ _ h => h) (Or.inl ⟨by rfl, ?_⟩) (by assumption) ?_
                        rotate_left
                        · intro w hSw
                          (try dsimp only at hSw)
                          go_simp
                          try rfl
                        change wpAnyH _ _ _ _ _ _ _ (Act.put _ (some 92) _) _
                        simp only [Act.put, List.setIfInBounds_toArray, List.set_cons_succ, List.set_cons_zero]
                        refine wpAnyH_done (by kernel_rfl) ?_ _
                        go_wp2_with fail
                        have e0 := set_other (u := .int .i64 z) (a := ⟨R, 1, none⟩) (by simp) (set_same (u := .int .i64 A) cr0)
                        have e1 := set_same (u := .int .i64 z) (set_other (u := .int .i64 A) (a := ⟨R, 0, none⟩) (by simp) cr1)
                        exact bodyPost_ret (v := .tuple #[.agg #[.int .i64 A, .int .i64 z], .bool true]) (by simp [results, Tryd.results41, go_sem, e0, e1]) rfl ⟨_, rfl, .inl ⟨A, z, HK.out, HQ.out, rfl⟩, below_set (below_set hbw hRw) hRw⟩
                      · have n1 := str_ne (textL_bd A z) h.1 hq
                        have n2 : ((strOfNums (textL A z)).toList == (strOfNums l).toList) = false := by simp [n1]
                        have n3 : ((strOfNums (textL A z)).toList != (strOfNums l).toList) = true := by simp [n1]
                        have HQ := Lib.hid hq
                        clear hq
                        refine wpAnyH_take (i := 23) (v := ?_) rfl (by kernel_rfl) (by kernel_rfl) (by kernel_rfl) (fun _ _ _ h => h) (Or.inl ⟨by rfl, ?_⟩) (by assumption) ?_
                        rotate_left
                        · intro w hSw
                          (try dsimp only at hSw)
                          go_simp
                          try rfl
                        change wpAnyH _ _ _ _ _ _ _ (Act.put _ (some 91) _) _
                        simp only [Act.put, List.setIfInBounds_toArray, List.set_cons_succ, List.set_cons_zero]
                        refine wpAnyH_take (i := 24) (v := ?_) rfl (by kernel_rfl) (by kernel_rfl) (by kernel_rfl) (fun _ _ _ h => h) (Or.inl ⟨by rfl, ?_⟩) (by assumption) ?_
                        rotate_left
                        · intro w hSw
                          (try dsimp only at hSw)
                          go_simp
                          try rfl
                        change wpAnyH _ _ _ _ _ _ _ (Act.put _ (some 92) _) _
                        simp only [Act.put, List.setIfInBounds_toArray, List.set_cons_succ, List.set_cons_zero]
                        refine wpAnyH_done (by kernel_rfl) ?_ _
                        go_wp2_with fail
                        have e0 := set_other (u := .int .i64 0) (a := ⟨R, 1, none⟩) (by simp) (set_same (u := .int .i64 0) cr0)
                        have e1 := set_same (u := .int .i64 0) (set_other (u := .int .i64 0) (a := ⟨R, 0, none⟩) (by simp) cr1)
                        exact bodyPost_ret (v := .tuple #[.agg #[.int .i64 0, .int .i64 0], .bool false]) (by simp [results, Tryd.results41, go_sem, e0, e1]) rfl ⟨_, rfl, text_bad (fun a n ha e => by obtain ⟨u1, u2, u3, u4, u5⟩ := text_is HV.out HV2.out HV3.out ha e; rw [HA.out] at u4; exact HQ.out (by rw [u4, u5]; exact e)), below_set (below_set hbw hRw) hRw⟩
              · have hb9 : (r == (l.length : Int)) = false := by simp [hrl]
                have hc9 : (r != (l.length : Int)) = true := by simp [hrl]
                refine wp_region_class (C := Over (w3)) (by kernel_rfl) (by kernel_rfl) (over_drew _) ?_
                repeat (first | go_big_quiet_skip | (go_big_quiet_want; go_big_quiet_op; go_big_quiet_on) | (go_big_quiet_want; go_big_quiet_op; apply Exists.intro; refine ⟨fun w' hC => ?_, ?_⟩; ((first | (go_at_call 10; refine (spok_t _ HK).mono ?_; rintro e w1 ⟨rfl, hb1⟩; exact ⟨rfl, over_step hC hb1⟩))); go_big_quiet_on) | (go_big_quiet_want; apply Exists.intro; refine ⟨fun w' hC => ?_, ?_⟩; (have k0 := over_cell hC lP p0; have k1 := over_cell hC lP p1; simp [Oper.quietAt, Oper.quietUpon, go_sem, k0, k1, hb9, hc9]; first | done | rfl); go_big_quiet_on; simp only [Act.put, List.setIfInBounds_toArray, List.set_cons_zero, List.set_cons_succ]))
                refine wpQuiet_nil ?_
                intro wr hC
                have k0 := over_cell hC lP p0
                have k1 := over_cell hC lP p1
                clear k0 k1
                replace cr0 := over_cell hC hRz cr0
                replace cr1 := over_cell hC hRz cr1
                replace cf0 := ((grown_below (over_below hC) none).frozen_far ⟨R, 0, none⟩ hRz (by simp)).trans cf0
                replace cf1 := ((grown_below (over_below hC) none).frozen_far ⟨R, 1, none⟩ hRz (by simp)).trans cf1
                replace hbw := below_step hbw (over_below hC)
                clear hC
                go_wp2_with fail
                have e0 := set_other (u := .int .i64 0) (a := ⟨R, 1, none⟩) (by simp) (set_same (u := .int .i64 0) cr0)
                have e1 := set_same (u := .int .i64 0) (set_other (u := .int .i64 0) (a := ⟨R, 0, none⟩) (by simp) cr1)
                exact bodyPost_ret (v := .tuple #[.agg #[.int .i64 0, .int .i64 0], .bool false]) (by simp [results, Tryd.results41, go_sem, e0, e1]) rfl ⟨_, rfl, text_bad (fun a n ha e => by obtain ⟨u1, u2, u3, u4, u5⟩ := text_is HV.out HV2.out HV3.out ha e; exact hrl u1), below_set (below_set hbw hRw) hRw⟩
            · have hb47 : (d == 47) = false := by simp [h47]
              have hc47 : (d != 47) = true := by simp [h47]
              go_wp2_with fail
              have e0 := set_other (u := .int .i64 0) (a := ⟨R, 1, none⟩) (by simp) (set_same (u := .int .i64 0) cr0)
              have e1 := set_same (u := .int .i64 0) (set_other (u := .int .i64 0) (a := ⟨R, 0, none⟩) (by simp) cr1)
              exact bodyPost_ret (v := .tuple #[.agg #[.int .i64 0, .int .i64 0], .bool false]) (by simp [results, Tryd.results41, go_sem, e0, e1]) rfl ⟨_, rfl, text_bad (fun a n ha e => by obtain ⟨p', q', r', t1, t2, t3, t4, t5, t6, t7, t8⟩ := text_num a n ha; rw [e] at t1 t2 t3 t4 t5 t6 t7 t8; rw [HV.out] at t1; injection t1 with _ t1; obtain rfl : p = p' := (by omega); rw [HV2.out] at t4; injection t4 with _ t4; obtain rfl : q = q' := (by omega); rw [HD2.out] at t6; exact h47 t6), below_set (below_set hbw hRw) hRw⟩
          · have hqJ : ¬ (q : Int) < (l.length : Int) := by omega
            have hq3 : ¬ (q : Int) < 0 := by omega
            have hqm : l.length ≤ q := by omega
            go_wp2_with fail
            have e0 := set_other (u := .int .i64 0) (a := ⟨R, 1, none⟩) (by simp) (set_same (u := .int .i64 0) cr0)
            have e1 := set_same (u := .int .i64 0) (set_other (u := .int .i64 0) (a := ⟨R, 0, none⟩) (by simp) cr1)
            exact bodyPost_ret (v := .tuple #[.agg #[.int .i64 0, .int .i64 0], .bool false]) (by simp [results, Tryd.results41, go_sem, e0, e1]) rfl ⟨_, rfl, text_bad (fun a n ha e => by obtain ⟨p', q', r', t1, t2, t3, t4, t5, t6, t7, t8⟩ := text_num a n ha; rw [e] at t1 t2 t3 t4 t5 t6 t7 t8; rw [HV.out] at t1; injection t1 with _ t1; obtain rfl : p = p' := (by omega); rw [HV2.out] at t4; injection t4 with _ t4; obtain rfl : q = q' := (by omega); omega), below_set (below_set hbw hRw) hRw⟩
      · have hb46 : (d == 46) = false := by simp [h46]
        have hc46 : (d != 46) = true := by simp [h46]
        go_wp2_with fail
        have e0 := set_other (u := .int .i64 0) (a := ⟨R, 1, none⟩) (by simp) (set_same (u := .int .i64 0) cr0)
        have e1 := set_same (u := .int .i64 0) (set_other (u := .int .i64 0) (a := ⟨R, 0, none⟩) (by simp) cr1)
        exact bodyPost_ret (v := .tuple #[.agg #[.int .i64 0, .int .i64 0], .bool false]) (by simp [results, Tryd.results41, go_sem, e0, e1]) rfl ⟨_, rfl, text_bad (fun a n ha e => by obtain ⟨p', q', r', t1, t2, t3, t4, t5, t6, t7, t8⟩ := text_num a n ha; rw [e] at t1 t2 t3 t4 t5 t6 t7 t8; rw [HV.out] at t1; injection t1 with _ t1; obtain rfl : p = p' := (by omega); rw [HD.out] at t3; exact h46 t3), below_set (below_set hbw hRw) hRw⟩
    · have hqI : ¬ (p : Int) < (l.length : Int) := by omega
      have hp0 : ¬ (p : Int) < 0 := by omega
      have hqn : l.length ≤ p := by omega
      go_wp2_with fail
      have e0 := set_other (u := .int .i64 0) (a := ⟨R, 1, none⟩) (by simp) (set_same (u := .int .i64 0) cr0)
      have e1 := set_same (u := .int .i64 0) (set_other (u := .int .i64 0) (a := ⟨R, 0, none⟩) (by simp) cr1)
      exact bodyPost_ret (v := .tuple #[.agg #[.int .i64 0, .int .i64 0], .bool false]) (by simp [results, Tryd.results41, go_sem, e0, e1]) rfl ⟨_, rfl, text_bad (fun a n ha e => by obtain ⟨p', q', r', t1, t2, t3, t4, t5, t6, t7, t8⟩ := text_num a n ha; rw [e] at t1 t2 t3 t4 t5 t6 t7 t8; rw [HV.out] at t1; injection t1 with _ t1; obtain rfl : p = p' := (by omega); omega), below_set (below_set hbw hRw) hRw⟩
end Go.Proofs.YtichmbbpjkikaaaDoor
