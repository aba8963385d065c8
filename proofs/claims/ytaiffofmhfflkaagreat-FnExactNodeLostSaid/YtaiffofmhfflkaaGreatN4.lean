/-
  Lists of prefixes: contracts of the model's test that they are valid and ascending, and of the library's comparison of two lists. Conditions: those in each contract.
-/
import Derived.Test.YtaiffofmhfflkaaGreatN3
import Derived.Laws.StructEq
namespace Go.Proofs.YtaiffofmhfflkaaGreat
open Go.ChangeShapes Go.WideShapes Go.ChangeAt Go.RowKit Go.BigFrame
set_option linter.unusedVariables false
set_option maxRecDepth 100000
set_option linter.unusedSimpArgs false

theorem spfx_any (v : Value) (l : List (Int × Int)) (w : World) (h : RdP w v l) :
    Calls Tryz.prog 103 #[v] w fun e w' => e = .returned (.bool (decide ((l.length : Int) ≤ 8) && pfxB l)) ∧ Below w.heap.size w w' := by
  have hm := h.1
  obtain ⟨a, c, rfl, hc⟩ := h.el
  obtain ⟨n, hn⟩ : ∃ n, n = l.length := ⟨_, rfl⟩
  rw [← hn] at hc hm ⊢
  have HN := Lib.hid hn
  clear h hn
  go_enter Tryz.func103, Tryz.ntmps103
  go_wp2
  go_loopw [3] (fun q wr => ∃ k : Nat, k ≤ n ∧ q = .int .i64 k ∧ (∀ i, i < k → okAt l i) ∧ (∀ i, i + 1 < k → upAt l i) ∧ Below w.heap.size w wr) (fun q _ => n - (intOf q).toNat)
  case atStart => exact ⟨0, Nat.zero_le _, rfl, fun i hi => by omega, fun i hi => by omega, Below.refl _ _⟩
  case round =>
    obtain ⟨k, hk, rfl, hok, hup, hB⟩ := hrel
    have HO := Lib.hid hok
    have HU := Lib.hid hup
    clear hok hup
    by_cases hlt : k < n
    · have hltI : (k : Int) < (n : Int) := by omega
      obtain ⟨b, o, rfl, d0, d1⟩ := hc k hlt
      have e0 := cell_keep hB (World.block_lt_of_cell? w _ d0) d0
      have e1 := cell_keep hB (World.block_lt_of_cell? w _ d1) d1
      obtain ⟨⟨x, y⟩, hx⟩ : ∃ q, l.getD k (0, 0) = q := ⟨_, rfl⟩
      rw [hx] at e0 e1
      have HX := Lib.hid hx
      have HCC := Lib.hid hc
      clear hx hc d0 d1
      cases hp : pokB x y
      · have HP := Lib.hid hp
        have HF := Lib.hid (pfxB_ok (by rw [← HN.out]; exact hlt) HX.out hp)
        clear hp
        go_wp2
        refine wp_region_class (C := Over (wr)) (by kernel_rfl) (by kernel_rfl) (over_drew _) ?_
        repeat (first | go_big_quiet_skip | (go_big_quiet_want; go_big_quiet_op; go_big_quiet_on) | (go_big_quiet_want; go_big_quiet_op; apply Exists.intro; refine ⟨fun w' hC => ?_, ?_⟩; ((first | (go_at_call 157; refine (spok_t _ HP).mono ?_; rintro e w1 ⟨rfl, hb1⟩; exact ⟨rfl, over_step hC hb1⟩))); go_big_quiet_on) | (go_big_quiet_want; apply Exists.intro; refine ⟨fun w' hC => ?_, ?_⟩; (have k0 := over_cell hC (World.block_lt_of_cell? _ _ e0) e0; have k1 := over_cell hC (World.block_lt_of_cell? _ _ e1) e1; simp [Oper.quietAt, Oper.quietUpon, go_sem, k0, k1, hltI, hlt]; first | done | rfl); go_big_quiet_on; simp only [Act.put, List.setIfInBounds_toArray, List.set_cons_zero, List.set_cons_succ]))
        refine wpQuiet_nil ?_
        intro wr hC
        have k0 := over_cell hC (World.block_lt_of_cell? _ _ e0) e0
        have k1 := over_cell hC (World.block_lt_of_cell? _ _ e1) e1
        go_wp2
        go_ret
        exact ⟨ret_bool (by rw [HF.out, Bool.and_false]), below_step hB hC⟩
      · have HP := Lib.hid hp
        have HOK : Hid (∀ i, i < k + 1 → okAt l i) := Lib.hid fun i hi => by
          by_cases e : i = k
          · unfold okAt; rw [e, HX.out]; exact hp
          · exact HO.out i (by omega)
        clear hp
        rcases Nat.eq_zero_or_pos k with rfl | hpos
        · simp only [Nat.zero_mul, Nat.add_zero] at e0 e1
          go_wp2
          refine wp_region_class (C := Over (wr)) (by kernel_rfl) (by kernel_rfl) (over_drew _) ?_
          repeat (first | go_big_quiet_skip | (go_big_quiet_want; go_big_quiet_op; go_big_quiet_on) | (go_big_quiet_want; go_big_quiet_op; apply Exists.intro; refine ⟨fun w' hC => ?_, ?_⟩; ((first | (go_at_call 157; refine (spok_t _ HP).mono ?_; rintro e w1 ⟨rfl, hb1⟩; exact ⟨rfl, over_step hC hb1⟩))); go_big_quiet_on) | (go_big_quiet_want; apply Exists.intro; refine ⟨fun w' hC => ?_, ?_⟩; (have k0 := over_cell hC (World.block_lt_of_cell? _ _ e0) e0; have k1 := over_cell hC (World.block_lt_of_cell? _ _ e1) e1; simp [Oper.quietAt, Oper.quietUpon, go_sem, k0, k1, hltI, hlt]; first | done | rfl); go_big_quiet_on; simp only [Act.put, List.setIfInBounds_toArray, List.set_cons_zero, List.set_cons_succ]))
          refine wpQuiet_nil ?_
          intro wr hC
          have k0 := over_cell hC (World.block_lt_of_cell? _ _ e0) e0
          have k1 := over_cell hC (World.block_lt_of_cell? _ _ e1) e1
          go_wp2
          go_roundw
          case rel => exact ⟨0 + 1, by omega, by go_num, HOK.out, fun i hi => by omega, below_step hB hC⟩
          case measure => simp [intOf]; omega
        · obtain ⟨j, rfl⟩ : ∃ j, k = j + 1 := ⟨k - 1, by omega⟩
          obtain ⟨b', o', hbo, d2, d3⟩ := HCC.out j (by omega)
          obtain ⟨rfl, rfl⟩ : b = b' ∧ o = o' := by simpa using hbo
          clear hbo
          obtain ⟨⟨s, t⟩, hs⟩ : ∃ q, l.getD j (0, 0) = q := ⟨_, rfl⟩
          rw [hs] at d2 d3
          have HS := Lib.hid hs
          obtain ⟨r, hr⟩ : ∃ r, cmp2 s t x y = r := ⟨_, rfl⟩
          have HR := Lib.hid hr
          clear hs hr
          by_cases hneg : r < 0
          · have HUP : Hid (∀ i, i + 1 < j + 1 + 1 → upAt l i) := Lib.hid fun i hi => by
              by_cases e : i = j
              · unfold upAt; rw [e, HS.out, HX.out, HR.out]; exact hneg
              · exact HU.out i (by omega)
            have f0 := cell_keep hB (World.block_lt_of_cell? w _ d2) d2
            have f1 := cell_keep hB (World.block_lt_of_cell? w _ d3) d3
            clear d2 d3
            have hwj : IntKind.i64.wrap (j : Int) = j := wrap64_in _ (by omega) (by omega)
            have hjI : (j : Int) < (n : Int) := by omega
            have hjN : j < n := by omega
            have hkJ : (j : Int) + 1 < (n : Int) := by omega
            have hkT : ((j : Int) + 1).toNat = j + 1 := by omega
            have hk0 : (0 : Int) ≤ (j : Int) + 1 := by omega
            go_wp2
            refine wp_region_class (C := Over (wr)) (by kernel_rfl) (by kernel_rfl) (over_drew _) ?_
            repeat (first | go_big_quiet_skip | (go_big_quiet_want; go_big_quiet_op; go_big_quiet_on) | (go_big_quiet_want; go_big_quiet_op; apply Exists.intro; refine ⟨fun w' hC => ?_, ?_⟩; ((first | (go_at_call 157; refine (spok_t _ HP).mono ?_; rintro e w1 ⟨rfl, hb1⟩; exact ⟨rfl, over_step hC hb1⟩) | (go_at_call 158; refine (scmp_t _ HR).mono ?_; rintro e w1 ⟨rfl, hb1⟩; exact ⟨rfl, over_step hC hb1⟩))); go_big_quiet_on) | (go_big_quiet_want; apply Exists.intro; refine ⟨fun w' hC => ?_, ?_⟩; (have k0 := over_cell hC (World.block_lt_of_cell? _ _ e0) e0; have k1 := over_cell hC (World.block_lt_of_cell? _ _ e1) e1; have k2 := over_cell hC (World.block_lt_of_cell? _ _ f0) f0; have k3 := over_cell hC (World.block_lt_of_cell? _ _ f1) f1; simp [Oper.quietAt, Oper.quietUpon, go_sem, k0, k1, k2, k3, hltI, hlt, hwj, hjI, hjN, hkJ, hkT, hk0]; first | done | rfl); go_big_quiet_on; simp only [Act.put, List.setIfInBounds_toArray, List.set_cons_zero, List.set_cons_succ]))
            refine wpQuiet_nil ?_
            intro wr hC
            have k0 := over_cell hC (World.block_lt_of_cell? _ _ e0) e0
            have k1 := over_cell hC (World.block_lt_of_cell? _ _ e1) e1
            have k2 := over_cell hC (World.block_lt_of_cell? _ _ f0) f0
            have k3 := over_cell hC (World.block_lt_of_cell? _ _ f1) f1
            go_wp2
            go_roundw
            case rel => exact ⟨j + 1 + 1, by omega, by go_num, HOK.out, HUP.out, below_step hB hC⟩
            case measure => simp [intOf]; omega
          · have HF := Lib.hid (pfxB_up (by rw [← HN.out]; exact hlt) HS.out HX.out (by rw [HR.out]; exact hneg))
            have f0 := cell_keep hB (World.block_lt_of_cell? w _ d2) d2
            have f1 := cell_keep hB (World.block_lt_of_cell? w _ d3) d3
            clear d2 d3
            have hwj : IntKind.i64.wrap (j : Int) = j := wrap64_in _ (by omega) (by omega)
            have hjI : (j : Int) < (n : Int) := by omega
            have hjN : j < n := by omega
            have hkJ : (j : Int) + 1 < (n : Int) := by omega
            have hkT : ((j : Int) + 1).toNat = j + 1 := by omega
            have hk0 : (0 : Int) ≤ (j : Int) + 1 := by omega
            go_wp2
            refine wp_region_class (C := Over (wr)) (by kernel_rfl) (by kernel_rfl) (over_drew _) ?_
            repeat (first | go_big_quiet_skip | (go_big_quiet_want; go_big_quiet_op; go_big_quiet_on) | (go_big_quiet_want; go_big_quiet_op; apply Exists.intro; refine ⟨fun w' hC => ?_, ?_⟩; ((first | (go_at_call 157; refine (spok_t _ HP).mono ?_; rintro e w1 ⟨rfl, hb1⟩; exact ⟨rfl, over_step hC hb1⟩) | (go_at_call 158; refine (scmp_t _ HR).mono ?_; rintro e w1 ⟨rfl, hb1⟩; exact ⟨rfl, over_step hC hb1⟩))); go_big_quiet_on) | (go_big_quiet_want; apply Exists.intro; refine ⟨fun w' hC => ?_, ?_⟩; (have k0 := over_cell hC (World.block_lt_of_cell? _ _ e0) e0; have k1 := over_cell hC (World.block_lt_of_cell? _ _ e1) e1; have k2 := over_cell hC (World.block_lt_of_cell? _ _ f0) f0; have k3 := over_cell hC (World.block_lt_of_cell? _ _ f1) f1; simp [Oper.quietAt, Oper.quietUpon, go_sem, k0, k1, k2, k3, hltI, hlt, hwj, hjI, hjN, hkJ, hkT, hk0]; first | done | rfl); go_big_quiet_on; simp only [Act.put, List.setIfInBounds_toArray, List.set_cons_zero, List.set_cons_succ]))
            refine wpQuiet_nil ?_
            intro wr hC
            have k0 := over_cell hC (World.block_lt_of_cell? _ _ e0) e0
            have k1 := over_cell hC (World.block_lt_of_cell? _ _ e1) e1
            have k2 := over_cell hC (World.block_lt_of_cell? _ _ f0) f0
            have k3 := over_cell hC (World.block_lt_of_cell? _ _ f1) f1
            go_wp2
            go_ret
            exact ⟨ret_bool (by rw [HF.out, Bool.and_false]), below_step hB hC⟩
    · have hkn : k = n := by omega
      subst hkn
      have HF := Lib.hid (pfxB_yes HN.out HO.out HU.out)
      clear hc
      go_wp2
      all_goals
        go_ret
        exact ⟨ret_bool (by rw [HF.out, Bool.and_true]), hB⟩
/-- the library's comparison of two lists of prefixes -/
theorem slP_any (v u : Value) (l m : List (Int × Int)) (w : World) (h1 : RdP w v l) (h2 : RdP w u m) :
    Calls Tryz.prog 221 #[v, u] w fun e w' => e = .returned (.bool (decide (l = m))) ∧ Below w.heap.size w w' := by
  by_cases hlen : l.length = m.length
  · have hm1 := h1.1
    obtain ⟨a, c, rfl, hc⟩ := h1.el
    obtain ⟨a', c', rfl, hc'⟩ := h2.el
    obtain ⟨n, hn⟩ : ∃ n, n = l.length := ⟨_, rfl⟩
    have hn' : n = m.length := hn.trans hlen
    rw [← hn'] at hc' ⊢
    rw [← hn] at hc hm1 ⊢
    have HN := Lib.hid hn
    have HN' := Lib.hid hn'
    clear hn hn' hlen h1 h2
    go_enter Tryz.func221, Tryz.ntmps221
    go_wp2
    go_loopw [13] (fun i wr => ∃ k : Nat, k ≤ n ∧ i = .int .i64 k ∧ l.take k = m.take k ∧ Below w.heap.size w wr) (fun i _ => n - (intOf i).toNat)
    case atStart => exact ⟨0, Nat.zero_le _, rfl, rfl, Below.refl _ _⟩
    case round =>
      obtain ⟨k, hk, rfl, ht, hB⟩ := hrel
      have HT := Lib.hid ht
      clear ht
      by_cases hlt : k < n
      · have hltI : (k : Int) < (n : Int) := by omega
        obtain ⟨b, o, rfl, d0, d1⟩ := hc k hlt
        obtain ⟨b', o', rfl, d0', d1'⟩ := hc' k hlt
        have e0 := cell_keep hB (World.block_lt_of_cell? w _ d0) d0
        have e1 := cell_keep hB (World.block_lt_of_cell? w _ d1) d1
        have e2 := cell_keep hB (World.block_lt_of_cell? w _ d0') d0'
        have e3 := cell_keep hB (World.block_lt_of_cell? w _ d1') d1'
        obtain ⟨⟨x, y⟩, hx⟩ : ∃ q, l.getD k (0, 0) = q := ⟨_, rfl⟩
        obtain ⟨⟨x', y'⟩, hx'⟩ : ∃ q, m.getD k (0, 0) = q := ⟨_, rfl⟩
        rw [hx] at e0 e1
        rw [hx'] at e2 e3
        have HX := Lib.hid hx
        have HY := Lib.hid hx'
        clear hx hx' hc hc' d0 d1 d0' d1'
        by_cases hxy : x = x' ∧ y = y'
        · obtain ⟨rfl, rfl⟩ := hxy
          go_wp2
          go_region
          go_wp2
          go_roundw
          case rel => exact ⟨k + 1, by omega, by go_num, takeP_succ HT.out (by rw [← HN.out]; exact hlt) (by rw [← HN'.out]; exact hlt) (by rw [HX.out, HY.out]), hB.drew⟩
          case measure => simp [intOf]; omega
        · have hlm : decide (l = m) = false := by
            simp only [decide_eq_false_iff_not]
            rintro rfl
            have := HX.out.symm.trans HY.out
            cases this
            exact hxy ⟨rfl, rfl⟩
          have HL := Lib.hid hlm
          clear hlm
          by_cases hx : x = x'
          · have hy : ¬ y = y' := fun e => hxy ⟨hx, e⟩
            subst hx
            clear hxy
            go_wp2
            go_region
            go_wp2
            go_ret
            exact ⟨ret_bool HL.out.symm, hB.drew⟩
          · clear hxy
            go_wp2
            go_region
            go_wp2
            go_ret
            exact ⟨ret_bool HL.out.symm, hB.drew⟩
      · have hkn : k = n := by omega
        have hlm : decide (l = m) = true := by
          have h := HT.out
          rw [hkn, List.take_of_length_le (by rw [HN.out]; exact Nat.le_refl _), List.take_of_length_le (by rw [HN'.out]; exact Nat.le_refl _)] at h
          simp [h]
        have HL := Lib.hid hlm
        clear hlm hkn hc hc'
        go_wp2
        go_ret
        exact ⟨ret_bool HL.out.symm, hB⟩
  · have hd : decide (l = m) = false := by
      simp only [decide_eq_false_iff_not]
      rintro rfl
      exact hlen rfl
    rw [hd]
    clear hd
    obtain ⟨a, c, rfl⟩ := h1.len
    obtain ⟨a', c', rfl⟩ := h2.len
    have hne : ((l.length : Int) != (m.length : Int)) = true := by simp; omega
    clear h1 h2
    go_enter Tryz.func221, Tryz.ntmps221
    go_wp2
    go_ret
    exact ⟨rfl, Below.refl _ _⟩
end Go.Proofs.YtaiffofmhfflkaaGreat
