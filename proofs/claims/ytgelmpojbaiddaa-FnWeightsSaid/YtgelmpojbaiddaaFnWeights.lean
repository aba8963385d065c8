/-
  The law 'FnWeights' returns true for every input, and its arguments read afterwards as before: the given statement 'Rows.FnWeightsSaid'. No condition.
-/
import Derived.Test.YtgelmpojbaiddaaO1
import Derived.Test.YtgelmpojbaiddaaO2
import Derived.Test.YtgelmpojbaiddaaGE
namespace Go.Proofs.Ytgelmpojbaiddaa.fnWeights
open Go.ChangeShapes Go.WideShapes Go.ChangeAt Go.RowKit Go.Proofs.Ytgelmpojbaiddaa
set_option linter.unusedVariables false
set_option maxRecDepth 100000
set_option linter.unusedSimpArgs false
set_option maxHeartbeats 4000000 in
theorem walk (W : World) (v0 : Value) (w0 : Is_bytes W v0) :
    Calls Try.prog 6 #[v0] W fun e w' => e = .returned (.bool true) ∧ Below W.heap.size W w' := by
  obtain ⟨l, hR⟩ := w0.rd
  go_enter Try.func6, Try.ntmps6
  go_wp2_with fail
  refine (drawW_any v0 l _ hR).mono ?_
  rintro e w1 ⟨u, rfl, m, hm5, hbd, h1, hB⟩
  have HBD := Lib.hid hbd
  clear hbd
  obtain ⟨L, hL⟩ : ∃ L, weiL m = L := ⟨_, rfl⟩
  have hLb : ∀ x ∈ L, -9223372036854775808 ≤ x ∧ x ≤ 9223372036854775807 := by rw [← hL]; exact weiL_bd m
  have HLB := Lib.hid hLb
  have HL := Lib.hid hL
  clear hL hLb
  go_wp2_with fail
  refine (iwei_any _ m _ (h1.rd HBD.out)).mono ?_
  rintro e w2 ⟨z, rfl, h2, hb⟩
  rw [HL.out] at h2
  replace h1 := h1.keep hb
  replace hB := below_step hB hb
  clear hb
  go_wp2_with fail
  refine (iwei_any _ [10, 30] _ ((OwnI.lit (base := w2.heap.size) w2 #[.int .i64 10, .int .i64 30] [10, 30] (Nat.le_refl _) (by simp [maxLen]) (by simp)).rd (by decide))).mono ?_
  rintro e w3 ⟨t, rfl, h3, hb⟩
  have hb2 := below_step ((Below.refl _ w2).alloc (Nat.le_refl _) (.cells #[.int .i64 10, .int .i64 30] IT)) hb
  replace h1 := h1.keep hb2
  replace h2 := h2.keep hb2
  replace hB := below_step hB hb2
  clear hb hb2
  rw [show weiL [10, 30] = [4, 12] by decide] at h3
  go_wp2_with fail
  refine (sameI_same _ _ [4, 12] _ ((h3.alloc _).rd (by decide)) ((OwnI.lit (base := w3.heap.size) w3 #[.int .i64 4, .int .i64 12] [4, 12] (Nat.le_refl _) (by simp [maxLen]) (by simp)).rd (by decide))).mono ?_
  rintro e w4 ⟨rfl, hb⟩
  have hb2 := below_step ((Below.refl _ w3).alloc (Nat.le_refl _) (.cells #[.int .i64 4, .int .i64 12] IT)) hb
  replace h1 := h1.keep hb2
  replace h2 := h2.keep hb2
  replace hB := below_step hB hb2
  clear hb hb2 h3
  have r1 := h1.rd HBD.out
  have r2 := h2.rd HLB.out
  clear h1 h2
  obtain ⟨a, c, rfl, hc⟩ := r1.elW
  obtain ⟨a', c', rfl, hc'⟩ := r2.elW
  clear r1 r2
  by_cases h0 : L.length = 0
  · rw [h0]
    have hz : (((0 : Nat) : Int) == 0) = true := by decide
    go_wp2
    go_ret
    exact ⟨rfl, hB⟩
  · obtain ⟨rfl, hbw, hmp, hm4⟩ : L = wtsL m ∧ bwB m = true ∧ 0 < m.length ∧ m.length ≤ 4 := by
      rcases wei_cases m with q | ⟨q, q2⟩
      · rw [HL.out] at q
        rw [q] at h0
        exact absurd rfl h0
      · exact ⟨by rw [← HL.out, q], q2⟩
    obtain ⟨n, hn⟩ : ∃ n, n = m.length := ⟨_, rfl⟩
    rw [wtsL_len, ← hn] at hc' h0 ⊢
    rw [← hn] at hc hmp hm4
    have HN := Lib.hid hn
    have HBW := Lib.hid hbw
    have hz : ((n : Int) == 0) = false := by simp; omega
    have hnn : ((n : Int) != (n : Int)) = false := by simp
    have hne : ((n : Int) == (n : Int)) = true := by simp
    clear hn hbw h0 hm5
    go_wp2
    go_loopw [5, 6] (fun s q wr => ∃ k : Nat, k ≤ n ∧ q = .int .i64 k ∧ s = .int .i64 ((wtsL m).take k).sum ∧ Below w4.heap.size w4 wr) (fun _ q _ => n - (intOf q).toNat)
    case atStart => exact ⟨0, Nat.zero_le _, rfl, rfl, Below.refl _ _⟩
    case round =>
      obtain ⟨k, hk, rfl, rfl, hBr⟩ := hrel
      by_cases hlt : k < n
      · have hltI : (k : Int) < (n : Int) := by omega
        have HC := Lib.hid hc
        have HC' := Lib.hid hc'
        obtain ⟨b, o, hab, d0⟩ := hc k hlt
        obtain ⟨b', o', hab', d1⟩ := hc' k hlt
        subst hab hab'
        have g0 := cell_keep hBr (World.block_lt_of_cell? w4 _ d0) d0
        have m0 := cell_keep hBr (World.block_lt_of_cell? w4 _ d1) d1
        obtain ⟨x, hx⟩ : ∃ x, m.getD k 0 = x := ⟨_, rfl⟩
        obtain ⟨y, hy⟩ : ∃ y, (wtsL m).getD k 0 = y := ⟨_, rfl⟩
        have hyb := wts_at HBW.out (i := k) (by rw [← HN.out]; exact hlt)
        have hsb := wts_sums HBW.out k (by rw [← HN.out]; omega)
        rw [hy] at m0 hyb
        rw [hx] at g0
        have HX := Lib.hid hx
        have HY := Lib.hid hy
        have HG1 := Lib.hid (And.intro (World.block_lt_of_cell? w4 _ d0) (hx ▸ d0))
        have HM1 := Lib.hid (And.intro (World.block_lt_of_cell? w4 _ d1) (hy ▸ d1))
        clear hx hy hc hc' d0 d1
        obtain ⟨s, hs⟩ : ∃ s, ((wtsL m).take k).sum = s := ⟨_, rfl⟩
        rw [hs] at hsb ⊢
        have HS : Hid (((wtsL m).take (k + 1)).sum = s + y) := Lib.hid (by rw [sum_take (by rw [wtsL_len, ← HN.out]; exact hlt), hs, HY.out])
        have hw1 : IntKind.i64.wrap (s + y) = s + y := wrap64_in _ (by omega) (by omega)
        have hy1 : ¬ y < 1 := by omega
        have hy16 : ¬ 16 < y := by omega
        clear hs
        go_wp2
        go_loopw [7] (fun q wq => ∃ j : Nat, j ≤ n ∧ q = .int .i64 j ∧ Below w4.heap.size w4 wq) (fun q _ => n - (intOf q).toNat)
        case atStart => exact ⟨0, Nat.zero_le _, rfl, hBr⟩
        case round =>
          obtain ⟨j, hj, rfl, hBq⟩ := hrel
          by_cases hjt : j < n
          · have hjtI : (j : Int) < (n : Int) := by omega
            obtain ⟨b2, o2, hab, d0⟩ := HC.out j hjt
            obtain ⟨b3, o3, hab', d1⟩ := HC'.out j hjt
            obtain ⟨rfl, rfl⟩ : b = b2 ∧ o = o2 := by simpa using hab
            obtain ⟨rfl, rfl⟩ : b' = b3 ∧ o' = o3 := by simpa using hab'
            have p0 := cell_keep hBq (World.block_lt_of_cell? w4 _ d0) d0
            have q0 := cell_keep hBq (World.block_lt_of_cell? w4 _ d1) d1
            obtain ⟨x2, hx2⟩ : ∃ x, m.getD j 0 = x := ⟨_, rfl⟩
            obtain ⟨y2, hy2⟩ : ∃ y, (wtsL m).getD j 0 = y := ⟨_, rfl⟩
            rw [hx2] at p0
            rw [hy2] at q0
            have hmono : x2 < x → ¬ y < y2 := by
              intro q
              have := wts_mono HBW.out (i := k) (k := j) (by rw [← HN.out]; exact hlt) (by rw [← HN.out]; exact hjt) (by rw [HX.out, hx2]; exact q)
              rwa [HY.out, hy2] at this
            have HM := Lib.hid hmono
            clear hab hab' d0 d1 hx2 hy2 hmono g0 m0
            have g0 := cell_keep hBq HG1.out.1 HG1.out.2
            have m0 := cell_keep hBq HM1.out.1 HM1.out.2
            by_cases hgt : x2 < x
            · have hnl : ¬ y < y2 := HM.out hgt
              go_wp2_with fail
              have D1 : decide (x2 < x) = true := decide_eq_true (by omega)
              have D2 : decide (y < y2) = false := decide_eq_false (by omega)
              refine wp_region_class (C := Over (wr)) (by kernel_rfl) (by kernel_rfl) (over_drew _) ?_
              repeat (first | go_big_quiet_skip | (go_big_quiet_want; go_big_quiet_op; (try simp only [D1, D2]); go_big_quiet_on) | (go_big_quiet_want; apply Exists.intro; refine ⟨fun w' hC => ?_, ?_⟩; (have k0 := over_cell hC (World.block_lt_of_cell? _ _ g0) g0; have k1 := over_cell hC (World.block_lt_of_cell? _ _ m0) m0; have k2 := over_cell hC (World.block_lt_of_cell? _ _ p0) p0; have k3 := over_cell hC (World.block_lt_of_cell? _ _ q0) q0; simp [Oper.quietAt, Oper.quietUpon, go_sem, k0, k1, k2, k3, hltI, hlt, hjtI, hjt]; first | done | rfl); go_big_quiet_on; simp only [Act.put, List.setIfInBounds_toArray, List.set_cons_zero, List.set_cons_succ]))
              refine wpQuiet_nil ?_
              intro ws hC
              have k0 := over_cell hC (World.block_lt_of_cell? _ _ g0) g0
              have k1 := over_cell hC (World.block_lt_of_cell? _ _ m0) m0
              have k2 := over_cell hC (World.block_lt_of_cell? _ _ p0) p0
              have k3 := over_cell hC (World.block_lt_of_cell? _ _ q0) q0
              go_wp2
              go_roundw
              case rel => exact ⟨j + 1, by omega, by go_num, below_step hBq hC⟩
              case measure => simp [intOf]; omega
            · go_wp2_with fail
              have D1 : decide (x2 < x) = false := decide_eq_false (by omega)
              refine wp_region_class (C := Over (wr)) (by kernel_rfl) (by kernel_rfl) (over_drew _) ?_
              repeat (first | go_big_quiet_skip | (go_big_quiet_want; go_big_quiet_op; (try simp only [D1]); go_big_quiet_on) | (go_big_quiet_want; apply Exists.intro; refine ⟨fun w' hC => ?_, ?_⟩; (have k0 := over_cell hC (World.block_lt_of_cell? _ _ g0) g0; have k1 := over_cell hC (World.block_lt_of_cell? _ _ m0) m0; have k2 := over_cell hC (World.block_lt_of_cell? _ _ p0) p0; have k3 := over_cell hC (World.block_lt_of_cell? _ _ q0) q0; simp [Oper.quietAt, Oper.quietUpon, go_sem, k0, k1, k2, k3, hltI, hlt, hjtI, hjt]; first | done | rfl); go_big_quiet_on; simp only [Act.put, List.setIfInBounds_toArray, List.set_cons_zero, List.set_cons_succ]))
              refine wpQuiet_nil ?_
              intro ws hC
              have k0 := over_cell hC (World.block_lt_of_cell? _ _ g0) g0
              have k1 := over_cell hC (World.block_lt_of_cell? _ _ m0) m0
              have k2 := over_cell hC (World.block_lt_of_cell? _ _ p0) p0
              have k3 := over_cell hC (World.block_lt_of_cell? _ _ q0) q0
              go_wp2
              go_roundw
              case rel => exact ⟨j + 1, by omega, by go_num, below_step hBq hC⟩
              case measure => simp [intOf]; omega
          · have hjtI : ¬ (j : Int) < (n : Int) := by omega
            clear g0 m0
            go_wp2
            go_roundw
            case rel => exact ⟨k + 1, by omega, by go_num, by rw [HS.out], hBq⟩
            case measure => simp [intOf]; omega
      · have hltI : ¬ (k : Int) < (n : Int) := by omega
        have hkn : k = n := by omega
        have hs1 : ((wtsL m).take k).sum = (wtsL m).sum := by rw [List.take_of_length_le (by rw [wtsL_len, hkn, HN.out]; exact Nat.le_refl _)]
        have hs2 := wts_sum HBW.out (by rw [← HN.out]; exact hmp)
        have hs3 := wts_sums HBW.out k (by rw [hkn, HN.out]; exact Nat.le_refl _)
        rw [hs1] at hs3 ⊢
        rw [← HN.out] at hs2
        obtain ⟨s, hs⟩ : ∃ s, (wtsL m).sum = s := ⟨_, rfl⟩
        rw [hs] at hs2 hs3 ⊢
        have hw1 : IntKind.i64.wrap (16 + (n : Int)) = 16 + (n : Int) := wrap64_in _ (by omega) (by omega)
        clear hs hs1 hc hc'
        go_wp2
        go_ret
        exact ⟨rfl, below_step hB hBr⟩

set_option maxRecDepth 100000 in
theorem lifted (os : Os) (started : os.Started) (H : Type) (enc : TypeId × Value → H) :
    ReturnsInHanded {} Try.checked os 6 .any (Rows.fnWeightsSpec.pre6 enc Try.prog Try.f6 Rows.fnWeightsRow.domain false) (Rows.fnWeightsSpec.post enc Try.prog Try.f6 false true false false) := by
  refine returnsInHanded_of_change (C := Try.checked) own started (by kernel_rfl) Try.func6
    (ChangeSpec.witness6 (enc := enc) (C := Try.checked) false ⟨#[], #[.slice none 0 0], []⟩ 8 (by kernel_rfl) (by kernel_rfl) (by kernel_rfl) (by kernel_rfl)) ?_
  intro W base args ds gs before hval0 hW hcnd _
  have hval : ∀ (j : Nat) t v, Try.f6.params[j]? = some t → args[j]? = some v → Value.okWide Try.prog W .any base t v := hval0
  have hW' := hW
  obtain ⟨p, q, hA0, hV, rfl, hfz, hnd⟩ := hW
  have hA : DataW.TrodAll enc Try.prog W 0 (fun _ => true) true Try.f6.params.toList args.toList ds p := hA0
  rw [Try.params6] at hA hval
  obtain ⟨v0, vs0, d0, ds0, p0, q0, hargs, rfl, rfl, h0, r0⟩ := trodAll_cons hA
  obtain ⟨rfl, rfl, rfl⟩ := trodAll_nil r0
  obtain rfl : args = #[v0] := by cases args; simp_all
  obtain ⟨rfl, rfl⟩ := trodVars_none hV
  have lt0 : ∀ x ∈ p0, x.block < W.heap.size := by obtain ⟨m, hm⟩ := h0; exact DataW.trod_lt m _ _ _ hm
  have w0 := is_bytes (hval 0 52 v0 rfl rfl) h0
  clear hA0 hval0 hval
  refine (walk W v0 w0).mono fun e W' ⟨he, bel⟩ => ?_
  subst he
  exact ⟨_, rfl, _, _, _, [], _, [], hW', trodAll_mk1 (shut_bool Try.underlying4 _), (trodAll_cons_mk (Below.trod laidOut (by kernel_rfl) (of_decide_eq_true (by kernel_rfl)) h0 bel lt0) trodAll_mk0), rfl, bel.frame _, fun h => by cases h⟩

theorem over : Rows.fnWeightsRow.holds Try.pinned (OpenSpec.ofChange Rows.fnWeightsSpec) :=
  OpenClaim.holds_of_wide 6 Try.f6 rfl rfl rfl rfl rfl rfl rfl ⟨rfl, rfl, rfl, rfl, rfl⟩ rfl rfl rfl rfl rfl (by kernel_rfl) Try.func6 (by kernel_rfl)
    (of_decide_eq_true (by kernel_rfl)) (by unfold Func.isWrapper; first | (rw [if_pos (by decide +kernel)]; kernel_rfl) | (rw [if_neg (by decide +kernel)]; exact ⟨rfl, rfl⟩))
    (fun os started H enc _ => lifted os started H enc)

theorem proved : Rows.FnWeightsSaid := over
end Go.Proofs.Ytgelmpojbaiddaa.fnWeights
