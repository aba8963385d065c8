/-
  groupCmp; the place of a group in an ascending row: the library's BinarySearchFunc. Conditions: those in each contract.
-/
import Derived.Test.YtbcmoofpgffbhaaTA
namespace Go.Proofs.Ytbcmoofpgffbhaa
open Go.ChangeShapes Go.WideShapes Go.ChangeAt Go.RowKit Go.BigFrame Go.Joins
set_option linter.unusedVariables false
set_option maxRecDepth 100000
set_option linter.unusedSimpArgs false
set_option maxRecDepth 100000

theorem igcmp_t {u v : Value} {a n b m r : Int} (w : World) (H : Hid (pcmp a n b m = r)) :
    Calls Try.prog 106 #[.agg #[.int .i64 a, .int .i64 n, u], .agg #[.int .i64 b, .int .i64 m, v]] w fun e w' => e = .returned (.int .i64 r) ∧ Below w.heap.size w w' := by
  obtain ⟨bA, bB, B0, z⟩ := two w [.int .i64 a, .int .i64 n, u] [.int .i64 b, .int .i64 m, v] GI GI
  have a0 := bA.c 0 rfl
  have a1 := bA.c 1 rfl
  have b0 := bB.c 0 rfl
  have b1 := bB.c 1 rfl
  go_enter Try.func106, Try.ntmps106
  go_wp2_with fail
  refine (icmp_t _ H).mono ?_
  rintro e w1 ⟨rfl, hb⟩
  replace B0 := below_step B0 hb
  clear z hb a0 a1 b0 b1 bA bB
  go_wp2
  go_ret
  exact ⟨rfl, B0⟩
/-- what the search says of the place it finds -/
def AtG (L : List Grp) (a n : Int) (i : Nat) (f : Bool) : Prop :=
  i ≤ L.length ∧ (∀ j, j + 1 = i → cmp2 (L.getD j gr0).a (L.getD j gr0).n a n < 0) ∧ (i < L.length → 0 ≤ cmp2 (L.getD i gr0).a (L.getD i gr0).n a n ∧ (f = true ↔ cmp2 (L.getD i gr0).a (L.getD i gr0).n a n = 0)) ∧ (¬ i < L.length → f = false)
def SeaG (L : List Grp) (a n : Int) (w : World) (e : Ending) (w' : World) : Prop := ∃ (i : Nat) (f : Bool), e = .returned (.tuple #[.int .i64 (i : Nat), .bool f]) ∧ AtG L a n i f ∧ Below w.heap.size w w'
set_option maxHeartbeats 2000000 in
theorem ibsG_any (v zu : Value) (L : List Grp) (a n : Int) (w : World) (h : RdYS w v L) (hn1 : L.length ≤ 1048576)
    (hP : ∀ i, i < L.length → pcmp (L.getD i gr0).a (L.getD i gr0).n a n = cmp2 (L.getD i gr0).a (L.getD i gr0).n a n) :
    Calls Try.prog 151 #[v, .agg #[.int .i64 a, .int .i64 n, zu], .func (.func 106) #[] #[]] w (SeaG L a n w) := by
  obtain ⟨x, c, rfl, hEl⟩ := (h.keep (Below.refl _ _)).el
  obtain ⟨k, hk⟩ : ∃ k, k = L.length := ⟨_, rfl⟩
  rw [← hk] at hEl hn1 ⊢
  have HN := Lib.hid hk
  clear h hk
  obtain ⟨bZ, B0, hVs⟩ := one w [.int .i64 a, .int .i64 n, zu] GI
  obtain ⟨V, hV⟩ : ∃ V, V = w.alloc (.cells #[.int .i64 a, .int .i64 n, zu] GI) := ⟨_, rfl⟩
  rw [← hV] at bZ B0
  have lZ := bZ.lt
  replace hEl : ∀ i, i < k → ∃ b o, x = some ⟨b, o, none⟩ ∧ AtY V b (o + i * 3) (L.getD i gr0) := fun i hi => by
    obtain ⟨b, o, e, h⟩ := hEl i hi
    exact ⟨b, o, e, h.keep B0⟩
  clear hVs
  go_enter Try.func151, Try.ntmps151
  go_wp2
  rw [← hV]
  clear hV
  go_loopw [9, 10] (fun q1 q2 wr => ∃ lo hi : Nat, q1 = .int .i64 lo ∧ q2 = .int .i64 hi ∧ lo ≤ hi ∧ hi ≤ k ∧ (∀ j, j + 1 = lo → cmp2 (L.getD j gr0).a (L.getD j gr0).n a n < 0) ∧ (hi < k → 0 ≤ cmp2 (L.getD hi gr0).a (L.getD hi gr0).n a n) ∧ Over V wr) (fun q1 q2 _ => (intOf q2).toNat - (intOf q1).toNat)
  case atStart => exact ⟨0, k, rfl, rfl, Nat.zero_le _, Nat.le_refl _, fun j hj => by omega, fun ht => by omega, over_refl V⟩
  case round =>
    obtain ⟨lo, hi, rfl, rfl, hlh, hhn, hlo, hhi, hB⟩ := hrel
    by_cases hlt : lo < hi
    · obtain ⟨m, hmE⟩ : ∃ m, m = (lo + hi) / 2 := ⟨_, rfl⟩
      have hm : m < k := by omega
      have hmI : ((lo : Int) + (hi : Int)) / 2 = (m : Int) := by omega
      have hmn : (m : Int) < (k : Int) := by omega
      have hwm : IntKind.i64.wrap (m : Int) = (m : Int) := wrap64_in _ (by omega) (by omega)
      have hpc := hP m (by rw [← HN.out]; exact hm)
      obtain ⟨b, o, rfl, yv, hy, G0, G1, G2⟩ := hEl m hm
      obtain ⟨ya, yc, rfl⟩ := RdP.len hy
      obtain ⟨E, hE⟩ : ∃ E, L.getD m gr0 = E := ⟨_, rfl⟩
      rw [hE] at hpc G0 G1 G2 hy
      obtain ⟨r, hr⟩ : ∃ r, cmp2 E.a E.n a n = r := ⟨_, rfl⟩
      have HR : Hid (pcmp E.a E.n a n = r) := Lib.hid (hpc.trans hr)
      have g0 := over_cell hB (World.block_lt_of_cell? _ _ G0) G0
      have g1 := over_cell hB (World.block_lt_of_cell? _ _ G1) G1
      have g2 := over_cell hB (World.block_lt_of_cell? _ _ G2) G2
      have z0 := over_cell hB lZ (bZ.c 0 rfl)
      have z1 := over_cell hB lZ (bZ.c 1 rfl)
      have z2 := over_cell hB lZ (bZ.c 2 rfl)
      have HT := Lib.hid hE
      have HRR := Lib.hid hr
      have HE := Lib.hid hEl
      have HPP := Lib.hid hP
      have HLO := Lib.hid hlo
      have HHI := Lib.hid hhi
      clear hE hr hEl hP hlo hhi hpc hy G0 G1 G2
      have HM := Lib.hid hmE
      clear hmE
      by_cases hrn : r < 0
      · go_wp2_with fail
        try simp only [hmI]
        refine wp_region_class (C := Over (wr)) (by kernel_rfl) (by kernel_rfl) (over_drew _) ?_
        repeat (first | go_big_quiet_skip | (go_big_quiet_want; go_big_quiet_op; go_big_quiet_on) | (go_big_quiet_want; go_big_quiet_op; apply Exists.intro; refine ⟨fun w' hC => ?_, ?_⟩; ((first | (go_at_call 106; refine (igcmp_t _ HR).mono ?_; rintro e w1 ⟨rfl, hb1⟩; exact ⟨rfl, over_step hC hb1⟩))); go_big_quiet_on) | (go_big_quiet_want; apply Exists.intro; refine ⟨fun w' hC => ?_, ?_⟩; (have k0 := over_cell hC (World.block_lt_of_cell? _ _ g0) g0; have k1 := over_cell hC (World.block_lt_of_cell? _ _ g1) g1; have k2 := over_cell hC (World.block_lt_of_cell? _ _ g2) g2; have k3 := over_cell hC (World.block_lt_of_cell? _ _ z0) z0; have k4 := over_cell hC (World.block_lt_of_cell? _ _ z1) z1; have k5 := over_cell hC (World.block_lt_of_cell? _ _ z2) z2; simp [Oper.quietAt, Oper.quietUpon, go_sem, k0, k1, k2, k3, k4, k5, hmn, hm, hwm]; first | done | rfl); go_big_quiet_on; simp only [Act.put, List.setIfInBounds_toArray, List.set_cons_zero, List.set_cons_succ]))
        refine wpQuiet_nil ?_
        intro wr hC
        have k0 := over_cell hC (World.block_lt_of_cell? _ _ g0) g0
        have k1 := over_cell hC (World.block_lt_of_cell? _ _ g1) g1
        have k2 := over_cell hC (World.block_lt_of_cell? _ _ g2) g2
        have k3 := over_cell hC (World.block_lt_of_cell? _ _ z0) z0
        have k4 := over_cell hC (World.block_lt_of_cell? _ _ z1) z1
        have k5 := over_cell hC (World.block_lt_of_cell? _ _ z2) z2
        go_wp2
        go_roundw
        case rel =>
          have hmE := HM.out
          refine ⟨m + 1, hi, by go_num, rfl, by omega, hhn, fun j hj => ?_, HHI.out, below_step hB hC⟩
          obtain rfl : j = m := (by omega)
          rw [HT.out, HRR.out]
          exact hrn
        case measure => have hmE := HM.out; simp [intOf]; omega
      · go_wp2_with fail
        try simp only [hmI]
        refine wp_region_class (C := Over (wr)) (by kernel_rfl) (by kernel_rfl) (over_drew _) ?_
        repeat (first | go_big_quiet_skip | (go_big_quiet_want; go_big_quiet_op; go_big_quiet_on) | (go_big_quiet_want; go_big_quiet_op; apply Exists.intro; refine ⟨fun w' hC => ?_, ?_⟩; ((first | (go_at_call 106; refine (igcmp_t _ HR).mono ?_; rintro e w1 ⟨rfl, hb1⟩; exact ⟨rfl, over_step hC hb1⟩))); go_big_quiet_on) | (go_big_quiet_want; apply Exists.intro; refine ⟨fun w' hC => ?_, ?_⟩; (have k0 := over_cell hC (World.block_lt_of_cell? _ _ g0) g0; have k1 := over_cell hC (World.block_lt_of_cell? _ _ g1) g1; have k2 := over_cell hC (World.block_lt_of_cell? _ _ g2) g2; have k3 := over_cell hC (World.block_lt_of_cell? _ _ z0) z0; have k4 := over_cell hC (World.block_lt_of_cell? _ _ z1) z1; have k5 := over_cell hC (World.block_lt_of_cell? _ _ z2) z2; simp [Oper.quietAt, Oper.quietUpon, go_sem, k0, k1, k2, k3, k4, k5, hmn, hm, hwm]; first | done | rfl); go_big_quiet_on; simp only [Act.put, List.setIfInBounds_toArray, List.set_cons_zero, List.set_cons_succ]))
        refine wpQuiet_nil ?_
        intro wr hC
        have k0 := over_cell hC (World.block_lt_of_cell? _ _ g0) g0
        have k1 := over_cell hC (World.block_lt_of_cell? _ _ g1) g1
        have k2 := over_cell hC (World.block_lt_of_cell? _ _ g2) g2
        have k3 := over_cell hC (World.block_lt_of_cell? _ _ z0) z0
        have k4 := over_cell hC (World.block_lt_of_cell? _ _ z1) z1
        have k5 := over_cell hC (World.block_lt_of_cell? _ _ z2) z2
        go_wp2
        go_roundw
        case rel =>
          have hmE := HM.out
          refine ⟨lo, m, rfl, rfl, by omega, by omega, HLO.out, fun ht => ?_, below_step hB hC⟩
          rw [HT.out, HRR.out]
          omega
        case measure => have hmE := HM.out; simp [intOf]; omega
    · obtain rfl : hi = lo := (by omega)
      by_cases hin : hi < k
      · have hpc := hP hi (by rw [← HN.out]; exact hin)
        obtain ⟨b, o, rfl, yv, hy, G0, G1, G2⟩ := hEl hi hin
        obtain ⟨ya, yc, rfl⟩ := RdP.len hy
        obtain ⟨E, hE⟩ : ∃ E, L.getD hi gr0 = E := ⟨_, rfl⟩
        rw [hE] at hpc G0 G1 G2 hy
        obtain ⟨r, hr⟩ : ∃ r, cmp2 E.a E.n a n = r := ⟨_, rfl⟩
        have HR : Hid (pcmp E.a E.n a n = r) := Lib.hid (hpc.trans hr)
        have g0 := over_cell hB (World.block_lt_of_cell? _ _ G0) G0
        have g1 := over_cell hB (World.block_lt_of_cell? _ _ G1) G1
        have g2 := over_cell hB (World.block_lt_of_cell? _ _ G2) G2
        have z0 := over_cell hB lZ (bZ.c 0 rfl)
        have z1 := over_cell hB lZ (bZ.c 1 rfl)
        have z2 := over_cell hB lZ (bZ.c 2 rfl)
        have HT := Lib.hid hE
        have HRR := Lib.hid hr
        have HE := Lib.hid hEl
        have HPP := Lib.hid hP
        have HLO := Lib.hid hlo
        have HHI := Lib.hid hhi
        clear hE hr hEl hP hlo hhi hpc hy G0 G1 G2
        have hinI : (hi : Int) < (k : Int) := by omega
        have hwi : IntKind.i64.wrap (hi : Int) = (hi : Int) := wrap64_in _ (by omega) (by omega)
        by_cases hrz : r = 0
        · subst hrz
          go_wp2_with fail
          refine wp_region_class (C := Over (wr)) (by kernel_rfl) (by kernel_rfl) (over_drew _) ?_
          repeat (first | go_big_quiet_skip | (go_big_quiet_want; go_big_quiet_op; go_big_quiet_on) | (go_big_quiet_want; go_big_quiet_op; apply Exists.intro; refine ⟨fun w' hC => ?_, ?_⟩; ((first | (go_at_call 106; refine (igcmp_t _ HR).mono ?_; rintro e w1 ⟨rfl, hb1⟩; exact ⟨rfl, over_step hC hb1⟩))); go_big_quiet_on) | (go_big_quiet_want; apply Exists.intro; refine ⟨fun w' hC => ?_, ?_⟩; (have k0 := over_cell hC (World.block_lt_of_cell? _ _ g0) g0; have k1 := over_cell hC (World.block_lt_of_cell? _ _ g1) g1; have k2 := over_cell hC (World.block_lt_of_cell? _ _ g2) g2; have k3 := over_cell hC (World.block_lt_of_cell? _ _ z0) z0; have k4 := over_cell hC (World.block_lt_of_cell? _ _ z1) z1; have k5 := over_cell hC (World.block_lt_of_cell? _ _ z2) z2; simp [Oper.quietAt, Oper.quietUpon, go_sem, k0, k1, k2, k3, k4, k5, hin, hinI, hwi]; first | done | rfl); go_big_quiet_on; simp only [Act.put, List.setIfInBounds_toArray, List.set_cons_zero, List.set_cons_succ]))
          refine wpQuiet_nil ?_
          intro wr hC
          have k0 := over_cell hC (World.block_lt_of_cell? _ _ g0) g0
          have k1 := over_cell hC (World.block_lt_of_cell? _ _ g1) g1
          have k2 := over_cell hC (World.block_lt_of_cell? _ _ g2) g2
          have k3 := over_cell hC (World.block_lt_of_cell? _ _ z0) z0
          have k4 := over_cell hC (World.block_lt_of_cell? _ _ z1) z1
          have k5 := over_cell hC (World.block_lt_of_cell? _ _ z2) z2
          go_wp2
          go_ret2
          refine ⟨hi, true, rfl, ⟨by rw [← HN.out]; omega, HLO.out, fun _ => ⟨HHI.out hin, ?_⟩, fun hno => absurd (by rw [← HN.out]; exact hin) hno⟩, below_step B0 (below_step hB hC)⟩
          rw [HT.out, HRR.out]
          simp
        · go_wp2_with fail
          refine wp_region_class (C := Over (wr)) (by kernel_rfl) (by kernel_rfl) (over_drew _) ?_
          repeat (first | go_big_quiet_skip | (go_big_quiet_want; go_big_quiet_op; go_big_quiet_on) | (go_big_quiet_want; go_big_quiet_op; apply Exists.intro; refine ⟨fun w' hC => ?_, ?_⟩; ((first | (go_at_call 106; refine (igcmp_t _ HR).mono ?_; rintro e w1 ⟨rfl, hb1⟩; exact ⟨rfl, over_step hC hb1⟩))); go_big_quiet_on) | (go_big_quiet_want; apply Exists.intro; refine ⟨fun w' hC => ?_, ?_⟩; (have k0 := over_cell hC (World.block_lt_of_cell? _ _ g0) g0; have k1 := over_cell hC (World.block_lt_of_cell? _ _ g1) g1; have k2 := over_cell hC (World.block_lt_of_cell? _ _ g2) g2; have k3 := over_cell hC (World.block_lt_of_cell? _ _ z0) z0; have k4 := over_cell hC (World.block_lt_of_cell? _ _ z1) z1; have k5 := over_cell hC (World.block_lt_of_cell? _ _ z2) z2; simp [Oper.quietAt, Oper.quietUpon, go_sem, k0, k1, k2, k3, k4, k5, hin, hinI, hwi, hrz]; first | done | rfl); go_big_quiet_on; simp only [Act.put, List.setIfInBounds_toArray, List.set_cons_zero, List.set_cons_succ]))
          refine wpQuiet_nil ?_
          intro wr hC
          have k0 := over_cell hC (World.block_lt_of_cell? _ _ g0) g0
          have k1 := over_cell hC (World.block_lt_of_cell? _ _ g1) g1
          have k2 := over_cell hC (World.block_lt_of_cell? _ _ g2) g2
          have k3 := over_cell hC (World.block_lt_of_cell? _ _ z0) z0
          have k4 := over_cell hC (World.block_lt_of_cell? _ _ z1) z1
          have k5 := over_cell hC (World.block_lt_of_cell? _ _ z2) z2
          go_wp2
          go_ret2
          refine ⟨hi, (r == 0), rfl, ⟨by rw [← HN.out]; omega, HLO.out, fun _ => ⟨HHI.out hin, ?_⟩, fun hno => absurd (by rw [← HN.out]; exact hin) hno⟩, below_step B0 (below_step hB hC)⟩
          rw [HT.out, HRR.out]
          simp
      · obtain rfl : hi = k := (by omega)
        have z0 := over_cell hB lZ (bZ.c 0 rfl)
        go_wp2_with fail
        refine wp_region_class (C := Over (wr)) (by kernel_rfl) (by kernel_rfl) (over_drew _) ?_
        repeat (first | go_big_quiet_skip | (go_big_quiet_want; go_big_quiet_op; (try simp only [Int.lt_irrefl]); go_big_quiet_on) | (go_big_quiet_want; apply Exists.intro; refine ⟨fun w' hC => ?_, ?_⟩; (have k0 := over_cell hC (World.block_lt_of_cell? _ _ z0) z0; simp [Oper.quietAt, Oper.quietUpon, go_sem, k0, Int.lt_irrefl]; first | done | rfl); go_big_quiet_on; simp only [Act.put, List.setIfInBounds_toArray, List.set_cons_zero, List.set_cons_succ]))
        refine wpQuiet_nil ?_
        intro wr hC
        have k0 := over_cell hC (World.block_lt_of_cell? _ _ z0) z0
        go_wp2
        go_ret2
        exact ⟨hi, false, rfl, ⟨Nat.le_of_eq HN.out, hlo, fun ht => absurd (Nat.lt_of_lt_of_eq ht HN.out.symm) (Nat.lt_irrefl _), fun _ => rfl⟩, below_step B0 (below_step hB hC)⟩
end Go.Proofs.Ytbcmoofpgffbhaa
