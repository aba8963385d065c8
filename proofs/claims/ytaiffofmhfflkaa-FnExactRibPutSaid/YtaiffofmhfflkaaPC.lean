/-
  The place of an entry in an ascending row: the library's BinarySearchFunc with the comparison of entries. Conditions: those in each contract.
-/
import Derived.Test.YtaiffofmhfflkaaEH
import Derived.Test.YtaiffofmhfflkaaF3
namespace Go.Proofs.Ytaiffofmhfflkaa
open Go.ChangeShapes Go.WideShapes Go.ChangeAt Go.RowKit Go.BigFrame Go.Joins
set_option linter.unusedVariables false
set_option maxRecDepth 100000
set_option linter.unusedSimpArgs false
set_option maxRecDepth 100000

/-- what the search says of the place it finds -/
def AtE (T : List ET) (Z : Ent) (i : Nat) (f : Bool) : Prop :=
  i ≤ T.length ∧ (∀ j t, j + 1 = i → T[j]? = some t → ecmp t.E.a t.E.n t.E.pe Z.a Z.n Z.pe < 0) ∧ (∀ t, T[i]? = some t → 0 ≤ ecmp t.E.a t.E.n t.E.pe Z.a Z.n Z.pe ∧ (f = true ↔ ecmp t.E.a t.E.n t.E.pe Z.a Z.n Z.pe = 0)) ∧ (T[i]? = none → f = false)
def SeaE (T : List ET) (Z : Ent) (w : World) (e : Ending) (w' : World) : Prop := ∃ (i : Nat) (f : Bool), e = .returned (.tuple #[.int .i64 (i : Nat), .bool f]) ∧ AtE T Z i f ∧ Below w.heap.size w w'
theorem elK {w V : World} {a : Option Addr} {i : Nat} {t : ET} (B0 : Below w.heap.size w V) (h : ∃ g, a = some ⟨g, 0, none⟩ ∧ w.cell? ⟨g, i * 7, none⟩ = some (.int .i64 t.E.a) ∧ w.cell? ⟨g, i * 7 + 1, none⟩ = some (.int .i64 t.E.n) ∧ w.cell? ⟨g, i * 7 + 2, none⟩ = some (.int .i64 t.E.pe) ∧ w.cell? ⟨g, i * 7 + 3, none⟩ = some t.u ∧ w.cell? ⟨g, i * 7 + 4, none⟩ = some (.int .i64 t.E.pr) ∧ w.cell? ⟨g, i * 7 + 5, none⟩ = some t.v ∧ w.cell? ⟨g, i * 7 + 6, none⟩ = some (.int .i64 t.E.bw)) :
    ∃ g, a = some ⟨g, 0, none⟩ ∧ V.cell? ⟨g, i * 7, none⟩ = some (.int .i64 t.E.a) ∧ V.cell? ⟨g, i * 7 + 1, none⟩ = some (.int .i64 t.E.n) ∧ V.cell? ⟨g, i * 7 + 2, none⟩ = some (.int .i64 t.E.pe) ∧ V.cell? ⟨g, i * 7 + 3, none⟩ = some t.u ∧ V.cell? ⟨g, i * 7 + 4, none⟩ = some (.int .i64 t.E.pr) ∧ V.cell? ⟨g, i * 7 + 5, none⟩ = some t.v ∧ V.cell? ⟨g, i * 7 + 6, none⟩ = some (.int .i64 t.E.bw) := by
  obtain ⟨g, e, h0, h1, h2, h3, h4, h5, h6⟩ := h
  exact ⟨g, e, cell_keep B0 (World.block_lt_of_cell? _ _ h0) h0, cell_keep B0 (World.block_lt_of_cell? _ _ h1) h1, cell_keep B0 (World.block_lt_of_cell? _ _ h2) h2, cell_keep B0 (World.block_lt_of_cell? _ _ h3) h3, cell_keep B0 (World.block_lt_of_cell? _ _ h4) h4, cell_keep B0 (World.block_lt_of_cell? _ _ h5) h5, cell_keep B0 (World.block_lt_of_cell? _ _ h6) h6⟩
set_option maxHeartbeats 2000000 in
theorem ibs_any (v zu zv : Value) (T : List ET) (Z : Ent) (base : Nat) (w : World) (h : w.ownsRow base EI 7 v T.length (flatT T)) (hl : ∀ t ∈ T, (∃ a c, t.u = .slice a t.E.p.length c) ∧ ∃ a c, t.v = .slice a t.E.c.length c) (hn1 : T.length ≤ 1048576)
    (hP : ∀ t ∈ T, pcmp t.E.a t.E.n Z.a Z.n = cmp2 t.E.a t.E.n Z.a Z.n) :
    Calls Try.prog 99 #[v, .agg #[.int .i64 Z.a, .int .i64 Z.n, .int .i64 Z.pe, zu, .int .i64 Z.pr, zv, .int .i64 Z.bw], .func (.func 88) #[] #[]] w (SeaE T Z w) := by
  obtain ⟨a, c, rfl⟩ := row_slice h
  obtain ⟨n, hn⟩ : ∃ n, n = T.length := ⟨_, rfl⟩
  rw [← hn] at h hn1 ⊢
  have hEl := rowEl h hn.symm
  have HN := Lib.hid hn
  clear h hn
  obtain ⟨bZ, B0, hVs⟩ := one w [.int .i64 Z.a, .int .i64 Z.n, .int .i64 Z.pe, zu, .int .i64 Z.pr, zv, .int .i64 Z.bw] EI
  obtain ⟨V, hV⟩ : ∃ V, V = w.alloc (.cells #[.int .i64 Z.a, .int .i64 Z.n, .int .i64 Z.pe, zu, .int .i64 Z.pr, zv, .int .i64 Z.bw] EI) := ⟨_, rfl⟩
  rw [← hV] at bZ B0
  have lZ := bZ.lt
  replace hEl := fun i hi t ht => elK B0 (hEl i hi t ht)
  clear hVs
  go_enter Try.func99, Try.ntmps99
  go_wp2
  rw [← hV]
  clear hV
  go_loopw [9, 10] (fun q1 q2 wr => ∃ lo hi : Nat, q1 = .int .i64 lo ∧ q2 = .int .i64 hi ∧ lo ≤ hi ∧ hi ≤ n ∧ (∀ j t, j + 1 = lo → T[j]? = some t → ecmp t.E.a t.E.n t.E.pe Z.a Z.n Z.pe < 0) ∧ (∀ t, T[hi]? = some t → 0 ≤ ecmp t.E.a t.E.n t.E.pe Z.a Z.n Z.pe) ∧ Over V wr) (fun q1 q2 _ => (intOf q2).toNat - (intOf q1).toNat)
  case atStart => exact ⟨0, n, rfl, rfl, Nat.zero_le _, Nat.le_refl _, fun j t hj => by omega, fun t ht => (by rw [HN.out, List.getElem?_eq_none (Nat.le_refl _)] at ht; cases ht), over_refl V⟩
  case round =>
    obtain ⟨lo, hi, rfl, rfl, hlh, hhn, hlo, hhi, hB⟩ := hrel
    by_cases hlt : lo < hi
    · obtain ⟨m, hmE⟩ : ∃ m, m = (lo + hi) / 2 := ⟨_, rfl⟩
      have hm : m < n := by omega
      have hmI : ((lo : Int) + (hi : Int)) / 2 = (m : Int) := by omega
      have hmn : (m : Int) < (n : Int) := by omega
      have hwm : IntKind.i64.wrap (m : Int) = (m : Int) := wrap64_in _ (by omega) (by omega)
      obtain ⟨t, ht⟩ : ∃ t, T[m]? = some t := ⟨T[m]'(by rw [← HN.out]; exact hm), List.getElem?_eq_getElem _⟩
      obtain ⟨g, rfl, G0, G1, G2, G3, G4, G5, G6⟩ := hEl (m) hm t ht
      obtain ⟨⟨pa, px, hu⟩, qa, qx, hv⟩ := hl t (List.mem_of_getElem? ht)
      obtain ⟨E, u, v⟩ := t
      dsimp only at G0 G1 G2 G3 G4 G5 G6 hu hv
      subst hu hv
      have hpc := hP _ (List.mem_of_getElem? ht)
      dsimp only at hpc
      obtain ⟨r, hr⟩ : ∃ r, ecmp E.a E.n E.pe Z.a Z.n Z.pe = r := ⟨_, rfl⟩
      have HR : Hid (pcmp E.a E.n Z.a Z.n = cmp2 E.a E.n Z.a Z.n ∧ ecmp E.a E.n E.pe Z.a Z.n Z.pe = r) := Lib.hid ⟨hpc, hr⟩
      have g0 := over_cell hB (World.block_lt_of_cell? _ _ G0) G0
      have g1 := over_cell hB (World.block_lt_of_cell? _ _ G1) G1
      have g2 := over_cell hB (World.block_lt_of_cell? _ _ G2) G2
      have g3 := over_cell hB (World.block_lt_of_cell? _ _ G3) G3
      have g4 := over_cell hB (World.block_lt_of_cell? _ _ G4) G4
      have g5 := over_cell hB (World.block_lt_of_cell? _ _ G5) G5
      have g6 := over_cell hB (World.block_lt_of_cell? _ _ G6) G6
      have z0 := over_cell hB lZ (bZ.c 0 rfl)
      have z1 := over_cell hB lZ (bZ.c 1 rfl)
      have z2 := over_cell hB lZ (bZ.c 2 rfl)
      have z3 := over_cell hB lZ (bZ.c 3 rfl)
      have z4 := over_cell hB lZ (bZ.c 4 rfl)
      have z5 := over_cell hB lZ (bZ.c 5 rfl)
      have z6 := over_cell hB lZ (bZ.c 6 rfl)
      have HT := Lib.hid ht
      have HRR := Lib.hid hr
      have HL := Lib.hid hl
      have HE := Lib.hid hEl
      have HPP := Lib.hid hP
      have HLO := Lib.hid hlo
      have HHI := Lib.hid hhi
      clear ht hr hl hEl hP hlo hhi hpc G0 G1 G2 G3 G4 G5 G6
      have HM := Lib.hid hmE
      clear hmE
      by_cases hrn : r < 0
      · go_wp2_with fail
        try simp only [hmI]
        refine wp_region_class (C := Over (wr)) (by kernel_rfl) (by kernel_rfl) (over_drew _) ?_
        repeat (first | go_big_quiet_skip | (go_big_quiet_want; go_big_quiet_op; go_big_quiet_on) | (go_big_quiet_want; go_big_quiet_op; apply Exists.intro; refine ⟨fun w' hC => ?_, ?_⟩; ((first | (go_at_call 88; refine (icmp6_t _ HR).mono ?_; rintro e w1 ⟨rfl, hb1⟩; exact ⟨rfl, over_step hC hb1⟩))); go_big_quiet_on) | (go_big_quiet_want; apply Exists.intro; refine ⟨fun w' hC => ?_, ?_⟩; (have k0 := over_cell hC (World.block_lt_of_cell? _ _ g0) g0; have k1 := over_cell hC (World.block_lt_of_cell? _ _ g1) g1; have k2 := over_cell hC (World.block_lt_of_cell? _ _ g2) g2; have k3 := over_cell hC (World.block_lt_of_cell? _ _ g3) g3; have k4 := over_cell hC (World.block_lt_of_cell? _ _ g4) g4; have k5 := over_cell hC (World.block_lt_of_cell? _ _ g5) g5; have k6 := over_cell hC (World.block_lt_of_cell? _ _ g6) g6; have k7 := over_cell hC (World.block_lt_of_cell? _ _ z0) z0; have k8 := over_cell hC (World.block_lt_of_cell? _ _ z1) z1; have k9 := over_cell hC (World.block_lt_of_cell? _ _ z2) z2; have k10 := over_cell hC (World.block_lt_of_cell? _ _ z3) z3; have k11 := over_cell hC (World.block_lt_of_cell? _ _ z4) z4; have k12 := over_cell hC (World.block_lt_of_cell? _ _ z5) z5; have k13 := over_cell hC (World.block_lt_of_cell? _ _ z6) z6; simp [Oper.quietAt, Oper.quietUpon, go_sem, k0, k1, k2, k3, k4, k5, k6, k7, k8, k9, k10, k11, k12, k13, hmn, hm, hwm]; first | done | rfl); go_big_quiet_on; simp only [Act.put, List.setIfInBounds_toArray, List.set_cons_zero, List.set_cons_succ]))
        refine wpQuiet_nil ?_
        intro wr hC
        have k0 := over_cell hC (World.block_lt_of_cell? _ _ g0) g0
        have k1 := over_cell hC (World.block_lt_of_cell? _ _ g1) g1
        have k2 := over_cell hC (World.block_lt_of_cell? _ _ g2) g2
        have k3 := over_cell hC (World.block_lt_of_cell? _ _ g3) g3
        have k4 := over_cell hC (World.block_lt_of_cell? _ _ g4) g4
        have k5 := over_cell hC (World.block_lt_of_cell? _ _ g5) g5
        have k6 := over_cell hC (World.block_lt_of_cell? _ _ g6) g6
        have k7 := over_cell hC (World.block_lt_of_cell? _ _ z0) z0
        have k8 := over_cell hC (World.block_lt_of_cell? _ _ z1) z1
        have k9 := over_cell hC (World.block_lt_of_cell? _ _ z2) z2
        have k10 := over_cell hC (World.block_lt_of_cell? _ _ z3) z3
        have k11 := over_cell hC (World.block_lt_of_cell? _ _ z4) z4
        have k12 := over_cell hC (World.block_lt_of_cell? _ _ z5) z5
        have k13 := over_cell hC (World.block_lt_of_cell? _ _ z6) z6
        go_wp2
        go_roundw
        case rel =>
          have hmE := HM.out
          refine ⟨m + 1, hi, by go_num, rfl, by omega, hhn, fun j t hj ht => ?_, HHI.out, below_step hB hC⟩
          obtain rfl : j = m := (by omega)
          rw [HT.out] at ht
          injection ht with ht
          subst ht
          show ecmp E.a E.n E.pe Z.a Z.n Z.pe < 0
          rw [HRR.out]
          exact hrn
        case measure => have hmE := HM.out; simp [intOf]; omega
      · go_wp2_with fail
        try simp only [hmI]
        refine wp_region_class (C := Over (wr)) (by kernel_rfl) (by kernel_rfl) (over_drew _) ?_
        repeat (first | go_big_quiet_skip | (go_big_quiet_want; go_big_quiet_op; go_big_quiet_on) | (go_big_quiet_want; go_big_quiet_op; apply Exists.intro; refine ⟨fun w' hC => ?_, ?_⟩; ((first | (go_at_call 88; refine (icmp6_t _ HR).mono ?_; rintro e w1 ⟨rfl, hb1⟩; exact ⟨rfl, over_step hC hb1⟩))); go_big_quiet_on) | (go_big_quiet_want; apply Exists.intro; refine ⟨fun w' hC => ?_, ?_⟩; (have k0 := over_cell hC (World.block_lt_of_cell? _ _ g0) g0; have k1 := over_cell hC (World.block_lt_of_cell? _ _ g1) g1; have k2 := over_cell hC (World.block_lt_of_cell? _ _ g2) g2; have k3 := over_cell hC (World.block_lt_of_cell? _ _ g3) g3; have k4 := over_cell hC (World.block_lt_of_cell? _ _ g4) g4; have k5 := over_cell hC (World.block_lt_of_cell? _ _ g5) g5; have k6 := over_cell hC (World.block_lt_of_cell? _ _ g6) g6; have k7 := over_cell hC (World.block_lt_of_cell? _ _ z0) z0; have k8 := over_cell hC (World.block_lt_of_cell? _ _ z1) z1; have k9 := over_cell hC (World.block_lt_of_cell? _ _ z2) z2; have k10 := over_cell hC (World.block_lt_of_cell? _ _ z3) z3; have k11 := over_cell hC (World.block_lt_of_cell? _ _ z4) z4; have k12 := over_cell hC (World.block_lt_of_cell? _ _ z5) z5; have k13 := over_cell hC (World.block_lt_of_cell? _ _ z6) z6; simp [Oper.quietAt, Oper.quietUpon, go_sem, k0, k1, k2, k3, k4, k5, k6, k7, k8, k9, k10, k11, k12, k13, hmn, hm, hwm]; first | done | rfl); go_big_quiet_on; simp only [Act.put, List.setIfInBounds_toArray, List.set_cons_zero, List.set_cons_succ]))
        refine wpQuiet_nil ?_
        intro wr hC
        have k0 := over_cell hC (World.block_lt_of_cell? _ _ g0) g0
        have k1 := over_cell hC (World.block_lt_of_cell? _ _ g1) g1
        have k2 := over_cell hC (World.block_lt_of_cell? _ _ g2) g2
        have k3 := over_cell hC (World.block_lt_of_cell? _ _ g3) g3
        have k4 := over_cell hC (World.block_lt_of_cell? _ _ g4) g4
        have k5 := over_cell hC (World.block_lt_of_cell? _ _ g5) g5
        have k6 := over_cell hC (World.block_lt_of_cell? _ _ g6) g6
        have k7 := over_cell hC (World.block_lt_of_cell? _ _ z0) z0
        have k8 := over_cell hC (World.block_lt_of_cell? _ _ z1) z1
        have k9 := over_cell hC (World.block_lt_of_cell? _ _ z2) z2
        have k10 := over_cell hC (World.block_lt_of_cell? _ _ z3) z3
        have k11 := over_cell hC (World.block_lt_of_cell? _ _ z4) z4
        have k12 := over_cell hC (World.block_lt_of_cell? _ _ z5) z5
        have k13 := over_cell hC (World.block_lt_of_cell? _ _ z6) z6
        go_wp2
        go_roundw
        case rel =>
          have hmE := HM.out
          refine ⟨lo, m, rfl, rfl, by omega, by omega, HLO.out, fun t ht => ?_, below_step hB hC⟩
          rw [HT.out] at ht
          injection ht with ht
          subst ht
          show 0 ≤ ecmp E.a E.n E.pe Z.a Z.n Z.pe
          rw [HRR.out]
          omega
        case measure => have hmE := HM.out; simp [intOf]; omega
    · obtain rfl : hi = lo := (by omega)
      by_cases hin : hi < n
      · obtain ⟨t, ht⟩ : ∃ t, T[hi]? = some t := ⟨T[hi]'(by rw [← HN.out]; exact hin), List.getElem?_eq_getElem _⟩
        obtain ⟨g, rfl, G0, G1, G2, G3, G4, G5, G6⟩ := hEl (hi) hin t ht
        obtain ⟨⟨pa, px, hu⟩, qa, qx, hv⟩ := hl t (List.mem_of_getElem? ht)
        obtain ⟨E, u, v⟩ := t
        dsimp only at G0 G1 G2 G3 G4 G5 G6 hu hv
        subst hu hv
        have hpc := hP _ (List.mem_of_getElem? ht)
        dsimp only at hpc
        obtain ⟨r, hr⟩ : ∃ r, ecmp E.a E.n E.pe Z.a Z.n Z.pe = r := ⟨_, rfl⟩
        have HR : Hid (pcmp E.a E.n Z.a Z.n = cmp2 E.a E.n Z.a Z.n ∧ ecmp E.a E.n E.pe Z.a Z.n Z.pe = r) := Lib.hid ⟨hpc, hr⟩
        have g0 := over_cell hB (World.block_lt_of_cell? _ _ G0) G0
        have g1 := over_cell hB (World.block_lt_of_cell? _ _ G1) G1
        have g2 := over_cell hB (World.block_lt_of_cell? _ _ G2) G2
        have g3 := over_cell hB (World.block_lt_of_cell? _ _ G3) G3
        have g4 := over_cell hB (World.block_lt_of_cell? _ _ G4) G4
        have g5 := over_cell hB (World.block_lt_of_cell? _ _ G5) G5
        have g6 := over_cell hB (World.block_lt_of_cell? _ _ G6) G6
        have z0 := over_cell hB lZ (bZ.c 0 rfl)
        have z1 := over_cell hB lZ (bZ.c 1 rfl)
        have z2 := over_cell hB lZ (bZ.c 2 rfl)
        have z3 := over_cell hB lZ (bZ.c 3 rfl)
        have z4 := over_cell hB lZ (bZ.c 4 rfl)
        have z5 := over_cell hB lZ (bZ.c 5 rfl)
        have z6 := over_cell hB lZ (bZ.c 6 rfl)
        have HT := Lib.hid ht
        have HRR := Lib.hid hr
        have HL := Lib.hid hl
        have HE := Lib.hid hEl
        have HPP := Lib.hid hP
        have HLO := Lib.hid hlo
        have HHI := Lib.hid hhi
        clear ht hr hl hEl hP hlo hhi hpc G0 G1 G2 G3 G4 G5 G6
        have hinI : (hi : Int) < (n : Int) := by omega
        have hwi : IntKind.i64.wrap (hi : Int) = (hi : Int) := wrap64_in _ (by omega) (by omega)
        by_cases hrz : r = 0
        · subst hrz
          go_wp2_with fail
          refine wp_region_class (C := Over (wr)) (by kernel_rfl) (by kernel_rfl) (over_drew _) ?_
          repeat (first | go_big_quiet_skip | (go_big_quiet_want; go_big_quiet_op; go_big_quiet_on) | (go_big_quiet_want; go_big_quiet_op; apply Exists.intro; refine ⟨fun w' hC => ?_, ?_⟩; ((first | (go_at_call 88; refine (icmp6_t _ HR).mono ?_; rintro e w1 ⟨rfl, hb1⟩; exact ⟨rfl, over_step hC hb1⟩))); go_big_quiet_on) | (go_big_quiet_want; apply Exists.intro; refine ⟨fun w' hC => ?_, ?_⟩; (have k0 := over_cell hC (World.block_lt_of_cell? _ _ g0) g0; have k1 := over_cell hC (World.block_lt_of_cell? _ _ g1) g1; have k2 := over_cell hC (World.block_lt_of_cell? _ _ g2) g2; have k3 := over_cell hC (World.block_lt_of_cell? _ _ g3) g3; have k4 := over_cell hC (World.block_lt_of_cell? _ _ g4) g4; have k5 := over_cell hC (World.block_lt_of_cell? _ _ g5) g5; have k6 := over_cell hC (World.block_lt_of_cell? _ _ g6) g6; have k7 := over_cell hC (World.block_lt_of_cell? _ _ z0) z0; have k8 := over_cell hC (World.block_lt_of_cell? _ _ z1) z1; have k9 := over_cell hC (World.block_lt_of_cell? _ _ z2) z2; have k10 := over_cell hC (World.block_lt_of_cell? _ _ z3) z3; have k11 := over_cell hC (World.block_lt_of_cell? _ _ z4) z4; have k12 := over_cell hC (World.block_lt_of_cell? _ _ z5) z5; have k13 := over_cell hC (World.block_lt_of_cell? _ _ z6) z6; simp [Oper.quietAt, Oper.quietUpon, go_sem, k0, k1, k2, k3, k4, k5, k6, k7, k8, k9, k10, k11, k12, k13, hin, hinI, hwi]; first | done | rfl); go_big_quiet_on; simp only [Act.put, List.setIfInBounds_toArray, List.set_cons_zero, List.set_cons_succ]))
          refine wpQuiet_nil ?_
          intro wr hC
          have k0 := over_cell hC (World.block_lt_of_cell? _ _ g0) g0
          have k1 := over_cell hC (World.block_lt_of_cell? _ _ g1) g1
          have k2 := over_cell hC (World.block_lt_of_cell? _ _ g2) g2
          have k3 := over_cell hC (World.block_lt_of_cell? _ _ g3) g3
          have k4 := over_cell hC (World.block_lt_of_cell? _ _ g4) g4
          have k5 := over_cell hC (World.block_lt_of_cell? _ _ g5) g5
          have k6 := over_cell hC (World.block_lt_of_cell? _ _ g6) g6
          have k7 := over_cell hC (World.block_lt_of_cell? _ _ z0) z0
          have k8 := over_cell hC (World.block_lt_of_cell? _ _ z1) z1
          have k9 := over_cell hC (World.block_lt_of_cell? _ _ z2) z2
          have k10 := over_cell hC (World.block_lt_of_cell? _ _ z3) z3
          have k11 := over_cell hC (World.block_lt_of_cell? _ _ z4) z4
          have k12 := over_cell hC (World.block_lt_of_cell? _ _ z5) z5
          have k13 := over_cell hC (World.block_lt_of_cell? _ _ z6) z6
          go_wp2
          go_ret2
          refine ⟨hi, true, rfl, ⟨by rw [← HN.out]; omega, HLO.out, fun t ht => ?_, fun hno => ?_⟩, below_step B0 (below_step hB hC)⟩
          · rw [HT.out] at ht
            injection ht with ht
            subst ht
            refine ⟨?_, ?_⟩
            · exact HHI.out _ HT.out
            · show _ ↔ ecmp E.a E.n E.pe Z.a Z.n Z.pe = 0
              rw [HRR.out]
              simp
          · rw [HT.out] at hno
            cases hno
        · go_wp2_with fail
          refine wp_region_class (C := Over (wr)) (by kernel_rfl) (by kernel_rfl) (over_drew _) ?_
          repeat (first | go_big_quiet_skip | (go_big_quiet_want; go_big_quiet_op; go_big_quiet_on) | (go_big_quiet_want; go_big_quiet_op; apply Exists.intro; refine ⟨fun w' hC => ?_, ?_⟩; ((first | (go_at_call 88; refine (icmp6_t _ HR).mono ?_; rintro e w1 ⟨rfl, hb1⟩; exact ⟨rfl, over_step hC hb1⟩))); go_big_quiet_on) | (go_big_quiet_want; apply Exists.intro; refine ⟨fun w' hC => ?_, ?_⟩; (have k0 := over_cell hC (World.block_lt_of_cell? _ _ g0) g0; have k1 := over_cell hC (World.block_lt_of_cell? _ _ g1) g1; have k2 := over_cell hC (World.block_lt_of_cell? _ _ g2) g2; have k3 := over_cell hC (World.block_lt_of_cell? _ _ g3) g3; have k4 := over_cell hC (World.block_lt_of_cell? _ _ g4) g4; have k5 := over_cell hC (World.block_lt_of_cell? _ _ g5) g5; have k6 := over_cell hC (World.block_lt_of_cell? _ _ g6) g6; have k7 := over_cell hC (World.block_lt_of_cell? _ _ z0) z0; have k8 := over_cell hC (World.block_lt_of_cell? _ _ z1) z1; have k9 := over_cell hC (World.block_lt_of_cell? _ _ z2) z2; have k10 := over_cell hC (World.block_lt_of_cell? _ _ z3) z3; have k11 := over_cell hC (World.block_lt_of_cell? _ _ z4) z4; have k12 := over_cell hC (World.block_lt_of_cell? _ _ z5) z5; have k13 := over_cell hC (World.block_lt_of_cell? _ _ z6) z6; simp [Oper.quietAt, Oper.quietUpon, go_sem, k0, k1, k2, k3, k4, k5, k6, k7, k8, k9, k10, k11, k12, k13, hin, hinI, hwi, hrz]; first | done | rfl); go_big_quiet_on; simp only [Act.put, List.setIfInBounds_toArray, List.set_cons_zero, List.set_cons_succ]))
          refine wpQuiet_nil ?_
          intro wr hC
          have k0 := over_cell hC (World.block_lt_of_cell? _ _ g0) g0
          have k1 := over_cell hC (World.block_lt_of_cell? _ _ g1) g1
          have k2 := over_cell hC (World.block_lt_of_cell? _ _ g2) g2
          have k3 := over_cell hC (World.block_lt_of_cell? _ _ g3) g3
          have k4 := over_cell hC (World.block_lt_of_cell? _ _ g4) g4
          have k5 := over_cell hC (World.block_lt_of_cell? _ _ g5) g5
          have k6 := over_cell hC (World.block_lt_of_cell? _ _ g6) g6
          have k7 := over_cell hC (World.block_lt_of_cell? _ _ z0) z0
          have k8 := over_cell hC (World.block_lt_of_cell? _ _ z1) z1
          have k9 := over_cell hC (World.block_lt_of_cell? _ _ z2) z2
          have k10 := over_cell hC (World.block_lt_of_cell? _ _ z3) z3
          have k11 := over_cell hC (World.block_lt_of_cell? _ _ z4) z4
          have k12 := over_cell hC (World.block_lt_of_cell? _ _ z5) z5
          have k13 := over_cell hC (World.block_lt_of_cell? _ _ z6) z6
          go_wp2
          go_ret2
          refine ⟨hi, (r == 0), rfl, ⟨by rw [← HN.out]; omega, HLO.out, fun t ht => ?_, fun hno => ?_⟩, below_step B0 (below_step hB hC)⟩
          · rw [HT.out] at ht
            injection ht with ht
            subst ht
            refine ⟨?_, ?_⟩
            · exact HHI.out _ HT.out
            · show _ ↔ ecmp E.a E.n E.pe Z.a Z.n Z.pe = 0
              rw [HRR.out]
              simp
          · rw [HT.out] at hno
            cases hno
      · obtain rfl : hi = n := (by omega)
        have z0 := over_cell hB lZ (bZ.c 0 rfl)
        go_wp2_with fail
        refine wp_region_class (C := Over (wr)) (by kernel_rfl) (by kernel_rfl) (over_drew _) ?_
        repeat (first | go_big_quiet_skip | (go_big_quiet_want; go_big_quiet_op; (try simp only [Int.lt_irrefl]); go_big_quiet_on) | (go_big_quiet_want; apply Exists.intro; refine ⟨fun w' hC => ?_, ?_⟩; (have k0 := over_cell hC (World.block_lt_of_cell? _ _ z0) z0; simp [Oper.quietAt, Oper.quietUpon, go_sem, k0, Int.lt_irrefl]; first | done | rfl); go_big_quiet_on; simp only [Act.put, List.setIfInBounds_toArray, List.set_cons_zero, List.set_cons_succ]))
        refine wpQuiet_nil ?_
        intro wr hC
        have k0 := over_cell hC (World.block_lt_of_cell? _ _ z0) z0
        go_wp2
        go_ret2
        have hno : T[hi]? = none := List.getElem?_eq_none (Nat.le_of_eq HN.out.symm)
        refine ⟨hi, false, rfl, ⟨Nat.le_of_eq HN.out, hlo, fun t ht => ?_, fun _ => rfl⟩, below_step B0 (below_step hB hC)⟩
        rw [hno] at ht
        cases ht
end Go.Proofs.Ytaiffofmhfflkaa
