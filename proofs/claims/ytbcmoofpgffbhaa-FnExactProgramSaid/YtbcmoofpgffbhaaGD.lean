/-
  Tables of groups: contracts of the tests that they are valid, of the program and of the model. Conditions: those in each contract.
-/
import Derived.Test.YtbcmoofpgffbhaaGC
import Derived.Test.YtbcmoofpgffbhaaN3
namespace Go.Proofs.Ytbcmoofpgffbhaa
open Go.ChangeShapes Go.WideShapes Go.ChangeAt Go.RowKit Go.BigFrame Go.Joins
set_option linter.unusedVariables false
set_option maxRecDepth 100000
set_option linter.unusedSimpArgs false
set_option maxRecDepth 100000

/-- group i is valid -/
def okG (L : List Grp) (i : Nat) : Prop := grpB (L.getD i gr0).a (L.getD i gr0).n (L.getD i gr0).h = true
/-- it lies ahead of the next one -/
def upG (L : List Grp) (i : Nat) : Prop := cmp2 (L.getD i gr0).a (L.getD i gr0).n (L.getD (i + 1) gr0).a (L.getD (i + 1) gr0).n < 0
/-- the same, as the program asks -/
def upP (L : List Grp) (i : Nat) : Prop := pcmp (L.getD i gr0).a (L.getD i gr0).n (L.getD (i + 1) gr0).a (L.getD (i + 1) gr0).n < 0
instance (L : List Grp) (i : Nat) : Decidable (okG L i) := by unfold okG; infer_instance
instance (L : List Grp) (i : Nat) : Decidable (upG L i) := by unfold upG; infer_instance
instance (L : List Grp) (i : Nat) : Decidable (upP L i) := by unfold upP; infer_instance
def allG (L : List Grp) : Bool := decide (∀ i, i < L.length → okG L i)
def ascG (L : List Grp) : Bool := decide (∀ i, i < L.length - 1 → upG L i)
def ascP (L : List Grp) : Bool := decide (∀ i, i < L.length - 1 → upP L i)
/-- a table is valid -/
def fibB (L : List Grp) : Bool := decide ((L.length : Int) ≤ 60) && (allG L && ascG L)
theorem grpB_p {a n : Int} {l : List (Int × Int)} (h : grpB a n l = true) : pokB a n = true := by
  unfold grpB at h
  simp only [Bool.and_eq_true] at h
  exact h.1
theorem pcmp_ok {a n b m : Int} (h1 : pokB a n = true) (h2 : pokB b m = true) : pcmp a n b m = cmp2 a n b m := by
  unfold pcmp
  rw [h1, h2]
  rfl
theorem ascP_ok {L : List Grp} (h : allG L = true) : ascP L = ascG L := by
  simp only [allG, decide_eq_true_eq] at h
  rw [Bool.eq_iff_iff]
  simp only [ascP, ascG, decide_eq_true_eq]
  constructor
  · intro q i hi
    have h1 := q i hi
    unfold upP at h1
    rw [pcmp_ok (grpB_p (h i (by omega))) (grpB_p (h (i + 1) (by omega)))] at h1
    exact h1
  · intro q i hi
    unfold upP
    rw [pcmp_ok (grpB_p (h i (by omega))) (grpB_p (h (i + 1) (by omega)))]
    exact q i hi
theorem allG_no {L : List Grp} {k : Nat} {E : Grp} (hk : k < L.length) (hx : L.getD k gr0 = E) (h : grpB E.a E.n E.h = false) : allG L = false := by
  simp only [allG, decide_eq_false_iff_not]
  intro q
  have := q k hk
  unfold okG at this
  rw [hx, h] at this
  cases this
theorem allG_yes {L : List Grp} {n : Nat} (hn : n = L.length) (h : ∀ i, i < n → okG L i) : allG L = true := by
  subst hn
  simpa [allG] using h
theorem ascP_no {L : List Grp} {j : Nat} {F E : Grp} (hk : j + 1 < L.length) (hs : L.getD j gr0 = F) (hx : L.getD (j + 1) gr0 = E) (h : ¬ pcmp F.a F.n E.a E.n < 0) : ascP L = false := by
  simp only [ascP, decide_eq_false_iff_not]
  intro q
  have := q j (by omega)
  unfold upP at this
  rw [hs, hx] at this
  exact h this
theorem ascP_yes {L : List Grp} {n : Nat} (hn : n = L.length) (h : ∀ i, i + 1 < n → upP L i) : ascP L = true := by
  subst hn
  simp only [ascP, decide_eq_true_eq]
  exact fun i hi => h i (by omega)
theorem ascG_no {L : List Grp} {j : Nat} {F E : Grp} (hk : j + 1 < L.length) (hs : L.getD j gr0 = F) (hx : L.getD (j + 1) gr0 = E) (h : ¬ cmp2 F.a F.n E.a E.n < 0) : ascG L = false := by
  simp only [ascG, decide_eq_false_iff_not]
  intro q
  have := q j (by omega)
  unfold upG at this
  rw [hs, hx] at this
  exact h this
theorem ascG_yes {L : List Grp} {n : Nat} (hn : n = L.length) (h : ∀ i, i + 1 < n → upG L i) : ascG L = true := by
  subst hn
  simp only [ascG, decide_eq_true_eq]
  exact fun i hi => h i (by omega)
theorem igc_t {hv hv2 : Value} {a n b m r : Int} (w : World) (H : Hid (pcmp a n b m = r)) :
    Calls Try.prog 106 #[.agg #[.int .i64 a, .int .i64 n, hv], .agg #[.int .i64 b, .int .i64 m, hv2]] w fun e w' => e = .returned (.int .i64 r) ∧ Below w.heap.size w w' := by
  obtain ⟨bA, bB, B1, z⟩ := two w [.int .i64 a, .int .i64 n, hv] [.int .i64 b, .int .i64 m, hv2] GI GI
  clear z
  go_enter Try.func106, Try.ntmps106
  go_wp2_with fail
  refine (icmp_t _ H).mono ?_
  rintro e w1 ⟨rfl, hb⟩
  replace B1 := below_step B1 hb
  go_wp2
  go_ret
  exact ⟨rfl, B1⟩
set_option maxHeartbeats 1000000 in
theorem iascg_any (v : Value) (L : List Grp) (w : World) (h : RdG w v L) :
    Calls Try.prog 143 #[v, .func (.func 106) #[] #[]] w fun e w' => e = .returned (.bool (ascP L)) ∧ Below w.heap.size w w' := by
  obtain ⟨a, c, rfl, hc⟩ := h.el
  have hm := h.1
  obtain ⟨n, hn⟩ : ∃ n, n = L.length := ⟨_, rfl⟩
  rw [← hn] at hc hm ⊢
  have HN := Lib.hid hn
  clear h hn
  go_enter Try.func143, Try.ntmps143
  go_wp2
  go_loopw [5] (fun q wr => ∃ j : Nat, q = .int .i64 ((j : Int) + 1) ∧ (j + 1 ≤ n ∨ j = 0) ∧ (∀ i, i < j → upP L i) ∧ Below w.heap.size w wr) (fun q _ => n - (intOf q).toNat)
  case atStart => exact ⟨0, rfl, .inr rfl, fun i hi => by omega, Below.refl _ _⟩
  case round =>
    obtain ⟨j, rfl, hj, hup, hB⟩ := hrel
    have HU := Lib.hid hup
    clear hup
    by_cases hlt : j + 1 < n
    · have hltI : (j : Int) + 1 < (n : Int) := by omega
      obtain ⟨b, o, rfl, hE⟩ := hc (j + 1) hlt
      obtain ⟨E, hx⟩ : ∃ E, L.getD (j + 1) gr0 = E := ⟨_, rfl⟩
      rw [hx] at hE
      obtain ⟨hv, -, g0, g1, g2⟩ := hE.keep (hB)
      have HX := Lib.hid hx
      have HCC := Lib.hid hc
      clear hx hc hE
      obtain ⟨b', o', hbo, hE'⟩ := HCC.out j (by omega)
      obtain ⟨rfl, rfl⟩ : b = b' ∧ o = o' := by simpa using hbo
      clear hbo
      obtain ⟨F, hs⟩ : ∃ F, L.getD j gr0 = F := ⟨_, rfl⟩
      rw [hs] at hE'
      obtain ⟨hu, -, m0, m1, m2⟩ := hE'.keep (hB)
      have HS := Lib.hid hs
      clear hs hE'
      obtain ⟨r, hr⟩ : ∃ r, pcmp F.a F.n E.a E.n = r := ⟨_, rfl⟩
      have HR := Lib.hid hr
      clear hr
      have hwj : IntKind.i64.wrap (j : Int) = j := wrap64_in _ (by omega) (by omega)
      have hjI : (j : Int) < (n : Int) := by omega
      have hjN : j < n := by omega
      have hkJ : (j : Int) + 1 < (n : Int) := by omega
      have hkT : ((j : Int) + 1).toNat = j + 1 := by omega
      have hk0 : (0 : Int) ≤ (j : Int) + 1 := by omega
      clear hj
      by_cases hneg : r < 0
      · have HOK : Hid (∀ i, i < j + 1 → upP L i) := Lib.hid fun i hi => by
          by_cases e : i = j
          · unfold upP; rw [e, HS.out, HX.out, HR.out]; exact hneg
          · exact HU.out i (by omega)
        go_wp2_with fail
        refine wp_region_class (C := Over (wr)) (by kernel_rfl) (by kernel_rfl) (over_drew _) ?_
        repeat (first | go_big_quiet_skip | (go_big_quiet_want; go_big_quiet_op; go_big_quiet_on) | (go_big_quiet_want; go_big_quiet_op; apply Exists.intro; refine ⟨fun w' hC => ?_, ?_⟩; ((first | (go_at_call 106; refine (igc_t _ HR).mono ?_; rintro e w1 ⟨rfl, hb1⟩; exact ⟨rfl, over_step hC hb1⟩))); go_big_quiet_on) | (go_big_quiet_want; apply Exists.intro; refine ⟨fun w' hC => ?_, ?_⟩; (have k0 := over_cell hC (World.block_lt_of_cell? _ _ g0) g0; have k1 := over_cell hC (World.block_lt_of_cell? _ _ g1) g1; have k2 := over_cell hC (World.block_lt_of_cell? _ _ g2) g2; have k3 := over_cell hC (World.block_lt_of_cell? _ _ m0) m0; have k4 := over_cell hC (World.block_lt_of_cell? _ _ m1) m1; have k5 := over_cell hC (World.block_lt_of_cell? _ _ m2) m2; simp [Oper.quietAt, Oper.quietUpon, go_sem, k0, k1, k2, k3, k4, k5, hltI, hwj, hjI, hjN, hkJ, hkT, hk0, hlt]; first | done | rfl); go_big_quiet_on; simp only [Act.put, List.setIfInBounds_toArray, List.set_cons_zero, List.set_cons_succ]))
        refine wpQuiet_nil ?_
        intro ws hC
        have k0 := over_cell hC (World.block_lt_of_cell? _ _ g0) g0
        have k1 := over_cell hC (World.block_lt_of_cell? _ _ g1) g1
        have k2 := over_cell hC (World.block_lt_of_cell? _ _ g2) g2
        have k3 := over_cell hC (World.block_lt_of_cell? _ _ m0) m0
        have k4 := over_cell hC (World.block_lt_of_cell? _ _ m1) m1
        have k5 := over_cell hC (World.block_lt_of_cell? _ _ m2) m2
        go_wp2
        go_roundw
        case rel => exact ⟨j + 1, by go_num, by omega, HOK.out, below_step hB hC⟩
        case measure => simp [intOf]; omega
      · have HF := Lib.hid (ascP_no (by rw [← HN.out]; exact hlt) HS.out HX.out (by rw [HR.out]; exact hneg))
        go_wp2_with fail
        refine wp_region_class (C := Over (wr)) (by kernel_rfl) (by kernel_rfl) (over_drew _) ?_
        repeat (first | go_big_quiet_skip | (go_big_quiet_want; go_big_quiet_op; go_big_quiet_on) | (go_big_quiet_want; go_big_quiet_op; apply Exists.intro; refine ⟨fun w' hC => ?_, ?_⟩; ((first | (go_at_call 106; refine (igc_t _ HR).mono ?_; rintro e w1 ⟨rfl, hb1⟩; exact ⟨rfl, over_step hC hb1⟩))); go_big_quiet_on) | (go_big_quiet_want; apply Exists.intro; refine ⟨fun w' hC => ?_, ?_⟩; (have k0 := over_cell hC (World.block_lt_of_cell? _ _ g0) g0; have k1 := over_cell hC (World.block_lt_of_cell? _ _ g1) g1; have k2 := over_cell hC (World.block_lt_of_cell? _ _ g2) g2; have k3 := over_cell hC (World.block_lt_of_cell? _ _ m0) m0; have k4 := over_cell hC (World.block_lt_of_cell? _ _ m1) m1; have k5 := over_cell hC (World.block_lt_of_cell? _ _ m2) m2; simp [Oper.quietAt, Oper.quietUpon, go_sem, k0, k1, k2, k3, k4, k5, hltI, hwj, hjI, hjN, hkJ, hkT, hk0, hlt]; first | done | rfl); go_big_quiet_on; simp only [Act.put, List.setIfInBounds_toArray, List.set_cons_zero, List.set_cons_succ]))
        refine wpQuiet_nil ?_
        intro ws hC
        have k0 := over_cell hC (World.block_lt_of_cell? _ _ g0) g0
        have k1 := over_cell hC (World.block_lt_of_cell? _ _ g1) g1
        have k2 := over_cell hC (World.block_lt_of_cell? _ _ g2) g2
        have k3 := over_cell hC (World.block_lt_of_cell? _ _ m0) m0
        have k4 := over_cell hC (World.block_lt_of_cell? _ _ m1) m1
        have k5 := over_cell hC (World.block_lt_of_cell? _ _ m2) m2
        go_wp2
        go_ret
        exact ⟨ret_bool HF.out.symm, below_step hB hC⟩
    · have hltI : ¬ (j : Int) + 1 < (n : Int) := by omega
      have HF := Lib.hid (ascP_yes HN.out (fun i hi => HU.out i (by omega)))
      clear hc
      go_wp2
      go_ret
      exact ⟨ret_bool HF.out.symm, hB⟩
theorem iascg_t {v : Value} {L : List Grp} {b : Bool} (w : World) (h : RdG w v L) (H : Hid (ascP L = b)) :
    Calls Try.prog 143 #[v, .func (.func 106) #[] #[]] w fun e w' => e = .returned (.bool b) ∧ Below w.heap.size w w' := H.out ▸ iascg_any v L w h
theorem igsok_any (v : Value) (L : List Grp) (w : World) (h : RdG w v L) :
    Calls Try.prog 100 #[v] w fun e w' => e = .returned (.bool (allG L)) ∧ Below w.heap.size w w' := by
  obtain ⟨a, c, rfl, hc⟩ := h.el
  have hm := h.1
  obtain ⟨n, hn⟩ : ∃ n, n = L.length := ⟨_, rfl⟩
  rw [← hn] at hc hm ⊢
  have HN := Lib.hid hn
  clear h hn
  go_enter Try.func100, Try.ntmps100
  go_wp2
  go_loopw [7] (fun q wr => ∃ k : Nat, k ≤ n ∧ q = .int .i64 k ∧ (∀ i, i < k → okG L i) ∧ Below w.heap.size w wr) (fun q _ => n - (intOf q).toNat)
  case atStart => exact ⟨0, Nat.zero_le _, rfl, fun i hi => by omega, Below.refl _ _⟩
  case round =>
    obtain ⟨k, hk, rfl, hok, hB⟩ := hrel
    have HO := Lib.hid hok
    clear hok
    by_cases hlt : k < n
    · have hltI : (k : Int) < (n : Int) := by omega
      obtain ⟨b, o, rfl, hE⟩ := hc (k) hlt
      obtain ⟨E, hx⟩ : ∃ E, L.getD (k) gr0 = E := ⟨_, rfl⟩
      rw [hx] at hE
      obtain ⟨hv, hp, g0, g1, g2⟩ := hE.keep (hB)
      have HX := Lib.hid hx
      have HCC := Lib.hid hc
      clear hx hc hE
      obtain ⟨pa, px, rfl⟩ := hp.len
      have hB2 := hB.alloc hB.size (.cells #[.int .i64 E.a, .int .i64 E.n, .slice pa E.h.length px] GI)
      replace hp := hp.alloc (.cells #[.int .i64 E.a, .int .i64 E.n, .slice pa E.h.length px] GI)
      cases hpk : grpB E.a E.n E.h
      · have HP := Lib.hid hpk
        have HF := Lib.hid (allG_no (by rw [← HN.out]; exact hlt) HX.out hpk)
        clear hpk
        go_wp2_with fail
        refine (igrp_t _ hp HP).mono ?_
        rintro e w1 ⟨rfl, hb⟩
        have hB3 := below_step hB2 hb
        clear hb hp hB hB2 g0 g1 g2
        go_wp2
        go_ret
        exact ⟨ret_bool HF.out.symm, hB3⟩
      · have HP := Lib.hid hpk
        have HOK : Hid (∀ i, i < k + 1 → okG L i) := Lib.hid fun i hi => by
          by_cases e : i = k
          · unfold okG; rw [e, HX.out]; exact hpk
          · exact HO.out i (by omega)
        clear hpk
        go_wp2_with fail
        refine (igrp_t _ hp HP).mono ?_
        rintro e w1 ⟨rfl, hb⟩
        have hB3 := below_step hB2 hb
        clear hb hp hB hB2 g0 g1 g2
        go_wp2
        go_roundw
        case rel => exact ⟨k + 1, by omega, by go_num, HOK.out, hB3⟩
        case measure => simp [intOf]; omega
    · have hkn : k = n := by omega
      have HF := Lib.hid (allG_yes HN.out (hkn ▸ HO.out))
      rw [hkn]
      have hnI : ¬ (n : Int) < (n : Int) := by omega
      clear hc
      go_wp2
      go_ret
      exact ⟨ret_bool HF.out.symm, hB⟩
theorem igsok_t {v : Value} {L : List Grp} {b : Bool} (w : World) (h : RdG w v L) (H : Hid (allG L = b)) :
    Calls Try.prog 100 #[v] w fun e w' => e = .returned (.bool b) ∧ Below w.heap.size w w' := H.out ▸ igsok_any v L w h
theorem ifib_any (v : Value) (L : List Grp) (w : World) (h : RdG w v L) :
    Calls Try.prog 89 #[.agg #[v]] w fun e w' => e = .returned (.bool (fibB L)) ∧ Below w.heap.size w w' := by
  unfold fibB
  obtain ⟨bA, B0, z⟩ := one w [v] 57
  replace h := h.keep B0
  clear z
  obtain ⟨a, c, hv⟩ := h.len
  rw [hv] at h bA B0 ⊢
  clear hv
  obtain ⟨n, hn⟩ : ∃ n, n = L.length := ⟨_, rfl⟩
  rw [← hn] at bA B0 ⊢
  have HR : Hid (RdG (w.alloc (.cells #[.slice a n c] 57)) (.slice a n c) L) := Lib.hid (by rw [hn]; exact h)
  have HN := Lib.hid hn
  clear h hn
  by_cases hbig : (n : Int) ≤ 60
  · rw [show decide ((n : Int) ≤ 60) = true by simp [hbig], Bool.true_and]
    have a0 := bA.c 0 rfl
    cases hA : allG L
    · have HA := Lib.hid hA
      clear hA
      go_enter Try.func89, Try.ntmps89
      go_wp2_with fail
      refine (igsok_t _ HR.out HA).mono ?_
      rintro e w1 ⟨rfl, hb⟩
      replace B0 := below_step B0 hb
      replace bA := bA.keep hb
      have q0 := bA.c 0 rfl
      go_wp2
      go_ret
      exact ⟨rfl, B0⟩
    · have HA := Lib.hid hA
      obtain ⟨t, ht⟩ : ∃ t, ascG L = t := ⟨_, rfl⟩
      have HT : Hid (ascP L = t) := Lib.hid (by rw [ascP_ok hA, ht])
      rw [ht]
      clear hA ht
      go_enter Try.func89, Try.ntmps89
      go_wp2_with fail
      refine (igsok_t _ HR.out HA).mono ?_
      rintro e w1 ⟨rfl, hb⟩
      replace B0 := below_step B0 hb
      replace bA := bA.keep hb
      have q0 := bA.c 0 rfl
      go_wp2_with fail
      refine (iascg_t _ (HR.out.keep hb) HT).mono ?_
      rintro e w2 ⟨rfl, hb2⟩
      replace B0 := below_step B0 hb2
      go_wp2
      go_ret
      exact ⟨rfl, B0⟩
  · rw [show decide ((n : Int) ≤ 60) = false by simp [hbig]]
    have a0 := bA.c 0 rfl
    go_enter Try.func89, Try.ntmps89
    go_wp2
    go_ret
    exact ⟨rfl, B0⟩
set_option maxHeartbeats 2000000 in
theorem sfib_any (v : Value) (L : List Grp) (w : World) (h : RdG w v L) :
    Calls Try.prog 85 #[.agg #[v]] w fun e w' => e = .returned (.bool (fibB L)) ∧ Below w.heap.size w w' := by
  unfold fibB
  have hm := h.1
  obtain ⟨a, c, rfl, hc⟩ := h.el
  obtain ⟨n, hn⟩ : ∃ n, n = L.length := ⟨_, rfl⟩
  rw [← hn] at hc hm ⊢
  have HN := Lib.hid hn
  clear h hn
  obtain ⟨bR, B0, z⟩ := one w [.slice a n c] 57
  clear z
  by_cases hbig : (n : Int) ≤ 60
  · rw [show decide ((n : Int) ≤ 60) = true by simp [hbig], Bool.true_and]
    have hbig2 : ¬ (60 : Int) < (n : Int) := by omega
    obtain ⟨W1, hW⟩ : ∃ W1, W1 = w.alloc (.cells #[.slice a n c] 57) := ⟨_, rfl⟩
    obtain ⟨R, hR⟩ : ∃ R, R = w.heap.size := ⟨_, rfl⟩
    have hW2 := hW
    go_enter Try.func85, Try.ntmps85
    go_wp2
    rw [← hW2]
    try simp only [← hR]
    rw [← hR] at bR
    rw [← hW2] at bR B0
    clear hW hW2 hR
    go_loopw [3] (fun q wr => ∃ k : Nat, k ≤ n ∧ q = .int .i64 k ∧ (∀ i, i < k → okG L i) ∧ (∀ i, i + 1 < k → upG L i) ∧ Over W1 wr) (fun q _ => n - (intOf q).toNat)
    case atStart => exact ⟨0, Nat.zero_le _, rfl, fun i hi => by omega, fun i hi => by omega, over_refl _⟩
    case round =>
      obtain ⟨k, hk, rfl, hok, hup, hB⟩ := hrel
      have HO := Lib.hid hok
      have HU := Lib.hid hup
      clear hok hup
      replace bR := bR.keep hB
      have r0 := bR.c 0 rfl
      by_cases hlt : k < n
      · have hltI : (k : Int) < (n : Int) := by omega
        obtain ⟨b, o, rfl, hE⟩ := hc (k) hlt
        obtain ⟨E, hx⟩ : ∃ E, L.getD (k) gr0 = E := ⟨_, rfl⟩
        rw [hx] at hE
        obtain ⟨hv, hp, g0, g1, g2⟩ := hE.keep (below_step B0 hB)
        have HX := Lib.hid hx
        have HCC := Lib.hid hc
        clear hx hc hE
        cases hpk : grpB E.a E.n E.h
        · have HP := Lib.hid hpk
          have HF := Lib.hid (allG_no (by rw [← HN.out]; exact hlt) HX.out hpk)
          clear hpk
          go_wp2
          refine wp_region_class (C := Over (wr)) (by kernel_rfl) (by kernel_rfl) (over_drew _) ?_
          repeat (first | go_big_quiet_skip | (go_big_quiet_want; go_big_quiet_op; go_big_quiet_on) | (go_big_quiet_want; go_big_quiet_op; apply Exists.intro; refine ⟨fun w' hC => ?_, ?_⟩; ((first | (go_at_call 77; refine (sgrp_t _ (rdP_over hp hC) HP).mono ?_; rintro e w1 ⟨rfl, hb1⟩; exact ⟨rfl, over_step hC hb1⟩))); go_big_quiet_on) | (go_big_quiet_want; apply Exists.intro; refine ⟨fun w' hC => ?_, ?_⟩; (have k0 := over_cell hC bR.lt (bR.c 0 rfl); have k1 := over_cell hC (World.block_lt_of_cell? _ _ g0) g0; have k2 := over_cell hC (World.block_lt_of_cell? _ _ g1) g1; have k3 := over_cell hC (World.block_lt_of_cell? _ _ g2) g2; simp [Oper.quietAt, Oper.quietUpon, go_sem, k0, k1, k2, k3, hltI, hlt]; first | done | rfl); go_big_quiet_on; simp only [Act.put, List.setIfInBounds_toArray, List.set_cons_zero, List.set_cons_succ]))
          refine wpQuiet_nil ?_
          intro ws hC
          have k0 := over_cell hC bR.lt (bR.c 0 rfl)
          have k1 := over_cell hC (World.block_lt_of_cell? _ _ g0) g0
          have k2 := over_cell hC (World.block_lt_of_cell? _ _ g1) g1
          have k3 := over_cell hC (World.block_lt_of_cell? _ _ g2) g2
          go_wp2
          go_ret
          exact ⟨ret_bool (by rw [HF.out]; rfl), below_step B0 (over_step hB hC)⟩
        · have HP := Lib.hid hpk
          have HOK : Hid (∀ i, i < k + 1 → okG L i) := Lib.hid fun i hi => by
            by_cases e : i = k
            · unfold okG; rw [e, HX.out]; exact hpk
            · exact HO.out i (by omega)
          clear hpk
          rcases Nat.eq_zero_or_pos k with rfl | hpos
          · simp only [Nat.zero_mul, Nat.add_zero] at g0 g1 g2
            go_wp2
            refine wp_region_class (C := Over (wr)) (by kernel_rfl) (by kernel_rfl) (over_drew _) ?_
            repeat (first | go_big_quiet_skip | (go_big_quiet_want; go_big_quiet_op; go_big_quiet_on) | (go_big_quiet_want; go_big_quiet_op; apply Exists.intro; refine ⟨fun w' hC => ?_, ?_⟩; ((first | (go_at_call 77; refine (sgrp_t _ (rdP_over hp hC) HP).mono ?_; rintro e w1 ⟨rfl, hb1⟩; exact ⟨rfl, over_step hC hb1⟩))); go_big_quiet_on) | (go_big_quiet_want; apply Exists.intro; refine ⟨fun w' hC => ?_, ?_⟩; (have k0 := over_cell hC bR.lt (bR.c 0 rfl); have k1 := over_cell hC (World.block_lt_of_cell? _ _ g0) g0; have k2 := over_cell hC (World.block_lt_of_cell? _ _ g1) g1; have k3 := over_cell hC (World.block_lt_of_cell? _ _ g2) g2; simp [Oper.quietAt, Oper.quietUpon, go_sem, k0, k1, k2, k3, hltI, hlt]; first | done | rfl); go_big_quiet_on; simp only [Act.put, List.setIfInBounds_toArray, List.set_cons_zero, List.set_cons_succ]))
            refine wpQuiet_nil ?_
            intro ws hC
            have k0 := over_cell hC bR.lt (bR.c 0 rfl)
            have k1 := over_cell hC (World.block_lt_of_cell? _ _ g0) g0
            have k2 := over_cell hC (World.block_lt_of_cell? _ _ g1) g1
            have k3 := over_cell hC (World.block_lt_of_cell? _ _ g2) g2
            go_wp2
            go_roundw
            case rel => exact ⟨0 + 1, by omega, by go_num, HOK.out, fun i hi => by omega, over_step hB hC⟩
            case measure => simp [intOf]; omega
          · obtain ⟨j, rfl⟩ : ∃ j, k = j + 1 := ⟨k - 1, by omega⟩
            obtain ⟨b', o', hbo, hE'⟩ := HCC.out j (by omega)
            obtain ⟨rfl, rfl⟩ : b = b' ∧ o = o' := by simpa using hbo
            clear hbo
            obtain ⟨F, hs⟩ : ∃ F, L.getD j gr0 = F := ⟨_, rfl⟩
            rw [hs] at hE'
            obtain ⟨hu, -, m0, m1, m2⟩ := hE'.keep (below_step B0 hB)
            have HS := Lib.hid hs
            clear hs hE'
            obtain ⟨r, hr⟩ : ∃ r, cmp2 F.a F.n E.a E.n = r := ⟨_, rfl⟩
            have HR := Lib.hid hr
            clear hr
            by_cases hneg : r < 0
            · have HUP : Hid (∀ i, i + 1 < j + 1 + 1 → upG L i) := Lib.hid fun i hi => by
                by_cases e : i = j
                · unfold upG; rw [e, HS.out, HX.out, HR.out]; exact hneg
                · exact HU.out i (by omega)
              have hwj : IntKind.i64.wrap (j : Int) = j := wrap64_in _ (by omega) (by omega)
              have hjI : (j : Int) < (n : Int) := by omega
              have hjN : j < n := by omega
              have hkJ : (j : Int) + 1 < (n : Int) := by omega
              have hkT : ((j : Int) + 1).toNat = j + 1 := by omega
              have hk0 : (0 : Int) ≤ (j : Int) + 1 := by omega
              go_wp2
              refine wp_region_class (C := Over (wr)) (by kernel_rfl) (by kernel_rfl) (over_drew _) ?_
              repeat (first | go_big_quiet_skip | (go_big_quiet_want; go_big_quiet_op; go_big_quiet_on) | (go_big_quiet_want; go_big_quiet_op; apply Exists.intro; refine ⟨fun w' hC => ?_, ?_⟩; ((first | (go_at_call 77; refine (sgrp_t _ (rdP_over hp hC) HP).mono ?_; rintro e w1 ⟨rfl, hb1⟩; exact ⟨rfl, over_step hC hb1⟩) | (go_at_call 142; refine (scmp_t _ HR).mono ?_; rintro e w1 ⟨rfl, hb1⟩; exact ⟨rfl, over_step hC hb1⟩))); go_big_quiet_on) | (go_big_quiet_want; apply Exists.intro; refine ⟨fun w' hC => ?_, ?_⟩; (have k0 := over_cell hC bR.lt (bR.c 0 rfl); have k1 := over_cell hC (World.block_lt_of_cell? _ _ g0) g0; have k2 := over_cell hC (World.block_lt_of_cell? _ _ g1) g1; have k3 := over_cell hC (World.block_lt_of_cell? _ _ g2) g2; have k4 := over_cell hC (World.block_lt_of_cell? _ _ m0) m0; have k5 := over_cell hC (World.block_lt_of_cell? _ _ m1) m1; have k6 := over_cell hC (World.block_lt_of_cell? _ _ m2) m2; simp [Oper.quietAt, Oper.quietUpon, go_sem, k0, k1, k2, k3, k4, k5, k6, hltI, hlt, hwj, hjI, hjN, hkJ, hkT, hk0]; first | done | rfl); go_big_quiet_on; simp only [Act.put, List.setIfInBounds_toArray, List.set_cons_zero, List.set_cons_succ]))
              refine wpQuiet_nil ?_
              intro ws hC
              have k0 := over_cell hC bR.lt (bR.c 0 rfl)
              have k1 := over_cell hC (World.block_lt_of_cell? _ _ g0) g0
              have k2 := over_cell hC (World.block_lt_of_cell? _ _ g1) g1
              have k3 := over_cell hC (World.block_lt_of_cell? _ _ g2) g2
              have k4 := over_cell hC (World.block_lt_of_cell? _ _ m0) m0
              have k5 := over_cell hC (World.block_lt_of_cell? _ _ m1) m1
              have k6 := over_cell hC (World.block_lt_of_cell? _ _ m2) m2
              go_wp2
              go_roundw
              case rel => exact ⟨j + 1 + 1, by omega, by go_num, HOK.out, HUP.out, over_step hB hC⟩
              case measure => simp [intOf]; omega
            · have HF := Lib.hid (ascG_no (by rw [← HN.out]; exact hlt) HS.out HX.out (by rw [HR.out]; exact hneg))
              have hwj : IntKind.i64.wrap (j : Int) = j := wrap64_in _ (by omega) (by omega)
              have hjI : (j : Int) < (n : Int) := by omega
              have hjN : j < n := by omega
              have hkJ : (j : Int) + 1 < (n : Int) := by omega
              have hkT : ((j : Int) + 1).toNat = j + 1 := by omega
              have hk0 : (0 : Int) ≤ (j : Int) + 1 := by omega
              go_wp2
              refine wp_region_class (C := Over (wr)) (by kernel_rfl) (by kernel_rfl) (over_drew _) ?_
              repeat (first | go_big_quiet_skip | (go_big_quiet_want; go_big_quiet_op; go_big_quiet_on) | (go_big_quiet_want; go_big_quiet_op; apply Exists.intro; refine ⟨fun w' hC => ?_, ?_⟩; ((first | (go_at_call 77; refine (sgrp_t _ (rdP_over hp hC) HP).mono ?_; rintro e w1 ⟨rfl, hb1⟩; exact ⟨rfl, over_step hC hb1⟩) | (go_at_call 142; refine (scmp_t _ HR).mono ?_; rintro e w1 ⟨rfl, hb1⟩; exact ⟨rfl, over_step hC hb1⟩))); go_big_quiet_on) | (go_big_quiet_want; apply Exists.intro; refine ⟨fun w' hC => ?_, ?_⟩; (have k0 := over_cell hC bR.lt (bR.c 0 rfl); have k1 := over_cell hC (World.block_lt_of_cell? _ _ g0) g0; have k2 := over_cell hC (World.block_lt_of_cell? _ _ g1) g1; have k3 := over_cell hC (World.block_lt_of_cell? _ _ g2) g2; have k4 := over_cell hC (World.block_lt_of_cell? _ _ m0) m0; have k5 := over_cell hC (World.block_lt_of_cell? _ _ m1) m1; have k6 := over_cell hC (World.block_lt_of_cell? _ _ m2) m2; simp [Oper.quietAt, Oper.quietUpon, go_sem, k0, k1, k2, k3, k4, k5, k6, hltI, hlt, hwj, hjI, hjN, hkJ, hkT, hk0]; first | done | rfl); go_big_quiet_on; simp only [Act.put, List.setIfInBounds_toArray, List.set_cons_zero, List.set_cons_succ]))
              refine wpQuiet_nil ?_
              intro ws hC
              have k0 := over_cell hC bR.lt (bR.c 0 rfl)
              have k1 := over_cell hC (World.block_lt_of_cell? _ _ g0) g0
              have k2 := over_cell hC (World.block_lt_of_cell? _ _ g1) g1
              have k3 := over_cell hC (World.block_lt_of_cell? _ _ g2) g2
              have k4 := over_cell hC (World.block_lt_of_cell? _ _ m0) m0
              have k5 := over_cell hC (World.block_lt_of_cell? _ _ m1) m1
              have k6 := over_cell hC (World.block_lt_of_cell? _ _ m2) m2
              go_wp2
              go_ret
              exact ⟨ret_bool (by rw [HF.out, Bool.and_false]), below_step B0 (over_step hB hC)⟩
      · have hkn : k = n := by omega
        rw [hkn] at HO HU ⊢
        have HF := Lib.hid (And.intro (allG_yes HN.out HO.out) (ascG_yes HN.out HU.out))
        have hnI : ¬ (n : Int) < (n : Int) := by omega
        clear hc
        go_wp2
        go_ret
        exact ⟨ret_bool (by rw [HF.out.1, HF.out.2]; rfl), below_step B0 hB⟩
  · rw [show decide ((n : Int) ≤ 60) = false by simp [hbig]]
    have hbig2 : (60 : Int) < (n : Int) := by omega
    go_enter Try.func85, Try.ntmps85
    go_wp2
    go_ret
    exact ⟨rfl, B0⟩
theorem sfib_t {v : Value} {L : List Grp} {b : Bool} (w : World) (h : RdG w v L) (H : Hid (fibB L = b)) :
    Calls Try.prog 85 #[.agg #[v]] w fun e w' => e = .returned (.bool b) ∧ Below w.heap.size w w' := H.out ▸ sfib_any v L w h
theorem ifib_t {v : Value} {L : List Grp} {b : Bool} (w : World) (h : RdG w v L) (H : Hid (fibB L = b)) :
    Calls Try.prog 89 #[.agg #[v]] w fun e w' => e = .returned (.bool b) ∧ Below w.heap.size w w' := H.out ▸ ifib_any v L w h
end Go.Proofs.Ytbcmoofpgffbhaa
