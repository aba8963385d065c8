/-
  Messages: contracts of the program's comparisons. Conditions: those in each contract.
-/
import Derived.Test.YtcmbajphholliabDoorN4
import Derived.Test.YtcmbajphholliabDoorN2
namespace Go.Proofs.YtcmbajphholliabDoor
open Go.ChangeShapes Go.WideShapes Go.ChangeAt Go.RowKit Go.BigFrame
set_option linter.unusedVariables false
set_option maxRecDepth 100000
set_option linter.unusedSimpArgs false

/-- the library's comparison of two lists of numbers -/
theorem slI_any (v u : Value) (l m : List Int) (w : World) (h1 : RdI w v l) (h2 : RdI w u m) :
    Calls Tryd.prog 114 #[v, u] w fun e w' => e = .returned (.bool (decide (l = m))) ∧ Below w.heap.size w w' := by
  by_cases hlen : l.length = m.length
  · have hm1 : l.length ≤ 9223372036854775807 := by have := h1.2.1; unfold maxLen at this; omega
    obtain ⟨a, c, rfl, hc⟩ := h1.el
    obtain ⟨a', c', rfl, hc'⟩ := h2.el
    obtain ⟨n, hn⟩ : ∃ n, n = l.length := ⟨_, rfl⟩
    have hn' : n = m.length := hn.trans hlen
    rw [← hn'] at hc' ⊢
    rw [← hn] at hc hm1 ⊢
    have HN := Lib.hid hn
    have HN' := Lib.hid hn'
    clear hn hn' hlen h1 h2
    go_enter Tryd.func114, Tryd.ntmps114
    go_wp2
    go_loopw [13] (fun i wr => ∃ k : Nat, k ≤ n ∧ i = .int .i64 k ∧ l.take k = m.take k ∧ Below w.heap.size w wr) (fun i _ => n - (intOf i).toNat)
    case atStart => exact ⟨0, Nat.zero_le _, rfl, rfl, Below.refl _ _⟩
    case round =>
      obtain ⟨k, hk, rfl, ht, hB⟩ := hrel
      have HT := Lib.hid ht
      clear ht
      by_cases hlt : k < n
      · have hltI : (k : Int) < (n : Int) := by omega
        obtain ⟨b, o, rfl, d0⟩ := hc k hlt
        obtain ⟨b', o', rfl, d0'⟩ := hc' k hlt
        have e0 := cell_keep hB (World.block_lt_of_cell? w _ d0) d0
        have e2 := cell_keep hB (World.block_lt_of_cell? w _ d0') d0'
        obtain ⟨x, hx⟩ : ∃ q, l.getD k 0 = q := ⟨_, rfl⟩
        obtain ⟨x', hx'⟩ : ∃ q, m.getD k 0 = q := ⟨_, rfl⟩
        rw [hx] at e0
        rw [hx'] at e2
        have HX := Lib.hid hx
        have HY := Lib.hid hx'
        clear hx hx' hc hc' d0 d0'
        by_cases hxy : x = x'
        · subst hxy
          go_wp2
          go_region
          go_wp2
          go_roundw
          case rel => exact ⟨k + 1, by omega, by go_num, take_eq_succ_I HT.out (by rw [← HN.out]; exact hlt) (by rw [← HN'.out]; exact hlt) (by rw [HX.out, HY.out]), hB.drew⟩
          case measure => simp [intOf]; omega
        · have hlm : decide (l = m) = false := by
            simp only [decide_eq_false_iff_not]
            rintro rfl
            exact hxy (HX.out.symm.trans HY.out)
          have HL := Lib.hid hlm
          have hne : (x != x') = true := by simp [hxy]
          clear hlm
          go_wp2
          go_region
          go_wp2
          go_ret
          exact ⟨ret_bool HL.out.symm, hB.drew⟩
      · have hkn : k = n := by omega
        have hlm : decide (l = m) = true := by
          have h := HT.out
          rw [hkn, List.take_of_length_le (by rw [HN.out]; exact Nat.le_refl _), List.take_of_length_le (by rw [HN'.out]; exact Nat.le_refl _)] at h
          simp [h]
        have HL := Lib.hid hlm
        clear hlm hkn hc hc'
        go_wp2
        go_ret
        exact ⟨ret_bool HL.out.symm, hB⟩
  · have hd : decide (l = m) = false := by
      simp only [decide_eq_false_iff_not]
      rintro rfl
      exact hlen rfl
    rw [hd]
    clear hd
    obtain ⟨a, c, rfl⟩ := h1.len
    obtain ⟨a', c', rfl⟩ := h2.len
    have hne : ((l.length : Int) != (m.length : Int)) = true := by simp; omega
    clear h1 h2
    go_enter Tryd.func114, Tryd.ntmps114
    go_wp2
    go_ret
    exact ⟨rfl, Below.refl _ _⟩
theorem slI_t {v u : Value} {l m : List Int} {b : Bool} (w : World) (h1 : RdI w v l) (h2 : RdI w u m) (H : Hid (decide (l = m) = b)) :
    Calls Tryd.prog 114 #[v, u] w fun e w' => e = .returned (.bool b) ∧ Below w.heap.size w w' := H.out ▸ slI_any v u l m w h1 h2
theorem slP_t {v u : Value} {l m : List (Int × Int)} {b : Bool} (w : World) (h1 : RdP w v l) (h2 : RdP w u m) (H : Hid (decide (l = m) = b)) :
    Calls Tryd.prog 99 #[v, u] w fun e w' => e = .returned (.bool b) ∧ Below w.heap.size w w' := H.out ▸ slP_any v u l m w h1 h2
set_option maxHeartbeats 1000000 in
theorem isameA_any (pv mv pv2 mv2 : Value) (ps ms ps2 ms2 : List Int) (pr bw pr2 bw2 : Int) (w : World) (hp : RdI w pv ps) (hm : RdI w mv ms) (hp2 : RdI w pv2 ps2) (hm2 : RdI w mv2 ms2) :
    Calls Tryd.prog 100 #[.agg #[pv, .int .i64 pr, mv, .int .i64 bw], .agg #[pv2, .int .i64 pr2, mv2, .int .i64 bw2]] w fun e w' => e = .returned (.bool (decide (ps = ps2 ∧ pr = pr2 ∧ ms = ms2 ∧ bw = bw2))) ∧ Below w.heap.size w w' := by
  obtain ⟨bA, bB, B0, z⟩ := two w [pv, .int .i64 pr, mv, .int .i64 bw] [pv2, .int .i64 pr2, mv2, .int .i64 bw2] 36 36
  replace hp := hp.keep B0
  replace hm := hm.keep B0
  replace hp2 := hp2.keep B0
  replace hm2 := hm2.keep B0
  clear z
  by_cases h0 : ps = ps2
  · subst h0
    by_cases h1 : pr = pr2
    · subst h1
      have e1 : (pr == pr) = true := by simp
      by_cases h2 : ms = ms2
      · subst h2
        by_cases h3 : bw = bw2
        · subst h3
          have e3 : (bw == bw) = true := by simp
          go_enter Tryd.func100, Tryd.ntmps100
          go_wp2_with fail
          refine (slI_t (b := true) _ hp hp2 (Lib.hid (decide_eq_true rfl))).mono ?_
          rintro e w1 ⟨rfl, hb⟩
          replace bA := bA.keep hb
          replace bB := bB.keep hb
          replace hp := hp.keep hb
          replace hm := hm.keep hb
          replace hp2 := hp2.keep hb
          replace hm2 := hm2.keep hb
          replace B0 := below_step B0 hb
          clear hb
          have fa0 := bA.c 0 rfl
          have fb0 := bB.c 0 rfl
          have fa1 := bA.c 1 rfl
          have fb1 := bB.c 1 rfl
          have fa2 := bA.c 2 rfl
          have fb2 := bB.c 2 rfl
          have fa3 := bA.c 3 rfl
          have fb3 := bB.c 3 rfl
          go_wp2_with fail
          clear fa0 fb0 fa1 fb1 fa2 fb2 fa3 fb3
          refine (slI_t (b := true) _ hm hm2 (Lib.hid (decide_eq_true rfl))).mono ?_
          rintro e w1 ⟨rfl, hb⟩
          replace bA := bA.keep hb
          replace bB := bB.keep hb
          replace hp := hp.keep hb
          replace hm := hm.keep hb
          replace hp2 := hp2.keep hb
          replace hm2 := hm2.keep hb
          replace B0 := below_step B0 hb
          clear hb
          have fa0 := bA.c 0 rfl
          have fb0 := bB.c 0 rfl
          have fa1 := bA.c 1 rfl
          have fb1 := bB.c 1 rfl
          have fa2 := bA.c 2 rfl
          have fb2 := bB.c 2 rfl
          have fa3 := bA.c 3 rfl
          have fb3 := bB.c 3 rfl
          go_wp2_with fail
          go_ret
          exact ⟨ret_bool ((decide_eq_true (by simp)).symm), B0⟩
        · have e3 : (bw == bw2) = false := beq_eq_false_iff_ne.mpr h3
          have H3 := Lib.hid h3
          clear h3
          go_enter Tryd.func100, Tryd.ntmps100
          go_wp2_with fail
          refine (slI_t (b := true) _ hp hp2 (Lib.hid (decide_eq_true rfl))).mono ?_
          rintro e w1 ⟨rfl, hb⟩
          replace bA := bA.keep hb
          replace bB := bB.keep hb
          replace hp := hp.keep hb
          replace hm := hm.keep hb
          replace hp2 := hp2.keep hb
          replace hm2 := hm2.keep hb
          replace B0 := below_step B0 hb
          clear hb
          have fa0 := bA.c 0 rfl
          have fb0 := bB.c 0 rfl
          have fa1 := bA.c 1 rfl
          have fb1 := bB.c 1 rfl
          have fa2 := bA.c 2 rfl
          have fb2 := bB.c 2 rfl
          have fa3 := bA.c 3 rfl
          have fb3 := bB.c 3 rfl
          go_wp2_with fail
          clear fa0 fb0 fa1 fb1 fa2 fb2 fa3 fb3
          refine (slI_t (b := true) _ hm hm2 (Lib.hid (decide_eq_true rfl))).mono ?_
          rintro e w1 ⟨rfl, hb⟩
          replace bA := bA.keep hb
          replace bB := bB.keep hb
          replace hp := hp.keep hb
          replace hm := hm.keep hb
          replace hp2 := hp2.keep hb
          replace hm2 := hm2.keep hb
          replace B0 := below_step B0 hb
          clear hb
          have fa0 := bA.c 0 rfl
          have fb0 := bB.c 0 rfl
          have fa1 := bA.c 1 rfl
          have fb1 := bB.c 1 rfl
          have fa2 := bA.c 2 rfl
          have fb2 := bB.c 2 rfl
          have fa3 := bA.c 3 rfl
          have fb3 := bB.c 3 rfl
          go_wp2_with fail
          go_ret
          exact ⟨ret_bool ((decide_eq_false (fun g => H3.out g.2.2.2)).symm), B0⟩
      · have HM : Hid (decide (ms = ms2) = false) := Lib.hid (by simp [h2])
        have H2 := Lib.hid h2
        clear h2
        go_enter Tryd.func100, Tryd.ntmps100
        go_wp2_with fail
        refine (slI_t (b := true) _ hp hp2 (Lib.hid (decide_eq_true rfl))).mono ?_
        rintro e w1 ⟨rfl, hb⟩
        replace bA := bA.keep hb
        replace bB := bB.keep hb
        replace hp := hp.keep hb
        replace hm := hm.keep hb
        replace hp2 := hp2.keep hb
        replace hm2 := hm2.keep hb
        replace B0 := below_step B0 hb
        clear hb
        have fa0 := bA.c 0 rfl
        have fb0 := bB.c 0 rfl
        have fa1 := bA.c 1 rfl
        have fb1 := bB.c 1 rfl
        have fa2 := bA.c 2 rfl
        have fb2 := bB.c 2 rfl
        have fa3 := bA.c 3 rfl
        have fb3 := bB.c 3 rfl
        go_wp2_with fail
        clear fa0 fb0 fa1 fb1 fa2 fb2 fa3 fb3
        refine (slI_t _ hm hm2 HM).mono ?_
        rintro e w1 ⟨rfl, hb⟩
        replace bA := bA.keep hb
        replace bB := bB.keep hb
        replace hp := hp.keep hb
        replace hm := hm.keep hb
        replace hp2 := hp2.keep hb
        replace hm2 := hm2.keep hb
        replace B0 := below_step B0 hb
        clear hb
        have fa0 := bA.c 0 rfl
        have fb0 := bB.c 0 rfl
        have fa1 := bA.c 1 rfl
        have fb1 := bB.c 1 rfl
        have fa2 := bA.c 2 rfl
        have fb2 := bB.c 2 rfl
        have fa3 := bA.c 3 rfl
        have fb3 := bB.c 3 rfl
        go_wp2_with fail
        go_ret
        exact ⟨ret_bool ((decide_eq_false (fun g => H2.out g.2.2.1)).symm), B0⟩
    · have e1 : (pr == pr2) = false := beq_eq_false_iff_ne.mpr h1
      have H1 := Lib.hid h1
      clear h1
      go_enter Tryd.func100, Tryd.ntmps100
      go_wp2_with fail
      refine (slI_t (b := true) _ hp hp2 (Lib.hid (decide_eq_true rfl))).mono ?_
      rintro e w1 ⟨rfl, hb⟩
      replace bA := bA.keep hb
      replace bB := bB.keep hb
      replace hp := hp.keep hb
      replace hm := hm.keep hb
      replace hp2 := hp2.keep hb
      replace hm2 := hm2.keep hb
      replace B0 := below_step B0 hb
      clear hb
      have fa0 := bA.c 0 rfl
      have fb0 := bB.c 0 rfl
      have fa1 := bA.c 1 rfl
      have fb1 := bB.c 1 rfl
      have fa2 := bA.c 2 rfl
      have fb2 := bB.c 2 rfl
      have fa3 := bA.c 3 rfl
      have fb3 := bB.c 3 rfl
      go_wp2_with fail
      go_ret
      exact ⟨ret_bool ((decide_eq_false (fun g => H1.out g.2.1)).symm), B0⟩
  · have HP : Hid (decide (ps = ps2) = false) := Lib.hid (by simp [h0])
    have H0 := Lib.hid h0
    clear h0
    go_enter Tryd.func100, Tryd.ntmps100
    go_wp2_with fail
    refine (slI_t _ hp hp2 HP).mono ?_
    rintro e w1 ⟨rfl, hb⟩
    replace bA := bA.keep hb
    replace bB := bB.keep hb
    replace hp := hp.keep hb
    replace hm := hm.keep hb
    replace hp2 := hp2.keep hb
    replace hm2 := hm2.keep hb
    replace B0 := below_step B0 hb
    clear hb
    have fa0 := bA.c 0 rfl
    have fb0 := bB.c 0 rfl
    have fa1 := bA.c 1 rfl
    have fb1 := bB.c 1 rfl
    have fa2 := bA.c 2 rfl
    have fb2 := bB.c 2 rfl
    have fa3 := bA.c 3 rfl
    have fb3 := bB.c 3 rfl
    go_wp2_with fail
    go_ret
    exact ⟨ret_bool ((decide_eq_false (fun g => H0.out g.1)).symm), B0⟩
theorem isameA_t {pv mv pv2 mv2 : Value} {ps ms ps2 ms2 : List Int} {pr bw pr2 bw2 : Int} {b : Bool} (w : World) (hp : RdI w pv ps) (hm : RdI w mv ms) (hp2 : RdI w pv2 ps2) (hm2 : RdI w mv2 ms2) (H : Hid (decide (ps = ps2 ∧ pr = pr2 ∧ ms = ms2 ∧ bw = bw2) = b)) :
    Calls Tryd.prog 100 #[.agg #[pv, .int .i64 pr, mv, .int .i64 bw], .agg #[pv2, .int .i64 pr2, mv2, .int .i64 bw2]] w fun e w' => e = .returned (.bool b) ∧ Below w.heap.size w w' := H.out ▸ isameA_any pv mv pv2 mv2 ps ms ps2 ms2 pr bw pr2 bw2 w hp hm hp2 hm2
set_option maxHeartbeats 4000000 in
theorem isameM_any (gv cv pv mv gv2 cv2 pv2 mv2 : Value) (gs cs gs2 cs2 : List (Int × Int)) (ps ms ps2 ms2 : List Int) (kn sa ho ix pr bw er kn2 sa2 ho2 ix2 pr2 bw2 er2 : Int) (w : World) (hg : RdP w gv gs) (hc : RdP w cv cs) (hp : RdI w pv ps) (hm : RdI w mv ms)
    (hg2 : RdP w gv2 gs2) (hc2 : RdP w cv2 cs2) (hp2 : RdI w pv2 ps2) (hm2 : RdI w mv2 ms2) :
    Calls Tryd.prog 65 #[.agg #[.int .i64 kn, .int .i64 sa, .int .i64 ho, .int .i64 ix, gv, cv, pv, .int .i64 pr, mv, .int .i64 bw, .int .i64 er], .agg #[.int .i64 kn2, .int .i64 sa2, .int .i64 ho2, .int .i64 ix2, gv2, cv2, pv2, .int .i64 pr2, mv2, .int .i64 bw2, .int .i64 er2]] w fun e w' => e = .returned (.bool (decide (kn = kn2 ∧ sa = sa2 ∧ ho = ho2 ∧ ix = ix2 ∧ er = er2 ∧ gs = gs2 ∧ cs = cs2 ∧ ps = ps2 ∧ pr = pr2 ∧ ms = ms2 ∧ bw = bw2))) ∧ Below w.heap.size w w' := by
  obtain ⟨bA, bB, B0, z⟩ := two w [.int .i64 kn, .int .i64 sa, .int .i64 ho, .int .i64 ix, gv, cv, pv, .int .i64 pr, mv, .int .i64 bw, .int .i64 er] [.int .i64 kn2, .int .i64 sa2, .int .i64 ho2, .int .i64 ix2, gv2, cv2, pv2, .int .i64 pr2, mv2, .int .i64 bw2, .int .i64 er2] 38 38
  replace hg := hg.keep B0
  replace hc := hc.keep B0
  replace hp := hp.keep B0
  replace hm := hm.keep B0
  replace hg2 := hg2.keep B0
  replace hc2 := hc2.keep B0
  replace hp2 := hp2.keep B0
  replace hm2 := hm2.keep B0
  clear z
  by_cases h0 : kn = kn2
  · subst h0
    have e0 : (kn == kn) = true := by simp
    by_cases h1 : sa = sa2
    · subst h1
      have e1 : (sa == sa) = true := by simp
      by_cases h2 : ho = ho2
      · subst h2
        have e2 : (ho == ho) = true := by simp
        by_cases h3 : ix = ix2
        · subst h3
          have e3 : (ix == ix) = true := by simp
          by_cases h4 : er = er2
          · subst h4
            have e4 : (er == er) = true := by simp
            by_cases h5 : gs = gs2
            · subst h5
              by_cases h6 : cs = cs2
              · subst h6
                by_cases h7 : ps = ps2 ∧ pr = pr2 ∧ ms = ms2 ∧ bw = bw2
                · have HA : Hid (decide (ps = ps2 ∧ pr = pr2 ∧ ms = ms2 ∧ bw = bw2) = true) := Lib.hid (decide_eq_true h7)
                  have H7 := Lib.hid h7
                  clear h7
                  go_enter Tryd.func65, Tryd.ntmps65
                  go_wp2_with fail
                  refine (slP_t (b := true) _ hg hg2 (Lib.hid (decide_eq_true rfl))).mono ?_
                  rintro e w1 ⟨rfl, hb⟩
                  replace bA := bA.keep hb
                  replace bB := bB.keep hb
                  replace hg := hg.keep hb
                  replace hc := hc.keep hb
                  replace hp := hp.keep hb
                  replace hm := hm.keep hb
                  replace hg2 := hg2.keep hb
                  replace hc2 := hc2.keep hb
                  replace hp2 := hp2.keep hb
                  replace hm2 := hm2.keep hb
                  replace B0 := below_step B0 hb
                  clear hb
                  have fa0 := bA.c 0 rfl
                  have fb0 := bB.c 0 rfl
                  have fa1 := bA.c 1 rfl
                  have fb1 := bB.c 1 rfl
                  have fa2 := bA.c 2 rfl
                  have fb2 := bB.c 2 rfl
                  have fa3 := bA.c 3 rfl
                  have fb3 := bB.c 3 rfl
                  have fa4 := bA.c 4 rfl
                  have fb4 := bB.c 4 rfl
                  have fa5 := bA.c 5 rfl
                  have fb5 := bB.c 5 rfl
                  have fa6 := bA.c 6 rfl
                  have fb6 := bB.c 6 rfl
                  have fa7 := bA.c 7 rfl
                  have fb7 := bB.c 7 rfl
                  have fa8 := bA.c 8 rfl
                  have fb8 := bB.c 8 rfl
                  have fa9 := bA.c 9 rfl
                  have fb9 := bB.c 9 rfl
                  have fa10 := bA.c 10 rfl
                  have fb10 := bB.c 10 rfl
                  go_wp2_with fail
                  clear fa0 fb0 fa1 fb1 fa2 fb2 fa3 fb3 fa4 fb4 fa5 fb5 fa6 fb6 fa7 fb7 fa8 fb8 fa9 fb9 fa10 fb10
                  refine (slP_t (b := true) _ hc hc2 (Lib.hid (decide_eq_true rfl))).mono ?_
                  rintro e w1 ⟨rfl, hb⟩
                  replace bA := bA.keep hb
                  replace bB := bB.keep hb
                  replace hg := hg.keep hb
                  replace hc := hc.keep hb
                  replace hp := hp.keep hb
                  replace hm := hm.keep hb
                  replace hg2 := hg2.keep hb
                  replace hc2 := hc2.keep hb
                  replace hp2 := hp2.keep hb
                  replace hm2 := hm2.keep hb
                  replace B0 := below_step B0 hb
                  clear hb
                  have fa0 := bA.c 0 rfl
                  have fb0 := bB.c 0 rfl
                  have fa1 := bA.c 1 rfl
                  have fb1 := bB.c 1 rfl
                  have fa2 := bA.c 2 rfl
                  have fb2 := bB.c 2 rfl
                  have fa3 := bA.c 3 rfl
                  have fb3 := bB.c 3 rfl
                  have fa4 := bA.c 4 rfl
                  have fb4 := bB.c 4 rfl
                  have fa5 := bA.c 5 rfl
                  have fb5 := bB.c 5 rfl
                  have fa6 := bA.c 6 rfl
                  have fb6 := bB.c 6 rfl
                  have fa7 := bA.c 7 rfl
                  have fb7 := bB.c 7 rfl
                  have fa8 := bA.c 8 rfl
                  have fb8 := bB.c 8 rfl
                  have fa9 := bA.c 9 rfl
                  have fb9 := bB.c 9 rfl
                  have fa10 := bA.c 10 rfl
                  have fb10 := bB.c 10 rfl
                  go_wp2_with fail
                  clear fa0 fb0 fa1 fb1 fa2 fb2 fa3 fb3 fa4 fb4 fa5 fb5 fa6 fb6 fa7 fb7 fa8 fb8 fa9 fb9 fa10 fb10
                  refine (isameA_t _ hp hm hp2 hm2 HA).mono ?_
                  rintro e w1 ⟨rfl, hb⟩
                  replace bA := bA.keep hb
                  replace bB := bB.keep hb
                  replace hg := hg.keep hb
                  replace hc := hc.keep hb
                  replace hp := hp.keep hb
                  replace hm := hm.keep hb
                  replace hg2 := hg2.keep hb
                  replace hc2 := hc2.keep hb
                  replace hp2 := hp2.keep hb
                  replace hm2 := hm2.keep hb
                  replace B0 := below_step B0 hb
                  clear hb
                  have fa0 := bA.c 0 rfl
                  have fb0 := bB.c 0 rfl
                  have fa1 := bA.c 1 rfl
                  have fb1 := bB.c 1 rfl
                  have fa2 := bA.c 2 rfl
                  have fb2 := bB.c 2 rfl
                  have fa3 := bA.c 3 rfl
                  have fb3 := bB.c 3 rfl
                  have fa4 := bA.c 4 rfl
                  have fb4 := bB.c 4 rfl
                  have fa5 := bA.c 5 rfl
                  have fb5 := bB.c 5 rfl
                  have fa6 := bA.c 6 rfl
                  have fb6 := bB.c 6 rfl
                  have fa7 := bA.c 7 rfl
                  have fb7 := bB.c 7 rfl
                  have fa8 := bA.c 8 rfl
                  have fb8 := bB.c 8 rfl
                  have fa9 := bA.c 9 rfl
                  have fb9 := bB.c 9 rfl
                  have fa10 := bA.c 10 rfl
                  have fb10 := bB.c 10 rfl
                  go_wp2_with fail
                  go_ret
                  exact ⟨ret_bool ((decide_eq_true (by have h := H7.out; simpa using h)).symm), B0⟩
                · have HA : Hid (decide (ps = ps2 ∧ pr = pr2 ∧ ms = ms2 ∧ bw = bw2) = false) := Lib.hid (decide_eq_false h7)
                  have H7 := Lib.hid h7
                  clear h7
                  go_enter Tryd.func65, Tryd.ntmps65
                  go_wp2_with fail
                  refine (slP_t (b := true) _ hg hg2 (Lib.hid (decide_eq_true rfl))).mono ?_
                  rintro e w1 ⟨rfl, hb⟩
                  replace bA := bA.keep hb
                  replace bB := bB.keep hb
                  replace hg := hg.keep hb
                  replace hc := hc.keep hb
                  replace hp := hp.keep hb
                  replace hm := hm.keep hb
                  replace hg2 := hg2.keep hb
                  replace hc2 := hc2.keep hb
                  replace hp2 := hp2.keep hb
                  replace hm2 := hm2.keep hb
                  replace B0 := below_step B0 hb
                  clear hb
                  have fa0 := bA.c 0 rfl
                  have fb0 := bB.c 0 rfl
                  have fa1 := bA.c 1 rfl
                  have fb1 := bB.c 1 rfl
                  have fa2 := bA.c 2 rfl
                  have fb2 := bB.c 2 rfl
                  have fa3 := bA.c 3 rfl
                  have fb3 := bB.c 3 rfl
                  have fa4 := bA.c 4 rfl
                  have fb4 := bB.c 4 rfl
                  have fa5 := bA.c 5 rfl
                  have fb5 := bB.c 5 rfl
                  have fa6 := bA.c 6 rfl
                  have fb6 := bB.c 6 rfl
                  have fa7 := bA.c 7 rfl
                  have fb7 := bB.c 7 rfl
                  have fa8 := bA.c 8 rfl
                  have fb8 := bB.c 8 rfl
                  have fa9 := bA.c 9 rfl
                  have fb9 := bB.c 9 rfl
                  have fa10 := bA.c 10 rfl
                  have fb10 := bB.c 10 rfl
                  go_wp2_with fail
                  clear fa0 fb0 fa1 fb1 fa2 fb2 fa3 fb3 fa4 fb4 fa5 fb5 fa6 fb6 fa7 fb7 fa8 fb8 fa9 fb9 fa10 fb10
                  refine (slP_t (b := true) _ hc hc2 (Lib.hid (decide_eq_true rfl))).mono ?_
                  rintro e w1 ⟨rfl, hb⟩
                  replace bA := bA.keep hb
                  replace bB := bB.keep hb
                  replace hg := hg.keep hb
                  replace hc := hc.keep hb
                  replace hp := hp.keep hb
                  replace hm := hm.keep hb
                  replace hg2 := hg2.keep hb
                  replace hc2 := hc2.keep hb
                  replace hp2 := hp2.keep hb
                  replace hm2 := hm2.keep hb
                  replace B0 := below_step B0 hb
                  clear hb
                  have fa0 := bA.c 0 rfl
                  have fb0 := bB.c 0 rfl
                  have fa1 := bA.c 1 rfl
                  have fb1 := bB.c 1 rfl
                  have fa2 := bA.c 2 rfl
                  have fb2 := bB.c 2 rfl
                  have fa3 := bA.c 3 rfl
                  have fb3 := bB.c 3 rfl
                  have fa4 := bA.c 4 rfl
                  have fb4 := bB.c 4 rfl
                  have fa5 := bA.c 5 rfl
                  have fb5 := bB.c 5 rfl
                  have fa6 := bA.c 6 rfl
                  have fb6 := bB.c 6 rfl
                  have fa7 := bA.c 7 rfl
                  have fb7 := bB.c 7 rfl
                  have fa8 := bA.c 8 rfl
                  have fb8 := bB.c 8 rfl
                  have fa9 := bA.c 9 rfl
                  have fb9 := bB.c 9 rfl
                  have fa10 := bA.c 10 rfl
                  have fb10 := bB.c 10 rfl
                  go_wp2_with fail
                  clear fa0 fb0 fa1 fb1 fa2 fb2 fa3 fb3 fa4 fb4 fa5 fb5 fa6 fb6 fa7 fb7 fa8 fb8 fa9 fb9 fa10 fb10
                  refine (isameA_t _ hp hm hp2 hm2 HA).mono ?_
                  rintro e w1 ⟨rfl, hb⟩
                  replace bA := bA.keep hb
                  replace bB := bB.keep hb
                  replace hg := hg.keep hb
                  replace hc := hc.keep hb
                  replace hp := hp.keep hb
                  replace hm := hm.keep hb
                  replace hg2 := hg2.keep hb
                  replace hc2 := hc2.keep hb
                  replace hp2 := hp2.keep hb
                  replace hm2 := hm2.keep hb
                  replace B0 := below_step B0 hb
                  clear hb
                  have fa0 := bA.c 0 rfl
                  have fb0 := bB.c 0 rfl
                  have fa1 := bA.c 1 rfl
                  have fb1 := bB.c 1 rfl
                  have fa2 := bA.c 2 rfl
                  have fb2 := bB.c 2 rfl
                  have fa3 := bA.c 3 rfl
                  have fb3 := bB.c 3 rfl
                  have fa4 := bA.c 4 rfl
                  have fb4 := bB.c 4 rfl
                  have fa5 := bA.c 5 rfl
                  have fb5 := bB.c 5 rfl
                  have fa6 := bA.c 6 rfl
                  have fb6 := bB.c 6 rfl
                  have fa7 := bA.c 7 rfl
                  have fb7 := bB.c 7 rfl
                  have fa8 := bA.c 8 rfl
                  have fb8 := bB.c 8 rfl
                  have fa9 := bA.c 9 rfl
                  have fb9 := bB.c 9 rfl
                  have fa10 := bA.c 10 rfl
                  have fb10 := bB.c 10 rfl
                  go_wp2_with fail
                  go_ret
                  exact ⟨ret_bool ((decide_eq_false (fun g => H7.out g.2.2.2.2.2.2.2)).symm), B0⟩
              · have HC : Hid (decide (cs = cs2) = false) := Lib.hid (by simp [h6])
                have H6 := Lib.hid h6
                clear h6
                go_enter Tryd.func65, Tryd.ntmps65
                go_wp2_with fail
                refine (slP_t (b := true) _ hg hg2 (Lib.hid (decide_eq_true rfl))).mono ?_
                rintro e w1 ⟨rfl, hb⟩
                replace bA := bA.keep hb
                replace bB := bB.keep hb
                replace hg := hg.keep hb
                replace hc := hc.keep hb
                replace hp := hp.keep hb
                replace hm := hm.keep hb
                replace hg2 := hg2.keep hb
                replace hc2 := hc2.keep hb
                replace hp2 := hp2.keep hb
                replace hm2 := hm2.keep hb
                replace B0 := below_step B0 hb
                clear hb
                have fa0 := bA.c 0 rfl
                have fb0 := bB.c 0 rfl
                have fa1 := bA.c 1 rfl
                have fb1 := bB.c 1 rfl
                have fa2 := bA.c 2 rfl
                have fb2 := bB.c 2 rfl
                have fa3 := bA.c 3 rfl
                have fb3 := bB.c 3 rfl
                have fa4 := bA.c 4 rfl
                have fb4 := bB.c 4 rfl
                have fa5 := bA.c 5 rfl
                have fb5 := bB.c 5 rfl
                have fa6 := bA.c 6 rfl
                have fb6 := bB.c 6 rfl
                have fa7 := bA.c 7 rfl
                have fb7 := bB.c 7 rfl
                have fa8 := bA.c 8 rfl
                have fb8 := bB.c 8 rfl
                have fa9 := bA.c 9 rfl
                have fb9 := bB.c 9 rfl
                have fa10 := bA.c 10 rfl
                have fb10 := bB.c 10 rfl
                go_wp2_with fail
                clear fa0 fb0 fa1 fb1 fa2 fb2 fa3 fb3 fa4 fb4 fa5 fb5 fa6 fb6 fa7 fb7 fa8 fb8 fa9 fb9 fa10 fb10
                refine (slP_t _ hc hc2 HC).mono ?_
                rintro e w1 ⟨rfl, hb⟩
                replace bA := bA.keep hb
                replace bB := bB.keep hb
                replace hg := hg.keep hb
                replace hc := hc.keep hb
                replace hp := hp.keep hb
                replace hm := hm.keep hb
                replace hg2 := hg2.keep hb
                replace hc2 := hc2.keep hb
                replace hp2 := hp2.keep hb
                replace hm2 := hm2.keep hb
                replace B0 := below_step B0 hb
                clear hb
                have fa0 := bA.c 0 rfl
                have fb0 := bB.c 0 rfl
                have fa1 := bA.c 1 rfl
                have fb1 := bB.c 1 rfl
                have fa2 := bA.c 2 rfl
                have fb2 := bB.c 2 rfl
                have fa3 := bA.c 3 rfl
                have fb3 := bB.c 3 rfl
                have fa4 := bA.c 4 rfl
                have fb4 := bB.c 4 rfl
                have fa5 := bA.c 5 rfl
                have fb5 := bB.c 5 rfl
                have fa6 := bA.c 6 rfl
                have fb6 := bB.c 6 rfl
                have fa7 := bA.c 7 rfl
                have fb7 := bB.c 7 rfl
                have fa8 := bA.c 8 rfl
                have fb8 := bB.c 8 rfl
                have fa9 := bA.c 9 rfl
                have fb9 := bB.c 9 rfl
                have fa10 := bA.c 10 rfl
                have fb10 := bB.c 10 rfl
                go_wp2_with fail
                go_ret
                exact ⟨ret_bool ((decide_eq_false (fun g => H6.out g.2.2.2.2.2.2.1)).symm), B0⟩
            · have HG : Hid (decide (gs = gs2) = false) := Lib.hid (by simp [h5])
              have H5 := Lib.hid h5
              clear h5
              go_enter Tryd.func65, Tryd.ntmps65
              go_wp2_with fail
              refine (slP_t _ hg hg2 HG).mono ?_
              rintro e w1 ⟨rfl, hb⟩
              replace bA := bA.keep hb
              replace bB := bB.keep hb
              replace hg := hg.keep hb
              replace hc := hc.keep hb
              replace hp := hp.keep hb
              replace hm := hm.keep hb
              replace hg2 := hg2.keep hb
              replace hc2 := hc2.keep hb
              replace hp2 := hp2.keep hb
              replace hm2 := hm2.keep hb
              replace B0 := below_step B0 hb
              clear hb
              have fa0 := bA.c 0 rfl
              have fb0 := bB.c 0 rfl
              have fa1 := bA.c 1 rfl
              have fb1 := bB.c 1 rfl
              have fa2 := bA.c 2 rfl
              have fb2 := bB.c 2 rfl
              have fa3 := bA.c 3 rfl
              have fb3 := bB.c 3 rfl
              have fa4 := bA.c 4 rfl
              have fb4 := bB.c 4 rfl
              have fa5 := bA.c 5 rfl
              have fb5 := bB.c 5 rfl
              have fa6 := bA.c 6 rfl
              have fb6 := bB.c 6 rfl
              have fa7 := bA.c 7 rfl
              have fb7 := bB.c 7 rfl
              have fa8 := bA.c 8 rfl
              have fb8 := bB.c 8 rfl
              have fa9 := bA.c 9 rfl
              have fb9 := bB.c 9 rfl
              have fa10 := bA.c 10 rfl
              have fb10 := bB.c 10 rfl
              go_wp2_with fail
              go_ret
              exact ⟨ret_bool ((decide_eq_false (fun g => H5.out g.2.2.2.2.2.1)).symm), B0⟩
          · have e4 : (er == er2) = false := beq_eq_false_iff_ne.mpr h4
            have H4 := Lib.hid h4
            clear h4
            go_enter Tryd.func65, Tryd.ntmps65
            go_wp2_with fail
            go_ret
            exact ⟨ret_bool ((decide_eq_false (fun g => H4.out g.2.2.2.2.1)).symm), B0⟩
        · have e3 : (ix == ix2) = false := beq_eq_false_iff_ne.mpr h3
          have H3 := Lib.hid h3
          clear h3
          go_enter Tryd.func65, Tryd.ntmps65
          go_wp2_with fail
          go_ret
          exact ⟨ret_bool ((decide_eq_false (fun g => H3.out g.2.2.2.1)).symm), B0⟩
      · have e2 : (ho == ho2) = false := beq_eq_false_iff_ne.mpr h2
        have H2 := Lib.hid h2
        clear h2
        go_enter Tryd.func65, Tryd.ntmps65
        go_wp2_with fail
        go_ret
        exact ⟨ret_bool ((decide_eq_false (fun g => H2.out g.2.2.1)).symm), B0⟩
    · have e1 : (sa == sa2) = false := beq_eq_false_iff_ne.mpr h1
      have H1 := Lib.hid h1
      clear h1
      go_enter Tryd.func65, Tryd.ntmps65
      go_wp2_with fail
      go_ret
      exact ⟨ret_bool ((decide_eq_false (fun g => H1.out g.2.1)).symm), B0⟩
  · have e0 : (kn == kn2) = false := beq_eq_false_iff_ne.mpr h0
    have H0 := Lib.hid h0
    clear h0
    go_enter Tryd.func65, Tryd.ntmps65
    go_wp2_with fail
    go_ret
    exact ⟨ret_bool ((decide_eq_false (fun g => H0.out g.1)).symm), B0⟩
end Go.Proofs.YtcmbajphholliabDoor
