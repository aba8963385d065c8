/-
  WithComm, of the program and of the model. Conditions: those in each contract.
-/
import Derived.Test.YtcmbajphholliabDoorI20
namespace Go.Proofs.YtcmbajphholliabDoor
open Go.ChangeShapes Go.WideShapes Go.ChangeAt Go.RowKit Go.BigFrame Go.Joins
set_option linter.unusedVariables false
set_option maxRecDepth 100000

theorem insL_len (l : List Int) (n : Int) : (insL l n).length ≤ 2 * l.length + 1 := by
  unfold insL
  have h1 := List.length_filter_le (fun x => decide (x < n)) l
  have h2 := List.length_filter_le (fun x => decide (n < x)) l
  rw [List.length_append, List.length_cons]
  omega
theorem insL_bd (l : List Int) (n : Int) (h : ∀ x ∈ l, -9223372036854775808 ≤ x ∧ x ≤ 9223372036854775807) (hn : I64 n) : ∀ x ∈ insL l n, -9223372036854775808 ≤ x ∧ x ≤ 9223372036854775807 := by
  intro x hx
  unfold insL at hx
  rcases List.mem_append.1 hx with h1 | h1
  · exact h x (List.mem_filter.1 h1).1
  · rcases List.mem_cons.1 h1 with rfl | h1
    · exact hn
    · exact h x (List.mem_filter.1 h1).1
theorem insert_t {l L : List Int} {n : Int} (H : Hid (insL l n = L)) (v : Value) (w : World) (h : RdI w v l) (hs : l.Pairwise (· < ·)) (hn : I64 n) (hl : l.length ≤ 1048576) : Calls Tryd.prog 101 #[v, .int .i64 n] w (NewI w L) := H.out ▸ insert_loop_any v l n w h hs hn hl
theorem with_t {l L : List Int} {x : Int} (H : Hid (insL l x = L)) (v : Value) (w : World) (h : RdI w v l) (hn : l.length ≤ 4) (hs : l.Pairwise (· < ·)) (hx : I64 x) (hcap : ∃ a c, v = .slice a l.length c ∧ l.length ≤ c) :
    Calls Tryd.prog 54 #[v, .int .i64 x] w (NewI w L) := H.out ▸ with_any v l x w h hn hs hx hcap
theorem iwithc_any (pv cv : Value) (p c : List Int) (pr bw an : Int) (w : World) (hp : RdI w pv p) (hc : RdI w cv c) (han : I64 an) (hcap : ∃ a cc, cv = .slice a c.length cc ∧ c.length ≤ cc) :
    Calls Tryd.prog 23 #[.agg #[pv, .int .i64 pr, cv, .int .i64 bw], .int .i64 an] w (NewA2 w (if (aokB p pr c bw && asB an) then p else []) (if (aokB p pr c bw && asB an) then pr else 0) (if (aokB p pr c bw && asB an) then (if (insL c an).length ≤ 4 then insL c an else c) else []) (if (aokB p pr c bw && asB an) then bw else 0) ((aokB p pr c bw && asB an) && decide ((insL c an).length ≤ 4))) := by
  obtain ⟨pa, pd, rfl⟩ := hp.len
  obtain ⟨ca, cd, rfl⟩ := hc.len
  cases hA : aokB p pr c bw
  · rw [Bool.false_and]
    simp only [Bool.false_eq_true, if_false, Bool.false_and]
    have HA := Lib.hid hA
    clear hA
    have E0 : Below w.heap.size w w := Below.refl _ _
    have bA := Bx.new (w) (.slice pa p.length pd) (.int .i64 pr) (.slice ca c.length cd) (.int .i64 bw) 36 (w.heap.size) rfl
    replace E0 := E0.alloc (Nat.le_refl _) (.cells #[.slice pa p.length pd, .int .i64 pr, .slice ca c.length cd, .int .i64 bw] 36)
    have zR : ((w).alloc (.cells #[.slice pa p.length pd, .int .i64 pr, .slice ca c.length cd, .int .i64 bw] 36)).heap.size = w.heap.size + 1 := by simp
    have bR := Bx.new ((w).alloc (.cells #[.slice pa p.length pd, .int .i64 pr, .slice ca c.length cd, .int .i64 bw] 36)) (.slice none 0 0) (.int .i64 0) (.slice none 0 0) (.int .i64 0) 36 (w.heap.size + 1) zR.symm
    replace bA := bA.alloc (.cells #[.slice none 0 0, .int .i64 0, .slice none 0 0, .int .i64 0] 36)
    replace E0 := E0.alloc (by rw [zR]; omega) (.cells #[.slice none 0 0, .int .i64 0, .slice none 0 0, .int .i64 0] 36)
    clear zR
    have zz : (((w).alloc (.cells #[.slice pa p.length pd, .int .i64 pr, .slice ca c.length cd, .int .i64 bw] 36)).alloc (.cells #[.slice none 0 0, .int .i64 0, .slice none 0 0, .int .i64 0] 36)).heap.size = w.heap.size + 1 + 1 := by simp
    have hp1 := hp.keep E0
    have hc1 := hc.keep E0
    go_enter Tryd.func23, Tryd.ntmps23
    go_wp2_with fail
    obtain ⟨A, eA⟩ : ∃ A, A = w.heap.size := ⟨_, rfl⟩
    rw [← eA] at bA
    obtain ⟨R, eR⟩ : ∃ R, R = w.heap.size + 1 := ⟨_, rfl⟩
    rw [← eR] at bR
    try rw [← eR]
    try rw [← eA]
    have hwA : w.heap.size ≤ A := by omega
    have htA : A < w.heap.size + 1 + 1 := by omega
    have nAR : A ≠ R := by omega
    have hwR : w.heap.size ≤ R := by omega
    have htR : R < w.heap.size + 1 + 1 := by omega
    have nRA : R ≠ A := by omega
    clear eA eR
    have E0z := E0.size
    refine (iaok_t _ hp1 hc1 HA).mono ?_
    rintro e w1 ⟨rfl, hb⟩
    replace bA := bA.keep hb
    replace bR := bR.keep hb
    replace hp1 := hp1.keep hb
    replace hc1 := hc1.keep hb
    replace E0 := below_step E0 hb
    clear hb
    have E0w1 := E0.size
    clear E0z
    have lA := bA.lt
    have kA0 := bA.c0
    have qA0 := bA.f0
    have kA1 := bA.c1
    have qA1 := bA.f1
    have kA2 := bA.c2
    have qA2 := bA.f2
    have kA3 := bA.c3
    have qA3 := bA.f3
    have lR := bR.lt
    have kR0 := bR.c0
    have qR0 := bR.f0
    have kR1 := bR.c1
    have qR1 := bR.f1
    have kR2 := bR.c2
    have qR2 := bR.f2
    have kR3 := bR.c3
    have qR3 := bR.f3
    go_wp2_with fail
    clear kA0 qA0 kA1 qA1 kA2 qA2 kA3 qA3 kR0 qR0 kR1 qR1 kR2 qR2 kR3 qR3 lA lR
    have bE := ((((bR.set0 (u := .slice none 0 0)).set1 (u := .int .i64 0)).set2 (u := .slice none 0 0)).set3 (u := .int .i64 0))
    have e0 := bE.c0
    have e1 := bE.c1
    have e2 := bE.c2
    have e3 := bE.c3
    exact bodyPost_ret (v := .tuple #[.agg #[.slice none 0 0, .int .i64 0, .slice none 0 0, .int .i64 0], .bool false]) (by simp [results, Tryd.results23, go_sem, e0, e1, e2, e3]) rfl
      ⟨_, _, _, _, rfl, (World.ownsRow_nil _ _ _ _), (World.ownsRow_nil _ _ _ _), apart_nil _, ((((E0.setCell (p := ⟨R, 0, none⟩) hwR (.slice none 0 0)).setCell (p := ⟨R, 1, none⟩) hwR (.int .i64 0)).setCell (p := ⟨R, 2, none⟩) hwR (.slice none 0 0)).setCell (p := ⟨R, 3, none⟩) hwR (.int .i64 0))⟩
  · obtain ⟨hpl, hcl, hasc, -, -⟩ := aok_p hA
    have hpair := asc_pair hasc
    have HA := Lib.hid hA
    clear hA hasc
    rw [Bool.true_and]
    cases hN : asB an
    · simp only [Bool.false_eq_true, if_false, Bool.false_and]
      have HN := Lib.hid hN
      clear hN
      have E0 : Below w.heap.size w w := Below.refl _ _
      have bA := Bx.new (w) (.slice pa p.length pd) (.int .i64 pr) (.slice ca c.length cd) (.int .i64 bw) 36 (w.heap.size) rfl
      replace E0 := E0.alloc (Nat.le_refl _) (.cells #[.slice pa p.length pd, .int .i64 pr, .slice ca c.length cd, .int .i64 bw] 36)
      have zR : ((w).alloc (.cells #[.slice pa p.length pd, .int .i64 pr, .slice ca c.length cd, .int .i64 bw] 36)).heap.size = w.heap.size + 1 := by simp
      have bR := Bx.new ((w).alloc (.cells #[.slice pa p.length pd, .int .i64 pr, .slice ca c.length cd, .int .i64 bw] 36)) (.slice none 0 0) (.int .i64 0) (.slice none 0 0) (.int .i64 0) 36 (w.heap.size + 1) zR.symm
      replace bA := bA.alloc (.cells #[.slice none 0 0, .int .i64 0, .slice none 0 0, .int .i64 0] 36)
      replace E0 := E0.alloc (by rw [zR]; omega) (.cells #[.slice none 0 0, .int .i64 0, .slice none 0 0, .int .i64 0] 36)
      clear zR
      have zz : (((w).alloc (.cells #[.slice pa p.length pd, .int .i64 pr, .slice ca c.length cd, .int .i64 bw] 36)).alloc (.cells #[.slice none 0 0, .int .i64 0, .slice none 0 0, .int .i64 0] 36)).heap.size = w.heap.size + 1 + 1 := by simp
      have hp1 := hp.keep E0
      have hc1 := hc.keep E0
      go_enter Tryd.func23, Tryd.ntmps23
      go_wp2_with fail
      obtain ⟨A, eA⟩ : ∃ A, A = w.heap.size := ⟨_, rfl⟩
      rw [← eA] at bA
      obtain ⟨R, eR⟩ : ∃ R, R = w.heap.size + 1 := ⟨_, rfl⟩
      rw [← eR] at bR
      try rw [← eR]
      try rw [← eA]
      have hwA : w.heap.size ≤ A := by omega
      have htA : A < w.heap.size + 1 + 1 := by omega
      have nAR : A ≠ R := by omega
      have hwR : w.heap.size ≤ R := by omega
      have htR : R < w.heap.size + 1 + 1 := by omega
      have nRA : R ≠ A := by omega
      clear eA eR
      have E0z := E0.size
      refine (iaok_t _ hp1 hc1 HA).mono ?_
      rintro e w1 ⟨rfl, hb⟩
      replace bA := bA.keep hb
      replace bR := bR.keep hb
      replace hp1 := hp1.keep hb
      replace hc1 := hc1.keep hb
      replace E0 := below_step E0 hb
      clear hb
      have E0w1 := E0.size
      clear E0z
      have lA := bA.lt
      have kA0 := bA.c0
      have qA0 := bA.f0
      have kA1 := bA.c1
      have qA1 := bA.f1
      have kA2 := bA.c2
      have qA2 := bA.f2
      have kA3 := bA.c3
      have qA3 := bA.f3
      have lR := bR.lt
      have kR0 := bR.c0
      have qR0 := bR.f0
      have kR1 := bR.c1
      have qR1 := bR.f1
      have kR2 := bR.c2
      have qR2 := bR.f2
      have kR3 := bR.c3
      have qR3 := bR.f3
      go_wp2_with fail
      clear kA0 qA0 kA1 qA1 kA2 qA2 kA3 qA3 kR0 qR0 kR1 qR1 kR2 qR2 kR3 qR3 lA lR
      refine (numok_t _ HN).mono ?_
      rintro e w2 ⟨rfl, rfl⟩
      have lA := bA.lt
      have kA0 := bA.c0
      have qA0 := bA.f0
      have kA1 := bA.c1
      have qA1 := bA.f1
      have kA2 := bA.c2
      have qA2 := bA.f2
      have kA3 := bA.c3
      have qA3 := bA.f3
      have lR := bR.lt
      have kR0 := bR.c0
      have qR0 := bR.f0
      have kR1 := bR.c1
      have qR1 := bR.f1
      have kR2 := bR.c2
      have qR2 := bR.f2
      have kR3 := bR.c3
      have qR3 := bR.f3
      go_wp2_with fail
      clear kA0 qA0 kA1 qA1 kA2 qA2 kA3 qA3 kR0 qR0 kR1 qR1 kR2 qR2 kR3 qR3 lA lR
      have bE := ((((bR.set0 (u := .slice none 0 0)).set1 (u := .int .i64 0)).set2 (u := .slice none 0 0)).set3 (u := .int .i64 0))
      have e0 := bE.c0
      have e1 := bE.c1
      have e2 := bE.c2
      have e3 := bE.c3
      exact bodyPost_ret (v := .tuple #[.agg #[.slice none 0 0, .int .i64 0, .slice none 0 0, .int .i64 0], .bool false]) (by simp [results, Tryd.results23, go_sem, e0, e1, e2, e3]) rfl
        ⟨_, _, _, _, rfl, (World.ownsRow_nil _ _ _ _), (World.ownsRow_nil _ _ _ _), apart_nil _, ((((E0.setCell (p := ⟨R, 0, none⟩) hwR (.slice none 0 0)).setCell (p := ⟨R, 1, none⟩) hwR (.int .i64 0)).setCell (p := ⟨R, 2, none⟩) hwR (.slice none 0 0)).setCell (p := ⟨R, 3, none⟩) hwR (.int .i64 0))⟩
    · simp only [if_true, Bool.true_and]
      have HN := Lib.hid hN
      clear hN
      obtain ⟨L, hL⟩ : ∃ L, insL c an = L := ⟨_, rfl⟩
      have hLn : L.length ≤ 9 := by rw [← hL]; have := insL_len c an; omega
      rw [hL]
      have HL := Lib.hid hL
      clear hL
      by_cases h4 : L.length ≤ 4
      · rw [if_pos h4, show decide (L.length ≤ 4) = true by simp [h4]]
        have g4 : ¬ (4 : Int) < (L.length : Int) := by omega
        clear h4
        have E0 : Below w.heap.size w w := Below.refl _ _
        have bA := Bx.new (w) (.slice pa p.length pd) (.int .i64 pr) (.slice ca c.length cd) (.int .i64 bw) 36 (w.heap.size) rfl
        replace E0 := E0.alloc (Nat.le_refl _) (.cells #[.slice pa p.length pd, .int .i64 pr, .slice ca c.length cd, .int .i64 bw] 36)
        have zR : ((w).alloc (.cells #[.slice pa p.length pd, .int .i64 pr, .slice ca c.length cd, .int .i64 bw] 36)).heap.size = w.heap.size + 1 := by simp
        have bR := Bx.new ((w).alloc (.cells #[.slice pa p.length pd, .int .i64 pr, .slice ca c.length cd, .int .i64 bw] 36)) (.slice none 0 0) (.int .i64 0) (.slice none 0 0) (.int .i64 0) 36 (w.heap.size + 1) zR.symm
        replace bA := bA.alloc (.cells #[.slice none 0 0, .int .i64 0, .slice none 0 0, .int .i64 0] 36)
        replace E0 := E0.alloc (by rw [zR]; omega) (.cells #[.slice none 0 0, .int .i64 0, .slice none 0 0, .int .i64 0] 36)
        clear zR
        have zz : (((w).alloc (.cells #[.slice pa p.length pd, .int .i64 pr, .slice ca c.length cd, .int .i64 bw] 36)).alloc (.cells #[.slice none 0 0, .int .i64 0, .slice none 0 0, .int .i64 0] 36)).heap.size = w.heap.size + 1 + 1 := by simp
        have hp1 := hp.keep E0
        have hc1 := hc.keep E0
        go_enter Tryd.func23, Tryd.ntmps23
        go_wp2_with fail
        obtain ⟨A, eA⟩ : ∃ A, A = w.heap.size := ⟨_, rfl⟩
        rw [← eA] at bA
        obtain ⟨R, eR⟩ : ∃ R, R = w.heap.size + 1 := ⟨_, rfl⟩
        rw [← eR] at bR
        try rw [← eR]
        try rw [← eA]
        have hwA : w.heap.size ≤ A := by omega
        have htA : A < w.heap.size + 1 + 1 := by omega
        have nAR : A ≠ R := by omega
        have hwR : w.heap.size ≤ R := by omega
        have htR : R < w.heap.size + 1 + 1 := by omega
        have nRA : R ≠ A := by omega
        clear eA eR
        have E0z := E0.size
        refine (iaok_t _ hp1 hc1 HA).mono ?_
        rintro e w1 ⟨rfl, hb⟩
        replace bA := bA.keep hb
        replace bR := bR.keep hb
        replace hp1 := hp1.keep hb
        replace hc1 := hc1.keep hb
        replace E0 := below_step E0 hb
        clear hb
        have E0w1 := E0.size
        clear E0z
        have lA := bA.lt
        have kA0 := bA.c0
        have qA0 := bA.f0
        have kA1 := bA.c1
        have qA1 := bA.f1
        have kA2 := bA.c2
        have qA2 := bA.f2
        have kA3 := bA.c3
        have qA3 := bA.f3
        have lR := bR.lt
        have kR0 := bR.c0
        have qR0 := bR.f0
        have kR1 := bR.c1
        have qR1 := bR.f1
        have kR2 := bR.c2
        have qR2 := bR.f2
        have kR3 := bR.c3
        have qR3 := bR.f3
        go_wp2_with fail
        clear kA0 qA0 kA1 qA1 kA2 qA2 kA3 qA3 kR0 qR0 kR1 qR1 kR2 qR2 kR3 qR3 lA lR
        refine (numok_t _ HN).mono ?_
        rintro e w2 ⟨rfl, rfl⟩
        have E0w2 := E0.size
        have lA := bA.lt
        have kA0 := bA.c0
        have qA0 := bA.f0
        have kA1 := bA.c1
        have qA1 := bA.f1
        have kA2 := bA.c2
        have qA2 := bA.f2
        have kA3 := bA.c3
        have qA3 := bA.f3
        have lR := bR.lt
        have kR0 := bR.c0
        have qR0 := bR.f0
        have kR1 := bR.c1
        have qR1 := bR.f1
        have kR2 := bR.c2
        have qR2 := bR.f2
        have kR3 := bR.c3
        have qR3 := bR.f3
        go_wp2_with fail
        clear kA0 qA0 kA1 qA1 kA2 qA2 kA3 qA3 kR0 qR0 kR1 qR1 kR2 qR2 kR3 qR3 lA lR
        have E0z := E0.size
        refine (icopy_any _ _ p c pr bw _ hp1 hc1 (by omega) (by omega)).mono ?_
        rintro e w3 ⟨a1, d1, b1, f1, rfl, ho, hq, hap, hb⟩
        have lw3 := hb.size
        have shoA := OwnI.sepLt ho bA.lt
        have shoR := OwnI.sepLt ho bR.lt
        have shqA := OwnI.sepLt hq bA.lt
        have shqR := OwnI.sepLt hq bR.lt
        replace bA := bA.keep hb
        replace bR := bR.keep hb
        replace hp1 := hp1.keep hb
        replace hc1 := hc1.keep hb
        replace E0 := below_step E0 hb
        clear hb
        replace ho := ho.mono E0z
        replace hq := hq.mono E0z
        have E0w3 := E0.size
        clear E0z
        have lA := bA.lt
        have kA0 := bA.c0
        have qA0 := bA.f0
        have kA1 := bA.c1
        have qA1 := bA.f1
        have kA2 := bA.c2
        have qA2 := bA.f2
        have kA3 := bA.c3
        have qA3 := bA.f3
        have lR := bR.lt
        have kR0 := bR.c0
        have qR0 := bR.f0
        have kR1 := bR.c1
        have qR1 := bR.f1
        have kR2 := bR.c2
        have qR2 := bR.f2
        have kR3 := bR.c3
        have qR3 := bR.f3
        go_wp2_with fail
        clear kA0 qA0 kA1 qA1 kA2 qA2 kA3 qA3 kR0 qR0 kR1 qR1 kR2 qR2 kR3 qR3 lA lR
        obtain ⟨O, eO⟩ : ∃ O, O = w3.heap.size := ⟨_, rfl⟩
        rw [← eO]
        have bO := Bx.new w3 (.slice a1 p.length d1) (.int .i64 pr) (.slice b1 c.length f1) (.int .i64 bw) 36 O eO
        have hwO : w.heap.size ≤ O := by rw [eO]; exact E0.size
        have nAO : A ≠ O := by have := bA.lt; omega
        have nOA : O ≠ A := by have := bA.lt; omega
        have nRO : R ≠ O := by have := bR.lt; omega
        have nOR : O ≠ R := by have := bR.lt; omega
        have shoO := OwnI.sepGe ho (Nat.le_of_eq eO.symm)
        have shqO := OwnI.sepGe hq (Nat.le_of_eq eO.symm)
        clear eO
        replace bA := bA.alloc (.cells #[.slice a1 p.length d1, .int .i64 pr, .slice b1 c.length f1, .int .i64 bw] 36)
        replace bR := bR.alloc (.cells #[.slice a1 p.length d1, .int .i64 pr, .slice b1 c.length f1, .int .i64 bw] 36)
        replace ho := ho.alloc (.cells #[.slice a1 p.length d1, .int .i64 pr, .slice b1 c.length f1, .int .i64 bw] 36)
        replace hq := hq.alloc (.cells #[.slice a1 p.length d1, .int .i64 pr, .slice b1 c.length f1, .int .i64 bw] 36)
        replace hp1 := hp1.alloc (.cells #[.slice a1 p.length d1, .int .i64 pr, .slice b1 c.length f1, .int .i64 bw] 36)
        replace hc1 := hc1.alloc (.cells #[.slice a1 p.length d1, .int .i64 pr, .slice b1 c.length f1, .int .i64 bw] 36)
        replace E0 := E0.alloc E0.size (.cells #[.slice a1 p.length d1, .int .i64 pr, .slice b1 c.length f1, .int .i64 bw] 36)
        have E0z := E0.size
        refine (with_t HL _ _ hc1 hcl hpair han hcap).mono ?_
        rintro e w4 ⟨a2, d2, rfl, hn2, hb⟩
        have ap_ho_hn2 := apartI ho hn2 (Nat.le_refl _)
        have ap_hq_hn2 := apartI hq hn2 (Nat.le_refl _)
        have lw4 := hb.size
        have shn2A := OwnI.sepLt hn2 bA.lt
        have shn2R := OwnI.sepLt hn2 bR.lt
        have shn2O := OwnI.sepLt hn2 bO.lt
        replace bA := bA.keep hb
        replace bR := bR.keep hb
        replace bO := bO.keep hb
        replace ho := ho.keep hb
        replace hq := hq.keep hb
        replace hp1 := hp1.keep hb
        replace hc1 := hc1.keep hb
        replace E0 := below_step E0 hb
        clear hb
        replace hn2 := hn2.mono E0z
        have E0w4 := E0.size
        clear E0z
        have lA := bA.lt
        have kA0 := bA.c0
        have qA0 := bA.f0
        have kA1 := bA.c1
        have qA1 := bA.f1
        have kA2 := bA.c2
        have qA2 := bA.f2
        have kA3 := bA.c3
        have qA3 := bA.f3
        have lR := bR.lt
        have kR0 := bR.c0
        have qR0 := bR.f0
        have kR1 := bR.c1
        have qR1 := bR.f1
        have kR2 := bR.c2
        have qR2 := bR.f2
        have kR3 := bR.c3
        have qR3 := bR.f3
        have lO := bO.lt
        have kO0 := bO.c0
        have qO0 := bO.f0
        have kO1 := bO.c1
        have qO1 := bO.f1
        have kO2 := bO.c2
        have qO2 := bO.f2
        have kO3 := bO.c3
        have qO3 := bO.f3
        go_wp2_with fail
        clear kA0 qA0 kA1 qA1 kA2 qA2 kA3 qA3 kR0 qR0 kR1 qR1 kR2 qR2 kR3 qR3 kO0 qO0 kO1 qO1 kO2 qO2 kO3 qO3 lA lR lO
        have bE := (((((bR.far (C := O) (o := 2) (u := .slice a2 L.length d2) nRO).set0 (u := .slice a1 p.length d1)).set1 (u := .int .i64 pr)).set2 (u := .slice a2 L.length d2)).set3 (u := .int .i64 bw))
        have e0 := bE.c0
        have e1 := bE.c1
        have e2 := bE.c2
        have e3 := bE.c3
        exact bodyPost_ret (v := .tuple #[.agg #[.slice a1 p.length d1, .int .i64 pr, .slice a2 L.length d2, .int .i64 bw], .bool true]) (by simp [results, Tryd.results23, go_sem, e0, e1, e2, e3]) rfl
          ⟨_, _, _, _, rfl, (((((ho.farN (o := 2) shoO).farN (o := 0) shoR).farN (o := 1) shoR).farN (o := 2) shoR).farN (o := 3) shoR), (((((hn2.farN (o := 2) shn2O).farN (o := 0) shn2R).farN (o := 1) shn2R).farN (o := 2) shn2R).farN (o := 3) shn2R), ap_ho_hn2, (((((E0.setCell (p := ⟨O, 2, none⟩) hwO (.slice a2 L.length d2)).setCell (p := ⟨R, 0, none⟩) hwR (.slice a1 p.length d1)).setCell (p := ⟨R, 1, none⟩) hwR (.int .i64 pr)).setCell (p := ⟨R, 2, none⟩) hwR (.slice a2 L.length d2)).setCell (p := ⟨R, 3, none⟩) hwR (.int .i64 bw))⟩
      · rw [if_neg h4, show decide (L.length ≤ 4) = false by simp [h4]]
        have g4 : (4 : Int) < (L.length : Int) := by omega
        clear h4
        have E0 : Below w.heap.size w w := Below.refl _ _
        have bA := Bx.new (w) (.slice pa p.length pd) (.int .i64 pr) (.slice ca c.length cd) (.int .i64 bw) 36 (w.heap.size) rfl
        replace E0 := E0.alloc (Nat.le_refl _) (.cells #[.slice pa p.length pd, .int .i64 pr, .slice ca c.length cd, .int .i64 bw] 36)
        have zR : ((w).alloc (.cells #[.slice pa p.length pd, .int .i64 pr, .slice ca c.length cd, .int .i64 bw] 36)).heap.size = w.heap.size + 1 := by simp
        have bR := Bx.new ((w).alloc (.cells #[.slice pa p.length pd, .int .i64 pr, .slice ca c.length cd, .int .i64 bw] 36)) (.slice none 0 0) (.int .i64 0) (.slice none 0 0) (.int .i64 0) 36 (w.heap.size + 1) zR.symm
        replace bA := bA.alloc (.cells #[.slice none 0 0, .int .i64 0, .slice none 0 0, .int .i64 0] 36)
        replace E0 := E0.alloc (by rw [zR]; omega) (.cells #[.slice none 0 0, .int .i64 0, .slice none 0 0, .int .i64 0] 36)
        clear zR
        have zz : (((w).alloc (.cells #[.slice pa p.length pd, .int .i64 pr, .slice ca c.length cd, .int .i64 bw] 36)).alloc (.cells #[.slice none 0 0, .int .i64 0, .slice none 0 0, .int .i64 0] 36)).heap.size = w.heap.size + 1 + 1 := by simp
        have hp1 := hp.keep E0
        have hc1 := hc.keep E0
        go_enter Tryd.func23, Tryd.ntmps23
        go_wp2_with fail
        obtain ⟨A, eA⟩ : ∃ A, A = w.heap.size := ⟨_, rfl⟩
        rw [← eA] at bA
        obtain ⟨R, eR⟩ : ∃ R, R = w.heap.size + 1 := ⟨_, rfl⟩
        rw [← eR] at bR
        try rw [← eR]
        try rw [← eA]
        have hwA : w.heap.size ≤ A := by omega
        have htA : A < w.heap.size + 1 + 1 := by omega
        have nAR : A ≠ R := by omega
        have hwR : w.heap.size ≤ R := by omega
        have htR : R < w.heap.size + 1 + 1 := by omega
        have nRA : R ≠ A := by omega
        clear eA eR
        have E0z := E0.size
        refine (iaok_t _ hp1 hc1 HA).mono ?_
        rintro e w1 ⟨rfl, hb⟩
        replace bA := bA.keep hb
        replace bR := bR.keep hb
        replace hp1 := hp1.keep hb
        replace hc1 := hc1.keep hb
        replace E0 := below_step E0 hb
        clear hb
        have E0w1 := E0.size
        clear E0z
        have lA := bA.lt
        have kA0 := bA.c0
        have qA0 := bA.f0
        have kA1 := bA.c1
        have qA1 := bA.f1
        have kA2 := bA.c2
        have qA2 := bA.f2
        have kA3 := bA.c3
        have qA3 := bA.f3
        have lR := bR.lt
        have kR0 := bR.c0
        have qR0 := bR.f0
        have kR1 := bR.c1
        have qR1 := bR.f1
        have kR2 := bR.c2
        have qR2 := bR.f2
        have kR3 := bR.c3
        have qR3 := bR.f3
        go_wp2_with fail
        clear kA0 qA0 kA1 qA1 kA2 qA2 kA3 qA3 kR0 qR0 kR1 qR1 kR2 qR2 kR3 qR3 lA lR
        refine (numok_t _ HN).mono ?_
        rintro e w2 ⟨rfl, rfl⟩
        have E0w2 := E0.size
        have lA := bA.lt
        have kA0 := bA.c0
        have qA0 := bA.f0
        have kA1 := bA.c1
        have qA1 := bA.f1
        have kA2 := bA.c2
        have qA2 := bA.f2
        have kA3 := bA.c3
        have qA3 := bA.f3
        have lR := bR.lt
        have kR0 := bR.c0
        have qR0 := bR.f0
        have kR1 := bR.c1
        have qR1 := bR.f1
        have kR2 := bR.c2
        have qR2 := bR.f2
        have kR3 := bR.c3
        have qR3 := bR.f3
        go_wp2_with fail
        clear kA0 qA0 kA1 qA1 kA2 qA2 kA3 qA3 kR0 qR0 kR1 qR1 kR2 qR2 kR3 qR3 lA lR
        have E0z := E0.size
        refine (icopy_any _ _ p c pr bw _ hp1 hc1 (by omega) (by omega)).mono ?_
        rintro e w3 ⟨a1, d1, b1, f1, rfl, ho, hq, hap, hb⟩
        have lw3 := hb.size
        have shoA := OwnI.sepLt ho bA.lt
        have shoR := OwnI.sepLt ho bR.lt
        have shqA := OwnI.sepLt hq bA.lt
        have shqR := OwnI.sepLt hq bR.lt
        replace bA := bA.keep hb
        replace bR := bR.keep hb
        replace hp1 := hp1.keep hb
        replace hc1 := hc1.keep hb
        replace E0 := below_step E0 hb
        clear hb
        replace ho := ho.mono E0z
        replace hq := hq.mono E0z
        have E0w3 := E0.size
        clear E0z
        have lA := bA.lt
        have kA0 := bA.c0
        have qA0 := bA.f0
        have kA1 := bA.c1
        have qA1 := bA.f1
        have kA2 := bA.c2
        have qA2 := bA.f2
        have kA3 := bA.c3
        have qA3 := bA.f3
        have lR := bR.lt
        have kR0 := bR.c0
        have qR0 := bR.f0
        have kR1 := bR.c1
        have qR1 := bR.f1
        have kR2 := bR.c2
        have qR2 := bR.f2
        have kR3 := bR.c3
        have qR3 := bR.f3
        go_wp2_with fail
        clear kA0 qA0 kA1 qA1 kA2 qA2 kA3 qA3 kR0 qR0 kR1 qR1 kR2 qR2 kR3 qR3 lA lR
        obtain ⟨O, eO⟩ : ∃ O, O = w3.heap.size := ⟨_, rfl⟩
        rw [← eO]
        have bO := Bx.new w3 (.slice a1 p.length d1) (.int .i64 pr) (.slice b1 c.length f1) (.int .i64 bw) 36 O eO
        have hwO : w.heap.size ≤ O := by rw [eO]; exact E0.size
        have nAO : A ≠ O := by have := bA.lt; omega
        have nOA : O ≠ A := by have := bA.lt; omega
        have nRO : R ≠ O := by have := bR.lt; omega
        have nOR : O ≠ R := by have := bR.lt; omega
        have shoO := OwnI.sepGe ho (Nat.le_of_eq eO.symm)
        have shqO := OwnI.sepGe hq (Nat.le_of_eq eO.symm)
        clear eO
        replace bA := bA.alloc (.cells #[.slice a1 p.length d1, .int .i64 pr, .slice b1 c.length f1, .int .i64 bw] 36)
        replace bR := bR.alloc (.cells #[.slice a1 p.length d1, .int .i64 pr, .slice b1 c.length f1, .int .i64 bw] 36)
        replace ho := ho.alloc (.cells #[.slice a1 p.length d1, .int .i64 pr, .slice b1 c.length f1, .int .i64 bw] 36)
        replace hq := hq.alloc (.cells #[.slice a1 p.length d1, .int .i64 pr, .slice b1 c.length f1, .int .i64 bw] 36)
        replace hp1 := hp1.alloc (.cells #[.slice a1 p.length d1, .int .i64 pr, .slice b1 c.length f1, .int .i64 bw] 36)
        replace hc1 := hc1.alloc (.cells #[.slice a1 p.length d1, .int .i64 pr, .slice b1 c.length f1, .int .i64 bw] 36)
        replace E0 := E0.alloc E0.size (.cells #[.slice a1 p.length d1, .int .i64 pr, .slice b1 c.length f1, .int .i64 bw] 36)
        have E0z := E0.size
        refine (with_t HL _ _ hc1 hcl hpair han hcap).mono ?_
        rintro e w4 ⟨a2, d2, rfl, hn2, hb⟩
        have ap_ho_hn2 := apartI ho hn2 (Nat.le_refl _)
        have ap_hq_hn2 := apartI hq hn2 (Nat.le_refl _)
        have lw4 := hb.size
        have shn2A := OwnI.sepLt hn2 bA.lt
        have shn2R := OwnI.sepLt hn2 bR.lt
        have shn2O := OwnI.sepLt hn2 bO.lt
        replace bA := bA.keep hb
        replace bR := bR.keep hb
        replace bO := bO.keep hb
        replace ho := ho.keep hb
        replace hq := hq.keep hb
        replace hp1 := hp1.keep hb
        replace hc1 := hc1.keep hb
        replace E0 := below_step E0 hb
        clear hb
        replace hn2 := hn2.mono E0z
        have E0w4 := E0.size
        clear E0z
        have lA := bA.lt
        have kA0 := bA.c0
        have qA0 := bA.f0
        have kA1 := bA.c1
        have qA1 := bA.f1
        have kA2 := bA.c2
        have qA2 := bA.f2
        have kA3 := bA.c3
        have qA3 := bA.f3
        have lR := bR.lt
        have kR0 := bR.c0
        have qR0 := bR.f0
        have kR1 := bR.c1
        have qR1 := bR.f1
        have kR2 := bR.c2
        have qR2 := bR.f2
        have kR3 := bR.c3
        have qR3 := bR.f3
        have lO := bO.lt
        have kO0 := bO.c0
        have qO0 := bO.f0
        have kO1 := bO.c1
        have qO1 := bO.f1
        have kO2 := bO.c2
        have qO2 := bO.f2
        have kO3 := bO.c3
        have qO3 := bO.f3
        go_wp2_with fail
        clear kA0 qA0 kA1 qA1 kA2 qA2 kA3 qA3 kR0 qR0 kR1 qR1 kR2 qR2 kR3 qR3 kO0 qO0 kO1 qO1 kO2 qO2 kO3 qO3 lA lR lO
        have bE := ((((bR.set0 (u := .slice a1 p.length d1)).set1 (u := .int .i64 pr)).set2 (u := .slice b1 c.length f1)).set3 (u := .int .i64 bw))
        have e0 := bE.c0
        have e1 := bE.c1
        have e2 := bE.c2
        have e3 := bE.c3
        exact bodyPost_ret (v := .tuple #[.agg #[.slice a1 p.length d1, .int .i64 pr, .slice b1 c.length f1, .int .i64 bw], .bool false]) (by simp [results, Tryd.results23, go_sem, e0, e1, e2, e3]) rfl
          ⟨_, _, _, _, rfl, ((((ho.farN (o := 0) shoR).farN (o := 1) shoR).farN (o := 2) shoR).farN (o := 3) shoR), ((((hq.farN (o := 0) shqR).farN (o := 1) shqR).farN (o := 2) shqR).farN (o := 3) shqR), hap, ((((E0.setCell (p := ⟨R, 0, none⟩) hwR (.slice a1 p.length d1)).setCell (p := ⟨R, 1, none⟩) hwR (.int .i64 pr)).setCell (p := ⟨R, 2, none⟩) hwR (.slice b1 c.length f1)).setCell (p := ⟨R, 3, none⟩) hwR (.int .i64 bw))⟩
theorem iwithc_t {p c P C : List Int} {pr bw an PR BW : Int} {OK : Bool} (H : Hid ((if (aokB p pr c bw && asB an) then p else []) = P ∧ (if (aokB p pr c bw && asB an) then pr else 0) = PR ∧ (if (aokB p pr c bw && asB an) then (if (insL c an).length ≤ 4 then insL c an else c) else []) = C ∧ (if (aokB p pr c bw && asB an) then bw else 0) = BW ∧ ((aokB p pr c bw && asB an) && decide ((insL c an).length ≤ 4)) = OK)) (han : I64 an)
    (pv cv : Value) (p' c' : List Int) (pr' bw' an' : Int) (w : World) (hp : RdI w pv p) (hc : RdI w cv c) (hcap : ∃ a cc, cv = .slice a c.length cc ∧ c.length ≤ cc) : Calls Tryd.prog 23 #[.agg #[pv, .int .i64 pr, cv, .int .i64 bw], .int .i64 an] w (NewA2 w P PR C BW OK) := by
  obtain ⟨rfl, rfl, rfl, rfl, rfl⟩ := H.out
  exact iwithc_any pv cv p c pr bw an w hp hc han hcap
theorem OwnI.cap {w : World} {base : Nat} {a : Option Addr} {n c : Nat} {l : List Int} (h : OwnI w base (.slice a n c) l) (hn : n = l.length) : ∃ a' c', Value.slice a n c = .slice a' l.length c' ∧ l.length ≤ c' := by
  subst hn
  rcases h.2 with ⟨hv, h0⟩ | ⟨g, cap, cur, hv, hb, hg, hnc, _⟩
  · exact ⟨a, c, rfl, by omega⟩
  · simp only [Value.slice.injEq] at hv
    obtain ⟨rfl, -, rfl⟩ := hv
    exact ⟨_, _, rfl, hnc⟩
end Go.Proofs.YtcmbajphholliabDoor
