/-
  Import and Export, of the program and of the model. Conditions: those in each contract.
-/
import Derived.Test.YtcmbajphholliaaI17
import Derived.Test.YtcmbajphholliaaI14
namespace Go.Proofs.Ytcmbajphholliaa
open Go.ChangeShapes Go.WideShapes Go.ChangeAt Go.RowKit Go.BigFrame Go.Joins
set_option linter.unusedVariables false
set_option maxRecDepth 100000
set_option linter.unusedSimpArgs false

theorem ipath_t {pv cv : Value} {p c : List Int} {pr bw an : Int} {b : Bool} (w : World) (hp : RdI w pv p) (hc : RdI w cv c) (H : Hid ((aokB p pr c bw && decide (an ∈ p)) = b)) :
    Calls Try.prog 70 #[.agg #[pv, .int .i64 pr, cv, .int .i64 bw], .int .i64 an] w fun e w' => e = .returned (.bool b) ∧ Below w.heap.size w w' := H.out ▸ ipath_any pv cv p c pr bw an w hp hc
theorem aok_100 {p c : List Int} {pr bw : Int} (h : aokB p pr c bw = true) : aokB p 100 c bw = true := by
  unfold aokB at h ⊢
  simp only [Bool.and_eq_true] at h ⊢
  simp_all [inB]
theorem ishut_100 (pv cv : Value) (p c : List Int) (pr bw : Int) (w : World) (hp : RdI w pv p) (hc : RdI w cv c) (h : Hid (aokB p pr c bw = true)) :
    Calls Try.prog 71 #[.agg #[pv, .int .i64 100, cv, .int .i64 bw]] w (NewA w p (shutP 100 c) c bw) := by
  have := ishut_any pv cv p c 100 bw w hp hc
  simpa only [aok_100 h.out, if_true] using this
theorem iprepend_no (pv cv : Value) (p c : List Int) (pr bw an : Int) (w : World) (hp : RdI w pv p) (hc : RdI w cv c) (han : I64 an) (h : Hid ((aokB p pr c bw && asB an) = false)) :
    Calls Try.prog 76 #[.agg #[pv, .int .i64 pr, cv, .int .i64 bw], .int .i64 an] w (NewA2 w [] 0 [] 0 false) := by
  have := iprepend_any pv cv p c pr bw an w hp hc han
  simpa only [h.out, Bool.false_eq_true, if_false, Bool.false_and] using this
theorem iprepend_full (pv cv : Value) (p c : List Int) (pr bw an : Int) (w : World) (hp : RdI w pv p) (hc : RdI w cv c) (han : I64 an) (h : Hid ((aokB p pr c bw && asB an) = true)) (h8 : Hid (p.length = 8)) :
    Calls Try.prog 76 #[.agg #[pv, .int .i64 pr, cv, .int .i64 bw], .int .i64 an] w (NewA2 w p pr c bw false) := by
  have := iprepend_any pv cv p c pr bw an w hp hc han
  simpa only [h.out, if_true, if_pos h8.out, Bool.true_and, show (!decide (p.length = 8)) = false by simp [h8.out]] using this
theorem iprepend_yes (pv cv : Value) (p c : List Int) (pr bw an : Int) (w : World) (hp : RdI w pv p) (hc : RdI w cv c) (han : I64 an) (h : Hid ((aokB p pr c bw && asB an) = true)) (h8 : Hid (¬ p.length = 8)) :
    Calls Try.prog 76 #[.agg #[pv, .int .i64 pr, cv, .int .i64 bw], .int .i64 an] w (NewA2 w (an :: p) pr c bw true) := by
  have := iprepend_any pv cv p c pr bw an w hp hc han
  simpa only [h.out, if_true, if_neg h8.out, Bool.true_and, show (!decide (p.length = 8)) = true by simp [h8.out]] using this
theorem sl6import_any (pv cv : Value) (p c : List Int) (pr bw an : Int) (w : World) (hp : RdI w pv p) (hc : RdI w cv c) (h0 : p.length ≤ 1048576) (h1 : c.length ≤ 1048576) :
    Calls Try.prog 66 #[.int .i64 an, .agg #[pv, .int .i64 pr, cv, .int .i64 bw]] w (NewA2 w (if !decide (an ∈ p) then p else []) (if !decide (an ∈ p) then shutP 100 c else 0) (if !decide (an ∈ p) then c else []) (if !decide (an ∈ p) then bw else 0) (!decide (an ∈ p))) := by
  obtain ⟨pa, pd, rfl⟩ := hp.len
  obtain ⟨ca, cd, rfl⟩ := hc.len
  cases hm : decide (an ∈ p)
  · simp only [Bool.not_false, if_true]
    have HM := Lib.hid hm
    clear hm
    have E0 : Below w.heap.size w w := Below.refl _ _
    have bA := Bx.new (w) (.slice pa p.length pd) (.int .i64 pr) (.slice ca c.length cd) (.int .i64 bw) 44 (w.heap.size) rfl
    replace E0 := E0.alloc (Nat.le_refl _) (.cells #[.slice pa p.length pd, .int .i64 pr, .slice ca c.length cd, .int .i64 bw] 44)
    have zR : ((w).alloc (.cells #[.slice pa p.length pd, .int .i64 pr, .slice ca c.length cd, .int .i64 bw] 44)).heap.size = w.heap.size + 1 := by simp
    have bR := Bx.new ((w).alloc (.cells #[.slice pa p.length pd, .int .i64 pr, .slice ca c.length cd, .int .i64 bw] 44)) (.slice none 0 0) (.int .i64 0) (.slice none 0 0) (.int .i64 0) 44 (w.heap.size + 1) zR.symm
    replace bA := bA.alloc (.cells #[.slice none 0 0, .int .i64 0, .slice none 0 0, .int .i64 0] 44)
    replace E0 := E0.alloc (by rw [zR]; omega) (.cells #[.slice none 0 0, .int .i64 0, .slice none 0 0, .int .i64 0] 44)
    clear zR
    have zz : (((w).alloc (.cells #[.slice pa p.length pd, .int .i64 pr, .slice ca c.length cd, .int .i64 bw] 44)).alloc (.cells #[.slice none 0 0, .int .i64 0, .slice none 0 0, .int .i64 0] 44)).heap.size = w.heap.size + 1 + 1 := by simp
    have hp1 := hp.keep E0
    have hc1 := hc.keep E0
    go_enter Try.func66, Try.ntmps66
    go_wp2_with fail
    obtain ⟨A, eA⟩ : ∃ A, A = w.heap.size := ⟨_, rfl⟩
    rw [← eA] at bA
    obtain ⟨R, eR⟩ : ∃ R, R = w.heap.size + 1 := ⟨_, rfl⟩
    rw [← eR] at bR
    try rw [← eR]
    try rw [← eA]
    have hwA : w.heap.size ≤ A := by omega
    have htA : A < w.heap.size + 1 + 1 := by omega
    have nAR : A ≠ R := by omega
    have hwR : w.heap.size ≤ R := by omega
    have htR : R < w.heap.size + 1 + 1 := by omega
    have nRA : R ≠ A := by omega
    clear eA eR
    have E0z := E0.size
    refine (shas_t _ hp1 HM).mono ?_
    rintro e w1 ⟨rfl, hb⟩
    replace bA := bA.keep hb
    replace bR := bR.keep hb
    replace hp1 := hp1.keep hb
    replace hc1 := hc1.keep hb
    replace E0 := below_step E0 hb
    clear hb
    have E0w1 := E0.size
    clear E0z
    have lA := bA.lt
    have kA0 := bA.c0
    have qA0 := bA.f0
    have kA1 := bA.c1
    have qA1 := bA.f1
    have kA2 := bA.c2
    have qA2 := bA.f2
    have kA3 := bA.c3
    have qA3 := bA.f3
    have lR := bR.lt
    have kR0 := bR.c0
    have qR0 := bR.f0
    have kR1 := bR.c1
    have qR1 := bR.f1
    have kR2 := bR.c2
    have qR2 := bR.f2
    have kR3 := bR.c3
    have qR3 := bR.f3
    go_wp2_with fail
    clear kA0 qA0 kA1 qA1 kA2 qA2 kA3 qA3 kR0 qR0 kR1 qR1 kR2 qR2 kR3 qR3 lA lR
    have E0z := E0.size
    refine (sown_any _ _ p c pr bw _ hp1 hc1 h0 h1).mono ?_
    rintro e w2 ⟨a1, d1, b1, f1, rfl, ho, hq, hap, hb⟩
    have lw2 := hb.size
    have shoA := OwnI.sepLt ho bA.lt
    have shoR := OwnI.sepLt ho bR.lt
    have shqA := OwnI.sepLt hq bA.lt
    have shqR := OwnI.sepLt hq bR.lt
    replace bA := bA.keep hb
    replace bR := bR.keep hb
    replace hp1 := hp1.keep hb
    replace hc1 := hc1.keep hb
    replace E0 := below_step E0 hb
    clear hb
    replace ho := ho.mono E0z
    replace hq := hq.mono E0z
    have E0w2 := E0.size
    clear E0z
    have lA := bA.lt
    have kA0 := bA.c0
    have qA0 := bA.f0
    have kA1 := bA.c1
    have qA1 := bA.f1
    have kA2 := bA.c2
    have qA2 := bA.f2
    have kA3 := bA.c3
    have qA3 := bA.f3
    have lR := bR.lt
    have kR0 := bR.c0
    have qR0 := bR.f0
    have kR1 := bR.c1
    have qR1 := bR.f1
    have kR2 := bR.c2
    have qR2 := bR.f2
    have kR3 := bR.c3
    have qR3 := bR.f3
    go_wp2_with fail
    clear kA0 qA0 kA1 qA1 kA2 qA2 kA3 qA3 kR0 qR0 kR1 qR1 kR2 qR2 kR3 qR3 lA lR
    obtain ⟨O, eO⟩ : ∃ O, O = w2.heap.size := ⟨_, rfl⟩
    rw [← eO]
    have bO := Bx.new w2 (.slice a1 p.length d1) (.int .i64 100) (.slice b1 c.length f1) (.int .i64 bw) 44 O eO
    have hwO : w.heap.size ≤ O := by rw [eO]; exact E0.size
    have nAO : A ≠ O := by have := bA.lt; omega
    have nOA : O ≠ A := by have := bA.lt; omega
    have nRO : R ≠ O := by have := bR.lt; omega
    have nOR : O ≠ R := by have := bR.lt; omega
    have shoO := OwnI.sepGe ho (Nat.le_of_eq eO.symm)
    have shqO := OwnI.sepGe hq (Nat.le_of_eq eO.symm)
    clear eO
    replace bA := bA.alloc (.cells #[.slice a1 p.length d1, .int .i64 100, .slice b1 c.length f1, .int .i64 bw] 44)
    replace bR := bR.alloc (.cells #[.slice a1 p.length d1, .int .i64 100, .slice b1 c.length f1, .int .i64 bw] 44)
    replace ho := ho.alloc (.cells #[.slice a1 p.length d1, .int .i64 100, .slice b1 c.length f1, .int .i64 bw] 44)
    replace hq := hq.alloc (.cells #[.slice a1 p.length d1, .int .i64 100, .slice b1 c.length f1, .int .i64 bw] 44)
    replace hp1 := hp1.alloc (.cells #[.slice a1 p.length d1, .int .i64 100, .slice b1 c.length f1, .int .i64 bw] 44)
    replace hc1 := hc1.alloc (.cells #[.slice a1 p.length d1, .int .i64 100, .slice b1 c.length f1, .int .i64 bw] 44)
    replace E0 := E0.alloc E0.size (.cells #[.slice a1 p.length d1, .int .i64 100, .slice b1 c.length f1, .int .i64 bw] 44)
    have E0z := E0.size
    refine (sl2shut_any _ _ p c 100 bw _ (ho.rd hp.1) (hq.rd hc.1) h0 h1).mono ?_
    rintro e w3 ⟨a2, d2, b2, f2, rfl, ho2, hq2, hap2, hb⟩
    have ap_ho_ho2 := apartI ho ho2 (Nat.le_refl _)
    have ap_hq_ho2 := apartI hq ho2 (Nat.le_refl _)
    have ap_ho_hq2 := apartI ho hq2 (Nat.le_refl _)
    have ap_hq_hq2 := apartI hq hq2 (Nat.le_refl _)
    have lw3 := hb.size
    have sho2A := OwnI.sepLt ho2 bA.lt
    have sho2R := OwnI.sepLt ho2 bR.lt
    have sho2O := OwnI.sepLt ho2 bO.lt
    have shq2A := OwnI.sepLt hq2 bA.lt
    have shq2R := OwnI.sepLt hq2 bR.lt
    have shq2O := OwnI.sepLt hq2 bO.lt
    replace bA := bA.keep hb
    replace bR := bR.keep hb
    replace bO := bO.keep hb
    replace ho := ho.keep hb
    replace hq := hq.keep hb
    replace hp1 := hp1.keep hb
    replace hc1 := hc1.keep hb
    replace E0 := below_step E0 hb
    clear hb
    replace ho2 := ho2.mono E0z
    replace hq2 := hq2.mono E0z
    have E0w3 := E0.size
    clear E0z
    have lA := bA.lt
    have kA0 := bA.c0
    have qA0 := bA.f0
    have kA1 := bA.c1
    have qA1 := bA.f1
    have kA2 := bA.c2
    have qA2 := bA.f2
    have kA3 := bA.c3
    have qA3 := bA.f3
    have lR := bR.lt
    have kR0 := bR.c0
    have qR0 := bR.f0
    have kR1 := bR.c1
    have qR1 := bR.f1
    have kR2 := bR.c2
    have qR2 := bR.f2
    have kR3 := bR.c3
    have qR3 := bR.f3
    have lO := bO.lt
    have kO0 := bO.c0
    have qO0 := bO.f0
    have kO1 := bO.c1
    have qO1 := bO.f1
    have kO2 := bO.c2
    have qO2 := bO.f2
    have kO3 := bO.c3
    have qO3 := bO.f3
    go_wp2_with fail
    clear kA0 qA0 kA1 qA1 kA2 qA2 kA3 qA3 kR0 qR0 kR1 qR1 kR2 qR2 kR3 qR3 kO0 qO0 kO1 qO1 kO2 qO2 kO3 qO3 lA lR lO
    have bE := ((((bR.set0 (u := .slice a2 p.length d2)).set1 (u := .int .i64 (shutP 100 c))).set2 (u := .slice b2 c.length f2)).set3 (u := .int .i64 bw))
    have e0 := bE.c0
    have e1 := bE.c1
    have e2 := bE.c2
    have e3 := bE.c3
    exact bodyPost_ret (v := .tuple #[.agg #[.slice a2 p.length d2, .int .i64 (shutP 100 c), .slice b2 c.length f2, .int .i64 bw], .bool true]) (by simp [results, Try.results66, go_sem, e0, e1, e2, e3]) rfl
      ⟨_, _, _, _, rfl, ((((ho2.farN (o := 0) sho2R).farN (o := 1) sho2R).farN (o := 2) sho2R).farN (o := 3) sho2R), ((((hq2.farN (o := 0) shq2R).farN (o := 1) shq2R).farN (o := 2) shq2R).farN (o := 3) shq2R), hap2, ((((E0.setCell (p := ⟨R, 0, none⟩) hwR (.slice a2 p.length d2)).setCell (p := ⟨R, 1, none⟩) hwR (.int .i64 (shutP 100 c))).setCell (p := ⟨R, 2, none⟩) hwR (.slice b2 c.length f2)).setCell (p := ⟨R, 3, none⟩) hwR (.int .i64 bw))⟩
  · simp only [Bool.not_true, Bool.false_eq_true, if_false]
    have HM := Lib.hid hm
    clear hm
    have E0 : Below w.heap.size w w := Below.refl _ _
    have bA := Bx.new (w) (.slice pa p.length pd) (.int .i64 pr) (.slice ca c.length cd) (.int .i64 bw) 44 (w.heap.size) rfl
    replace E0 := E0.alloc (Nat.le_refl _) (.cells #[.slice pa p.length pd, .int .i64 pr, .slice ca c.length cd, .int .i64 bw] 44)
    have zR : ((w).alloc (.cells #[.slice pa p.length pd, .int .i64 pr, .slice ca c.length cd, .int .i64 bw] 44)).heap.size = w.heap.size + 1 := by simp
    have bR := Bx.new ((w).alloc (.cells #[.slice pa p.length pd, .int .i64 pr, .slice ca c.length cd, .int .i64 bw] 44)) (.slice none 0 0) (.int .i64 0) (.slice none 0 0) (.int .i64 0) 44 (w.heap.size + 1) zR.symm
    replace bA := bA.alloc (.cells #[.slice none 0 0, .int .i64 0, .slice none 0 0, .int .i64 0] 44)
    replace E0 := E0.alloc (by rw [zR]; omega) (.cells #[.slice none 0 0, .int .i64 0, .slice none 0 0, .int .i64 0] 44)
    clear zR
    have zz : (((w).alloc (.cells #[.slice pa p.length pd, .int .i64 pr, .slice ca c.length cd, .int .i64 bw] 44)).alloc (.cells #[.slice none 0 0, .int .i64 0, .slice none 0 0, .int .i64 0] 44)).heap.size = w.heap.size + 1 + 1 := by simp
    have hp1 := hp.keep E0
    have hc1 := hc.keep E0
    go_enter Try.func66, Try.ntmps66
    go_wp2_with fail
    obtain ⟨A, eA⟩ : ∃ A, A = w.heap.size := ⟨_, rfl⟩
    rw [← eA] at bA
    obtain ⟨R, eR⟩ : ∃ R, R = w.heap.size + 1 := ⟨_, rfl⟩
    rw [← eR] at bR
    try rw [← eR]
    try rw [← eA]
    have hwA : w.heap.size ≤ A := by omega
    have htA : A < w.heap.size + 1 + 1 := by omega
    have nAR : A ≠ R := by omega
    have hwR : w.heap.size ≤ R := by omega
    have htR : R < w.heap.size + 1 + 1 := by omega
    have nRA : R ≠ A := by omega
    clear eA eR
    have E0z := E0.size
    refine (shas_t _ hp1 HM).mono ?_
    rintro e w1 ⟨rfl, hb⟩
    replace bA := bA.keep hb
    replace bR := bR.keep hb
    replace hp1 := hp1.keep hb
    replace hc1 := hc1.keep hb
    replace E0 := below_step E0 hb
    clear hb
    have E0w1 := E0.size
    clear E0z
    have lA := bA.lt
    have kA0 := bA.c0
    have qA0 := bA.f0
    have kA1 := bA.c1
    have qA1 := bA.f1
    have kA2 := bA.c2
    have qA2 := bA.f2
    have kA3 := bA.c3
    have qA3 := bA.f3
    have lR := bR.lt
    have kR0 := bR.c0
    have qR0 := bR.f0
    have kR1 := bR.c1
    have qR1 := bR.f1
    have kR2 := bR.c2
    have qR2 := bR.f2
    have kR3 := bR.c3
    have qR3 := bR.f3
    go_wp2_with fail
    clear kA0 qA0 kA1 qA1 kA2 qA2 kA3 qA3 kR0 qR0 kR1 qR1 kR2 qR2 kR3 qR3 lA lR
    have bE := ((((bR.set0 (u := .slice none 0 0)).set1 (u := .int .i64 0)).set2 (u := .slice none 0 0)).set3 (u := .int .i64 0))
    have e0 := bE.c0
    have e1 := bE.c1
    have e2 := bE.c2
    have e3 := bE.c3
    exact bodyPost_ret (v := .tuple #[.agg #[.slice none 0 0, .int .i64 0, .slice none 0 0, .int .i64 0], .bool false]) (by simp [results, Try.results66, go_sem, e0, e1, e2, e3]) rfl
      ⟨_, _, _, _, rfl, (World.ownsRow_nil _ _ _ _), (World.ownsRow_nil _ _ _ _), apart_nil _, ((((E0.setCell (p := ⟨R, 0, none⟩) hwR (.slice none 0 0)).setCell (p := ⟨R, 1, none⟩) hwR (.int .i64 0)).setCell (p := ⟨R, 2, none⟩) hwR (.slice none 0 0)).setCell (p := ⟨R, 3, none⟩) hwR (.int .i64 0))⟩
theorem sl6import_no (pv cv : Value) (p c : List Int) (pr bw an : Int) (w : World) (hp : RdI w pv p) (hc : RdI w cv c) (h0 : p.length ≤ 1048576) (h1 : c.length ≤ 1048576) (h : Hid (decide (an ∈ p) = true)) :
    Calls Try.prog 66 #[.int .i64 an, .agg #[pv, .int .i64 pr, cv, .int .i64 bw]] w (NewA2 w [] 0 [] 0 false) := by
  have := sl6import_any pv cv p c pr bw an w hp hc h0 h1
  simpa only [h.out, Bool.not_true, Bool.false_eq_true, if_false] using this
theorem sl6import_yes (pv cv : Value) (p c : List Int) (pr bw an : Int) (w : World) (hp : RdI w pv p) (hc : RdI w cv c) (h0 : p.length ≤ 1048576) (h1 : c.length ≤ 1048576) (h : Hid (decide (an ∈ p) = false)) :
    Calls Try.prog 66 #[.int .i64 an, .agg #[pv, .int .i64 pr, cv, .int .i64 bw]] w (NewA2 w p (shutP 100 c) c bw true) := by
  have := sl6import_any pv cv p c pr bw an w hp hc h0 h1
  simpa only [h.out, Bool.not_false, if_true] using this
theorem simport_any (pv cv : Value) (p c : List Int) (pr bw an : Int) (w : World) (hp : RdI w pv p) (hc : RdI w cv c) (han : I64 an) :
    Calls Try.prog 34 #[.int .i64 an, .agg #[pv, .int .i64 pr, cv, .int .i64 bw]] w (NewA2 w (if ((asB an && aokB p pr c bw) && !decide (an ∈ p)) then p else []) (if ((asB an && aokB p pr c bw) && !decide (an ∈ p)) then shutP 100 c else 0) (if ((asB an && aokB p pr c bw) && !decide (an ∈ p)) then c else []) (if ((asB an && aokB p pr c bw) && !decide (an ∈ p)) then bw else 0) ((asB an && aokB p pr c bw) && !decide (an ∈ p))) := by
  obtain ⟨pa, pd, rfl⟩ := hp.len
  obtain ⟨ca, cd, rfl⟩ := hc.len
  cases hN : asB an
  · simp only [Bool.false_eq_true, if_false, Bool.false_and, Bool.and_false, Bool.true_and]
    have HN := Lib.hid hN
    clear hN
    have E0 : Below w.heap.size w w := Below.refl _ _
    have bA := Bx.new (w) (.slice pa p.length pd) (.int .i64 pr) (.slice ca c.length cd) (.int .i64 bw) 44 (w.heap.size) rfl
    replace E0 := E0.alloc (Nat.le_refl _) (.cells #[.slice pa p.length pd, .int .i64 pr, .slice ca c.length cd, .int .i64 bw] 44)
    have zR : ((w).alloc (.cells #[.slice pa p.length pd, .int .i64 pr, .slice ca c.length cd, .int .i64 bw] 44)).heap.size = w.heap.size + 1 := by simp
    have bR := Bx.new ((w).alloc (.cells #[.slice pa p.length pd, .int .i64 pr, .slice ca c.length cd, .int .i64 bw] 44)) (.slice none 0 0) (.int .i64 0) (.slice none 0 0) (.int .i64 0) 44 (w.heap.size + 1) zR.symm
    replace bA := bA.alloc (.cells #[.slice none 0 0, .int .i64 0, .slice none 0 0, .int .i64 0] 44)
    replace E0 := E0.alloc (by rw [zR]; omega) (.cells #[.slice none 0 0, .int .i64 0, .slice none 0 0, .int .i64 0] 44)
    clear zR
    have zz : (((w).alloc (.cells #[.slice pa p.length pd, .int .i64 pr, .slice ca c.length cd, .int .i64 bw] 44)).alloc (.cells #[.slice none 0 0, .int .i64 0, .slice none 0 0, .int .i64 0] 44)).heap.size = w.heap.size + 1 + 1 := by simp
    have hp1 := hp.keep E0
    have hc1 := hc.keep E0
    go_enter Try.func34, Try.ntmps34
    go_wp2_with fail
    obtain ⟨A, eA⟩ : ∃ A, A = w.heap.size := ⟨_, rfl⟩
    rw [← eA] at bA
    obtain ⟨R, eR⟩ : ∃ R, R = w.heap.size + 1 := ⟨_, rfl⟩
    rw [← eR] at bR
    try rw [← eR]
    try rw [← eA]
    have hwA : w.heap.size ≤ A := by omega
    have htA : A < w.heap.size + 1 + 1 := by omega
    have nAR : A ≠ R := by omega
    have hwR : w.heap.size ≤ R := by omega
    have htR : R < w.heap.size + 1 + 1 := by omega
    have nRA : R ≠ A := by omega
    clear eA eR
    refine (sas_t2 _ HN).mono ?_
    rintro e w1 ⟨rfl, rfl⟩
    have lA := bA.lt
    have kA0 := bA.c0
    have qA0 := bA.f0
    have kA1 := bA.c1
    have qA1 := bA.f1
    have kA2 := bA.c2
    have qA2 := bA.f2
    have kA3 := bA.c3
    have qA3 := bA.f3
    have lR := bR.lt
    have kR0 := bR.c0
    have qR0 := bR.f0
    have kR1 := bR.c1
    have qR1 := bR.f1
    have kR2 := bR.c2
    have qR2 := bR.f2
    have kR3 := bR.c3
    have qR3 := bR.f3
    go_wp2_with fail
    clear kA0 qA0 kA1 qA1 kA2 qA2 kA3 qA3 kR0 qR0 kR1 qR1 kR2 qR2 kR3 qR3 lA lR
    have bE := ((((bR.set0 (u := .slice none 0 0)).set1 (u := .int .i64 0)).set2 (u := .slice none 0 0)).set3 (u := .int .i64 0))
    have e0 := bE.c0
    have e1 := bE.c1
    have e2 := bE.c2
    have e3 := bE.c3
    exact bodyPost_ret (v := .tuple #[.agg #[.slice none 0 0, .int .i64 0, .slice none 0 0, .int .i64 0], .bool false]) (by simp [results, Try.results34, go_sem, e0, e1, e2, e3]) rfl
      ⟨_, _, _, _, rfl, (World.ownsRow_nil _ _ _ _), (World.ownsRow_nil _ _ _ _), apart_nil _, ((((E0.setCell (p := ⟨R, 0, none⟩) hwR (.slice none 0 0)).setCell (p := ⟨R, 1, none⟩) hwR (.int .i64 0)).setCell (p := ⟨R, 2, none⟩) hwR (.slice none 0 0)).setCell (p := ⟨R, 3, none⟩) hwR (.int .i64 0))⟩
  · cases hA : aokB p pr c bw
    · simp only [Bool.false_eq_true, if_false, Bool.false_and, Bool.and_false, Bool.true_and]
      have HN := Lib.hid hN
      clear hN
      have HA := Lib.hid hA
      clear hA
      have E0 : Below w.heap.size w w := Below.refl _ _
      have bA := Bx.new (w) (.slice pa p.length pd) (.int .i64 pr) (.slice ca c.length cd) (.int .i64 bw) 44 (w.heap.size) rfl
      replace E0 := E0.alloc (Nat.le_refl _) (.cells #[.slice pa p.length pd, .int .i64 pr, .slice ca c.length cd, .int .i64 bw] 44)
      have zR : ((w).alloc (.cells #[.slice pa p.length pd, .int .i64 pr, .slice ca c.length cd, .int .i64 bw] 44)).heap.size = w.heap.size + 1 := by simp
      have bR := Bx.new ((w).alloc (.cells #[.slice pa p.length pd, .int .i64 pr, .slice ca c.length cd, .int .i64 bw] 44)) (.slice none 0 0) (.int .i64 0) (.slice none 0 0) (.int .i64 0) 44 (w.heap.size + 1) zR.symm
      replace bA := bA.alloc (.cells #[.slice none 0 0, .int .i64 0, .slice none 0 0, .int .i64 0] 44)
      replace E0 := E0.alloc (by rw [zR]; omega) (.cells #[.slice none 0 0, .int .i64 0, .slice none 0 0, .int .i64 0] 44)
      clear zR
      have zz : (((w).alloc (.cells #[.slice pa p.length pd, .int .i64 pr, .slice ca c.length cd, .int .i64 bw] 44)).alloc (.cells #[.slice none 0 0, .int .i64 0, .slice none 0 0, .int .i64 0] 44)).heap.size = w.heap.size + 1 + 1 := by simp
      have hp1 := hp.keep E0
      have hc1 := hc.keep E0
      go_enter Try.func34, Try.ntmps34
      go_wp2_with fail
      obtain ⟨A, eA⟩ : ∃ A, A = w.heap.size := ⟨_, rfl⟩
      rw [← eA] at bA
      obtain ⟨R, eR⟩ : ∃ R, R = w.heap.size + 1 := ⟨_, rfl⟩
      rw [← eR] at bR
      try rw [← eR]
      try rw [← eA]
      have hwA : w.heap.size ≤ A := by omega
      have htA : A < w.heap.size + 1 + 1 := by omega
      have nAR : A ≠ R := by omega
      have hwR : w.heap.size ≤ R := by omega
      have htR : R < w.heap.size + 1 + 1 := by omega
      have nRA : R ≠ A := by omega
      clear eA eR
      refine (sas_t2 _ HN).mono ?_
      rintro e w1 ⟨rfl, rfl⟩
      have lA := bA.lt
      have kA0 := bA.c0
      have qA0 := bA.f0
      have kA1 := bA.c1
      have qA1 := bA.f1
      have kA2 := bA.c2
      have qA2 := bA.f2
      have kA3 := bA.c3
      have qA3 := bA.f3
      have lR := bR.lt
      have kR0 := bR.c0
      have qR0 := bR.f0
      have kR1 := bR.c1
      have qR1 := bR.f1
      have kR2 := bR.c2
      have qR2 := bR.f2
      have kR3 := bR.c3
      have qR3 := bR.f3
      go_wp2_with fail
      clear kA0 qA0 kA1 qA1 kA2 qA2 kA3 qA3 kR0 qR0 kR1 qR1 kR2 qR2 kR3 qR3 lA lR
      have E0z := E0.size
      refine (saok_t _ hp1 hc1 HA).mono ?_
      rintro e w2 ⟨rfl, hb⟩
      replace bA := bA.keep hb
      replace bR := bR.keep hb
      replace hp1 := hp1.keep hb
      replace hc1 := hc1.keep hb
      replace E0 := below_step E0 hb
      clear hb
      have E0w2 := E0.size
      clear E0z
      have lA := bA.lt
      have kA0 := bA.c0
      have qA0 := bA.f0
      have kA1 := bA.c1
      have qA1 := bA.f1
      have kA2 := bA.c2
      have qA2 := bA.f2
      have kA3 := bA.c3
      have qA3 := bA.f3
      have lR := bR.lt
      have kR0 := bR.c0
      have qR0 := bR.f0
      have kR1 := bR.c1
      have qR1 := bR.f1
      have kR2 := bR.c2
      have qR2 := bR.f2
      have kR3 := bR.c3
      have qR3 := bR.f3
      go_wp2_with fail
      clear kA0 qA0 kA1 qA1 kA2 qA2 kA3 qA3 kR0 qR0 kR1 qR1 kR2 qR2 kR3 qR3 lA lR
      have bE := ((((bR.set0 (u := .slice none 0 0)).set1 (u := .int .i64 0)).set2 (u := .slice none 0 0)).set3 (u := .int .i64 0))
      have e0 := bE.c0
      have e1 := bE.c1
      have e2 := bE.c2
      have e3 := bE.c3
      exact bodyPost_ret (v := .tuple #[.agg #[.slice none 0 0, .int .i64 0, .slice none 0 0, .int .i64 0], .bool false]) (by simp [results, Try.results34, go_sem, e0, e1, e2, e3]) rfl
        ⟨_, _, _, _, rfl, (World.ownsRow_nil _ _ _ _), (World.ownsRow_nil _ _ _ _), apart_nil _, ((((E0.setCell (p := ⟨R, 0, none⟩) hwR (.slice none 0 0)).setCell (p := ⟨R, 1, none⟩) hwR (.int .i64 0)).setCell (p := ⟨R, 2, none⟩) hwR (.slice none 0 0)).setCell (p := ⟨R, 3, none⟩) hwR (.int .i64 0))⟩
    · obtain ⟨hpl, hcl, -, -, -⟩ := aok_p hA
      have hpl2 : p.length ≤ 1048576 := by omega
      have hcl2 : c.length ≤ 1048576 := by omega
      cases hm : decide (an ∈ p)
      · simp only [Bool.true_and, Bool.not_false, if_true]
        have HN := Lib.hid hN
        clear hN
        have HA := Lib.hid hA
        clear hA
        have HM := Lib.hid hm
        clear hm
        have E0 : Below w.heap.size w w := Below.refl _ _
        have bA := Bx.new (w) (.slice pa p.length pd) (.int .i64 pr) (.slice ca c.length cd) (.int .i64 bw) 44 (w.heap.size) rfl
        replace E0 := E0.alloc (Nat.le_refl _) (.cells #[.slice pa p.length pd, .int .i64 pr, .slice ca c.length cd, .int .i64 bw] 44)
        have zR : ((w).alloc (.cells #[.slice pa p.length pd, .int .i64 pr, .slice ca c.length cd, .int .i64 bw] 44)).heap.size = w.heap.size + 1 := by simp
        have bR := Bx.new ((w).alloc (.cells #[.slice pa p.length pd, .int .i64 pr, .slice ca c.length cd, .int .i64 bw] 44)) (.slice none 0 0) (.int .i64 0) (.slice none 0 0) (.int .i64 0) 44 (w.heap.size + 1) zR.symm
        replace bA := bA.alloc (.cells #[.slice none 0 0, .int .i64 0, .slice none 0 0, .int .i64 0] 44)
        replace E0 := E0.alloc (by rw [zR]; omega) (.cells #[.slice none 0 0, .int .i64 0, .slice none 0 0, .int .i64 0] 44)
        clear zR
        have zz : (((w).alloc (.cells #[.slice pa p.length pd, .int .i64 pr, .slice ca c.length cd, .int .i64 bw] 44)).alloc (.cells #[.slice none 0 0, .int .i64 0, .slice none 0 0, .int .i64 0] 44)).heap.size = w.heap.size + 1 + 1 := by simp
        have hp1 := hp.keep E0
        have hc1 := hc.keep E0
        go_enter Try.func34, Try.ntmps34
        go_wp2_with fail
        obtain ⟨A, eA⟩ : ∃ A, A = w.heap.size := ⟨_, rfl⟩
        rw [← eA] at bA
        obtain ⟨R, eR⟩ : ∃ R, R = w.heap.size + 1 := ⟨_, rfl⟩
        rw [← eR] at bR
        try rw [← eR]
        try rw [← eA]
        have hwA : w.heap.size ≤ A := by omega
        have htA : A < w.heap.size + 1 + 1 := by omega
        have nAR : A ≠ R := by omega
        have hwR : w.heap.size ≤ R := by omega
        have htR : R < w.heap.size + 1 + 1 := by omega
        have nRA : R ≠ A := by omega
        clear eA eR
        refine (sas_t2 _ HN).mono ?_
        rintro e w1 ⟨rfl, rfl⟩
        have lA := bA.lt
        have kA0 := bA.c0
        have qA0 := bA.f0
        have kA1 := bA.c1
        have qA1 := bA.f1
        have kA2 := bA.c2
        have qA2 := bA.f2
        have kA3 := bA.c3
        have qA3 := bA.f3
        have lR := bR.lt
        have kR0 := bR.c0
        have qR0 := bR.f0
        have kR1 := bR.c1
        have qR1 := bR.f1
        have kR2 := bR.c2
        have qR2 := bR.f2
        have kR3 := bR.c3
        have qR3 := bR.f3
        go_wp2_with fail
        clear kA0 qA0 kA1 qA1 kA2 qA2 kA3 qA3 kR0 qR0 kR1 qR1 kR2 qR2 kR3 qR3 lA lR
        have E0z := E0.size
        refine (saok_t _ hp1 hc1 HA).mono ?_
        rintro e w2 ⟨rfl, hb⟩
        replace bA := bA.keep hb
        replace bR := bR.keep hb
        replace hp1 := hp1.keep hb
        replace hc1 := hc1.keep hb
        replace E0 := below_step E0 hb
        clear hb
        have E0w2 := E0.size
        clear E0z
        have lA := bA.lt
        have kA0 := bA.c0
        have qA0 := bA.f0
        have kA1 := bA.c1
        have qA1 := bA.f1
        have kA2 := bA.c2
        have qA2 := bA.f2
        have kA3 := bA.c3
        have qA3 := bA.f3
        have lR := bR.lt
        have kR0 := bR.c0
        have qR0 := bR.f0
        have kR1 := bR.c1
        have qR1 := bR.f1
        have kR2 := bR.c2
        have qR2 := bR.f2
        have kR3 := bR.c3
        have qR3 := bR.f3
        go_wp2_with fail
        clear kA0 qA0 kA1 qA1 kA2 qA2 kA3 qA3 kR0 qR0 kR1 qR1 kR2 qR2 kR3 qR3 lA lR
        have E0z := E0.size
        refine (sl6import_yes _ _ p c pr bw an _ hp1 hc1 hpl2 hcl2 HM).mono ?_
        rintro e w3 ⟨a1, d1, b1, f1, rfl, ho, hq, hap, hb⟩
        have lw3 := hb.size
        have shoA := OwnI.sepLt ho bA.lt
        have shoR := OwnI.sepLt ho bR.lt
        have shqA := OwnI.sepLt hq bA.lt
        have shqR := OwnI.sepLt hq bR.lt
        replace bA := bA.keep hb
        replace bR := bR.keep hb
        replace hp1 := hp1.keep hb
        replace hc1 := hc1.keep hb
        replace E0 := below_step E0 hb
        clear hb
        replace ho := ho.mono E0z
        replace hq := hq.mono E0z
        have E0w3 := E0.size
        clear E0z
        have lA := bA.lt
        have kA0 := bA.c0
        have qA0 := bA.f0
        have kA1 := bA.c1
        have qA1 := bA.f1
        have kA2 := bA.c2
        have qA2 := bA.f2
        have kA3 := bA.c3
        have qA3 := bA.f3
        have lR := bR.lt
        have kR0 := bR.c0
        have qR0 := bR.f0
        have kR1 := bR.c1
        have qR1 := bR.f1
        have kR2 := bR.c2
        have qR2 := bR.f2
        have kR3 := bR.c3
        have qR3 := bR.f3
        go_wp2_with fail
        clear kA0 qA0 kA1 qA1 kA2 qA2 kA3 qA3 kR0 qR0 kR1 qR1 kR2 qR2 kR3 qR3 lA lR
        have bE := ((((bR.set0 (u := .slice a1 p.length d1)).set1 (u := .int .i64 (shutP 100 c))).set2 (u := .slice b1 c.length f1)).set3 (u := .int .i64 bw))
        have e0 := bE.c0
        have e1 := bE.c1
        have e2 := bE.c2
        have e3 := bE.c3
        exact bodyPost_ret (v := .tuple #[.agg #[.slice a1 p.length d1, .int .i64 (shutP 100 c), .slice b1 c.length f1, .int .i64 bw], .bool true]) (by simp [results, Try.results34, go_sem, e0, e1, e2, e3]) rfl
          ⟨_, _, _, _, rfl, ((((ho.farN (o := 0) shoR).farN (o := 1) shoR).farN (o := 2) shoR).farN (o := 3) shoR), ((((hq.farN (o := 0) shqR).farN (o := 1) shqR).farN (o := 2) shqR).farN (o := 3) shqR), hap, ((((E0.setCell (p := ⟨R, 0, none⟩) hwR (.slice a1 p.length d1)).setCell (p := ⟨R, 1, none⟩) hwR (.int .i64 (shutP 100 c))).setCell (p := ⟨R, 2, none⟩) hwR (.slice b1 c.length f1)).setCell (p := ⟨R, 3, none⟩) hwR (.int .i64 bw))⟩
      · simp only [Bool.true_and, Bool.not_true, Bool.false_eq_true, if_false]
        have HN := Lib.hid hN
        clear hN
        have HA := Lib.hid hA
        clear hA
        have HM := Lib.hid hm
        clear hm
        have E0 : Below w.heap.size w w := Below.refl _ _
        have bA := Bx.new (w) (.slice pa p.length pd) (.int .i64 pr) (.slice ca c.length cd) (.int .i64 bw) 44 (w.heap.size) rfl
        replace E0 := E0.alloc (Nat.le_refl _) (.cells #[.slice pa p.length pd, .int .i64 pr, .slice ca c.length cd, .int .i64 bw] 44)
        have zR : ((w).alloc (.cells #[.slice pa p.length pd, .int .i64 pr, .slice ca c.length cd, .int .i64 bw] 44)).heap.size = w.heap.size + 1 := by simp
        have bR := Bx.new ((w).alloc (.cells #[.slice pa p.length pd, .int .i64 pr, .slice ca c.length cd, .int .i64 bw] 44)) (.slice none 0 0) (.int .i64 0) (.slice none 0 0) (.int .i64 0) 44 (w.heap.size + 1) zR.symm
        replace bA := bA.alloc (.cells #[.slice none 0 0, .int .i64 0, .slice none 0 0, .int .i64 0] 44)
        replace E0 := E0.alloc (by rw [zR]; omega) (.cells #[.slice none 0 0, .int .i64 0, .slice none 0 0, .int .i64 0] 44)
        clear zR
        have zz : (((w).alloc (.cells #[.slice pa p.length pd, .int .i64 pr, .slice ca c.length cd, .int .i64 bw] 44)).alloc (.cells #[.slice none 0 0, .int .i64 0, .slice none 0 0, .int .i64 0] 44)).heap.size = w.heap.size + 1 + 1 := by simp
        have hp1 := hp.keep E0
        have hc1 := hc.keep E0
        go_enter Try.func34, Try.ntmps34
        go_wp2_with fail
        obtain ⟨A, eA⟩ : ∃ A, A = w.heap.size := ⟨_, rfl⟩
        rw [← eA] at bA
        obtain ⟨R, eR⟩ : ∃ R, R = w.heap.size + 1 := ⟨_, rfl⟩
        rw [← eR] at bR
        try rw [← eR]
        try rw [← eA]
        have hwA : w.heap.size ≤ A := by omega
        have htA : A < w.heap.size + 1 + 1 := by omega
        have nAR : A ≠ R := by omega
        have hwR : w.heap.size ≤ R := by omega
        have htR : R < w.heap.size + 1 + 1 := by omega
        have nRA : R ≠ A := by omega
        clear eA eR
        refine (sas_t2 _ HN).mono ?_
        rintro e w1 ⟨rfl, rfl⟩
        have lA := bA.lt
        have kA0 := bA.c0
        have qA0 := bA.f0
        have kA1 := bA.c1
        have qA1 := bA.f1
        have kA2 := bA.c2
        have qA2 := bA.f2
        have kA3 := bA.c3
        have qA3 := bA.f3
        have lR := bR.lt
        have kR0 := bR.c0
        have qR0 := bR.f0
        have kR1 := bR.c1
        have qR1 := bR.f1
        have kR2 := bR.c2
        have qR2 := bR.f2
        have kR3 := bR.c3
        have qR3 := bR.f3
        go_wp2_with fail
        clear kA0 qA0 kA1 qA1 kA2 qA2 kA3 qA3 kR0 qR0 kR1 qR1 kR2 qR2 kR3 qR3 lA lR
        have E0z := E0.size
        refine (saok_t _ hp1 hc1 HA).mono ?_
        rintro e w2 ⟨rfl, hb⟩
        replace bA := bA.keep hb
        replace bR := bR.keep hb
        replace hp1 := hp1.keep hb
        replace hc1 := hc1.keep hb
        replace E0 := below_step E0 hb
        clear hb
        have E0w2 := E0.size
        clear E0z
        have lA := bA.lt
        have kA0 := bA.c0
        have qA0 := bA.f0
        have kA1 := bA.c1
        have qA1 := bA.f1
        have kA2 := bA.c2
        have qA2 := bA.f2
        have kA3 := bA.c3
        have qA3 := bA.f3
        have lR := bR.lt
        have kR0 := bR.c0
        have qR0 := bR.f0
        have kR1 := bR.c1
        have qR1 := bR.f1
        have kR2 := bR.c2
        have qR2 := bR.f2
        have kR3 := bR.c3
        have qR3 := bR.f3
        go_wp2_with fail
        clear kA0 qA0 kA1 qA1 kA2 qA2 kA3 qA3 kR0 qR0 kR1 qR1 kR2 qR2 kR3 qR3 lA lR
        have E0z := E0.size
        refine (sl6import_no _ _ p c pr bw an _ hp1 hc1 hpl2 hcl2 HM).mono ?_
        rintro e w3 ⟨a1, d1, b1, f1, rfl, ho, hq, hap, hb⟩
        have lw3 := hb.size
        have shoA := OwnI.sepLt ho bA.lt
        have shoR := OwnI.sepLt ho bR.lt
        have shqA := OwnI.sepLt hq bA.lt
        have shqR := OwnI.sepLt hq bR.lt
        replace bA := bA.keep hb
        replace bR := bR.keep hb
        replace hp1 := hp1.keep hb
        replace hc1 := hc1.keep hb
        replace E0 := below_step E0 hb
        clear hb
        replace ho := ho.mono E0z
        replace hq := hq.mono E0z
        have E0w3 := E0.size
        clear E0z
        have lA := bA.lt
        have kA0 := bA.c0
        have qA0 := bA.f0
        have kA1 := bA.c1
        have qA1 := bA.f1
        have kA2 := bA.c2
        have qA2 := bA.f2
        have kA3 := bA.c3
        have qA3 := bA.f3
        have lR := bR.lt
        have kR0 := bR.c0
        have qR0 := bR.f0
        have kR1 := bR.c1
        have qR1 := bR.f1
        have kR2 := bR.c2
        have qR2 := bR.f2
        have kR3 := bR.c3
        have qR3 := bR.f3
        go_wp2_with fail
        clear kA0 qA0 kA1 qA1 kA2 qA2 kA3 qA3 kR0 qR0 kR1 qR1 kR2 qR2 kR3 qR3 lA lR
        have bE := ((((bR.set0 (u := .slice a1 0 d1)).set1 (u := .int .i64 0)).set2 (u := .slice b1 0 f1)).set3 (u := .int .i64 0))
        have e0 := bE.c0
        have e1 := bE.c1
        have e2 := bE.c2
        have e3 := bE.c3
        exact bodyPost_ret (v := .tuple #[.agg #[.slice a1 0 d1, .int .i64 0, .slice b1 0 f1, .int .i64 0], .bool false]) (by simp [results, Try.results34, go_sem, e0, e1, e2, e3]) rfl
          ⟨_, _, _, _, rfl, ((((ho.farN (o := 0) shoR).farN (o := 1) shoR).farN (o := 2) shoR).farN (o := 3) shoR), ((((hq.farN (o := 0) shqR).farN (o := 1) shqR).farN (o := 2) shqR).farN (o := 3) shqR), hap, ((((E0.setCell (p := ⟨R, 0, none⟩) hwR (.slice a1 0 d1)).setCell (p := ⟨R, 1, none⟩) hwR (.int .i64 0)).setCell (p := ⟨R, 2, none⟩) hwR (.slice b1 0 f1)).setCell (p := ⟨R, 3, none⟩) hwR (.int .i64 0))⟩
theorem iimport_any (pv cv : Value) (p c : List Int) (pr bw an : Int) (w : World) (hp : RdI w pv p) (hc : RdI w cv c) (han : I64 an) :
    Calls Try.prog 36 #[.int .i64 an, .agg #[pv, .int .i64 pr, cv, .int .i64 bw]] w (NewA2 w (if ((asB an && aokB p pr c bw) && !decide (an ∈ p)) then p else []) (if ((asB an && aokB p pr c bw) && !decide (an ∈ p)) then shutP 100 c else 0) (if ((asB an && aokB p pr c bw) && !decide (an ∈ p)) then c else []) (if ((asB an && aokB p pr c bw) && !decide (an ∈ p)) then bw else 0) ((asB an && aokB p pr c bw) && !decide (an ∈ p))) := by
  obtain ⟨pa, pd, rfl⟩ := hp.len
  obtain ⟨ca, cd, rfl⟩ := hc.len
  cases hN : asB an
  · simp only [Bool.false_eq_true, if_false, Bool.false_and, Bool.and_false, Bool.true_and]
    have HN := Lib.hid hN
    clear hN
    have E0 : Below w.heap.size w w := Below.refl _ _
    have bA := Bx.new (w) (.slice pa p.length pd) (.int .i64 pr) (.slice ca c.length cd) (.int .i64 bw) 44 (w.heap.size) rfl
    replace E0 := E0.alloc (Nat.le_refl _) (.cells #[.slice pa p.length pd, .int .i64 pr, .slice ca c.length cd, .int .i64 bw] 44)
    have zR : ((w).alloc (.cells #[.slice pa p.length pd, .int .i64 pr, .slice ca c.length cd, .int .i64 bw] 44)).heap.size = w.heap.size + 1 := by simp
    have bR := Bx.new ((w).alloc (.cells #[.slice pa p.length pd, .int .i64 pr, .slice ca c.length cd, .int .i64 bw] 44)) (.slice none 0 0) (.int .i64 0) (.slice none 0 0) (.int .i64 0) 44 (w.heap.size + 1) zR.symm
    replace bA := bA.alloc (.cells #[.slice none 0 0, .int .i64 0, .slice none 0 0, .int .i64 0] 44)
    replace E0 := E0.alloc (by rw [zR]; omega) (.cells #[.slice none 0 0, .int .i64 0, .slice none 0 0, .int .i64 0] 44)
    clear zR
    have zz : (((w).alloc (.cells #[.slice pa p.length pd, .int .i64 pr, .slice ca c.length cd, .int .i64 bw] 44)).alloc (.cells #[.slice none 0 0, .int .i64 0, .slice none 0 0, .int .i64 0] 44)).heap.size = w.heap.size + 1 + 1 := by simp
    have hp1 := hp.keep E0
    have hc1 := hc.keep E0
    go_enter Try.func36, Try.ntmps36
    go_wp2_with fail
    obtain ⟨A, eA⟩ : ∃ A, A = w.heap.size := ⟨_, rfl⟩
    rw [← eA] at bA
    obtain ⟨R, eR⟩ : ∃ R, R = w.heap.size + 1 := ⟨_, rfl⟩
    rw [← eR] at bR
    try rw [← eR]
    try rw [← eA]
    have hwA : w.heap.size ≤ A := by omega
    have htA : A < w.heap.size + 1 + 1 := by omega
    have nAR : A ≠ R := by omega
    have hwR : w.heap.size ≤ R := by omega
    have htR : R < w.heap.size + 1 + 1 := by omega
    have nRA : R ≠ A := by omega
    clear eA eR
    refine (numok_t _ HN).mono ?_
    rintro e w1 ⟨rfl, rfl⟩
    have lA := bA.lt
    have kA0 := bA.c0
    have qA0 := bA.f0
    have kA1 := bA.c1
    have qA1 := bA.f1
    have kA2 := bA.c2
    have qA2 := bA.f2
    have kA3 := bA.c3
    have qA3 := bA.f3
    have lR := bR.lt
    have kR0 := bR.c0
    have qR0 := bR.f0
    have kR1 := bR.c1
    have qR1 := bR.f1
    have kR2 := bR.c2
    have qR2 := bR.f2
    have kR3 := bR.c3
    have qR3 := bR.f3
    go_wp2_with fail
    clear kA0 qA0 kA1 qA1 kA2 qA2 kA3 qA3 kR0 qR0 kR1 qR1 kR2 qR2 kR3 qR3 lA lR
    have bE := ((((bR.set0 (u := .slice none 0 0)).set1 (u := .int .i64 0)).set2 (u := .slice none 0 0)).set3 (u := .int .i64 0))
    have e0 := bE.c0
    have e1 := bE.c1
    have e2 := bE.c2
    have e3 := bE.c3
    exact bodyPost_ret (v := .tuple #[.agg #[.slice none 0 0, .int .i64 0, .slice none 0 0, .int .i64 0], .bool false]) (by simp [results, Try.results36, go_sem, e0, e1, e2, e3]) rfl
      ⟨_, _, _, _, rfl, (World.ownsRow_nil _ _ _ _), (World.ownsRow_nil _ _ _ _), apart_nil _, ((((E0.setCell (p := ⟨R, 0, none⟩) hwR (.slice none 0 0)).setCell (p := ⟨R, 1, none⟩) hwR (.int .i64 0)).setCell (p := ⟨R, 2, none⟩) hwR (.slice none 0 0)).setCell (p := ⟨R, 3, none⟩) hwR (.int .i64 0))⟩
  · cases hA : aokB p pr c bw
    · simp only [Bool.false_eq_true, if_false, Bool.false_and, Bool.and_false, Bool.true_and]
      have HN := Lib.hid hN
      clear hN
      have HA := Lib.hid hA
      clear hA
      have E0 : Below w.heap.size w w := Below.refl _ _
      have bA := Bx.new (w) (.slice pa p.length pd) (.int .i64 pr) (.slice ca c.length cd) (.int .i64 bw) 44 (w.heap.size) rfl
      replace E0 := E0.alloc (Nat.le_refl _) (.cells #[.slice pa p.length pd, .int .i64 pr, .slice ca c.length cd, .int .i64 bw] 44)
      have zR : ((w).alloc (.cells #[.slice pa p.length pd, .int .i64 pr, .slice ca c.length cd, .int .i64 bw] 44)).heap.size = w.heap.size + 1 := by simp
      have bR := Bx.new ((w).alloc (.cells #[.slice pa p.length pd, .int .i64 pr, .slice ca c.length cd, .int .i64 bw] 44)) (.slice none 0 0) (.int .i64 0) (.slice none 0 0) (.int .i64 0) 44 (w.heap.size + 1) zR.symm
      replace bA := bA.alloc (.cells #[.slice none 0 0, .int .i64 0, .slice none 0 0, .int .i64 0] 44)
      replace E0 := E0.alloc (by rw [zR]; omega) (.cells #[.slice none 0 0, .int .i64 0, .slice none 0 0, .int .i64 0] 44)
      clear zR
      have zz : (((w).alloc (.cells #[.slice pa p.length pd, .int .i64 pr, .slice ca c.length cd, .int .i64 bw] 44)).alloc (.cells #[.slice none 0 0, .int .i64 0, .slice none 0 0, .int .i64 0] 44)).heap.size = w.heap.size + 1 + 1 := by simp
      have hp1 := hp.keep E0
      have hc1 := hc.keep E0
      go_enter Try.func36, Try.ntmps36
      go_wp2_with fail
      obtain ⟨A, eA⟩ : ∃ A, A = w.heap.size := ⟨_, rfl⟩
      rw [← eA] at bA
      obtain ⟨R, eR⟩ : ∃ R, R = w.heap.size + 1 := ⟨_, rfl⟩
      rw [← eR] at bR
      try rw [← eR]
      try rw [← eA]
      have hwA : w.heap.size ≤ A := by omega
      have htA : A < w.heap.size + 1 + 1 := by omega
      have nAR : A ≠ R := by omega
      have hwR : w.heap.size ≤ R := by omega
      have htR : R < w.heap.size + 1 + 1 := by omega
      have nRA : R ≠ A := by omega
      clear eA eR
      refine (numok_t _ HN).mono ?_
      rintro e w1 ⟨rfl, rfl⟩
      have lA := bA.lt
      have kA0 := bA.c0
      have qA0 := bA.f0
      have kA1 := bA.c1
      have qA1 := bA.f1
      have kA2 := bA.c2
      have qA2 := bA.f2
      have kA3 := bA.c3
      have qA3 := bA.f3
      have lR := bR.lt
      have kR0 := bR.c0
      have qR0 := bR.f0
      have kR1 := bR.c1
      have qR1 := bR.f1
      have kR2 := bR.c2
      have qR2 := bR.f2
      have kR3 := bR.c3
      have qR3 := bR.f3
      go_wp2_with fail
      clear kA0 qA0 kA1 qA1 kA2 qA2 kA3 qA3 kR0 qR0 kR1 qR1 kR2 qR2 kR3 qR3 lA lR
      have E0z := E0.size
      refine (iaok_t _ hp1 hc1 HA).mono ?_
      rintro e w2 ⟨rfl, hb⟩
      replace bA := bA.keep hb
      replace bR := bR.keep hb
      replace hp1 := hp1.keep hb
      replace hc1 := hc1.keep hb
      replace E0 := below_step E0 hb
      clear hb
      have E0w2 := E0.size
      clear E0z
      have lA := bA.lt
      have kA0 := bA.c0
      have qA0 := bA.f0
      have kA1 := bA.c1
      have qA1 := bA.f1
      have kA2 := bA.c2
      have qA2 := bA.f2
      have kA3 := bA.c3
      have qA3 := bA.f3
      have lR := bR.lt
      have kR0 := bR.c0
      have qR0 := bR.f0
      have kR1 := bR.c1
      have qR1 := bR.f1
      have kR2 := bR.c2
      have qR2 := bR.f2
      have kR3 := bR.c3
      have qR3 := bR.f3
      go_wp2_with fail
      clear kA0 qA0 kA1 qA1 kA2 qA2 kA3 qA3 kR0 qR0 kR1 qR1 kR2 qR2 kR3 qR3 lA lR
      have bE := ((((bR.set0 (u := .slice none 0 0)).set1 (u := .int .i64 0)).set2 (u := .slice none 0 0)).set3 (u := .int .i64 0))
      have e0 := bE.c0
      have e1 := bE.c1
      have e2 := bE.c2
      have e3 := bE.c3
      exact bodyPost_ret (v := .tuple #[.agg #[.slice none 0 0, .int .i64 0, .slice none 0 0, .int .i64 0], .bool false]) (by simp [results, Try.results36, go_sem, e0, e1, e2, e3]) rfl
        ⟨_, _, _, _, rfl, (World.ownsRow_nil _ _ _ _), (World.ownsRow_nil _ _ _ _), apart_nil _, ((((E0.setCell (p := ⟨R, 0, none⟩) hwR (.slice none 0 0)).setCell (p := ⟨R, 1, none⟩) hwR (.int .i64 0)).setCell (p := ⟨R, 2, none⟩) hwR (.slice none 0 0)).setCell (p := ⟨R, 3, none⟩) hwR (.int .i64 0))⟩
    · obtain ⟨hpl, hcl, -, -, -⟩ := aok_p hA
      have hpl2 : p.length ≤ 1048576 := by omega
      have hcl2 : c.length ≤ 1048576 := by omega
      cases hm : decide (an ∈ p)
      · have hI : (aokB p pr c bw && decide (an ∈ p)) = false := by rw [hA, hm]; rfl
        have HI := Lib.hid hI
        clear hI
        simp only [Bool.true_and, Bool.not_false, if_true]
        have HN := Lib.hid hN
        clear hN
        have HA := Lib.hid hA
        clear hA
        have HM := Lib.hid hm
        clear hm
        have E0 : Below w.heap.size w w := Below.refl _ _
        have bA := Bx.new (w) (.slice pa p.length pd) (.int .i64 pr) (.slice ca c.length cd) (.int .i64 bw) 44 (w.heap.size) rfl
        replace E0 := E0.alloc (Nat.le_refl _) (.cells #[.slice pa p.length pd, .int .i64 pr, .slice ca c.length cd, .int .i64 bw] 44)
        have zR : ((w).alloc (.cells #[.slice pa p.length pd, .int .i64 pr, .slice ca c.length cd, .int .i64 bw] 44)).heap.size = w.heap.size + 1 := by simp
        have bR := Bx.new ((w).alloc (.cells #[.slice pa p.length pd, .int .i64 pr, .slice ca c.length cd, .int .i64 bw] 44)) (.slice none 0 0) (.int .i64 0) (.slice none 0 0) (.int .i64 0) 44 (w.heap.size + 1) zR.symm
        replace bA := bA.alloc (.cells #[.slice none 0 0, .int .i64 0, .slice none 0 0, .int .i64 0] 44)
        replace E0 := E0.alloc (by rw [zR]; omega) (.cells #[.slice none 0 0, .int .i64 0, .slice none 0 0, .int .i64 0] 44)
        clear zR
        have zz : (((w).alloc (.cells #[.slice pa p.length pd, .int .i64 pr, .slice ca c.length cd, .int .i64 bw] 44)).alloc (.cells #[.slice none 0 0, .int .i64 0, .slice none 0 0, .int .i64 0] 44)).heap.size = w.heap.size + 1 + 1 := by simp
        have hp1 := hp.keep E0
        have hc1 := hc.keep E0
        go_enter Try.func36, Try.ntmps36
        go_wp2_with fail
        obtain ⟨A, eA⟩ : ∃ A, A = w.heap.size := ⟨_, rfl⟩
        rw [← eA] at bA
        obtain ⟨R, eR⟩ : ∃ R, R = w.heap.size + 1 := ⟨_, rfl⟩
        rw [← eR] at bR
        try rw [← eR]
        try rw [← eA]
        have hwA : w.heap.size ≤ A := by omega
        have htA : A < w.heap.size + 1 + 1 := by omega
        have nAR : A ≠ R := by omega
        have hwR : w.heap.size ≤ R := by omega
        have htR : R < w.heap.size + 1 + 1 := by omega
        have nRA : R ≠ A := by omega
        clear eA eR
        refine (numok_t _ HN).mono ?_
        rintro e w1 ⟨rfl, rfl⟩
        have lA := bA.lt
        have kA0 := bA.c0
        have qA0 := bA.f0
        have kA1 := bA.c1
        have qA1 := bA.f1
        have kA2 := bA.c2
        have qA2 := bA.f2
        have kA3 := bA.c3
        have qA3 := bA.f3
        have lR := bR.lt
        have kR0 := bR.c0
        have qR0 := bR.f0
        have kR1 := bR.c1
        have qR1 := bR.f1
        have kR2 := bR.c2
        have qR2 := bR.f2
        have kR3 := bR.c3
        have qR3 := bR.f3
        go_wp2_with fail
        clear kA0 qA0 kA1 qA1 kA2 qA2 kA3 qA3 kR0 qR0 kR1 qR1 kR2 qR2 kR3 qR3 lA lR
        have E0z := E0.size
        refine (iaok_t _ hp1 hc1 HA).mono ?_
        rintro e w2 ⟨rfl, hb⟩
        replace bA := bA.keep hb
        replace bR := bR.keep hb
        replace hp1 := hp1.keep hb
        replace hc1 := hc1.keep hb
        replace E0 := below_step E0 hb
        clear hb
        have E0w2 := E0.size
        clear E0z
        have lA := bA.lt
        have kA0 := bA.c0
        have qA0 := bA.f0
        have kA1 := bA.c1
        have qA1 := bA.f1
        have kA2 := bA.c2
        have qA2 := bA.f2
        have kA3 := bA.c3
        have qA3 := bA.f3
        have lR := bR.lt
        have kR0 := bR.c0
        have qR0 := bR.f0
        have kR1 := bR.c1
        have qR1 := bR.f1
        have kR2 := bR.c2
        have qR2 := bR.f2
        have kR3 := bR.c3
        have qR3 := bR.f3
        go_wp2_with fail
        clear kA0 qA0 kA1 qA1 kA2 qA2 kA3 qA3 kR0 qR0 kR1 qR1 kR2 qR2 kR3 qR3 lA lR
        have E0z := E0.size
        refine (ipath_t _ hp1 hc1 HI).mono ?_
        rintro e w3 ⟨rfl, hb⟩
        replace bA := bA.keep hb
        replace bR := bR.keep hb
        replace hp1 := hp1.keep hb
        replace hc1 := hc1.keep hb
        replace E0 := below_step E0 hb
        clear hb
        have E0w3 := E0.size
        clear E0z
        have lA := bA.lt
        have kA0 := bA.c0
        have qA0 := bA.f0
        have kA1 := bA.c1
        have qA1 := bA.f1
        have kA2 := bA.c2
        have qA2 := bA.f2
        have kA3 := bA.c3
        have qA3 := bA.f3
        have lR := bR.lt
        have kR0 := bR.c0
        have qR0 := bR.f0
        have kR1 := bR.c1
        have qR1 := bR.f1
        have kR2 := bR.c2
        have qR2 := bR.f2
        have kR3 := bR.c3
        have qR3 := bR.f3
        go_wp2_with fail
        clear kA0 qA0 kA1 qA1 kA2 qA2 kA3 qA3 kR0 qR0 kR1 qR1 kR2 qR2 kR3 qR3 lA lR
        replace bA := bA.set1 (u := .int .i64 100)
        replace bR := bR.far (C := A) (o := 1) (u := .int .i64 100) nRA
        replace E0 := E0.setCell (p := ⟨A, 1, none⟩) hwA (.int .i64 100)
        replace hp1 := hp.keep E0
        replace hc1 := hc.keep E0
        have E0z := E0.size
        refine (ishut_100 _ _ p c pr bw _ hp1 hc1 HA).mono ?_
        rintro e w4 ⟨a1, d1, b1, f1, rfl, ho, hq, hap, hb⟩
        have lw4 := hb.size
        have shoA := OwnI.sepLt ho bA.lt
        have shoR := OwnI.sepLt ho bR.lt
        have shqA := OwnI.sepLt hq bA.lt
        have shqR := OwnI.sepLt hq bR.lt
        replace bA := bA.keep hb
        replace bR := bR.keep hb
        replace hp1 := hp1.keep hb
        replace hc1 := hc1.keep hb
        replace E0 := below_step E0 hb
        clear hb
        replace ho := ho.mono E0z
        replace hq := hq.mono E0z
        have E0w4 := E0.size
        clear E0z
        have lA := bA.lt
        have kA0 := bA.c0
        have qA0 := bA.f0
        have kA1 := bA.c1
        have qA1 := bA.f1
        have kA2 := bA.c2
        have qA2 := bA.f2
        have kA3 := bA.c3
        have qA3 := bA.f3
        have lR := bR.lt
        have kR0 := bR.c0
        have qR0 := bR.f0
        have kR1 := bR.c1
        have qR1 := bR.f1
        have kR2 := bR.c2
        have qR2 := bR.f2
        have kR3 := bR.c3
        have qR3 := bR.f3
        go_wp2_with fail
        clear kA0 qA0 kA1 qA1 kA2 qA2 kA3 qA3 kR0 qR0 kR1 qR1 kR2 qR2 kR3 qR3 lA lR
        have bE := ((((bR.set0 (u := .slice a1 p.length d1)).set1 (u := .int .i64 (shutP 100 c))).set2 (u := .slice b1 c.length f1)).set3 (u := .int .i64 bw))
        have e0 := bE.c0
        have e1 := bE.c1
        have e2 := bE.c2
        have e3 := bE.c3
        exact bodyPost_ret (v := .tuple #[.agg #[.slice a1 p.length d1, .int .i64 (shutP 100 c), .slice b1 c.length f1, .int .i64 bw], .bool true]) (by simp [results, Try.results36, go_sem, e0, e1, e2, e3]) rfl
          ⟨_, _, _, _, rfl, ((((ho.farN (o := 0) shoR).farN (o := 1) shoR).farN (o := 2) shoR).farN (o := 3) shoR), ((((hq.farN (o := 0) shqR).farN (o := 1) shqR).farN (o := 2) shqR).farN (o := 3) shqR), hap, ((((E0.setCell (p := ⟨R, 0, none⟩) hwR (.slice a1 p.length d1)).setCell (p := ⟨R, 1, none⟩) hwR (.int .i64 (shutP 100 c))).setCell (p := ⟨R, 2, none⟩) hwR (.slice b1 c.length f1)).setCell (p := ⟨R, 3, none⟩) hwR (.int .i64 bw))⟩
      · have hI : (aokB p pr c bw && decide (an ∈ p)) = true := by rw [hA, hm]; rfl
        have HI := Lib.hid hI
        clear hI
        simp only [Bool.true_and, Bool.not_true, Bool.false_eq_true, if_false]
        have HN := Lib.hid hN
        clear hN
        have HA := Lib.hid hA
        clear hA
        have HM := Lib.hid hm
        clear hm
        have E0 : Below w.heap.size w w := Below.refl _ _
        have bA := Bx.new (w) (.slice pa p.length pd) (.int .i64 pr) (.slice ca c.length cd) (.int .i64 bw) 44 (w.heap.size) rfl
        replace E0 := E0.alloc (Nat.le_refl _) (.cells #[.slice pa p.length pd, .int .i64 pr, .slice ca c.length cd, .int .i64 bw] 44)
        have zR : ((w).alloc (.cells #[.slice pa p.length pd, .int .i64 pr, .slice ca c.length cd, .int .i64 bw] 44)).heap.size = w.heap.size + 1 := by simp
        have bR := Bx.new ((w).alloc (.cells #[.slice pa p.length pd, .int .i64 pr, .slice ca c.length cd, .int .i64 bw] 44)) (.slice none 0 0) (.int .i64 0) (.slice none 0 0) (.int .i64 0) 44 (w.heap.size + 1) zR.symm
        replace bA := bA.alloc (.cells #[.slice none 0 0, .int .i64 0, .slice none 0 0, .int .i64 0] 44)
        replace E0 := E0.alloc (by rw [zR]; omega) (.cells #[.slice none 0 0, .int .i64 0, .slice none 0 0, .int .i64 0] 44)
        clear zR
        have zz : (((w).alloc (.cells #[.slice pa p.length pd, .int .i64 pr, .slice ca c.length cd, .int .i64 bw] 44)).alloc (.cells #[.slice none 0 0, .int .i64 0, .slice none 0 0, .int .i64 0] 44)).heap.size = w.heap.size + 1 + 1 := by simp
        have hp1 := hp.keep E0
        have hc1 := hc.keep E0
        go_enter Try.func36, Try.ntmps36
        go_wp2_with fail
        obtain ⟨A, eA⟩ : ∃ A, A = w.heap.size := ⟨_, rfl⟩
        rw [← eA] at bA
        obtain ⟨R, eR⟩ : ∃ R, R = w.heap.size + 1 := ⟨_, rfl⟩
        rw [← eR] at bR
        try rw [← eR]
        try rw [← eA]
        have hwA : w.heap.size ≤ A := by omega
        have htA : A < w.heap.size + 1 + 1 := by omega
        have nAR : A ≠ R := by omega
        have hwR : w.heap.size ≤ R := by omega
        have htR : R < w.heap.size + 1 + 1 := by omega
        have nRA : R ≠ A := by omega
        clear eA eR
        refine (numok_t _ HN).mono ?_
        rintro e w1 ⟨rfl, rfl⟩
        have lA := bA.lt
        have kA0 := bA.c0
        have qA0 := bA.f0
        have kA1 := bA.c1
        have qA1 := bA.f1
        have kA2 := bA.c2
        have qA2 := bA.f2
        have kA3 := bA.c3
        have qA3 := bA.f3
        have lR := bR.lt
        have kR0 := bR.c0
        have qR0 := bR.f0
        have kR1 := bR.c1
        have qR1 := bR.f1
        have kR2 := bR.c2
        have qR2 := bR.f2
        have kR3 := bR.c3
        have qR3 := bR.f3
        go_wp2_with fail
        clear kA0 qA0 kA1 qA1 kA2 qA2 kA3 qA3 kR0 qR0 kR1 qR1 kR2 qR2 kR3 qR3 lA lR
        have E0z := E0.size
        refine (iaok_t _ hp1 hc1 HA).mono ?_
        rintro e w2 ⟨rfl, hb⟩
        replace bA := bA.keep hb
        replace bR := bR.keep hb
        replace hp1 := hp1.keep hb
        replace hc1 := hc1.keep hb
        replace E0 := below_step E0 hb
        clear hb
        have E0w2 := E0.size
        clear E0z
        have lA := bA.lt
        have kA0 := bA.c0
        have qA0 := bA.f0
        have kA1 := bA.c1
        have qA1 := bA.f1
        have kA2 := bA.c2
        have qA2 := bA.f2
        have kA3 := bA.c3
        have qA3 := bA.f3
        have lR := bR.lt
        have kR0 := bR.c0
        have qR0 := bR.f0
        have kR1 := bR.c1
        have qR1 := bR.f1
        have kR2 := bR.c2
        have qR2 := bR.f2
        have kR3 := bR.c3
        have qR3 := bR.f3
        go_wp2_with fail
        clear kA0 qA0 kA1 qA1 kA2 qA2 kA3 qA3 kR0 qR0 kR1 qR1 kR2 qR2 kR3 qR3 lA lR
        have E0z := E0.size
        refine (ipath_t _ hp1 hc1 HI).mono ?_
        rintro e w3 ⟨rfl, hb⟩
        replace bA := bA.keep hb
        replace bR := bR.keep hb
        replace hp1 := hp1.keep hb
        replace hc1 := hc1.keep hb
        replace E0 := below_step E0 hb
        clear hb
        have E0w3 := E0.size
        clear E0z
        have lA := bA.lt
        have kA0 := bA.c0
        have qA0 := bA.f0
        have kA1 := bA.c1
        have qA1 := bA.f1
        have kA2 := bA.c2
        have qA2 := bA.f2
        have kA3 := bA.c3
        have qA3 := bA.f3
        have lR := bR.lt
        have kR0 := bR.c0
        have qR0 := bR.f0
        have kR1 := bR.c1
        have qR1 := bR.f1
        have kR2 := bR.c2
        have qR2 := bR.f2
        have kR3 := bR.c3
        have qR3 := bR.f3
        go_wp2_with fail
        clear kA0 qA0 kA1 qA1 kA2 qA2 kA3 qA3 kR0 qR0 kR1 qR1 kR2 qR2 kR3 qR3 lA lR
        have bE := ((((bR.set0 (u := .slice none 0 0)).set1 (u := .int .i64 0)).set2 (u := .slice none 0 0)).set3 (u := .int .i64 0))
        have e0 := bE.c0
        have e1 := bE.c1
        have e2 := bE.c2
        have e3 := bE.c3
        exact bodyPost_ret (v := .tuple #[.agg #[.slice none 0 0, .int .i64 0, .slice none 0 0, .int .i64 0], .bool false]) (by simp [results, Try.results36, go_sem, e0, e1, e2, e3]) rfl
          ⟨_, _, _, _, rfl, (World.ownsRow_nil _ _ _ _), (World.ownsRow_nil _ _ _ _), apart_nil _, ((((E0.setCell (p := ⟨R, 0, none⟩) hwR (.slice none 0 0)).setCell (p := ⟨R, 1, none⟩) hwR (.int .i64 0)).setCell (p := ⟨R, 2, none⟩) hwR (.slice none 0 0)).setCell (p := ⟨R, 3, none⟩) hwR (.int .i64 0))⟩
theorem sl6export_no (pv cv : Value) (p c : List Int) (pr bw an : Int) (w : World) (hp : RdI w pv p) (hc : RdI w cv c) (g8 : (8 : Int) ≤ (p.length : Int)) :
    Calls Try.prog 75 #[.int .i64 an, .agg #[pv, .int .i64 pr, cv, .int .i64 bw]] w (NewA2 w [] 0 [] 0 false) := by
  obtain ⟨pa, pd, rfl⟩ := hp.len
  obtain ⟨ca, cd, rfl⟩ := hc.len
  have E0 : Below w.heap.size w w := Below.refl _ _
  have bA := Bx.new (w) (.slice pa p.length pd) (.int .i64 pr) (.slice ca c.length cd) (.int .i64 bw) 44 (w.heap.size) rfl
  replace E0 := E0.alloc (Nat.le_refl _) (.cells #[.slice pa p.length pd, .int .i64 pr, .slice ca c.length cd, .int .i64 bw] 44)
  have zR : ((w).alloc (.cells #[.slice pa p.length pd, .int .i64 pr, .slice ca c.length cd, .int .i64 bw] 44)).heap.size = w.heap.size + 1 := by simp
  have bR := Bx.new ((w).alloc (.cells #[.slice pa p.length pd, .int .i64 pr, .slice ca c.length cd, .int .i64 bw] 44)) (.slice none 0 0) (.int .i64 0) (.slice none 0 0) (.int .i64 0) 44 (w.heap.size + 1) zR.symm
  replace bA := bA.alloc (.cells #[.slice none 0 0, .int .i64 0, .slice none 0 0, .int .i64 0] 44)
  replace E0 := E0.alloc (by rw [zR]; omega) (.cells #[.slice none 0 0, .int .i64 0, .slice none 0 0, .int .i64 0] 44)
  clear zR
  have zz : (((w).alloc (.cells #[.slice pa p.length pd, .int .i64 pr, .slice ca c.length cd, .int .i64 bw] 44)).alloc (.cells #[.slice none 0 0, .int .i64 0, .slice none 0 0, .int .i64 0] 44)).heap.size = w.heap.size + 1 + 1 := by simp
  have hp1 := hp.keep E0
  have hc1 := hc.keep E0
  go_enter Try.func75, Try.ntmps75
  go_wp2_with fail
  obtain ⟨A, eA⟩ : ∃ A, A = w.heap.size := ⟨_, rfl⟩
  rw [← eA] at bA
  obtain ⟨R, eR⟩ : ∃ R, R = w.heap.size + 1 := ⟨_, rfl⟩
  rw [← eR] at bR
  try rw [← eR]
  try rw [← eA]
  have hwA : w.heap.size ≤ A := by omega
  have htA : A < w.heap.size + 1 + 1 := by omega
  have nAR : A ≠ R := by omega
  have hwR : w.heap.size ≤ R := by omega
  have htR : R < w.heap.size + 1 + 1 := by omega
  have nRA : R ≠ A := by omega
  clear eA eR
  have bE := bR
  have e0 := bE.c0
  have e1 := bE.c1
  have e2 := bE.c2
  have e3 := bE.c3
  exact bodyPost_ret (v := .tuple #[.agg #[.slice none 0 0, .int .i64 0, .slice none 0 0, .int .i64 0], .bool false]) (by simp [results, Try.results75, go_sem, e0, e1, e2, e3]) rfl
    ⟨_, _, _, _, rfl, (World.ownsRow_nil _ _ _ _), (World.ownsRow_nil _ _ _ _), apart_nil _, E0⟩
theorem sl6export_yes (pv cv : Value) (p c : List Int) (pr bw an : Int) (w : World) (hp : RdI w pv p) (hc : RdI w cv c) (han : I64 an) (h0 : p.length ≤ 1048576) (h1 : c.length ≤ 1048576) (g8 : ¬ (8 : Int) ≤ (p.length : Int)) :
    Calls Try.prog 75 #[.int .i64 an, .agg #[pv, .int .i64 pr, cv, .int .i64 bw]] w (NewA2 w (an :: p) 0 c bw true) := by
  obtain ⟨pa, pd, rfl⟩ := hp.len
  obtain ⟨ca, cd, rfl⟩ := hc.len
  have E0 : Below w.heap.size w w := Below.refl _ _
  have bA := Bx.new (w) (.slice pa p.length pd) (.int .i64 pr) (.slice ca c.length cd) (.int .i64 bw) 44 (w.heap.size) rfl
  replace E0 := E0.alloc (Nat.le_refl _) (.cells #[.slice pa p.length pd, .int .i64 pr, .slice ca c.length cd, .int .i64 bw] 44)
  have zR : ((w).alloc (.cells #[.slice pa p.length pd, .int .i64 pr, .slice ca c.length cd, .int .i64 bw] 44)).heap.size = w.heap.size + 1 := by simp
  have bR := Bx.new ((w).alloc (.cells #[.slice pa p.length pd, .int .i64 pr, .slice ca c.length cd, .int .i64 bw] 44)) (.slice none 0 0) (.int .i64 0) (.slice none 0 0) (.int .i64 0) 44 (w.heap.size + 1) zR.symm
  replace bA := bA.alloc (.cells #[.slice none 0 0, .int .i64 0, .slice none 0 0, .int .i64 0] 44)
  replace E0 := E0.alloc (by rw [zR]; omega) (.cells #[.slice none 0 0, .int .i64 0, .slice none 0 0, .int .i64 0] 44)
  clear zR
  have zz : (((w).alloc (.cells #[.slice pa p.length pd, .int .i64 pr, .slice ca c.length cd, .int .i64 bw] 44)).alloc (.cells #[.slice none 0 0, .int .i64 0, .slice none 0 0, .int .i64 0] 44)).heap.size = w.heap.size + 1 + 1 := by simp
  have hp1 := hp.keep E0
  have hc1 := hc.keep E0
  go_enter Try.func75, Try.ntmps75
  go_wp2_with fail
  obtain ⟨A, eA⟩ : ∃ A, A = w.heap.size := ⟨_, rfl⟩
  rw [← eA] at bA
  obtain ⟨R, eR⟩ : ∃ R, R = w.heap.size + 1 := ⟨_, rfl⟩
  rw [← eR] at bR
  try rw [← eR]
  try rw [← eA]
  have hwA : w.heap.size ≤ A := by omega
  have htA : A < w.heap.size + 1 + 1 := by omega
  have nAR : A ≠ R := by omega
  have hwR : w.heap.size ≤ R := by omega
  have htR : R < w.heap.size + 1 + 1 := by omega
  have nRA : R ≠ A := by omega
  clear eA eR
  have E0z := E0.size
  refine (sl2prepend_any _ _ p c pr bw an _ hp1 hc1 han h0 h1).mono ?_
  rintro e w1 ⟨a1, d1, b1, f1, rfl, ho, hq, hap, hb⟩
  have lw1 := hb.size
  have shoA := OwnI.sepLt ho bA.lt
  have shoR := OwnI.sepLt ho bR.lt
  have shqA := OwnI.sepLt hq bA.lt
  have shqR := OwnI.sepLt hq bR.lt
  replace bA := bA.keep hb
  replace bR := bR.keep hb
  replace hp1 := hp1.keep hb
  replace hc1 := hc1.keep hb
  replace E0 := below_step E0 hb
  clear hb
  replace ho := ho.mono E0z
  replace hq := hq.mono E0z
  have E0w1 := E0.size
  clear E0z
  have lA := bA.lt
  have kA0 := bA.c0
  have qA0 := bA.f0
  have kA1 := bA.c1
  have qA1 := bA.f1
  have kA2 := bA.c2
  have qA2 := bA.f2
  have kA3 := bA.c3
  have qA3 := bA.f3
  have lR := bR.lt
  have kR0 := bR.c0
  have qR0 := bR.f0
  have kR1 := bR.c1
  have qR1 := bR.f1
  have kR2 := bR.c2
  have qR2 := bR.f2
  have kR3 := bR.c3
  have qR3 := bR.f3
  go_wp2_with fail
  clear kA0 qA0 kA1 qA1 kA2 qA2 kA3 qA3 kR0 qR0 kR1 qR1 kR2 qR2 kR3 qR3 lA lR
  have bE := (((((bR.set0 (u := .slice a1 (p.length + 1) d1)).set1 (u := .int .i64 0)).set2 (u := .slice b1 c.length f1)).set3 (u := .int .i64 bw)).alloc (.cells #[.slice a1 (p.length + 1) d1, .int .i64 0, .slice b1 c.length f1, .int .i64 bw] 44))
  have e0 := bE.c0
  have e1 := bE.c1
  have e2 := bE.c2
  have e3 := bE.c3
  have eZ := ((((E0.setCell (p := ⟨R, 0, none⟩) hwR (.slice a1 (p.length + 1) d1)).setCell (p := ⟨R, 1, none⟩) hwR (.int .i64 0)).setCell (p := ⟨R, 2, none⟩) hwR (.slice b1 c.length f1)).setCell (p := ⟨R, 3, none⟩) hwR (.int .i64 bw))
  exact bodyPost_ret (v := .tuple #[.agg #[.slice a1 (p.length + 1) d1, .int .i64 0, .slice b1 c.length f1, .int .i64 bw], .bool true]) (by simp [results, Try.results75, go_sem, e0, e1, e2, e3]) rfl
    ⟨_, _, _, _, rfl, (((((ho.farN (o := 0) shoR).farN (o := 1) shoR).farN (o := 2) shoR).farN (o := 3) shoR).alloc _), (((((hq.farN (o := 0) shqR).farN (o := 1) shqR).farN (o := 2) shqR).farN (o := 3) shqR).alloc _), hap, (eZ.alloc eZ.size _)⟩
theorem sexport_any (pv cv : Value) (p c : List Int) (pr bw an : Int) (w : World) (hp : RdI w pv p) (hc : RdI w cv c) (han : I64 an) :
    Calls Try.prog 40 #[.int .i64 an, .agg #[pv, .int .i64 pr, cv, .int .i64 bw]] w (NewA2 w (if ((asB an && aokB p pr c bw) && !decide (p.length = 8)) then (an :: p) else []) 0 (if ((asB an && aokB p pr c bw) && !decide (p.length = 8)) then c else []) (if ((asB an && aokB p pr c bw) && !decide (p.length = 8)) then bw else 0) ((asB an && aokB p pr c bw) && !decide (p.length = 8))) := by
  obtain ⟨pa, pd, rfl⟩ := hp.len
  obtain ⟨ca, cd, rfl⟩ := hc.len
  cases hN : asB an
  · simp only [Bool.false_eq_true, if_false, Bool.false_and, Bool.and_false, Bool.true_and]
    have HN := Lib.hid hN
    clear hN
    have E0 : Below w.heap.size w w := Below.refl _ _
    have bA := Bx.new (w) (.slice pa p.length pd) (.int .i64 pr) (.slice ca c.length cd) (.int .i64 bw) 44 (w.heap.size) rfl
    replace E0 := E0.alloc (Nat.le_refl _) (.cells #[.slice pa p.length pd, .int .i64 pr, .slice ca c.length cd, .int .i64 bw] 44)
    have zR : ((w).alloc (.cells #[.slice pa p.length pd, .int .i64 pr, .slice ca c.length cd, .int .i64 bw] 44)).heap.size = w.heap.size + 1 := by simp
    have bR := Bx.new ((w).alloc (.cells #[.slice pa p.length pd, .int .i64 pr, .slice ca c.length cd, .int .i64 bw] 44)) (.slice none 0 0) (.int .i64 0) (.slice none 0 0) (.int .i64 0) 44 (w.heap.size + 1) zR.symm
    replace bA := bA.alloc (.cells #[.slice none 0 0, .int .i64 0, .slice none 0 0, .int .i64 0] 44)
    replace E0 := E0.alloc (by rw [zR]; omega) (.cells #[.slice none 0 0, .int .i64 0, .slice none 0 0, .int .i64 0] 44)
    clear zR
    have zz : (((w).alloc (.cells #[.slice pa p.length pd, .int .i64 pr, .slice ca c.length cd, .int .i64 bw] 44)).alloc (.cells #[.slice none 0 0, .int .i64 0, .slice none 0 0, .int .i64 0] 44)).heap.size = w.heap.size + 1 + 1 := by simp
    have hp1 := hp.keep E0
    have hc1 := hc.keep E0
    go_enter Try.func40, Try.ntmps40
    go_wp2_with fail
    obtain ⟨A, eA⟩ : ∃ A, A = w.heap.size := ⟨_, rfl⟩
    rw [← eA] at bA
    obtain ⟨R, eR⟩ : ∃ R, R = w.heap.size + 1 := ⟨_, rfl⟩
    rw [← eR] at bR
    try rw [← eR]
    try rw [← eA]
    have hwA : w.heap.size ≤ A := by omega
    have htA : A < w.heap.size + 1 + 1 := by omega
    have nAR : A ≠ R := by omega
    have hwR : w.heap.size ≤ R := by omega
    have htR : R < w.heap.size + 1 + 1 := by omega
    have nRA : R ≠ A := by omega
    clear eA eR
    refine (sas_t2 _ HN).mono ?_
    rintro e w1 ⟨rfl, rfl⟩
    have lA := bA.lt
    have kA0 := bA.c0
    have qA0 := bA.f0
    have kA1 := bA.c1
    have qA1 := bA.f1
    have kA2 := bA.c2
    have qA2 := bA.f2
    have kA3 := bA.c3
    have qA3 := bA.f3
    have lR := bR.lt
    have kR0 := bR.c0
    have qR0 := bR.f0
    have kR1 := bR.c1
    have qR1 := bR.f1
    have kR2 := bR.c2
    have qR2 := bR.f2
    have kR3 := bR.c3
    have qR3 := bR.f3
    go_wp2_with fail
    clear kA0 qA0 kA1 qA1 kA2 qA2 kA3 qA3 kR0 qR0 kR1 qR1 kR2 qR2 kR3 qR3 lA lR
    have bE := ((((bR.set0 (u := .slice none 0 0)).set1 (u := .int .i64 0)).set2 (u := .slice none 0 0)).set3 (u := .int .i64 0))
    have e0 := bE.c0
    have e1 := bE.c1
    have e2 := bE.c2
    have e3 := bE.c3
    exact bodyPost_ret (v := .tuple #[.agg #[.slice none 0 0, .int .i64 0, .slice none 0 0, .int .i64 0], .bool false]) (by simp [results, Try.results40, go_sem, e0, e1, e2, e3]) rfl
      ⟨_, _, _, _, rfl, (World.ownsRow_nil _ _ _ _), (World.ownsRow_nil _ _ _ _), apart_nil _, ((((E0.setCell (p := ⟨R, 0, none⟩) hwR (.slice none 0 0)).setCell (p := ⟨R, 1, none⟩) hwR (.int .i64 0)).setCell (p := ⟨R, 2, none⟩) hwR (.slice none 0 0)).setCell (p := ⟨R, 3, none⟩) hwR (.int .i64 0))⟩
  · cases hA : aokB p pr c bw
    · simp only [Bool.false_eq_true, if_false, Bool.false_and, Bool.and_false, Bool.true_and]
      have HN := Lib.hid hN
      clear hN
      have HA := Lib.hid hA
      clear hA
      have E0 : Below w.heap.size w w := Below.refl _ _
      have bA := Bx.new (w) (.slice pa p.length pd) (.int .i64 pr) (.slice ca c.length cd) (.int .i64 bw) 44 (w.heap.size) rfl
      replace E0 := E0.alloc (Nat.le_refl _) (.cells #[.slice pa p.length pd, .int .i64 pr, .slice ca c.length cd, .int .i64 bw] 44)
      have zR : ((w).alloc (.cells #[.slice pa p.length pd, .int .i64 pr, .slice ca c.length cd, .int .i64 bw] 44)).heap.size = w.heap.size + 1 := by simp
      have bR := Bx.new ((w).alloc (.cells #[.slice pa p.length pd, .int .i64 pr, .slice ca c.length cd, .int .i64 bw] 44)) (.slice none 0 0) (.int .i64 0) (.slice none 0 0) (.int .i64 0) 44 (w.heap.size + 1) zR.symm
      replace bA := bA.alloc (.cells #[.slice none 0 0, .int .i64 0, .slice none 0 0, .int .i64 0] 44)
      replace E0 := E0.alloc (by rw [zR]; omega) (.cells #[.slice none 0 0, .int .i64 0, .slice none 0 0, .int .i64 0] 44)
      clear zR
      have zz : (((w).alloc (.cells #[.slice pa p.length pd, .int .i64 pr, .slice ca c.length cd, .int .i64 bw] 44)).alloc (.cells #[.slice none 0 0, .int .i64 0, .slice none 0 0, .int .i64 0] 44)).heap.size = w.heap.size + 1 + 1 := by simp
      have hp1 := hp.keep E0
      have hc1 := hc.keep E0
      go_enter Try.func40, Try.ntmps40
      go_wp2_with fail
      obtain ⟨A, eA⟩ : ∃ A, A = w.heap.size := ⟨_, rfl⟩
      rw [← eA] at bA
      obtain ⟨R, eR⟩ : ∃ R, R = w.heap.size + 1 := ⟨_, rfl⟩
      rw [← eR] at bR
      try rw [← eR]
      try rw [← eA]
      have hwA : w.heap.size ≤ A := by omega
      have htA : A < w.heap.size + 1 + 1 := by omega
      have nAR : A ≠ R := by omega
      have hwR : w.heap.size ≤ R := by omega
      have htR : R < w.heap.size + 1 + 1 := by omega
      have nRA : R ≠ A := by omega
      clear eA eR
      refine (sas_t2 _ HN).mono ?_
      rintro e w1 ⟨rfl, rfl⟩
      have lA := bA.lt
      have kA0 := bA.c0
      have qA0 := bA.f0
      have kA1 := bA.c1
      have qA1 := bA.f1
      have kA2 := bA.c2
      have qA2 := bA.f2
      have kA3 := bA.c3
      have qA3 := bA.f3
      have lR := bR.lt
      have kR0 := bR.c0
      have qR0 := bR.f0
      have kR1 := bR.c1
      have qR1 := bR.f1
      have kR2 := bR.c2
      have qR2 := bR.f2
      have kR3 := bR.c3
      have qR3 := bR.f3
      go_wp2_with fail
      clear kA0 qA0 kA1 qA1 kA2 qA2 kA3 qA3 kR0 qR0 kR1 qR1 kR2 qR2 kR3 qR3 lA lR
      have E0z := E0.size
      refine (saok_t _ hp1 hc1 HA).mono ?_
      rintro e w2 ⟨rfl, hb⟩
      replace bA := bA.keep hb
      replace bR := bR.keep hb
      replace hp1 := hp1.keep hb
      replace hc1 := hc1.keep hb
      replace E0 := below_step E0 hb
      clear hb
      have E0w2 := E0.size
      clear E0z
      have lA := bA.lt
      have kA0 := bA.c0
      have qA0 := bA.f0
      have kA1 := bA.c1
      have qA1 := bA.f1
      have kA2 := bA.c2
      have qA2 := bA.f2
      have kA3 := bA.c3
      have qA3 := bA.f3
      have lR := bR.lt
      have kR0 := bR.c0
      have qR0 := bR.f0
      have kR1 := bR.c1
      have qR1 := bR.f1
      have kR2 := bR.c2
      have qR2 := bR.f2
      have kR3 := bR.c3
      have qR3 := bR.f3
      go_wp2_with fail
      clear kA0 qA0 kA1 qA1 kA2 qA2 kA3 qA3 kR0 qR0 kR1 qR1 kR2 qR2 kR3 qR3 lA lR
      have bE := ((((bR.set0 (u := .slice none 0 0)).set1 (u := .int .i64 0)).set2 (u := .slice none 0 0)).set3 (u := .int .i64 0))
      have e0 := bE.c0
      have e1 := bE.c1
      have e2 := bE.c2
      have e3 := bE.c3
      exact bodyPost_ret (v := .tuple #[.agg #[.slice none 0 0, .int .i64 0, .slice none 0 0, .int .i64 0], .bool false]) (by simp [results, Try.results40, go_sem, e0, e1, e2, e3]) rfl
        ⟨_, _, _, _, rfl, (World.ownsRow_nil _ _ _ _), (World.ownsRow_nil _ _ _ _), apart_nil _, ((((E0.setCell (p := ⟨R, 0, none⟩) hwR (.slice none 0 0)).setCell (p := ⟨R, 1, none⟩) hwR (.int .i64 0)).setCell (p := ⟨R, 2, none⟩) hwR (.slice none 0 0)).setCell (p := ⟨R, 3, none⟩) hwR (.int .i64 0))⟩
    · obtain ⟨hpl, hcl, -, -, -⟩ := aok_p hA
      have hpl2 : p.length ≤ 1048576 := by omega
      have hcl2 : c.length ≤ 1048576 := by omega
      by_cases h8 : p.length = 8
      · rw [show (!decide (p.length = 8)) = false by simp [h8]]
        simp only [Bool.and_false, Bool.false_eq_true, if_false]
        have H8 := Lib.hid (show (8 : Int) ≤ (p.length : Int) by omega)
        clear h8
        have HN := Lib.hid hN
        clear hN
        have HA := Lib.hid hA
        clear hA
        have E0 : Below w.heap.size w w := Below.refl _ _
        have bA := Bx.new (w) (.slice pa p.length pd) (.int .i64 pr) (.slice ca c.length cd) (.int .i64 bw) 44 (w.heap.size) rfl
        replace E0 := E0.alloc (Nat.le_refl _) (.cells #[.slice pa p.length pd, .int .i64 pr, .slice ca c.length cd, .int .i64 bw] 44)
        have zR : ((w).alloc (.cells #[.slice pa p.length pd, .int .i64 pr, .slice ca c.length cd, .int .i64 bw] 44)).heap.size = w.heap.size + 1 := by simp
        have bR := Bx.new ((w).alloc (.cells #[.slice pa p.length pd, .int .i64 pr, .slice ca c.length cd, .int .i64 bw] 44)) (.slice none 0 0) (.int .i64 0) (.slice none 0 0) (.int .i64 0) 44 (w.heap.size + 1) zR.symm
        replace bA := bA.alloc (.cells #[.slice none 0 0, .int .i64 0, .slice none 0 0, .int .i64 0] 44)
        replace E0 := E0.alloc (by rw [zR]; omega) (.cells #[.slice none 0 0, .int .i64 0, .slice none 0 0, .int .i64 0] 44)
        clear zR
        have zz : (((w).alloc (.cells #[.slice pa p.length pd, .int .i64 pr, .slice ca c.length cd, .int .i64 bw] 44)).alloc (.cells #[.slice none 0 0, .int .i64 0, .slice none 0 0, .int .i64 0] 44)).heap.size = w.heap.size + 1 + 1 := by simp
        have hp1 := hp.keep E0
        have hc1 := hc.keep E0
        go_enter Try.func40, Try.ntmps40
        go_wp2_with fail
        obtain ⟨A, eA⟩ : ∃ A, A = w.heap.size := ⟨_, rfl⟩
        rw [← eA] at bA
        obtain ⟨R, eR⟩ : ∃ R, R = w.heap.size + 1 := ⟨_, rfl⟩
        rw [← eR] at bR
        try rw [← eR]
        try rw [← eA]
        have hwA : w.heap.size ≤ A := by omega
        have htA : A < w.heap.size + 1 + 1 := by omega
        have nAR : A ≠ R := by omega
        have hwR : w.heap.size ≤ R := by omega
        have htR : R < w.heap.size + 1 + 1 := by omega
        have nRA : R ≠ A := by omega
        clear eA eR
        refine (sas_t2 _ HN).mono ?_
        rintro e w1 ⟨rfl, rfl⟩
        have lA := bA.lt
        have kA0 := bA.c0
        have qA0 := bA.f0
        have kA1 := bA.c1
        have qA1 := bA.f1
        have kA2 := bA.c2
        have qA2 := bA.f2
        have kA3 := bA.c3
        have qA3 := bA.f3
        have lR := bR.lt
        have kR0 := bR.c0
        have qR0 := bR.f0
        have kR1 := bR.c1
        have qR1 := bR.f1
        have kR2 := bR.c2
        have qR2 := bR.f2
        have kR3 := bR.c3
        have qR3 := bR.f3
        go_wp2_with fail
        clear kA0 qA0 kA1 qA1 kA2 qA2 kA3 qA3 kR0 qR0 kR1 qR1 kR2 qR2 kR3 qR3 lA lR
        have E0z := E0.size
        refine (saok_t _ hp1 hc1 HA).mono ?_
        rintro e w2 ⟨rfl, hb⟩
        replace bA := bA.keep hb
        replace bR := bR.keep hb
        replace hp1 := hp1.keep hb
        replace hc1 := hc1.keep hb
        replace E0 := below_step E0 hb
        clear hb
        have E0w2 := E0.size
        clear E0z
        have lA := bA.lt
        have kA0 := bA.c0
        have qA0 := bA.f0
        have kA1 := bA.c1
        have qA1 := bA.f1
        have kA2 := bA.c2
        have qA2 := bA.f2
        have kA3 := bA.c3
        have qA3 := bA.f3
        have lR := bR.lt
        have kR0 := bR.c0
        have qR0 := bR.f0
        have kR1 := bR.c1
        have qR1 := bR.f1
        have kR2 := bR.c2
        have qR2 := bR.f2
        have kR3 := bR.c3
        have qR3 := bR.f3
        go_wp2_with fail
        clear kA0 qA0 kA1 qA1 kA2 qA2 kA3 qA3 kR0 qR0 kR1 qR1 kR2 qR2 kR3 qR3 lA lR
        have E0z := E0.size
        refine (sl6export_no _ _ p c pr bw an _ hp1 hc1 (by have q := H8.out; omega)).mono ?_
        rintro e w3 ⟨a1, d1, b1, f1, rfl, ho, hq, hap, hb⟩
        have lw3 := hb.size
        have shoA := OwnI.sepLt ho bA.lt
        have shoR := OwnI.sepLt ho bR.lt
        have shqA := OwnI.sepLt hq bA.lt
        have shqR := OwnI.sepLt hq bR.lt
        replace bA := bA.keep hb
        replace bR := bR.keep hb
        replace hp1 := hp1.keep hb
        replace hc1 := hc1.keep hb
        replace E0 := below_step E0 hb
        clear hb
        replace ho := ho.mono E0z
        replace hq := hq.mono E0z
        have E0w3 := E0.size
        clear E0z
        have lA := bA.lt
        have kA0 := bA.c0
        have qA0 := bA.f0
        have kA1 := bA.c1
        have qA1 := bA.f1
        have kA2 := bA.c2
        have qA2 := bA.f2
        have kA3 := bA.c3
        have qA3 := bA.f3
        have lR := bR.lt
        have kR0 := bR.c0
        have qR0 := bR.f0
        have kR1 := bR.c1
        have qR1 := bR.f1
        have kR2 := bR.c2
        have qR2 := bR.f2
        have kR3 := bR.c3
        have qR3 := bR.f3
        go_wp2_with fail
        clear kA0 qA0 kA1 qA1 kA2 qA2 kA3 qA3 kR0 qR0 kR1 qR1 kR2 qR2 kR3 qR3 lA lR
        have bE := ((((bR.set0 (u := .slice a1 0 d1)).set1 (u := .int .i64 0)).set2 (u := .slice b1 0 f1)).set3 (u := .int .i64 0))
        have e0 := bE.c0
        have e1 := bE.c1
        have e2 := bE.c2
        have e3 := bE.c3
        exact bodyPost_ret (v := .tuple #[.agg #[.slice a1 0 d1, .int .i64 0, .slice b1 0 f1, .int .i64 0], .bool false]) (by simp [results, Try.results40, go_sem, e0, e1, e2, e3]) rfl
          ⟨_, _, _, _, rfl, ((((ho.farN (o := 0) shoR).farN (o := 1) shoR).farN (o := 2) shoR).farN (o := 3) shoR), ((((hq.farN (o := 0) shqR).farN (o := 1) shqR).farN (o := 2) shqR).farN (o := 3) shqR), hap, ((((E0.setCell (p := ⟨R, 0, none⟩) hwR (.slice a1 0 d1)).setCell (p := ⟨R, 1, none⟩) hwR (.int .i64 0)).setCell (p := ⟨R, 2, none⟩) hwR (.slice b1 0 f1)).setCell (p := ⟨R, 3, none⟩) hwR (.int .i64 0))⟩
      · rw [show (!decide (p.length = 8)) = true by simp [h8]]
        simp only [Bool.and_true, if_true]
        have H8 := Lib.hid (show ¬ (8 : Int) ≤ (p.length : Int) by omega)
        clear h8
        have HN := Lib.hid hN
        clear hN
        have HA := Lib.hid hA
        clear hA
        have E0 : Below w.heap.size w w := Below.refl _ _
        have bA := Bx.new (w) (.slice pa p.length pd) (.int .i64 pr) (.slice ca c.length cd) (.int .i64 bw) 44 (w.heap.size) rfl
        replace E0 := E0.alloc (Nat.le_refl _) (.cells #[.slice pa p.length pd, .int .i64 pr, .slice ca c.length cd, .int .i64 bw] 44)
        have zR : ((w).alloc (.cells #[.slice pa p.length pd, .int .i64 pr, .slice ca c.length cd, .int .i64 bw] 44)).heap.size = w.heap.size + 1 := by simp
        have bR := Bx.new ((w).alloc (.cells #[.slice pa p.length pd, .int .i64 pr, .slice ca c.length cd, .int .i64 bw] 44)) (.slice none 0 0) (.int .i64 0) (.slice none 0 0) (.int .i64 0) 44 (w.heap.size + 1) zR.symm
        replace bA := bA.alloc (.cells #[.slice none 0 0, .int .i64 0, .slice none 0 0, .int .i64 0] 44)
        replace E0 := E0.alloc (by rw [zR]; omega) (.cells #[.slice none 0 0, .int .i64 0, .slice none 0 0, .int .i64 0] 44)
        clear zR
        have zz : (((w).alloc (.cells #[.slice pa p.length pd, .int .i64 pr, .slice ca c.length cd, .int .i64 bw] 44)).alloc (.cells #[.slice none 0 0, .int .i64 0, .slice none 0 0, .int .i64 0] 44)).heap.size = w.heap.size + 1 + 1 := by simp
        have hp1 := hp.keep E0
        have hc1 := hc.keep E0
        go_enter Try.func40, Try.ntmps40
        go_wp2_with fail
        obtain ⟨A, eA⟩ : ∃ A, A = w.heap.size := ⟨_, rfl⟩
        rw [← eA] at bA
        obtain ⟨R, eR⟩ : ∃ R, R = w.heap.size + 1 := ⟨_, rfl⟩
        rw [← eR] at bR
        try rw [← eR]
        try rw [← eA]
        have hwA : w.heap.size ≤ A := by omega
        have htA : A < w.heap.size + 1 + 1 := by omega
        have nAR : A ≠ R := by omega
        have hwR : w.heap.size ≤ R := by omega
        have htR : R < w.heap.size + 1 + 1 := by omega
        have nRA : R ≠ A := by omega
        clear eA eR
        refine (sas_t2 _ HN).mono ?_
        rintro e w1 ⟨rfl, rfl⟩
        have lA := bA.lt
        have kA0 := bA.c0
        have qA0 := bA.f0
        have kA1 := bA.c1
        have qA1 := bA.f1
        have kA2 := bA.c2
        have qA2 := bA.f2
        have kA3 := bA.c3
        have qA3 := bA.f3
        have lR := bR.lt
        have kR0 := bR.c0
        have qR0 := bR.f0
        have kR1 := bR.c1
        have qR1 := bR.f1
        have kR2 := bR.c2
        have qR2 := bR.f2
        have kR3 := bR.c3
        have qR3 := bR.f3
        go_wp2_with fail
        clear kA0 qA0 kA1 qA1 kA2 qA2 kA3 qA3 kR0 qR0 kR1 qR1 kR2 qR2 kR3 qR3 lA lR
        have E0z := E0.size
        refine (saok_t _ hp1 hc1 HA).mono ?_
        rintro e w2 ⟨rfl, hb⟩
        replace bA := bA.keep hb
        replace bR := bR.keep hb
        replace hp1 := hp1.keep hb
        replace hc1 := hc1.keep hb
        replace E0 := below_step E0 hb
        clear hb
        have E0w2 := E0.size
        clear E0z
        have lA := bA.lt
        have kA0 := bA.c0
        have qA0 := bA.f0
        have kA1 := bA.c1
        have qA1 := bA.f1
        have kA2 := bA.c2
        have qA2 := bA.f2
        have kA3 := bA.c3
        have qA3 := bA.f3
        have lR := bR.lt
        have kR0 := bR.c0
        have qR0 := bR.f0
        have kR1 := bR.c1
        have qR1 := bR.f1
        have kR2 := bR.c2
        have qR2 := bR.f2
        have kR3 := bR.c3
        have qR3 := bR.f3
        go_wp2_with fail
        clear kA0 qA0 kA1 qA1 kA2 qA2 kA3 qA3 kR0 qR0 kR1 qR1 kR2 qR2 kR3 qR3 lA lR
        have E0z := E0.size
        refine (sl6export_yes _ _ p c pr bw an _ hp1 hc1 han hpl2 hcl2 (by have q := H8.out; omega)).mono ?_
        rintro e w3 ⟨a1, d1, b1, f1, rfl, ho, hq, hap, hb⟩
        have lw3 := hb.size
        have shoA := OwnI.sepLt ho bA.lt
        have shoR := OwnI.sepLt ho bR.lt
        have shqA := OwnI.sepLt hq bA.lt
        have shqR := OwnI.sepLt hq bR.lt
        replace bA := bA.keep hb
        replace bR := bR.keep hb
        replace hp1 := hp1.keep hb
        replace hc1 := hc1.keep hb
        replace E0 := below_step E0 hb
        clear hb
        replace ho := ho.mono E0z
        replace hq := hq.mono E0z
        have E0w3 := E0.size
        clear E0z
        have lA := bA.lt
        have kA0 := bA.c0
        have qA0 := bA.f0
        have kA1 := bA.c1
        have qA1 := bA.f1
        have kA2 := bA.c2
        have qA2 := bA.f2
        have kA3 := bA.c3
        have qA3 := bA.f3
        have lR := bR.lt
        have kR0 := bR.c0
        have qR0 := bR.f0
        have kR1 := bR.c1
        have qR1 := bR.f1
        have kR2 := bR.c2
        have qR2 := bR.f2
        have kR3 := bR.c3
        have qR3 := bR.f3
        go_wp2_with fail
        clear kA0 qA0 kA1 qA1 kA2 qA2 kA3 qA3 kR0 qR0 kR1 qR1 kR2 qR2 kR3 qR3 lA lR
        have bE := ((((bR.set0 (u := .slice a1 (p.length + 1) d1)).set1 (u := .int .i64 0)).set2 (u := .slice b1 c.length f1)).set3 (u := .int .i64 bw))
        have e0 := bE.c0
        have e1 := bE.c1
        have e2 := bE.c2
        have e3 := bE.c3
        exact bodyPost_ret (v := .tuple #[.agg #[.slice a1 (p.length + 1) d1, .int .i64 0, .slice b1 c.length f1, .int .i64 bw], .bool true]) (by simp [results, Try.results40, go_sem, e0, e1, e2, e3]) rfl
          ⟨_, _, _, _, rfl, ((((ho.farN (o := 0) shoR).farN (o := 1) shoR).farN (o := 2) shoR).farN (o := 3) shoR), ((((hq.farN (o := 0) shqR).farN (o := 1) shqR).farN (o := 2) shqR).farN (o := 3) shqR), hap, ((((E0.setCell (p := ⟨R, 0, none⟩) hwR (.slice a1 (p.length + 1) d1)).setCell (p := ⟨R, 1, none⟩) hwR (.int .i64 0)).setCell (p := ⟨R, 2, none⟩) hwR (.slice b1 c.length f1)).setCell (p := ⟨R, 3, none⟩) hwR (.int .i64 bw))⟩
theorem iexport_any (pv cv : Value) (p c : List Int) (pr bw an : Int) (w : World) (hp : RdI w pv p) (hc : RdI w cv c) (han : I64 an) :
    Calls Try.prog 41 #[.int .i64 an, .agg #[pv, .int .i64 pr, cv, .int .i64 bw]] w (NewA2 w (if ((asB an && aokB p pr c bw) && !decide (p.length = 8)) then (an :: p) else []) 0 (if ((asB an && aokB p pr c bw) && !decide (p.length = 8)) then c else []) (if ((asB an && aokB p pr c bw) && !decide (p.length = 8)) then bw else 0) ((asB an && aokB p pr c bw) && !decide (p.length = 8))) := by
  obtain ⟨pa, pd, rfl⟩ := hp.len
  obtain ⟨ca, cd, rfl⟩ := hc.len
  have hcm : (asB an && aokB p pr c bw) = (aokB p pr c bw && asB an) := Bool.and_comm _ _
  rw [hcm]
  clear hcm
  cases hB : (aokB p pr c bw && asB an)
  · simp only [Bool.false_eq_true, if_false, Bool.false_and, Bool.and_false, Bool.true_and]
    have HB := Lib.hid hB
    clear hB
    have E0 : Below w.heap.size w w := Below.refl _ _
    have bA := Bx.new (w) (.slice pa p.length pd) (.int .i64 pr) (.slice ca c.length cd) (.int .i64 bw) 44 (w.heap.size) rfl
    replace E0 := E0.alloc (Nat.le_refl _) (.cells #[.slice pa p.length pd, .int .i64 pr, .slice ca c.length cd, .int .i64 bw] 44)
    have zR : ((w).alloc (.cells #[.slice pa p.length pd, .int .i64 pr, .slice ca c.length cd, .int .i64 bw] 44)).heap.size = w.heap.size + 1 := by simp
    have bR := Bx.new ((w).alloc (.cells #[.slice pa p.length pd, .int .i64 pr, .slice ca c.length cd, .int .i64 bw] 44)) (.slice none 0 0) (.int .i64 0) (.slice none 0 0) (.int .i64 0) 44 (w.heap.size + 1) zR.symm
    replace bA := bA.alloc (.cells #[.slice none 0 0, .int .i64 0, .slice none 0 0, .int .i64 0] 44)
    replace E0 := E0.alloc (by rw [zR]; omega) (.cells #[.slice none 0 0, .int .i64 0, .slice none 0 0, .int .i64 0] 44)
    clear zR
    have zz : (((w).alloc (.cells #[.slice pa p.length pd, .int .i64 pr, .slice ca c.length cd, .int .i64 bw] 44)).alloc (.cells #[.slice none 0 0, .int .i64 0, .slice none 0 0, .int .i64 0] 44)).heap.size = w.heap.size + 1 + 1 := by simp
    have hp1 := hp.keep E0
    have hc1 := hc.keep E0
    go_enter Try.func41, Try.ntmps41
    go_wp2_with fail
    obtain ⟨A, eA⟩ : ∃ A, A = w.heap.size := ⟨_, rfl⟩
    rw [← eA] at bA
    obtain ⟨R, eR⟩ : ∃ R, R = w.heap.size + 1 := ⟨_, rfl⟩
    rw [← eR] at bR
    try rw [← eR]
    try rw [← eA]
    have hwA : w.heap.size ≤ A := by omega
    have htA : A < w.heap.size + 1 + 1 := by omega
    have nAR : A ≠ R := by omega
    have hwR : w.heap.size ≤ R := by omega
    have htR : R < w.heap.size + 1 + 1 := by omega
    have nRA : R ≠ A := by omega
    clear eA eR
    have E0z := E0.size
    refine (iprepend_no _ _ p c pr bw an _ hp1 hc1 han HB).mono ?_
    rintro e w1 ⟨a1, d1, b1, f1, rfl, ho, hq, hap, hb⟩
    have lw1 := hb.size
    have shoA := OwnI.sepLt ho bA.lt
    have shoR := OwnI.sepLt ho bR.lt
    have shqA := OwnI.sepLt hq bA.lt
    have shqR := OwnI.sepLt hq bR.lt
    replace bA := bA.keep hb
    replace bR := bR.keep hb
    replace hp1 := hp1.keep hb
    replace hc1 := hc1.keep hb
    replace E0 := below_step E0 hb
    clear hb
    replace ho := ho.mono E0z
    replace hq := hq.mono E0z
    have E0w1 := E0.size
    clear E0z
    have lA := bA.lt
    have kA0 := bA.c0
    have qA0 := bA.f0
    have kA1 := bA.c1
    have qA1 := bA.f1
    have kA2 := bA.c2
    have qA2 := bA.f2
    have kA3 := bA.c3
    have qA3 := bA.f3
    have lR := bR.lt
    have kR0 := bR.c0
    have qR0 := bR.f0
    have kR1 := bR.c1
    have qR1 := bR.f1
    have kR2 := bR.c2
    have qR2 := bR.f2
    have kR3 := bR.c3
    have qR3 := bR.f3
    go_wp2_with fail
    clear kA0 qA0 kA1 qA1 kA2 qA2 kA3 qA3 kR0 qR0 kR1 qR1 kR2 qR2 kR3 qR3 lA lR
    have bE := (((((bR.set0 (u := .slice none 0 0)).set1 (u := .int .i64 0)).set2 (u := .slice none 0 0)).set3 (u := .int .i64 0)).alloc (.cells #[.slice a1 0 d1, .int .i64 0, .slice b1 0 f1, .int .i64 0] 44))
    have e0 := bE.c0
    have e1 := bE.c1
    have e2 := bE.c2
    have e3 := bE.c3
    have eZ := ((((E0.setCell (p := ⟨R, 0, none⟩) hwR (.slice none 0 0)).setCell (p := ⟨R, 1, none⟩) hwR (.int .i64 0)).setCell (p := ⟨R, 2, none⟩) hwR (.slice none 0 0)).setCell (p := ⟨R, 3, none⟩) hwR (.int .i64 0))
    exact bodyPost_ret (v := .tuple #[.agg #[.slice none 0 0, .int .i64 0, .slice none 0 0, .int .i64 0], .bool false]) (by simp [results, Try.results41, go_sem, e0, e1, e2, e3]) rfl
      ⟨_, _, _, _, rfl, (World.ownsRow_nil _ _ _ _), (World.ownsRow_nil _ _ _ _), apart_nil _, (eZ.alloc eZ.size _)⟩
  · have HB := Lib.hid hB
    clear hB
    by_cases h8 : p.length = 8
    · rw [show (!decide (p.length = 8)) = false by simp [h8]]
      simp only [Bool.and_false, Bool.false_eq_true, if_false]
      have H8 := Lib.hid h8
      clear h8
      have E0 : Below w.heap.size w w := Below.refl _ _
      have bA := Bx.new (w) (.slice pa p.length pd) (.int .i64 pr) (.slice ca c.length cd) (.int .i64 bw) 44 (w.heap.size) rfl
      replace E0 := E0.alloc (Nat.le_refl _) (.cells #[.slice pa p.length pd, .int .i64 pr, .slice ca c.length cd, .int .i64 bw] 44)
      have zR : ((w).alloc (.cells #[.slice pa p.length pd, .int .i64 pr, .slice ca c.length cd, .int .i64 bw] 44)).heap.size = w.heap.size + 1 := by simp
      have bR := Bx.new ((w).alloc (.cells #[.slice pa p.length pd, .int .i64 pr, .slice ca c.length cd, .int .i64 bw] 44)) (.slice none 0 0) (.int .i64 0) (.slice none 0 0) (.int .i64 0) 44 (w.heap.size + 1) zR.symm
      replace bA := bA.alloc (.cells #[.slice none 0 0, .int .i64 0, .slice none 0 0, .int .i64 0] 44)
      replace E0 := E0.alloc (by rw [zR]; omega) (.cells #[.slice none 0 0, .int .i64 0, .slice none 0 0, .int .i64 0] 44)
      clear zR
      have zz : (((w).alloc (.cells #[.slice pa p.length pd, .int .i64 pr, .slice ca c.length cd, .int .i64 bw] 44)).alloc (.cells #[.slice none 0 0, .int .i64 0, .slice none 0 0, .int .i64 0] 44)).heap.size = w.heap.size + 1 + 1 := by simp
      have hp1 := hp.keep E0
      have hc1 := hc.keep E0
      go_enter Try.func41, Try.ntmps41
      go_wp2_with fail
      obtain ⟨A, eA⟩ : ∃ A, A = w.heap.size := ⟨_, rfl⟩
      rw [← eA] at bA
      obtain ⟨R, eR⟩ : ∃ R, R = w.heap.size + 1 := ⟨_, rfl⟩
      rw [← eR] at bR
      try rw [← eR]
      try rw [← eA]
      have hwA : w.heap.size ≤ A := by omega
      have htA : A < w.heap.size + 1 + 1 := by omega
      have nAR : A ≠ R := by omega
      have hwR : w.heap.size ≤ R := by omega
      have htR : R < w.heap.size + 1 + 1 := by omega
      have nRA : R ≠ A := by omega
      clear eA eR
      have E0z := E0.size
      refine (iprepend_full _ _ p c pr bw an _ hp1 hc1 han HB H8).mono ?_
      rintro e w1 ⟨a1, d1, b1, f1, rfl, ho, hq, hap, hb⟩
      have lw1 := hb.size
      have shoA := OwnI.sepLt ho bA.lt
      have shoR := OwnI.sepLt ho bR.lt
      have shqA := OwnI.sepLt hq bA.lt
      have shqR := OwnI.sepLt hq bR.lt
      replace bA := bA.keep hb
      replace bR := bR.keep hb
      replace hp1 := hp1.keep hb
      replace hc1 := hc1.keep hb
      replace E0 := below_step E0 hb
      clear hb
      replace ho := ho.mono E0z
      replace hq := hq.mono E0z
      have E0w1 := E0.size
      clear E0z
      have lA := bA.lt
      have kA0 := bA.c0
      have qA0 := bA.f0
      have kA1 := bA.c1
      have qA1 := bA.f1
      have kA2 := bA.c2
      have qA2 := bA.f2
      have kA3 := bA.c3
      have qA3 := bA.f3
      have lR := bR.lt
      have kR0 := bR.c0
      have qR0 := bR.f0
      have kR1 := bR.c1
      have qR1 := bR.f1
      have kR2 := bR.c2
      have qR2 := bR.f2
      have kR3 := bR.c3
      have qR3 := bR.f3
      go_wp2_with fail
      clear kA0 qA0 kA1 qA1 kA2 qA2 kA3 qA3 kR0 qR0 kR1 qR1 kR2 qR2 kR3 qR3 lA lR
      have bE := (((((bR.set0 (u := .slice none 0 0)).set1 (u := .int .i64 0)).set2 (u := .slice none 0 0)).set3 (u := .int .i64 0)).alloc (.cells #[.slice a1 p.length d1, .int .i64 pr, .slice b1 c.length f1, .int .i64 bw] 44))
      have e0 := bE.c0
      have e1 := bE.c1
      have e2 := bE.c2
      have e3 := bE.c3
      have eZ := ((((E0.setCell (p := ⟨R, 0, none⟩) hwR (.slice none 0 0)).setCell (p := ⟨R, 1, none⟩) hwR (.int .i64 0)).setCell (p := ⟨R, 2, none⟩) hwR (.slice none 0 0)).setCell (p := ⟨R, 3, none⟩) hwR (.int .i64 0))
      exact bodyPost_ret (v := .tuple #[.agg #[.slice none 0 0, .int .i64 0, .slice none 0 0, .int .i64 0], .bool false]) (by simp [results, Try.results41, go_sem, e0, e1, e2, e3]) rfl
        ⟨_, _, _, _, rfl, (World.ownsRow_nil _ _ _ _), (World.ownsRow_nil _ _ _ _), apart_nil _, (eZ.alloc eZ.size _)⟩
    · rw [show (!decide (p.length = 8)) = true by simp [h8]]
      simp only [Bool.and_true, if_true]
      have H8 := Lib.hid h8
      clear h8
      have E0 : Below w.heap.size w w := Below.refl _ _
      have bA := Bx.new (w) (.slice pa p.length pd) (.int .i64 pr) (.slice ca c.length cd) (.int .i64 bw) 44 (w.heap.size) rfl
      replace E0 := E0.alloc (Nat.le_refl _) (.cells #[.slice pa p.length pd, .int .i64 pr, .slice ca c.length cd, .int .i64 bw] 44)
      have zR : ((w).alloc (.cells #[.slice pa p.length pd, .int .i64 pr, .slice ca c.length cd, .int .i64 bw] 44)).heap.size = w.heap.size + 1 := by simp
      have bR := Bx.new ((w).alloc (.cells #[.slice pa p.length pd, .int .i64 pr, .slice ca c.length cd, .int .i64 bw] 44)) (.slice none 0 0) (.int .i64 0) (.slice none 0 0) (.int .i64 0) 44 (w.heap.size + 1) zR.symm
      replace bA := bA.alloc (.cells #[.slice none 0 0, .int .i64 0, .slice none 0 0, .int .i64 0] 44)
      replace E0 := E0.alloc (by rw [zR]; omega) (.cells #[.slice none 0 0, .int .i64 0, .slice none 0 0, .int .i64 0] 44)
      clear zR
      have zz : (((w).alloc (.cells #[.slice pa p.length pd, .int .i64 pr, .slice ca c.length cd, .int .i64 bw] 44)).alloc (.cells #[.slice none 0 0, .int .i64 0, .slice none 0 0, .int .i64 0] 44)).heap.size = w.heap.size + 1 + 1 := by simp
      have hp1 := hp.keep E0
      have hc1 := hc.keep E0
      go_enter Try.func41, Try.ntmps41
      go_wp2_with fail
      obtain ⟨A, eA⟩ : ∃ A, A = w.heap.size := ⟨_, rfl⟩
      rw [← eA] at bA
      obtain ⟨R, eR⟩ : ∃ R, R = w.heap.size + 1 := ⟨_, rfl⟩
      rw [← eR] at bR
      try rw [← eR]
      try rw [← eA]
      have hwA : w.heap.size ≤ A := by omega
      have htA : A < w.heap.size + 1 + 1 := by omega
      have nAR : A ≠ R := by omega
      have hwR : w.heap.size ≤ R := by omega
      have htR : R < w.heap.size + 1 + 1 := by omega
      have nRA : R ≠ A := by omega
      clear eA eR
      have E0z := E0.size
      refine (iprepend_yes _ _ p c pr bw an _ hp1 hc1 han HB H8).mono ?_
      rintro e w1 ⟨a1, d1, b1, f1, rfl, ho, hq, hap, hb⟩
      have lw1 := hb.size
      have shoA := OwnI.sepLt ho bA.lt
      have shoR := OwnI.sepLt ho bR.lt
      have shqA := OwnI.sepLt hq bA.lt
      have shqR := OwnI.sepLt hq bR.lt
      replace bA := bA.keep hb
      replace bR := bR.keep hb
      replace hp1 := hp1.keep hb
      replace hc1 := hc1.keep hb
      replace E0 := below_step E0 hb
      clear hb
      replace ho := ho.mono E0z
      replace hq := hq.mono E0z
      have E0w1 := E0.size
      clear E0z
      have lA := bA.lt
      have kA0 := bA.c0
      have qA0 := bA.f0
      have kA1 := bA.c1
      have qA1 := bA.f1
      have kA2 := bA.c2
      have qA2 := bA.f2
      have kA3 := bA.c3
      have qA3 := bA.f3
      have lR := bR.lt
      have kR0 := bR.c0
      have qR0 := bR.f0
      have kR1 := bR.c1
      have qR1 := bR.f1
      have kR2 := bR.c2
      have qR2 := bR.f2
      have kR3 := bR.c3
      have qR3 := bR.f3
      go_wp2_with fail
      clear kA0 qA0 kA1 qA1 kA2 qA2 kA3 qA3 kR0 qR0 kR1 qR1 kR2 qR2 kR3 qR3 lA lR
      have bE := (((((bR.set0 (u := .slice a1 (p.length + 1) d1)).set1 (u := .int .i64 0)).set2 (u := .slice b1 c.length f1)).set3 (u := .int .i64 bw)).alloc (.cells #[.slice a1 (p.length + 1) d1, .int .i64 0, .slice b1 c.length f1, .int .i64 bw] 44))
      have e0 := bE.c0
      have e1 := bE.c1
      have e2 := bE.c2
      have e3 := bE.c3
      have eZ := ((((E0.setCell (p := ⟨R, 0, none⟩) hwR (.slice a1 (p.length + 1) d1)).setCell (p := ⟨R, 1, none⟩) hwR (.int .i64 0)).setCell (p := ⟨R, 2, none⟩) hwR (.slice b1 c.length f1)).setCell (p := ⟨R, 3, none⟩) hwR (.int .i64 bw))
      exact bodyPost_ret (v := .tuple #[.agg #[.slice a1 (p.length + 1) d1, .int .i64 0, .slice b1 c.length f1, .int .i64 bw], .bool true]) (by simp [results, Try.results41, go_sem, e0, e1, e2, e3]) rfl
        ⟨_, _, _, _, rfl, (((((ho.farN (o := 0) shoR).farN (o := 1) shoR).farN (o := 2) shoR).farN (o := 3) shoR).alloc _), (((((hq.farN (o := 0) shqR).farN (o := 1) shqR).farN (o := 2) shqR).farN (o := 3) shqR).alloc _), hap, (eZ.alloc eZ.size _)⟩
theorem simport_t {p c P C : List Int} {pr bw an PR BW : Int} {OK : Bool} (H : Hid ((if ((asB an && aokB p pr c bw) && !decide (an ∈ p)) then p else []) = P ∧ (if ((asB an && aokB p pr c bw) && !decide (an ∈ p)) then shutP 100 c else 0) = PR ∧ (if ((asB an && aokB p pr c bw) && !decide (an ∈ p)) then c else []) = C ∧ (if ((asB an && aokB p pr c bw) && !decide (an ∈ p)) then bw else 0) = BW ∧ ((asB an && aokB p pr c bw) && !decide (an ∈ p)) = OK)) (han : I64 an)
    (pv cv : Value) (p' c' : List Int) (pr' bw' an' : Int) (w : World) (hp : RdI w pv p) (hc : RdI w cv c) : Calls Try.prog 34 #[.int .i64 an, .agg #[pv, .int .i64 pr, cv, .int .i64 bw]] w (NewA2 w P PR C BW OK) := by
  obtain ⟨rfl, rfl, rfl, rfl, rfl⟩ := H.out
  exact simport_any pv cv p c pr bw an w hp hc han
theorem iimport_t {p c P C : List Int} {pr bw an PR BW : Int} {OK : Bool} (H : Hid ((if ((asB an && aokB p pr c bw) && !decide (an ∈ p)) then p else []) = P ∧ (if ((asB an && aokB p pr c bw) && !decide (an ∈ p)) then shutP 100 c else 0) = PR ∧ (if ((asB an && aokB p pr c bw) && !decide (an ∈ p)) then c else []) = C ∧ (if ((asB an && aokB p pr c bw) && !decide (an ∈ p)) then bw else 0) = BW ∧ ((asB an && aokB p pr c bw) && !decide (an ∈ p)) = OK)) (han : I64 an)
    (pv cv : Value) (p' c' : List Int) (pr' bw' an' : Int) (w : World) (hp : RdI w pv p) (hc : RdI w cv c) : Calls Try.prog 36 #[.int .i64 an, .agg #[pv, .int .i64 pr, cv, .int .i64 bw]] w (NewA2 w P PR C BW OK) := by
  obtain ⟨rfl, rfl, rfl, rfl, rfl⟩ := H.out
  exact iimport_any pv cv p c pr bw an w hp hc han
theorem sexport_t {p c P C : List Int} {pr bw an PR BW : Int} {OK : Bool} (H : Hid ((if ((asB an && aokB p pr c bw) && !decide (p.length = 8)) then (an :: p) else []) = P ∧ (0 : Int) = PR ∧ (if ((asB an && aokB p pr c bw) && !decide (p.length = 8)) then c else []) = C ∧ (if ((asB an && aokB p pr c bw) && !decide (p.length = 8)) then bw else 0) = BW ∧ ((asB an && aokB p pr c bw) && !decide (p.length = 8)) = OK)) (han : I64 an)
    (pv cv : Value) (p' c' : List Int) (pr' bw' an' : Int) (w : World) (hp : RdI w pv p) (hc : RdI w cv c) : Calls Try.prog 40 #[.int .i64 an, .agg #[pv, .int .i64 pr, cv, .int .i64 bw]] w (NewA2 w P PR C BW OK) := by
  obtain ⟨rfl, rfl, rfl, rfl, rfl⟩ := H.out
  exact sexport_any pv cv p c pr bw an w hp hc han
theorem iexport_t {p c P C : List Int} {pr bw an PR BW : Int} {OK : Bool} (H : Hid ((if ((asB an && aokB p pr c bw) && !decide (p.length = 8)) then (an :: p) else []) = P ∧ (0 : Int) = PR ∧ (if ((asB an && aokB p pr c bw) && !decide (p.length = 8)) then c else []) = C ∧ (if ((asB an && aokB p pr c bw) && !decide (p.length = 8)) then bw else 0) = BW ∧ ((asB an && aokB p pr c bw) && !decide (p.length = 8)) = OK)) (han : I64 an)
    (pv cv : Value) (p' c' : List Int) (pr' bw' an' : Int) (w : World) (hp : RdI w pv p) (hc : RdI w cv c) : Calls Try.prog 41 #[.int .i64 an, .agg #[pv, .int .i64 pr, cv, .int .i64 bw]] w (NewA2 w P PR C BW OK) := by
  obtain ⟨rfl, rfl, rfl, rfl, rfl⟩ := H.out
  exact iexport_any pv cv p c pr bw an w hp hc han
end Go.Proofs.Ytcmbajphholliaa
