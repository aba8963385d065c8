/-
  Shut, of the program and of the model. Conditions: those in each contract.
-/
import Derived.Test.YtcmbajphholliabDoorI8
import Derived.Test.YtcmbajphholliabDoorI7
namespace Go.Proofs.YtcmbajphholliabDoor
open Go.ChangeShapes Go.WideShapes Go.ChangeAt Go.RowKit Go.BigFrame Go.Joins
set_option linter.unusedVariables false
set_option maxRecDepth 100000

theorem OwnI.sepLt {w : World} {base : Nat} {v : Value} {l : List Int} {B : Nat} (h : OwnI w base v l) (hB : B < base) : v.ownBlock = none ∨ v.ownBlock ≠ some B := by
  cases hv : v.ownBlock with
  | none => exact .inl rfl
  | some k => exact .inr (by have := (World.ownsRow.lt h k hv).1; intro e; cases e; omega)
theorem OwnI.sepGe {w : World} {base : Nat} {v : Value} {l : List Int} {B : Nat} (h : OwnI w base v l) (hB : w.heap.size ≤ B) : v.ownBlock = none ∨ v.ownBlock ≠ some B := by
  cases hv : v.ownBlock with
  | none => exact .inl rfl
  | some k => exact .inr (by have := (World.ownsRow.lt h k hv).2; intro e; cases e; omega)
theorem OwnI.farN {w : World} {base : Nat} {v u : Value} {l : List Int} {B o : Nat} (h : OwnI w base v l) (hne : v.ownBlock = none ∨ v.ownBlock ≠ some B) : OwnI (w.setCell ⟨B, o, none⟩ u) base v l :=
  h.kept (grown_set w B o u) hne
theorem sethas_t {v : Value} {l : List Int} {x : Int} {b : Bool} (w : World) (h : RdI w v l) (hn : l.length ≤ 4) (hs : l.Pairwise (· ≤ ·)) (H : Hid (decide (x ∈ l) = b)) :
    Calls Tryd.prog 56 #[v, .int .i64 x] w fun e w' => e = .returned (.bool b) ∧ Below w.heap.size w w' := H.out ▸ sethas_any v l x w h hn hs
theorem apart_nil (u : Value) : Apart (.slice none 0 0) u := ⟨.inl rfl, by
  cases hv : u.ownBlock with
  | none => exact .inl rfl
  | some k => exact .inr (by show some k ≠ none; simp)⟩
/-- what Shut leaves of the preference -/
def shutP (pr : Int) (c : List Int) : Int := if 1000 ∈ c then 0 else pr
theorem shutP_t {pr : Int} {c : List Int} (h : decide ((1000 : Int) ∈ c) = true) : shutP pr c = 0 := by simp at h; simp [shutP, h]
theorem shutP_f {pr : Int} {c : List Int} (h : decide ((1000 : Int) ∈ c) = false) : shutP pr c = pr := by simp at h; simp [shutP, h]
theorem ishut_any (pv cv : Value) (p c : List Int) (pr bw : Int) (w : World) (hp : RdI w pv p) (hc : RdI w cv c) :
    Calls Tryd.prog 25 #[.agg #[pv, .int .i64 pr, cv, .int .i64 bw]] w (NewA w (if aokB p pr c bw then p else []) (if aokB p pr c bw then shutP pr c else 0) (if aokB p pr c bw then c else []) (if aokB p pr c bw then bw else 0)) := by
  obtain ⟨pa, pd, rfl⟩ := hp.len
  obtain ⟨ca, cd, rfl⟩ := hc.len
  cases hA : aokB p pr c bw
  · simp only [Bool.false_eq_true, if_false]
    have HA := Lib.hid hA
    clear hA
    have E0 : Below w.heap.size w w := Below.refl _ _
    have bA := Bx.new (w) (.slice pa p.length pd) (.int .i64 pr) (.slice ca c.length cd) (.int .i64 bw) 36 (w.heap.size) rfl
    replace E0 := E0.alloc (Nat.le_refl _) (.cells #[.slice pa p.length pd, .int .i64 pr, .slice ca c.length cd, .int .i64 bw] 36)
    have zR : ((w).alloc (.cells #[.slice pa p.length pd, .int .i64 pr, .slice ca c.length cd, .int .i64 bw] 36)).heap.size = w.heap.size + 1 := by simp
    have bR := Bx.new ((w).alloc (.cells #[.slice pa p.length pd, .int .i64 pr, .slice ca c.length cd, .int .i64 bw] 36)) (.slice none 0 0) (.int .i64 0) (.slice none 0 0) (.int .i64 0) 36 (w.heap.size + 1) zR.symm
    replace bA := bA.alloc (.cells #[.slice none 0 0, .int .i64 0, .slice none 0 0, .int .i64 0] 36)
    replace E0 := E0.alloc (by rw [zR]; omega) (.cells #[.slice none 0 0, .int .i64 0, .slice none 0 0, .int .i64 0] 36)
    clear zR
    have zz : (((w).alloc (.cells #[.slice pa p.length pd, .int .i64 pr, .slice ca c.length cd, .int .i64 bw] 36)).alloc (.cells #[.slice none 0 0, .int .i64 0, .slice none 0 0, .int .i64 0] 36)).heap.size = w.heap.size + 1 + 1 := by simp
    have hp1 := hp.keep E0
    have hc1 := hc.keep E0
    go_enter Tryd.func25, Tryd.ntmps25
    go_wp2_with fail
    obtain ⟨A, eA⟩ : ∃ A, A = w.heap.size := ⟨_, rfl⟩
    rw [← eA] at bA
    obtain ⟨R, eR⟩ : ∃ R, R = w.heap.size + 1 := ⟨_, rfl⟩
    rw [← eR] at bR
    try rw [← eR]
    try rw [← eA]
    have hwA : w.heap.size ≤ A := by omega
    have htA : A < w.heap.size + 1 + 1 := by omega
    have nAR : A ≠ R := by omega
    have hwR : w.heap.size ≤ R := by omega
    have htR : R < w.heap.size + 1 + 1 := by omega
    have nRA : R ≠ A := by omega
    clear eA eR
    refine (iaok_t _ hp1 hc1 HA).mono ?_
    rintro e w1 ⟨rfl, hb⟩
    replace bA := bA.keep hb
    replace bR := bR.keep hb
    replace hp1 := hp1.keep hb
    replace hc1 := hc1.keep hb
    replace E0 := below_step E0 hb
    clear hb
    have E0w1 := E0.size
    have lA := bA.lt
    have kA0 := bA.c0
    have qA0 := bA.f0
    have kA1 := bA.c1
    have qA1 := bA.f1
    have kA2 := bA.c2
    have qA2 := bA.f2
    have kA3 := bA.c3
    have qA3 := bA.f3
    have lR := bR.lt
    have kR0 := bR.c0
    have qR0 := bR.f0
    have kR1 := bR.c1
    have qR1 := bR.f1
    have kR2 := bR.c2
    have qR2 := bR.f2
    have kR3 := bR.c3
    have qR3 := bR.f3
    go_wp2_with fail
    clear kA0 qA0 kA1 qA1 kA2 qA2 kA3 qA3 kR0 qR0 kR1 qR1 kR2 qR2 kR3 qR3 lA lR
    have bE := ((((bR.set0 (u := .slice none 0 0)).set1 (u := .int .i64 0)).set2 (u := .slice none 0 0)).set3 (u := .int .i64 0))
    have e0 := bE.c0
    have e1 := bE.c1
    have e2 := bE.c2
    have e3 := bE.c3
    exact bodyPost_ret (v := .agg #[.slice none 0 0, .int .i64 0, .slice none 0 0, .int .i64 0]) (by simp [results, Tryd.results25, go_sem, e0, e1, e2, e3]) rfl
      ⟨_, _, _, _, rfl, (World.ownsRow_nil _ _ _ _), (World.ownsRow_nil _ _ _ _), apart_nil _, ((((E0.setCell (p := ⟨R, 0, none⟩) hwR _).setCell (p := ⟨R, 1, none⟩) hwR _).setCell (p := ⟨R, 2, none⟩) hwR _).setCell (p := ⟨R, 3, none⟩) hwR _)⟩
  · simp only [if_true]
    obtain ⟨hpl, hcl, hasc, -, -⟩ := aok_p hA
    have hsort := asc_le hasc
    have HA := Lib.hid hA
    clear hA hasc
    cases hm : decide ((1000 : Int) ∈ c)
    · rw [shutP_f hm]
      have HM := Lib.hid hm
      clear hm
      have E0 : Below w.heap.size w w := Below.refl _ _
      have bA := Bx.new (w) (.slice pa p.length pd) (.int .i64 pr) (.slice ca c.length cd) (.int .i64 bw) 36 (w.heap.size) rfl
      replace E0 := E0.alloc (Nat.le_refl _) (.cells #[.slice pa p.length pd, .int .i64 pr, .slice ca c.length cd, .int .i64 bw] 36)
      have zR : ((w).alloc (.cells #[.slice pa p.length pd, .int .i64 pr, .slice ca c.length cd, .int .i64 bw] 36)).heap.size = w.heap.size + 1 := by simp
      have bR := Bx.new ((w).alloc (.cells #[.slice pa p.length pd, .int .i64 pr, .slice ca c.length cd, .int .i64 bw] 36)) (.slice none 0 0) (.int .i64 0) (.slice none 0 0) (.int .i64 0) 36 (w.heap.size + 1) zR.symm
      replace bA := bA.alloc (.cells #[.slice none 0 0, .int .i64 0, .slice none 0 0, .int .i64 0] 36)
      replace E0 := E0.alloc (by rw [zR]; omega) (.cells #[.slice none 0 0, .int .i64 0, .slice none 0 0, .int .i64 0] 36)
      clear zR
      have zz : (((w).alloc (.cells #[.slice pa p.length pd, .int .i64 pr, .slice ca c.length cd, .int .i64 bw] 36)).alloc (.cells #[.slice none 0 0, .int .i64 0, .slice none 0 0, .int .i64 0] 36)).heap.size = w.heap.size + 1 + 1 := by simp
      have hp1 := hp.keep E0
      have hc1 := hc.keep E0
      go_enter Tryd.func25, Tryd.ntmps25
      go_wp2_with fail
      obtain ⟨A, eA⟩ : ∃ A, A = w.heap.size := ⟨_, rfl⟩
      rw [← eA] at bA
      obtain ⟨R, eR⟩ : ∃ R, R = w.heap.size + 1 := ⟨_, rfl⟩
      rw [← eR] at bR
      try rw [← eR]
      try rw [← eA]
      have hwA : w.heap.size ≤ A := by omega
      have htA : A < w.heap.size + 1 + 1 := by omega
      have nAR : A ≠ R := by omega
      have hwR : w.heap.size ≤ R := by omega
      have htR : R < w.heap.size + 1 + 1 := by omega
      have nRA : R ≠ A := by omega
      clear eA eR
      refine (iaok_t _ hp1 hc1 HA).mono ?_
      rintro e w1 ⟨rfl, hb⟩
      replace bA := bA.keep hb
      replace bR := bR.keep hb
      replace hp1 := hp1.keep hb
      replace hc1 := hc1.keep hb
      replace E0 := below_step E0 hb
      clear hb
      have E0w1 := E0.size
      have lA := bA.lt
      have kA0 := bA.c0
      have qA0 := bA.f0
      have kA1 := bA.c1
      have qA1 := bA.f1
      have kA2 := bA.c2
      have qA2 := bA.f2
      have kA3 := bA.c3
      have qA3 := bA.f3
      have lR := bR.lt
      have kR0 := bR.c0
      have qR0 := bR.f0
      have kR1 := bR.c1
      have qR1 := bR.f1
      have kR2 := bR.c2
      have qR2 := bR.f2
      have kR3 := bR.c3
      have qR3 := bR.f3
      go_wp2_with fail
      clear kA0 qA0 kA1 qA1 kA2 qA2 kA3 qA3 kR0 qR0 kR1 qR1 kR2 qR2 kR3 qR3 lA lR
      refine (icopy_any _ _ p c pr bw _ hp1 hc1 (by omega) (by omega)).mono ?_
      rintro e w2 ⟨a1, d1, b1, f1, rfl, ho, hq, hap, hb⟩
      have lw2 := hb.size
      have shoA := OwnI.sepLt ho bA.lt
      have shoR := OwnI.sepLt ho bR.lt
      have shqA := OwnI.sepLt hq bA.lt
      have shqR := OwnI.sepLt hq bR.lt
      replace bA := bA.keep hb
      replace bR := bR.keep hb
      replace hp1 := hp1.keep hb
      replace hc1 := hc1.keep hb
      replace E0 := below_step E0 hb
      clear hb
      replace ho := ho.mono E0w1
      replace hq := hq.mono E0w1
      have E0w2 := E0.size
      have lA := bA.lt
      have kA0 := bA.c0
      have qA0 := bA.f0
      have kA1 := bA.c1
      have qA1 := bA.f1
      have kA2 := bA.c2
      have qA2 := bA.f2
      have kA3 := bA.c3
      have qA3 := bA.f3
      have lR := bR.lt
      have kR0 := bR.c0
      have qR0 := bR.f0
      have kR1 := bR.c1
      have qR1 := bR.f1
      have kR2 := bR.c2
      have qR2 := bR.f2
      have kR3 := bR.c3
      have qR3 := bR.f3
      go_wp2_with fail
      clear kA0 qA0 kA1 qA1 kA2 qA2 kA3 qA3 kR0 qR0 kR1 qR1 kR2 qR2 kR3 qR3 lA lR
      obtain ⟨O, eO⟩ : ∃ O, O = w2.heap.size := ⟨_, rfl⟩
      rw [← eO]
      have bO := Bx.new w2 (.slice a1 p.length d1) (.int .i64 pr) (.slice b1 c.length f1) (.int .i64 bw) 36 O eO
      have hwO : w.heap.size ≤ O := by rw [eO]; exact E0.size
      have nAO : A ≠ O := by have := bA.lt; omega
      have nOA : O ≠ A := by have := bA.lt; omega
      have nRO : R ≠ O := by have := bR.lt; omega
      have nOR : O ≠ R := by have := bR.lt; omega
      have shoO := OwnI.sepGe ho (Nat.le_of_eq eO.symm)
      have shqO := OwnI.sepGe hq (Nat.le_of_eq eO.symm)
      clear eO
      replace bA := bA.alloc (.cells #[.slice a1 p.length d1, .int .i64 pr, .slice b1 c.length f1, .int .i64 bw] 36)
      replace bR := bR.alloc (.cells #[.slice a1 p.length d1, .int .i64 pr, .slice b1 c.length f1, .int .i64 bw] 36)
      replace ho := ho.alloc (.cells #[.slice a1 p.length d1, .int .i64 pr, .slice b1 c.length f1, .int .i64 bw] 36)
      replace hq := hq.alloc (.cells #[.slice a1 p.length d1, .int .i64 pr, .slice b1 c.length f1, .int .i64 bw] 36)
      replace hp1 := hp1.alloc (.cells #[.slice a1 p.length d1, .int .i64 pr, .slice b1 c.length f1, .int .i64 bw] 36)
      replace hc1 := hc1.alloc (.cells #[.slice a1 p.length d1, .int .i64 pr, .slice b1 c.length f1, .int .i64 bw] 36)
      replace E0 := E0.alloc E0.size (.cells #[.slice a1 p.length d1, .int .i64 pr, .slice b1 c.length f1, .int .i64 bw] 36)
      refine (sethas_t _ hc1 hcl hsort HM).mono ?_
      rintro e w3 ⟨rfl, hb⟩
      replace bA := bA.keep hb
      replace bR := bR.keep hb
      replace bO := bO.keep hb
      replace ho := ho.keep hb
      replace hq := hq.keep hb
      replace hp1 := hp1.keep hb
      replace hc1 := hc1.keep hb
      replace E0 := below_step E0 hb
      clear hb
      have E0w3 := E0.size
      have lA := bA.lt
      have kA0 := bA.c0
      have qA0 := bA.f0
      have kA1 := bA.c1
      have qA1 := bA.f1
      have kA2 := bA.c2
      have qA2 := bA.f2
      have kA3 := bA.c3
      have qA3 := bA.f3
      have lR := bR.lt
      have kR0 := bR.c0
      have qR0 := bR.f0
      have kR1 := bR.c1
      have qR1 := bR.f1
      have kR2 := bR.c2
      have qR2 := bR.f2
      have kR3 := bR.c3
      have qR3 := bR.f3
      have lO := bO.lt
      have kO0 := bO.c0
      have qO0 := bO.f0
      have kO1 := bO.c1
      have qO1 := bO.f1
      have kO2 := bO.c2
      have qO2 := bO.f2
      have kO3 := bO.c3
      have qO3 := bO.f3
      go_wp2_with fail
      clear kA0 qA0 kA1 qA1 kA2 qA2 kA3 qA3 kR0 qR0 kR1 qR1 kR2 qR2 kR3 qR3 kO0 qO0 kO1 qO1 kO2 qO2 kO3 qO3 lA lR lO
      have bE := ((((bR.set0 (u := .slice a1 p.length d1)).set1 (u := .int .i64 pr)).set2 (u := .slice b1 c.length f1)).set3 (u := .int .i64 bw))
      have e0 := bE.c0
      have e1 := bE.c1
      have e2 := bE.c2
      have e3 := bE.c3
      exact bodyPost_ret (v := .agg #[.slice a1 p.length d1, .int .i64 pr, .slice b1 c.length f1, .int .i64 bw]) (by simp [results, Tryd.results25, go_sem, e0, e1, e2, e3]) rfl
        ⟨_, _, _, _, rfl, ((((ho.farN (o := 0) shoR).farN (o := 1) shoR).farN (o := 2) shoR).farN (o := 3) shoR), ((((hq.farN (o := 0) shqR).farN (o := 1) shqR).farN (o := 2) shqR).farN (o := 3) shqR), hap, ((((E0.setCell (p := ⟨R, 0, none⟩) hwR _).setCell (p := ⟨R, 1, none⟩) hwR _).setCell (p := ⟨R, 2, none⟩) hwR _).setCell (p := ⟨R, 3, none⟩) hwR _)⟩
    · rw [shutP_t hm]
      have HM := Lib.hid hm
      clear hm
      have E0 : Below w.heap.size w w := Below.refl _ _
      have bA := Bx.new (w) (.slice pa p.length pd) (.int .i64 pr) (.slice ca c.length cd) (.int .i64 bw) 36 (w.heap.size) rfl
      replace E0 := E0.alloc (Nat.le_refl _) (.cells #[.slice pa p.length pd, .int .i64 pr, .slice ca c.length cd, .int .i64 bw] 36)
      have zR : ((w).alloc (.cells #[.slice pa p.length pd, .int .i64 pr, .slice ca c.length cd, .int .i64 bw] 36)).heap.size = w.heap.size + 1 := by simp
      have bR := Bx.new ((w).alloc (.cells #[.slice pa p.length pd, .int .i64 pr, .slice ca c.length cd, .int .i64 bw] 36)) (.slice none 0 0) (.int .i64 0) (.slice none 0 0) (.int .i64 0) 36 (w.heap.size + 1) zR.symm
      replace bA := bA.alloc (.cells #[.slice none 0 0, .int .i64 0, .slice none 0 0, .int .i64 0] 36)
      replace E0 := E0.alloc (by rw [zR]; omega) (.cells #[.slice none 0 0, .int .i64 0, .slice none 0 0, .int .i64 0] 36)
      clear zR
      have zz : (((w).alloc (.cells #[.slice pa p.length pd, .int .i64 pr, .slice ca c.length cd, .int .i64 bw] 36)).alloc (.cells #[.slice none 0 0, .int .i64 0, .slice none 0 0, .int .i64 0] 36)).heap.size = w.heap.size + 1 + 1 := by simp
      have hp1 := hp.keep E0
      have hc1 := hc.keep E0
      go_enter Tryd.func25, Tryd.ntmps25
      go_wp2_with fail
      obtain ⟨A, eA⟩ : ∃ A, A = w.heap.size := ⟨_, rfl⟩
      rw [← eA] at bA
      obtain ⟨R, eR⟩ : ∃ R, R = w.heap.size + 1 := ⟨_, rfl⟩
      rw [← eR] at bR
      try rw [← eR]
      try rw [← eA]
      have hwA : w.heap.size ≤ A := by omega
      have htA : A < w.heap.size + 1 + 1 := by omega
      have nAR : A ≠ R := by omega
      have hwR : w.heap.size ≤ R := by omega
      have htR : R < w.heap.size + 1 + 1 := by omega
      have nRA : R ≠ A := by omega
      clear eA eR
      refine (iaok_t _ hp1 hc1 HA).mono ?_
      rintro e w1 ⟨rfl, hb⟩
      replace bA := bA.keep hb
      replace bR := bR.keep hb
      replace hp1 := hp1.keep hb
      replace hc1 := hc1.keep hb
      replace E0 := below_step E0 hb
      clear hb
      have E0w1 := E0.size
      have lA := bA.lt
      have kA0 := bA.c0
      have qA0 := bA.f0
      have kA1 := bA.c1
      have qA1 := bA.f1
      have kA2 := bA.c2
      have qA2 := bA.f2
      have kA3 := bA.c3
      have qA3 := bA.f3
      have lR := bR.lt
      have kR0 := bR.c0
      have qR0 := bR.f0
      have kR1 := bR.c1
      have qR1 := bR.f1
      have kR2 := bR.c2
      have qR2 := bR.f2
      have kR3 := bR.c3
      have qR3 := bR.f3
      go_wp2_with fail
      clear kA0 qA0 kA1 qA1 kA2 qA2 kA3 qA3 kR0 qR0 kR1 qR1 kR2 qR2 kR3 qR3 lA lR
      refine (icopy_any _ _ p c pr bw _ hp1 hc1 (by omega) (by omega)).mono ?_
      rintro e w2 ⟨a1, d1, b1, f1, rfl, ho, hq, hap, hb⟩
      have lw2 := hb.size
      have shoA := OwnI.sepLt ho bA.lt
      have shoR := OwnI.sepLt ho bR.lt
      have shqA := OwnI.sepLt hq bA.lt
      have shqR := OwnI.sepLt hq bR.lt
      replace bA := bA.keep hb
      replace bR := bR.keep hb
      replace hp1 := hp1.keep hb
      replace hc1 := hc1.keep hb
      replace E0 := below_step E0 hb
      clear hb
      replace ho := ho.mono E0w1
      replace hq := hq.mono E0w1
      have E0w2 := E0.size
      have lA := bA.lt
      have kA0 := bA.c0
      have qA0 := bA.f0
      have kA1 := bA.c1
      have qA1 := bA.f1
      have kA2 := bA.c2
      have qA2 := bA.f2
      have kA3 := bA.c3
      have qA3 := bA.f3
      have lR := bR.lt
      have kR0 := bR.c0
      have qR0 := bR.f0
      have kR1 := bR.c1
      have qR1 := bR.f1
      have kR2 := bR.c2
      have qR2 := bR.f2
      have kR3 := bR.c3
      have qR3 := bR.f3
      go_wp2_with fail
      clear kA0 qA0 kA1 qA1 kA2 qA2 kA3 qA3 kR0 qR0 kR1 qR1 kR2 qR2 kR3 qR3 lA lR
      obtain ⟨O, eO⟩ : ∃ O, O = w2.heap.size := ⟨_, rfl⟩
      rw [← eO]
      have bO := Bx.new w2 (.slice a1 p.length d1) (.int .i64 pr) (.slice b1 c.length f1) (.int .i64 bw) 36 O eO
      have hwO : w.heap.size ≤ O := by rw [eO]; exact E0.size
      have nAO : A ≠ O := by have := bA.lt; omega
      have nOA : O ≠ A := by have := bA.lt; omega
      have nRO : R ≠ O := by have := bR.lt; omega
      have nOR : O ≠ R := by have := bR.lt; omega
      have shoO := OwnI.sepGe ho (Nat.le_of_eq eO.symm)
      have shqO := OwnI.sepGe hq (Nat.le_of_eq eO.symm)
      clear eO
      replace bA := bA.alloc (.cells #[.slice a1 p.length d1, .int .i64 pr, .slice b1 c.length f1, .int .i64 bw] 36)
      replace bR := bR.alloc (.cells #[.slice a1 p.length d1, .int .i64 pr, .slice b1 c.length f1, .int .i64 bw] 36)
      replace ho := ho.alloc (.cells #[.slice a1 p.length d1, .int .i64 pr, .slice b1 c.length f1, .int .i64 bw] 36)
      replace hq := hq.alloc (.cells #[.slice a1 p.length d1, .int .i64 pr, .slice b1 c.length f1, .int .i64 bw] 36)
      replace hp1 := hp1.alloc (.cells #[.slice a1 p.length d1, .int .i64 pr, .slice b1 c.length f1, .int .i64 bw] 36)
      replace hc1 := hc1.alloc (.cells #[.slice a1 p.length d1, .int .i64 pr, .slice b1 c.length f1, .int .i64 bw] 36)
      replace E0 := E0.alloc E0.size (.cells #[.slice a1 p.length d1, .int .i64 pr, .slice b1 c.length f1, .int .i64 bw] 36)
      refine (sethas_t _ hc1 hcl hsort HM).mono ?_
      rintro e w3 ⟨rfl, hb⟩
      replace bA := bA.keep hb
      replace bR := bR.keep hb
      replace bO := bO.keep hb
      replace ho := ho.keep hb
      replace hq := hq.keep hb
      replace hp1 := hp1.keep hb
      replace hc1 := hc1.keep hb
      replace E0 := below_step E0 hb
      clear hb
      have E0w3 := E0.size
      have lA := bA.lt
      have kA0 := bA.c0
      have qA0 := bA.f0
      have kA1 := bA.c1
      have qA1 := bA.f1
      have kA2 := bA.c2
      have qA2 := bA.f2
      have kA3 := bA.c3
      have qA3 := bA.f3
      have lR := bR.lt
      have kR0 := bR.c0
      have qR0 := bR.f0
      have kR1 := bR.c1
      have qR1 := bR.f1
      have kR2 := bR.c2
      have qR2 := bR.f2
      have kR3 := bR.c3
      have qR3 := bR.f3
      have lO := bO.lt
      have kO0 := bO.c0
      have qO0 := bO.f0
      have kO1 := bO.c1
      have qO1 := bO.f1
      have kO2 := bO.c2
      have qO2 := bO.f2
      have kO3 := bO.c3
      have qO3 := bO.f3
      go_wp2_with fail
      clear kA0 qA0 kA1 qA1 kA2 qA2 kA3 qA3 kR0 qR0 kR1 qR1 kR2 qR2 kR3 qR3 kO0 qO0 kO1 qO1 kO2 qO2 kO3 qO3 lA lR lO
      have bE := (((((bR.far (C := O) (o := 1) (u := .int .i64 0) nRO).set0 (u := .slice a1 p.length d1)).set1 (u := .int .i64 0)).set2 (u := .slice b1 c.length f1)).set3 (u := .int .i64 bw))
      have e0 := bE.c0
      have e1 := bE.c1
      have e2 := bE.c2
      have e3 := bE.c3
      exact bodyPost_ret (v := .agg #[.slice a1 p.length d1, .int .i64 0, .slice b1 c.length f1, .int .i64 bw]) (by simp [results, Tryd.results25, go_sem, e0, e1, e2, e3]) rfl
        ⟨_, _, _, _, rfl, (((((ho.farN (o := 1) shoO).farN (o := 0) shoR).farN (o := 1) shoR).farN (o := 2) shoR).farN (o := 3) shoR), (((((hq.farN (o := 1) shqO).farN (o := 0) shqR).farN (o := 1) shqR).farN (o := 2) shqR).farN (o := 3) shqR), hap, (((((E0.setCell (p := ⟨O, 1, none⟩) hwO _).setCell (p := ⟨R, 0, none⟩) hwR _).setCell (p := ⟨R, 1, none⟩) hwR _).setCell (p := ⟨R, 2, none⟩) hwR _).setCell (p := ⟨R, 3, none⟩) hwR _)⟩
end Go.Proofs.YtcmbajphholliabDoor
