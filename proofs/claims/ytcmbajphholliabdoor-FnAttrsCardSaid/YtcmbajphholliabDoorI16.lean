/-
  Prepend, of the program and of the model. Conditions: those in each contract.
-/
import Derived.Test.YtcmbajphholliabDoorI15
namespace Go.Proofs.YtcmbajphholliabDoor
open Go.ChangeShapes Go.WideShapes Go.ChangeAt Go.RowKit Go.BigFrame Go.Joins
set_option linter.unusedVariables false
set_option maxRecDepth 100000

/-- a fresh attribute and a bool -/
def NewA2 (w : World) (p : List Int) (pr : Int) (c : List Int) (bw : Int) (ok : Bool) (e : Ending) (w' : World) : Prop :=
  ∃ a d b f, e = .returned (.tuple #[.agg #[.slice a p.length d, .int .i64 pr, .slice b c.length f, .int .i64 bw], .bool ok]) ∧ OwnI w' w.heap.size (.slice a p.length d) p ∧ OwnI w' w.heap.size (.slice b c.length f) c ∧ Apart (.slice a p.length d) (.slice b c.length f) ∧ Below w.heap.size w w'
theorem numok_t {n : Int} {b : Bool} (w : World) (H : Hid (asB n = b)) : Calls Tryd.prog 34 #[.int .i64 n] w fun e w' => e = .returned (.bool b) ∧ w = w' := H.out ▸ numok_any n w
theorem insert_at (v : Value) (l : List Int) (a : Int) (base g : Nat) (w : World) (hg : g = w.heap.size) (h : OwnI w base v l) (hb : base ≤ w.heap.size) (hn : l.length ≤ 8) :
    Calls Tryd.prog 53 #[v, .int .i64 0, .slice (some ⟨g, 0, none⟩) 1 1] (w.alloc (.cells #[.int .i64 a] IT)) (InsP (w.alloc (.cells #[.int .i64 a] IT)) base v l a) := by
  subst hg
  exact insert_any v l a base w h hb hn
theorem sep_or {W : World} {v u : Value} {B : Nat} (h : v.ownBlock = u.ownBlock ∨ ∀ k, v.ownBlock = some k → W.heap.size ≤ k) (hs : u.ownBlock = none ∨ u.ownBlock ≠ some B) (hB : B < W.heap.size) : v.ownBlock = none ∨ v.ownBlock ≠ some B := by
  rcases h with h | h
  · rw [h]; exact hs
  · cases hv : v.ownBlock with
    | none => exact .inl rfl
    | some k => exact .inr (by have := h k hv; intro e; cases e; omega)
theorem apart_or {W : World} {v u t : Value} {b : Nat} {l : List Int} (h : v.ownBlock = u.ownBlock ∨ ∀ k, v.ownBlock = some k → W.heap.size ≤ k) (ha : Apart u t) (ht : OwnI W b t l) : Apart v t := by
  rcases h with h | h
  · exact ⟨by rw [h]; exact ha.1, by rw [h]; exact ha.2⟩
  · have a : v.ownBlock = none ∨ v.ownBlock ≠ t.ownBlock := by
      cases hv : v.ownBlock with
      | none => exact .inl rfl
      | some k =>
        refine .inr (fun e => ?_)
        have a1 := h k hv
        have a2 := (World.ownsRow.lt ht k e.symm).2
        omega
    refine ⟨a, ?_⟩
    rcases a with h0 | h0
    · cases hu : t.ownBlock with
      | none => exact .inl rfl
      | some k => exact .inr (by rw [h0]; simp)
    · exact .inr (Ne.symm h0)
theorem Bx.kept {w w' : World} {B : Nat} {x0 x1 x2 x3 : Value} (h : Bx w B x0 x1 x2 x3) {v : Value} (hg : w.grownBy w' v.ownBlock) (hne : v.ownBlock = none ∨ v.ownBlock ≠ some B) : Bx w' B x0 x1 x2 x3 := h.grown hg (fun e => by
  rcases hne with h | h
  · rw [h] at e; cases e
  · exact h e.symm)
theorem sas_t2 {n : Int} {b : Bool} (w : World) (H : Hid (asB n = b)) : Calls Tryd.prog 31 #[.int .i64 n] w fun e w' => e = .returned (.bool b) ∧ w = w' := H.out ▸ sas_any n w
theorem iprepend_any (pv cv : Value) (p c : List Int) (pr bw an : Int) (w : World) (hp : RdI w pv p) (hc : RdI w cv c) (han : I64 an) :
    Calls Tryd.prog 22 #[.agg #[pv, .int .i64 pr, cv, .int .i64 bw], .int .i64 an] w (NewA2 w (if (aokB p pr c bw && asB an) then (if p.length = 8 then p else an :: p) else []) (if (aokB p pr c bw && asB an) then pr else 0) (if (aokB p pr c bw && asB an) then c else []) (if (aokB p pr c bw && asB an) then bw else 0) ((aokB p pr c bw && asB an) && !decide (p.length = 8))) := by
  obtain ⟨pa, pd, rfl⟩ := hp.len
  obtain ⟨ca, cd, rfl⟩ := hc.len
  cases hA : aokB p pr c bw
  · rw [Bool.false_and]
    simp only [Bool.false_eq_true, if_false, Bool.false_and]
    have HA := Lib.hid hA
    clear hA
    have E0 : Below w.heap.size w w := Below.refl _ _
    have bA := Bx.new (w) (.slice pa p.length pd) (.int .i64 pr) (.slice ca c.length cd) (.int .i64 bw) 36 (w.heap.size) rfl
    replace E0 := E0.alloc (Nat.le_refl _) (.cells #[.slice pa p.length pd, .int .i64 pr, .slice ca c.length cd, .int .i64 bw] 36)
    have zR : ((w).alloc (.cells #[.slice pa p.length pd, .int .i64 pr, .slice ca c.length cd, .int .i64 bw] 36)).heap.size = w.heap.size + 1 := by simp
    have bR := Bx.new ((w).alloc (.cells #[.slice pa p.length pd, .int .i64 pr, .slice ca c.length cd, .int .i64 bw] 36)) (.slice none 0 0) (.int .i64 0) (.slice none 0 0) (.int .i64 0) 36 (w.heap.size + 1) zR.symm
    replace bA := bA.alloc (.cells #[.slice none 0 0, .int .i64 0, .slice none 0 0, .int .i64 0] 36)
    replace E0 := E0.alloc (by rw [zR]; omega) (.cells #[.slice none 0 0, .int .i64 0, .slice none 0 0, .int .i64 0] 36)
    clear zR
    have zz : (((w).alloc (.cells #[.slice pa p.length pd, .int .i64 pr, .slice ca c.length cd, .int .i64 bw] 36)).alloc (.cells #[.slice none 0 0, .int .i64 0, .slice none 0 0, .int .i64 0] 36)).heap.size = w.heap.size + 1 + 1 := by simp
    have hp1 := hp.keep E0
    have hc1 := hc.keep E0
    go_enter Tryd.func22, Tryd.ntmps22
    go_wp2_with fail
    obtain ⟨A, eA⟩ : ∃ A, A = w.heap.size := ⟨_, rfl⟩
    rw [← eA] at bA
    obtain ⟨R, eR⟩ : ∃ R, R = w.heap.size + 1 := ⟨_, rfl⟩
    rw [← eR] at bR
    try rw [← eR]
    try rw [← eA]
    have hwA : w.heap.size ≤ A := by omega
    have htA : A < w.heap.size + 1 + 1 := by omega
    have nAR : A ≠ R := by omega
    have hwR : w.heap.size ≤ R := by omega
    have htR : R < w.heap.size + 1 + 1 := by omega
    have nRA : R ≠ A := by omega
    clear eA eR
    refine (iaok_t _ hp1 hc1 HA).mono ?_
    rintro e w1 ⟨rfl, hb⟩
    replace bA := bA.keep hb
    replace bR := bR.keep hb
    replace hp1 := hp1.keep hb
    replace hc1 := hc1.keep hb
    replace E0 := below_step E0 hb
    clear hb
    have E0w1 := E0.size
    have lA := bA.lt
    have kA0 := bA.c0
    have qA0 := bA.f0
    have kA1 := bA.c1
    have qA1 := bA.f1
    have kA2 := bA.c2
    have qA2 := bA.f2
    have kA3 := bA.c3
    have qA3 := bA.f3
    have lR := bR.lt
    have kR0 := bR.c0
    have qR0 := bR.f0
    have kR1 := bR.c1
    have qR1 := bR.f1
    have kR2 := bR.c2
    have qR2 := bR.f2
    have kR3 := bR.c3
    have qR3 := bR.f3
    go_wp2_with fail
    clear kA0 qA0 kA1 qA1 kA2 qA2 kA3 qA3 kR0 qR0 kR1 qR1 kR2 qR2 kR3 qR3 lA lR
    have bE := ((((bR.set0 (u := .slice none 0 0)).set1 (u := .int .i64 0)).set2 (u := .slice none 0 0)).set3 (u := .int .i64 0))
    have e0 := bE.c0
    have e1 := bE.c1
    have e2 := bE.c2
    have e3 := bE.c3
    exact bodyPost_ret (v := .tuple #[.agg #[.slice none 0 0, .int .i64 0, .slice none 0 0, .int .i64 0], .bool false]) (by simp [results, Tryd.results22, go_sem, e0, e1, e2, e3]) rfl
      ⟨_, _, _, _, rfl, (World.ownsRow_nil _ _ _ _), (World.ownsRow_nil _ _ _ _), apart_nil _, ((((E0.setCell (p := ⟨R, 0, none⟩) hwR (.slice none 0 0)).setCell (p := ⟨R, 1, none⟩) hwR (.int .i64 0)).setCell (p := ⟨R, 2, none⟩) hwR (.slice none 0 0)).setCell (p := ⟨R, 3, none⟩) hwR (.int .i64 0))⟩
  · obtain ⟨hpl, hcl, -, -, -⟩ := aok_p hA
    have HA := Lib.hid hA
    clear hA
    rw [Bool.true_and]
    cases hN : asB an
    · simp only [Bool.false_eq_true, if_false, Bool.false_and]
      have HN := Lib.hid hN
      clear hN
      have E0 : Below w.heap.size w w := Below.refl _ _
      have bA := Bx.new (w) (.slice pa p.length pd) (.int .i64 pr) (.slice ca c.length cd) (.int .i64 bw) 36 (w.heap.size) rfl
      replace E0 := E0.alloc (Nat.le_refl _) (.cells #[.slice pa p.length pd, .int .i64 pr, .slice ca c.length cd, .int .i64 bw] 36)
      have zR : ((w).alloc (.cells #[.slice pa p.length pd, .int .i64 pr, .slice ca c.length cd, .int .i64 bw] 36)).heap.size = w.heap.size + 1 := by simp
      have bR := Bx.new ((w).alloc (.cells #[.slice pa p.length pd, .int .i64 pr, .slice ca c.length cd, .int .i64 bw] 36)) (.slice none 0 0) (.int .i64 0) (.slice none 0 0) (.int .i64 0) 36 (w.heap.size + 1) zR.symm
      replace bA := bA.alloc (.cells #[.slice none 0 0, .int .i64 0, .slice none 0 0, .int .i64 0] 36)
      replace E0 := E0.alloc (by rw [zR]; omega) (.cells #[.slice none 0 0, .int .i64 0, .slice none 0 0, .int .i64 0] 36)
      clear zR
      have zz : (((w).alloc (.cells #[.slice pa p.length pd, .int .i64 pr, .slice ca c.length cd, .int .i64 bw] 36)).alloc (.cells #[.slice none 0 0, .int .i64 0, .slice none 0 0, .int .i64 0] 36)).heap.size = w.heap.size + 1 + 1 := by simp
      have hp1 := hp.keep E0
      have hc1 := hc.keep E0
      go_enter Tryd.func22, Tryd.ntmps22
      go_wp2_with fail
      obtain ⟨A, eA⟩ : ∃ A, A = w.heap.size := ⟨_, rfl⟩
      rw [← eA] at bA
      obtain ⟨R, eR⟩ : ∃ R, R = w.heap.size + 1 := ⟨_, rfl⟩
      rw [← eR] at bR
      try rw [← eR]
      try rw [← eA]
      have hwA : w.heap.size ≤ A := by omega
      have htA : A < w.heap.size + 1 + 1 := by omega
      have nAR : A ≠ R := by omega
      have hwR : w.heap.size ≤ R := by omega
      have htR : R < w.heap.size + 1 + 1 := by omega
      have nRA : R ≠ A := by omega
      clear eA eR
      refine (iaok_t _ hp1 hc1 HA).mono ?_
      rintro e w1 ⟨rfl, hb⟩
      replace bA := bA.keep hb
      replace bR := bR.keep hb
      replace hp1 := hp1.keep hb
      replace hc1 := hc1.keep hb
      replace E0 := below_step E0 hb
      clear hb
      have E0w1 := E0.size
      have lA := bA.lt
      have kA0 := bA.c0
      have qA0 := bA.f0
      have kA1 := bA.c1
      have qA1 := bA.f1
      have kA2 := bA.c2
      have qA2 := bA.f2
      have kA3 := bA.c3
      have qA3 := bA.f3
      have lR := bR.lt
      have kR0 := bR.c0
      have qR0 := bR.f0
      have kR1 := bR.c1
      have qR1 := bR.f1
      have kR2 := bR.c2
      have qR2 := bR.f2
      have kR3 := bR.c3
      have qR3 := bR.f3
      go_wp2_with fail
      clear kA0 qA0 kA1 qA1 kA2 qA2 kA3 qA3 kR0 qR0 kR1 qR1 kR2 qR2 kR3 qR3 lA lR
      refine (numok_t _ HN).mono ?_
      rintro e w2 ⟨rfl, rfl⟩
      have lA := bA.lt
      have kA0 := bA.c0
      have qA0 := bA.f0
      have kA1 := bA.c1
      have qA1 := bA.f1
      have kA2 := bA.c2
      have qA2 := bA.f2
      have kA3 := bA.c3
      have qA3 := bA.f3
      have lR := bR.lt
      have kR0 := bR.c0
      have qR0 := bR.f0
      have kR1 := bR.c1
      have qR1 := bR.f1
      have kR2 := bR.c2
      have qR2 := bR.f2
      have kR3 := bR.c3
      have qR3 := bR.f3
      go_wp2_with fail
      clear kA0 qA0 kA1 qA1 kA2 qA2 kA3 qA3 kR0 qR0 kR1 qR1 kR2 qR2 kR3 qR3 lA lR
      have bE := ((((bR.set0 (u := .slice none 0 0)).set1 (u := .int .i64 0)).set2 (u := .slice none 0 0)).set3 (u := .int .i64 0))
      have e0 := bE.c0
      have e1 := bE.c1
      have e2 := bE.c2
      have e3 := bE.c3
      exact bodyPost_ret (v := .tuple #[.agg #[.slice none 0 0, .int .i64 0, .slice none 0 0, .int .i64 0], .bool false]) (by simp [results, Tryd.results22, go_sem, e0, e1, e2, e3]) rfl
        ⟨_, _, _, _, rfl, (World.ownsRow_nil _ _ _ _), (World.ownsRow_nil _ _ _ _), apart_nil _, ((((E0.setCell (p := ⟨R, 0, none⟩) hwR (.slice none 0 0)).setCell (p := ⟨R, 1, none⟩) hwR (.int .i64 0)).setCell (p := ⟨R, 2, none⟩) hwR (.slice none 0 0)).setCell (p := ⟨R, 3, none⟩) hwR (.int .i64 0))⟩
    · simp only [if_true, Bool.true_and]
      have HN := Lib.hid hN
      clear hN
      by_cases h8 : p.length = 8
      · rw [if_pos h8]
        rw [show (!decide (p.length = 8)) = false by simp [h8]]
        have g8 : (8 : Int) ≤ (p.length : Int) := by omega
        have g8e : ((p.length : Int) == 8) = true := by simp; omega
        clear h8
        have E0 : Below w.heap.size w w := Below.refl _ _
        have bA := Bx.new (w) (.slice pa p.length pd) (.int .i64 pr) (.slice ca c.length cd) (.int .i64 bw) 36 (w.heap.size) rfl
        replace E0 := E0.alloc (Nat.le_refl _) (.cells #[.slice pa p.length pd, .int .i64 pr, .slice ca c.length cd, .int .i64 bw] 36)
        have zR : ((w).alloc (.cells #[.slice pa p.length pd, .int .i64 pr, .slice ca c.length cd, .int .i64 bw] 36)).heap.size = w.heap.size + 1 := by simp
        have bR := Bx.new ((w).alloc (.cells #[.slice pa p.length pd, .int .i64 pr, .slice ca c.length cd, .int .i64 bw] 36)) (.slice none 0 0) (.int .i64 0) (.slice none 0 0) (.int .i64 0) 36 (w.heap.size + 1) zR.symm
        replace bA := bA.alloc (.cells #[.slice none 0 0, .int .i64 0, .slice none 0 0, .int .i64 0] 36)
        replace E0 := E0.alloc (by rw [zR]; omega) (.cells #[.slice none 0 0, .int .i64 0, .slice none 0 0, .int .i64 0] 36)
        clear zR
        have zz : (((w).alloc (.cells #[.slice pa p.length pd, .int .i64 pr, .slice ca c.length cd, .int .i64 bw] 36)).alloc (.cells #[.slice none 0 0, .int .i64 0, .slice none 0 0, .int .i64 0] 36)).heap.size = w.heap.size + 1 + 1 := by simp
        have hp1 := hp.keep E0
        have hc1 := hc.keep E0
        go_enter Tryd.func22, Tryd.ntmps22
        go_wp2_with fail
        obtain ⟨A, eA⟩ : ∃ A, A = w.heap.size := ⟨_, rfl⟩
        rw [← eA] at bA
        obtain ⟨R, eR⟩ : ∃ R, R = w.heap.size + 1 := ⟨_, rfl⟩
        rw [← eR] at bR
        try rw [← eR]
        try rw [← eA]
        have hwA : w.heap.size ≤ A := by omega
        have htA : A < w.heap.size + 1 + 1 := by omega
        have nAR : A ≠ R := by omega
        have hwR : w.heap.size ≤ R := by omega
        have htR : R < w.heap.size + 1 + 1 := by omega
        have nRA : R ≠ A := by omega
        clear eA eR
        refine (iaok_t _ hp1 hc1 HA).mono ?_
        rintro e w1 ⟨rfl, hb⟩
        replace bA := bA.keep hb
        replace bR := bR.keep hb
        replace hp1 := hp1.keep hb
        replace hc1 := hc1.keep hb
        replace E0 := below_step E0 hb
        clear hb
        have E0w1 := E0.size
        have lA := bA.lt
        have kA0 := bA.c0
        have qA0 := bA.f0
        have kA1 := bA.c1
        have qA1 := bA.f1
        have kA2 := bA.c2
        have qA2 := bA.f2
        have kA3 := bA.c3
        have qA3 := bA.f3
        have lR := bR.lt
        have kR0 := bR.c0
        have qR0 := bR.f0
        have kR1 := bR.c1
        have qR1 := bR.f1
        have kR2 := bR.c2
        have qR2 := bR.f2
        have kR3 := bR.c3
        have qR3 := bR.f3
        go_wp2_with fail
        clear kA0 qA0 kA1 qA1 kA2 qA2 kA3 qA3 kR0 qR0 kR1 qR1 kR2 qR2 kR3 qR3 lA lR
        refine (numok_t _ HN).mono ?_
        rintro e w2 ⟨rfl, rfl⟩
        have E0w2 := E0.size
        have lA := bA.lt
        have kA0 := bA.c0
        have qA0 := bA.f0
        have kA1 := bA.c1
        have qA1 := bA.f1
        have kA2 := bA.c2
        have qA2 := bA.f2
        have kA3 := bA.c3
        have qA3 := bA.f3
        have lR := bR.lt
        have kR0 := bR.c0
        have qR0 := bR.f0
        have kR1 := bR.c1
        have qR1 := bR.f1
        have kR2 := bR.c2
        have qR2 := bR.f2
        have kR3 := bR.c3
        have qR3 := bR.f3
        go_wp2_with fail
        clear kA0 qA0 kA1 qA1 kA2 qA2 kA3 qA3 kR0 qR0 kR1 qR1 kR2 qR2 kR3 qR3 lA lR
        refine (icopy_any _ _ p c pr bw _ hp1 hc1 (by omega) (by omega)).mono ?_
        rintro e w3 ⟨a1, d1, b1, f1, rfl, ho, hq, hap, hb⟩
        have lw3 := hb.size
        have shoA := OwnI.sepLt ho bA.lt
        have shoR := OwnI.sepLt ho bR.lt
        have shqA := OwnI.sepLt hq bA.lt
        have shqR := OwnI.sepLt hq bR.lt
        replace bA := bA.keep hb
        replace bR := bR.keep hb
        replace hp1 := hp1.keep hb
        replace hc1 := hc1.keep hb
        replace E0 := below_step E0 hb
        clear hb
        replace ho := ho.mono E0w2
        replace hq := hq.mono E0w2
        have E0w3 := E0.size
        have lA := bA.lt
        have kA0 := bA.c0
        have qA0 := bA.f0
        have kA1 := bA.c1
        have qA1 := bA.f1
        have kA2 := bA.c2
        have qA2 := bA.f2
        have kA3 := bA.c3
        have qA3 := bA.f3
        have lR := bR.lt
        have kR0 := bR.c0
        have qR0 := bR.f0
        have kR1 := bR.c1
        have qR1 := bR.f1
        have kR2 := bR.c2
        have qR2 := bR.f2
        have kR3 := bR.c3
        have qR3 := bR.f3
        go_wp2_with fail
        clear kA0 qA0 kA1 qA1 kA2 qA2 kA3 qA3 kR0 qR0 kR1 qR1 kR2 qR2 kR3 qR3 lA lR
        have bE := (((((bR.set0 (u := .slice a1 p.length d1)).set1 (u := .int .i64 pr)).set2 (u := .slice b1 c.length f1)).set3 (u := .int .i64 bw)).alloc (.cells #[.slice a1 p.length d1, .int .i64 pr, .slice b1 c.length f1, .int .i64 bw] 36))
        have e0 := bE.c0
        have e1 := bE.c1
        have e2 := bE.c2
        have e3 := bE.c3
        have eZ := ((((E0.setCell (p := ⟨R, 0, none⟩) hwR (.slice a1 p.length d1)).setCell (p := ⟨R, 1, none⟩) hwR (.int .i64 pr)).setCell (p := ⟨R, 2, none⟩) hwR (.slice b1 c.length f1)).setCell (p := ⟨R, 3, none⟩) hwR (.int .i64 bw))
        exact bodyPost_ret (v := .tuple #[.agg #[.slice a1 p.length d1, .int .i64 pr, .slice b1 c.length f1, .int .i64 bw], .bool false]) (by simp [results, Tryd.results22, go_sem, e0, e1, e2, e3]) rfl
          ⟨_, _, _, _, rfl, (((((ho.farN (o := 0) shoR).farN (o := 1) shoR).farN (o := 2) shoR).farN (o := 3) shoR).alloc _), (((((hq.farN (o := 0) shqR).farN (o := 1) shqR).farN (o := 2) shqR).farN (o := 3) shqR).alloc _), hap, (eZ.alloc eZ.size _)⟩
      · rw [if_neg h8]
        rw [show (!decide (p.length = 8)) = true by simp [h8]]
        have g8 : ¬ (8 : Int) ≤ (p.length : Int) := by omega
        have g8e : ((p.length : Int) == 8) = false := by simp; omega
        clear h8
        have E0 : Below w.heap.size w w := Below.refl _ _
        have bA := Bx.new (w) (.slice pa p.length pd) (.int .i64 pr) (.slice ca c.length cd) (.int .i64 bw) 36 (w.heap.size) rfl
        replace E0 := E0.alloc (Nat.le_refl _) (.cells #[.slice pa p.length pd, .int .i64 pr, .slice ca c.length cd, .int .i64 bw] 36)
        have zR : ((w).alloc (.cells #[.slice pa p.length pd, .int .i64 pr, .slice ca c.length cd, .int .i64 bw] 36)).heap.size = w.heap.size + 1 := by simp
        have bR := Bx.new ((w).alloc (.cells #[.slice pa p.length pd, .int .i64 pr, .slice ca c.length cd, .int .i64 bw] 36)) (.slice none 0 0) (.int .i64 0) (.slice none 0 0) (.int .i64 0) 36 (w.heap.size + 1) zR.symm
        replace bA := bA.alloc (.cells #[.slice none 0 0, .int .i64 0, .slice none 0 0, .int .i64 0] 36)
        replace E0 := E0.alloc (by rw [zR]; omega) (.cells #[.slice none 0 0, .int .i64 0, .slice none 0 0, .int .i64 0] 36)
        clear zR
        have zz : (((w).alloc (.cells #[.slice pa p.length pd, .int .i64 pr, .slice ca c.length cd, .int .i64 bw] 36)).alloc (.cells #[.slice none 0 0, .int .i64 0, .slice none 0 0, .int .i64 0] 36)).heap.size = w.heap.size + 1 + 1 := by simp
        have hp1 := hp.keep E0
        have hc1 := hc.keep E0
        go_enter Tryd.func22, Tryd.ntmps22
        go_wp2_with fail
        obtain ⟨A, eA⟩ : ∃ A, A = w.heap.size := ⟨_, rfl⟩
        rw [← eA] at bA
        obtain ⟨R, eR⟩ : ∃ R, R = w.heap.size + 1 := ⟨_, rfl⟩
        rw [← eR] at bR
        try rw [← eR]
        try rw [← eA]
        have hwA : w.heap.size ≤ A := by omega
        have htA : A < w.heap.size + 1 + 1 := by omega
        have nAR : A ≠ R := by omega
        have hwR : w.heap.size ≤ R := by omega
        have htR : R < w.heap.size + 1 + 1 := by omega
        have nRA : R ≠ A := by omega
        clear eA eR
        refine (iaok_t _ hp1 hc1 HA).mono ?_
        rintro e w1 ⟨rfl, hb⟩
        replace bA := bA.keep hb
        replace bR := bR.keep hb
        replace hp1 := hp1.keep hb
        replace hc1 := hc1.keep hb
        replace E0 := below_step E0 hb
        clear hb
        have E0w1 := E0.size
        have lA := bA.lt
        have kA0 := bA.c0
        have qA0 := bA.f0
        have kA1 := bA.c1
        have qA1 := bA.f1
        have kA2 := bA.c2
        have qA2 := bA.f2
        have kA3 := bA.c3
        have qA3 := bA.f3
        have lR := bR.lt
        have kR0 := bR.c0
        have qR0 := bR.f0
        have kR1 := bR.c1
        have qR1 := bR.f1
        have kR2 := bR.c2
        have qR2 := bR.f2
        have kR3 := bR.c3
        have qR3 := bR.f3
        go_wp2_with fail
        clear kA0 qA0 kA1 qA1 kA2 qA2 kA3 qA3 kR0 qR0 kR1 qR1 kR2 qR2 kR3 qR3 lA lR
        refine (numok_t _ HN).mono ?_
        rintro e w2 ⟨rfl, rfl⟩
        have E0w2 := E0.size
        have lA := bA.lt
        have kA0 := bA.c0
        have qA0 := bA.f0
        have kA1 := bA.c1
        have qA1 := bA.f1
        have kA2 := bA.c2
        have qA2 := bA.f2
        have kA3 := bA.c3
        have qA3 := bA.f3
        have lR := bR.lt
        have kR0 := bR.c0
        have qR0 := bR.f0
        have kR1 := bR.c1
        have qR1 := bR.f1
        have kR2 := bR.c2
        have qR2 := bR.f2
        have kR3 := bR.c3
        have qR3 := bR.f3
        go_wp2_with fail
        clear kA0 qA0 kA1 qA1 kA2 qA2 kA3 qA3 kR0 qR0 kR1 qR1 kR2 qR2 kR3 qR3 lA lR
        refine (icopy_any _ _ p c pr bw _ hp1 hc1 (by omega) (by omega)).mono ?_
        rintro e w3 ⟨a1, d1, b1, f1, rfl, ho, hq, hap, hb⟩
        have lw3 := hb.size
        have shoA := OwnI.sepLt ho bA.lt
        have shoR := OwnI.sepLt ho bR.lt
        have shqA := OwnI.sepLt hq bA.lt
        have shqR := OwnI.sepLt hq bR.lt
        replace bA := bA.keep hb
        replace bR := bR.keep hb
        replace hp1 := hp1.keep hb
        replace hc1 := hc1.keep hb
        replace E0 := below_step E0 hb
        clear hb
        replace ho := ho.mono E0w2
        replace hq := hq.mono E0w2
        have E0w3 := E0.size
        have lA := bA.lt
        have kA0 := bA.c0
        have qA0 := bA.f0
        have kA1 := bA.c1
        have qA1 := bA.f1
        have kA2 := bA.c2
        have qA2 := bA.f2
        have kA3 := bA.c3
        have qA3 := bA.f3
        have lR := bR.lt
        have kR0 := bR.c0
        have qR0 := bR.f0
        have kR1 := bR.c1
        have qR1 := bR.f1
        have kR2 := bR.c2
        have qR2 := bR.f2
        have kR3 := bR.c3
        have qR3 := bR.f3
        go_wp2_with fail
        clear kA0 qA0 kA1 qA1 kA2 qA2 kA3 qA3 kR0 qR0 kR1 qR1 kR2 qR2 kR3 qR3 lA lR
        obtain ⟨E, eE⟩ : ∃ E, E = w3.heap.size + 1 := ⟨_, rfl⟩
        try rw [← eE]
        obtain ⟨O, eO⟩ : ∃ O, O = w3.heap.size := ⟨_, rfl⟩
        rw [← eO]
        have bO := Bx.new w3 (.slice a1 p.length d1) (.int .i64 pr) (.slice b1 c.length f1) (.int .i64 bw) 36 O eO
        have hwO : w.heap.size ≤ O := by rw [eO]; exact E0.size
        have nAO : A ≠ O := by have := bA.lt; omega
        have nOA : O ≠ A := by have := bA.lt; omega
        have nRO : R ≠ O := by have := bR.lt; omega
        have nOR : O ≠ R := by have := bR.lt; omega
        have shoO := OwnI.sepGe ho (Nat.le_of_eq eO.symm)
        have shqO := OwnI.sepGe hq (Nat.le_of_eq eO.symm)
        clear eO
        replace bA := bA.alloc (.cells #[.slice a1 p.length d1, .int .i64 pr, .slice b1 c.length f1, .int .i64 bw] 36)
        replace bR := bR.alloc (.cells #[.slice a1 p.length d1, .int .i64 pr, .slice b1 c.length f1, .int .i64 bw] 36)
        replace ho := ho.alloc (.cells #[.slice a1 p.length d1, .int .i64 pr, .slice b1 c.length f1, .int .i64 bw] 36)
        replace hq := hq.alloc (.cells #[.slice a1 p.length d1, .int .i64 pr, .slice b1 c.length f1, .int .i64 bw] 36)
        replace hp1 := hp1.alloc (.cells #[.slice a1 p.length d1, .int .i64 pr, .slice b1 c.length f1, .int .i64 bw] 36)
        replace hc1 := hc1.alloc (.cells #[.slice a1 p.length d1, .int .i64 pr, .slice b1 c.length f1, .int .i64 bw] 36)
        replace E0 := E0.alloc E0.size (.cells #[.slice a1 p.length d1, .int .i64 pr, .slice b1 c.length f1, .int .i64 bw] 36)
        have zO : (w3.alloc (.cells #[.slice a1 p.length d1, .int .i64 pr, .slice b1 c.length f1, .int .i64 bw] 36)).heap.size = w3.heap.size + 1 := by simp
        refine (insert_at (.slice a1 p.length d1) p an w.heap.size E _ (eE.trans zO.symm) ho E0.size hpl).mono ?_
        rintro e w9 ⟨x2, c2, rfl, hn2, hg2, hor⟩
        have shn2A := sep_or hor shoA (Nat.lt_of_lt_of_le bA.lt (by simp))
        have shn2R := sep_or hor shoR (Nat.lt_of_lt_of_le bR.lt (by simp))
        have shn2O := sep_or hor shoO (Nat.lt_of_lt_of_le bO.lt (by simp))
        have hap2 := apart_or hor hap (hq.alloc (.cells #[.int .i64 an] IT))
        replace bA := (bA.alloc (.cells #[.int .i64 an] IT)).kept hg2 shoA
        replace bR := (bR.alloc (.cells #[.int .i64 an] IT)).kept hg2 shoR
        replace bO := (bO.alloc (.cells #[.int .i64 an] IT)).kept hg2 shoO
        replace hq := (hq.alloc (.cells #[.int .i64 an] IT)).kept hg2 hap.2
        replace E0 := E0.alloc E0.size (.cells #[.int .i64 an] IT)
        replace E0 := Below.grown E0 hg2 E0.size (fun k hk => (World.ownsRow.lt ho k hk).1)
        clear hg2 ho hor
        have lA := bA.lt
        have kA0 := bA.c0
        have qA0 := bA.f0
        have kA1 := bA.c1
        have qA1 := bA.f1
        have kA2 := bA.c2
        have qA2 := bA.f2
        have kA3 := bA.c3
        have qA3 := bA.f3
        have lR := bR.lt
        have kR0 := bR.c0
        have qR0 := bR.f0
        have kR1 := bR.c1
        have qR1 := bR.f1
        have kR2 := bR.c2
        have qR2 := bR.f2
        have kR3 := bR.c3
        have qR3 := bR.f3
        have lO := bO.lt
        have kO0 := bO.c0
        have qO0 := bO.f0
        have kO1 := bO.c1
        have qO1 := bO.f1
        have kO2 := bO.c2
        have qO2 := bO.f2
        have kO3 := bO.c3
        have qO3 := bO.f3
        go_wp2_with fail
        clear kA0 qA0 kA1 qA1 kA2 qA2 kA3 qA3 kR0 qR0 kR1 qR1 kR2 qR2 kR3 qR3 kO0 qO0 kO1 qO1 kO2 qO2 kO3 qO3 lA lR lO
        have bE := (((((bR.far (C := O) (o := 0) (u := .slice x2 (p.length + 1) c2) nRO).set0 (u := .slice x2 (p.length + 1) c2)).set1 (u := .int .i64 pr)).set2 (u := .slice b1 c.length f1)).set3 (u := .int .i64 bw))
        have e0 := bE.c0
        have e1 := bE.c1
        have e2 := bE.c2
        have e3 := bE.c3
        exact bodyPost_ret (v := .tuple #[.agg #[.slice x2 (p.length + 1) c2, .int .i64 pr, .slice b1 c.length f1, .int .i64 bw], .bool true]) (by simp [results, Tryd.results22, go_sem, e0, e1, e2, e3]) rfl
          ⟨_, _, _, _, rfl, (((((hn2.farN (o := 0) shn2O).farN (o := 0) shn2R).farN (o := 1) shn2R).farN (o := 2) shn2R).farN (o := 3) shn2R), (((((hq.farN (o := 0) shqO).farN (o := 0) shqR).farN (o := 1) shqR).farN (o := 2) shqR).farN (o := 3) shqR), hap2, (((((E0.setCell (p := ⟨O, 0, none⟩) hwO (.slice x2 (p.length + 1) c2)).setCell (p := ⟨R, 0, none⟩) hwR (.slice x2 (p.length + 1) c2)).setCell (p := ⟨R, 1, none⟩) hwR (.int .i64 pr)).setCell (p := ⟨R, 2, none⟩) hwR (.slice b1 c.length f1)).setCell (p := ⟨R, 3, none⟩) hwR (.int .i64 bw))⟩
end Go.Proofs.YtcmbajphholliabDoor
