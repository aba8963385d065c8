/-
  Ints appended to a slice that the call made; copies of attributes. Conditions: those in each statement.
-/
import Derived.Test.YtbcmoofpgffbhaaI5
import Derived.Laws.AppendOwnNone
namespace Go.Proofs.Ytbcmoofpgffbhaa
open Go.ChangeShapes Go.WideShapes Go.ChangeAt Go.RowKit Go.BigFrame Go.Joins
set_option linter.unusedVariables false
set_option maxRecDepth 100000

/-- append(s, x...): s is the call's own, x reads as m -/
theorem wp_appI {ops : Array Oper} {rest : List Oper} {o : Oper} {a : Act} {Q : Exit → Act → World → Prop} {w : World} (hgd : o.guard = none) (s x : Operand)
    (ho : o.op = .call { callee := .builtin .append, args := #[s, x], argTypes := #[24, 24] })
    (base : Nat) (v u : Value) (l m : List Int) (hs : a.eval s = v) (hx : a.eval x = u) (hown : OwnI w base v l) (hu : RdI w u m) (hlen : l.length + m.length ≤ 4294967296) (hbase : base ≤ w.heap.size)
    (h : ∀ v' w', OwnI w' base v' (l ++ m) → w.grownBy w' v.ownBlock → wpList Try.prog ops Q rest (a.put o.dst v') w') : wpList Try.prog ops Q (o :: rest) a w := by
  obtain ⟨i0, hi, hz0, hz1, hz2⟩ := info_parts infoB_I
  have hmap : l.map (Value.int .i64) ++ m.map (Value.int .i64) = (l ++ m).map (Value.int .i64) := by simp
  have hl2 : (l ++ m).length = l.length + m.length := by simp
  have done : ∀ (ad : Addr) (c : Nat), u = .slice (some ad) m.length c → (∀ j y, (m.map (Value.int .i64))[j]? = some y → w.cell? (ad.add j) = some y) → wpList Try.prog ops Q (o :: rest) a w := by
    intro ad c hv hc
    refine wpList_append_own w hgd s x 24 ho base IT i0 (.int .i64 0) 1 8 Try.underlying24 hi hz0 hz1 hz2 rfl (by decide) v l.length (l.map (Value.int .i64)) hs hown ad m.length c (m.map (Value.int .i64)) (hx.trans hv) (by simp) hc (by simp [Value.oneCell']) (by unfold maxLen; omega) (by omega) hbase ?_
    intro v' w' ho' hg' _
    refine h v' w' ?_ hg'
    unfold OwnI
    rw [hl2, ← hmap]
    exact ho'
  obtain ⟨hb, hm, ⟨p, c, hv, rfl, hac⟩ | ⟨b, off, c, hv, hp, hc⟩⟩ := hu
  · cases p with
    | none =>
      have hc0 := hac rfl
      subst hc0
      refine wpList_append_own_none hgd s x 24 ho base IT i0 1 Try.underlying24 hi v l.length (l.map (Value.int .i64)) hs hown (hx.trans hv) ?_
      exact h v w (by simpa using hown) ⟨rfl, rfl, rfl, Nat.le_refl _, fun _ _ _ => rfl⟩
    | some ad => exact done ad c hv (by simp)
  · refine done ⟨b, off, none⟩ c hv (fun j y hy => ?_)
    have hj : j < m.length := by
      have := (List.getElem?_eq_some_iff.1 hy).1
      simpa using this
    have hadd : (⟨b, off, none⟩ : Addr).add j = ⟨b, off + j, none⟩ := by unfold Addr.add; split <;> simp_all
    rw [hadd, hc j hj]
    simpa [List.getD, hj] using hy

theorem own_empty_I (w : World) (base g : Nat) (hg : g = w.heap.size) (hb : base ≤ g) : OwnI (w.alloc (.cells #[] IT)) base (.slice (some ⟨g, 0, none⟩) 0 0) [] := by
  subst hg; exact OwnI.lit w #[] [] hb (by simp) (by simp)
theorem own_lit1_I (w : World) (z : Int) (g : Nat) (hg : g = w.heap.size) : OwnI (w.alloc (.cells #[.int .i64 z] IT)) g (.slice (some ⟨g, 0, none⟩) 1 1) [z] := by
  subst hg; exact OwnI.lit w #[.int .i64 z] [z] (Nat.le_refl _) (by simp [maxLen]) (by simp)
theorem sown_any (pv cv : Value) (p c : List Int) (pr bw : Int) (w : World) (hp : RdI w pv p) (hc : RdI w cv c) (h0 : p.length ≤ 1048576) (h1 : c.length ≤ 1048576) :
    Calls Try.prog 121 #[.agg #[pv, .int .i64 pr, cv, .int .i64 bw]] w (NewA w p pr c bw) := by
  obtain ⟨pa, pd, rfl⟩ := hp.len
  obtain ⟨ca, cd, rfl⟩ := hc.len
  have E0 : Below w.heap.size w w := Below.refl _ _
  have bA := Bx.new (w) (.slice pa p.length pd) (.int .i64 pr) (.slice ca c.length cd) (.int .i64 bw) 26 (w.heap.size) rfl
  replace E0 := E0.alloc (Nat.le_refl _) (.cells #[.slice pa p.length pd, .int .i64 pr, .slice ca c.length cd, .int .i64 bw] 26)
  have zR : ((w).alloc (.cells #[.slice pa p.length pd, .int .i64 pr, .slice ca c.length cd, .int .i64 bw] 26)).heap.size = w.heap.size + 1 := by simp
  have bR := Bx.new ((w).alloc (.cells #[.slice pa p.length pd, .int .i64 pr, .slice ca c.length cd, .int .i64 bw] 26)) (.slice none 0 0) (.int .i64 0) (.slice none 0 0) (.int .i64 0) 26 (w.heap.size + 1) zR.symm
  replace bA := bA.alloc (.cells #[.slice none 0 0, .int .i64 0, .slice none 0 0, .int .i64 0] 26)
  replace E0 := E0.alloc (by rw [zR]; omega) (.cells #[.slice none 0 0, .int .i64 0, .slice none 0 0, .int .i64 0] 26)
  clear zR
  have zz : (((w).alloc (.cells #[.slice pa p.length pd, .int .i64 pr, .slice ca c.length cd, .int .i64 bw] 26)).alloc (.cells #[.slice none 0 0, .int .i64 0, .slice none 0 0, .int .i64 0] 26)).heap.size = w.heap.size + 1 + 1 := by simp
  have hp1 := hp.keep E0
  go_enter Try.func121, Try.ntmps121
  go_wp2_with (at_builtin; refine Hid.out ?_)
  obtain ⟨E, eE⟩ : ∃ E, E = w.heap.size + 1 + 1 := ⟨_, rfl⟩
  try rw [← eE]
  obtain ⟨A, eA⟩ : ∃ A, A = w.heap.size := ⟨_, rfl⟩
  rw [← eA] at bA
  obtain ⟨R, eR⟩ : ∃ R, R = w.heap.size + 1 := ⟨_, rfl⟩
  rw [← eR] at bR
  try rw [← eR]
  try rw [← eA]
  have hwA : w.heap.size ≤ A := by omega
  have htA : A < w.heap.size + 1 + 1 := by omega
  have nAR : A ≠ R := by omega
  have hwR : w.heap.size ≤ R := by omega
  have htR : R < w.heap.size + 1 + 1 := by omega
  have nRA : R ≠ A := by omega
  clear eA eR
  have hE := own_empty_I (((w).alloc (.cells #[.slice pa p.length pd, .int .i64 pr, .slice ca c.length cd, .int .i64 bw] 26)).alloc (.cells #[.slice none 0 0, .int .i64 0, .slice none 0 0, .int .i64 0] 26)) E E (eE.trans zz.symm) (Nat.le_refl _)
  replace bA := bA.alloc (.cells #[] IT)
  replace bR := bR.alloc (.cells #[] IT)
  replace E0 := E0.alloc (by rw [zz]; omega) (.cells #[] IT)
  replace hp1 := hp1.alloc (.cells #[] IT)
  have hle : E ≤ ((((w).alloc (.cells #[.slice pa p.length pd, .int .i64 pr, .slice ca c.length cd, .int .i64 bw] 26)).alloc (.cells #[.slice none 0 0, .int .i64 0, .slice none 0 0, .int .i64 0] 26)).alloc (.cells #[] IT)).heap.size := by rw [eE]; simp
  have hw2 : w.heap.size ≤ E := by omega
  have hAE : A < E := by omega
  have hRE : R < E := by omega
  have nAE : A ≠ E := by omega
  have nRE : R ≠ E := by omega
  refine Lib.hid ?_
  refine wp_appI rfl (.tmp 3) (.tmp 5) rfl E (.slice (some ⟨E, 0, none⟩) 0 0) (.slice pa p.length pd) [] p rfl rfl hE hp1 (by simp; omega) hle ?_
  intro v1 w1 ho1 hg1
  rw [List.nil_append] at ho1
  obtain ⟨a1, d1, rfl⟩ := ho1.len
  replace bA := bA.grown hg1 (by show some A ≠ some E; simp; exact nAE)
  replace bR := bR.grown hg1 (by show some R ≠ some E; simp; exact nRE)
  have hs1 := hg1.size
  replace E0 := Below.grown E0 hg1 (Nat.le_trans hw2 hle) (fun k hk => Nat.le_trans hw2 (World.ownsRow.lt hE k hk).1)
  have hE1 : E ≤ w1.heap.size := Nat.le_trans hle hs1
  clear hE hp1 hg1 hs1 hle zz
  have lA := bA.lt
  have kA0 := bA.c0
  have qA0 := bA.f0
  have kA1 := bA.c1
  have qA1 := bA.f1
  have kA2 := bA.c2
  have qA2 := bA.f2
  have kA3 := bA.c3
  have qA3 := bA.f3
  have lR := bR.lt
  have kR0 := bR.c0
  have qR0 := bR.f0
  have kR1 := bR.c1
  have qR1 := bR.f1
  have kR2 := bR.c2
  have qR2 := bR.f2
  have kR3 := bR.c3
  have qR3 := bR.f3
  go_wp2_with (at_builtin; refine Hid.out ?_)
  clear kA0 qA0 kA1 qA1 kA2 qA2 kA3 qA3 kR0 qR0 kR1 qR1 kR2 qR2 kR3 qR3 lA lR
  replace bA := bA.set0 (u := .slice a1 p.length d1)
  replace bR := bR.far (C := A) (o := 0) (u := .slice a1 p.length d1) nRA
  replace ho1 := ho1.far (B := A) (o := 0) (u := .slice a1 p.length d1) hAE
  replace E0 := E0.setCell (p := ⟨A, 0, none⟩) hwA (.slice a1 p.length d1)
  have hsz : (w1.setCell ⟨A, 0, none⟩ (.slice a1 p.length d1)).heap.size = w1.heap.size := by simp [World.setCell]
  generalize w1.setCell ⟨A, 0, none⟩ (.slice a1 p.length d1) = wS at *
  obtain ⟨F, eF⟩ : ∃ F, F = w1.heap.size := ⟨_, rfl⟩
  try rw [← eF]
  have eG : F = wS.heap.size := eF.trans hsz.symm
  have hEF : E ≤ F := by omega
  have hF1 : ∀ k, (Value.slice a1 p.length d1).ownBlock = some k → k < F := fun k hk => by have := (World.ownsRow.lt ho1 k hk).2; omega
  have ho1' := ho1
  have hF := own_empty_I wS F F eG (Nat.le_refl _)
  have hle2 : F ≤ (wS.alloc (.cells #[] IT)).heap.size := by rw [eG]; simp
  replace bA := bA.alloc (.cells #[] IT)
  replace bR := bR.alloc (.cells #[] IT)
  replace ho1 := ho1.alloc (.cells #[] IT)
  replace E0 := E0.alloc E0.size (.cells #[] IT)
  have hAF : A < F := by omega
  have hRF : R < F := by omega
  have nAF : A ≠ F := by omega
  have nRF : R ≠ F := by omega
  refine Lib.hid ?_
  refine wp_appI rfl (.tmp 8) (.tmp 10) rfl F (.slice (some ⟨F, 0, none⟩) 0 0) (.slice ca c.length cd) [] c rfl rfl hF (hc.keep E0) (by simp; omega) hle2 ?_
  intro v2 w2 ho2 hg2
  rw [List.nil_append] at ho2
  obtain ⟨a2, d2, rfl⟩ := ho2.len
  have hap := apartI ho1' ho2 (by omega)
  replace bA := bA.grown hg2 (by show some A ≠ some F; simp; exact nAF)
  replace bR := bR.grown hg2 (by show some R ≠ some F; simp; exact nRF)
  replace ho1 := ho1.kept hg2 (by
    cases hv : (Value.slice a1 p.length d1).ownBlock with
    | none => exact .inl rfl
    | some k => exact .inr (by show some k ≠ some F; have := hF1 k hv; simp; omega))
  replace E0 := Below.grown E0 hg2 (by omega) (fun k hk => Nat.le_trans (Nat.le_trans hw2 hEF) (World.ownsRow.lt hF k hk).1)
  clear ho1' hF hg2 hF1 hle2 eG hsz eF
  have lA := bA.lt
  have kA0 := bA.c0
  have qA0 := bA.f0
  have kA1 := bA.c1
  have qA1 := bA.f1
  have kA2 := bA.c2
  have qA2 := bA.f2
  have kA3 := bA.c3
  have qA3 := bA.f3
  have lR := bR.lt
  have kR0 := bR.c0
  have qR0 := bR.f0
  have kR1 := bR.c1
  have qR1 := bR.f1
  have kR2 := bR.c2
  have qR2 := bR.f2
  have kR3 := bR.c3
  have qR3 := bR.f3
  go_wp2_with fail
  clear kA0 qA0 kA1 qA1 kA2 qA2 kA3 qA3 kR0 qR0 kR1 qR1 kR2 qR2 kR3 qR3 lA lR
  have bE := ((bR.far (C := A) (o := 2) (u := .slice a2 c.length d2) nRA)).all (y0 := .slice a1 p.length d1) (y1 := .int .i64 pr) (y2 := .slice a2 c.length d2) (y3 := .int .i64 bw)
  have e0 := bE.c0
  have e1 := bE.c1
  have e2 := bE.c2
  have e3 := bE.c3
  exact bodyPost_ret (v := .agg #[.slice a1 p.length d1, .int .i64 pr, .slice a2 c.length d2, .int .i64 bw]) (by simp [results, Try.results121, go_sem, e0, e1, e2, e3]) rfl
    ⟨a1, d1, a2, d2, rfl, OwnI.mono (((((ho1.far (o := 2) hAE).far (o := 0) hRE).far (o := 1) hRE).far (o := 2) hRE).far (o := 3) hRE) hw2, OwnI.mono (((((ho2.far (o := 2) hAF).far (o := 0) hRF).far (o := 1) hRF).far (o := 2) hRF).far (o := 3) hRF) (Nat.le_trans hw2 hEF), hap,
      ((((E0.setCell (p := ⟨A, 2, none⟩) hwA _).setCell (p := ⟨R, 0, none⟩) hwR _).setCell (p := ⟨R, 1, none⟩) hwR _).setCell (p := ⟨R, 2, none⟩) hwR _).setCell (p := ⟨R, 3, none⟩) hwR _⟩
theorem icopy_any (pv cv : Value) (p c : List Int) (pr bw : Int) (w : World) (hp : RdI w pv p) (hc : RdI w cv c) (h0 : p.length ≤ 1048576) (h1 : c.length ≤ 1048576) :
    Calls Try.prog 129 #[.agg #[pv, .int .i64 pr, cv, .int .i64 bw]] w (NewA w p pr c bw) := by
  obtain ⟨pa, pd, rfl⟩ := hp.len
  obtain ⟨ca, cd, rfl⟩ := hc.len
  have E0 : Below w.heap.size w w := Below.refl _ _
  have bA := Bx.new (w) (.slice pa p.length pd) (.int .i64 pr) (.slice ca c.length cd) (.int .i64 bw) 26 (w.heap.size) rfl
  replace E0 := E0.alloc (Nat.le_refl _) (.cells #[.slice pa p.length pd, .int .i64 pr, .slice ca c.length cd, .int .i64 bw] 26)
  have zR : ((w).alloc (.cells #[.slice pa p.length pd, .int .i64 pr, .slice ca c.length cd, .int .i64 bw] 26)).heap.size = w.heap.size + 1 := by simp
  have bR := Bx.new ((w).alloc (.cells #[.slice pa p.length pd, .int .i64 pr, .slice ca c.length cd, .int .i64 bw] 26)) (.slice none 0 0) (.int .i64 0) (.slice none 0 0) (.int .i64 0) 26 (w.heap.size + 1) zR.symm
  replace bA := bA.alloc (.cells #[.slice none 0 0, .int .i64 0, .slice none 0 0, .int .i64 0] 26)
  replace E0 := E0.alloc (by rw [zR]; omega) (.cells #[.slice none 0 0, .int .i64 0, .slice none 0 0, .int .i64 0] 26)
  clear zR
  have zz : (((w).alloc (.cells #[.slice pa p.length pd, .int .i64 pr, .slice ca c.length cd, .int .i64 bw] 26)).alloc (.cells #[.slice none 0 0, .int .i64 0, .slice none 0 0, .int .i64 0] 26)).heap.size = w.heap.size + 1 + 1 := by simp
  have hp1 := hp.keep E0
  go_enter Try.func129, Try.ntmps129
  go_wp2_with (at_builtin; refine Hid.out ?_)
  obtain ⟨E, eE⟩ : ∃ E, E = w.heap.size + 1 + 1 := ⟨_, rfl⟩
  try rw [← eE]
  obtain ⟨A, eA⟩ : ∃ A, A = w.heap.size := ⟨_, rfl⟩
  rw [← eA] at bA
  obtain ⟨R, eR⟩ : ∃ R, R = w.heap.size + 1 := ⟨_, rfl⟩
  rw [← eR] at bR
  try rw [← eR]
  try rw [← eA]
  have hwA : w.heap.size ≤ A := by omega
  have htA : A < w.heap.size + 1 + 1 := by omega
  have nAR : A ≠ R := by omega
  have hwR : w.heap.size ≤ R := by omega
  have htR : R < w.heap.size + 1 + 1 := by omega
  have nRA : R ≠ A := by omega
  clear eA eR
  have hE : OwnI (((w).alloc (.cells #[.slice pa p.length pd, .int .i64 pr, .slice ca c.length cd, .int .i64 bw] 26)).alloc (.cells #[.slice none 0 0, .int .i64 0, .slice none 0 0, .int .i64 0] 26)) E (.slice none 0 0) [] := World.ownsRow_nil _ _ _ _
  have hle : E ≤ (((w).alloc (.cells #[.slice pa p.length pd, .int .i64 pr, .slice ca c.length cd, .int .i64 bw] 26)).alloc (.cells #[.slice none 0 0, .int .i64 0, .slice none 0 0, .int .i64 0] 26)).heap.size := by rw [zz]; omega
  have hw2 : w.heap.size ≤ E := by omega
  have hAE : A < E := by omega
  have hRE : R < E := by omega
  have nAE : A ≠ E := by omega
  have nRE : R ≠ E := by omega
  refine Lib.hid ?_
  refine wp_appI rfl (.const (.slice none 0 0)) (.tmp 4) rfl E (.slice none 0 0) (.slice pa p.length pd) [] p rfl rfl hE hp1 (by simp; omega) hle ?_
  intro v1 w1 ho1 hg1
  rw [List.nil_append] at ho1
  obtain ⟨a1, d1, rfl⟩ := ho1.len
  replace bA := bA.grown hg1 (by show some A ≠ none; simp)
  replace bR := bR.grown hg1 (by show some R ≠ none; simp)
  have hs1 := hg1.size
  replace E0 := Below.grown E0 hg1 (Nat.le_trans hw2 hle) (fun k hk => Nat.le_trans hw2 (World.ownsRow.lt hE k hk).1)
  have hE1 : E ≤ w1.heap.size := Nat.le_trans hle hs1
  clear hE hp1 hg1 hs1 hle zz
  have lA := bA.lt
  have kA0 := bA.c0
  have qA0 := bA.f0
  have kA1 := bA.c1
  have qA1 := bA.f1
  have kA2 := bA.c2
  have qA2 := bA.f2
  have kA3 := bA.c3
  have qA3 := bA.f3
  have lR := bR.lt
  have kR0 := bR.c0
  have qR0 := bR.f0
  have kR1 := bR.c1
  have qR1 := bR.f1
  have kR2 := bR.c2
  have qR2 := bR.f2
  have kR3 := bR.c3
  have qR3 := bR.f3
  go_wp2_with (at_builtin; refine Hid.out ?_)
  clear kA0 qA0 kA1 qA1 kA2 qA2 kA3 qA3 kR0 qR0 kR1 qR1 kR2 qR2 kR3 qR3 lA lR
  replace bA := bA.set0 (u := .slice a1 p.length d1)
  replace bR := bR.far (C := A) (o := 0) (u := .slice a1 p.length d1) nRA
  replace ho1 := ho1.far (B := A) (o := 0) (u := .slice a1 p.length d1) hAE
  replace E0 := E0.setCell (p := ⟨A, 0, none⟩) hwA (.slice a1 p.length d1)
  have hsz : (w1.setCell ⟨A, 0, none⟩ (.slice a1 p.length d1)).heap.size = w1.heap.size := by simp [World.setCell]
  generalize w1.setCell ⟨A, 0, none⟩ (.slice a1 p.length d1) = wS at *
  obtain ⟨F, eF⟩ : ∃ F, F = w1.heap.size := ⟨_, rfl⟩
  try rw [← eF]
  have eG : F = wS.heap.size := eF.trans hsz.symm
  have hEF : E ≤ F := by omega
  have hF1 : ∀ k, (Value.slice a1 p.length d1).ownBlock = some k → k < F := fun k hk => by have := (World.ownsRow.lt ho1 k hk).2; omega
  have ho1' := ho1
  have hF : OwnI wS F (.slice none 0 0) [] := World.ownsRow_nil _ _ _ _
  have hle2 : F ≤ wS.heap.size := by omega
  have hAF : A < F := by omega
  have hRF : R < F := by omega
  have nAF : A ≠ F := by omega
  have nRF : R ≠ F := by omega
  refine Lib.hid ?_
  refine wp_appI rfl (.const (.slice none 0 0)) (.tmp 8) rfl F (.slice none 0 0) (.slice ca c.length cd) [] c rfl rfl hF (hc.keep E0) (by simp; omega) hle2 ?_
  intro v2 w2 ho2 hg2
  rw [List.nil_append] at ho2
  obtain ⟨a2, d2, rfl⟩ := ho2.len
  have hap := apartI ho1' ho2 (by omega)
  replace bA := bA.grown hg2 (by show some A ≠ none; simp)
  replace bR := bR.grown hg2 (by show some R ≠ none; simp)
  replace ho1 := ho1.kept hg2 (by
    cases hv : (Value.slice a1 p.length d1).ownBlock with
    | none => exact .inl rfl
    | some k => exact .inr (by show some k ≠ none; have := hF1 k hv; simp))
  replace E0 := Below.grown E0 hg2 (by omega) (fun k hk => Nat.le_trans (Nat.le_trans hw2 hEF) (World.ownsRow.lt hF k hk).1)
  clear ho1' hF hg2 hF1 hle2 eG hsz eF
  have lA := bA.lt
  have kA0 := bA.c0
  have qA0 := bA.f0
  have kA1 := bA.c1
  have qA1 := bA.f1
  have kA2 := bA.c2
  have qA2 := bA.f2
  have kA3 := bA.c3
  have qA3 := bA.f3
  have lR := bR.lt
  have kR0 := bR.c0
  have qR0 := bR.f0
  have kR1 := bR.c1
  have qR1 := bR.f1
  have kR2 := bR.c2
  have qR2 := bR.f2
  have kR3 := bR.c3
  have qR3 := bR.f3
  go_wp2_with fail
  clear kA0 qA0 kA1 qA1 kA2 qA2 kA3 qA3 kR0 qR0 kR1 qR1 kR2 qR2 kR3 qR3 lA lR
  have bE := ((bR.far (C := A) (o := 2) (u := .slice a2 c.length d2) nRA)).all (y0 := .slice a1 p.length d1) (y1 := .int .i64 pr) (y2 := .slice a2 c.length d2) (y3 := .int .i64 bw)
  have e0 := bE.c0
  have e1 := bE.c1
  have e2 := bE.c2
  have e3 := bE.c3
  exact bodyPost_ret (v := .agg #[.slice a1 p.length d1, .int .i64 pr, .slice a2 c.length d2, .int .i64 bw]) (by simp [results, Try.results129, go_sem, e0, e1, e2, e3]) rfl
    ⟨a1, d1, a2, d2, rfl, OwnI.mono (((((ho1.far (o := 2) hAE).far (o := 0) hRE).far (o := 1) hRE).far (o := 2) hRE).far (o := 3) hRE) hw2, OwnI.mono (((((ho2.far (o := 2) hAF).far (o := 0) hRF).far (o := 1) hRF).far (o := 2) hRF).far (o := 3) hRF) (Nat.le_trans hw2 hEF), hap,
      ((((E0.setCell (p := ⟨A, 2, none⟩) hwA _).setCell (p := ⟨R, 0, none⟩) hwR _).setCell (p := ⟨R, 1, none⟩) hwR _).setCell (p := ⟨R, 2, none⟩) hwR _).setCell (p := ⟨R, 3, none⟩) hwR _⟩
end Go.Proofs.Ytbcmoofpgffbhaa
