/-
  l9turn, of the model. Conditions: those in each contract.
  Turn, of the model. Conditions: those in each contract.
  Turn, of the program. Conditions: those in each contract.
  How many marks a fabric bears behind Turn. Conditions: those in each contract.
-/
import Derived.Test.YtkodnipmogdgkaaGreatFTo
namespace Go.Proofs.YtkodnipmogdgkaaGreat
open Go.ChangeShapes Go.WideShapes Go.ChangeAt Go.RowKit Go.BigFrame Go.Joins
open List (setIfInBounds_toArray set_cons_succ set_cons_zero)
set_option linter.unusedVariables false
set_option maxRecDepth 100000
set_option maxRecDepth 100000
set_option linter.unusedSimpArgs false
set_option maxRecDepth 100000

theorem owMS0 (w : World) (S : Nat → Prop) : OwMS w S (.slice none 0 0) [] := ⟨by simp, .inl ⟨rfl, rfl⟩⟩
set_option maxHeartbeats 4000000 in
/-- the link is as it should be already -/
theorem sl9turn_same (T gl lcap k : Nat) (nv : Value) (wd : Int) (n : Nat) (xl : List Value) (up : Bool) (w : World) (bT : Bl w T [nv, .slice (some ⟨gl, 0, none⟩) n lcap, .int .i64 wd]) (bL : Bl w gl xl) (hk : k < n) (e4 : xl[k * 7 + 4]? = some (.bool up)) :
  Calls Tryz.prog 42 #[.pointer (some ⟨T, 0, none⟩), .int .i64 k, .bool up] w fun e w' => e = .returned (.tuple #[]) ∧ w = w' := by
 have hkI : (k : Int) < (n : Int) := by omega
 have t1 := bT.c 1 rfl; have q4 := bL.c _ e4; have hbb : (up == up) = true := by simp
 go_enter Tryz.func42, Tryz.ntmps42
 go_wp2
 first | go_end0 | refine bodyPost_ret (results_none rfl _ _ _) rfl ?_
 exact ⟨rfl, rfl⟩
set_option maxHeartbeats 4000000 in
theorem sl9turn_any (T g cap gl lcap k a b base : Nat) (up : Bool) (x : Fb) (y : Lk) (xs xl : List Value) (S0 S1 : Nat → Prop) (E El : Nat → Nat → Prop) (w : World)
  (bT : Bl w T [.slice (some ⟨g, 0, none⟩) x.nodes.length cap, .slice (some ⟨gl, 0, none⟩) x.links.length lcap, .int .i64 x.width]) (gS : S0 g) (bG : Bl w g xs) (hxl : xs.length = x.nodes.length * 6) (hE : ∀ i, i < x.nodes.length → (∀ b, E i b → S0 b) ∧ ¬ E i g ∧ ElN xs w (E i) i (x.nodes.getD i n0))
  (lS : S1 gl) (bL : Bl w gl xl) (hll : xl.length = x.links.length * 7) (hEl : ∀ i, i < x.links.length → (∀ b, El i b → S1 b) ∧ ¬ El i gl ∧ ElL xl w (El i) i (x.links.getD i l0)) (hdl : ∀ i j, i < x.links.length → j < x.links.length → i ≠ j → Dj (El i) (El j)) (hl : x.links.length ≤ 1048576)
  (hj : Dj S0 S1) (hT0 : ¬ S0 T) (hT1 : ¬ S1 T) (hbT : base ≤ T) (hbg : base ≤ g) (hbl : base ≤ gl)
  (hy : x.links.getD k l0 = y) (hk : k < x.links.length) (hv : LkOk x.nodes.length y a b) (hup : y.up ≠ up) (hnd : ∀ i, i < x.nodes.length → ndB (x.nodes.getD i n0) = true) (hwt : wtNS x.nodes ≤ 1048576) :
  Calls Tryz.prog 42 #[.pointer (some ⟨T, 0, none⟩), .int .i64 k, .bool up] w fun e w' => e = .returned (.tuple #[]) ∧ ∃ xs', PN w' g xs' (ndLost (ndLost x.nodes y.a y.ai) y.b y.bi) ∧ OwLS w' S1 (.slice (some ⟨gl, 0, none⟩) x.links.length lcap) (x.links.set k ⟨y.a, y.ai, y.b, y.bi, up, [], []⟩) ∧ Bl w' T [.slice (some ⟨g, 0, none⟩) x.nodes.length cap, .slice (some ⟨gl, 0, none⟩) x.links.length lcap, .int .i64 x.width] ∧ Below base w w' := by
 obtain ⟨hya, hyb, an, bn, hab, hai, hbi⟩ := hv; have hkI : (k : Int) < (x.links.length : Int) := by omega
 have hgT : g ≠ T := fun e => hT0 (e ▸ gS)
 have hgl : g ≠ gl := fun e => hj g gS (e ▸ lS)
 have hlT : gl ≠ T := fun e => hT1 (e ▸ lS)
 have hglS : ¬ S0 gl := fun q => hj gl q lS
 have hEk := (hEl k hk).2.2; rw [hy] at hEk; obtain ⟨av, bv, hol, e0, e1, e2, e3, e4, e5, e6⟩ := hEk; rw [hya] at e0; rw [hyb] at e2; have hbb : (y.up == up) = false := by simp [hup]
 have t1 := bT.c 1 rfl; have q4 := bL.c _ e4; have q5 := bL.c _ e5; have q6 := bL.c _ e6; have p4 := bL.f _ e4; have p5 := bL.f _ e5; have p6 := bL.f _ e6; have HUP := Lib.hid hup; clear hup
 go_enter Tryz.func42, Tryz.ntmps42
 go_wp2; clear t1 q4 q5 q6 p4 p5 p6 hbb; obtain ⟨xl3, hxl3⟩ : ∃ l, l = ((xl.set (k * 7 + 4) (.bool up)).set (k * 7 + 5) (.slice none 0 0)).set (k * 7 + 6) (.slice none 0 0) := ⟨_, rfl⟩; have bL3 := ((bL.set (k * 7 + 4) (.bool up)).set (k * 7 + 5) (.slice none 0 0)).set (k * 7 + 6) (.slice none 0 0); have bT3 := ((bT.far (o := k * 7 + 4) (u := .bool up) hlT.symm).far (o := k * 7 + 5) (u := .slice none 0 0) hlT.symm).far (o := k * 7 + 6) (u := .slice none 0 0) hlT.symm; have bG3 := ((bG.far (o := k * 7 + 4) (u := .bool up) hgl).far (o := k * 7 + 5) (u := .slice none 0 0) hgl).far (o := k * 7 + 6) (u := .slice none 0 0) hgl; have ag3 : ∀ S : Nat → Prop, ¬ S gl → AgrS S w (((w.setCell ⟨gl, k * 7 + 4, none⟩ (.bool up)).setCell ⟨gl, k * 7 + 5, none⟩ (.slice none 0 0)).setCell ⟨gl, k * 7 + 6, none⟩ (.slice none 0 0)) := fun S h => ((agr_setS (o := k * 7 + 4) (u := .bool up) _ h).trans (agr_setS (o := k * 7 + 5) (u := .slice none 0 0) _ h)).trans (agr_setS (o := k * 7 + 6) (u := .slice none 0 0) _ h)
 have B0 := (((Below.refl base w).setCell (p := ⟨gl, k * 7 + 4, none⟩) hbl (.bool up)).setCell (p := ⟨gl, k * 7 + 5, none⟩) hbl (.slice none 0 0)).setCell (p := ⟨gl, k * 7 + 6, none⟩) hbl (.slice none 0 0); obtain ⟨V, hV⟩ : ∃ V, V = ((w.setCell ⟨gl, k * 7 + 4, none⟩ (.bool up)).setCell ⟨gl, k * 7 + 5, none⟩ (.slice none 0 0)).setCell ⟨gl, k * 7 + 6, none⟩ (.slice none 0 0) := ⟨_, rfl⟩; rw [← hxl3] at bL3; rw [← hV] at bL3 bT3 bG3 ag3 B0 ⊢; have e0' : xl3[k * 7]? = some (.int .i64 a) := by rw [hxl3]; rw [List.getElem?_set_ne (by omega)]; rw [List.getElem?_set_ne (by omega)]; rw [List.getElem?_set_ne (by omega)]; exact e0
 have e1' : xl3[k * 7 + 1]? = some (.int .i64 y.ai) := by rw [hxl3]; rw [List.getElem?_set_ne (by omega)]; rw [List.getElem?_set_ne (by omega)]; rw [List.getElem?_set_ne (by omega)]; exact e1
 have e2' : xl3[k * 7 + 2]? = some (.int .i64 b) := by rw [hxl3]; rw [List.getElem?_set_ne (by omega)]; rw [List.getElem?_set_ne (by omega)]; rw [List.getElem?_set_ne (by omega)]; exact e2
 have e3' : xl3[k * 7 + 3]? = some (.int .i64 y.bi) := by rw [hxl3]; rw [List.getElem?_set_ne (by omega)]; rw [List.getElem?_set_ne (by omega)]; rw [List.getElem?_set_ne (by omega)]; exact e3
 have oL : OwLS V S1 (.slice (some ⟨gl, 0, none⟩) x.links.length lcap) (x.links.set k ⟨y.a, y.ai, y.b, y.bi, up, [], []⟩) := OwLS.put hl lS bL3 (by rw [hxl3]; simpa using hll) hEl hdl hk
  (fun i hi hij f hf => by rw [hxl3]; rw [List.getElem?_set_ne (by omega)]; rw [List.getElem?_set_ne (by omega)]; rw [List.getElem?_set_ne (by omega)]) (fun i hi => ag3 _ (hEl i hi).2.1)
  ⟨_, _, ⟨fun _ => False, fun _ => False, fun _ q => q.elim, fun _ q => q.elim, fun _ q _ => q.elim, owMS0 _ _, owMS0 _ _⟩, by rw [hya]; exact e0', e1', by rw [hyb]; exact e2', e3', by rw [hxl3]; rw [List.getElem?_set_ne (by omega)]; rw [List.getElem?_set_ne (by omega)]; rw [List.getElem?_set_self (by omega)], by rw [hxl3]; rw [List.getElem?_set_ne (by omega)]; rw [List.getElem?_set_self (by simp only [List.length_set]; omega)], by rw [hxl3]; rw [List.getElem?_set_self (by simp only [List.length_set]; omega)]⟩
 clear hV hxl3 e0 e1 e2 e3 e4 e5 e6 hol bL bT bG hEl hdl; have bL := bL3; clear bL3; have bT := bT3; clear bT3; have bG := bG3; clear bG3; have e0 := e0'; clear e0'; have e1 := e1'; clear e1'; have e2 := e2'; clear e2'; have e3 := e3'; clear e3'
 have P0 : PN V g xs x.nodes := ⟨bG, hxl, fun i hi => by
  obtain ⟨i1, i2, ov, rv, sv, ho, f⟩ := hE i hi
  exact ⟨ov, rv, sv, fun w2 ag => (ho.agr ((ag3 _ (fun q => hglS (i1 _ q))).trans (ag.sub fun b q e => i2 (e ▸ q)))).rd, f⟩⟩
 obtain ⟨ya, hqa⟩ : ∃ z, z = x.nodes.getD a n0 := ⟨_, rfl⟩; obtain ⟨yb, hqb⟩ : ∃ z, z = x.nodes.getD b n0 := ⟨_, rfl⟩; have him : a < x.nodes.length := an; have hin : b < x.nodes.length := bn
 have hwa : ya.rib.length ≤ 1048576 ∧ ya.sent.length ≤ 1048576 := by
  have h1 := wtN_at (L := x.nodes) (j := a) an; rw [← hqa] at h1; unfold wtN at h1
  omega
 have hwb : yb.rib.length ≤ 1048576 ∧ yb.sent.length ≤ 1048576 := by
  have h1 := wtN_at (L := x.nodes) (j := b) bn; rw [← hqb] at h1; unfold wtN at h1
  omega
 have HWm := Lib.hid hwa; have HWn := Lib.hid hwb; have HLEm := Lib.hid (lost_eq (N := ya) (i := y.ai) (hqa ▸ hnd a an) hai); have HLEn := Lib.hid (lost_eq (N := yb) (i := y.bi) (hqb ▸ hnd b bn) hbi); have hoa' := (hE a an).2.2; have hob' := (hE b bn).2.2; rw [← hqa] at hoa'; rw [← hqb] at hob'; obtain ⟨ov1, rv1, sv1, hoa, f0, f1, f2, f3, f4, f5⟩ := hoa'; obtain ⟨ov2, rv2, sv2, hob, h0, h1, h2, h3, h4, h5⟩ := hob'; replace hoa := hoa.agr (ag3 _ (fun q => hglS ((hE a an).1 _ q))); replace hob := hob.agr (ag3 _ (fun q => hglS ((hE b bn).1 _ q))); obtain ⟨i1, j1, rfl⟩ := hoa.rd.1.len; obtain ⟨i2, j2, rfl⟩ := hoa.rd.2.1.len; obtain ⟨i3, j3, rfl⟩ := hoa.rd.2.2.len; obtain ⟨i4, j4, rfl⟩ := hob.rd.1.len; obtain ⟨i5, j5, rfl⟩ := hob.rd.2.1.len; obtain ⟨i6, j6, rfl⟩ := hob.rd.2.2.len; have HQ := Lib.hid (And.intro hqa hqb); have HAB := Lib.hid hab; have HAIB := Lib.hid (And.intro hai hbi); have HYAB := Lib.hid (And.intro hya hyb); have anI : (a : Int) < (x.nodes.length : Int) := by omega
 have bnI : (b : Int) < (x.nodes.length : Int) := by omega
 clear hqa hqb hwa hwb ag3 hnd hai hbi hya hyb hy hll hl; refine wp_region_held_drew (S := fun w' => Bl w' T [.slice (some ⟨g, 0, none⟩) x.nodes.length cap, .slice (some ⟨gl, 0, none⟩) x.links.length lcap, .int .i64 x.width] ∧ Bl w' gl xl3) (by kernel_rfl) ⟨bT.keep (over_drew _), bL.keep (over_drew _)⟩ (fun hHeld => ?_); clear hHeld; obtain ⟨Dm, hD⟩ : ∃ D, D = V.drew := ⟨_, rfl⟩; have Om : Over V Dm := by rw [hD]; exact over_drew _
 rw [← hD]; clear hD; have bPD := And.intro (bT.keep Om) (bL.keep Om); have hSD := bPD; refine tk 0 29 (v := ?_) hSD ?_ ?_; rotate_left
 ·intro wq hSq
  go_simp
  try rfl
 simp only [Act.put, setIfInBounds_toArray, set_cons_succ, set_cons_zero]; refine tk 1 30 (v := ?_) hSD ?_ ?_; rotate_left
 ·intro wq hSq
  go_simp
  try rfl
 simp only [Act.put, setIfInBounds_toArray, set_cons_succ, set_cons_zero]; refine tk 2 31 (v := ?_) hSD ?_ ?_; rotate_left
 ·intro wq hSq
  go_simp
  try rfl
 simp only [Act.put, setIfInBounds_toArray, set_cons_succ, set_cons_zero]; refine tk 3 32 (v := ?_) hSD ?_ ?_; rotate_left
 ·intro wq hSq
  have q0 := hSq.1.c 0 rfl
  go_simp
  try rfl
 simp only [Act.put, setIfInBounds_toArray, set_cons_succ, set_cons_zero]; refine tk 4 33 (v := ?_) hSD ?_ ?_; rotate_left
 ·intro wq hSq
  go_simp
  try rfl
 simp only [Act.put, setIfInBounds_toArray, set_cons_succ, set_cons_zero]; refine tk 5 34 (v := ?_) hSD ?_ ?_; rotate_left
 ·intro wq hSq
  go_simp
  try rfl
 simp only [Act.put, setIfInBounds_toArray, set_cons_succ, set_cons_zero]; refine tk 6 35 (v := ?_) hSD ?_ ?_; rotate_left
 ·intro wq hSq
  go_simp
  try rfl
 simp only [Act.put, setIfInBounds_toArray, set_cons_succ, set_cons_zero]; refine tk 7 36 (v := ?_) hSD ?_ ?_; rotate_left
 ·intro wq hSq
  have q0 := hSq.2.c (k * 7) e0
  go_simp
  try rfl
 simp only [Act.put, setIfInBounds_toArray, set_cons_succ, set_cons_zero]; refine tk 8 37 (v := ?_) hSD ?_ ?_; rotate_left
 ·intro wq hSq
  go_simp
  try rfl
 simp only [Act.put, setIfInBounds_toArray, set_cons_succ, set_cons_zero]; refine tk 9 38 (v := ?_) hSD ?_ ?_; rotate_left
 ·intro wq hSq
  go_simp
  try rfl
 simp only [Act.put, setIfInBounds_toArray, set_cons_succ, set_cons_zero]; refine tk 10 39 (v := ?_) hSD ?_ ?_; rotate_left
 ·intro wq hSq
  go_simp
  try rfl
 simp only [Act.put, setIfInBounds_toArray, set_cons_succ, set_cons_zero]; refine tk 11 40 (v := ?_) hSD ?_ ?_; rotate_left
 ·intro wq hSq
  have q0 := hSq.1.c 0 rfl
  go_simp
  try rfl
 simp only [Act.put, setIfInBounds_toArray, set_cons_succ, set_cons_zero]; refine tk 12 41 (v := ?_) hSD ?_ ?_; rotate_left
 ·intro wq hSq
  go_simp
  try rfl
 simp only [Act.put, setIfInBounds_toArray, set_cons_succ, set_cons_zero]; refine tk 13 42 (v := ?_) hSD ?_ ?_; rotate_left
 ·intro wq hSq
  go_simp
  try rfl
 simp only [Act.put, setIfInBounds_toArray, set_cons_succ, set_cons_zero]; refine tk 14 43 (v := ?_) hSD ?_ ?_; rotate_left
 ·intro wq hSq
  go_simp
  try rfl
 simp only [Act.put, setIfInBounds_toArray, set_cons_succ, set_cons_zero]; refine tk 15 44 (v := ?_) hSD ?_ ?_; rotate_left
 ·intro wq hSq
  have q0 := hSq.2.c (k * 7) e0
  go_simp
  try rfl
 simp only [Act.put, setIfInBounds_toArray, set_cons_succ, set_cons_zero]; refine tk 16 45 (v := ?_) hSD ?_ ?_; rotate_left
 ·intro wq hSq
  go_simp
  try rfl
 simp only [Act.put, setIfInBounds_toArray, set_cons_succ, set_cons_zero]; refine tk 18 47 (v := ?_) hSD ?_ ?_; rotate_left
 ·intro wq hSq
  go_simp
  try rfl
 simp only [Act.put, setIfInBounds_toArray, set_cons_succ, set_cons_zero]; refine tk 19 48 (v := ?_) hSD ?_ ?_; rotate_left
 ·intro wq hSq
  go_simp
  try rfl
 simp only [Act.put, setIfInBounds_toArray, set_cons_succ, set_cons_zero]; refine tk 20 49 (v := ?_) hSD ?_ ?_; rotate_left
 ·intro wq hSq
  go_simp
  try rfl
 simp only [Act.put, setIfInBounds_toArray, set_cons_succ, set_cons_zero]; refine tk 21 50 (v := ?_) hSD ?_ ?_; rotate_left
 ·intro wq hSq
  have q0 := hSq.2.c (k * 7 + 1) e1
  go_simp
  try rfl
 simp only [Act.put, setIfInBounds_toArray, set_cons_succ, set_cons_zero]; clear hSD; refine rd1 17 fun K hK => ?_
 have q0 := (bG.keep Om).c (a * 6) f0; have q1 := (bG.keep Om).c (a * 6 + 1) f1; have q2 := (bG.keep Om).c (a * 6 + 2) f2; have q3 := (bG.keep Om).c (a * 6 + 3) f3; have q4 := (bG.keep Om).c (a * 6 + 4) f4; have q5 := (bG.keep Om).c (a * 6 + 5) f5
 go_simp
 refine hK.out _ _ bPD (fun hHeld => ?_); clear hK K hHeld q0 q1 q2 q3 q4 q5
 try simp only [Act.put, setIfInBounds_toArray, set_cons_succ, set_cons_zero]
 refine rd1 22 fun K hK => ?_
 go_simp
 refine (sl8lost_s (E a) _ _ _ ya y.ai Dm (hoa.agr (.of_below Om)) HWm.out.1 HWm.out.2).mono ?_; rintro e wm ⟨o9, r9, s9, rfl, hrm, Bm⟩; obtain ⟨Zm, hZm⟩ : ∃ Z, Z = { ya with rib := (ya.rib.filter fun E => !(E.pe == y.ai)), sent := (ya.sent.filter fun E => !(E.pe == y.ai)) } := ⟨_, rfl⟩; rw [← hZm] at hrm; have hnow := hrm wm ⟨Nat.le_refl _, fun _ _ _ => rfl⟩; obtain ⟨m1, m2, rfl⟩ := hnow.1.len; obtain ⟨m3, m4, rfl⟩ := hnow.2.1.len; obtain ⟨m5, m6, rfl⟩ := hnow.2.2.len; have HZm := Lib.hid hZm; clear hnow hZm; refine hK.out _ _ ⟨bPD.1.keep Bm, bPD.2.keep Bm⟩ (fun hHeld => ?_); clear hK K hHeld
 try simp only [Act.put, setIfInBounds_toArray, set_cons_succ, set_cons_zero]
 refine rd1 23 fun K hK => ?_
 go_simp
 refine hK.out _ _ ⟨bPD.1.keep Bm, bPD.2.keep Bm⟩ (fun hHeld => ?_); clear hK K hHeld
 try simp only [Act.put, setIfInBounds_toArray, set_cons_succ, set_cons_zero]
 refine rd1 24 fun K hK => ?_
 have q0 := ((bG.keep Om).keep Bm).c (a * 6) f0; have p0 := ((bG.keep Om).keep Bm).f (a * 6) f0; have q1 := ((bG.keep Om).keep Bm).c (a * 6 + 1) f1; have p1 := ((bG.keep Om).keep Bm).f (a * 6 + 1) f1; have q2 := ((bG.keep Om).keep Bm).c (a * 6 + 2) f2; have p2 := ((bG.keep Om).keep Bm).f (a * 6 + 2) f2; have q3 := ((bG.keep Om).keep Bm).c (a * 6 + 3) f3; have p3 := ((bG.keep Om).keep Bm).f (a * 6 + 3) f3; have q4 := ((bG.keep Om).keep Bm).c (a * 6 + 4) f4; have p4 := ((bG.keep Om).keep Bm).f (a * 6 + 4) f4; have q5 := ((bG.keep Om).keep Bm).c (a * 6 + 5) f5; have p5 := ((bG.keep Om).keep Bm).f (a * 6 + 5) f5
 go_simp
 refine hK.out _ _ ⟨((((((bPD.1.keep Bm).far (o := a * 6) hgT.symm).far (o := a * 6 + 1) hgT.symm).far (o := a * 6 + 2) hgT.symm).far (o := a * 6 + 3) hgT.symm).far (o := a * 6 + 4) hgT.symm).far (o := a * 6 + 5) hgT.symm, ((((((bPD.2.keep Bm).far (o := a * 6) hgl.symm).far (o := a * 6 + 1) hgl.symm).far (o := a * 6 + 2) hgl.symm).far (o := a * 6 + 3) hgl.symm).far (o := a * 6 + 4) hgl.symm).far (o := a * 6 + 5) hgl.symm⟩ (fun hHeld => ?_); clear hK K hHeld q0 q1 q2 q3 q4 q5 p0 p1 p2 p3 p4 p5
 try simp only [Act.put, setIfInBounds_toArray, set_cons_succ, set_cons_zero]
 refine wpAnyH_done (by kernel_rfl) ?_ _; obtain ⟨Wm, hWm⟩ : ∃ W, W = ((((((wm).setCell ⟨g, a * 6, none⟩ (.int .i64 ya.an)).setCell ⟨g, a * 6 + 1, none⟩ (.slice m1 Zm.own.length m2)).setCell ⟨g, a * 6 + 2, none⟩ (.int .i64 ya.bw)).setCell ⟨g, a * 6 + 3, none⟩ (.bool ya.dr)).setCell ⟨g, a * 6 + 4, none⟩ (.slice m3 Zm.rib.length m4)).setCell ⟨g, a * 6 + 5, none⟩ (.slice m5 Zm.sent.length m6) := ⟨_, rfl⟩; have hzm : wm.heap.size = Wm.heap.size := by rw [hWm]; simp
 have som := Om.size; have sbm := Bm.size; have agm : ∀ S : Nat → Prop, ¬ S g → AgrS S V Wm := fun S hg => by rw [hWm]; exact ((((((AgrS.of_below (below_step Om Bm)).trans (agr_setS (o := a * 6) (u := .int .i64 ya.an) _ hg)).trans (agr_setS (o := a * 6 + 1) (u := .slice m1 Zm.own.length m2) _ hg)).trans (agr_setS (o := a * 6 + 2) (u := .int .i64 ya.bw) _ hg)).trans (agr_setS (o := a * 6 + 3) (u := .bool ya.dr) _ hg)).trans (agr_setS (o := a * 6 + 4) (u := .slice m3 Zm.rib.length m4) _ hg)).trans (agr_setS (o := a * 6 + 5) (u := .slice m5 Zm.sent.length m6) _ hg)
 have awm : AgrS (fun b => b ≠ g) wm Wm := by rw [hWm]; exact ((((((AgrS.of_below (Below.refl _ _)).trans (agr_setS (o := a * 6) (u := .int .i64 ya.an) _ (fun h => h rfl))).trans (agr_setS (o := a * 6 + 1) (u := .slice m1 Zm.own.length m2) _ (fun h => h rfl))).trans (agr_setS (o := a * 6 + 2) (u := .int .i64 ya.bw) _ (fun h => h rfl))).trans (agr_setS (o := a * 6 + 3) (u := .bool ya.dr) _ (fun h => h rfl))).trans (agr_setS (o := a * 6 + 4) (u := .slice m3 Zm.rib.length m4) _ (fun h => h rfl))).trans (agr_setS (o := a * 6 + 5) (u := .slice m5 Zm.sent.length m6) _ (fun h => h rfl))
 have bGm := (((((((bG.keep Om).keep Bm).set (a * 6) (.int .i64 ya.an)).set (a * 6 + 1) (.slice m1 Zm.own.length m2)).set (a * 6 + 2) (.int .i64 ya.bw)).set (a * 6 + 3) (.bool ya.dr)).set (a * 6 + 4) (.slice m3 Zm.rib.length m4)).set (a * 6 + 5) (.slice m5 Zm.sent.length m6); have bTm := (((((((bT.keep Om).keep Bm).far (o := a * 6) (u := .int .i64 ya.an) hgT.symm).far (o := a * 6 + 1) (u := .slice m1 Zm.own.length m2) hgT.symm).far (o := a * 6 + 2) (u := .int .i64 ya.bw) hgT.symm).far (o := a * 6 + 3) (u := .bool ya.dr) hgT.symm).far (o := a * 6 + 4) (u := .slice m3 Zm.rib.length m4) hgT.symm).far (o := a * 6 + 5) (u := .slice m5 Zm.sent.length m6) hgT.symm; have bLm := (((((((bL.keep Om).keep Bm).far (o := a * 6) (u := .int .i64 ya.an) hgl.symm).far (o := a * 6 + 1) (u := .slice m1 Zm.own.length m2) hgl.symm).far (o := a * 6 + 2) (u := .int .i64 ya.bw) hgl.symm).far (o := a * 6 + 3) (u := .bool ya.dr) hgl.symm).far (o := a * 6 + 4) (u := .slice m3 Zm.rib.length m4) hgl.symm).far (o := a * 6 + 5) (u := .slice m5 Zm.sent.length m6) hgl.symm; have Qm := (((((((below_up (below_up B0 Om (by have := bG.lt; omega)) Bm (by have := bG.lt; have := Om.size; omega))).setCell (p := ⟨g, a * 6, none⟩) hbg (.int .i64 ya.an)).setCell (p := ⟨g, a * 6 + 1, none⟩) hbg (.slice m1 Zm.own.length m2)).setCell (p := ⟨g, a * 6 + 2, none⟩) hbg (.int .i64 ya.bw)).setCell (p := ⟨g, a * 6 + 3, none⟩) hbg (.bool ya.dr)).setCell (p := ⟨g, a * 6 + 4, none⟩) hbg (.slice m3 Zm.rib.length m4)).setCell (p := ⟨g, a * 6 + 5, none⟩) hbg (.slice m5 Zm.sent.length m6); rw [← hWm] at bGm bTm bLm Qm ⊢; clear hWm
 have Pm : PN Wm g _ (_root_.List.set _ a (lostN ya y.ai)) := PN.put (ov := .slice m1 Zm.own.length m2) (rv := .slice m3 Zm.rib.length m4) (sv := .slice m5 Zm.sent.length m6) P0 (agm _ (fun h => h rfl)) bGm (by simpa using P0.2.1) (by simpa using him)
  (fun w2 a2 => by rw [HLEm.out, ← HZm.out]; exact hrm w2 ((awm.trans a2).sub fun b9 q e => by rcases q with q | q; exact (hE a him).2.1 (e ▸ q); have := bG.lt; have := Om.size; omega))
  (fun i hi hij f hf => by rw [List.getElem?_set_ne (by omega)]; rw [List.getElem?_set_ne (by omega)]; rw [List.getElem?_set_ne (by omega)]; rw [List.getElem?_set_ne (by omega)]; rw [List.getElem?_set_ne (by omega)]; rw [List.getElem?_set_ne (by omega)])
  (by rw [HLEm.out]; exact ⟨by rw [List.getElem?_set_ne (by omega)]; rw [List.getElem?_set_ne (by omega)]; rw [List.getElem?_set_ne (by omega)]; rw [List.getElem?_set_ne (by omega)]; rw [List.getElem?_set_ne (by omega)]; rw [List.getElem?_set_self (by first | omega | (simp only [List.length_set]; omega))], by rw [List.getElem?_set_ne (by omega)]; rw [List.getElem?_set_ne (by omega)]; rw [List.getElem?_set_ne (by omega)]; rw [List.getElem?_set_ne (by omega)]; rw [List.getElem?_set_self (by first | omega | (simp only [List.length_set]; omega))], by rw [List.getElem?_set_ne (by omega)]; rw [List.getElem?_set_ne (by omega)]; rw [List.getElem?_set_ne (by omega)]; rw [List.getElem?_set_self (by first | omega | (simp only [List.length_set]; omega))], by rw [List.getElem?_set_ne (by omega)]; rw [List.getElem?_set_ne (by omega)]; rw [List.getElem?_set_self (by first | omega | (simp only [List.length_set]; omega))], by rw [List.getElem?_set_ne (by omega)]; rw [List.getElem?_set_self (by first | omega | (simp only [List.length_set]; omega))], by  rw [List.getElem?_set_self (by first | omega | (simp only [List.length_set]; omega))]⟩)
 have oLm := oL.agr (agm _ (fun q => hj g gS q)); have hobm := hob.agr (agm _ (hE b bn).2.1); have g0 : (((((((xs).set (a * 6) (.int .i64 ya.an)).set (a * 6 + 1) (.slice m1 Zm.own.length m2)).set (a * 6 + 2) (.int .i64 ya.bw)).set (a * 6 + 3) (.bool ya.dr)).set (a * 6 + 4) (.slice m3 Zm.rib.length m4)).set (a * 6 + 5) (.slice m5 Zm.sent.length m6))[b * 6]? = some (.int .i64 yb.an) := by rw [List.getElem?_set_ne (by omega)]; rw [List.getElem?_set_ne (by omega)]; rw [List.getElem?_set_ne (by omega)]; rw [List.getElem?_set_ne (by omega)]; rw [List.getElem?_set_ne (by omega)]; rw [List.getElem?_set_ne (by omega)]; exact h0
 have g1 : (((((((xs).set (a * 6) (.int .i64 ya.an)).set (a * 6 + 1) (.slice m1 Zm.own.length m2)).set (a * 6 + 2) (.int .i64 ya.bw)).set (a * 6 + 3) (.bool ya.dr)).set (a * 6 + 4) (.slice m3 Zm.rib.length m4)).set (a * 6 + 5) (.slice m5 Zm.sent.length m6))[b * 6 + 1]? = some (.slice i4 yb.own.length j4) := by rw [List.getElem?_set_ne (by omega)]; rw [List.getElem?_set_ne (by omega)]; rw [List.getElem?_set_ne (by omega)]; rw [List.getElem?_set_ne (by omega)]; rw [List.getElem?_set_ne (by omega)]; rw [List.getElem?_set_ne (by omega)]; exact h1
 have g2 : (((((((xs).set (a * 6) (.int .i64 ya.an)).set (a * 6 + 1) (.slice m1 Zm.own.length m2)).set (a * 6 + 2) (.int .i64 ya.bw)).set (a * 6 + 3) (.bool ya.dr)).set (a * 6 + 4) (.slice m3 Zm.rib.length m4)).set (a * 6 + 5) (.slice m5 Zm.sent.length m6))[b * 6 + 2]? = some (.int .i64 yb.bw) := by rw [List.getElem?_set_ne (by omega)]; rw [List.getElem?_set_ne (by omega)]; rw [List.getElem?_set_ne (by omega)]; rw [List.getElem?_set_ne (by omega)]; rw [List.getElem?_set_ne (by omega)]; rw [List.getElem?_set_ne (by omega)]; exact h2
 have g3 : (((((((xs).set (a * 6) (.int .i64 ya.an)).set (a * 6 + 1) (.slice m1 Zm.own.length m2)).set (a * 6 + 2) (.int .i64 ya.bw)).set (a * 6 + 3) (.bool ya.dr)).set (a * 6 + 4) (.slice m3 Zm.rib.length m4)).set (a * 6 + 5) (.slice m5 Zm.sent.length m6))[b * 6 + 3]? = some (.bool yb.dr) := by rw [List.getElem?_set_ne (by omega)]; rw [List.getElem?_set_ne (by omega)]; rw [List.getElem?_set_ne (by omega)]; rw [List.getElem?_set_ne (by omega)]; rw [List.getElem?_set_ne (by omega)]; rw [List.getElem?_set_ne (by omega)]; exact h3
 have g4 : (((((((xs).set (a * 6) (.int .i64 ya.an)).set (a * 6 + 1) (.slice m1 Zm.own.length m2)).set (a * 6 + 2) (.int .i64 ya.bw)).set (a * 6 + 3) (.bool ya.dr)).set (a * 6 + 4) (.slice m3 Zm.rib.length m4)).set (a * 6 + 5) (.slice m5 Zm.sent.length m6))[b * 6 + 4]? = some (.slice i5 yb.rib.length j5) := by rw [List.getElem?_set_ne (by omega)]; rw [List.getElem?_set_ne (by omega)]; rw [List.getElem?_set_ne (by omega)]; rw [List.getElem?_set_ne (by omega)]; rw [List.getElem?_set_ne (by omega)]; rw [List.getElem?_set_ne (by omega)]; exact h4
 have g5 : (((((((xs).set (a * 6) (.int .i64 ya.an)).set (a * 6 + 1) (.slice m1 Zm.own.length m2)).set (a * 6 + 2) (.int .i64 ya.bw)).set (a * 6 + 3) (.bool ya.dr)).set (a * 6 + 4) (.slice m3 Zm.rib.length m4)).set (a * 6 + 5) (.slice m5 Zm.sent.length m6))[b * 6 + 5]? = some (.slice i6 yb.sent.length j6) := by rw [List.getElem?_set_ne (by omega)]; rw [List.getElem?_set_ne (by omega)]; rw [List.getElem?_set_ne (by omega)]; rw [List.getElem?_set_ne (by omega)]; rw [List.getElem?_set_ne (by omega)]; rw [List.getElem?_set_ne (by omega)]; exact h5
 clear bG bT bL B0 bPD agm awm hob h0 h1 h2 h3 h4 h5 f0 f1 f2 f3 f4 f5 hoa oL P0 hrm; have bG := bGm; clear bGm; have bT := bTm; clear bTm; have bL := bLm; clear bLm; have B0 := Qm; clear Qm; have hob := hobm; clear hobm; have h0 := g0; clear g0; have h1 := g1; clear g1; have h2 := g2; clear g2; have h3 := g3; clear g3; have h4 := g4; clear g4; have h5 := g5; clear g5; go_wp2; refine wp_region_held_drew (S := fun w' => Bl w' T [.slice (some ⟨g, 0, none⟩) x.nodes.length cap, .slice (some ⟨gl, 0, none⟩) x.links.length lcap, .int .i64 x.width] ∧ Bl w' gl xl3) (by kernel_rfl) ⟨bT.keep (over_drew _), bL.keep (over_drew _)⟩ (fun hHeld => ?_); clear hHeld; obtain ⟨Dn, hD⟩ : ∃ D, D = Wm.drew := ⟨_, rfl⟩; have On : Over Wm Dn := by rw [hD]; exact over_drew _
 rw [← hD]; clear hD; have bPD := And.intro (bT.keep On) (bL.keep On); have hSD := bPD; refine tk 0 53 (v := ?_) hSD ?_ ?_; rotate_left
 ·intro wq hSq
  go_simp
  try rfl
 simp only [Act.put, setIfInBounds_toArray, set_cons_succ, set_cons_zero]; refine tk 1 54 (v := ?_) hSD ?_ ?_; rotate_left
 ·intro wq hSq
  go_simp
  try rfl
 simp only [Act.put, setIfInBounds_toArray, set_cons_succ, set_cons_zero]; refine tk 2 55 (v := ?_) hSD ?_ ?_; rotate_left
 ·intro wq hSq
  go_simp
  try rfl
 simp only [Act.put, setIfInBounds_toArray, set_cons_succ, set_cons_zero]; refine tk 3 56 (v := ?_) hSD ?_ ?_; rotate_left
 ·intro wq hSq
  have q0 := hSq.1.c 0 rfl
  go_simp
  try rfl
 simp only [Act.put, setIfInBounds_toArray, set_cons_succ, set_cons_zero]; refine tk 4 57 (v := ?_) hSD ?_ ?_; rotate_left
 ·intro wq hSq
  go_simp
  try rfl
 simp only [Act.put, setIfInBounds_toArray, set_cons_succ, set_cons_zero]; refine tk 5 58 (v := ?_) hSD ?_ ?_; rotate_left
 ·intro wq hSq
  go_simp
  try rfl
 simp only [Act.put, setIfInBounds_toArray, set_cons_succ, set_cons_zero]; refine tk 6 59 (v := ?_) hSD ?_ ?_; rotate_left
 ·intro wq hSq
  go_simp
  try rfl
 simp only [Act.put, setIfInBounds_toArray, set_cons_succ, set_cons_zero]; refine tk 7 60 (v := ?_) hSD ?_ ?_; rotate_left
 ·intro wq hSq
  have q0 := hSq.2.c (k * 7 + 2) e2
  go_simp
  try rfl
 simp only [Act.put, setIfInBounds_toArray, set_cons_succ, set_cons_zero]; refine tk 8 61 (v := ?_) hSD ?_ ?_; rotate_left
 ·intro wq hSq
  go_simp
  try rfl
 simp only [Act.put, setIfInBounds_toArray, set_cons_succ, set_cons_zero]; refine tk 9 62 (v := ?_) hSD ?_ ?_; rotate_left
 ·intro wq hSq
  go_simp
  try rfl
 simp only [Act.put, setIfInBounds_toArray, set_cons_succ, set_cons_zero]; refine tk 10 63 (v := ?_) hSD ?_ ?_; rotate_left
 ·intro wq hSq
  go_simp
  try rfl
 simp only [Act.put, setIfInBounds_toArray, set_cons_succ, set_cons_zero]; refine tk 11 64 (v := ?_) hSD ?_ ?_; rotate_left
 ·intro wq hSq
  have q0 := hSq.1.c 0 rfl
  go_simp
  try rfl
 simp only [Act.put, setIfInBounds_toArray, set_cons_succ, set_cons_zero]; refine tk 12 65 (v := ?_) hSD ?_ ?_; rotate_left
 ·intro wq hSq
  go_simp
  try rfl
 simp only [Act.put, setIfInBounds_toArray, set_cons_succ, set_cons_zero]; refine tk 13 66 (v := ?_) hSD ?_ ?_; rotate_left
 ·intro wq hSq
  go_simp
  try rfl
 simp only [Act.put, setIfInBounds_toArray, set_cons_succ, set_cons_zero]; refine tk 14 67 (v := ?_) hSD ?_ ?_; rotate_left
 ·intro wq hSq
  go_simp
  try rfl
 simp only [Act.put, setIfInBounds_toArray, set_cons_succ, set_cons_zero]; refine tk 15 68 (v := ?_) hSD ?_ ?_; rotate_left
 ·intro wq hSq
  have q0 := hSq.2.c (k * 7 + 2) e2
  go_simp
  try rfl
 simp only [Act.put, setIfInBounds_toArray, set_cons_succ, set_cons_zero]; refine tk 16 69 (v := ?_) hSD ?_ ?_; rotate_left
 ·intro wq hSq
  go_simp
  try rfl
 simp only [Act.put, setIfInBounds_toArray, set_cons_succ, set_cons_zero]; refine tk 18 71 (v := ?_) hSD ?_ ?_; rotate_left
 ·intro wq hSq
  go_simp
  try rfl
 simp only [Act.put, setIfInBounds_toArray, set_cons_succ, set_cons_zero]; refine tk 19 72 (v := ?_) hSD ?_ ?_; rotate_left
 ·intro wq hSq
  go_simp
  try rfl
 simp only [Act.put, setIfInBounds_toArray, set_cons_succ, set_cons_zero]; refine tk 20 73 (v := ?_) hSD ?_ ?_; rotate_left
 ·intro wq hSq
  go_simp
  try rfl
 simp only [Act.put, setIfInBounds_toArray, set_cons_succ, set_cons_zero]; refine tk 21 74 (v := ?_) hSD ?_ ?_; rotate_left
 ·intro wq hSq
  have q0 := hSq.2.c (k * 7 + 3) e3
  go_simp
  try rfl
 simp only [Act.put, setIfInBounds_toArray, set_cons_succ, set_cons_zero]; clear hSD; refine rd1 17 fun K hK => ?_
 have q0 := (bG.keep On).c (b * 6) h0; have q1 := (bG.keep On).c (b * 6 + 1) h1; have q2 := (bG.keep On).c (b * 6 + 2) h2; have q3 := (bG.keep On).c (b * 6 + 3) h3; have q4 := (bG.keep On).c (b * 6 + 4) h4; have q5 := (bG.keep On).c (b * 6 + 5) h5
 go_simp
 refine hK.out _ _ bPD (fun hHeld => ?_); clear hK K hHeld q0 q1 q2 q3 q4 q5
 try simp only [Act.put, setIfInBounds_toArray, set_cons_succ, set_cons_zero]
 refine rd1 22 fun K hK => ?_
 go_simp
 refine (sl8lost_s (E b) _ _ _ yb y.bi Dn (hob.agr (.of_below On)) HWn.out.1 HWn.out.2).mono ?_; rintro e wn ⟨o9, r9, s9, rfl, hrn, Bn⟩; obtain ⟨Zn, hZn⟩ : ∃ Z, Z = { yb with rib := (yb.rib.filter fun E => !(E.pe == y.bi)), sent := (yb.sent.filter fun E => !(E.pe == y.bi)) } := ⟨_, rfl⟩; rw [← hZn] at hrn; have hnow := hrn wn ⟨Nat.le_refl _, fun _ _ _ => rfl⟩; obtain ⟨n1, n2, rfl⟩ := hnow.1.len; obtain ⟨n3, n4, rfl⟩ := hnow.2.1.len; obtain ⟨n5, n6, rfl⟩ := hnow.2.2.len; have HZn := Lib.hid hZn; clear hnow hZn; refine hK.out _ _ ⟨bPD.1.keep Bn, bPD.2.keep Bn⟩ (fun hHeld => ?_); clear hK K hHeld
 try simp only [Act.put, setIfInBounds_toArray, set_cons_succ, set_cons_zero]
 refine rd1 23 fun K hK => ?_
 go_simp
 refine hK.out _ _ ⟨bPD.1.keep Bn, bPD.2.keep Bn⟩ (fun hHeld => ?_); clear hK K hHeld
 try simp only [Act.put, setIfInBounds_toArray, set_cons_succ, set_cons_zero]
 refine rd1 24 fun K hK => ?_
 have q0 := ((bG.keep On).keep Bn).c (b * 6) h0; have p0 := ((bG.keep On).keep Bn).f (b * 6) h0; have q1 := ((bG.keep On).keep Bn).c (b * 6 + 1) h1; have p1 := ((bG.keep On).keep Bn).f (b * 6 + 1) h1; have q2 := ((bG.keep On).keep Bn).c (b * 6 + 2) h2; have p2 := ((bG.keep On).keep Bn).f (b * 6 + 2) h2; have q3 := ((bG.keep On).keep Bn).c (b * 6 + 3) h3; have p3 := ((bG.keep On).keep Bn).f (b * 6 + 3) h3; have q4 := ((bG.keep On).keep Bn).c (b * 6 + 4) h4; have p4 := ((bG.keep On).keep Bn).f (b * 6 + 4) h4; have q5 := ((bG.keep On).keep Bn).c (b * 6 + 5) h5; have p5 := ((bG.keep On).keep Bn).f (b * 6 + 5) h5
 go_simp
 refine hK.out _ _ ⟨((((((bPD.1.keep Bn).far (o := b * 6) hgT.symm).far (o := b * 6 + 1) hgT.symm).far (o := b * 6 + 2) hgT.symm).far (o := b * 6 + 3) hgT.symm).far (o := b * 6 + 4) hgT.symm).far (o := b * 6 + 5) hgT.symm, ((((((bPD.2.keep Bn).far (o := b * 6) hgl.symm).far (o := b * 6 + 1) hgl.symm).far (o := b * 6 + 2) hgl.symm).far (o := b * 6 + 3) hgl.symm).far (o := b * 6 + 4) hgl.symm).far (o := b * 6 + 5) hgl.symm⟩ (fun hHeld => ?_); clear hK K hHeld q0 q1 q2 q3 q4 q5 p0 p1 p2 p3 p4 p5
 try simp only [Act.put, setIfInBounds_toArray, set_cons_succ, set_cons_zero]
 refine wpAnyH_done (by kernel_rfl) ?_ _; obtain ⟨Wn, hWn⟩ : ∃ W, W = ((((((wn).setCell ⟨g, b * 6, none⟩ (.int .i64 yb.an)).setCell ⟨g, b * 6 + 1, none⟩ (.slice n1 Zn.own.length n2)).setCell ⟨g, b * 6 + 2, none⟩ (.int .i64 yb.bw)).setCell ⟨g, b * 6 + 3, none⟩ (.bool yb.dr)).setCell ⟨g, b * 6 + 4, none⟩ (.slice n3 Zn.rib.length n4)).setCell ⟨g, b * 6 + 5, none⟩ (.slice n5 Zn.sent.length n6) := ⟨_, rfl⟩; have hzn : wn.heap.size = Wn.heap.size := by rw [hWn]; simp
 have son := On.size; have sbn := Bn.size; have agn : ∀ S : Nat → Prop, ¬ S g → AgrS S Wm Wn := fun S hg => by rw [hWn]; exact ((((((AgrS.of_below (below_step On Bn)).trans (agr_setS (o := b * 6) (u := .int .i64 yb.an) _ hg)).trans (agr_setS (o := b * 6 + 1) (u := .slice n1 Zn.own.length n2) _ hg)).trans (agr_setS (o := b * 6 + 2) (u := .int .i64 yb.bw) _ hg)).trans (agr_setS (o := b * 6 + 3) (u := .bool yb.dr) _ hg)).trans (agr_setS (o := b * 6 + 4) (u := .slice n3 Zn.rib.length n4) _ hg)).trans (agr_setS (o := b * 6 + 5) (u := .slice n5 Zn.sent.length n6) _ hg)
 have awn : AgrS (fun b => b ≠ g) wn Wn := by rw [hWn]; exact ((((((AgrS.of_below (Below.refl _ _)).trans (agr_setS (o := b * 6) (u := .int .i64 yb.an) _ (fun h => h rfl))).trans (agr_setS (o := b * 6 + 1) (u := .slice n1 Zn.own.length n2) _ (fun h => h rfl))).trans (agr_setS (o := b * 6 + 2) (u := .int .i64 yb.bw) _ (fun h => h rfl))).trans (agr_setS (o := b * 6 + 3) (u := .bool yb.dr) _ (fun h => h rfl))).trans (agr_setS (o := b * 6 + 4) (u := .slice n3 Zn.rib.length n4) _ (fun h => h rfl))).trans (agr_setS (o := b * 6 + 5) (u := .slice n5 Zn.sent.length n6) _ (fun h => h rfl))
 have bGn := (((((((bG.keep On).keep Bn).set (b * 6) (.int .i64 yb.an)).set (b * 6 + 1) (.slice n1 Zn.own.length n2)).set (b * 6 + 2) (.int .i64 yb.bw)).set (b * 6 + 3) (.bool yb.dr)).set (b * 6 + 4) (.slice n3 Zn.rib.length n4)).set (b * 6 + 5) (.slice n5 Zn.sent.length n6); have bTn := (((((((bT.keep On).keep Bn).far (o := b * 6) (u := .int .i64 yb.an) hgT.symm).far (o := b * 6 + 1) (u := .slice n1 Zn.own.length n2) hgT.symm).far (o := b * 6 + 2) (u := .int .i64 yb.bw) hgT.symm).far (o := b * 6 + 3) (u := .bool yb.dr) hgT.symm).far (o := b * 6 + 4) (u := .slice n3 Zn.rib.length n4) hgT.symm).far (o := b * 6 + 5) (u := .slice n5 Zn.sent.length n6) hgT.symm; have bLn := (((((((bL.keep On).keep Bn).far (o := b * 6) (u := .int .i64 yb.an) hgl.symm).far (o := b * 6 + 1) (u := .slice n1 Zn.own.length n2) hgl.symm).far (o := b * 6 + 2) (u := .int .i64 yb.bw) hgl.symm).far (o := b * 6 + 3) (u := .bool yb.dr) hgl.symm).far (o := b * 6 + 4) (u := .slice n3 Zn.rib.length n4) hgl.symm).far (o := b * 6 + 5) (u := .slice n5 Zn.sent.length n6) hgl.symm; have Qn := (((((((below_up (below_up B0 On (by have := bG.lt; omega)) Bn (by have := bG.lt; have := On.size; omega))).setCell (p := ⟨g, b * 6, none⟩) hbg (.int .i64 yb.an)).setCell (p := ⟨g, b * 6 + 1, none⟩) hbg (.slice n1 Zn.own.length n2)).setCell (p := ⟨g, b * 6 + 2, none⟩) hbg (.int .i64 yb.bw)).setCell (p := ⟨g, b * 6 + 3, none⟩) hbg (.bool yb.dr)).setCell (p := ⟨g, b * 6 + 4, none⟩) hbg (.slice n3 Zn.rib.length n4)).setCell (p := ⟨g, b * 6 + 5, none⟩) hbg (.slice n5 Zn.sent.length n6); rw [← hWn] at bGn bTn bLn Qn ⊢; clear hWn
 have Pn : PN Wn g _ (_root_.List.set _ b (lostN yb y.bi)) := PN.put (ov := .slice n1 Zn.own.length n2) (rv := .slice n3 Zn.rib.length n4) (sv := .slice n5 Zn.sent.length n6) Pm (agn _ (fun h => h rfl)) bGn (by simpa using Pm.2.1) (by simpa using hin)
  (fun w2 a2 => by rw [HLEn.out, ← HZn.out]; exact hrn w2 ((awn.trans a2).sub fun b9 q e => by rcases q with q | q; exact (hE b hin).2.1 (e ▸ q); have := bG.lt; have := On.size; omega))
  (fun i hi hij f hf => by rw [List.getElem?_set_ne (by omega)]; rw [List.getElem?_set_ne (by omega)]; rw [List.getElem?_set_ne (by omega)]; rw [List.getElem?_set_ne (by omega)]; rw [List.getElem?_set_ne (by omega)]; rw [List.getElem?_set_ne (by omega)])
  (by rw [HLEn.out]; exact ⟨by rw [List.getElem?_set_ne (by omega)]; rw [List.getElem?_set_ne (by omega)]; rw [List.getElem?_set_ne (by omega)]; rw [List.getElem?_set_ne (by omega)]; rw [List.getElem?_set_ne (by omega)]; rw [List.getElem?_set_self (by first | omega | (simp only [List.length_set]; omega))], by rw [List.getElem?_set_ne (by omega)]; rw [List.getElem?_set_ne (by omega)]; rw [List.getElem?_set_ne (by omega)]; rw [List.getElem?_set_ne (by omega)]; rw [List.getElem?_set_self (by first | omega | (simp only [List.length_set]; omega))], by rw [List.getElem?_set_ne (by omega)]; rw [List.getElem?_set_ne (by omega)]; rw [List.getElem?_set_ne (by omega)]; rw [List.getElem?_set_self (by first | omega | (simp only [List.length_set]; omega))], by rw [List.getElem?_set_ne (by omega)]; rw [List.getElem?_set_ne (by omega)]; rw [List.getElem?_set_self (by first | omega | (simp only [List.length_set]; omega))], by rw [List.getElem?_set_ne (by omega)]; rw [List.getElem?_set_self (by first | omega | (simp only [List.length_set]; omega))], by  rw [List.getElem?_set_self (by first | omega | (simp only [List.length_set]; omega))]⟩)
 have oLn := oLm.agr (agn _ (fun q => hj g gS q)); clear agn awn hrn bG bGn bL bLn bPD hob; go_wp2
 first | go_end0 | refine bodyPost_ret (results_none rfl _ _ _) rfl ?_
 have hN9 : ndLost (ndLost x.nodes y.a y.ai) y.b y.bi = (x.nodes.set a (lostN ya y.ai)).set b (lostN yb y.bi) := by
  unfold ndLost; rw [HYAB.out.1, HYAB.out.2, Int.toNat_natCast, Int.toNat_natCast]; have e : (x.nodes.set a (lostN (x.nodes.getD a n0) y.ai)).getD b n0 = x.nodes.getD b n0 := by simp [List.getD, List.getElem?_set, HAB.out]
  rw [e, ← HQ.out.1, ← HQ.out.2]
 rw [← hN9] at Pn
 exact ⟨rfl, _, Pn, oLn, bTn, Qn⟩
end Go.Proofs.YtkodnipmogdgkaaGreat
namespace Go.Proofs.YtkodnipmogdgkaaGreat
open Go.ChangeShapes Go.WideShapes Go.ChangeAt Go.RowKit Go.BigFrame Go.Joins
set_option linter.unusedVariables false
set_option maxRecDepth 100000
set_option linter.unusedSimpArgs false
set_option maxRecDepth 100000

theorem owF_mono {w : World} {S S' : Nat → Prop} {nv lv : Value} {x : Fb} (h : OwF w S nv lv x) (hs : ∀ b, S b → S' b) : OwF w S' nv lv x := by
 obtain ⟨S0, S1, s0, s1, h⟩ := h
 exact ⟨S0, S1, fun b q => hs b (s0 b q), fun b q => hs b (s1 b q), h⟩
set_option maxHeartbeats 4000000 in
theorem sturn_any (nv lv : Value) (x : Fb) (j : Int) (up : Bool) (w : World) (h : RdF w nv lv x) (hw : wtF x ≤ 1048576) :
  Calls Tryz.prog 15 #[.agg #[nv, lv, .int .i64 x.width], .int .i64 j, .bool up] w fun e w' => ∃ nv lv, e = .returned (.tuple #[.agg #[nv, lv, .int .i64 (turnF x j up).width], .bool (okL x j)]) ∧ OwF w' (Rg w.heap.size w'.heap.size) nv lv (turnF x j up) ∧ Below w.heap.size w w' := by
 obtain ⟨na, nc, rfl⟩ := h.1.len; obtain ⟨la, lc, rfl⟩ := h.2.len; obtain ⟨bA, bR, B1, z⟩ := two w [.slice na x.nodes.length nc, .slice la x.links.length lc, .int .i64 x.width] [.slice none 0 0, .slice none 0 0, .int .i64 0] 30 30; have hR := h.keep B1; have a0 := bA.c 0 rfl; have a1 := bA.c 1 rfl; have a2 := bA.c 2 rfl; obtain ⟨Y, hY⟩ : ∃ Y, Y = turnF x j up := ⟨_, rfl⟩; obtain ⟨ok, hO⟩ : ∃ b, b = okL x j := ⟨_, rfl⟩; rw [← hY, ← hO]
 go_enter Tryz.func15, Tryz.ntmps15
 go_wp2_with fail; clear a0 a1 a2; obtain ⟨V, hV⟩ : ∃ V, V = (w.alloc (.cells #[.slice na x.nodes.length nc, .slice la x.links.length lc, .int .i64 x.width] 30)).alloc (.cells #[.slice none 0 0, .slice none 0 0, .int .i64 0] 30) := ⟨_, rfl⟩; rw [← hV] at bA bR B1 z hR ⊢; obtain ⟨A, hA⟩ : ∃ A, A = w.heap.size := ⟨_, rfl⟩; obtain ⟨R, hRR⟩ : ∃ R, R = w.heap.size + 1 := ⟨_, rfl⟩; rw [← hA] at bA; rw [← hRR] at bR
 try rw [← hRR]
 try rw [← hA]
 have hwR : w.heap.size ≤ R := by omega
 have hRV : R < V.heap.size := by omega
 have hwV : w.heap.size ≤ V.heap.size := by omega
 clear hV hA hRR z; refine (sfok_any _ _ x V hR hw).mono ?_; rintro e w1 ⟨rfl, hb⟩; replace bA := bA.keep hb; replace bR := bR.keep hb; replace hR := hR.keep hb; have hs1 := hb.size; replace B1 := below_step B1 hb; clear hb h; have HSF := fsB_eq x; cases hfs : fsB x
 ·have hok : okL x j = false := by unfold okL; rw [← HSF, hfs]; rfl
  have e : turnF x j up = fb0 := by unfold turnF; rw [if_neg (by rw [hok]; simp)]
  replace hY := hY.trans e; replace hO := hO.trans hok; subst hY hO; clear hok e; have a0 := bA.c 0 rfl; have a1 := bA.c 1 rfl; have r0 := bR.c 0 rfl; have r1 := bR.c 1 rfl; have r2 := bR.c 2 rfl; have rf0 := bR.f 0 rfl; have rf1 := bR.f 1 rfl; have rf2 := bR.f 2 rfl; go_wp2_with fail; have bE := ((bR.set 0 (.slice none 0 0)).set 1 (.slice none 0 0)).set 2 (.int .i64 0); have e0 := bE.c 0 rfl; have e1 := bE.c 1 rfl; have e2 := bE.c 2 rfl
  exact bodyPost_ret (v := .tuple #[.agg #[.slice none 0 0, .slice none 0 0, .int .i64 0], .bool false]) (by simp [results, Tryz.results15, go_sem, e0, e1, e2]) rfl
   ⟨_, _, rfl, owF0 _ _, ((B1.setCell (p := ⟨R, 0, none⟩) hwR _).setCell (p := ⟨R, 1, none⟩) hwR _).setCell (p := ⟨R, 2, none⟩) hwR _⟩
 ·by_cases hneg : j < 0
  ·have hok : okL x j = false := by unfold okL inB; simp; omega
   have e : turnF x j up = fb0 := by unfold turnF; rw [if_neg (by rw [hok]; simp)]
   replace hY := hY.trans e; replace hO := hO.trans hok; subst hY hO; clear hok e; have a0 := bA.c 0 rfl; have a1 := bA.c 1 rfl; have r0 := bR.c 0 rfl; have r1 := bR.c 1 rfl; have r2 := bR.c 2 rfl; have rf0 := bR.f 0 rfl; have rf1 := bR.f 1 rfl; have rf2 := bR.f 2 rfl; go_wp2_with fail; have bE := ((bR.set 0 (.slice none 0 0)).set 1 (.slice none 0 0)).set 2 (.int .i64 0); have e0 := bE.c 0 rfl; have e1 := bE.c 1 rfl; have e2 := bE.c 2 rfl
   exact bodyPost_ret (v := .tuple #[.agg #[.slice none 0 0, .slice none 0 0, .int .i64 0], .bool false]) (by simp [results, Tryz.results15, go_sem, e0, e1, e2]) rfl
    ⟨_, _, rfl, owF0 _ _, ((B1.setCell (p := ⟨R, 0, none⟩) hwR _).setCell (p := ⟨R, 1, none⟩) hwR _).setCell (p := ⟨R, 2, none⟩) hwR _⟩
  ·by_cases hbig : (x.links.length : Int) ≤ j
   ·have hok : okL x j = false := by unfold okL inB; simp; omega
    have e : turnF x j up = fb0 := by unfold turnF; rw [if_neg (by rw [hok]; simp)]
    replace hY := hY.trans e; replace hO := hO.trans hok; subst hY hO; clear hok e; have hbig' : j ≥ (x.links.length : Int) := hbig; have a0 := bA.c 0 rfl; have a1 := bA.c 1 rfl; have r0 := bR.c 0 rfl; have r1 := bR.c 1 rfl; have r2 := bR.c 2 rfl; have rf0 := bR.f 0 rfl; have rf1 := bR.f 1 rfl; have rf2 := bR.f 2 rfl; go_wp2_with fail; have bE := ((bR.set 0 (.slice none 0 0)).set 1 (.slice none 0 0)).set 2 (.int .i64 0); have e0 := bE.c 0 rfl; have e1 := bE.c 1 rfl; have e2 := bE.c 2 rfl
    exact bodyPost_ret (v := .tuple #[.agg #[.slice none 0 0, .slice none 0 0, .int .i64 0], .bool false]) (by simp [results, Tryz.results15, go_sem, e0, e1, e2]) rfl
     ⟨_, _, rfl, owF0 _ _, ((B1.setCell (p := ⟨R, 0, none⟩) hwR _).setCell (p := ⟨R, 1, none⟩) hwR _).setCell (p := ⟨R, 2, none⟩) hwR _⟩
   ·obtain ⟨k, rfl⟩ : ∃ k : Nat, j = k := ⟨j.toNat, by omega⟩
    have hk : k < x.links.length := by omega
    have hkI : (k : Int) < (x.links.length : Int) := by omega
    have hfb : fbB x = true := HSF ▸ hfs; have hok : okL x k = true := by unfold okL inB; rw [← HSF, hfs]; simp; omega
    obtain ⟨y, hy⟩ : ∃ y, x.links.getD k l0 = y := ⟨_, rfl⟩; obtain ⟨a, b, hv⟩ := lk_ok hfb hk; rw [hy] at hv; have hnd : ∀ i, i < x.nodes.length → ndB (x.nodes.getD i n0) = true := fun i hi => nd_ok hfb hi
    have eT : turnF x k up = (if y.up = up then x else ⟨ndLost (ndLost x.nodes y.a y.ai) y.b y.bi, x.links.set k ⟨y.a, y.ai, y.b, y.bi, up, [], []⟩, x.width⟩) := by
     unfold turnF; rw [if_pos hok, Int.toNat_natCast, hy]
    have hwT : wtF (turnF x k up) ≤ 1048576 := Nat.le_trans (turn_wt x k up) hw; replace hO := hO.trans hok; subst hO; have HOK := Lib.hid hok; have hnb : ¬ (x.links.length : Int) ≤ (k : Int) := hbig; have a0 := bA.c 0 rfl; have a1 := bA.c 1 rfl; have a2 := bA.c 2 rfl; have HYY := Lib.hid hY; have HET := Lib.hid eT; have HND := Lib.hid hnd; have HHY := Lib.hid hy; clear hok HSF hfs hfb hY eT hnd; go_wp2_with fail; clear a0 a1 a2; refine (sfcopy_any _ _ x w1 hR hw).mono ?_; rintro e w2 ⟨nv2, lv2, rfl, hF, hb⟩; obtain ⟨S0, S1, s0, s1, dj, oN, oL⟩ := hF; have hRd : RdF w2 nv2 lv2 x := ⟨oN.rd, oL.rd⟩; obtain ⟨hll, ⟨rfl, hnil⟩ | ⟨gl, lcap, xl, El, rfl, lS, bL, hxll, hEl, hdl⟩⟩ := oL
    ·rw [hnil] at hk; simp at hk
    have an' := hv.an; obtain ⟨hl, ⟨rfl, hnil⟩ | ⟨g, cap, xs, E, rfl, gS, bG, hxl, hE, hd⟩⟩ := oN
    ·rw [hnil] at an'; simp at an'
    clear an'; replace bR := bR.keep hb; have hs2 := hb.size; replace B1 := below_step B1 hb; clear hb hR bA; have hgr := s0 _ gS; have hlr := s1 _ lS; have hEk := (hEl k hk).2.2; rw [hy] at hEk; obtain ⟨av, bv, hol, e0, e1, e2, e3, e4, e5, e6⟩ := hEk; obtain ⟨bT, N1, z3⟩ := one w2 [.slice (some ⟨g, 0, none⟩) x.nodes.length cap, .slice (some ⟨gl, 0, none⟩) x.links.length lcap, .int .i64 x.width] 30; go_wp2_with fail; obtain ⟨T, hT⟩ : ∃ T, T = w2.heap.size := ⟨_, rfl⟩; obtain ⟨V3, hV3⟩ : ∃ V3, V3 = w2.alloc (.cells #[.slice (some ⟨g, 0, none⟩) x.nodes.length cap, .slice (some ⟨gl, 0, none⟩) x.links.length lcap, .int .i64 x.width] 30) := ⟨_, rfl⟩; rw [← hV3] at bT N1 z3 ⊢; rw [← hT] at bT z3
    try rw [← hT]
    have hT2 : w2.heap.size ≤ T := by omega
    clear hV3 hT; have bG3 := bG.keep N1; have bL3 := bL.keep N1; have bR3 := bR.keep N1; have hRd3 := hRd.keep N1; have B3 := below_step B1 N1; have lR := bR.lt; clear bG bL bR hRd
    have key : Calls Tryz.prog 42 #[.pointer (some ⟨T, 0, none⟩), .int .i64 k, .bool up] V3 fun e w4 => e = .returned (.tuple #[]) ∧ RdF w4 (.slice (some ⟨g, 0, none⟩) x.nodes.length cap) (.slice (some ⟨gl, 0, none⟩) x.links.length lcap) Y ∧ Y.width = x.width ∧ Bl w4 T [.slice (some ⟨g, 0, none⟩) x.nodes.length cap, .slice (some ⟨gl, 0, none⟩) x.links.length lcap, .int .i64 x.width] ∧ Bl w4 R [.slice none 0 0, .slice none 0 0, .int .i64 0] ∧ Below w.heap.size V3 w4 := by
     by_cases hup : y.up = up
     ·have hYx : Y = x := by rw [HYY.out, HET.out, if_pos hup]
      subst hYx; refine (sl9turn_same T gl lcap k _ _ _ xl up V3 bT bL3 hk (hup ▸ e4)).mono ?_; rintro e w4 ⟨rfl, rfl⟩
      exact ⟨rfl, hRd3, rfl, bT, bR3, Below.refl _ _⟩
     ·have hYx := HYY.out.trans HET.out
      rw [if_neg hup] at hYx; refine (sl9turn_any T g cap gl lcap k a b (R + 1) up x y xs xl S0 S1 E El V3 bT gS bG3 hxl (fun i hi => ⟨(hE i hi).1, (hE i hi).2.1, (hE i hi).2.2.agr (.of_below N1)⟩) lS bL3 hxll (fun i hi => ⟨(hEl i hi).1, (hEl i hi).2.1, (hEl i hi).2.2.agr (.of_below N1)⟩) hdl hll dj (fun q => by have := (s0 _ q).2; omega) (fun q => by have := (s1 _ q).2; omega) (by omega) (by have := hgr.1; omega) (by have := hlr.1; omega) HHY.out hk hv hup HND.out (by unfold wtF at hw; omega)).mono ?_; rintro e w4 ⟨rfl, xs', hP, hL4, hT4, hB4⟩; refine ⟨rfl, ⟨?_, ?_⟩, by rw [hYx], hT4, bl_low bR3 hB4 (by omega), below_low hB4 (by omega)⟩
      ·have := hP.rd (cap := cap) (by rw [ndLost_len, ndLost_len]; exact hl)
       rw [ndLost_len, ndLost_len] at this; rw [hYx]
       exact this
      ·have := hL4.rd
       rw [hYx]
       exact this
    refine key.mono ?_; rintro e w4 ⟨rfl, hRd4, hYw, bT4, bR4, hB4⟩; have B4 := B3.trans hB4; have hs4 := hB4.size; clear key hE hEl hd hdl hol e0 e1 e2 e3 e4 e5 e6 bG3 bL3 bR3 bT hRd3 B3 hB4 B1; have t0 := bT4.c 0 rfl; have t1 := bT4.c 1 rfl; have t2 := bT4.c 2 rfl; have r0 := bR4.c 0 rfl; have r1 := bR4.c 1 rfl; have r2 := bR4.c 2 rfl; go_wp2_with fail; rw [← hYw]; clear hYw; have hwY : wtF Y ≤ 1048576 := by rw [HYY.out]; exact hwT
    refine (sfcopy_any _ _ Y w4 hRd4 hwY).mono ?_; rintro e w5 ⟨nv5, lv5, rfl, hF5, hb⟩; obtain ⟨n1, n2, rfl⟩ := hF5.rd.1.len; obtain ⟨m1, m2, rfl⟩ := hF5.rd.2.len; replace bR4 := bR4.keep hb; have B5 := below_step B4 hb; have hs5 := hb.size; clear hb bT4 t0 t1 t2 r0 r1 r2; have r0 := bR4.c 0 rfl; have r1 := bR4.c 1 rfl; have r2 := bR4.c 2 rfl; have rf0 := bR4.f 0 rfl; have rf1 := bR4.f 1 rfl; have rf2 := bR4.f 2 rfl; go_wp2_with fail; have bE := ((bR4.set 0 (.slice n1 Y.nodes.length n2)).set 1 (.slice m1 Y.links.length m2)).set 2 (.int .i64 Y.width); have e0 := bE.c 0 rfl; have e1 := bE.c 1 rfl; have e2 := bE.c 2 rfl; have hF6 := ((hF5.agr (agr_setS (g := R) (o := 0) (u := .slice n1 Y.nodes.length n2) _ (fun q => by have := q.1; omega))).agr (agr_setS (g := R) (o := 1) (u := .slice m1 Y.links.length m2) _ (fun q => by have := q.1; omega))).agr (agr_setS (g := R) (o := 2) (u := .int .i64 Y.width) _ (fun q => by have := q.1; omega))
    exact bodyPost_ret (v := .tuple #[.agg #[.slice n1 Y.nodes.length n2, .slice m1 Y.links.length m2, .int .i64 Y.width], .bool true]) (by simp [results, Tryz.results15, go_sem, e0, e1, e2]) rfl
     ⟨_, _, rfl, owF_mono hF6 (fun b q => ⟨by have := q.1; omega, by have := q.2; simp; omega⟩), ((B5.setCell (p := ⟨R, 0, none⟩) hwR _).setCell (p := ⟨R, 1, none⟩) hwR _).setCell (p := ⟨R, 2, none⟩) hwR _⟩
end Go.Proofs.YtkodnipmogdgkaaGreat
namespace Go.Proofs.YtkodnipmogdgkaaGreat
open Go.ChangeShapes Go.WideShapes Go.ChangeAt Go.RowKit Go.BigFrame Go.Joins
set_option linter.unusedVariables false
set_option maxRecDepth 100000
set_option linter.unusedSimpArgs false
set_option maxRecDepth 100000

def nds (x : Fb) (y : Lk) : Nat → List Nd
 | 0 => x.nodes
 | 1 => ndLost x.nodes y.a y.ai
 | _ => ndLost (ndLost x.nodes y.a y.ai) y.b y.bi
theorem nds_len (x : Fb) (y : Lk) (n : Nat) : (nds x y n).length = x.nodes.length := by
 unfold nds
 split <;> simp [ndLost_len]
theorem nds_wt (x : Fb) (y : Lk) (n : Nat) : wtNS (nds x y n) ≤ wtNS x.nodes := by
 unfold nds
 split
 ·exact Nat.le_refl _
 ·exact ndLost_wt _ _ _
 ·exact Nat.le_trans (ndLost_wt _ _ _) (ndLost_wt _ _ _)
def xls (xl : List Value) (k : Nat) (up : Bool) : Nat → List Value
 | 0 => xl.set (k * 7 + 4) (.bool up)
 | 1 => (xl.set (k * 7 + 4) (.bool up)).set (k * 7 + 5) (.slice none 0 0)
 | _ => ((xl.set (k * 7 + 4) (.bool up)).set (k * 7 + 5) (.slice none 0 0)).set (k * 7 + 6) (.slice none 0 0)
/-- the blocks of S0, and those from lo on below hi -/
def OS (S0 : Nat → Prop) (lo hi b : Nat) : Prop := S0 b ∨ (lo ≤ b ∧ b < hi)
theorem bl_mid {S : Nat → Prop} {B : Nat} {w w' : World} {xs : List Value} (h : Bl w B xs) (s : MidS S w w') (hn : ¬ S B) : Bl w' B xs := s.bl h hn
theorem ihasL_any (nv lv : Value) (x : Fb) (node : Int) (w : World) (h : RdF w nv lv x) (hw : wtF x ≤ 1048576) :
  Calls Tryz.prog 43 #[.agg #[nv, lv, .int .i64 x.width], .int .i64 node] w fun e w' => e = .returned (.bool (okL x node)) ∧ Below w.heap.size w w' := by
 have hn1 : x.nodes.length ≤ 1048576 ∧ x.links.length ≤ 1048576 := by unfold wtF at hw; omega
 obtain ⟨na, nc, rfl⟩ := h.1.len; obtain ⟨la, lc, rfl⟩ := h.2.len; obtain ⟨bA, B1, z⟩ := one w [.slice na x.nodes.length nc, .slice la x.links.length lc, .int .i64 x.width] 30; have hR := h.keep B1; have a0 := bA.c 0 rfl; have a1 := bA.c 1 rfl; have a2 := bA.c 2 rfl; obtain ⟨ok, hO⟩ : ∃ b, b = okL x node := ⟨_, rfl⟩; rw [← hO]
 go_enter Tryz.func43, Tryz.ntmps43
 go_wp2_with fail; clear a0 a1 a2 z; refine (ifok_any _ _ x _ hR hn1.1 hn1.2).mono ?_; rintro e w1 ⟨rfl, hb⟩; replace bA := bA.keep hb; replace B1 := below_step B1 hb; clear hb hR h; unfold okL at hO; cases hf : fbB x
 ·rw [hf, Bool.false_and] at hO
  subst hO; go_wp2_with fail
  go_ret
  exact ⟨rfl, B1⟩
 ·rw [hf, Bool.true_and] at hO
  have a1 := bA.c 1 rfl; have hw1 : IntKind.i64.wrap ((x.links.length : Int) - 1) = (x.links.length : Int) - 1 := wrap64_in _ (by omega) (by omega); go_wp2_with fail; refine (within_any node 0 ((x.links.length : Int) - 1) w1).mono ?_; rintro e w2 ⟨rfl, rfl⟩; subst hO; go_wp2_with fail
  go_ret
  exact ⟨rfl, B1⟩
set_option maxHeartbeats 4000000 in
theorem iturn_any (nv lv : Value) (x : Fb) (j : Int) (up : Bool) (w : World) (h : RdF w nv lv x) (hw : wtF x ≤ 1048576) :
  Calls Tryz.prog 16 #[.agg #[nv, lv, .int .i64 x.width], .int .i64 j, .bool up] w fun e w' => ∃ nv lv, e = .returned (.tuple #[.agg #[nv, lv, .int .i64 (turnF x j up).width], .bool (okL x j)]) ∧ OwF w' (Rg w.heap.size w'.heap.size) nv lv (turnF x j up) ∧ Below w.heap.size w w' := by
 obtain ⟨na, nc, rfl⟩ := h.1.len; obtain ⟨la, lc, rfl⟩ := h.2.len; obtain ⟨bA, bR, B1, z⟩ := two w [.slice na x.nodes.length nc, .slice la x.links.length lc, .int .i64 x.width] [.slice none 0 0, .slice none 0 0, .int .i64 0] 30 30; have hR := h.keep B1; have a0 := bA.c 0 rfl; have a1 := bA.c 1 rfl; have a2 := bA.c 2 rfl; obtain ⟨Y, hY⟩ : ∃ Y, Y = turnF x j up := ⟨_, rfl⟩; obtain ⟨ok, hO⟩ : ∃ b, b = okL x j := ⟨_, rfl⟩; rw [← hY, ← hO]
 go_enter Tryz.func16, Tryz.ntmps16
 go_wp2_with fail; clear a0 a1 a2; obtain ⟨V, hV⟩ : ∃ V, V = (w.alloc (.cells #[.slice na x.nodes.length nc, .slice la x.links.length lc, .int .i64 x.width] 30)).alloc (.cells #[.slice none 0 0, .slice none 0 0, .int .i64 0] 30) := ⟨_, rfl⟩; rw [← hV] at bA bR B1 z hR ⊢; obtain ⟨A, hA⟩ : ∃ A, A = w.heap.size := ⟨_, rfl⟩; obtain ⟨R, hRR⟩ : ∃ R, R = w.heap.size + 1 := ⟨_, rfl⟩; rw [← hA] at bA; rw [← hRR] at bR
 try rw [← hRR]
 try rw [← hA]
 have hwR : w.heap.size ≤ R := by omega
 have hRV : R < V.heap.size := by omega
 have hwV : w.heap.size ≤ V.heap.size := by omega
 clear hV hA hRR z; refine (ihasL_any _ _ x j V hR hw).mono ?_; rintro e w1 ⟨rfl, hb⟩; replace bA := bA.keep hb; replace bR := bR.keep hb; replace hR := hR.keep hb; have hs1 := hb.size; replace B1 := below_step B1 hb; clear hb h; cases hok : okL x j
 ·have e : turnF x j up = fb0 := by unfold turnF; rw [if_neg (by rw [hok]; simp)]
  replace hY := hY.trans e; replace hO := hO.trans hok; subst hY hO; clear e; have r0 := bR.c 0 rfl; have r1 := bR.c 1 rfl; have r2 := bR.c 2 rfl; have rf0 := bR.f 0 rfl; have rf1 := bR.f 1 rfl; have rf2 := bR.f 2 rfl; go_wp2_with fail; have bE := ((bR.set 0 (.slice none 0 0)).set 1 (.slice none 0 0)).set 2 (.int .i64 0); have e0 := bE.c 0 rfl; have e1 := bE.c 1 rfl; have e2 := bE.c 2 rfl
  exact bodyPost_ret (v := .tuple #[.agg #[.slice none 0 0, .slice none 0 0, .int .i64 0], .bool false]) (by simp [results, Tryz.results16, go_sem, e0, e1, e2]) rfl
   ⟨_, _, rfl, owF0 _ _, ((B1.setCell (p := ⟨R, 0, none⟩) hwR _).setCell (p := ⟨R, 1, none⟩) hwR _).setCell (p := ⟨R, 2, none⟩) hwR _⟩
 ·have hin : fbB x = true ∧ 0 ≤ j ∧ j < (x.links.length : Int) := by
   have := hok; unfold okL inB at this
   simp at this
   exact ⟨this.1, by omega, by omega⟩
  obtain ⟨k, rfl⟩ : ∃ k : Nat, j = k := ⟨j.toNat, by omega⟩; have hk : k < x.links.length := by omega
  have hkI : (k : Int) < (x.links.length : Int) := by omega
  have hfb := hin.1; obtain ⟨y, hy⟩ : ∃ y, x.links.getD k l0 = y := ⟨_, rfl⟩; obtain ⟨a, b, hv⟩ := lk_ok hfb hk; rw [hy] at hv; have hnd : ∀ i, i < x.nodes.length → ndB (x.nodes.getD i n0) = true := fun i hi => nd_ok hfb hi
  have eT : turnF x k up = (if y.up = up then x else ⟨ndLost (ndLost x.nodes y.a y.ai) y.b y.bi, x.links.set k ⟨y.a, y.ai, y.b, y.bi, up, [], []⟩, x.width⟩) := by
   unfold turnF; rw [if_pos hok, Int.toNat_natCast, hy]
  replace hO := hO.trans hok; subst hO; have a0 := bA.c 0 rfl; have a1 := bA.c 1 rfl; have a2 := bA.c 2 rfl; have HYY := Lib.hid hY; have HET := Lib.hid eT; clear hok hfb hY eT hnd hin; go_wp2_with fail; clear a0 a1 a2; refine (ifcopy_any _ _ x w1 hR hw).mono ?_; rintro e w2 ⟨nv2, lv2, rfl, hF, hb⟩; obtain ⟨S0, S1, s0, s1, dj, oN, oL⟩ := hF; have hRd : RdF w2 nv2 lv2 x := ⟨oN.rd, oL.rd⟩; obtain ⟨hll, ⟨rfl, hnil⟩ | ⟨gl, lcap, xl, El, rfl, lS, bL, hxll, hEl, hdl⟩⟩ := oL
  ·rw [hnil] at hk; simp at hk
  have an' := hv.an; obtain ⟨hl, ⟨rfl, hnil⟩ | ⟨g, cap, xs, E, rfl, gS, bG, hxl, hE, hd⟩⟩ := oN
  ·rw [hnil] at an'; simp at an'
  clear an'; replace bR := bR.keep hb; have hs2 := hb.size; replace B1 := below_step B1 hb; clear hb hR bA; have hgr := s0 _ gS; have hlr := s1 _ lS; have hEk := (hEl k hk).2.2; rw [hy] at hEk; obtain ⟨av, bv, hol, e0, e1, e2, e3, e4, e5, e6⟩ := hEk; obtain ⟨bT, N1, z3⟩ := one w2 [.slice (some ⟨g, 0, none⟩) x.nodes.length cap, .slice (some ⟨gl, 0, none⟩) x.links.length lcap, .int .i64 x.width] 30
  by_cases hup : y.up = up
  ·have hYx : Y = x := by rw [HYY.out, HET.out, if_pos hup]
   subst hYx; have oN3 : OwNS w2 S0 (.slice (some ⟨g, 0, none⟩) Y.nodes.length cap) Y.nodes := ⟨hl, .inr ⟨g, cap, xs, E, rfl, gS, bG, hxl, hE, hd⟩⟩; have oL3 : OwLS w2 S1 (.slice (some ⟨gl, 0, none⟩) Y.links.length lcap) Y.links := ⟨hll, .inr ⟨gl, lcap, xl, El, rfl, lS, bL, hxll, hEl, hdl⟩⟩; replace oN3 := oN3.agr (.of_below N1); replace oL3 := oL3.agr (.of_below N1); have q4 := (bL.keep N1).c _ e4; have bR3 := bR.keep N1; have B3 := below_step B1 N1; clear hE hEl hd hdl bG bL hol e0 e1 e2 e3 e4 e5 e6 hRd bR; have hup2 : up = y.up := hup.symm; clear hup; subst hup2; have hbb : (y.up == y.up) = true := by simp
   have t0 := bT.c 0 rfl; have t1 := bT.c 1 rfl; have t2 := bT.c 2 rfl; have r0 := bR3.c 0 rfl; have rf0 := bR3.f 0 rfl; have r1 := bR3.c 1 rfl; have rf1 := bR3.f 1 rfl; have r2 := bR3.c 2 rfl; have rf2 := bR3.f 2 rfl; go_wp2_with fail; have bE := ((bR3.set 0 (.slice (some ⟨g, 0, none⟩) Y.nodes.length cap)).set 1 (.slice (some ⟨gl, 0, none⟩) Y.links.length lcap)).set 2 (.int .i64 Y.width); have nS0 : ¬ S0 R := fun q => by have := (s0 _ q).1; omega
   have nS1 : ¬ S1 R := fun q => by have := (s1 _ q).1; omega
   have e0 := bE.c 0 rfl; have e1 := bE.c 1 rfl; have e2 := bE.c 2 rfl
   exact bodyPost_ret (v := .tuple #[.agg #[.slice (some ⟨g, 0, none⟩) Y.nodes.length cap, .slice (some ⟨gl, 0, none⟩) Y.links.length lcap, .int .i64 Y.width], .bool true]) (by simp [results, Tryz.results16, go_sem, e0, e1, e2]) rfl
    ⟨_, _, rfl, ⟨S0, S1, fun b q => ⟨by have := (s0 b q).1; omega, by have := (s0 b q).2; simp; omega⟩, fun b q => ⟨by have := (s1 b q).1; omega, by have := (s1 b q).2; simp; omega⟩, dj, ((oN3.agr (agr_setS (g := R) (o := 0) (u := .slice (some ⟨g, 0, none⟩) Y.nodes.length cap) _ nS0)).agr (agr_setS (g := R) (o := 1) (u := .slice (some ⟨gl, 0, none⟩) Y.links.length lcap) _ nS0)).agr (agr_setS (g := R) (o := 2) (u := .int .i64 Y.width) _ nS0), ((oL3.agr (agr_setS (g := R) (o := 0) (u := .slice (some ⟨g, 0, none⟩) Y.nodes.length cap) _ nS1)).agr (agr_setS (g := R) (o := 1) (u := .slice (some ⟨gl, 0, none⟩) Y.links.length lcap) _ nS1)).agr (agr_setS (g := R) (o := 2) (u := .int .i64 Y.width) _ nS1)⟩, ((B3.setCell (p := ⟨R, 0, none⟩) hwR _).setCell (p := ⟨R, 1, none⟩) hwR _).setCell (p := ⟨R, 2, none⟩) hwR _⟩
  ·have hYx := HYY.out.trans HET.out
   rw [if_neg hup] at hYx; obtain ⟨hya, hyb, an, bn, hab, hai, hbi⟩ := hv; have oN3 : OwNS w2 S0 (.slice (some ⟨g, 0, none⟩) x.nodes.length cap) x.nodes := ⟨hl, .inr ⟨g, cap, xs, E, rfl, gS, bG, hxl, hE, hd⟩⟩; have hgT : gl ≠ w2.heap.size := by have := hlr.2; omega
   have hgR : gl ≠ R := by have := hlr.1; omega
   have hglS : ¬ S0 gl := fun q => dj gl q lS
   have hbb : (y.up == up) = false := by simp [hup]
   have hol3 := hol.rd; obtain ⟨i1, j1, rfl⟩ := hol3.1.len; obtain ⟨i2, j2, rfl⟩ := hol3.2.len; have q4 := (bL.keep N1).c _ e4; have p4 := (bL.keep N1).f _ e4; have t1 := bT.c 1 rfl; go_wp2_with fail; clear t1 q4 p4 hbb; have bL4 := (bL.keep N1).set (k * 7 + 4) (.bool up); have bT4 := bT.far (o := k * 7 + 4) (u := .bool up) hgT.symm; have bR4 := (bR.keep N1).far (o := k * 7 + 4) (u := .bool up) hgR.symm; have oN4 := (oN3.agr (.of_below N1)).agr (agr_setS (o := k * 7 + 4) (u := .bool up) _ hglS); have ol4 := (hol.agr (.of_below N1)).agr (agr_setS (o := k * 7 + 4) (u := .bool up) _ (hEl k hk).2.1); have B4 := (below_step B1 N1).setCell (p := ⟨gl, k * 7 + 4, none⟩) (by show _ ≤ gl; have := hlr.1; omega) (.bool up); have ag4 : ∀ S : Nat → Prop, ¬ S gl → AgrS S w2 ((w2.alloc (.cells #[.slice (some ⟨g, 0, none⟩) x.nodes.length cap, .slice (some ⟨gl, 0, none⟩) x.links.length lcap, .int .i64 x.width] 30)).setCell ⟨gl, k * 7 + 4, none⟩ (.bool up)) := fun S h => (AgrS.of_below N1).trans (agr_setS _ h)
   obtain ⟨T, hT⟩ : ∃ T, T = w2.heap.size := ⟨_, rfl⟩; obtain ⟨V4, hV4⟩ : ∃ V4, V4 = (w2.alloc (.cells #[.slice (some ⟨g, 0, none⟩) x.nodes.length cap, .slice (some ⟨gl, 0, none⟩) x.links.length lcap, .int .i64 x.width] 30)).setCell ⟨gl, k * 7 + 4, none⟩ (.bool up) := ⟨_, rfl⟩; have hz4 : V4.heap.size = w2.heap.size + 1 := by rw [hV4]; simp
   rw [← hV4] at bL4 bT4 bR4 oN4 ol4 B4 ag4 ⊢; rw [← hT] at bT4
   try rw [← hT]
   have hTg : T ≠ g := by have := hgr.2; omega
   have hTl : T ≠ gl := by have := hlr.2; omega
   clear hT; have f4 : ∀ q, q < 7 → q ≠ 4 → (xl.set (k * 7 + 4) (.bool up))[k * 7 + q]? = xl[k * 7 + q]? := fun q _ h => List.getElem?_set_ne (by omega)
   have hAt : AtL V4 gl (k * 7) ⟨y.a, y.ai, y.b, y.bi, up, y.ab, y.ba⟩ := ⟨_, _, ol4.rd, bL4.c _ ((f4 0 (by omega) (by omega)).trans e0), bL4.c _ ((f4 1 (by omega) (by omega)).trans e1), bL4.c _ ((f4 2 (by omega) (by omega)).trans e2), bL4.c _ ((f4 3 (by omega) (by omega)).trans e3), bL4.c _ (by rw [List.getElem?_set_self (by omega)]), bL4.c _ ((f4 5 (by omega) (by omega)).trans e5), bL4.c _ ((f4 6 (by omega) (by omega)).trans e6)⟩; clear hV4 bL bT bR oN3 hol hol3 ol4 f4 hE hd bG hRd N1 z3; refine (lways_any gl (k * 7) _ V4 hAt).mono ?_; rintro e w5 ⟨rfl, hb⟩; replace bL4 := bL4.keep hb; replace bT4 := bT4.keep hb; replace bR4 := bR4.keep hb; replace oN4 := oN4.agr (.of_below hb); replace B4 := below_step B4 hb; have ag5 : ∀ S : Nat → Prop, ¬ S gl → AgrS S w2 w5 := fun S h => (ag4 S h).trans (.of_below hb)
   have hV5 := hb.size; have hS0w : ∀ b, S0 b → b < V4.heap.size := fun b q => by have := (s0 b q).2; omega
   have hSgl : ∀ n, ¬ OS S0 V4.heap.size n gl := fun n q => q.elim hglS (fun q => by have := q.1; have := hlr.2; omega)
   have HEL : Hid ((∀ i, i < x.links.length → ∀ b, El i b → S1 b) ∧ ∀ i, i < x.links.length → ¬ El i gl) := Lib.hid ⟨fun i hi => (hEl i hi).1, fun i hi => (hEl i hi).2.1⟩; have HEE := Lib.hid hEl; have HDL := Lib.hid hdl; have hj : ∀ b, S1 b → b ≠ g := fun b q e => dj g gS (e ▸ q)
   have HWT : Hid (wtNS x.nodes ≤ 1048576) := Lib.hid (by unfold wtF at hw; omega); have HAG := Lib.hid ag5; have HE0 := Lib.hid e0; have HE1 := Lib.hid e1; have HE2 := Lib.hid e2; have HE3 := Lib.hid e3; rw [hya] at hAt; clear hb hAt hEl hdl ag4 ag5 e0 e1 e2 e3 e4; subst hYx; go_wp2_with fail
   go_loopw [36] (fun i wr => ∃ jn : Nat, jn ≤ 2 ∧ i = .int .i64 jn ∧ OwNS wr (OS S0 V4.heap.size wr.heap.size) (.slice (some ⟨g, 0, none⟩) x.nodes.length cap) (nds x y jn) ∧ Bl wr gl (xls xl k up jn) ∧ Bl wr T [.slice (some ⟨g, 0, none⟩) x.nodes.length cap, .slice (some ⟨gl, 0, none⟩) x.links.length lcap, .int .i64 x.width] ∧ Bl wr R [.slice none 0 0, .slice none 0 0, .int .i64 0] ∧ (∀ i, i < x.links.length → AgrS (El i) w5 wr) ∧ Below w.heap.size w wr ∧ V4.heap.size ≤ wr.heap.size) (fun i _ => 2 - (intOf i).toNat)
   case atStart => exact ⟨0, by omega, rfl, oN4.mono (fun b q => .inl q), bL4, bT4, bR4, fun i hi => ⟨Nat.le_refl _, fun _ _ _ => rfl⟩, B4, hV5⟩
   case round =>
    obtain ⟨jn, hjn, rfl, oN1, bL1, bT1, bR1, ag1, B1r, hVr⟩ := hrel
    by_cases hlt : jn < 2
    ·obtain rfl | rfl : jn = 0 ∨ jn = 1 := by omega
     ·skip
      have hix : ∀ w : World, (Instr.index 76 (.agg #[.int .i64 a, .int .i64 y.ai, .int .i64 b, .int .i64 y.bi, .bool up, .pointer (some ⟨gl, k * 7 + 5, none⟩), .int .i64 b, .int .i64 y.bi, .int .i64 a, .int .i64 y.ai, .bool up, .pointer (some ⟨gl, k * 7 + 6, none⟩)]) (.int .i64 0)).run Tryz.prog w = .ok (.agg #[.int .i64 a, .int .i64 y.ai, .int .i64 b, .int .i64 y.bi, .bool up, .pointer (some ⟨gl, k * 7 + 5, none⟩)]) w := fun _ => by first | rfl | kernel_rfl | simp [Instr.index]
      obtain ⟨bW, NW, zW⟩ := one wr [.int .i64 a, .int .i64 y.ai, .int .i64 b, .int .i64 y.bi, .bool up, .pointer (some ⟨gl, k * 7 + 5, none⟩)] 75; have t0 := (bT1.keep NW).c 0 rfl; have t1 := (bT1.keep NW).c 1 rfl; have t2 := (bT1.keep NW).c 2 rfl; go_wp2_with fail; obtain ⟨wq, hwq⟩ : ∃ wq, wq = wr.alloc (.cells #[.int .i64 a, .int .i64 y.ai, .int .i64 b, .int .i64 y.bi, .bool up, .pointer (some ⟨gl, k * 7 + 5, none⟩)] 75) := ⟨_, rfl⟩; rw [← hwq] at bW NW zW ⊢; clear hwq t0 t1 t2; have hzq := NW.size; refine (ilose_any g cap x.nodes.length gl (k * 7 + 5) a _ _ y.ai _ _ up _ (.slice i1 y.ab.length j1) (OS S0 V4.heap.size wr.heap.size) (nds x y 0) wq (nds_len x y 0) ?_ (fun q => hSgl _ q) (fun b q => Nat.lt_of_lt_of_le (q.elim (fun q => Nat.lt_of_lt_of_le (hS0w b q) hVr) (fun q => q.2)) hzq) (by exact an) (Nat.le_trans (nds_wt x y 0) HWT.out) (bL1.keep NW) ?_).mono ?_
      ·exact oN1.agr (.of_below NW)
      ·simp only [xls]; rw [List.getElem?_set_ne (by omega)]; exact e5
      rintro e w6 ⟨rfl, oN6, bL6, M6⟩; have hs6 := M6.size; have B6 : Below (R + 1) wq w6 := M6.below (by omega) (fun b9 q => by have := hgr.1; have := hlr.1; rcases q with e | e <;> omega)
      have oN7 : OwNS w6 (fun b => OS S0 V4.heap.size wr.heap.size b ∨ Rg wq.heap.size w6.heap.size b) (.slice (some ⟨g, 0, none⟩) x.nodes.length cap) (nds x y 1) := by
       show OwNS _ _ _ (ndLost (nds x y 0) y.a y.ai)
       rw [hya]
       exact oN6
      go_wp2_with fail
      go_roundw
      case rel =>
       refine ⟨1, by omega, by go_num, oN7.mono (fun b q => ?_), ?_, bl_mid (bT1.keep NW) M6 (fun q => q.elim hTg hTl), bl_low (bR1.keep NW) B6 (by omega), fun i hi => ((ag1 i hi).trans (.of_below NW)).trans (M6.agr (fun b q r => by rcases r with r | r; exact hj b (HEL.out.1 i hi b q) r; exact HEL.out.2 i hi (r ▸ q))), (below_step B1r NW).trans (below_low B6 (by omega)), by omega⟩
       ·rcases q with (q | q) | q
        ·exact .inl q
        ·exact .inr ⟨q.1, by omega⟩
        ·exact .inr ⟨by have := q.1; omega, q.2⟩
       ·exact bL6
      case measure => simp [intOf]
     ·skip
      have hix : ∀ w : World, (Instr.index 76 (.agg #[.int .i64 a, .int .i64 y.ai, .int .i64 b, .int .i64 y.bi, .bool up, .pointer (some ⟨gl, k * 7 + 5, none⟩), .int .i64 b, .int .i64 y.bi, .int .i64 a, .int .i64 y.ai, .bool up, .pointer (some ⟨gl, k * 7 + 6, none⟩)]) (.int .i64 1)).run Tryz.prog w = .ok (.agg #[.int .i64 b, .int .i64 y.bi, .int .i64 a, .int .i64 y.ai, .bool up, .pointer (some ⟨gl, k * 7 + 6, none⟩)]) w := fun _ => by first | rfl | kernel_rfl | simp [Instr.index]
      obtain ⟨bW, NW, zW⟩ := one wr [.int .i64 b, .int .i64 y.bi, .int .i64 a, .int .i64 y.ai, .bool up, .pointer (some ⟨gl, k * 7 + 6, none⟩)] 75; have t0 := (bT1.keep NW).c 0 rfl; have t1 := (bT1.keep NW).c 1 rfl; have t2 := (bT1.keep NW).c 2 rfl; go_wp2_with fail; obtain ⟨wq, hwq⟩ : ∃ wq, wq = wr.alloc (.cells #[.int .i64 b, .int .i64 y.bi, .int .i64 a, .int .i64 y.ai, .bool up, .pointer (some ⟨gl, k * 7 + 6, none⟩)] 75) := ⟨_, rfl⟩; rw [← hwq] at bW NW zW ⊢; clear hwq t0 t1 t2; have hzq := NW.size; refine (ilose_any g cap x.nodes.length gl (k * 7 + 6) b _ _ y.bi _ _ up _ (.slice i2 y.ba.length j2) (OS S0 V4.heap.size wr.heap.size) (nds x y 1) wq (nds_len x y 1) ?_ (fun q => hSgl _ q) (fun b q => Nat.lt_of_lt_of_le (q.elim (fun q => Nat.lt_of_lt_of_le (hS0w b q) hVr) (fun q => q.2)) hzq) (by exact bn) (Nat.le_trans (nds_wt x y 1) HWT.out) (bL1.keep NW) ?_).mono ?_
      ·exact oN1.agr (.of_below NW)
      ·simp only [xls]; rw [List.getElem?_set_ne (by omega), List.getElem?_set_ne (by omega)]; exact e6
      rintro e w6 ⟨rfl, oN6, bL6, M6⟩; have hs6 := M6.size; have B6 : Below (R + 1) wq w6 := M6.below (by omega) (fun b9 q => by have := hgr.1; have := hlr.1; rcases q with e | e <;> omega)
      have oN7 : OwNS w6 (fun b => OS S0 V4.heap.size wr.heap.size b ∨ Rg wq.heap.size w6.heap.size b) (.slice (some ⟨g, 0, none⟩) x.nodes.length cap) (nds x y 2) := by
       show OwNS _ _ _ (ndLost (nds x y 1) y.b y.bi)
       rw [hyb]
       exact oN6
      go_wp2_with fail
      go_roundw
      case rel =>
       refine ⟨2, by omega, by go_num, oN7.mono (fun b q => ?_), ?_, bl_mid (bT1.keep NW) M6 (fun q => q.elim hTg hTl), bl_low (bR1.keep NW) B6 (by omega), fun i hi => ((ag1 i hi).trans (.of_below NW)).trans (M6.agr (fun b q r => by rcases r with r | r; exact hj b (HEL.out.1 i hi b q) r; exact HEL.out.2 i hi (r ▸ q))), (below_step B1r NW).trans (below_low B6 (by omega)), by omega⟩
       ·rcases q with (q | q) | q
        ·exact .inl q
        ·exact .inr ⟨q.1, by omega⟩
        ·exact .inr ⟨by have := q.1; omega, q.2⟩
       ·exact bL6
      case measure => simp [intOf]
    ·obtain rfl : jn = 2 := by omega
     have hs5 := (HAG.out (fun _ => False) (fun q => q)).1
     have oLr : OwLS wr S1 (.slice (some ⟨gl, 0, none⟩) x.links.length lcap) (x.links.set k ⟨y.a, y.ai, y.b, y.bi, up, [], []⟩) := OwLS.put hll lS bL1 (by simp only [xls, List.length_set]; exact hxll) HEE.out HDL.out hk
      (fun i hi hij f hf => by simp only [xls]; rw [List.getElem?_set_ne (by omega), List.getElem?_set_ne (by omega), List.getElem?_set_ne (by omega)]) (fun i hi => (HAG.out _ (HEL.out.2 i hi)).trans (ag1 i hi))
      ⟨_, _, ⟨fun _ => False, fun _ => False, fun _ q => q.elim, fun _ q => q.elim, fun _ q _ => q.elim, owMS0 _ _, owMS0 _ _⟩, by simp only [xls]; rw [List.getElem?_set_ne (by omega), List.getElem?_set_ne (by omega), List.getElem?_set_ne (by omega)]; exact HE0.out, by simp only [xls]; rw [List.getElem?_set_ne (by omega), List.getElem?_set_ne (by omega), List.getElem?_set_ne (by omega)]; exact HE1.out, by simp only [xls]; rw [List.getElem?_set_ne (by omega), List.getElem?_set_ne (by omega), List.getElem?_set_ne (by omega)]; exact HE2.out, by simp only [xls]; rw [List.getElem?_set_ne (by omega), List.getElem?_set_ne (by omega), List.getElem?_set_ne (by omega)]; exact HE3.out, by simp only [xls]; rw [List.getElem?_set_ne (by omega), List.getElem?_set_ne (by omega), List.getElem?_set_self (by omega)], by simp only [xls]; rw [List.getElem?_set_ne (by omega), List.getElem?_set_self (by simp only [List.length_set]; omega)], by simp only [xls]; rw [List.getElem?_set_self (by simp only [List.length_set]; omega)]⟩
     clear ag1; have oNr : OwNS wr (OS S0 V4.heap.size wr.heap.size) (.slice (some ⟨g, 0, none⟩) x.nodes.length cap) (ndLost (ndLost x.nodes y.a y.ai) y.b y.bi) := oN1; rw [hya, hyb] at oNr oLr; have t0 := bT1.c 0 rfl; have t1 := bT1.c 1 rfl; have t2 := bT1.c 2 rfl; have r0 := bR1.c 0 rfl; have rf0 := bR1.f 0 rfl; have r1 := bR1.c 1 rfl; have rf1 := bR1.f 1 rfl; have r2 := bR1.c 2 rfl; have rf2 := bR1.f 2 rfl; go_wp2_with fail; have bE := ((bR1.set 0 (.slice (some ⟨g, 0, none⟩) x.nodes.length cap)).set 1 (.slice (some ⟨gl, 0, none⟩) x.links.length lcap)).set 2 (.int .i64 x.width); have nS0 : ¬ OS S0 V4.heap.size wr.heap.size R := fun q => q.elim (fun q => by have := (s0 _ q).1; omega) (fun q => by have := q.1; omega)
     have nS1 : ¬ S1 R := fun q => by have := (s1 _ q).1; omega
     have e0 := bE.c 0 rfl; have e1 := bE.c 1 rfl; have e2 := bE.c 2 rfl
     exact bodyPost_ret (v := .tuple #[.agg #[.slice (some ⟨g, 0, none⟩) x.nodes.length cap, .slice (some ⟨gl, 0, none⟩) x.links.length lcap, .int .i64 x.width], .bool true]) (by simp [results, Tryz.results16, go_sem, e0, e1, e2]) rfl
      ⟨_, _, rfl, ⟨OS S0 V4.heap.size wr.heap.size, S1, fun b q => ⟨by rcases q with q | q; (have := (s0 b q).1; omega); (have := q.1; omega), by rcases q with q | q; (have := (s0 b q).2; simp; omega); (have := q.2; simp; omega)⟩, fun b q => ⟨by have := (s1 b q).1; omega, by have := (s1 b q).2; simp; omega⟩, fun b q r => by rcases q with q | q; (exact dj b q r); (have := q.1; have := (s1 b r).2; omega), ((oNr.agr (agr_setS (g := R) (o := 0) (u := .slice (some ⟨g, 0, none⟩) x.nodes.length cap) _ nS0)).agr (agr_setS (g := R) (o := 1) (u := .slice (some ⟨gl, 0, none⟩) x.links.length lcap) _ nS0)).agr (agr_setS (g := R) (o := 2) (u := .int .i64 x.width) _ nS0), ((oLr.agr (agr_setS (g := R) (o := 0) (u := .slice (some ⟨g, 0, none⟩) x.nodes.length cap) _ nS1)).agr (agr_setS (g := R) (o := 1) (u := .slice (some ⟨gl, 0, none⟩) x.links.length lcap) _ nS1)).agr (agr_setS (g := R) (o := 2) (u := .int .i64 x.width) _ nS1)⟩, ((B1r.setCell (p := ⟨R, 0, none⟩) hwR _).setCell (p := ⟨R, 1, none⟩) hwR _).setCell (p := ⟨R, 2, none⟩) hwR _⟩
end Go.Proofs.YtkodnipmogdgkaaGreat
namespace Go.Proofs.YtkodnipmogdgkaaGreat
open Go.ChangeShapes Go.WideShapes Go.ChangeAt Go.RowKit Go.BigFrame Go.Joins
set_option linter.unusedVariables false
set_option maxRecDepth 100000
set_option linter.unusedSimpArgs false
set_option maxRecDepth 100000

theorem turn_cnt (x : Fb) (j : Int) (up : Bool) (h : wtF x ≤ 1048576) : cntF (turnF x j up) ≤ 12000000 := cntF_le _ (Nat.le_trans (turn_wt x j up) h)
end Go.Proofs.YtkodnipmogdgkaaGreat
