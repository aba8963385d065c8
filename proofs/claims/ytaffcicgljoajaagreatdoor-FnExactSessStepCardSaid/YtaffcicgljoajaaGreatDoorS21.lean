/-
  SessStep of the model and of the program. Conditions: those in each contract.
-/
import Derived.Test.YtaffcicgljoajaaGreatDoorS7
import Derived.Test.YtaffcicgljoajaaGreatDoorS20
namespace Go.Proofs.YtaffcicgljoajaaGreatDoor
open Go.ChangeShapes Go.WideShapes Go.ChangeAt Go.RowKit Go.BigFrame Go.Joins
set_option linter.unusedVariables false
set_option maxRecDepth 100000
set_option linter.unusedSimpArgs false

theorem sSs_h {sa ix ho pe st hd he ke pr : Int} {b : Bool} (w : World) (H : Hid (sesB sa ix ho pe st hd he ke pr = b)) : Calls Tryz.prog 8 #[.agg #[.int .i64 sa, .int .i64 ix, .int .i64 ho, .int .i64 pe], .agg #[.int .i64 st, .int .i64 hd, .int .i64 he, .int .i64 ke, .int .i64 pr]] w fun e w' => e = .returned (.bool b) ∧ Below w.heap.size w w' := H.out ▸ sSs_any sa ix ho pe st hd he ke pr w
theorem iSs_h {sa ix ho pe st hd he ke pr : Int} {b : Bool} (w : World) (H : Hid (sesB sa ix ho pe st hd he ke pr = b)) : Calls Tryz.prog 11 #[.agg #[.int .i64 sa, .int .i64 ix, .int .i64 ho, .int .i64 pe], .agg #[.int .i64 st, .int .i64 hd, .int .i64 he, .int .i64 ke, .int .i64 pr]] w fun e w' => e = .returned (.bool b) ∧ Below w.heap.size w w' := H.out ▸ iSs_any sa ix ho pe st hd he ke pr w
/-- what SessStep answers -/
def ssF (xa xi xh xp s0 s1 s2 s3 s4 : Int) (gs cs : List (Int × Int)) (ps ms : List Int) (ek ee kn sa ho ix pr bw er : Int) : St :=
  if sesB xa xi xh xp s0 s1 s2 s3 s4 = true ∧ evB gs cs ps ms ek ee kn sa ho ix pr bw er = true then stepF xa xi xh s0 s1 s2 s3 s4 ek ee kn sa ho (l4B xa xi xp kn sa ix) else ⟨0, 0, 0, 0, 0, []⟩
theorem ses_facts {xa xi xh xp s0 s1 s2 s3 s4 : Int} (h : sesB xa xi xh xp s0 s1 s2 s3 s4 = true) : (3 ≤ xh ∧ xh ≤ 255) ∧ (0 ≤ s0 ∧ s0 ≤ 4) ∧ (2 ≤ s0 → 3 ≤ s1 ∧ s1 ≤ 255 ∧ 0 ≤ s2 ∧ s2 < s1) ∧ (3 ≤ s0 → 1 ≤ s3 ∧ s3 ≤ 255) := by
  unfold sesB at h
  simp only [decide_eq_true_eq] at h
  obtain ⟨hc, a, b, -, d⟩ := h
  have q := cokB_ho hc
  refine ⟨q, ⟨a, b⟩, fun h2 => ?_, fun h3 => ?_⟩
  · obtain ⟨e1, e2, e3, e4, -, -⟩ := d h2
    omega
  · obtain ⟨e1, e2, e3, e4, -, e6⟩ := d (by omega)
    obtain ⟨f1, f2, -, -⟩ := e6 (by omega)
    omega
theorem ev_facts {gs cs : List (Int × Int)} {ps ms : List Int} {ek ee kn sa ho ix pr bw er : Int} (h : evB gs cs ps ms ek ee kn sa ho ix pr bw er = true) : (0 ≤ ek ∧ ek ≤ 6) ∧ (ek = 6 → ee ≠ 0 ∧ 1 ≤ ee ∧ ee ≤ 6) ∧ (ek = 4 → mokB gs cs ps ms kn sa ho ix pr bw er = true) ∧ (¬ ek = 4 → kn = 0) := by
  unfold evB at h
  simp only [decide_eq_true_eq] at h
  obtain ⟨a, b, c, d, e, f⟩ := h
  refine ⟨⟨a, b⟩, fun q => by have := c q; omega, e, fun q => ?_⟩
  have := f q
  unfold zM at this
  simp only [decide_eq_true_eq] at this
  exact this.1
theorem ev_open {gs cs : List (Int × Int)} {ps ms : List Int} {ek ee kn sa ho ix pr bw er : Int} (h : evB gs cs ps ms ek ee kn sa ho ix pr bw er = true) (hk : kn = 1) : 3 ≤ ho ∧ ho ≤ 255 := by
  obtain ⟨-, -, h4, h0⟩ := ev_facts h
  by_cases hq : ek = 4
  · have := h4 hq
    subst hk
    have := (mok_1.mp this).1.2.1
    unfold inB at this
    simpa using this
  · have := h0 hq
    omega
set_option maxHeartbeats 4000000 in
theorem sSS_any (xa xi xh xp s0 s1 s2 s3 s4 : Int) (ga ca pa ma : Option Addr) (gx cx px mx : Nat) (gs cs : List (Int × Int)) (ps ms : List Int) (ek ee kn sa ho ix pr bw er : Int) (w : World) (hg : RdP w (.slice ga gs.length gx) gs) (hc : RdP w (.slice ca cs.length cx) cs) (hp : RdI w (.slice pa ps.length px) ps) (hm : RdI w (.slice ma ms.length mx) ms) (hgl : gs.length ≤ 1048576) (hcl : cs.length ≤ 1048576) (hpl : ps.length ≤ 1048576) (hml : ms.length ≤ 1048576) : Calls Tryz.prog 16 #[.agg #[.int .i64 xa, .int .i64 xi, .int .i64 xh, .int .i64 xp], .agg #[.int .i64 s0, .int .i64 s1, .int .i64 s2, .int .i64 s3, .int .i64 s4], .agg #[.int .i64 ek, .int .i64 kn, .int .i64 sa, .int .i64 ho, .int .i64 ix, .slice ga gs.length gx, .slice ca cs.length cx, .slice pa ps.length px, .int .i64 pr, .slice ma ms.length mx, .int .i64 bw, .int .i64 er, .int .i64 ee]] w (StR (ssF xa xi xh xp s0 s1 s2 s3 s4 gs cs ps ms ek ee kn sa ho ix pr bw er) w) := by
  have HZR : (ssF xa xi xh xp s0 s1 s2 s3 s4 gs cs ps ms ek ee kn sa ho ix pr bw er) = (ssF xa xi xh xp s0 s1 s2 s3 s4 gs cs ps ms ek ee kn sa ho ix pr bw er) := rfl
  clear HZR
  have bR : Bl ((((w.alloc (.cells #[.int .i64 xa, .int .i64 xi, .int .i64 xh, .int .i64 xp] 24)).alloc (.cells #[.int .i64 s0, .int .i64 s1, .int .i64 s2, .int .i64 s3, .int .i64 s4] 26)).alloc (.cells #[.int .i64 ek, .int .i64 kn, .int .i64 sa, .int .i64 ho, .int .i64 ix, .slice ga gs.length gx, .slice ca cs.length cx, .slice pa ps.length px, .int .i64 pr, .slice ma ms.length mx, .int .i64 bw, .int .i64 er, .int .i64 ee] 34)).alloc (.cells #[.int .i64 0, .int .i64 0, .int .i64 0, .int .i64 0, .int .i64 0] 26)) (w.heap.size + 1 + 1 + 1) [.int .i64 0, .int .i64 0, .int .i64 0, .int .i64 0, .int .i64 0] := Bl.new (((w.alloc (.cells #[.int .i64 xa, .int .i64 xi, .int .i64 xh, .int .i64 xp] 24)).alloc (.cells #[.int .i64 s0, .int .i64 s1, .int .i64 s2, .int .i64 s3, .int .i64 s4] 26)).alloc (.cells #[.int .i64 ek, .int .i64 kn, .int .i64 sa, .int .i64 ho, .int .i64 ix, .slice ga gs.length gx, .slice ca cs.length cx, .slice pa ps.length px, .int .i64 pr, .slice ma ms.length mx, .int .i64 bw, .int .i64 er, .int .i64 ee] 34)) [.int .i64 0, .int .i64 0, .int .i64 0, .int .i64 0, .int .i64 0] 26 (w.heap.size + 1 + 1 + 1) (by simp)
  have B0 : Below w.heap.size w ((((w.alloc (.cells #[.int .i64 xa, .int .i64 xi, .int .i64 xh, .int .i64 xp] 24)).alloc (.cells #[.int .i64 s0, .int .i64 s1, .int .i64 s2, .int .i64 s3, .int .i64 s4] 26)).alloc (.cells #[.int .i64 ek, .int .i64 kn, .int .i64 sa, .int .i64 ho, .int .i64 ix, .slice ga gs.length gx, .slice ca cs.length cx, .slice pa ps.length px, .int .i64 pr, .slice ma ms.length mx, .int .i64 bw, .int .i64 er, .int .i64 ee] 34)).alloc (.cells #[.int .i64 0, .int .i64 0, .int .i64 0, .int .i64 0, .int .i64 0] 26)) := (by repeat' (first | exact Below.refl _ _ | (refine Below.setCell ?_ (by simp <;> omega) _) | (refine Below.alloc ?_ (by simp <;> omega) _) | (refine Below.drew ?_)))
  have hz : ((((w.alloc (.cells #[.int .i64 xa, .int .i64 xi, .int .i64 xh, .int .i64 xp] 24)).alloc (.cells #[.int .i64 s0, .int .i64 s1, .int .i64 s2, .int .i64 s3, .int .i64 s4] 26)).alloc (.cells #[.int .i64 ek, .int .i64 kn, .int .i64 sa, .int .i64 ho, .int .i64 ix, .slice ga gs.length gx, .slice ca cs.length cx, .slice pa ps.length px, .int .i64 pr, .slice ma ms.length mx, .int .i64 bw, .int .i64 er, .int .i64 ee] 34)).alloc (.cells #[.int .i64 0, .int .i64 0, .int .i64 0, .int .i64 0, .int .i64 0] 26)).heap.size = w.heap.size + 1 + 1 + 1 + 1 := by simp
  have bC : Bl ((((w.alloc (.cells #[.int .i64 xa, .int .i64 xi, .int .i64 xh, .int .i64 xp] 24)).alloc (.cells #[.int .i64 s0, .int .i64 s1, .int .i64 s2, .int .i64 s3, .int .i64 s4] 26)).alloc (.cells #[.int .i64 ek, .int .i64 kn, .int .i64 sa, .int .i64 ho, .int .i64 ix, .slice ga gs.length gx, .slice ca cs.length cx, .slice pa ps.length px, .int .i64 pr, .slice ma ms.length mx, .int .i64 bw, .int .i64 er, .int .i64 ee] 34)).alloc (.cells #[.int .i64 0, .int .i64 0, .int .i64 0, .int .i64 0, .int .i64 0] 26)) (w.heap.size) [.int .i64 xa, .int .i64 xi, .int .i64 xh, .int .i64 xp] := (((Bl.new w [.int .i64 xa, .int .i64 xi, .int .i64 xh, .int .i64 xp] 24 (w.heap.size) (by simp)).alloc _).alloc _).alloc _
  have bS : Bl ((((w.alloc (.cells #[.int .i64 xa, .int .i64 xi, .int .i64 xh, .int .i64 xp] 24)).alloc (.cells #[.int .i64 s0, .int .i64 s1, .int .i64 s2, .int .i64 s3, .int .i64 s4] 26)).alloc (.cells #[.int .i64 ek, .int .i64 kn, .int .i64 sa, .int .i64 ho, .int .i64 ix, .slice ga gs.length gx, .slice ca cs.length cx, .slice pa ps.length px, .int .i64 pr, .slice ma ms.length mx, .int .i64 bw, .int .i64 er, .int .i64 ee] 34)).alloc (.cells #[.int .i64 0, .int .i64 0, .int .i64 0, .int .i64 0, .int .i64 0] 26)) (w.heap.size + 1) [.int .i64 s0, .int .i64 s1, .int .i64 s2, .int .i64 s3, .int .i64 s4] := ((Bl.new (w.alloc (.cells #[.int .i64 xa, .int .i64 xi, .int .i64 xh, .int .i64 xp] 24)) [.int .i64 s0, .int .i64 s1, .int .i64 s2, .int .i64 s3, .int .i64 s4] 26 (w.heap.size + 1) (by simp)).alloc _).alloc _
  have bE : Bl ((((w.alloc (.cells #[.int .i64 xa, .int .i64 xi, .int .i64 xh, .int .i64 xp] 24)).alloc (.cells #[.int .i64 s0, .int .i64 s1, .int .i64 s2, .int .i64 s3, .int .i64 s4] 26)).alloc (.cells #[.int .i64 ek, .int .i64 kn, .int .i64 sa, .int .i64 ho, .int .i64 ix, .slice ga gs.length gx, .slice ca cs.length cx, .slice pa ps.length px, .int .i64 pr, .slice ma ms.length mx, .int .i64 bw, .int .i64 er, .int .i64 ee] 34)).alloc (.cells #[.int .i64 0, .int .i64 0, .int .i64 0, .int .i64 0, .int .i64 0] 26)) (w.heap.size + 1 + 1) [.int .i64 ek, .int .i64 kn, .int .i64 sa, .int .i64 ho, .int .i64 ix, .slice ga gs.length gx, .slice ca cs.length cx, .slice pa ps.length px, .int .i64 pr, .slice ma ms.length mx, .int .i64 bw, .int .i64 er, .int .i64 ee] := (Bl.new ((w.alloc (.cells #[.int .i64 xa, .int .i64 xi, .int .i64 xh, .int .i64 xp] 24)).alloc (.cells #[.int .i64 s0, .int .i64 s1, .int .i64 s2, .int .i64 s3, .int .i64 s4] 26)) [.int .i64 ek, .int .i64 kn, .int .i64 sa, .int .i64 ho, .int .i64 ix, .slice ga gs.length gx, .slice ca cs.length cx, .slice pa ps.length px, .int .i64 pr, .slice ma ms.length mx, .int .i64 bw, .int .i64 er, .int .i64 ee] 34 (w.heap.size + 1 + 1) (by simp)).alloc _
  replace hg := hg.keep B0
  replace hc := hc.keep B0
  replace hp := hp.keep B0
  replace hm := hm.keep B0
  obtain ⟨tS, hS⟩ : ∃ t, sesB xa xi xh xp s0 s1 s2 s3 s4 = t := ⟨_, rfl⟩
  obtain ⟨tE, hE⟩ : ∃ t, evB gs cs ps ms ek ee kn sa ho ix pr bw er = t := ⟨_, rfl⟩
  have HS := Lib.hid hS
  have HE := Lib.hid hE
  obtain ⟨R, hR⟩ : ∃ R, R = (ssF xa xi xh xp s0 s1 s2 s3 s4 gs cs ps ms ek ee kn sa ho ix pr bw er) := ⟨_, rfl⟩
  rw [← hR]
  unfold ssF at hR
  have HR := Lib.hid hR
  clear hS hE hR
  go_enter Tryz.func16, Tryz.ntmps16
  go_wp2_with fail
  refine (sSs_h _ HS).mono ?_
  rintro e w1 ⟨rfl, hb⟩
  have hz1 := hb.size
  rw [hz] at hz1
  have HZ1 := Lib.hid hz1
  clear hz hz1
  replace bC := bC.keep hb
  replace bS := bS.keep hb
  replace bE := bE.keep hb
  replace bR := bR.keep hb
  replace hg := hg.keep hb
  replace hc := hc.keep hb
  replace hp := hp.keep hb
  replace hm := hm.keep hb
  replace B0 := below_step B0 hb
  clear hb
  cases tS
  · have hR0 : R = ⟨0, 0, 0, 0, 0, []⟩ := HR.out.trans (if_neg (by rw [HS.out, HE.out]; simp))
    subst hR0
    have HZ := HZ1
    obtain ⟨wq, eq⟩ : ∃ wq, wq = w1 := ⟨_, rfl⟩
    rw [← eq] at bR B0 HZ ⊢
    clear eq
    clear bC bS bE hg hc hp hm HR
    have r0 := bR.c 0 rfl
    have r1 := bR.c 1 rfl
    have r2 := bR.c 2 rfl
    have r3 := bR.c 3 rfl
    have r4 := bR.c 4 rfl
    have p0 := bR.f 0 (x := _) rfl
    have p1 := bR.f 1 (x := _) rfl
    have p2 := bR.f 2 (x := _) rfl
    have p3 := bR.f 3 (x := _) rfl
    have p4 := bR.f 4 (x := _) rfl
    go_wp2
    have bR2 := bR.set5 (.int .i64 0) (.int .i64 0) (.int .i64 0) (.int .i64 0) (.int .i64 0)
    have hz1 := HZ.out
    have B2 := below_set5 B0 (B := w.heap.size + 1 + 1 + 1) (by omega) (.int .i64 0) (.int .i64 0) (.int .i64 0) (.int .i64 0) (.int .i64 0)
    clear r0 r1 r2 r3 r4 p0 p1 p2 p3 p4 bR B0
    obtain ⟨W2, hW2⟩ : ∃ W2, W2 = (((((wq.setCell ⟨w.heap.size + 1 + 1 + 1, 0, none⟩ (.int .i64 0)).setCell ⟨w.heap.size + 1 + 1 + 1, 1, none⟩ (.int .i64 0)).setCell ⟨w.heap.size + 1 + 1 + 1, 2, none⟩ (.int .i64 0)).setCell ⟨w.heap.size + 1 + 1 + 1, 3, none⟩ (.int .i64 0)).setCell ⟨w.heap.size + 1 + 1 + 1, 4, none⟩ (.int .i64 0)) := ⟨_, rfl⟩
    rw [← hW2] at bR2 B2 ⊢
    clear hW2
    have r0 := bR2.c 0 rfl
    have r1 := bR2.c 1 rfl
    have r2 := bR2.c 2 rfl
    have r3 := bR2.c 3 rfl
    have r4 := bR2.c 4 rfl
    exact bodyPost_ret (v := .tuple #[.agg #[.int .i64 0, .int .i64 0, .int .i64 0, .int .i64 0, .int .i64 0], .slice none 0 0]) (by simp [results, Tryz.results16, go_sem, r0, r1, r2, r3, r4]) rfl ⟨_, rfl, OwnG.nil _ _, B2⟩
  · have c0 := bC.c 0 rfl
    have c1 := bC.c 1 rfl
    have c2 := bC.c 2 rfl
    have c3 := bC.c 3 rfl
    have g0 := bS.c 0 rfl
    have g1 := bS.c 1 rfl
    have g2 := bS.c 2 rfl
    have g3 := bS.c 3 rfl
    have g4 := bS.c 4 rfl
    have n0 := bE.c 0 rfl
    have n1 := bE.c 1 rfl
    have n2 := bE.c 2 rfl
    have n3 := bE.c 3 rfl
    have n4 := bE.c 4 rfl
    have n5 := bE.c 5 rfl
    have n6 := bE.c 6 rfl
    have n7 := bE.c 7 rfl
    have n8 := bE.c 8 rfl
    have n9 := bE.c 9 rfl
    have n10 := bE.c 10 rfl
    have n11 := bE.c 11 rfl
    have n12 := bE.c 12 rfl
    go_wp2_with fail
    clear c0 c1 c2 c3
    clear g0 g1 g2 g3 g4
    clear n0 n1 n2 n3 n4 n5 n6 n7 n8 n9 n10 n11 n12
    refine (sEv_t _ hg hc hp hm hgl hcl hpl hml HE).mono ?_
    rintro e w2 ⟨rfl, hb⟩
    have HZ2 := Lib.hid (Nat.le_trans HZ1.out hb.size)
    replace bC := bC.keep hb
    replace bS := bS.keep hb
    replace bE := bE.keep hb
    replace bR := bR.keep hb
    replace hg := hg.keep hb
    replace hc := hc.keep hb
    replace hp := hp.keep hb
    replace hm := hm.keep hb
    replace B0 := below_step B0 hb
    clear hb
    cases tE
    · have hR0 : R = ⟨0, 0, 0, 0, 0, []⟩ := HR.out.trans (if_neg (by rw [HS.out, HE.out]; simp))
      subst hR0
      have HZ := HZ2
      obtain ⟨wq, eq⟩ : ∃ wq, wq = w2 := ⟨_, rfl⟩
      rw [← eq] at bR B0 HZ ⊢
      clear eq
      clear bC bS bE hg hc hp hm HR
      have r0 := bR.c 0 rfl
      have r1 := bR.c 1 rfl
      have r2 := bR.c 2 rfl
      have r3 := bR.c 3 rfl
      have r4 := bR.c 4 rfl
      have p0 := bR.f 0 (x := _) rfl
      have p1 := bR.f 1 (x := _) rfl
      have p2 := bR.f 2 (x := _) rfl
      have p3 := bR.f 3 (x := _) rfl
      have p4 := bR.f 4 (x := _) rfl
      go_wp2
      have bR2 := bR.set5 (.int .i64 0) (.int .i64 0) (.int .i64 0) (.int .i64 0) (.int .i64 0)
      have hz1 := HZ.out
      have B2 := below_set5 B0 (B := w.heap.size + 1 + 1 + 1) (by omega) (.int .i64 0) (.int .i64 0) (.int .i64 0) (.int .i64 0) (.int .i64 0)
      clear r0 r1 r2 r3 r4 p0 p1 p2 p3 p4 bR B0
      obtain ⟨W2, hW2⟩ : ∃ W2, W2 = (((((wq.setCell ⟨w.heap.size + 1 + 1 + 1, 0, none⟩ (.int .i64 0)).setCell ⟨w.heap.size + 1 + 1 + 1, 1, none⟩ (.int .i64 0)).setCell ⟨w.heap.size + 1 + 1 + 1, 2, none⟩ (.int .i64 0)).setCell ⟨w.heap.size + 1 + 1 + 1, 3, none⟩ (.int .i64 0)).setCell ⟨w.heap.size + 1 + 1 + 1, 4, none⟩ (.int .i64 0)) := ⟨_, rfl⟩
      rw [← hW2] at bR2 B2 ⊢
      clear hW2
      have r0 := bR2.c 0 rfl
      have r1 := bR2.c 1 rfl
      have r2 := bR2.c 2 rfl
      have r3 := bR2.c 3 rfl
      have r4 := bR2.c 4 rfl
      exact bodyPost_ret (v := .tuple #[.agg #[.int .i64 0, .int .i64 0, .int .i64 0, .int .i64 0, .int .i64 0], .slice none 0 0]) (by simp [results, Tryz.results16, go_sem, r0, r1, r2, r3, r4]) rfl ⟨_, rfl, OwnG.nil _ _, B2⟩
    · have FS_ := Lib.hid (ses_facts HS.out)
      have FE_ := Lib.hid (ev_facts HE.out)
      have FO_ := Lib.hid (ev_open HE.out)
      have c0 := bC.c 0 rfl
      have c1 := bC.c 1 rfl
      have c2 := bC.c 2 rfl
      have c3 := bC.c 3 rfl
      have g0 := bS.c 0 rfl
      have g1 := bS.c 1 rfl
      have g2 := bS.c 2 rfl
      have g3 := bS.c 3 rfl
      have g4 := bS.c 4 rfl
      have n0 := bE.c 0 rfl
      have n1 := bE.c 1 rfl
      have n2 := bE.c 2 rfl
      have n3 := bE.c 3 rfl
      have n4 := bE.c 4 rfl
      have n5 := bE.c 5 rfl
      have n6 := bE.c 6 rfl
      have n7 := bE.c 7 rfl
      have n8 := bE.c 8 rfl
      have n9 := bE.c 9 rfl
      have n10 := bE.c 10 rfl
      have n11 := bE.c 11 rfl
      have n12 := bE.c 12 rfl
      go_wp2_with fail
      clear c0 c1 c2 c3
      clear g0 g1 g2 g3 g4
      clear n0 n1 n2 n3 n4 n5 n6 n7 n8 n9 n10 n11 n12
      have hR1 : R = (stepF xa xi xh s0 s1 s2 s3 s4 ek ee kn sa ho (l4B xa xi xp kn sa ix)) := HR.out.trans (if_pos ⟨HS.out, HE.out⟩)
      refine (sstep_any xa xi xh xp s0 s1 s2 s3 s4 ga ca pa ma gx cx px mx gs cs ps ms ek ee kn sa ho ix pr bw er _ (l4B xa xi xp kn sa ix) (fun hk => by subst hk; exact fun w => sl4acc_any xa xi xh xp ga ca pa ma gx cx px mx gs cs ps ms 1 sa ho ix pr bw er w) FS_.out.1 FO_.out FS_.out.2.1 FS_.out.2.2.1 FS_.out.2.2.2 FE_.out.1 (fun q => (FE_.out.2.1 q).1)).mono ?_
      rw [← hR1]
      clear hR1
      rintro e w3 ⟨v, rfl, ho_, hb⟩
      replace bR := bR.keep hb
      replace B0 := below_step B0 hb
      clear hb bC bS bE hg hc hp hm
      have r0 := bR.c 0 rfl
      have s0f := bR.f 0 (x := _) rfl
      have r1 := bR.c 1 rfl
      have s1f := bR.f 1 (x := _) rfl
      have r2 := bR.c 2 rfl
      have s2f := bR.f 2 (x := _) rfl
      have r3 := bR.c 3 rfl
      have s3f := bR.f 3 (x := _) rfl
      have r4 := bR.c 4 rfl
      have s4f := bR.f 4 (x := _) rfl
      go_wp2
      have hz1 := HZ2.out
      have bR2 := bR.set5 (.int .i64 R.a) (.int .i64 R.b) (.int .i64 R.c) (.int .i64 R.d) (.int .i64 R.e)
      have B2 := below_set5 B0 (B := w.heap.size + 1 + 1 + 1) (by omega) (.int .i64 R.a) (.int .i64 R.b) (.int .i64 R.c) (.int .i64 R.d) (.int .i64 R.e)
      have ho2 := (ho_.far5 (B := w.heap.size + 1 + 1 + 1) (by omega) (.int .i64 R.a) (.int .i64 R.b) (.int .i64 R.c) (.int .i64 R.d) (.int .i64 R.e)).mono (base' := w.heap.size) (by omega)
      clear r0 s0f r1 s1f r2 s2f r3 s3f r4 s4f bR B0 ho_
      obtain ⟨W2, hW2⟩ : ∃ W2, W2 = (((((w3.setCell ⟨w.heap.size + 1 + 1 + 1, 0, none⟩ (.int .i64 R.a)).setCell ⟨w.heap.size + 1 + 1 + 1, 1, none⟩ (.int .i64 R.b)).setCell ⟨w.heap.size + 1 + 1 + 1, 2, none⟩ (.int .i64 R.c)).setCell ⟨w.heap.size + 1 + 1 + 1, 3, none⟩ (.int .i64 R.d)).setCell ⟨w.heap.size + 1 + 1 + 1, 4, none⟩ (.int .i64 R.e)) := ⟨_, rfl⟩
      rw [← hW2] at bR2 B2 ho2 ⊢
      clear hW2
      have r0 := bR2.c 0 rfl
      have r1 := bR2.c 1 rfl
      have r2 := bR2.c 2 rfl
      have r3 := bR2.c 3 rfl
      have r4 := bR2.c 4 rfl
      exact bodyPost_ret (v := .tuple #[.agg #[.int .i64 R.a, .int .i64 R.b, .int .i64 R.c, .int .i64 R.d, .int .i64 R.e], v]) (by simp [results, Tryz.results16, go_sem, r0, r1, r2, r3, r4]) rfl ⟨v, rfl, ho2, B2⟩
end Go.Proofs.YtaffcicgljoajaaGreatDoor
