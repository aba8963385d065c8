/-
  SessStep of the model and of the program. Conditions: those in each contract.
  SessStep of the program. Conditions: those in each contract.
-/
import Derived.Test.YtcmbajphholliabDoorS7
import Derived.Test.YtcmbajphholliabDoorS17
import Derived.Test.YtcmbajphholliabDoorS16
namespace Go.Proofs.YtcmbajphholliabDoor
open Go.ChangeShapes Go.WideShapes Go.ChangeAt Go.RowKit Go.BigFrame Go.Joins
set_option linter.unusedVariables false
set_option maxRecDepth 100000
set_option linter.unusedSimpArgs false

theorem iSs_h {sa ix ho pe st hd he ke pr : Int} {b : Bool} (w : World) (H : Hid (sesB sa ix ho pe st hd he ke pr = b)) : Calls Tryd.prog 13 #[.agg #[.int .i64 sa, .int .i64 ix, .int .i64 ho, .int .i64 pe], .agg #[.int .i64 st, .int .i64 hd, .int .i64 he, .int .i64 ke, .int .i64 pr]] w fun e w' => e = .returned (.bool b) ∧ Below w.heap.size w w' := H.out ▸ iSs_any sa ix ho pe st hd he ke pr w
/-- what SessStep answers -/
def ssF (xa xi xh xp s0 s1 s2 s3 s4 : Int) (gs cs : List (Int × Int)) (ps ms : List Int) (ek ee kn sa ho ix pr bw er : Int) : St :=
  if sesB xa xi xh xp s0 s1 s2 s3 s4 = true ∧ evB gs cs ps ms ek ee kn sa ho ix pr bw er = true then stepF xa xi xh s0 s1 s2 s3 s4 ek ee kn sa ho (l4B xa xi xp kn sa ix) else ⟨0, 0, 0, 0, 0, []⟩
theorem ses_facts {xa xi xh xp s0 s1 s2 s3 s4 : Int} (h : sesB xa xi xh xp s0 s1 s2 s3 s4 = true) : (3 ≤ xh ∧ xh ≤ 255) ∧ (0 ≤ s0 ∧ s0 ≤ 4) ∧ (2 ≤ s0 → 3 ≤ s1 ∧ s1 ≤ 255 ∧ 0 ≤ s2 ∧ s2 < s1) ∧ (3 ≤ s0 → 1 ≤ s3 ∧ s3 ≤ 255) := by
  unfold sesB at h
  simp only [decide_eq_true_eq] at h
  obtain ⟨hc, a, b, -, d⟩ := h
  have q := cokB_ho hc
  refine ⟨q, ⟨a, b⟩, fun h2 => ?_, fun h3 => ?_⟩
  · obtain ⟨e1, e2, e3, e4, -, -⟩ := d h2
    omega
  · obtain ⟨e1, e2, e3, e4, -, e6⟩ := d (by omega)
    obtain ⟨f1, f2, -, -⟩ := e6 (by omega)
    omega
theorem ev_facts {gs cs : List (Int × Int)} {ps ms : List Int} {ek ee kn sa ho ix pr bw er : Int} (h : evB gs cs ps ms ek ee kn sa ho ix pr bw er = true) : (0 ≤ ek ∧ ek ≤ 6) ∧ (ek = 6 → ee ≠ 0 ∧ 1 ≤ ee ∧ ee ≤ 6) ∧ (ek = 4 → mokB gs cs ps ms kn sa ho ix pr bw er = true) ∧ (¬ ek = 4 → kn = 0) := by
  unfold evB at h
  simp only [decide_eq_true_eq] at h
  obtain ⟨a, b, c, d, e, f⟩ := h
  refine ⟨⟨a, b⟩, fun q => by have := c q; omega, e, fun q => ?_⟩
  have := f q
  unfold zM at this
  simp only [decide_eq_true_eq] at this
  exact this.1
theorem ev_open {gs cs : List (Int × Int)} {ps ms : List Int} {ek ee kn sa ho ix pr bw er : Int} (h : evB gs cs ps ms ek ee kn sa ho ix pr bw er = true) (hk : kn = 1) : 3 ≤ ho ∧ ho ≤ 255 := by
  obtain ⟨-, -, h4, h0⟩ := ev_facts h
  by_cases hq : ek = 4
  · have := h4 hq
    subst hk
    have := (mok_1.mp this).1.2.1
    unfold inB at this
    simpa using this
  · have := h0 hq
    omega
end Go.Proofs.YtcmbajphholliabDoor
namespace Go.Proofs.YtcmbajphholliabDoor
open Go.ChangeShapes Go.WideShapes Go.ChangeAt Go.RowKit Go.BigFrame Go.Joins
set_option linter.unusedVariables false
set_option linter.unusedSimpArgs false

theorem hand_any (X : Nat) (xa xi xh xp s0 s1 s2 s3 s4 : Int) (ga ca pa ma : Option Addr) (gx cx px mx : Nat) (gs cs : List (Int × Int)) (ps ms : List Int) (ek ee kn sa ho ix pr bw er : Int) (u : Value) (w : World) (hX : Bl w X [.int .i64 xa, .int .i64 xi, .int .i64 xh, .int .i64 xp, .int .i64 s0, .int .i64 s1, .int .i64 s2, .int .i64 s3, .int .i64 s4, .slice none 0 0]) (hu : w.cell? ⟨0, 0, none⟩ = some (.iface 194 u)) (hg1 : w.cell? ⟨1, 0, none⟩ = some (.iface 172 (.agg #[.pointer (some ⟨6, 103, none⟩)]))) (hX1n : 1 ≠ X) (hg : RdP w (.slice ga gs.length gx) gs) (hc : RdP w (.slice ca cs.length cx) cs) (hp : RdI w (.slice pa ps.length px) ps) (hm : RdI w (.slice ma ms.length mx) ms) (acc : Bool) (hacc : acc = accB xa xi xh xp gs cs ps ms kn sa ho ix pr bw er) (hxh : 3 ≤ xh ∧ xh ≤ 255) (hho : kn = 1 → 3 ≤ ho ∧ ho ≤ 255) (hk : kn = 1 ∨ kn = 2 ∨ kn = 3 ∨ kn = 4 ∨ ek ≠ 4) (hs0 : 0 ≤ s0 ∧ s0 ≤ 4) (hs2 : 2 ≤ s0 → 3 ≤ s1 ∧ s1 ≤ 255 ∧ 0 ≤ s2 ∧ s2 < s1) (hs3 : 3 ≤ s0 → 1 ≤ s3 ∧ s3 ≤ 255) (hek : 0 ≤ ek ∧ ek ≤ 6) :
    Calls Tryd.prog 29 #[.pointer (some ⟨X, 0, none⟩), .agg #[.int .i64 ek, .int .i64 kn, .int .i64 sa, .int .i64 ho, .int .i64 ix, .slice ga gs.length gx, .slice ca cs.length cx, .slice pa ps.length px, .int .i64 pr, .slice ma ms.length mx, .int .i64 bw, .int .i64 er, .int .i64 ee]] w fun e w' => e = .returned (.tuple #[]) ∧ ∃ v, Bl w' X [.int .i64 xa, .int .i64 xi, .int .i64 xh, .int .i64 xp, .int .i64 (stepF xa xi xh s0 s1 s2 s3 s4 ek ee kn sa ho acc).a, .int .i64 (stepF xa xi xh s0 s1 s2 s3 s4 ek ee kn sa ho acc).b, .int .i64 (stepF xa xi xh s0 s1 s2 s3 s4 ek ee kn sa ho acc).c, .int .i64 (stepF xa xi xh s0 s1 s2 s3 s4 ek ee kn sa ho acc).d, .int .i64 (stepF xa xi xh s0 s1 s2 s3 s4 ek ee kn sa ho acc).e, v] ∧ OwnG w' w.heap.size v (stepF xa xi xh s0 s1 s2 s3 s4 ek ee kn sa ho acc).l ∧ w.grownBy w' (some X) := by
  rcases (show s0 = 0 ∨ s0 = 1 ∨ s0 = 2 ∨ s0 = 3 ∨ s0 = 4 by omega) with rfl | rfl | rfl | rfl | rfl
  · rcases (show ek = 0 ∨ ek = 1 ∨ ek = 2 ∨ ek = 3 ∨ ek = 4 ∨ ek = 5 ∨ ek = 6 by omega) with rfl | rfl | rfl | rfl | rfl | rfl | rfl
    · exact hand_0_0 X xa xi xh xp s1 s2 s3 s4 ga ca pa ma gx cx px mx gs cs ps ms ee kn sa ho ix pr bw er u w hX hu hg1 hX1n hg hc hp hm acc hacc hxh hho hk hs2 hs3
    · exact hand_0_1 X xa xi xh xp s1 s2 s3 s4 ga ca pa ma gx cx px mx gs cs ps ms ee kn sa ho ix pr bw er u w hX hu hg1 hX1n hg hc hp hm acc hacc hxh hho hk hs2 hs3
    · exact hand_0_2 X xa xi xh xp s1 s2 s3 s4 ga ca pa ma gx cx px mx gs cs ps ms ee kn sa ho ix pr bw er u w hX hu hg1 hX1n hg hc hp hm acc hacc hxh hho hk hs2 hs3
    · exact hand_0_3 X xa xi xh xp s1 s2 s3 s4 ga ca pa ma gx cx px mx gs cs ps ms ee kn sa ho ix pr bw er u w hX hu hg1 hX1n hg hc hp hm acc hacc hxh hho hk hs2 hs3
    · exact hand_0_4 X xa xi xh xp s1 s2 s3 s4 ga ca pa ma gx cx px mx gs cs ps ms ee kn sa ho ix pr bw er u w hX hu hg1 hX1n hg hc hp hm acc hacc hxh hho hk hs2 hs3
    · exact hand_0_5 X xa xi xh xp s1 s2 s3 s4 ga ca pa ma gx cx px mx gs cs ps ms ee kn sa ho ix pr bw er u w hX hu hg1 hX1n hg hc hp hm acc hacc hxh hho hk hs2 hs3
    · exact hand_0_6 X xa xi xh xp s1 s2 s3 s4 ga ca pa ma gx cx px mx gs cs ps ms ee kn sa ho ix pr bw er u w hX hu hg1 hX1n hg hc hp hm acc hacc hxh hho hk hs2 hs3
  · rcases (show ek = 0 ∨ ek = 1 ∨ ek = 2 ∨ ek = 3 ∨ ek = 4 ∨ ek = 5 ∨ ek = 6 by omega) with rfl | rfl | rfl | rfl | rfl | rfl | rfl
    · exact hand_1_0 X xa xi xh xp s1 s2 s3 s4 ga ca pa ma gx cx px mx gs cs ps ms ee kn sa ho ix pr bw er u w hX hu hg1 hX1n hg hc hp hm acc hacc hxh hho hk hs2 hs3
    · exact hand_1_1 X xa xi xh xp s1 s2 s3 s4 ga ca pa ma gx cx px mx gs cs ps ms ee kn sa ho ix pr bw er u w hX hu hg1 hX1n hg hc hp hm acc hacc hxh hho hk hs2 hs3
    · exact hand_1_2 X xa xi xh xp s1 s2 s3 s4 ga ca pa ma gx cx px mx gs cs ps ms ee kn sa ho ix pr bw er u w hX hu hg1 hX1n hg hc hp hm acc hacc hxh hho hk hs2 hs3
    · exact hand_1_3 X xa xi xh xp s1 s2 s3 s4 ga ca pa ma gx cx px mx gs cs ps ms ee kn sa ho ix pr bw er u w hX hu hg1 hX1n hg hc hp hm acc hacc hxh hho hk hs2 hs3
    · exact hand_1_4 X xa xi xh xp s1 s2 s3 s4 ga ca pa ma gx cx px mx gs cs ps ms ee kn sa ho ix pr bw er u w hX hu hg1 hX1n hg hc hp hm acc hacc hxh hho hk hs2 hs3
    · exact hand_1_5 X xa xi xh xp s1 s2 s3 s4 ga ca pa ma gx cx px mx gs cs ps ms ee kn sa ho ix pr bw er u w hX hu hg1 hX1n hg hc hp hm acc hacc hxh hho hk hs2 hs3
    · exact hand_1_6 X xa xi xh xp s1 s2 s3 s4 ga ca pa ma gx cx px mx gs cs ps ms ee kn sa ho ix pr bw er u w hX hu hg1 hX1n hg hc hp hm acc hacc hxh hho hk hs2 hs3
  · rcases (show ek = 0 ∨ ek = 1 ∨ ek = 2 ∨ ek = 3 ∨ ek = 4 ∨ ek = 5 ∨ ek = 6 by omega) with rfl | rfl | rfl | rfl | rfl | rfl | rfl
    · exact hand_2_0 X xa xi xh xp s1 s2 s3 s4 ga ca pa ma gx cx px mx gs cs ps ms ee kn sa ho ix pr bw er u w hX hu hg1 hX1n hg hc hp hm acc hacc hxh hho hk hs2 hs3
    · exact hand_2_1 X xa xi xh xp s1 s2 s3 s4 ga ca pa ma gx cx px mx gs cs ps ms ee kn sa ho ix pr bw er u w hX hu hg1 hX1n hg hc hp hm acc hacc hxh hho hk hs2 hs3
    · exact hand_2_2 X xa xi xh xp s1 s2 s3 s4 ga ca pa ma gx cx px mx gs cs ps ms ee kn sa ho ix pr bw er u w hX hu hg1 hX1n hg hc hp hm acc hacc hxh hho hk hs2 hs3
    · exact hand_2_3 X xa xi xh xp s1 s2 s3 s4 ga ca pa ma gx cx px mx gs cs ps ms ee kn sa ho ix pr bw er u w hX hu hg1 hX1n hg hc hp hm acc hacc hxh hho hk hs2 hs3
    · exact hand_2_4 X xa xi xh xp s1 s2 s3 s4 ga ca pa ma gx cx px mx gs cs ps ms ee kn sa ho ix pr bw er u w hX hu hg1 hX1n hg hc hp hm acc hacc hxh hho hk hs2 hs3
    · exact hand_2_5 X xa xi xh xp s1 s2 s3 s4 ga ca pa ma gx cx px mx gs cs ps ms ee kn sa ho ix pr bw er u w hX hu hg1 hX1n hg hc hp hm acc hacc hxh hho hk hs2 hs3
    · exact hand_2_6 X xa xi xh xp s1 s2 s3 s4 ga ca pa ma gx cx px mx gs cs ps ms ee kn sa ho ix pr bw er u w hX hu hg1 hX1n hg hc hp hm acc hacc hxh hho hk hs2 hs3
  · rcases (show ek = 0 ∨ ek = 1 ∨ ek = 2 ∨ ek = 3 ∨ ek = 4 ∨ ek = 5 ∨ ek = 6 by omega) with rfl | rfl | rfl | rfl | rfl | rfl | rfl
    · exact hand_3_0 X xa xi xh xp s1 s2 s3 s4 ga ca pa ma gx cx px mx gs cs ps ms ee kn sa ho ix pr bw er u w hX hu hg1 hX1n hg hc hp hm acc hacc hxh hho hk hs2 hs3
    · exact hand_3_1 X xa xi xh xp s1 s2 s3 s4 ga ca pa ma gx cx px mx gs cs ps ms ee kn sa ho ix pr bw er u w hX hu hg1 hX1n hg hc hp hm acc hacc hxh hho hk hs2 hs3
    · exact hand_3_2 X xa xi xh xp s1 s2 s3 s4 ga ca pa ma gx cx px mx gs cs ps ms ee kn sa ho ix pr bw er u w hX hu hg1 hX1n hg hc hp hm acc hacc hxh hho hk hs2 hs3
    · exact hand_3_3 X xa xi xh xp s1 s2 s3 s4 ga ca pa ma gx cx px mx gs cs ps ms ee kn sa ho ix pr bw er u w hX hu hg1 hX1n hg hc hp hm acc hacc hxh hho hk hs2 hs3
    · exact hand_3_4 X xa xi xh xp s1 s2 s3 s4 ga ca pa ma gx cx px mx gs cs ps ms ee kn sa ho ix pr bw er u w hX hu hg1 hX1n hg hc hp hm acc hacc hxh hho hk hs2 hs3
    · exact hand_3_5 X xa xi xh xp s1 s2 s3 s4 ga ca pa ma gx cx px mx gs cs ps ms ee kn sa ho ix pr bw er u w hX hu hg1 hX1n hg hc hp hm acc hacc hxh hho hk hs2 hs3
    · exact hand_3_6 X xa xi xh xp s1 s2 s3 s4 ga ca pa ma gx cx px mx gs cs ps ms ee kn sa ho ix pr bw er u w hX hu hg1 hX1n hg hc hp hm acc hacc hxh hho hk hs2 hs3
  · rcases (show ek = 0 ∨ ek = 1 ∨ ek = 2 ∨ ek = 3 ∨ ek = 4 ∨ ek = 5 ∨ ek = 6 by omega) with rfl | rfl | rfl | rfl | rfl | rfl | rfl
    · exact hand_4_0 X xa xi xh xp s1 s2 s3 s4 ga ca pa ma gx cx px mx gs cs ps ms ee kn sa ho ix pr bw er u w hX hu hg1 hX1n hg hc hp hm acc hacc hxh hho hk hs2 hs3
    · exact hand_4_1 X xa xi xh xp s1 s2 s3 s4 ga ca pa ma gx cx px mx gs cs ps ms ee kn sa ho ix pr bw er u w hX hu hg1 hX1n hg hc hp hm acc hacc hxh hho hk hs2 hs3
    · exact hand_4_2 X xa xi xh xp s1 s2 s3 s4 ga ca pa ma gx cx px mx gs cs ps ms ee kn sa ho ix pr bw er u w hX hu hg1 hX1n hg hc hp hm acc hacc hxh hho hk hs2 hs3
    · exact hand_4_3 X xa xi xh xp s1 s2 s3 s4 ga ca pa ma gx cx px mx gs cs ps ms ee kn sa ho ix pr bw er u w hX hu hg1 hX1n hg hc hp hm acc hacc hxh hho hk hs2 hs3
    · exact hand_4_4 X xa xi xh xp s1 s2 s3 s4 ga ca pa ma gx cx px mx gs cs ps ms ee kn sa ho ix pr bw er u w hX hu hg1 hX1n hg hc hp hm acc hacc hxh hho hk hs2 hs3
    · exact hand_4_5 X xa xi xh xp s1 s2 s3 s4 ga ca pa ma gx cx px mx gs cs ps ms ee kn sa ho ix pr bw er u w hX hu hg1 hX1n hg hc hp hm acc hacc hxh hho hk hs2 hs3
    · exact hand_4_6 X xa xi xh xp s1 s2 s3 s4 ga ca pa ma gx cx px mx gs cs ps ms ee kn sa ho ix pr bw er u w hX hu hg1 hX1n hg hc hp hm acc hacc hxh hho hk hs2 hs3
theorem step_acc {xa xi xh xp s0 s1 s2 s3 s4 : Int} {gs cs : List (Int × Int)} {ps ms : List Int} {ek ee kn sa ho ix pr bw er : Int} (h : sesB xa xi xh xp s0 s1 s2 s3 s4 = true) (h2 : evB gs cs ps ms ek ee kn sa ho ix pr bw er = true) :
    stepF xa xi xh s0 s1 s2 s3 s4 ek ee kn sa ho (accB xa xi xh xp gs cs ps ms kn sa ho ix pr bw er) = (stepF xa xi xh s0 s1 s2 s3 s4 ek ee kn sa ho (l4B xa xi xp kn sa ix)) := by
  by_cases hk : ek = 4
  · have hm := (ev_facts h2).2.2.1 hk
    have hc : cokB xa xi xh xp = true := by
      unfold sesB at h
      simp only [decide_eq_true_eq] at h
      exact h.1
    have : accB xa xi xh xp gs cs ps ms kn sa ho ix pr bw er = l4B xa xi xp kn sa ix := by
      unfold accB
      rw [hc, hm]
      simp
    rw [this]
  · unfold stepF
    simp only [if_neg hk]
theorem ev_kinds {gs cs : List (Int × Int)} {ps ms : List Int} {ek ee kn sa ho ix pr bw er : Int} (h : evB gs cs ps ms ek ee kn sa ho ix pr bw er = true) : kn = 1 ∨ kn = 2 ∨ kn = 3 ∨ kn = 4 ∨ ek ≠ 4 := by
  by_cases hk : ek = 4
  · have hm := (ev_facts h).2.2.1 hk
    by_cases hq : 1 ≤ kn ∧ kn ≤ 4
    · omega
    · rw [mok_no hq] at hm
      cases hm
  · exact .inr (.inr (.inr (.inr hk)))
set_option maxHeartbeats 4000000 in
theorem iSS_any (xa xi xh xp s0 s1 s2 s3 s4 : Int) (ga ca pa ma : Option Addr) (gx cx px mx : Nat) (gs cs : List (Int × Int)) (ps ms : List Int) (ek ee kn sa ho ix pr bw er : Int) (u : Value) (w : World) (hg : RdP w (.slice ga gs.length gx) gs) (hc : RdP w (.slice ca cs.length cx) cs) (hp : RdI w (.slice pa ps.length px) ps) (hm : RdI w (.slice ma ms.length mx) ms) (hu : w.cell? ⟨0, 0, none⟩ = some (.iface 194 u)) (hg1 : w.cell? ⟨1, 0, none⟩ = some (.iface 172 (.agg #[.pointer (some ⟨6, 103, none⟩)]))) : Calls Tryd.prog 14 #[.agg #[.int .i64 xa, .int .i64 xi, .int .i64 xh, .int .i64 xp], .agg #[.int .i64 s0, .int .i64 s1, .int .i64 s2, .int .i64 s3, .int .i64 s4], .agg #[.int .i64 ek, .int .i64 kn, .int .i64 sa, .int .i64 ho, .int .i64 ix, .slice ga gs.length gx, .slice ca cs.length cx, .slice pa ps.length px, .int .i64 pr, .slice ma ms.length mx, .int .i64 bw, .int .i64 er, .int .i64 ee]] w (StR (ssF xa xi xh xp s0 s1 s2 s3 s4 gs cs ps ms ek ee kn sa ho ix pr bw er) w) := by
  have HZR : (ssF xa xi xh xp s0 s1 s2 s3 s4 gs cs ps ms ek ee kn sa ho ix pr bw er) = (ssF xa xi xh xp s0 s1 s2 s3 s4 gs cs ps ms ek ee kn sa ho ix pr bw er) := rfl
  clear HZR
  have bR : Bl ((((w.alloc (.cells #[.int .i64 xa, .int .i64 xi, .int .i64 xh, .int .i64 xp] 24)).alloc (.cells #[.int .i64 s0, .int .i64 s1, .int .i64 s2, .int .i64 s3, .int .i64 s4] 28)).alloc (.cells #[.int .i64 ek, .int .i64 kn, .int .i64 sa, .int .i64 ho, .int .i64 ix, .slice ga gs.length gx, .slice ca cs.length cx, .slice pa ps.length px, .int .i64 pr, .slice ma ms.length mx, .int .i64 bw, .int .i64 er, .int .i64 ee] 48)).alloc (.cells #[.int .i64 0, .int .i64 0, .int .i64 0, .int .i64 0, .int .i64 0] 28)) (w.heap.size + 1 + 1 + 1) [.int .i64 0, .int .i64 0, .int .i64 0, .int .i64 0, .int .i64 0] := Bl.new (((w.alloc (.cells #[.int .i64 xa, .int .i64 xi, .int .i64 xh, .int .i64 xp] 24)).alloc (.cells #[.int .i64 s0, .int .i64 s1, .int .i64 s2, .int .i64 s3, .int .i64 s4] 28)).alloc (.cells #[.int .i64 ek, .int .i64 kn, .int .i64 sa, .int .i64 ho, .int .i64 ix, .slice ga gs.length gx, .slice ca cs.length cx, .slice pa ps.length px, .int .i64 pr, .slice ma ms.length mx, .int .i64 bw, .int .i64 er, .int .i64 ee] 48)) [.int .i64 0, .int .i64 0, .int .i64 0, .int .i64 0, .int .i64 0] 28 (w.heap.size + 1 + 1 + 1) (by simp)
  have B0 : Below w.heap.size w ((((w.alloc (.cells #[.int .i64 xa, .int .i64 xi, .int .i64 xh, .int .i64 xp] 24)).alloc (.cells #[.int .i64 s0, .int .i64 s1, .int .i64 s2, .int .i64 s3, .int .i64 s4] 28)).alloc (.cells #[.int .i64 ek, .int .i64 kn, .int .i64 sa, .int .i64 ho, .int .i64 ix, .slice ga gs.length gx, .slice ca cs.length cx, .slice pa ps.length px, .int .i64 pr, .slice ma ms.length mx, .int .i64 bw, .int .i64 er, .int .i64 ee] 48)).alloc (.cells #[.int .i64 0, .int .i64 0, .int .i64 0, .int .i64 0, .int .i64 0] 28)) := (by repeat' (first | exact Below.refl _ _ | (refine Below.setCell ?_ (by simp <;> omega) _) | (refine Below.alloc ?_ (by simp <;> omega) _) | (refine Below.drew ?_)))
  have hz : ((((w.alloc (.cells #[.int .i64 xa, .int .i64 xi, .int .i64 xh, .int .i64 xp] 24)).alloc (.cells #[.int .i64 s0, .int .i64 s1, .int .i64 s2, .int .i64 s3, .int .i64 s4] 28)).alloc (.cells #[.int .i64 ek, .int .i64 kn, .int .i64 sa, .int .i64 ho, .int .i64 ix, .slice ga gs.length gx, .slice ca cs.length cx, .slice pa ps.length px, .int .i64 pr, .slice ma ms.length mx, .int .i64 bw, .int .i64 er, .int .i64 ee] 48)).alloc (.cells #[.int .i64 0, .int .i64 0, .int .i64 0, .int .i64 0, .int .i64 0] 28)).heap.size = w.heap.size + 1 + 1 + 1 + 1 := by simp
  have bC : Bl ((((w.alloc (.cells #[.int .i64 xa, .int .i64 xi, .int .i64 xh, .int .i64 xp] 24)).alloc (.cells #[.int .i64 s0, .int .i64 s1, .int .i64 s2, .int .i64 s3, .int .i64 s4] 28)).alloc (.cells #[.int .i64 ek, .int .i64 kn, .int .i64 sa, .int .i64 ho, .int .i64 ix, .slice ga gs.length gx, .slice ca cs.length cx, .slice pa ps.length px, .int .i64 pr, .slice ma ms.length mx, .int .i64 bw, .int .i64 er, .int .i64 ee] 48)).alloc (.cells #[.int .i64 0, .int .i64 0, .int .i64 0, .int .i64 0, .int .i64 0] 28)) (w.heap.size) [.int .i64 xa, .int .i64 xi, .int .i64 xh, .int .i64 xp] := (((Bl.new w [.int .i64 xa, .int .i64 xi, .int .i64 xh, .int .i64 xp] 24 (w.heap.size) (by simp)).alloc _).alloc _).alloc _
  have bS : Bl ((((w.alloc (.cells #[.int .i64 xa, .int .i64 xi, .int .i64 xh, .int .i64 xp] 24)).alloc (.cells #[.int .i64 s0, .int .i64 s1, .int .i64 s2, .int .i64 s3, .int .i64 s4] 28)).alloc (.cells #[.int .i64 ek, .int .i64 kn, .int .i64 sa, .int .i64 ho, .int .i64 ix, .slice ga gs.length gx, .slice ca cs.length cx, .slice pa ps.length px, .int .i64 pr, .slice ma ms.length mx, .int .i64 bw, .int .i64 er, .int .i64 ee] 48)).alloc (.cells #[.int .i64 0, .int .i64 0, .int .i64 0, .int .i64 0, .int .i64 0] 28)) (w.heap.size + 1) [.int .i64 s0, .int .i64 s1, .int .i64 s2, .int .i64 s3, .int .i64 s4] := ((Bl.new (w.alloc (.cells #[.int .i64 xa, .int .i64 xi, .int .i64 xh, .int .i64 xp] 24)) [.int .i64 s0, .int .i64 s1, .int .i64 s2, .int .i64 s3, .int .i64 s4] 28 (w.heap.size + 1) (by simp)).alloc _).alloc _
  have bE : Bl ((((w.alloc (.cells #[.int .i64 xa, .int .i64 xi, .int .i64 xh, .int .i64 xp] 24)).alloc (.cells #[.int .i64 s0, .int .i64 s1, .int .i64 s2, .int .i64 s3, .int .i64 s4] 28)).alloc (.cells #[.int .i64 ek, .int .i64 kn, .int .i64 sa, .int .i64 ho, .int .i64 ix, .slice ga gs.length gx, .slice ca cs.length cx, .slice pa ps.length px, .int .i64 pr, .slice ma ms.length mx, .int .i64 bw, .int .i64 er, .int .i64 ee] 48)).alloc (.cells #[.int .i64 0, .int .i64 0, .int .i64 0, .int .i64 0, .int .i64 0] 28)) (w.heap.size + 1 + 1) [.int .i64 ek, .int .i64 kn, .int .i64 sa, .int .i64 ho, .int .i64 ix, .slice ga gs.length gx, .slice ca cs.length cx, .slice pa ps.length px, .int .i64 pr, .slice ma ms.length mx, .int .i64 bw, .int .i64 er, .int .i64 ee] := (Bl.new ((w.alloc (.cells #[.int .i64 xa, .int .i64 xi, .int .i64 xh, .int .i64 xp] 24)).alloc (.cells #[.int .i64 s0, .int .i64 s1, .int .i64 s2, .int .i64 s3, .int .i64 s4] 28)) [.int .i64 ek, .int .i64 kn, .int .i64 sa, .int .i64 ho, .int .i64 ix, .slice ga gs.length gx, .slice ca cs.length cx, .slice pa ps.length px, .int .i64 pr, .slice ma ms.length mx, .int .i64 bw, .int .i64 er, .int .i64 ee] 48 (w.heap.size + 1 + 1) (by simp)).alloc _
  replace hg := hg.keep B0
  replace hc := hc.keep B0
  replace hp := hp.keep B0
  replace hm := hm.keep B0
  obtain ⟨tS, hS⟩ : ∃ t, sesB xa xi xh xp s0 s1 s2 s3 s4 = t := ⟨_, rfl⟩
  obtain ⟨tE, hE⟩ : ∃ t, evB gs cs ps ms ek ee kn sa ho ix pr bw er = t := ⟨_, rfl⟩
  have HS := Lib.hid hS
  have HE := Lib.hid hE
  obtain ⟨R, hR⟩ : ∃ R, R = (ssF xa xi xh xp s0 s1 s2 s3 s4 gs cs ps ms ek ee kn sa ho ix pr bw er) := ⟨_, rfl⟩
  rw [← hR]
  unfold ssF at hR
  have HR := Lib.hid hR
  clear hS hE hR
  go_enter Tryd.func14, Tryd.ntmps14
  go_wp2_with fail
  refine (iSs_h _ HS).mono ?_
  rintro e w1 ⟨rfl, hb⟩
  have hz1 := hb.size
  rw [hz] at hz1
  have HZ1 := Lib.hid hz1
  clear hz hz1
  replace bC := bC.keep hb
  replace bS := bS.keep hb
  replace bE := bE.keep hb
  replace bR := bR.keep hb
  replace hg := hg.keep hb
  replace hc := hc.keep hb
  replace hp := hp.keep hb
  replace hm := hm.keep hb
  replace B0 := below_step B0 hb
  clear hb
  cases tS
  · have hR0 : R = ⟨0, 0, 0, 0, 0, []⟩ := HR.out.trans (if_neg (by rw [HS.out, HE.out]; simp))
    subst hR0
    have HZ := HZ1
    obtain ⟨wq, eq⟩ : ∃ wq, wq = w1 := ⟨_, rfl⟩
    rw [← eq] at bR B0 HZ ⊢
    clear eq
    clear bC bS bE hg hc hp hm HR
    have r0 := bR.c 0 rfl
    have r1 := bR.c 1 rfl
    have r2 := bR.c 2 rfl
    have r3 := bR.c 3 rfl
    have r4 := bR.c 4 rfl
    have p0 := bR.f 0 (x := _) rfl
    have p1 := bR.f 1 (x := _) rfl
    have p2 := bR.f 2 (x := _) rfl
    have p3 := bR.f 3 (x := _) rfl
    have p4 := bR.f 4 (x := _) rfl
    go_wp2
    have bR2 := bR.set5 (.int .i64 0) (.int .i64 0) (.int .i64 0) (.int .i64 0) (.int .i64 0)
    have hz1 := HZ.out
    have B2 := below_set5 B0 (B := w.heap.size + 1 + 1 + 1) (by omega) (.int .i64 0) (.int .i64 0) (.int .i64 0) (.int .i64 0) (.int .i64 0)
    clear r0 r1 r2 r3 r4 p0 p1 p2 p3 p4 bR B0
    obtain ⟨W2, hW2⟩ : ∃ W2, W2 = (((((wq.setCell ⟨w.heap.size + 1 + 1 + 1, 0, none⟩ (.int .i64 0)).setCell ⟨w.heap.size + 1 + 1 + 1, 1, none⟩ (.int .i64 0)).setCell ⟨w.heap.size + 1 + 1 + 1, 2, none⟩ (.int .i64 0)).setCell ⟨w.heap.size + 1 + 1 + 1, 3, none⟩ (.int .i64 0)).setCell ⟨w.heap.size + 1 + 1 + 1, 4, none⟩ (.int .i64 0)) := ⟨_, rfl⟩
    rw [← hW2] at bR2 B2 ⊢
    clear hW2
    have r0 := bR2.c 0 rfl
    have r1 := bR2.c 1 rfl
    have r2 := bR2.c 2 rfl
    have r3 := bR2.c 3 rfl
    have r4 := bR2.c 4 rfl
    exact bodyPost_ret (v := .tuple #[.agg #[.int .i64 0, .int .i64 0, .int .i64 0, .int .i64 0, .int .i64 0], .slice none 0 0]) (by simp [results, Tryd.results14, go_sem, r0, r1, r2, r3, r4]) rfl ⟨_, rfl, OwnG.nil _ _, B2⟩
  · have c0 := bC.c 0 rfl
    have c1 := bC.c 1 rfl
    have c2 := bC.c 2 rfl
    have c3 := bC.c 3 rfl
    have g0 := bS.c 0 rfl
    have g1 := bS.c 1 rfl
    have g2 := bS.c 2 rfl
    have g3 := bS.c 3 rfl
    have g4 := bS.c 4 rfl
    have n0 := bE.c 0 rfl
    have n1 := bE.c 1 rfl
    have n2 := bE.c 2 rfl
    have n3 := bE.c 3 rfl
    have n4 := bE.c 4 rfl
    have n5 := bE.c 5 rfl
    have n6 := bE.c 6 rfl
    have n7 := bE.c 7 rfl
    have n8 := bE.c 8 rfl
    have n9 := bE.c 9 rfl
    have n10 := bE.c 10 rfl
    have n11 := bE.c 11 rfl
    have n12 := bE.c 12 rfl
    go_wp2_with fail
    clear c0 c1 c2 c3
    clear g0 g1 g2 g3 g4
    clear n0 n1 n2 n3 n4 n5 n6 n7 n8 n9 n10 n11 n12
    refine (iEv_t _ hg hc hp hm HE).mono ?_
    rintro e w2 ⟨rfl, hb⟩
    have HZ2 := Lib.hid (Nat.le_trans HZ1.out hb.size)
    replace bC := bC.keep hb
    replace bS := bS.keep hb
    replace bE := bE.keep hb
    replace bR := bR.keep hb
    replace hg := hg.keep hb
    replace hc := hc.keep hb
    replace hp := hp.keep hb
    replace hm := hm.keep hb
    replace B0 := below_step B0 hb
    clear hb
    cases tE
    · have hR0 : R = ⟨0, 0, 0, 0, 0, []⟩ := HR.out.trans (if_neg (by rw [HS.out, HE.out]; simp))
      subst hR0
      have HZ := HZ2
      obtain ⟨wq, eq⟩ : ∃ wq, wq = w2 := ⟨_, rfl⟩
      rw [← eq] at bR B0 HZ ⊢
      clear eq
      clear bC bS bE hg hc hp hm HR
      have r0 := bR.c 0 rfl
      have r1 := bR.c 1 rfl
      have r2 := bR.c 2 rfl
      have r3 := bR.c 3 rfl
      have r4 := bR.c 4 rfl
      have p0 := bR.f 0 (x := _) rfl
      have p1 := bR.f 1 (x := _) rfl
      have p2 := bR.f 2 (x := _) rfl
      have p3 := bR.f 3 (x := _) rfl
      have p4 := bR.f 4 (x := _) rfl
      go_wp2
      have bR2 := bR.set5 (.int .i64 0) (.int .i64 0) (.int .i64 0) (.int .i64 0) (.int .i64 0)
      have hz1 := HZ.out
      have B2 := below_set5 B0 (B := w.heap.size + 1 + 1 + 1) (by omega) (.int .i64 0) (.int .i64 0) (.int .i64 0) (.int .i64 0) (.int .i64 0)
      clear r0 r1 r2 r3 r4 p0 p1 p2 p3 p4 bR B0
      obtain ⟨W2, hW2⟩ : ∃ W2, W2 = (((((wq.setCell ⟨w.heap.size + 1 + 1 + 1, 0, none⟩ (.int .i64 0)).setCell ⟨w.heap.size + 1 + 1 + 1, 1, none⟩ (.int .i64 0)).setCell ⟨w.heap.size + 1 + 1 + 1, 2, none⟩ (.int .i64 0)).setCell ⟨w.heap.size + 1 + 1 + 1, 3, none⟩ (.int .i64 0)).setCell ⟨w.heap.size + 1 + 1 + 1, 4, none⟩ (.int .i64 0)) := ⟨_, rfl⟩
      rw [← hW2] at bR2 B2 ⊢
      clear hW2
      have r0 := bR2.c 0 rfl
      have r1 := bR2.c 1 rfl
      have r2 := bR2.c 2 rfl
      have r3 := bR2.c 3 rfl
      have r4 := bR2.c 4 rfl
      exact bodyPost_ret (v := .tuple #[.agg #[.int .i64 0, .int .i64 0, .int .i64 0, .int .i64 0, .int .i64 0], .slice none 0 0]) (by simp [results, Tryd.results14, go_sem, r0, r1, r2, r3, r4]) rfl ⟨_, rfl, OwnG.nil _ _, B2⟩
    · have FS_ := Lib.hid (ses_facts HS.out)
      have FE_ := Lib.hid (ev_facts HE.out)
      have FO_ := Lib.hid (ev_open HE.out)
      have hR1 : R = (stepF xa xi xh s0 s1 s2 s3 s4 ek ee kn sa ho (l4B xa xi xp kn sa ix)) := HR.out.trans (if_pos ⟨HS.out, HE.out⟩)
      rw [← step_acc HS.out HE.out] at hR1
      have c0 := bC.c 0 rfl
      have c1 := bC.c 1 rfl
      have c2 := bC.c 2 rfl
      have c3 := bC.c 3 rfl
      have g0 := bS.c 0 rfl
      have g1 := bS.c 1 rfl
      have g2 := bS.c 2 rfl
      have g3 := bS.c 3 rfl
      have g4 := bS.c 4 rfl
      have n0 := bE.c 0 rfl
      have n1 := bE.c 1 rfl
      have n2 := bE.c 2 rfl
      have n3 := bE.c 3 rfl
      have n4 := bE.c 4 rfl
      have n5 := bE.c 5 rfl
      have n6 := bE.c 6 rfl
      have n7 := bE.c 7 rfl
      have n8 := bE.c 8 rfl
      have n9 := bE.c 9 rfl
      have n10 := bE.c 10 rfl
      have n11 := bE.c 11 rfl
      have n12 := bE.c 12 rfl
      have bEM := bE.alloc (.cells #[.int .i64 xa, .int .i64 xi, .int .i64 xh, .int .i64 xp, .int .i64 s0, .int .i64 s1, .int .i64 s2, .int .i64 s3, .int .i64 s4, .slice none 0 0] 64)
      have y0 := bEM.c 0 rfl
      have y1 := bEM.c 1 rfl
      have y2 := bEM.c 2 rfl
      have y3 := bEM.c 3 rfl
      have y4 := bEM.c 4 rfl
      have y5 := bEM.c 5 rfl
      have y6 := bEM.c 6 rfl
      have y7 := bEM.c 7 rfl
      have y8 := bEM.c 8 rfl
      have y9 := bEM.c 9 rfl
      have y10 := bEM.c 10 rfl
      have y11 := bEM.c 11 rfl
      have y12 := bEM.c 12 rfl
      go_wp2_with fail
      clear c0 c1 c2 c3
      clear g0 g1 g2 g3 g4
      clear n0 n1 n2 n3 n4 n5 n6 n7 n8 n9 n10 n11 n12
      clear y0 y1 y2 y3 y4 y5 y6 y7 y8 y9 y10 y11 y12
      clear bEM
      have hsz := HZ2.out
      have bX : Bl (w2.alloc (.cells #[.int .i64 xa, .int .i64 xi, .int .i64 xh, .int .i64 xp, .int .i64 s0, .int .i64 s1, .int .i64 s2, .int .i64 s3, .int .i64 s4, .slice none 0 0] 64)) w2.heap.size [.int .i64 xa, .int .i64 xi, .int .i64 xh, .int .i64 xp, .int .i64 s0, .int .i64 s1, .int .i64 s2, .int .i64 s3, .int .i64 s4, .slice none 0 0] := Bl.new w2 [.int .i64 xa, .int .i64 xi, .int .i64 xh, .int .i64 xp, .int .i64 s0, .int .i64 s1, .int .i64 s2, .int .i64 s3, .int .i64 s4, .slice none 0 0] 64 _ rfl
      have hb : Below w2.heap.size w2 (w2.alloc (.cells #[.int .i64 xa, .int .i64 xi, .int .i64 xh, .int .i64 xp, .int .i64 s0, .int .i64 s1, .int .i64 s2, .int .i64 s3, .int .i64 s4, .slice none 0 0] 64)) := (Below.refl _ _).alloc (Nat.le_refl _) _
      replace bR := bR.keep hb
      replace hg := hg.keep hb
      replace hc := hc.keep hb
      replace hp := hp.keep hb
      replace hm := hm.keep hb
      replace B0 := below_step B0 hb
      have hu2 := cell_keep B0 (World.block_lt_of_cell? w _ hu) hu
      have hg2 := cell_keep B0 (World.block_lt_of_cell? w _ hg1) hg1
      have hX1n : 1 ≠ w2.heap.size := by have := World.block_lt_of_cell? w _ hg1; simp at this; omega
      clear hb bC bS bE
      obtain ⟨X, eX⟩ : ∃ X, X = w2.heap.size := ⟨_, rfl⟩
      have hXR : X ≠ w.heap.size + 1 + 1 + 1 ∧ w.heap.size + 1 + 1 + 1 < X := by omega
      have hXB : w.heap.size ≤ X := by omega
      obtain ⟨WX, eW⟩ : ∃ WX, WX = (w2.alloc (.cells #[.int .i64 xa, .int .i64 xi, .int .i64 xh, .int .i64 xp, .int .i64 s0, .int .i64 s1, .int .i64 s2, .int .i64 s3, .int .i64 s4, .slice none 0 0] 64)) := ⟨_, rfl⟩
      rw [← eW] at bX bR hg hc hp hm B0 hu2 hg2 ⊢
      rw [← eX] at bX hX1n ⊢
      have HXB := Lib.hid hXB
      have HXR := Lib.hid hXR
      clear eX eW hXB hXR hsz
      refine (hand_any X xa xi xh xp s0 s1 s2 s3 s4 ga ca pa ma gx cx px mx gs cs ps ms ek ee kn sa ho ix pr bw er u _ bX hu2 hg2 hX1n hg hc hp hm _ rfl FS_.out.1 FO_.out (ev_kinds HE.out) FS_.out.2.1 FS_.out.2.2.1 FS_.out.2.2.2 FE_.out.1).mono ?_
      rw [← hR1]
      rintro e w3 ⟨rfl, v, hX3, ho_, g3⟩
      have bR3 : Bl w3 (w.heap.size + 1 + 1 + 1) [.int .i64 0, .int .i64 0, .int .i64 0, .int .i64 0, .int .i64 0] := bR.grown g3 (by have := HXR.out.1; intro q; cases q; omega)
      have B3 : Below w.heap.size w w3 := by
        have q := grow_row (grown_below B0 none) g3 (fun k hk => by cases hk; exact HXB.out)
        exact ⟨q.os, q.tape, q.output, q.size, fun k hk => q.block k hk (by simp)⟩
      replace ho_ := ho_.mono (base' := w.heap.size + 1 + 1 + 1 + 1) (by have := bR.lt; omega)
      clear bR hu2 hg2 hX1n hg hc hp hm B0 bX hR1 g3
      go_wp2_with fail
      have hz1 := HXR.out.2
      refine wp_region_held_drew (S := fun w' => Bl w' X [.int .i64 xa, .int .i64 xi, .int .i64 xh, .int .i64 xp, .int .i64 R.a, .int .i64 R.b, .int .i64 R.c, .int .i64 R.d, .int .i64 R.e, v]) (by kernel_rfl) (hX3.keep (over_drew w3)) (fun hHeld => ?_)
      refine wpAnyH_take (i := 0) (v := ?_) rfl (by kernel_rfl) (by kernel_rfl) (by kernel_rfl) (fun _ _ _ h => h) (Or.inl ⟨by rfl, ?_⟩) (by assumption) ?_
      rotate_left
      · intro wq hSq
        (try dsimp only at hSq)

        go_simp
        try rfl
      change wpAnyH _ _ _ _ _ _ _ (Act.put _ (some 26) _) _
      simp only [Act.put, List.setIfInBounds_toArray, List.set_cons_succ, List.set_cons_zero]
      refine wpAnyH_take (i := 1) (v := ?_) rfl (by kernel_rfl) (by kernel_rfl) (by kernel_rfl) (fun _ _ _ h => h) (Or.inl ⟨by rfl, ?_⟩) (by assumption) ?_
      rotate_left
      · intro wq hSq
        (try dsimp only at hSq)

        go_simp
        try rfl
      change wpAnyH _ _ _ _ _ _ _ (Act.put _ (some 27) _) _
      simp only [Act.put, List.setIfInBounds_toArray, List.set_cons_succ, List.set_cons_zero]
      refine wpAnyH_take (i := 2) (v := ?_) rfl (by kernel_rfl) (by kernel_rfl) (by kernel_rfl) (fun _ _ _ h => h) (Or.inl ⟨by rfl, ?_⟩) (by assumption) ?_
      rotate_left
      · intro wq hSq
        (try dsimp only at hSq)

        go_simp
        try rfl
      change wpAnyH _ _ _ _ _ _ _ (Act.put _ (some 28) _) _
      simp only [Act.put, List.setIfInBounds_toArray, List.set_cons_succ, List.set_cons_zero]
      refine wpAnyH_take (i := 3) (v := ?_) rfl (by kernel_rfl) (by kernel_rfl) (by kernel_rfl) (fun _ _ _ h => h) (Or.inl ⟨by rfl, ?_⟩) (by assumption) ?_
      rotate_left
      · intro wq hSq
        (try dsimp only at hSq)
        have q4 := hSq.c 4 rfl
        have q5 := hSq.c 5 rfl
        have q6 := hSq.c 6 rfl
        have q7 := hSq.c 7 rfl
        have q8 := hSq.c 8 rfl
        go_simp
        try rfl
      change wpAnyH _ _ _ _ _ _ _ (Act.put _ (some 29) _) _
      simp only [Act.put, List.setIfInBounds_toArray, List.set_cons_succ, List.set_cons_zero]
      refine wpAnyH_take (i := 4) (v := ?_) rfl (by kernel_rfl) (by kernel_rfl) (by kernel_rfl) (fun _ _ _ h => h) (Or.inl ⟨by rfl, ?_⟩) (by assumption) ?_
      rotate_left
      · intro wq hSq
        (try dsimp only at hSq)

        go_simp
        try rfl
      change wpAnyH _ _ _ _ _ _ _ (Act.put _ (some 30) _) _
      simp only [Act.put, List.setIfInBounds_toArray, List.set_cons_succ, List.set_cons_zero]
      refine wpAnyH_take (i := 5) (v := ?_) rfl (by kernel_rfl) (by kernel_rfl) (by kernel_rfl) (fun _ _ _ h => h) (Or.inl ⟨by rfl, ?_⟩) (by assumption) ?_
      rotate_left
      · intro wq hSq
        (try dsimp only at hSq)

        go_simp
        try rfl
      change wpAnyH _ _ _ _ _ _ _ (Act.put _ (some 31) _) _
      simp only [Act.put, List.setIfInBounds_toArray, List.set_cons_succ, List.set_cons_zero]
      refine wpAnyH_take (i := 6) (v := ?_) rfl (by kernel_rfl) (by kernel_rfl) (by kernel_rfl) (fun _ _ _ h => h) (Or.inl ⟨by rfl, ?_⟩) (by assumption) ?_
      rotate_left
      · intro wq hSq
        (try dsimp only at hSq)

        go_simp
        try rfl
      change wpAnyH _ _ _ _ _ _ _ (Act.put _ (some 32) _) _
      simp only [Act.put, List.setIfInBounds_toArray, List.set_cons_succ, List.set_cons_zero]
      refine wpAnyH_take (i := 7) (v := ?_) rfl (by kernel_rfl) (by kernel_rfl) (by kernel_rfl) (fun _ _ _ h => h) (Or.inl ⟨by rfl, ?_⟩) (by assumption) ?_
      rotate_left
      · intro wq hSq
        (try dsimp only at hSq)
        have q9 := hSq.c 9 rfl
        go_simp
        try rfl
      change wpAnyH _ _ _ _ _ _ _ (Act.put _ (some 33) _) _
      simp only [Act.put, List.setIfInBounds_toArray, List.set_cons_succ, List.set_cons_zero]
      have bD := bR3.keep (over_drew w3)
      have oD := ho_.keep (over_drew w3)
      have BD := below_step B3 (over_drew w3)
      have hXD := hX3.keep (over_drew w3)
      obtain ⟨D, eD⟩ : ∃ D, D = w3.drew := ⟨_, rfl⟩
      rw [← eD] at bD oD BD hXD ⊢
      clear eD
      have r0 := bD.c 0 rfl
      have r0f := bD.f 0 (x := _) rfl
      have r1 := bD.c 1 rfl
      have r1f := bD.f 1 (x := _) rfl
      have r2 := bD.c 2 rfl
      have r2f := bD.f 2 (x := _) rfl
      have r3 := bD.c 3 rfl
      have r3f := bD.f 3 (x := _) rfl
      have r4 := bD.c 4 rfl
      have r4f := bD.f 4 (x := _) rfl
      refine wpAnyH_ready (rs := [8]) (by kernel_rfl) (by simp) ?_
      refine (AllReadyH.cons rfl (fun K hK => ?_) AllReadyH.nil)
      go_simp
      refine hK.out _ _ (((((hXD.far (C := w.heap.size + 1 + 1 + 1) (o := 0) (u := .int .i64 R.a) (by omega)).far (C := w.heap.size + 1 + 1 + 1) (o := 1) (u := .int .i64 R.b) (by omega)).far (C := w.heap.size + 1 + 1 + 1) (o := 2) (u := .int .i64 R.c) (by omega)).far (C := w.heap.size + 1 + 1 + 1) (o := 3) (u := .int .i64 R.d) (by omega)).far (C := w.heap.size + 1 + 1 + 1) (o := 4) (u := .int .i64 R.e) (by omega)) (fun hHeld => ?_)
      clear hK K
      try simp only [Act.put, List.setIfInBounds_toArray, List.set_cons_zero, List.set_cons_succ]
      refine wpAnyH_ready (rs := [9]) (by kernel_rfl) (by simp) ?_
      refine (AllReadyH.cons rfl (fun K hK => ?_) AllReadyH.nil)
      go_simp
      refine hK.out _ _ (((((hXD.far (C := w.heap.size + 1 + 1 + 1) (o := 0) (u := .int .i64 R.a) (by omega)).far (C := w.heap.size + 1 + 1 + 1) (o := 1) (u := .int .i64 R.b) (by omega)).far (C := w.heap.size + 1 + 1 + 1) (o := 2) (u := .int .i64 R.c) (by omega)).far (C := w.heap.size + 1 + 1 + 1) (o := 3) (u := .int .i64 R.d) (by omega)).far (C := w.heap.size + 1 + 1 + 1) (o := 4) (u := .int .i64 R.e) (by omega)) (fun hHeld => ?_)
      clear hK K
      try simp only [Act.put, List.setIfInBounds_toArray, List.set_cons_zero, List.set_cons_succ]
      clear r0 r0f r1 r1f r2 r2f r3 r3f r4 r4f
      refine wpAnyH_done (by kernel_rfl) ?_ _
      have hbl := bD.set5 (.int .i64 R.a) (.int .i64 R.b) (.int .i64 R.c) (.int .i64 R.d) (.int .i64 R.e)
      have how := (oD.far5 (B := w.heap.size + 1 + 1 + 1) (by omega) (.int .i64 R.a) (.int .i64 R.b) (.int .i64 R.c) (.int .i64 R.d) (.int .i64 R.e)).mono (base' := w.heap.size) (by omega)
      have hbe := below_set5 BD (B := w.heap.size + 1 + 1 + 1) (by omega) (.int .i64 R.a) (.int .i64 R.b) (.int .i64 R.c) (.int .i64 R.d) (.int .i64 R.e)
      clear bD oD BD hXD hX3 bR3 ho_ B3
      go_wp2
      obtain ⟨W2, hW2⟩ : ∃ W2, W2 = (((((D.setCell ⟨w.heap.size + 1 + 1 + 1, 0, none⟩ (.int .i64 R.a)).setCell ⟨w.heap.size + 1 + 1 + 1, 1, none⟩ (.int .i64 R.b)).setCell ⟨w.heap.size + 1 + 1 + 1, 2, none⟩ (.int .i64 R.c)).setCell ⟨w.heap.size + 1 + 1 + 1, 3, none⟩ (.int .i64 R.d)).setCell ⟨w.heap.size + 1 + 1 + 1, 4, none⟩ (.int .i64 R.e)) := ⟨_, rfl⟩
      rw [← hW2] at hbl how hbe ⊢
      clear hW2
      have r0 := hbl.c 0 rfl
      have r1 := hbl.c 1 rfl
      have r2 := hbl.c 2 rfl
      have r3 := hbl.c 3 rfl
      have r4 := hbl.c 4 rfl
      exact bodyPost_ret (v := .tuple #[.agg #[.int .i64 R.a, .int .i64 R.b, .int .i64 R.c, .int .i64 R.d, .int .i64 R.e], v]) (by simp [results, Tryd.results14, go_sem, r0, r1, r2, r3, r4]) rfl ⟨v, rfl, how, hbe⟩
end Go.Proofs.YtcmbajphholliabDoor
