/-
  Greet of the program. Conditions: those in each contract.
-/
import Derived.Test.YtcmbajphholliabDoorZ7
import Derived.Test.YtcmbajphholliabDoorS17
import Derived.Deep.Cut
namespace Go.Proofs.YtcmbajphholliabDoor
open Go.ChangeShapes Go.WideShapes Go.ChangeAt Go.RowKit Go.BigFrame Go.Joins
set_option linter.unusedVariables false
set_option maxRecDepth 100000
set_option linter.unusedSimpArgs false

theorem four (w : World) (xs ys zs us : List Value) (t1 t2 t3 t4 : TypeId) :
    Bl ((((w.alloc (.cells xs.toArray t1)).alloc (.cells ys.toArray t2)).alloc (.cells zs.toArray t3)).alloc (.cells us.toArray t4)) w.heap.size xs ∧ Bl ((((w.alloc (.cells xs.toArray t1)).alloc (.cells ys.toArray t2)).alloc (.cells zs.toArray t3)).alloc (.cells us.toArray t4)) (w.heap.size + 1) ys ∧
    Bl ((((w.alloc (.cells xs.toArray t1)).alloc (.cells ys.toArray t2)).alloc (.cells zs.toArray t3)).alloc (.cells us.toArray t4)) (w.heap.size + 1 + 1) zs ∧ Bl ((((w.alloc (.cells xs.toArray t1)).alloc (.cells ys.toArray t2)).alloc (.cells zs.toArray t3)).alloc (.cells us.toArray t4)) (w.heap.size + 1 + 1 + 1) us ∧
    Below w.heap.size w ((((w.alloc (.cells xs.toArray t1)).alloc (.cells ys.toArray t2)).alloc (.cells zs.toArray t3)).alloc (.cells us.toArray t4)) ∧ ((((w.alloc (.cells xs.toArray t1)).alloc (.cells ys.toArray t2)).alloc (.cells zs.toArray t3)).alloc (.cells us.toArray t4)).heap.size = w.heap.size + 4 := by
  obtain ⟨a, b, c, d, g⟩ := three w xs ys zs t1 t2 t3
  obtain ⟨p, e, f⟩ := one (((w.alloc (.cells xs.toArray t1)).alloc (.cells ys.toArray t2)).alloc (.cells zs.toArray t3)) us t4
  exact ⟨a.keep e, b.keep e, c.keep e, by rw [show w.heap.size + 1 + 1 + 1 = w.heap.size + 3 by rfl, ← g]; exact p, below_step d e, by rw [f, g]⟩
/-- how a session ends up that greets one with oa and oh -/
def gF (xh oa oh : Int) (t : Bool) : St := if t = true then (if xh ≤ oh then ⟨4, xh, 0, xh / 3, oa, []⟩ else ⟨4, oh, 0, oh / 3, oa, []⟩) else ⟨0, 0, 0, 0, 0, []⟩
theorem gF_l (xh oa oh : Int) (t : Bool) : (gF xh oa oh t).l = [] := by
  unfold gF
  repeat' split
  all_goals rfl
theorem gF_a (xh oa oh : Int) (t : Bool) : ((gF xh oa oh t).a == 4) = t := by
  unfold gF
  cases t
  · rfl
  · by_cases h : xh ≤ oh
    · simp [h]
    · simp [h]
/-- the first answer: a message, and a state -/
theorem first_out (xa xi xh oa oh : Int) (acc : Bool) (R : St) (hR : R = stepF xa xi xh 2 xh 0 0 0 4 0 1 oa oh acc) : ∃ m : Bm, R.l = [m] ∧ (m.k = 3 ∨ m.k = 4) ∧ (m.k = 4 ↔ acc = true) ∧ (R.a = 3 ∨ R.a = 0) := by
  subst hR
  cases acc
  · exact ⟨⟨3, 0, 0, 0, 2⟩, by simp [stepF, fallF], by simp, by simp, by simp [stepF, fallF]⟩
  · refine ⟨⟨4, 0, 0, 0, 0⟩, ?_, by simp, by simp, ?_⟩
    · by_cases h : xh ≤ oh <;> simp [stepF, fallF, h]
    · by_cases h : xh ≤ oh <;> simp [stepF, fallF, h]
theorem last_out (xa xi xh oa oh : Int) (acc acco acc2 : Bool) (R : St) (hR : R = stepF xa xi xh 2 xh 0 0 0 4 0 1 oa oh acc) (m : Bm) (hk : m.k = 3 ∨ m.k = 4) (ho : m.k = 4 ↔ acco = true) :
    stepF xa xi xh R.a R.b R.c R.d R.e 4 0 m.k m.a m.h acc2 = gF xh oa oh (acc && acco) := by
  subst hR
  cases acco
  · have h3 : m.k = 3 := by
      rcases hk with h | h
      · exact h
      · simp [h] at ho
    cases acc
    · simp [stepF, fallF, gF, h3]
    · by_cases h : xh ≤ oh <;> simp [stepF, fallF, gF, h3, h]
  · have h4 : m.k = 4 := by simpa using ho
    cases acc
    · simp [stepF, fallF, gF, h4]
    · by_cases h : xh ≤ oh <;> simp [stepF, fallF, gF, h4, h]
/-- two machines that have just been made -/
def TwoM (V wx : World) (aa ai ah ap ba bi bh bp : Int) (s7 s8 : Value) : Prop :=
  ∃ P Q, s7 = .pointer (some ⟨P, 0, none⟩) ∧ s8 = .pointer (some ⟨Q, 0, none⟩) ∧ GS wx wx wx.heap.size P Q (mc aa ai ah ap 0 0 0 0 0) (mc ba bi bh bp 0 0 0 0 0) none none 0 0 0 0 [] [] ∧ Over V wx ∧ V.heap.size ≤ P ∧ V.heap.size ≤ Q
set_option maxHeartbeats 2000000 in
theorem iGreet_noA (aa ai ah ap ba bi bh bp : Int) (u : Value) (w : World) (HA : Hid (cokB aa ai ah ap = false)) : Calls Tryd.prog 7 #[.agg #[.int .i64 aa, .int .i64 ai, .int .i64 ah, .int .i64 ap], .agg #[.int .i64 ba, .int .i64 bi, .int .i64 bh, .int .i64 bp]] w fun e w' => e = .returned (.tuple #[.agg #[.int .i64 0, .int .i64 0, .int .i64 0, .int .i64 0, .int .i64 0], .agg #[.int .i64 0, .int .i64 0, .int .i64 0, .int .i64 0, .int .i64 0], .bool false]) ∧ Below w.heap.size w w' := by
  obtain ⟨bA, bB, bR, bS, B0, z⟩ := four w [.int .i64 aa, .int .i64 ai, .int .i64 ah, .int .i64 ap] [.int .i64 ba, .int .i64 bi, .int .i64 bh, .int .i64 bp] [.int .i64 0, .int .i64 0, .int .i64 0, .int .i64 0, .int .i64 0] [.int .i64 0, .int .i64 0, .int .i64 0, .int .i64 0, .int .i64 0] 24 24 28 28
  clear z
  go_enter Tryd.func7, Tryd.ntmps7
  have fa0 := bA.c 0 rfl
  have fa1 := bA.c 1 rfl
  have fa2 := bA.c 2 rfl
  have fa3 := bA.c 3 rfl
  go_wp2_with fail
  clear fa0 fa1 fa2 fa3
  refine (iCf_t _ HA).mono ?_
  rintro e w1 ⟨rfl, hb⟩
  replace bA := bA.keep hb
  replace bB := bB.keep hb
  replace bR := bR.keep hb
  replace bS := bS.keep hb
  replace B0 := below_step B0 hb
  clear hb
  have r0 := bR.c 0 rfl
  have s0f := bR.f 0 (x := _) rfl
  have t0 := bS.c 0 rfl
  have t0f := bS.f 0 (x := _) rfl
  have r1 := bR.c 1 rfl
  have s1f := bR.f 1 (x := _) rfl
  have t1 := bS.c 1 rfl
  have t1f := bS.f 1 (x := _) rfl
  have r2 := bR.c 2 rfl
  have s2f := bR.f 2 (x := _) rfl
  have t2 := bS.c 2 rfl
  have t2f := bS.f 2 (x := _) rfl
  have r3 := bR.c 3 rfl
  have s3f := bR.f 3 (x := _) rfl
  have t3 := bS.c 3 rfl
  have t3f := bS.f 3 (x := _) rfl
  have r4 := bR.c 4 rfl
  have s4f := bR.f 4 (x := _) rfl
  have t4 := bS.c 4 rfl
  have t4f := bS.f 4 (x := _) rfl
  go_wp2
  have bR2 := ((((((bR.set5 (.int .i64 0) (.int .i64 0) (.int .i64 0) (.int .i64 0) (.int .i64 0)).far (C := w.heap.size + 1 + 1 + 1) (o := 0) (u := .int .i64 0) (by omega)).far (C := w.heap.size + 1 + 1 + 1) (o := 1) (u := .int .i64 0) (by omega)).far (C := w.heap.size + 1 + 1 + 1) (o := 2) (u := .int .i64 0) (by omega)).far (C := w.heap.size + 1 + 1 + 1) (o := 3) (u := .int .i64 0) (by omega)).far (C := w.heap.size + 1 + 1 + 1) (o := 4) (u := .int .i64 0) (by omega))
  have bS2 := ((((((bS.far (C := w.heap.size + 1 + 1) (o := 0) (u := .int .i64 0) (by omega)).far (C := w.heap.size + 1 + 1) (o := 1) (u := .int .i64 0) (by omega)).far (C := w.heap.size + 1 + 1) (o := 2) (u := .int .i64 0) (by omega)).far (C := w.heap.size + 1 + 1) (o := 3) (u := .int .i64 0) (by omega)).far (C := w.heap.size + 1 + 1) (o := 4) (u := .int .i64 0) (by omega))).set5 (.int .i64 0) (.int .i64 0) (.int .i64 0) (.int .i64 0) (.int .i64 0)
  have B2 := below_set5 (below_set5 B0 (B := w.heap.size + 1 + 1) (by omega) (.int .i64 0) (.int .i64 0) (.int .i64 0) (.int .i64 0) (.int .i64 0)) (B := w.heap.size + 1 + 1 + 1) (by omega) (.int .i64 0) (.int .i64 0) (.int .i64 0) (.int .i64 0) (.int .i64 0)
  clear r0 s0f t0 t0f r1 s1f t1 t1f r2 s2f t2 t2f r3 s3f t3 t3f r4 s4f t4 t4f
  clear bR bS B0
  obtain ⟨W2, hW2⟩ : ∃ W2, W2 = ((((((((((w1.setCell ⟨w.heap.size + 1 + 1, 0, none⟩ (.int .i64 0)).setCell ⟨w.heap.size + 1 + 1, 1, none⟩ (.int .i64 0)).setCell ⟨w.heap.size + 1 + 1, 2, none⟩ (.int .i64 0)).setCell ⟨w.heap.size + 1 + 1, 3, none⟩ (.int .i64 0)).setCell ⟨w.heap.size + 1 + 1, 4, none⟩ (.int .i64 0)).setCell ⟨w.heap.size + 1 + 1 + 1, 0, none⟩ (.int .i64 0)).setCell ⟨w.heap.size + 1 + 1 + 1, 1, none⟩ (.int .i64 0)).setCell ⟨w.heap.size + 1 + 1 + 1, 2, none⟩ (.int .i64 0)).setCell ⟨w.heap.size + 1 + 1 + 1, 3, none⟩ (.int .i64 0)).setCell ⟨w.heap.size + 1 + 1 + 1, 4, none⟩ (.int .i64 0)) := ⟨_, rfl⟩
  rw [← hW2] at bR2 bS2 B2 ⊢
  clear hW2
  have r0 := bR2.c 0 rfl
  have t0 := bS2.c 0 rfl
  have r1 := bR2.c 1 rfl
  have t1 := bS2.c 1 rfl
  have r2 := bR2.c 2 rfl
  have t2 := bS2.c 2 rfl
  have r3 := bR2.c 3 rfl
  have t3 := bS2.c 3 rfl
  have r4 := bR2.c 4 rfl
  have t4 := bS2.c 4 rfl
  exact bodyPost_ret (v := .tuple #[.agg #[.int .i64 0, .int .i64 0, .int .i64 0, .int .i64 0, .int .i64 0], .agg #[.int .i64 0, .int .i64 0, .int .i64 0, .int .i64 0, .int .i64 0], .bool false]) (by simp [results, Tryd.results7, go_sem, r0, t0, r1, t1, r2, t2, r3, t3, r4, t4]) rfl ⟨rfl, B2⟩
set_option maxHeartbeats 2000000 in
theorem iGreet_noB (aa ai ah ap ba bi bh bp : Int) (u : Value) (w : World) (HA : Hid (cokB aa ai ah ap = true)) (HB : Hid (cokB ba bi bh bp = false)) : Calls Tryd.prog 7 #[.agg #[.int .i64 aa, .int .i64 ai, .int .i64 ah, .int .i64 ap], .agg #[.int .i64 ba, .int .i64 bi, .int .i64 bh, .int .i64 bp]] w fun e w' => e = .returned (.tuple #[.agg #[.int .i64 0, .int .i64 0, .int .i64 0, .int .i64 0, .int .i64 0], .agg #[.int .i64 0, .int .i64 0, .int .i64 0, .int .i64 0, .int .i64 0], .bool false]) ∧ Below w.heap.size w w' := by
  obtain ⟨bA, bB, bR, bS, B0, z⟩ := four w [.int .i64 aa, .int .i64 ai, .int .i64 ah, .int .i64 ap] [.int .i64 ba, .int .i64 bi, .int .i64 bh, .int .i64 bp] [.int .i64 0, .int .i64 0, .int .i64 0, .int .i64 0, .int .i64 0] [.int .i64 0, .int .i64 0, .int .i64 0, .int .i64 0, .int .i64 0] 24 24 28 28
  clear z
  go_enter Tryd.func7, Tryd.ntmps7
  have fa0 := bA.c 0 rfl
  have fa1 := bA.c 1 rfl
  have fa2 := bA.c 2 rfl
  have fa3 := bA.c 3 rfl
  go_wp2_with fail
  clear fa0 fa1 fa2 fa3
  refine (iCf_t _ HA).mono ?_
  rintro e w1 ⟨rfl, hb⟩
  replace bA := bA.keep hb
  replace bB := bB.keep hb
  replace bR := bR.keep hb
  replace bS := bS.keep hb
  replace B0 := below_step B0 hb
  clear hb
  have fb0 := bB.c 0 rfl
  have fb1 := bB.c 1 rfl
  have fb2 := bB.c 2 rfl
  have fb3 := bB.c 3 rfl
  go_wp2_with fail
  clear fb0 fb1 fb2 fb3
  refine (iCf_t _ HB).mono ?_
  rintro e w2 ⟨rfl, hb⟩
  replace bA := bA.keep hb
  replace bB := bB.keep hb
  replace bR := bR.keep hb
  replace bS := bS.keep hb
  replace B0 := below_step B0 hb
  clear hb
  have r0 := bR.c 0 rfl
  have s0f := bR.f 0 (x := _) rfl
  have t0 := bS.c 0 rfl
  have t0f := bS.f 0 (x := _) rfl
  have r1 := bR.c 1 rfl
  have s1f := bR.f 1 (x := _) rfl
  have t1 := bS.c 1 rfl
  have t1f := bS.f 1 (x := _) rfl
  have r2 := bR.c 2 rfl
  have s2f := bR.f 2 (x := _) rfl
  have t2 := bS.c 2 rfl
  have t2f := bS.f 2 (x := _) rfl
  have r3 := bR.c 3 rfl
  have s3f := bR.f 3 (x := _) rfl
  have t3 := bS.c 3 rfl
  have t3f := bS.f 3 (x := _) rfl
  have r4 := bR.c 4 rfl
  have s4f := bR.f 4 (x := _) rfl
  have t4 := bS.c 4 rfl
  have t4f := bS.f 4 (x := _) rfl
  go_wp2
  have bR2 := ((((((bR.set5 (.int .i64 0) (.int .i64 0) (.int .i64 0) (.int .i64 0) (.int .i64 0)).far (C := w.heap.size + 1 + 1 + 1) (o := 0) (u := .int .i64 0) (by omega)).far (C := w.heap.size + 1 + 1 + 1) (o := 1) (u := .int .i64 0) (by omega)).far (C := w.heap.size + 1 + 1 + 1) (o := 2) (u := .int .i64 0) (by omega)).far (C := w.heap.size + 1 + 1 + 1) (o := 3) (u := .int .i64 0) (by omega)).far (C := w.heap.size + 1 + 1 + 1) (o := 4) (u := .int .i64 0) (by omega))
  have bS2 := ((((((bS.far (C := w.heap.size + 1 + 1) (o := 0) (u := .int .i64 0) (by omega)).far (C := w.heap.size + 1 + 1) (o := 1) (u := .int .i64 0) (by omega)).far (C := w.heap.size + 1 + 1) (o := 2) (u := .int .i64 0) (by omega)).far (C := w.heap.size + 1 + 1) (o := 3) (u := .int .i64 0) (by omega)).far (C := w.heap.size + 1 + 1) (o := 4) (u := .int .i64 0) (by omega))).set5 (.int .i64 0) (.int .i64 0) (.int .i64 0) (.int .i64 0) (.int .i64 0)
  have B2 := below_set5 (below_set5 B0 (B := w.heap.size + 1 + 1) (by omega) (.int .i64 0) (.int .i64 0) (.int .i64 0) (.int .i64 0) (.int .i64 0)) (B := w.heap.size + 1 + 1 + 1) (by omega) (.int .i64 0) (.int .i64 0) (.int .i64 0) (.int .i64 0) (.int .i64 0)
  clear r0 s0f t0 t0f r1 s1f t1 t1f r2 s2f t2 t2f r3 s3f t3 t3f r4 s4f t4 t4f
  clear bR bS B0
  obtain ⟨W2, hW2⟩ : ∃ W2, W2 = ((((((((((w2.setCell ⟨w.heap.size + 1 + 1, 0, none⟩ (.int .i64 0)).setCell ⟨w.heap.size + 1 + 1, 1, none⟩ (.int .i64 0)).setCell ⟨w.heap.size + 1 + 1, 2, none⟩ (.int .i64 0)).setCell ⟨w.heap.size + 1 + 1, 3, none⟩ (.int .i64 0)).setCell ⟨w.heap.size + 1 + 1, 4, none⟩ (.int .i64 0)).setCell ⟨w.heap.size + 1 + 1 + 1, 0, none⟩ (.int .i64 0)).setCell ⟨w.heap.size + 1 + 1 + 1, 1, none⟩ (.int .i64 0)).setCell ⟨w.heap.size + 1 + 1 + 1, 2, none⟩ (.int .i64 0)).setCell ⟨w.heap.size + 1 + 1 + 1, 3, none⟩ (.int .i64 0)).setCell ⟨w.heap.size + 1 + 1 + 1, 4, none⟩ (.int .i64 0)) := ⟨_, rfl⟩
  rw [← hW2] at bR2 bS2 B2 ⊢
  clear hW2
  have r0 := bR2.c 0 rfl
  have t0 := bS2.c 0 rfl
  have r1 := bR2.c 1 rfl
  have t1 := bS2.c 1 rfl
  have r2 := bR2.c 2 rfl
  have t2 := bS2.c 2 rfl
  have r3 := bR2.c 3 rfl
  have t3 := bS2.c 3 rfl
  have r4 := bR2.c 4 rfl
  have t4 := bS2.c 4 rfl
  exact bodyPost_ret (v := .tuple #[.agg #[.int .i64 0, .int .i64 0, .int .i64 0, .int .i64 0, .int .i64 0], .agg #[.int .i64 0, .int .i64 0, .int .i64 0, .int .i64 0, .int .i64 0], .bool false]) (by simp [results, Tryd.results7, go_sem, r0, t0, r1, t1, r2, t2, r3, t3, r4, t4]) rfl ⟨rfl, B2⟩
set_option maxHeartbeats 8000000 in
theorem iGreet_true (aa ai ah ap ba bi bh bp : Int) (u : Value) (w : World) (hu0 : w.cell? ⟨0, 0, none⟩ = some (.iface 194 u)) (hg0 : w.cell? ⟨1, 0, none⟩ = some (.iface 172 (.agg #[.pointer (some ⟨6, 103, none⟩)]))) (HA : Hid (cokB aa ai ah ap = true)) (HB : Hid (cokB ba bi bh bp = true)) (p q : Bool) (hp : p = accB aa ai ah ap [] [] [] [] 1 ba bh bi 0 0 0) (hq : q = accB ba bi bh bp [] [] [] [] 1 aa ah ai 0 0 0) (ht : true = (p && q)) (G J : St) (hG : G = gF ah ba bh true) (hJ : J = gF bh aa ah true) :
    Calls Tryd.prog 7 #[.agg #[.int .i64 aa, .int .i64 ai, .int .i64 ah, .int .i64 ap], .agg #[.int .i64 ba, .int .i64 bi, .int .i64 bh, .int .i64 bp]] w fun e w' => e = .returned (.tuple #[.agg #[.int .i64 G.a, .int .i64 G.b, .int .i64 G.c, .int .i64 G.d, .int .i64 G.e], .agg #[.int .i64 J.a, .int .i64 J.b, .int .i64 J.c, .int .i64 J.d, .int .i64 J.e], .bool true]) ∧ Below w.heap.size w w' := by
  have hA3 := cokB_ho HA.out
  have hB3 := cokB_ho HB.out
  have hsz : 1 < w.heap.size := World.block_lt_of_cell? w _ hg0
  have hga : (G.a == 4) = true := by rw [hG]; exact gF_a _ _ _ _
  have hja : (J.a == 4) = true := by rw [hJ]; exact gF_a _ _ _ _
  have HAL := Lib.hid (And.intro hA3 hB3)
  have HPQ := Lib.hid (And.intro hp (And.intro hq (And.intro ht (And.intro hG hJ))))
  have HUG := Lib.hid (And.intro hu0 hg0)
  clear hA3 hB3 hp hq ht hu0 hg0 hG hJ
  obtain ⟨bA, bB, bR, bS, B0, z⟩ := four w [.int .i64 aa, .int .i64 ai, .int .i64 ah, .int .i64 ap] [.int .i64 ba, .int .i64 bi, .int .i64 bh, .int .i64 bp] [.int .i64 0, .int .i64 0, .int .i64 0, .int .i64 0, .int .i64 0] [.int .i64 0, .int .i64 0, .int .i64 0, .int .i64 0, .int .i64 0] 24 24 28 28
  clear z
  go_enter Tryd.func7, Tryd.ntmps7
  have fa0 := bA.c 0 rfl
  have fa1 := bA.c 1 rfl
  have fa2 := bA.c 2 rfl
  have fa3 := bA.c 3 rfl
  go_wp2_with fail
  clear fa0 fa1 fa2 fa3
  refine (iCf_t _ HA).mono ?_
  rintro e w1 ⟨rfl, hb⟩
  replace bA := bA.keep hb
  replace bB := bB.keep hb
  replace bR := bR.keep hb
  replace bS := bS.keep hb
  replace B0 := below_step B0 hb
  clear hb
  have fb0 := bB.c 0 rfl
  have fb1 := bB.c 1 rfl
  have fb2 := bB.c 2 rfl
  have fb3 := bB.c 3 rfl
  go_wp2_with fail
  clear fb0 fb1 fb2 fb3
  refine (iCf_t _ HB).mono ?_
  rintro e w2 ⟨rfl, hb⟩
  replace bA := bA.keep hb
  replace bB := bB.keep hb
  replace bR := bR.keep hb
  replace bS := bS.keep hb
  replace B0 := below_step B0 hb
  clear hb
  have hw2 := B0.size
  go_wp2_with fail
  go_cut [7, 8] from 21 (fun s7 s8 wx => TwoM w2 wx aa ai ah ap ba bi bh bp s7 s8)
  case first =>
    refine wp_region_held_drew (S := fun w' => Over w2 w') (by kernel_rfl) (over_drew w2) (fun hHeld => ?_)
    obtain ⟨u0, e0⟩ : ∃ u, u = w2.drew := ⟨_, rfl⟩
    have O : Over w2 u0 := by rw [e0]; exact over_drew w2
    rw [← e0]
    clear e0 hHeld
    refine wpAnyH_take (i := 0) (v := ?_) rfl (by kernel_rfl) (by kernel_rfl) (by kernel_rfl) (fun _ _ _ h => h) (Or.inl ⟨by rfl, ?_⟩) O ?_
    rotate_left
    · intro wq hSq
      (try dsimp only at hSq)
      have q0 := bA.o hSq 0 rfl
      have q1 := bA.o hSq 1 rfl
      have q2 := bA.o hSq 2 rfl
      have q3 := bA.o hSq 3 rfl
      go_simp
      try rfl
    change wpAnyH _ _ _ _ _ _ _ (Act.put _ (some 21) _) _
    simp only [Act.put, List.setIfInBounds_toArray, List.set_cons_succ, List.set_cons_zero]
    refine wpAnyH_take (i := 1) (v := ?_) rfl (by kernel_rfl) (by kernel_rfl) (by kernel_rfl) (fun _ _ _ h => h) (Or.inl ⟨by rfl, ?_⟩) O ?_
    rotate_left
    · intro wq hSq
      (try dsimp only at hSq)

      go_simp
      try rfl
    change wpAnyH _ _ _ _ _ _ _ (Act.put _ (some 22) _) _
    simp only [Act.put, List.setIfInBounds_toArray, List.set_cons_succ, List.set_cons_zero]
    refine wpAnyH_take (i := 3) (v := ?_) rfl (by kernel_rfl) (by kernel_rfl) (by kernel_rfl) (fun _ _ _ h => h) (Or.inl ⟨by rfl, ?_⟩) O ?_
    rotate_left
    · intro wq hSq
      (try dsimp only at hSq)
      have q0 := bB.o hSq 0 rfl
      have q1 := bB.o hSq 1 rfl
      have q2 := bB.o hSq 2 rfl
      have q3 := bB.o hSq 3 rfl
      go_simp
      try rfl
    change wpAnyH _ _ _ _ _ _ _ (Act.put _ (some 24) _) _
    simp only [Act.put, List.setIfInBounds_toArray, List.set_cons_succ, List.set_cons_zero]
    refine wpAnyH_take (i := 4) (v := ?_) rfl (by kernel_rfl) (by kernel_rfl) (by kernel_rfl) (fun _ _ _ h => h) (Or.inl ⟨by rfl, ?_⟩) O ?_
    rotate_left
    · intro wq hSq
      (try dsimp only at hSq)

      go_simp
      try rfl
    change wpAnyH _ _ _ _ _ _ _ (Act.put _ (some 25) _) _
    simp only [Act.put, List.setIfInBounds_toArray, List.set_cons_succ, List.set_cons_zero]
    refine wpAnyH_ready (rs := [2, 5]) (by kernel_rfl) (by simp) ?_
    refine (AllReadyH.cons rfl (fun K hK => ?_) (AllReadyH.cons rfl (fun K hK => ?_) AllReadyH.nil))
    · go_simp
      obtain ⟨bP, hb, z⟩ := one u0 [.int .i64 aa, .int .i64 ai, .int .i64 ah, .int .i64 ap, .int .i64 0, .int .i64 0, .int .i64 0, .int .i64 0, .int .i64 0, .slice none 0 0] 64
      have O1 := over_step O hb
      clear z hb
      refine hK.out _ _ O1 (fun _ => ?_)
      clear hK K
      try simp only [Act.put, List.setIfInBounds_toArray, List.set_cons_zero, List.set_cons_succ]
      refine wpAnyH_ready (rs := [5, 6]) (by kernel_rfl) (by simp) ?_
      refine (AllReadyH.cons rfl (fun K hK => ?_) (AllReadyH.cons rfl (fun K hK => ?_) AllReadyH.nil))
      · go_simp
        obtain ⟨bQ, hb, z⟩ := one (u0.alloc (.cells #[.int .i64 aa, .int .i64 ai, .int .i64 ah, .int .i64 ap, .int .i64 0, .int .i64 0, .int .i64 0, .int .i64 0, .int .i64 0, .slice none 0 0] 64)) [.int .i64 ba, .int .i64 bi, .int .i64 bh, .int .i64 bp, .int .i64 0, .int .i64 0, .int .i64 0, .int .i64 0, .int .i64 0, .slice none 0 0] 64
        replace bP := bP.keep hb
        have O2 := over_step O1 hb
        clear z hb
        refine hK.out _ _ O2 (fun _ => ?_)
        clear hK K
        try simp only [Act.put, List.setIfInBounds_toArray, List.set_cons_zero, List.set_cons_succ]
        refine wpAnyH_ready (rs := [6]) (by kernel_rfl) (by simp) ?_
        refine (AllReadyH.cons rfl (fun K hK => ?_) AllReadyH.nil)
        go_simp
        refine hK.out _ _ O2 (fun _ => ?_)
        clear hK K
        try simp only [Act.put, List.setIfInBounds_toArray, List.set_cons_zero, List.set_cons_succ]
        refine wpAnyH_ready (rs := [7]) (by kernel_rfl) (by simp) ?_
        refine (AllReadyH.cons rfl (fun K hK => ?_) AllReadyH.nil)
        go_simp
        refine hK.out _ _ O2 (fun _ => ?_)
        clear hK K
        try simp only [Act.put, List.setIfInBounds_toArray, List.set_cons_zero, List.set_cons_succ]
        refine wpAnyH_done (by kernel_rfl) ?_ _
        have hs0 := O.size
        have hs1 : (u0.alloc (.cells #[.int .i64 aa, .int .i64 ai, .int .i64 ah, .int .i64 ap, .int .i64 0, .int .i64 0, .int .i64 0, .int .i64 0, .int .i64 0, .slice none 0 0] 64)).heap.size = u0.heap.size + 1 := by simp
        rw [hs1] at bQ
        go_wp2_with fail
        go_meet
        case rel => exact ⟨_, _, rfl, rfl, GS.init bP bQ (by omega) (by omega) (by omega), O2, by omega, by omega⟩
      · go_simp
        refine hK.out _ _ O1 (fun _ => ?_)
        clear hK K
        try simp only [Act.put, List.setIfInBounds_toArray, List.set_cons_zero, List.set_cons_succ]
        refine wpAnyH_ready (rs := [5]) (by kernel_rfl) (by simp) ?_
        refine (AllReadyH.cons rfl (fun K hK => ?_) AllReadyH.nil)
        go_simp
        obtain ⟨bQ, hb, z⟩ := one (u0.alloc (.cells #[.int .i64 aa, .int .i64 ai, .int .i64 ah, .int .i64 ap, .int .i64 0, .int .i64 0, .int .i64 0, .int .i64 0, .int .i64 0, .slice none 0 0] 64)) [.int .i64 ba, .int .i64 bi, .int .i64 bh, .int .i64 bp, .int .i64 0, .int .i64 0, .int .i64 0, .int .i64 0, .int .i64 0, .slice none 0 0] 64
        replace bP := bP.keep hb
        have O2 := over_step O1 hb
        clear z hb
        refine hK.out _ _ O2 (fun _ => ?_)
        clear hK K
        try simp only [Act.put, List.setIfInBounds_toArray, List.set_cons_zero, List.set_cons_succ]
        refine wpAnyH_ready (rs := [7]) (by kernel_rfl) (by simp) ?_
        refine (AllReadyH.cons rfl (fun K hK => ?_) AllReadyH.nil)
        go_simp
        refine hK.out _ _ O2 (fun _ => ?_)
        clear hK K
        try simp only [Act.put, List.setIfInBounds_toArray, List.set_cons_zero, List.set_cons_succ]
        refine wpAnyH_done (by kernel_rfl) ?_ _
        have hs0 := O.size
        have hs1 : (u0.alloc (.cells #[.int .i64 aa, .int .i64 ai, .int .i64 ah, .int .i64 ap, .int .i64 0, .int .i64 0, .int .i64 0, .int .i64 0, .int .i64 0, .slice none 0 0] 64)).heap.size = u0.heap.size + 1 := by simp
        rw [hs1] at bQ
        go_wp2_with fail
        go_meet
        case rel => exact ⟨_, _, rfl, rfl, GS.init bP bQ (by omega) (by omega) (by omega), O2, by omega, by omega⟩
    · go_simp
      obtain ⟨bQ, hb, z⟩ := one u0 [.int .i64 ba, .int .i64 bi, .int .i64 bh, .int .i64 bp, .int .i64 0, .int .i64 0, .int .i64 0, .int .i64 0, .int .i64 0, .slice none 0 0] 64
      have O1 := over_step O hb
      clear z hb
      refine hK.out _ _ O1 (fun _ => ?_)
      clear hK K
      try simp only [Act.put, List.setIfInBounds_toArray, List.set_cons_zero, List.set_cons_succ]
      refine wpAnyH_ready (rs := [2]) (by kernel_rfl) (by simp) ?_
      refine (AllReadyH.cons rfl (fun K hK => ?_) AllReadyH.nil)
      go_simp
      obtain ⟨bP, hb, z⟩ := one (u0.alloc (.cells #[.int .i64 ba, .int .i64 bi, .int .i64 bh, .int .i64 bp, .int .i64 0, .int .i64 0, .int .i64 0, .int .i64 0, .int .i64 0, .slice none 0 0] 64)) [.int .i64 aa, .int .i64 ai, .int .i64 ah, .int .i64 ap, .int .i64 0, .int .i64 0, .int .i64 0, .int .i64 0, .int .i64 0, .slice none 0 0] 64
      replace bQ := bQ.keep hb
      have O2 := over_step O1 hb
      clear z hb
      refine hK.out _ _ O2 (fun _ => ?_)
      clear hK K
      try simp only [Act.put, List.setIfInBounds_toArray, List.set_cons_zero, List.set_cons_succ]
      refine wpAnyH_ready (rs := [6]) (by kernel_rfl) (by simp) ?_
      refine (AllReadyH.cons rfl (fun K hK => ?_) AllReadyH.nil)
      go_simp
      refine hK.out _ _ O2 (fun _ => ?_)
      clear hK K
      try simp only [Act.put, List.setIfInBounds_toArray, List.set_cons_zero, List.set_cons_succ]
      refine wpAnyH_ready (rs := [7]) (by kernel_rfl) (by simp) ?_
      refine (AllReadyH.cons rfl (fun K hK => ?_) AllReadyH.nil)
      go_simp
      refine hK.out _ _ O2 (fun _ => ?_)
      clear hK K
      try simp only [Act.put, List.setIfInBounds_toArray, List.set_cons_zero, List.set_cons_succ]
      refine wpAnyH_done (by kernel_rfl) ?_ _
      have hs0 := O.size
      have hs1 : (u0.alloc (.cells #[.int .i64 ba, .int .i64 bi, .int .i64 bh, .int .i64 bp, .int .i64 0, .int .i64 0, .int .i64 0, .int .i64 0, .int .i64 0, .slice none 0 0] 64)).heap.size = u0.heap.size + 1 := by simp
      rw [hs1] at bP
      go_wp2_with fail
      go_meet
      case rel => exact ⟨_, _, rfl, rfl, GS.init bP bQ (by omega) (by omega) (by omega), O2, by omega, by omega⟩
  case rest =>
    obtain ⟨P, Q, rfl, rfl, H0, O, hP, hQ⟩ := hcut
    go_wp2_with fail
    obtain ⟨bL, hbL, z⟩ := one wc [.pointer (some ⟨P, 0, none⟩), .pointer (some ⟨Q, 0, none⟩)] 62
    have O0 := over_step O hbL
    have H1 := GS.init (xs := mc aa ai ah ap 0 0 0 0 0) (fs := mc ba bi bh bp 0 0 0 0 0) (H0.bX.keep hbL) (H0.bF.keep hbL) H0.ne H0.lX H0.lF
    have hLP : wc.heap.size ≠ P := Nat.ne_of_gt H0.bX.lt
    have hLQ : wc.heap.size ≠ Q := Nat.ne_of_gt H0.bF.lt
    have hw2c := O.size
    obtain ⟨W0, eW⟩ : ∃ u, u = wc.alloc (.cells #[.pointer (some ⟨P, 0, none⟩), .pointer (some ⟨Q, 0, none⟩)] 62) := ⟨_, rfl⟩
    obtain ⟨L, eL⟩ : ∃ u, u = wc.heap.size := ⟨_, rfl⟩
    rw [← eL] at bL hLP hLQ hw2c ⊢
    rw [← eW] at bL O0 H1 ⊢
    have HN := Lib.hid (And.intro hLP (And.intro hLQ (And.intro hP (And.intro hQ hw2c))))
    have HU0 := Lib.hid (And.intro (cell_keep (below_step B0 O0) (World.block_lt_of_cell? w _ HUG.out.1) HUG.out.1) (cell_keep (below_step B0 O0) (World.block_lt_of_cell? w _ HUG.out.2) HUG.out.2))
    clear z hbL H0 O eW eL hLP hLQ hP hQ hw2c
    refine wp_loop_rounds 3 ?_
    rw [rounds_succ]
    have l0 := bL.c 0 rfl
    go_wp2_with fail
    clear l0
    refine (startG H1 (by decide)).mono ?_
    rintro e w3 ⟨rfl, va3, vn3, vc3, H3⟩
    clear H1
    go_wp2_with fail
    refine (linkG H3 (by decide)).mono ?_
    rintro e w4 ⟨rfl, va4, vn4, vc4, H4⟩
    clear H3
    go_wp2_with fail
    rw [rounds_succ]
    have bL4 := H4.kp.bl bL bL.lt HN.out.1 HN.out.2.1
    have l1 := bL4.c 1 rfl
    go_wp2_with fail
    clear l1 bL4
    refine (startG H4.symm (by decide)).mono ?_
    rintro e w5 ⟨rfl, va5, vn5, vc5, H5⟩
    clear H4
    go_wp2_with fail
    refine (linkG H5 (by decide)).mono ?_
    rintro e w6 ⟨rfl, va6, vn6, vc6, H6⟩
    clear H5
    go_wp2_with fail
    rw [rounds_succ]
    go_wp2_with fail
    have H7 : GS W0 w6 W0.heap.size Q P (mc ba bi bh bp 2 bh 0 0 0) (mc aa ai ah ap 2 ah 0 0 0) va6 va4 vn6 vc6 vn4 vc4 [⟨1, ba, bh, bi, 0⟩] [⟨1, aa, ah, ai, 0⟩] := H6
    clear H6
    refine wp_loop_rounds 11 ?_
    rw [rounds_succ]
    go_wp2_with fail
    refine (recv1 (m := ⟨1, aa, ah, ai, 0⟩) H7 HU0.out.1 HU0.out.2 q HPQ.out.2.1 HAL.out.2 (fun _ => HAL.out.1) (.inl ⟨rfl, rfl⟩) (by simp)).mono ?_
    rintro e w7 ⟨rfl, va7, ra7, vn7, vc7, rn7, rc7, H8⟩
    clear H7
    obtain ⟨Y, eY⟩ : ∃ Y, Y = stepF ba bi bh 2 bh 0 0 0 4 0 1 aa ah q := ⟨_, rfl⟩
    replace H8 : GS W0 w7 W0.heap.size Q P (mc ba bi bh bp Y.a Y.b Y.c Y.d Y.e) (mc aa ai ah ap 2 ah 0 0 0) va7 ra7 vn7 vc7 rn7 rc7 ([⟨1, ba, bh, bi, 0⟩] ++ Y.l) [] := by
      rw [eY]
      exact H8
    obtain ⟨my, hmy, hky, hoy, hay⟩ := first_out ba bi bh aa ah q Y eY
    rw [hmy] at H8
    have HY := Lib.hid (And.intro eY (And.intro hky (And.intro hoy hay)))
    clear eY hmy hky hoy hay
    go_wp2_with fail
    rw [rounds_succ]
    go_wp2_with fail
    refine (recv0 H8).mono ?_
    rintro e w8 ⟨rfl, rfl⟩
    go_wp2_with fail
    refine (recv2 (m := ⟨1, ba, bh, bi, 0⟩) (m2 := my) H8.symm HU0.out.1 HU0.out.2 p HPQ.out.1 HAL.out.1 (fun _ => HAL.out.2) (.inl ⟨rfl, rfl⟩) (by simp)).mono ?_
    rintro e w9 ⟨rfl, va9, ra9, vn9, vc9, rn9, rc9, H9⟩
    clear H8
    obtain ⟨X, eX⟩ : ∃ X, X = stepF aa ai ah 2 ah 0 0 0 4 0 1 ba bh p := ⟨_, rfl⟩
    replace H9 : GS W0 w9 W0.heap.size P Q (mc aa ai ah ap X.a X.b X.c X.d X.e) (mc ba bi bh bp Y.a Y.b Y.c Y.d Y.e) va9 ra9 vn9 vc9 rn9 rc9 ([] ++ X.l) [my] := by
      rw [eX]
      exact H9
    obtain ⟨mx, hmx, hkx, hox, hax⟩ := first_out aa ai ah ba bh p X eX
    rw [hmx] at H9
    have HX := Lib.hid (And.intro eX (And.intro hkx (And.intro hox hax)))
    clear eX hmx hkx hox hax
    go_wp2_with fail
    rw [rounds_succ]
    go_wp2_with fail
    refine (recv1 (m := mx) H9.symm HU0.out.1 HU0.out.2 _ rfl HAL.out.2 (fun h => by have := HX.out.2.1; omega) (.inr ⟨HY.out.2.2.2, HX.out.2.1⟩) (by simp)).mono ?_
    rintro e w10 ⟨rfl, va10, ra10, vn10, vc10, rn10, rc10, H10⟩
    clear H9
    rw [last_out ba bi bh aa ah q p _ Y HY.out.1 mx HX.out.2.1 HX.out.2.2.1, gF_l, Bool.and_comm q p, ← HPQ.out.2.2.1, ← HPQ.out.2.2.2.2] at H10
    go_wp2_with fail
    rw [rounds_succ]
    go_wp2_with fail
    refine (recv0 H10).mono ?_
    rintro e w11 ⟨rfl, rfl⟩
    go_wp2_with fail
    refine (recv1 (m := my) H10.symm HU0.out.1 HU0.out.2 _ rfl HAL.out.1 (fun h => by have := HY.out.2.1; omega) (.inr ⟨HX.out.2.2.2, HY.out.2.1⟩) (by simp)).mono ?_
    rintro e w12 ⟨rfl, va12, ra12, vn12, vc12, rn12, rc12, H12⟩
    clear H10
    rw [last_out aa ai ah ba bh p q _ X HX.out.1 my HY.out.2.1 HY.out.2.2.1, gF_l, ← HPQ.out.2.2.1, ← HPQ.out.2.2.2.1] at H12
    go_wp2_with fail
    rw [rounds_succ]
    go_wp2_with fail
    refine (recv0 H12.symm).mono ?_
    rintro e w13 ⟨rfl, rfl⟩
    go_wp2_with fail
    refine (recv0 H12).mono ?_
    rintro e w14 ⟨rfl, rfl⟩
    go_wp2_with fail
    have hLF := H12.lF
    have hbR := bR.lt
    have hbS := bS.lt
    have hPQ := HN.out
    have hO0 := O0.size
    have hR1 : w.heap.size + 1 + 1 < W0.heap.size := by omega
    have bR12 := H12.kp.bl (bR.keep O0) (by omega) (by omega) (by omega)
    have bS12 := H12.kp.bl (bS.keep O0) (by omega) (by omega) (by omega)
    have B12 := H12.kp.out (below_step B0 O0) (by omega) (by omega) (by omega)
    have bP : Bl w12 P [.int .i64 aa, .int .i64 ai, .int .i64 ah, .int .i64 ap, .int .i64 G.a, .int .i64 G.b, .int .i64 G.c, .int .i64 G.d, .int .i64 G.e, .slice va12 vn12 vc12] := H12.bX
    have bQ : Bl w12 Q [.int .i64 ba, .int .i64 bi, .int .i64 bh, .int .i64 bp, .int .i64 J.a, .int .i64 J.b, .int .i64 J.c, .int .i64 J.d, .int .i64 J.e, .slice ra12 rn12 rc12] := H12.bF
    have hne : P ≠ Q := H12.ne
    have hPR : P ≠ w.heap.size + 1 + 1 := by omega
    have hPS : P ≠ w.heap.size + 1 + 1 + 1 := by omega
    have hQR : Q ≠ w.heap.size + 1 + 1 := by omega
    have hQS : Q ≠ w.heap.size + 1 + 1 + 1 := by omega
    clear H12 bR bS B0 bA bB bL O0 hLF hbR hbS hPQ hO0 hR1 HN HUG HU0
    refine wp_region_held_drew (S := fun w' => Bl w' P [.int .i64 aa, .int .i64 ai, .int .i64 ah, .int .i64 ap, .int .i64 G.a, .int .i64 G.b, .int .i64 G.c, .int .i64 G.d, .int .i64 G.e, .slice va12 vn12 vc12] ∧ Bl w' Q [.int .i64 ba, .int .i64 bi, .int .i64 bh, .int .i64 bp, .int .i64 J.a, .int .i64 J.b, .int .i64 J.c, .int .i64 J.d, .int .i64 J.e, .slice ra12 rn12 rc12]) (by kernel_rfl) ⟨bP.keep (over_drew w12), bQ.keep (over_drew w12)⟩ (fun hHeld => ?_)
    refine wpAnyH_take (i := 0) (v := ?_) rfl (by kernel_rfl) (by kernel_rfl) (by kernel_rfl) (fun _ _ _ h => h) (Or.inl ⟨by rfl, ?_⟩) (by assumption) ?_
    rotate_left
    · intro wq hSq
      (try dsimp only at hSq)

      go_simp
      try rfl
    change wpAnyH _ _ _ _ _ _ _ (Act.put _ (some 55) _) _
    simp only [Act.put, List.setIfInBounds_toArray, List.set_cons_succ, List.set_cons_zero]
    refine wpAnyH_take (i := 1) (v := ?_) rfl (by kernel_rfl) (by kernel_rfl) (by kernel_rfl) (fun _ _ _ h => h) (Or.inl ⟨by rfl, ?_⟩) (by assumption) ?_
    rotate_left
    · intro wq hSq
      (try dsimp only at hSq)

      go_simp
      try rfl
    change wpAnyH _ _ _ _ _ _ _ (Act.put _ (some 56) _) _
    simp only [Act.put, List.setIfInBounds_toArray, List.set_cons_succ, List.set_cons_zero]
    refine wpAnyH_take (i := 2) (v := ?_) rfl (by kernel_rfl) (by kernel_rfl) (by kernel_rfl) (fun _ _ _ h => h) (Or.inl ⟨by rfl, ?_⟩) (by assumption) ?_
    rotate_left
    · intro wq hSq
      (try dsimp only at hSq)

      go_simp
      try rfl
    change wpAnyH _ _ _ _ _ _ _ (Act.put _ (some 57) _) _
    simp only [Act.put, List.setIfInBounds_toArray, List.set_cons_succ, List.set_cons_zero]
    refine wpAnyH_take (i := 3) (v := ?_) rfl (by kernel_rfl) (by kernel_rfl) (by kernel_rfl) (fun _ _ _ h => h) (Or.inl ⟨by rfl, ?_⟩) (by assumption) ?_
    rotate_left
    · intro wq hSq
      (try dsimp only at hSq)
      have q4 := hSq.1.c 4 rfl
      have q5 := hSq.1.c 5 rfl
      have q6 := hSq.1.c 6 rfl
      have q7 := hSq.1.c 7 rfl
      have q8 := hSq.1.c 8 rfl
      go_simp
      try rfl
    change wpAnyH _ _ _ _ _ _ _ (Act.put _ (some 58) _) _
    simp only [Act.put, List.setIfInBounds_toArray, List.set_cons_succ, List.set_cons_zero]
    refine wpAnyH_take (i := 4) (v := ?_) rfl (by kernel_rfl) (by kernel_rfl) (by kernel_rfl) (fun _ _ _ h => h) (Or.inl ⟨by rfl, ?_⟩) (by assumption) ?_
    rotate_left
    · intro wq hSq
      (try dsimp only at hSq)

      go_simp
      try rfl
    change wpAnyH _ _ _ _ _ _ _ (Act.put _ (some 59) _) _
    simp only [Act.put, List.setIfInBounds_toArray, List.set_cons_succ, List.set_cons_zero]
    refine wpAnyH_take (i := 5) (v := ?_) rfl (by kernel_rfl) (by kernel_rfl) (by kernel_rfl) (fun _ _ _ h => h) (Or.inl ⟨by rfl, ?_⟩) (by assumption) ?_
    rotate_left
    · intro wq hSq
      (try dsimp only at hSq)

      go_simp
      try rfl
    change wpAnyH _ _ _ _ _ _ _ (Act.put _ (some 60) _) _
    simp only [Act.put, List.setIfInBounds_toArray, List.set_cons_succ, List.set_cons_zero]
    refine wpAnyH_take (i := 6) (v := ?_) rfl (by kernel_rfl) (by kernel_rfl) (by kernel_rfl) (fun _ _ _ h => h) (Or.inl ⟨by rfl, ?_⟩) (by assumption) ?_
    rotate_left
    · intro wq hSq
      (try dsimp only at hSq)

      go_simp
      try rfl
    change wpAnyH _ _ _ _ _ _ _ (Act.put _ (some 61) _) _
    simp only [Act.put, List.setIfInBounds_toArray, List.set_cons_succ, List.set_cons_zero]
    refine wpAnyH_take (i := 7) (v := ?_) rfl (by kernel_rfl) (by kernel_rfl) (by kernel_rfl) (fun _ _ _ h => h) (Or.inl ⟨by rfl, ?_⟩) (by assumption) ?_
    rotate_left
    · intro wq hSq
      (try dsimp only at hSq)
      have q4 := hSq.2.c 4 rfl
      have q5 := hSq.2.c 5 rfl
      have q6 := hSq.2.c 6 rfl
      have q7 := hSq.2.c 7 rfl
      have q8 := hSq.2.c 8 rfl
      go_simp
      try rfl
    change wpAnyH _ _ _ _ _ _ _ (Act.put _ (some 62) _) _
    simp only [Act.put, List.setIfInBounds_toArray, List.set_cons_succ, List.set_cons_zero]
    refine wpAnyH_take (i := 8) (v := ?_) rfl (by kernel_rfl) (by kernel_rfl) (by kernel_rfl) (fun _ _ _ h => h) (Or.inl ⟨by rfl, ?_⟩) (by assumption) ?_
    rotate_left
    · intro wq hSq
      (try dsimp only at hSq)

      go_simp
      try rfl
    change wpAnyH _ _ _ _ _ _ _ (Act.put _ (some 63) _) _
    simp only [Act.put, List.setIfInBounds_toArray, List.set_cons_succ, List.set_cons_zero]
    refine wpAnyH_take (i := 9) (v := ?_) rfl (by kernel_rfl) (by kernel_rfl) (by kernel_rfl) (fun _ _ _ h => h) (Or.inl ⟨by rfl, ?_⟩) (by assumption) ?_
    rotate_left
    · intro wq hSq
      (try dsimp only at hSq)

      go_simp
      try rfl
    change wpAnyH _ _ _ _ _ _ _ (Act.put _ (some 64) _) _
    simp only [Act.put, List.setIfInBounds_toArray, List.set_cons_succ, List.set_cons_zero]
    refine wpAnyH_take (i := 10) (v := ?_) rfl (by kernel_rfl) (by kernel_rfl) (by kernel_rfl) (fun _ _ _ h => h) (Or.inl ⟨by rfl, ?_⟩) (by assumption) ?_
    rotate_left
    · intro wq hSq
      (try dsimp only at hSq)

      go_simp
      try rfl
    change wpAnyH _ _ _ _ _ _ _ (Act.put _ (some 65) _) _
    simp only [Act.put, List.setIfInBounds_toArray, List.set_cons_succ, List.set_cons_zero]
    refine wpAnyH_take (i := 11) (v := ?_) rfl (by kernel_rfl) (by kernel_rfl) (by kernel_rfl) (fun _ _ _ h => h) (Or.inl ⟨by rfl, ?_⟩) (by assumption) ?_
    rotate_left
    · intro wq hSq
      (try dsimp only at hSq)

      go_simp
      try rfl
    change wpAnyH _ _ _ _ _ _ _ (Act.put _ (some 66) _) _
    simp only [Act.put, List.setIfInBounds_toArray, List.set_cons_succ, List.set_cons_zero]
    refine wpAnyH_take (i := 12) (v := ?_) rfl (by kernel_rfl) (by kernel_rfl) (by kernel_rfl) (fun _ _ _ h => h) (Or.inl ⟨by rfl, ?_⟩) (by assumption) ?_
    rotate_left
    · intro wq hSq
      (try dsimp only at hSq)
      have q4 := hSq.1.c 4 rfl
      go_simp
      try rfl
    change wpAnyH _ _ _ _ _ _ _ (Act.put _ (some 67) _) _
    simp only [Act.put, List.setIfInBounds_toArray, List.set_cons_succ, List.set_cons_zero]
    refine wpAnyH_take (i := 13) (v := ?_) rfl (by kernel_rfl) (by kernel_rfl) (by kernel_rfl) (fun _ _ _ h => h) (Or.inl ⟨by rfl, ?_⟩) (by assumption) ?_
    rotate_left
    · intro wq hSq
      (try dsimp only at hSq)

      go_simp
      try rfl
    change wpAnyH _ _ _ _ _ _ _ (Act.put _ (some 68) _) _
    simp only [Act.put, List.setIfInBounds_toArray, List.set_cons_succ, List.set_cons_zero]
    refine wpAnyH_take (i := 14) (v := ?_) rfl (by kernel_rfl) (by kernel_rfl) (by kernel_rfl) (fun _ _ _ h => h) (Or.inl ⟨by rfl, ?_⟩) (by assumption) ?_
    rotate_left
    · intro wq hSq
      (try dsimp only at hSq)

      go_simp
      try rfl
    change wpAnyH _ _ _ _ _ _ _ (Act.put _ (some 69) _) _
    simp only [Act.put, List.setIfInBounds_toArray, List.set_cons_succ, List.set_cons_zero]
    refine wpAnyH_take (i := 15) (v := ?_) rfl (by kernel_rfl) (by kernel_rfl) (by kernel_rfl) (fun _ _ _ h => h) (Or.inl ⟨by rfl, ?_⟩) (by assumption) ?_
    rotate_left
    · intro wq hSq
      (try dsimp only at hSq)

      go_simp
      try rfl
    change wpAnyH _ _ _ _ _ _ _ (Act.put _ (some 70) _) _
    simp only [Act.put, List.setIfInBounds_toArray, List.set_cons_succ, List.set_cons_zero]
    refine wpAnyH_take (i := 16) (v := ?_) rfl (by kernel_rfl) (by kernel_rfl) (by kernel_rfl) (fun _ _ _ h => h) (Or.inl ⟨by rfl, ?_⟩) (by assumption) ?_
    rotate_left
    · intro wq hSq
      (try dsimp only at hSq)

      go_simp
      try rfl
    change wpAnyH _ _ _ _ _ _ _ (Act.put _ (some 71) _) _
    simp only [Act.put, List.setIfInBounds_toArray, List.set_cons_succ, List.set_cons_zero]
    refine wpAnyH_take (i := 17) (v := ?_) rfl (by kernel_rfl) (by kernel_rfl) (by kernel_rfl) (fun _ _ _ h => h) (Or.inl ⟨by rfl, ?_⟩) (by assumption) ?_
    rotate_left
    · intro wq hSq
      (try dsimp only at hSq)

      go_simp
      try rfl
    change wpAnyH _ _ _ _ _ _ _ (Act.put _ (some 72) _) _
    simp only [Act.put, List.setIfInBounds_toArray, List.set_cons_succ, List.set_cons_zero]
    refine wpAnyH_take (i := 18) (v := ?_) rfl (by kernel_rfl) (by kernel_rfl) (by kernel_rfl) (fun _ _ _ h => h) (Or.inl ⟨by rfl, ?_⟩) (by assumption) ?_
    rotate_left
    · intro wq hSq
      (try dsimp only at hSq)

      go_simp
      try rfl
    change wpAnyH _ _ _ _ _ _ _ (Act.put _ (some 73) _) _
    simp only [Act.put, List.setIfInBounds_toArray, List.set_cons_succ, List.set_cons_zero]
    refine wpAnyH_take (i := 19) (v := ?_) rfl (by kernel_rfl) (by kernel_rfl) (by kernel_rfl) (fun _ _ _ h => h) (Or.inl ⟨by rfl, ?_⟩) (by assumption) ?_
    rotate_left
    · intro wq hSq
      (try dsimp only at hSq)
      have q4 := hSq.2.c 4 rfl
      go_simp
      try rfl
    change wpAnyH _ _ _ _ _ _ _ (Act.put _ (some 74) _) _
    simp only [Act.put, List.setIfInBounds_toArray, List.set_cons_succ, List.set_cons_zero]
    refine wpAnyH_take (i := 20) (v := ?_) rfl (by kernel_rfl) (by kernel_rfl) (by kernel_rfl) (fun _ _ _ h => h) (Or.inl ⟨by rfl, ?_⟩) (by assumption) ?_
    rotate_left
    · intro wq hSq
      (try dsimp only at hSq)

      go_simp
      try rfl
    change wpAnyH _ _ _ _ _ _ _ (Act.put _ (some 75) _) _
    simp only [Act.put, List.setIfInBounds_toArray, List.set_cons_succ, List.set_cons_zero]
    refine wpAnyH_take (i := 21) (v := ?_) rfl (by kernel_rfl) (by kernel_rfl) (by kernel_rfl) (fun _ _ _ h => h) (Or.inl ⟨by rfl, ?_⟩) (by assumption) ?_
    rotate_left
    · intro wq hSq
      (try dsimp only at hSq)

      go_simp
      try rfl
    change wpAnyH _ _ _ _ _ _ _ (Act.put _ (some 76) _) _
    simp only [Act.put, List.setIfInBounds_toArray, List.set_cons_succ, List.set_cons_zero]
    obtain ⟨w15, e15⟩ : ∃ u, u = w12.drew := ⟨_, rfl⟩
    have O15 : Over w12 w15 := by rw [e15]; exact over_drew w12
    rw [← e15]
    clear e15 hHeld
    replace bP := bP.keep O15
    replace bQ := bQ.keep O15
    have bR := bR12.keep O15
    have bS := bS12.keep O15
    have B0 := below_step B12 O15
    clear bR12 bS12 B12 O15
    have r0 := bR.c 0 rfl
    have s0f := bR.f 0 (x := _) rfl
    have t0 := bS.c 0 rfl
    have t0f := bS.f 0 (x := _) rfl
    have r1 := bR.c 1 rfl
    have s1f := bR.f 1 (x := _) rfl
    have t1 := bS.c 1 rfl
    have t1f := bS.f 1 (x := _) rfl
    have r2 := bR.c 2 rfl
    have s2f := bR.f 2 (x := _) rfl
    have t2 := bS.c 2 rfl
    have t2f := bS.f 2 (x := _) rfl
    have r3 := bR.c 3 rfl
    have s3f := bR.f 3 (x := _) rfl
    have t3 := bS.c 3 rfl
    have t3f := bS.f 3 (x := _) rfl
    have r4 := bR.c 4 rfl
    have s4f := bR.f 4 (x := _) rfl
    have t4 := bS.c 4 rfl
    have t4f := bS.f 4 (x := _) rfl
    refine wpAnyH_ready (rs := [22]) (by kernel_rfl) (by simp) ?_
    refine (AllReadyH.cons rfl (fun K hK => ?_) AllReadyH.nil)
    go_simp
    refine hK.out _ _ ⟨((((((bP.far (C := w.heap.size + 1 + 1) (o := 0) (u := .int .i64 G.a) hPR).far (C := w.heap.size + 1 + 1) (o := 1) (u := .int .i64 G.b) hPR).far (C := w.heap.size + 1 + 1) (o := 2) (u := .int .i64 G.c) hPR).far (C := w.heap.size + 1 + 1) (o := 3) (u := .int .i64 G.d) hPR).far (C := w.heap.size + 1 + 1) (o := 4) (u := .int .i64 G.e) hPR)), ((((((bQ.far (C := w.heap.size + 1 + 1) (o := 0) (u := .int .i64 G.a) hQR).far (C := w.heap.size + 1 + 1) (o := 1) (u := .int .i64 G.b) hQR).far (C := w.heap.size + 1 + 1) (o := 2) (u := .int .i64 G.c) hQR).far (C := w.heap.size + 1 + 1) (o := 3) (u := .int .i64 G.d) hQR).far (C := w.heap.size + 1 + 1) (o := 4) (u := .int .i64 G.e) hQR))⟩ (fun _ => ?_)
    clear hK K
    try simp only [Act.put, List.setIfInBounds_toArray, List.set_cons_zero, List.set_cons_succ]
    refine wpAnyH_ready (rs := [23]) (by kernel_rfl) (by simp) ?_
    refine (AllReadyH.cons rfl (fun K hK => ?_) AllReadyH.nil)
    go_simp
    refine hK.out _ _ ⟨((((((((((((bP.far (C := w.heap.size + 1 + 1) (o := 0) (u := .int .i64 G.a) hPR).far (C := w.heap.size + 1 + 1) (o := 1) (u := .int .i64 G.b) hPR).far (C := w.heap.size + 1 + 1) (o := 2) (u := .int .i64 G.c) hPR).far (C := w.heap.size + 1 + 1) (o := 3) (u := .int .i64 G.d) hPR).far (C := w.heap.size + 1 + 1) (o := 4) (u := .int .i64 G.e) hPR)).far (C := w.heap.size + 1 + 1 + 1) (o := 0) (u := .int .i64 J.a) hPS).far (C := w.heap.size + 1 + 1 + 1) (o := 1) (u := .int .i64 J.b) hPS).far (C := w.heap.size + 1 + 1 + 1) (o := 2) (u := .int .i64 J.c) hPS).far (C := w.heap.size + 1 + 1 + 1) (o := 3) (u := .int .i64 J.d) hPS).far (C := w.heap.size + 1 + 1 + 1) (o := 4) (u := .int .i64 J.e) hPS)), ((((((((((((bQ.far (C := w.heap.size + 1 + 1) (o := 0) (u := .int .i64 G.a) hQR).far (C := w.heap.size + 1 + 1) (o := 1) (u := .int .i64 G.b) hQR).far (C := w.heap.size + 1 + 1) (o := 2) (u := .int .i64 G.c) hQR).far (C := w.heap.size + 1 + 1) (o := 3) (u := .int .i64 G.d) hQR).far (C := w.heap.size + 1 + 1) (o := 4) (u := .int .i64 G.e) hQR)).far (C := w.heap.size + 1 + 1 + 1) (o := 0) (u := .int .i64 J.a) hQS).far (C := w.heap.size + 1 + 1 + 1) (o := 1) (u := .int .i64 J.b) hQS).far (C := w.heap.size + 1 + 1 + 1) (o := 2) (u := .int .i64 J.c) hQS).far (C := w.heap.size + 1 + 1 + 1) (o := 3) (u := .int .i64 J.d) hQS).far (C := w.heap.size + 1 + 1 + 1) (o := 4) (u := .int .i64 J.e) hQS))⟩ (fun _ => ?_)
    clear hK K
    try simp only [Act.put, List.setIfInBounds_toArray, List.set_cons_zero, List.set_cons_succ]
    refine wpAnyH_ready (rs := [24]) (by kernel_rfl) (by simp) ?_
    refine (AllReadyH.cons rfl (fun K hK => ?_) AllReadyH.nil)
    go_simp
    refine hK.out _ _ ⟨((((((((((((bP.far (C := w.heap.size + 1 + 1) (o := 0) (u := .int .i64 G.a) hPR).far (C := w.heap.size + 1 + 1) (o := 1) (u := .int .i64 G.b) hPR).far (C := w.heap.size + 1 + 1) (o := 2) (u := .int .i64 G.c) hPR).far (C := w.heap.size + 1 + 1) (o := 3) (u := .int .i64 G.d) hPR).far (C := w.heap.size + 1 + 1) (o := 4) (u := .int .i64 G.e) hPR)).far (C := w.heap.size + 1 + 1 + 1) (o := 0) (u := .int .i64 J.a) hPS).far (C := w.heap.size + 1 + 1 + 1) (o := 1) (u := .int .i64 J.b) hPS).far (C := w.heap.size + 1 + 1 + 1) (o := 2) (u := .int .i64 J.c) hPS).far (C := w.heap.size + 1 + 1 + 1) (o := 3) (u := .int .i64 J.d) hPS).far (C := w.heap.size + 1 + 1 + 1) (o := 4) (u := .int .i64 J.e) hPS)), ((((((((((((bQ.far (C := w.heap.size + 1 + 1) (o := 0) (u := .int .i64 G.a) hQR).far (C := w.heap.size + 1 + 1) (o := 1) (u := .int .i64 G.b) hQR).far (C := w.heap.size + 1 + 1) (o := 2) (u := .int .i64 G.c) hQR).far (C := w.heap.size + 1 + 1) (o := 3) (u := .int .i64 G.d) hQR).far (C := w.heap.size + 1 + 1) (o := 4) (u := .int .i64 G.e) hQR)).far (C := w.heap.size + 1 + 1 + 1) (o := 0) (u := .int .i64 J.a) hQS).far (C := w.heap.size + 1 + 1 + 1) (o := 1) (u := .int .i64 J.b) hQS).far (C := w.heap.size + 1 + 1 + 1) (o := 2) (u := .int .i64 J.c) hQS).far (C := w.heap.size + 1 + 1 + 1) (o := 3) (u := .int .i64 J.d) hQS).far (C := w.heap.size + 1 + 1 + 1) (o := 4) (u := .int .i64 J.e) hQS))⟩ (fun _ => ?_)
    clear hK K
    try simp only [Act.put, List.setIfInBounds_toArray, List.set_cons_zero, List.set_cons_succ]
    refine wpAnyH_done (by kernel_rfl) ?_ _
    have bR2 := ((((((bR.set5 (.int .i64 G.a) (.int .i64 G.b) (.int .i64 G.c) (.int .i64 G.d) (.int .i64 G.e)).far (C := w.heap.size + 1 + 1 + 1) (o := 0) (u := .int .i64 J.a) (by omega)).far (C := w.heap.size + 1 + 1 + 1) (o := 1) (u := .int .i64 J.b) (by omega)).far (C := w.heap.size + 1 + 1 + 1) (o := 2) (u := .int .i64 J.c) (by omega)).far (C := w.heap.size + 1 + 1 + 1) (o := 3) (u := .int .i64 J.d) (by omega)).far (C := w.heap.size + 1 + 1 + 1) (o := 4) (u := .int .i64 J.e) (by omega))
    have bS2 := ((((((bS.far (C := w.heap.size + 1 + 1) (o := 0) (u := .int .i64 G.a) (by omega)).far (C := w.heap.size + 1 + 1) (o := 1) (u := .int .i64 G.b) (by omega)).far (C := w.heap.size + 1 + 1) (o := 2) (u := .int .i64 G.c) (by omega)).far (C := w.heap.size + 1 + 1) (o := 3) (u := .int .i64 G.d) (by omega)).far (C := w.heap.size + 1 + 1) (o := 4) (u := .int .i64 G.e) (by omega))).set5 (.int .i64 J.a) (.int .i64 J.b) (.int .i64 J.c) (.int .i64 J.d) (.int .i64 J.e)
    have B2 := below_set5 (below_set5 B0 (B := w.heap.size + 1 + 1) (by omega) (.int .i64 G.a) (.int .i64 G.b) (.int .i64 G.c) (.int .i64 G.d) (.int .i64 G.e)) (B := w.heap.size + 1 + 1 + 1) (by omega) (.int .i64 J.a) (.int .i64 J.b) (.int .i64 J.c) (.int .i64 J.d) (.int .i64 J.e)
    clear r0 s0f t0 t0f r1 s1f t1 t1f r2 s2f t2 t2f r3 s3f t3 t3f r4 s4f t4 t4f
    clear bR bS B0
    go_wp2
    obtain ⟨W2, hW2⟩ : ∃ W2, W2 = ((((((((((w15.setCell ⟨w.heap.size + 1 + 1, 0, none⟩ (.int .i64 G.a)).setCell ⟨w.heap.size + 1 + 1, 1, none⟩ (.int .i64 G.b)).setCell ⟨w.heap.size + 1 + 1, 2, none⟩ (.int .i64 G.c)).setCell ⟨w.heap.size + 1 + 1, 3, none⟩ (.int .i64 G.d)).setCell ⟨w.heap.size + 1 + 1, 4, none⟩ (.int .i64 G.e)).setCell ⟨w.heap.size + 1 + 1 + 1, 0, none⟩ (.int .i64 J.a)).setCell ⟨w.heap.size + 1 + 1 + 1, 1, none⟩ (.int .i64 J.b)).setCell ⟨w.heap.size + 1 + 1 + 1, 2, none⟩ (.int .i64 J.c)).setCell ⟨w.heap.size + 1 + 1 + 1, 3, none⟩ (.int .i64 J.d)).setCell ⟨w.heap.size + 1 + 1 + 1, 4, none⟩ (.int .i64 J.e)) := ⟨_, rfl⟩
    rw [← hW2] at bR2 bS2 B2 ⊢
    clear hW2
    have r0 := bR2.c 0 rfl
    have t0 := bS2.c 0 rfl
    have r1 := bR2.c 1 rfl
    have t1 := bS2.c 1 rfl
    have r2 := bR2.c 2 rfl
    have t2 := bS2.c 2 rfl
    have r3 := bR2.c 3 rfl
    have t3 := bS2.c 3 rfl
    have r4 := bR2.c 4 rfl
    have t4 := bS2.c 4 rfl
    exact bodyPost_ret (v := .tuple #[.agg #[.int .i64 G.a, .int .i64 G.b, .int .i64 G.c, .int .i64 G.d, .int .i64 G.e], .agg #[.int .i64 J.a, .int .i64 J.b, .int .i64 J.c, .int .i64 J.d, .int .i64 J.e], .bool true]) (by simp [results, Tryd.results7, go_sem, r0, t0, r1, t1, r2, t2, r3, t3, r4, t4]) rfl ⟨rfl, B2⟩
set_option maxHeartbeats 8000000 in
theorem iGreet_false (aa ai ah ap ba bi bh bp : Int) (u : Value) (w : World) (hu0 : w.cell? ⟨0, 0, none⟩ = some (.iface 194 u)) (hg0 : w.cell? ⟨1, 0, none⟩ = some (.iface 172 (.agg #[.pointer (some ⟨6, 103, none⟩)]))) (HA : Hid (cokB aa ai ah ap = true)) (HB : Hid (cokB ba bi bh bp = true)) (p q : Bool) (hp : p = accB aa ai ah ap [] [] [] [] 1 ba bh bi 0 0 0) (hq : q = accB ba bi bh bp [] [] [] [] 1 aa ah ai 0 0 0) (ht : false = (p && q)) (G J : St) (hG : G = gF ah ba bh false) (hJ : J = gF bh aa ah false) :
    Calls Tryd.prog 7 #[.agg #[.int .i64 aa, .int .i64 ai, .int .i64 ah, .int .i64 ap], .agg #[.int .i64 ba, .int .i64 bi, .int .i64 bh, .int .i64 bp]] w fun e w' => e = .returned (.tuple #[.agg #[.int .i64 G.a, .int .i64 G.b, .int .i64 G.c, .int .i64 G.d, .int .i64 G.e], .agg #[.int .i64 J.a, .int .i64 J.b, .int .i64 J.c, .int .i64 J.d, .int .i64 J.e], .bool false]) ∧ Below w.heap.size w w' := by
  have hA3 := cokB_ho HA.out
  have hB3 := cokB_ho HB.out
  have hsz : 1 < w.heap.size := World.block_lt_of_cell? w _ hg0
  have hga : (G.a == 4) = false := by rw [hG]; exact gF_a _ _ _ _
  have hja : (J.a == 4) = false := by rw [hJ]; exact gF_a _ _ _ _
  have HAL := Lib.hid (And.intro hA3 hB3)
  have HPQ := Lib.hid (And.intro hp (And.intro hq (And.intro ht (And.intro hG hJ))))
  have HUG := Lib.hid (And.intro hu0 hg0)
  clear hA3 hB3 hp hq ht hu0 hg0 hG hJ
  obtain ⟨bA, bB, bR, bS, B0, z⟩ := four w [.int .i64 aa, .int .i64 ai, .int .i64 ah, .int .i64 ap] [.int .i64 ba, .int .i64 bi, .int .i64 bh, .int .i64 bp] [.int .i64 0, .int .i64 0, .int .i64 0, .int .i64 0, .int .i64 0] [.int .i64 0, .int .i64 0, .int .i64 0, .int .i64 0, .int .i64 0] 24 24 28 28
  clear z
  go_enter Tryd.func7, Tryd.ntmps7
  have fa0 := bA.c 0 rfl
  have fa1 := bA.c 1 rfl
  have fa2 := bA.c 2 rfl
  have fa3 := bA.c 3 rfl
  go_wp2_with fail
  clear fa0 fa1 fa2 fa3
  refine (iCf_t _ HA).mono ?_
  rintro e w1 ⟨rfl, hb⟩
  replace bA := bA.keep hb
  replace bB := bB.keep hb
  replace bR := bR.keep hb
  replace bS := bS.keep hb
  replace B0 := below_step B0 hb
  clear hb
  have fb0 := bB.c 0 rfl
  have fb1 := bB.c 1 rfl
  have fb2 := bB.c 2 rfl
  have fb3 := bB.c 3 rfl
  go_wp2_with fail
  clear fb0 fb1 fb2 fb3
  refine (iCf_t _ HB).mono ?_
  rintro e w2 ⟨rfl, hb⟩
  replace bA := bA.keep hb
  replace bB := bB.keep hb
  replace bR := bR.keep hb
  replace bS := bS.keep hb
  replace B0 := below_step B0 hb
  clear hb
  have hw2 := B0.size
  go_wp2_with fail
  go_cut [7, 8] from 21 (fun s7 s8 wx => TwoM w2 wx aa ai ah ap ba bi bh bp s7 s8)
  case first =>
    refine wp_region_held_drew (S := fun w' => Over w2 w') (by kernel_rfl) (over_drew w2) (fun hHeld => ?_)
    obtain ⟨u0, e0⟩ : ∃ u, u = w2.drew := ⟨_, rfl⟩
    have O : Over w2 u0 := by rw [e0]; exact over_drew w2
    rw [← e0]
    clear e0 hHeld
    refine wpAnyH_take (i := 0) (v := ?_) rfl (by kernel_rfl) (by kernel_rfl) (by kernel_rfl) (fun _ _ _ h => h) (Or.inl ⟨by rfl, ?_⟩) O ?_
    rotate_left
    · intro wq hSq
      (try dsimp only at hSq)
      have q0 := bA.o hSq 0 rfl
      have q1 := bA.o hSq 1 rfl
      have q2 := bA.o hSq 2 rfl
      have q3 := bA.o hSq 3 rfl
      go_simp
      try rfl
    change wpAnyH _ _ _ _ _ _ _ (Act.put _ (some 21) _) _
    simp only [Act.put, List.setIfInBounds_toArray, List.set_cons_succ, List.set_cons_zero]
    refine wpAnyH_take (i := 1) (v := ?_) rfl (by kernel_rfl) (by kernel_rfl) (by kernel_rfl) (fun _ _ _ h => h) (Or.inl ⟨by rfl, ?_⟩) O ?_
    rotate_left
    · intro wq hSq
      (try dsimp only at hSq)

      go_simp
      try rfl
    change wpAnyH _ _ _ _ _ _ _ (Act.put _ (some 22) _) _
    simp only [Act.put, List.setIfInBounds_toArray, List.set_cons_succ, List.set_cons_zero]
    refine wpAnyH_take (i := 3) (v := ?_) rfl (by kernel_rfl) (by kernel_rfl) (by kernel_rfl) (fun _ _ _ h => h) (Or.inl ⟨by rfl, ?_⟩) O ?_
    rotate_left
    · intro wq hSq
      (try dsimp only at hSq)
      have q0 := bB.o hSq 0 rfl
      have q1 := bB.o hSq 1 rfl
      have q2 := bB.o hSq 2 rfl
      have q3 := bB.o hSq 3 rfl
      go_simp
      try rfl
    change wpAnyH _ _ _ _ _ _ _ (Act.put _ (some 24) _) _
    simp only [Act.put, List.setIfInBounds_toArray, List.set_cons_succ, List.set_cons_zero]
    refine wpAnyH_take (i := 4) (v := ?_) rfl (by kernel_rfl) (by kernel_rfl) (by kernel_rfl) (fun _ _ _ h => h) (Or.inl ⟨by rfl, ?_⟩) O ?_
    rotate_left
    · intro wq hSq
      (try dsimp only at hSq)

      go_simp
      try rfl
    change wpAnyH _ _ _ _ _ _ _ (Act.put _ (some 25) _) _
    simp only [Act.put, List.setIfInBounds_toArray, List.set_cons_succ, List.set_cons_zero]
    refine wpAnyH_ready (rs := [2, 5]) (by kernel_rfl) (by simp) ?_
    refine (AllReadyH.cons rfl (fun K hK => ?_) (AllReadyH.cons rfl (fun K hK => ?_) AllReadyH.nil))
    · go_simp
      obtain ⟨bP, hb, z⟩ := one u0 [.int .i64 aa, .int .i64 ai, .int .i64 ah, .int .i64 ap, .int .i64 0, .int .i64 0, .int .i64 0, .int .i64 0, .int .i64 0, .slice none 0 0] 64
      have O1 := over_step O hb
      clear z hb
      refine hK.out _ _ O1 (fun _ => ?_)
      clear hK K
      try simp only [Act.put, List.setIfInBounds_toArray, List.set_cons_zero, List.set_cons_succ]
      refine wpAnyH_ready (rs := [5, 6]) (by kernel_rfl) (by simp) ?_
      refine (AllReadyH.cons rfl (fun K hK => ?_) (AllReadyH.cons rfl (fun K hK => ?_) AllReadyH.nil))
      · go_simp
        obtain ⟨bQ, hb, z⟩ := one (u0.alloc (.cells #[.int .i64 aa, .int .i64 ai, .int .i64 ah, .int .i64 ap, .int .i64 0, .int .i64 0, .int .i64 0, .int .i64 0, .int .i64 0, .slice none 0 0] 64)) [.int .i64 ba, .int .i64 bi, .int .i64 bh, .int .i64 bp, .int .i64 0, .int .i64 0, .int .i64 0, .int .i64 0, .int .i64 0, .slice none 0 0] 64
        replace bP := bP.keep hb
        have O2 := over_step O1 hb
        clear z hb
        refine hK.out _ _ O2 (fun _ => ?_)
        clear hK K
        try simp only [Act.put, List.setIfInBounds_toArray, List.set_cons_zero, List.set_cons_succ]
        refine wpAnyH_ready (rs := [6]) (by kernel_rfl) (by simp) ?_
        refine (AllReadyH.cons rfl (fun K hK => ?_) AllReadyH.nil)
        go_simp
        refine hK.out _ _ O2 (fun _ => ?_)
        clear hK K
        try simp only [Act.put, List.setIfInBounds_toArray, List.set_cons_zero, List.set_cons_succ]
        refine wpAnyH_ready (rs := [7]) (by kernel_rfl) (by simp) ?_
        refine (AllReadyH.cons rfl (fun K hK => ?_) AllReadyH.nil)
        go_simp
        refine hK.out _ _ O2 (fun _ => ?_)
        clear hK K
        try simp only [Act.put, List.setIfInBounds_toArray, List.set_cons_zero, List.set_cons_succ]
        refine wpAnyH_done (by kernel_rfl) ?_ _
        have hs0 := O.size
        have hs1 : (u0.alloc (.cells #[.int .i64 aa, .int .i64 ai, .int .i64 ah, .int .i64 ap, .int .i64 0, .int .i64 0, .int .i64 0, .int .i64 0, .int .i64 0, .slice none 0 0] 64)).heap.size = u0.heap.size + 1 := by simp
        rw [hs1] at bQ
        go_wp2_with fail
        go_meet
        case rel => exact ⟨_, _, rfl, rfl, GS.init bP bQ (by omega) (by omega) (by omega), O2, by omega, by omega⟩
      · go_simp
        refine hK.out _ _ O1 (fun _ => ?_)
        clear hK K
        try simp only [Act.put, List.setIfInBounds_toArray, List.set_cons_zero, List.set_cons_succ]
        refine wpAnyH_ready (rs := [5]) (by kernel_rfl) (by simp) ?_
        refine (AllReadyH.cons rfl (fun K hK => ?_) AllReadyH.nil)
        go_simp
        obtain ⟨bQ, hb, z⟩ := one (u0.alloc (.cells #[.int .i64 aa, .int .i64 ai, .int .i64 ah, .int .i64 ap, .int .i64 0, .int .i64 0, .int .i64 0, .int .i64 0, .int .i64 0, .slice none 0 0] 64)) [.int .i64 ba, .int .i64 bi, .int .i64 bh, .int .i64 bp, .int .i64 0, .int .i64 0, .int .i64 0, .int .i64 0, .int .i64 0, .slice none 0 0] 64
        replace bP := bP.keep hb
        have O2 := over_step O1 hb
        clear z hb
        refine hK.out _ _ O2 (fun _ => ?_)
        clear hK K
        try simp only [Act.put, List.setIfInBounds_toArray, List.set_cons_zero, List.set_cons_succ]
        refine wpAnyH_ready (rs := [7]) (by kernel_rfl) (by simp) ?_
        refine (AllReadyH.cons rfl (fun K hK => ?_) AllReadyH.nil)
        go_simp
        refine hK.out _ _ O2 (fun _ => ?_)
        clear hK K
        try simp only [Act.put, List.setIfInBounds_toArray, List.set_cons_zero, List.set_cons_succ]
        refine wpAnyH_done (by kernel_rfl) ?_ _
        have hs0 := O.size
        have hs1 : (u0.alloc (.cells #[.int .i64 aa, .int .i64 ai, .int .i64 ah, .int .i64 ap, .int .i64 0, .int .i64 0, .int .i64 0, .int .i64 0, .int .i64 0, .slice none 0 0] 64)).heap.size = u0.heap.size + 1 := by simp
        rw [hs1] at bQ
        go_wp2_with fail
        go_meet
        case rel => exact ⟨_, _, rfl, rfl, GS.init bP bQ (by omega) (by omega) (by omega), O2, by omega, by omega⟩
    · go_simp
      obtain ⟨bQ, hb, z⟩ := one u0 [.int .i64 ba, .int .i64 bi, .int .i64 bh, .int .i64 bp, .int .i64 0, .int .i64 0, .int .i64 0, .int .i64 0, .int .i64 0, .slice none 0 0] 64
      have O1 := over_step O hb
      clear z hb
      refine hK.out _ _ O1 (fun _ => ?_)
      clear hK K
      try simp only [Act.put, List.setIfInBounds_toArray, List.set_cons_zero, List.set_cons_succ]
      refine wpAnyH_ready (rs := [2]) (by kernel_rfl) (by simp) ?_
      refine (AllReadyH.cons rfl (fun K hK => ?_) AllReadyH.nil)
      go_simp
      obtain ⟨bP, hb, z⟩ := one (u0.alloc (.cells #[.int .i64 ba, .int .i64 bi, .int .i64 bh, .int .i64 bp, .int .i64 0, .int .i64 0, .int .i64 0, .int .i64 0, .int .i64 0, .slice none 0 0] 64)) [.int .i64 aa, .int .i64 ai, .int .i64 ah, .int .i64 ap, .int .i64 0, .int .i64 0, .int .i64 0, .int .i64 0, .int .i64 0, .slice none 0 0] 64
      replace bQ := bQ.keep hb
      have O2 := over_step O1 hb
      clear z hb
      refine hK.out _ _ O2 (fun _ => ?_)
      clear hK K
      try simp only [Act.put, List.setIfInBounds_toArray, List.set_cons_zero, List.set_cons_succ]
      refine wpAnyH_ready (rs := [6]) (by kernel_rfl) (by simp) ?_
      refine (AllReadyH.cons rfl (fun K hK => ?_) AllReadyH.nil)
      go_simp
      refine hK.out _ _ O2 (fun _ => ?_)
      clear hK K
      try simp only [Act.put, List.setIfInBounds_toArray, List.set_cons_zero, List.set_cons_succ]
      refine wpAnyH_ready (rs := [7]) (by kernel_rfl) (by simp) ?_
      refine (AllReadyH.cons rfl (fun K hK => ?_) AllReadyH.nil)
      go_simp
      refine hK.out _ _ O2 (fun _ => ?_)
      clear hK K
      try simp only [Act.put, List.setIfInBounds_toArray, List.set_cons_zero, List.set_cons_succ]
      refine wpAnyH_done (by kernel_rfl) ?_ _
      have hs0 := O.size
      have hs1 : (u0.alloc (.cells #[.int .i64 ba, .int .i64 bi, .int .i64 bh, .int .i64 bp, .int .i64 0, .int .i64 0, .int .i64 0, .int .i64 0, .int .i64 0, .slice none 0 0] 64)).heap.size = u0.heap.size + 1 := by simp
      rw [hs1] at bP
      go_wp2_with fail
      go_meet
      case rel => exact ⟨_, _, rfl, rfl, GS.init bP bQ (by omega) (by omega) (by omega), O2, by omega, by omega⟩
  case rest =>
    obtain ⟨P, Q, rfl, rfl, H0, O, hP, hQ⟩ := hcut
    go_wp2_with fail
    obtain ⟨bL, hbL, z⟩ := one wc [.pointer (some ⟨P, 0, none⟩), .pointer (some ⟨Q, 0, none⟩)] 62
    have O0 := over_step O hbL
    have H1 := GS.init (xs := mc aa ai ah ap 0 0 0 0 0) (fs := mc ba bi bh bp 0 0 0 0 0) (H0.bX.keep hbL) (H0.bF.keep hbL) H0.ne H0.lX H0.lF
    have hLP : wc.heap.size ≠ P := Nat.ne_of_gt H0.bX.lt
    have hLQ : wc.heap.size ≠ Q := Nat.ne_of_gt H0.bF.lt
    have hw2c := O.size
    obtain ⟨W0, eW⟩ : ∃ u, u = wc.alloc (.cells #[.pointer (some ⟨P, 0, none⟩), .pointer (some ⟨Q, 0, none⟩)] 62) := ⟨_, rfl⟩
    obtain ⟨L, eL⟩ : ∃ u, u = wc.heap.size := ⟨_, rfl⟩
    rw [← eL] at bL hLP hLQ hw2c ⊢
    rw [← eW] at bL O0 H1 ⊢
    have HN := Lib.hid (And.intro hLP (And.intro hLQ (And.intro hP (And.intro hQ hw2c))))
    have HU0 := Lib.hid (And.intro (cell_keep (below_step B0 O0) (World.block_lt_of_cell? w _ HUG.out.1) HUG.out.1) (cell_keep (below_step B0 O0) (World.block_lt_of_cell? w _ HUG.out.2) HUG.out.2))
    clear z hbL H0 O eW eL hLP hLQ hP hQ hw2c
    refine wp_loop_rounds 3 ?_
    rw [rounds_succ]
    have l0 := bL.c 0 rfl
    go_wp2_with fail
    clear l0
    refine (startG H1 (by decide)).mono ?_
    rintro e w3 ⟨rfl, va3, vn3, vc3, H3⟩
    clear H1
    go_wp2_with fail
    refine (linkG H3 (by decide)).mono ?_
    rintro e w4 ⟨rfl, va4, vn4, vc4, H4⟩
    clear H3
    go_wp2_with fail
    rw [rounds_succ]
    have bL4 := H4.kp.bl bL bL.lt HN.out.1 HN.out.2.1
    have l1 := bL4.c 1 rfl
    go_wp2_with fail
    clear l1 bL4
    refine (startG H4.symm (by decide)).mono ?_
    rintro e w5 ⟨rfl, va5, vn5, vc5, H5⟩
    clear H4
    go_wp2_with fail
    refine (linkG H5 (by decide)).mono ?_
    rintro e w6 ⟨rfl, va6, vn6, vc6, H6⟩
    clear H5
    go_wp2_with fail
    rw [rounds_succ]
    go_wp2_with fail
    have H7 : GS W0 w6 W0.heap.size Q P (mc ba bi bh bp 2 bh 0 0 0) (mc aa ai ah ap 2 ah 0 0 0) va6 va4 vn6 vc6 vn4 vc4 [⟨1, ba, bh, bi, 0⟩] [⟨1, aa, ah, ai, 0⟩] := H6
    clear H6
    refine wp_loop_rounds 11 ?_
    rw [rounds_succ]
    go_wp2_with fail
    refine (recv1 (m := ⟨1, aa, ah, ai, 0⟩) H7 HU0.out.1 HU0.out.2 q HPQ.out.2.1 HAL.out.2 (fun _ => HAL.out.1) (.inl ⟨rfl, rfl⟩) (by simp)).mono ?_
    rintro e w7 ⟨rfl, va7, ra7, vn7, vc7, rn7, rc7, H8⟩
    clear H7
    obtain ⟨Y, eY⟩ : ∃ Y, Y = stepF ba bi bh 2 bh 0 0 0 4 0 1 aa ah q := ⟨_, rfl⟩
    replace H8 : GS W0 w7 W0.heap.size Q P (mc ba bi bh bp Y.a Y.b Y.c Y.d Y.e) (mc aa ai ah ap 2 ah 0 0 0) va7 ra7 vn7 vc7 rn7 rc7 ([⟨1, ba, bh, bi, 0⟩] ++ Y.l) [] := by
      rw [eY]
      exact H8
    obtain ⟨my, hmy, hky, hoy, hay⟩ := first_out ba bi bh aa ah q Y eY
    rw [hmy] at H8
    have HY := Lib.hid (And.intro eY (And.intro hky (And.intro hoy hay)))
    clear eY hmy hky hoy hay
    go_wp2_with fail
    rw [rounds_succ]
    go_wp2_with fail
    refine (recv0 H8).mono ?_
    rintro e w8 ⟨rfl, rfl⟩
    go_wp2_with fail
    refine (recv2 (m := ⟨1, ba, bh, bi, 0⟩) (m2 := my) H8.symm HU0.out.1 HU0.out.2 p HPQ.out.1 HAL.out.1 (fun _ => HAL.out.2) (.inl ⟨rfl, rfl⟩) (by simp)).mono ?_
    rintro e w9 ⟨rfl, va9, ra9, vn9, vc9, rn9, rc9, H9⟩
    clear H8
    obtain ⟨X, eX⟩ : ∃ X, X = stepF aa ai ah 2 ah 0 0 0 4 0 1 ba bh p := ⟨_, rfl⟩
    replace H9 : GS W0 w9 W0.heap.size P Q (mc aa ai ah ap X.a X.b X.c X.d X.e) (mc ba bi bh bp Y.a Y.b Y.c Y.d Y.e) va9 ra9 vn9 vc9 rn9 rc9 ([] ++ X.l) [my] := by
      rw [eX]
      exact H9
    obtain ⟨mx, hmx, hkx, hox, hax⟩ := first_out aa ai ah ba bh p X eX
    rw [hmx] at H9
    have HX := Lib.hid (And.intro eX (And.intro hkx (And.intro hox hax)))
    clear eX hmx hkx hox hax
    go_wp2_with fail
    rw [rounds_succ]
    go_wp2_with fail
    refine (recv1 (m := mx) H9.symm HU0.out.1 HU0.out.2 _ rfl HAL.out.2 (fun h => by have := HX.out.2.1; omega) (.inr ⟨HY.out.2.2.2, HX.out.2.1⟩) (by simp)).mono ?_
    rintro e w10 ⟨rfl, va10, ra10, vn10, vc10, rn10, rc10, H10⟩
    clear H9
    rw [last_out ba bi bh aa ah q p _ Y HY.out.1 mx HX.out.2.1 HX.out.2.2.1, gF_l, Bool.and_comm q p, ← HPQ.out.2.2.1, ← HPQ.out.2.2.2.2] at H10
    go_wp2_with fail
    rw [rounds_succ]
    go_wp2_with fail
    refine (recv0 H10).mono ?_
    rintro e w11 ⟨rfl, rfl⟩
    go_wp2_with fail
    refine (recv1 (m := my) H10.symm HU0.out.1 HU0.out.2 _ rfl HAL.out.1 (fun h => by have := HY.out.2.1; omega) (.inr ⟨HX.out.2.2.2, HY.out.2.1⟩) (by simp)).mono ?_
    rintro e w12 ⟨rfl, va12, ra12, vn12, vc12, rn12, rc12, H12⟩
    clear H10
    rw [last_out aa ai ah ba bh p q _ X HX.out.1 my HY.out.2.1 HY.out.2.2.1, gF_l, ← HPQ.out.2.2.1, ← HPQ.out.2.2.2.1] at H12
    go_wp2_with fail
    rw [rounds_succ]
    go_wp2_with fail
    refine (recv0 H12.symm).mono ?_
    rintro e w13 ⟨rfl, rfl⟩
    go_wp2_with fail
    refine (recv0 H12).mono ?_
    rintro e w14 ⟨rfl, rfl⟩
    go_wp2_with fail
    have hLF := H12.lF
    have hbR := bR.lt
    have hbS := bS.lt
    have hPQ := HN.out
    have hO0 := O0.size
    have hR1 : w.heap.size + 1 + 1 < W0.heap.size := by omega
    have bR12 := H12.kp.bl (bR.keep O0) (by omega) (by omega) (by omega)
    have bS12 := H12.kp.bl (bS.keep O0) (by omega) (by omega) (by omega)
    have B12 := H12.kp.out (below_step B0 O0) (by omega) (by omega) (by omega)
    have bP : Bl w12 P [.int .i64 aa, .int .i64 ai, .int .i64 ah, .int .i64 ap, .int .i64 G.a, .int .i64 G.b, .int .i64 G.c, .int .i64 G.d, .int .i64 G.e, .slice va12 vn12 vc12] := H12.bX
    have bQ : Bl w12 Q [.int .i64 ba, .int .i64 bi, .int .i64 bh, .int .i64 bp, .int .i64 J.a, .int .i64 J.b, .int .i64 J.c, .int .i64 J.d, .int .i64 J.e, .slice ra12 rn12 rc12] := H12.bF
    have hne : P ≠ Q := H12.ne
    have hPR : P ≠ w.heap.size + 1 + 1 := by omega
    have hPS : P ≠ w.heap.size + 1 + 1 + 1 := by omega
    have hQR : Q ≠ w.heap.size + 1 + 1 := by omega
    have hQS : Q ≠ w.heap.size + 1 + 1 + 1 := by omega
    clear H12 bR bS B0 bA bB bL O0 hLF hbR hbS hPQ hO0 hR1 HN HUG HU0
    refine wp_region_held_drew (S := fun w' => Bl w' P [.int .i64 aa, .int .i64 ai, .int .i64 ah, .int .i64 ap, .int .i64 G.a, .int .i64 G.b, .int .i64 G.c, .int .i64 G.d, .int .i64 G.e, .slice va12 vn12 vc12] ∧ Bl w' Q [.int .i64 ba, .int .i64 bi, .int .i64 bh, .int .i64 bp, .int .i64 J.a, .int .i64 J.b, .int .i64 J.c, .int .i64 J.d, .int .i64 J.e, .slice ra12 rn12 rc12]) (by kernel_rfl) ⟨bP.keep (over_drew w12), bQ.keep (over_drew w12)⟩ (fun hHeld => ?_)
    refine wpAnyH_take (i := 0) (v := ?_) rfl (by kernel_rfl) (by kernel_rfl) (by kernel_rfl) (fun _ _ _ h => h) (Or.inl ⟨by rfl, ?_⟩) (by assumption) ?_
    rotate_left
    · intro wq hSq
      (try dsimp only at hSq)

      go_simp
      try rfl
    change wpAnyH _ _ _ _ _ _ _ (Act.put _ (some 55) _) _
    simp only [Act.put, List.setIfInBounds_toArray, List.set_cons_succ, List.set_cons_zero]
    refine wpAnyH_take (i := 1) (v := ?_) rfl (by kernel_rfl) (by kernel_rfl) (by kernel_rfl) (fun _ _ _ h => h) (Or.inl ⟨by rfl, ?_⟩) (by assumption) ?_
    rotate_left
    · intro wq hSq
      (try dsimp only at hSq)

      go_simp
      try rfl
    change wpAnyH _ _ _ _ _ _ _ (Act.put _ (some 56) _) _
    simp only [Act.put, List.setIfInBounds_toArray, List.set_cons_succ, List.set_cons_zero]
    refine wpAnyH_take (i := 2) (v := ?_) rfl (by kernel_rfl) (by kernel_rfl) (by kernel_rfl) (fun _ _ _ h => h) (Or.inl ⟨by rfl, ?_⟩) (by assumption) ?_
    rotate_left
    · intro wq hSq
      (try dsimp only at hSq)

      go_simp
      try rfl
    change wpAnyH _ _ _ _ _ _ _ (Act.put _ (some 57) _) _
    simp only [Act.put, List.setIfInBounds_toArray, List.set_cons_succ, List.set_cons_zero]
    refine wpAnyH_take (i := 3) (v := ?_) rfl (by kernel_rfl) (by kernel_rfl) (by kernel_rfl) (fun _ _ _ h => h) (Or.inl ⟨by rfl, ?_⟩) (by assumption) ?_
    rotate_left
    · intro wq hSq
      (try dsimp only at hSq)
      have q4 := hSq.1.c 4 rfl
      have q5 := hSq.1.c 5 rfl
      have q6 := hSq.1.c 6 rfl
      have q7 := hSq.1.c 7 rfl
      have q8 := hSq.1.c 8 rfl
      go_simp
      try rfl
    change wpAnyH _ _ _ _ _ _ _ (Act.put _ (some 58) _) _
    simp only [Act.put, List.setIfInBounds_toArray, List.set_cons_succ, List.set_cons_zero]
    refine wpAnyH_take (i := 4) (v := ?_) rfl (by kernel_rfl) (by kernel_rfl) (by kernel_rfl) (fun _ _ _ h => h) (Or.inl ⟨by rfl, ?_⟩) (by assumption) ?_
    rotate_left
    · intro wq hSq
      (try dsimp only at hSq)

      go_simp
      try rfl
    change wpAnyH _ _ _ _ _ _ _ (Act.put _ (some 59) _) _
    simp only [Act.put, List.setIfInBounds_toArray, List.set_cons_succ, List.set_cons_zero]
    refine wpAnyH_take (i := 5) (v := ?_) rfl (by kernel_rfl) (by kernel_rfl) (by kernel_rfl) (fun _ _ _ h => h) (Or.inl ⟨by rfl, ?_⟩) (by assumption) ?_
    rotate_left
    · intro wq hSq
      (try dsimp only at hSq)

      go_simp
      try rfl
    change wpAnyH _ _ _ _ _ _ _ (Act.put _ (some 60) _) _
    simp only [Act.put, List.setIfInBounds_toArray, List.set_cons_succ, List.set_cons_zero]
    refine wpAnyH_take (i := 6) (v := ?_) rfl (by kernel_rfl) (by kernel_rfl) (by kernel_rfl) (fun _ _ _ h => h) (Or.inl ⟨by rfl, ?_⟩) (by assumption) ?_
    rotate_left
    · intro wq hSq
      (try dsimp only at hSq)

      go_simp
      try rfl
    change wpAnyH _ _ _ _ _ _ _ (Act.put _ (some 61) _) _
    simp only [Act.put, List.setIfInBounds_toArray, List.set_cons_succ, List.set_cons_zero]
    refine wpAnyH_take (i := 7) (v := ?_) rfl (by kernel_rfl) (by kernel_rfl) (by kernel_rfl) (fun _ _ _ h => h) (Or.inl ⟨by rfl, ?_⟩) (by assumption) ?_
    rotate_left
    · intro wq hSq
      (try dsimp only at hSq)
      have q4 := hSq.2.c 4 rfl
      have q5 := hSq.2.c 5 rfl
      have q6 := hSq.2.c 6 rfl
      have q7 := hSq.2.c 7 rfl
      have q8 := hSq.2.c 8 rfl
      go_simp
      try rfl
    change wpAnyH _ _ _ _ _ _ _ (Act.put _ (some 62) _) _
    simp only [Act.put, List.setIfInBounds_toArray, List.set_cons_succ, List.set_cons_zero]
    refine wpAnyH_take (i := 8) (v := ?_) rfl (by kernel_rfl) (by kernel_rfl) (by kernel_rfl) (fun _ _ _ h => h) (Or.inl ⟨by rfl, ?_⟩) (by assumption) ?_
    rotate_left
    · intro wq hSq
      (try dsimp only at hSq)

      go_simp
      try rfl
    change wpAnyH _ _ _ _ _ _ _ (Act.put _ (some 63) _) _
    simp only [Act.put, List.setIfInBounds_toArray, List.set_cons_succ, List.set_cons_zero]
    refine wpAnyH_take (i := 9) (v := ?_) rfl (by kernel_rfl) (by kernel_rfl) (by kernel_rfl) (fun _ _ _ h => h) (Or.inl ⟨by rfl, ?_⟩) (by assumption) ?_
    rotate_left
    · intro wq hSq
      (try dsimp only at hSq)

      go_simp
      try rfl
    change wpAnyH _ _ _ _ _ _ _ (Act.put _ (some 64) _) _
    simp only [Act.put, List.setIfInBounds_toArray, List.set_cons_succ, List.set_cons_zero]
    refine wpAnyH_take (i := 10) (v := ?_) rfl (by kernel_rfl) (by kernel_rfl) (by kernel_rfl) (fun _ _ _ h => h) (Or.inl ⟨by rfl, ?_⟩) (by assumption) ?_
    rotate_left
    · intro wq hSq
      (try dsimp only at hSq)

      go_simp
      try rfl
    change wpAnyH _ _ _ _ _ _ _ (Act.put _ (some 65) _) _
    simp only [Act.put, List.setIfInBounds_toArray, List.set_cons_succ, List.set_cons_zero]
    refine wpAnyH_take (i := 11) (v := ?_) rfl (by kernel_rfl) (by kernel_rfl) (by kernel_rfl) (fun _ _ _ h => h) (Or.inl ⟨by rfl, ?_⟩) (by assumption) ?_
    rotate_left
    · intro wq hSq
      (try dsimp only at hSq)

      go_simp
      try rfl
    change wpAnyH _ _ _ _ _ _ _ (Act.put _ (some 66) _) _
    simp only [Act.put, List.setIfInBounds_toArray, List.set_cons_succ, List.set_cons_zero]
    refine wpAnyH_take (i := 12) (v := ?_) rfl (by kernel_rfl) (by kernel_rfl) (by kernel_rfl) (fun _ _ _ h => h) (Or.inl ⟨by rfl, ?_⟩) (by assumption) ?_
    rotate_left
    · intro wq hSq
      (try dsimp only at hSq)
      have q4 := hSq.1.c 4 rfl
      go_simp
      try rfl
    change wpAnyH _ _ _ _ _ _ _ (Act.put _ (some 67) _) _
    simp only [Act.put, List.setIfInBounds_toArray, List.set_cons_succ, List.set_cons_zero]
    refine wpAnyH_take (i := 13) (v := ?_) rfl (by kernel_rfl) (by kernel_rfl) (by kernel_rfl) (fun _ _ _ h => h) (Or.inl ⟨by rfl, ?_⟩) (by assumption) ?_
    rotate_left
    · intro wq hSq
      (try dsimp only at hSq)

      go_simp
      try rfl
    change wpAnyH _ _ _ _ _ _ _ (Act.put _ (some 68) _) _
    simp only [Act.put, List.setIfInBounds_toArray, List.set_cons_succ, List.set_cons_zero]
    refine wpAnyH_take (i := 14) (v := ?_) rfl (by kernel_rfl) (by kernel_rfl) (by kernel_rfl) (fun _ _ _ h => h) (Or.inl ⟨by rfl, ?_⟩) (by assumption) ?_
    rotate_left
    · intro wq hSq
      (try dsimp only at hSq)

      go_simp
      try rfl
    change wpAnyH _ _ _ _ _ _ _ (Act.put _ (some 69) _) _
    simp only [Act.put, List.setIfInBounds_toArray, List.set_cons_succ, List.set_cons_zero]
    refine wpAnyH_take (i := 15) (v := undef) rfl (by kernel_rfl) (by kernel_rfl) (by kernel_rfl) (fun _ _ _ h => h) (Or.inr ⟨by rfl, rfl⟩) (by assumption) ?_
    change wpAnyH _ _ _ _ _ _ _ (Act.put _ (some 70) _) _
    simp only [Act.put, List.setIfInBounds_toArray, List.set_cons_succ, List.set_cons_zero]
    refine wpAnyH_take (i := 16) (v := undef) rfl (by kernel_rfl) (by kernel_rfl) (by kernel_rfl) (fun _ _ _ h => h) (Or.inr ⟨by rfl, rfl⟩) (by assumption) ?_
    change wpAnyH _ _ _ _ _ _ _ (Act.put _ (some 71) _) _
    simp only [Act.put, List.setIfInBounds_toArray, List.set_cons_succ, List.set_cons_zero]
    refine wpAnyH_take (i := 17) (v := undef) rfl (by kernel_rfl) (by kernel_rfl) (by kernel_rfl) (fun _ _ _ h => h) (Or.inr ⟨by rfl, rfl⟩) (by assumption) ?_
    change wpAnyH _ _ _ _ _ _ _ (Act.put _ (some 72) _) _
    simp only [Act.put, List.setIfInBounds_toArray, List.set_cons_succ, List.set_cons_zero]
    refine wpAnyH_take (i := 18) (v := undef) rfl (by kernel_rfl) (by kernel_rfl) (by kernel_rfl) (fun _ _ _ h => h) (Or.inr ⟨by rfl, rfl⟩) (by assumption) ?_
    change wpAnyH _ _ _ _ _ _ _ (Act.put _ (some 73) _) _
    simp only [Act.put, List.setIfInBounds_toArray, List.set_cons_succ, List.set_cons_zero]
    refine wpAnyH_take (i := 19) (v := undef) rfl (by kernel_rfl) (by kernel_rfl) (by kernel_rfl) (fun _ _ _ h => h) (Or.inr ⟨by rfl, rfl⟩) (by assumption) ?_
    change wpAnyH _ _ _ _ _ _ _ (Act.put _ (some 74) _) _
    simp only [Act.put, List.setIfInBounds_toArray, List.set_cons_succ, List.set_cons_zero]
    refine wpAnyH_take (i := 20) (v := undef) rfl (by kernel_rfl) (by kernel_rfl) (by kernel_rfl) (fun _ _ _ h => h) (Or.inr ⟨by rfl, rfl⟩) (by assumption) ?_
    change wpAnyH _ _ _ _ _ _ _ (Act.put _ (some 75) _) _
    simp only [Act.put, List.setIfInBounds_toArray, List.set_cons_succ, List.set_cons_zero]
    refine wpAnyH_take (i := 21) (v := ?_) rfl (by kernel_rfl) (by kernel_rfl) (by kernel_rfl) (fun _ _ _ h => h) (Or.inl ⟨by rfl, ?_⟩) (by assumption) ?_
    rotate_left
    · intro wq hSq
      (try dsimp only at hSq)

      go_simp
      try rfl
    change wpAnyH _ _ _ _ _ _ _ (Act.put _ (some 76) _) _
    simp only [Act.put, List.setIfInBounds_toArray, List.set_cons_succ, List.set_cons_zero]
    obtain ⟨w15, e15⟩ : ∃ u, u = w12.drew := ⟨_, rfl⟩
    have O15 : Over w12 w15 := by rw [e15]; exact over_drew w12
    rw [← e15]
    clear e15 hHeld
    replace bP := bP.keep O15
    replace bQ := bQ.keep O15
    have bR := bR12.keep O15
    have bS := bS12.keep O15
    have B0 := below_step B12 O15
    clear bR12 bS12 B12 O15
    have r0 := bR.c 0 rfl
    have s0f := bR.f 0 (x := _) rfl
    have t0 := bS.c 0 rfl
    have t0f := bS.f 0 (x := _) rfl
    have r1 := bR.c 1 rfl
    have s1f := bR.f 1 (x := _) rfl
    have t1 := bS.c 1 rfl
    have t1f := bS.f 1 (x := _) rfl
    have r2 := bR.c 2 rfl
    have s2f := bR.f 2 (x := _) rfl
    have t2 := bS.c 2 rfl
    have t2f := bS.f 2 (x := _) rfl
    have r3 := bR.c 3 rfl
    have s3f := bR.f 3 (x := _) rfl
    have t3 := bS.c 3 rfl
    have t3f := bS.f 3 (x := _) rfl
    have r4 := bR.c 4 rfl
    have s4f := bR.f 4 (x := _) rfl
    have t4 := bS.c 4 rfl
    have t4f := bS.f 4 (x := _) rfl
    refine wpAnyH_ready (rs := [22]) (by kernel_rfl) (by simp) ?_
    refine (AllReadyH.cons rfl (fun K hK => ?_) AllReadyH.nil)
    go_simp
    refine hK.out _ _ ⟨((((((bP.far (C := w.heap.size + 1 + 1) (o := 0) (u := .int .i64 G.a) hPR).far (C := w.heap.size + 1 + 1) (o := 1) (u := .int .i64 G.b) hPR).far (C := w.heap.size + 1 + 1) (o := 2) (u := .int .i64 G.c) hPR).far (C := w.heap.size + 1 + 1) (o := 3) (u := .int .i64 G.d) hPR).far (C := w.heap.size + 1 + 1) (o := 4) (u := .int .i64 G.e) hPR)), ((((((bQ.far (C := w.heap.size + 1 + 1) (o := 0) (u := .int .i64 G.a) hQR).far (C := w.heap.size + 1 + 1) (o := 1) (u := .int .i64 G.b) hQR).far (C := w.heap.size + 1 + 1) (o := 2) (u := .int .i64 G.c) hQR).far (C := w.heap.size + 1 + 1) (o := 3) (u := .int .i64 G.d) hQR).far (C := w.heap.size + 1 + 1) (o := 4) (u := .int .i64 G.e) hQR))⟩ (fun _ => ?_)
    clear hK K
    try simp only [Act.put, List.setIfInBounds_toArray, List.set_cons_zero, List.set_cons_succ]
    refine wpAnyH_ready (rs := [23]) (by kernel_rfl) (by simp) ?_
    refine (AllReadyH.cons rfl (fun K hK => ?_) AllReadyH.nil)
    go_simp
    refine hK.out _ _ ⟨((((((((((((bP.far (C := w.heap.size + 1 + 1) (o := 0) (u := .int .i64 G.a) hPR).far (C := w.heap.size + 1 + 1) (o := 1) (u := .int .i64 G.b) hPR).far (C := w.heap.size + 1 + 1) (o := 2) (u := .int .i64 G.c) hPR).far (C := w.heap.size + 1 + 1) (o := 3) (u := .int .i64 G.d) hPR).far (C := w.heap.size + 1 + 1) (o := 4) (u := .int .i64 G.e) hPR)).far (C := w.heap.size + 1 + 1 + 1) (o := 0) (u := .int .i64 J.a) hPS).far (C := w.heap.size + 1 + 1 + 1) (o := 1) (u := .int .i64 J.b) hPS).far (C := w.heap.size + 1 + 1 + 1) (o := 2) (u := .int .i64 J.c) hPS).far (C := w.heap.size + 1 + 1 + 1) (o := 3) (u := .int .i64 J.d) hPS).far (C := w.heap.size + 1 + 1 + 1) (o := 4) (u := .int .i64 J.e) hPS)), ((((((((((((bQ.far (C := w.heap.size + 1 + 1) (o := 0) (u := .int .i64 G.a) hQR).far (C := w.heap.size + 1 + 1) (o := 1) (u := .int .i64 G.b) hQR).far (C := w.heap.size + 1 + 1) (o := 2) (u := .int .i64 G.c) hQR).far (C := w.heap.size + 1 + 1) (o := 3) (u := .int .i64 G.d) hQR).far (C := w.heap.size + 1 + 1) (o := 4) (u := .int .i64 G.e) hQR)).far (C := w.heap.size + 1 + 1 + 1) (o := 0) (u := .int .i64 J.a) hQS).far (C := w.heap.size + 1 + 1 + 1) (o := 1) (u := .int .i64 J.b) hQS).far (C := w.heap.size + 1 + 1 + 1) (o := 2) (u := .int .i64 J.c) hQS).far (C := w.heap.size + 1 + 1 + 1) (o := 3) (u := .int .i64 J.d) hQS).far (C := w.heap.size + 1 + 1 + 1) (o := 4) (u := .int .i64 J.e) hQS))⟩ (fun _ => ?_)
    clear hK K
    try simp only [Act.put, List.setIfInBounds_toArray, List.set_cons_zero, List.set_cons_succ]
    refine wpAnyH_ready (rs := [24]) (by kernel_rfl) (by simp) ?_
    refine (AllReadyH.cons rfl (fun K hK => ?_) AllReadyH.nil)
    go_simp
    refine hK.out _ _ ⟨((((((((((((bP.far (C := w.heap.size + 1 + 1) (o := 0) (u := .int .i64 G.a) hPR).far (C := w.heap.size + 1 + 1) (o := 1) (u := .int .i64 G.b) hPR).far (C := w.heap.size + 1 + 1) (o := 2) (u := .int .i64 G.c) hPR).far (C := w.heap.size + 1 + 1) (o := 3) (u := .int .i64 G.d) hPR).far (C := w.heap.size + 1 + 1) (o := 4) (u := .int .i64 G.e) hPR)).far (C := w.heap.size + 1 + 1 + 1) (o := 0) (u := .int .i64 J.a) hPS).far (C := w.heap.size + 1 + 1 + 1) (o := 1) (u := .int .i64 J.b) hPS).far (C := w.heap.size + 1 + 1 + 1) (o := 2) (u := .int .i64 J.c) hPS).far (C := w.heap.size + 1 + 1 + 1) (o := 3) (u := .int .i64 J.d) hPS).far (C := w.heap.size + 1 + 1 + 1) (o := 4) (u := .int .i64 J.e) hPS)), ((((((((((((bQ.far (C := w.heap.size + 1 + 1) (o := 0) (u := .int .i64 G.a) hQR).far (C := w.heap.size + 1 + 1) (o := 1) (u := .int .i64 G.b) hQR).far (C := w.heap.size + 1 + 1) (o := 2) (u := .int .i64 G.c) hQR).far (C := w.heap.size + 1 + 1) (o := 3) (u := .int .i64 G.d) hQR).far (C := w.heap.size + 1 + 1) (o := 4) (u := .int .i64 G.e) hQR)).far (C := w.heap.size + 1 + 1 + 1) (o := 0) (u := .int .i64 J.a) hQS).far (C := w.heap.size + 1 + 1 + 1) (o := 1) (u := .int .i64 J.b) hQS).far (C := w.heap.size + 1 + 1 + 1) (o := 2) (u := .int .i64 J.c) hQS).far (C := w.heap.size + 1 + 1 + 1) (o := 3) (u := .int .i64 J.d) hQS).far (C := w.heap.size + 1 + 1 + 1) (o := 4) (u := .int .i64 J.e) hQS))⟩ (fun _ => ?_)
    clear hK K
    try simp only [Act.put, List.setIfInBounds_toArray, List.set_cons_zero, List.set_cons_succ]
    refine wpAnyH_done (by kernel_rfl) ?_ _
    have bR2 := ((((((bR.set5 (.int .i64 G.a) (.int .i64 G.b) (.int .i64 G.c) (.int .i64 G.d) (.int .i64 G.e)).far (C := w.heap.size + 1 + 1 + 1) (o := 0) (u := .int .i64 J.a) (by omega)).far (C := w.heap.size + 1 + 1 + 1) (o := 1) (u := .int .i64 J.b) (by omega)).far (C := w.heap.size + 1 + 1 + 1) (o := 2) (u := .int .i64 J.c) (by omega)).far (C := w.heap.size + 1 + 1 + 1) (o := 3) (u := .int .i64 J.d) (by omega)).far (C := w.heap.size + 1 + 1 + 1) (o := 4) (u := .int .i64 J.e) (by omega))
    have bS2 := ((((((bS.far (C := w.heap.size + 1 + 1) (o := 0) (u := .int .i64 G.a) (by omega)).far (C := w.heap.size + 1 + 1) (o := 1) (u := .int .i64 G.b) (by omega)).far (C := w.heap.size + 1 + 1) (o := 2) (u := .int .i64 G.c) (by omega)).far (C := w.heap.size + 1 + 1) (o := 3) (u := .int .i64 G.d) (by omega)).far (C := w.heap.size + 1 + 1) (o := 4) (u := .int .i64 G.e) (by omega))).set5 (.int .i64 J.a) (.int .i64 J.b) (.int .i64 J.c) (.int .i64 J.d) (.int .i64 J.e)
    have B2 := below_set5 (below_set5 B0 (B := w.heap.size + 1 + 1) (by omega) (.int .i64 G.a) (.int .i64 G.b) (.int .i64 G.c) (.int .i64 G.d) (.int .i64 G.e)) (B := w.heap.size + 1 + 1 + 1) (by omega) (.int .i64 J.a) (.int .i64 J.b) (.int .i64 J.c) (.int .i64 J.d) (.int .i64 J.e)
    clear r0 s0f t0 t0f r1 s1f t1 t1f r2 s2f t2 t2f r3 s3f t3 t3f r4 s4f t4 t4f
    clear bR bS B0
    go_wp2
    obtain ⟨W2, hW2⟩ : ∃ W2, W2 = ((((((((((w15.setCell ⟨w.heap.size + 1 + 1, 0, none⟩ (.int .i64 G.a)).setCell ⟨w.heap.size + 1 + 1, 1, none⟩ (.int .i64 G.b)).setCell ⟨w.heap.size + 1 + 1, 2, none⟩ (.int .i64 G.c)).setCell ⟨w.heap.size + 1 + 1, 3, none⟩ (.int .i64 G.d)).setCell ⟨w.heap.size + 1 + 1, 4, none⟩ (.int .i64 G.e)).setCell ⟨w.heap.size + 1 + 1 + 1, 0, none⟩ (.int .i64 J.a)).setCell ⟨w.heap.size + 1 + 1 + 1, 1, none⟩ (.int .i64 J.b)).setCell ⟨w.heap.size + 1 + 1 + 1, 2, none⟩ (.int .i64 J.c)).setCell ⟨w.heap.size + 1 + 1 + 1, 3, none⟩ (.int .i64 J.d)).setCell ⟨w.heap.size + 1 + 1 + 1, 4, none⟩ (.int .i64 J.e)) := ⟨_, rfl⟩
    rw [← hW2] at bR2 bS2 B2 ⊢
    clear hW2
    have r0 := bR2.c 0 rfl
    have t0 := bS2.c 0 rfl
    have r1 := bR2.c 1 rfl
    have t1 := bS2.c 1 rfl
    have r2 := bR2.c 2 rfl
    have t2 := bS2.c 2 rfl
    have r3 := bR2.c 3 rfl
    have t3 := bS2.c 3 rfl
    have r4 := bR2.c 4 rfl
    have t4 := bS2.c 4 rfl
    exact bodyPost_ret (v := .tuple #[.agg #[.int .i64 G.a, .int .i64 G.b, .int .i64 G.c, .int .i64 G.d, .int .i64 G.e], .agg #[.int .i64 J.a, .int .i64 J.b, .int .i64 J.c, .int .i64 J.d, .int .i64 J.e], .bool false]) (by simp [results, Tryd.results7, go_sem, r0, t0, r1, t1, r2, t2, r3, t3, r4, t4]) rfl ⟨rfl, B2⟩
end Go.Proofs.YtcmbajphholliabDoor
