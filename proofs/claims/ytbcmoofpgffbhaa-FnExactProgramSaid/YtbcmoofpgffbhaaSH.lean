/-
  Forwarding tables that the laws copy: memory of their own; marks on them. Conditions: those in each contract.
-/
import Derived.Test.YtbcmoofpgffbhaaSG
namespace Go.Proofs.Ytbcmoofpgffbhaa
open Go.ChangeShapes Go.WideShapes Go.ChangeAt Go.RowKit Go.BigFrame Go.Joins
set_option linter.unusedVariables false
set_option maxRecDepth 100000
set_option linter.unusedSimpArgs false
set_option maxRecDepth 100000

theorem MidS.of_below {S : Nat → Prop} {w w' : World} (h : Below w.heap.size w w') : MidS S w w' := ⟨h.os, h.tape, h.output, h.size, fun i hi _ => h.block i hi⟩
set_option maxHeartbeats 2000000 in
theorem toFb_o (s0 : Value) (x : List Grp) (w : World) (h : RdYS w s0 x) (hw : x.length + wtYS x ≤ 1048576) :
    Calls Try.prog 39 #[.agg #[s0]] w fun e w' => ∃ s0, e = .returned (.agg #[s0]) ∧ OwYS w' (Rg w.heap.size w'.heap.size) s0 x ∧ Below w.heap.size w w' := by
  obtain ⟨bA, bR, bO, B1, z⟩ := three w [s0] [.slice none 0 0] [.slice none 0 0] 76 57 57
  have a0 := bA.c 0 rfl
  go_enter Try.func39, Try.ntmps39
  go_wp2_with fail
  clear a0
  obtain ⟨lo0, hlo0⟩ : ∃ n, n = w.heap.size + 3 := ⟨_, rfl⟩
  refine (toYS_o s0 x _ (h.keep B1) (by omega)).mono ?_
  rintro e w1 ⟨u0, rfl, f0, hb⟩
  obtain ⟨p0, q0, rfl⟩ := f0.rd.len
  have hs := hb.size
  rw [z, ← hlo0] at f0 hs
  obtain ⟨hi0, hhi0⟩ : ∃ n, n = w1.heap.size := ⟨_, rfl⟩
  rw [← hhi0] at f0
  replace bA := bA.keep hb
  replace bR := bR.keep hb
  replace bO := bO.keep hb
  replace B1 := below_step B1 hb
  clear hb
  clear z
  obtain ⟨A, hA⟩ : ∃ A, A = w.heap.size := ⟨_, rfl⟩
  obtain ⟨R, hR⟩ : ∃ R, R = w.heap.size + 1 := ⟨_, rfl⟩
  obtain ⟨O, hO⟩ : ∃ O, O = w.heap.size + 1 + 1 := ⟨_, rfl⟩
  rw [← hA] at bA
  rw [← hR] at bR
  rw [← hO] at bO
  rw [← hO, ← hR]
  try rw [← hA]
  have hO3 : O < lo0 := by omega
  have hRO : R ≠ O := by omega
  have hR3 : R < lo0 := by omega
  have hAO : A ≠ O := by omega
  have hwO : w.heap.size ≤ O := by omega
  have hwR : w.heap.size ≤ R := by omega
  have hw3 : w.heap.size ≤ lo0 := by omega
  clear hA hR hO hlo0
  have HHI0 := Lib.hid hhi0
  clear hhi0
  have o0 := bO.c 0 rfl
  have of0 := bO.f 0 rfl
  have r0 := bR.c 0 rfl
  have rf0 := bR.f 0 rfl
  go_wp2_with fail
  have hll0 : lo0 ≤ hi0 := by rw [HHI0.out]; exact hs
  have bE := ((bR.far (o := 0) (u := .slice p0 x.length q0) hRO).set 0 (.slice p0 x.length q0))
  have e0 := bE.c 0 rfl
  have g0 := ((f0.agr (agr_setS (g := O) (o := 0) (u := .slice p0 x.length q0) _ (fun q => by have := q.1; omega))).agr (agr_setS (g := R) (o := 0) (u := .slice p0 x.length q0) _ (fun q => by have := q.1; omega)))
  exact bodyPost_ret (v := .agg #[.slice p0 x.length q0]) (by simp [results, Try.results39, go_sem, e0]) rfl
    ⟨_, rfl, (g0.mono (fun b q => ⟨by have := q.1; omega, by have := q.2; have := HHI0.out; simp; omega⟩)), ((B1.setCell (p := ⟨O, 0, none⟩) hwO (.slice p0 x.length q0)).setCell (p := ⟨R, 0, none⟩) hwR (.slice p0 x.length q0))⟩
theorem mkFb_o (v : Value) (L : List Grp) (k : Int) (S : Nat → Prop) (w : World) (h : OwYS w S v L) (hk0 : 0 ≤ k) (hk : k + (cntYS L : Nat) ≤ 40000000) :
    Calls Try.prog 30 #[.agg #[v], .int .i64 k] w fun e w' => ∃ L', e = .returned (.int .i64 (k + (cntYS L : Nat))) ∧ cntYS L' = cntYS L ∧ L'.length = L.length ∧ MkYS k L' ∧ OwYS w' S v L' ∧ MidS S w w' := by
  obtain ⟨bA, B0, z⟩ := one w [v] 57
  have h1 := h.agr (.of_below B0)
  have s0 : MidS S w _ := .of_below B0
  obtain ⟨va, vx, rfl⟩ := h.rd.len
  have a0 := bA.c 0 rfl
  clear z h
  go_enter Try.func30, Try.ntmps30
  go_wp2_with fail
  refine (mkYS_any _ L k S _ h1 hk0 hk).mono ?_
  rintro e w1 ⟨L', rfl, q1, q2, q3, q4, hs⟩
  have s1 := s0.trans hs
  have HH := Lib.hid (And.intro q1 (And.intro q2 (And.intro q3 (And.intro q4 s1))))
  clear q1 q2 q3 q4 hs s1 s0 h1 B0 bA a0
  go_wp2
  go_ret
  obtain ⟨q1, q2, q3, q4, s1⟩ := HH.out
  exact ⟨L', rfl, q1, q2, q3, q4, s1⟩
theorem hdFb_o (v : Value) (L : List Grp) (k : Int) (w : World) (h : RdYS w v L) (hm : MkYS k L) (hk0 : 0 ≤ k) (hk : k + (cntYS L : Nat) ≤ 40000000) :
    Calls Try.prog 31 #[.agg #[v], .int .i64 k] w fun e w' => e = .returned (.int .i64 (k + (cntYS L : Nat))) ∧ Below w.heap.size w w' := by
  obtain ⟨bA, B0, z⟩ := one w [v] 57
  have h1 := h.keep B0
  obtain ⟨va, vx, rfl⟩ := h.len
  have a0 := bA.c 0 rfl
  have hn : ¬ k + (cntYS L : Nat) < 0 := by omega
  obtain ⟨r, hr⟩ : ∃ r : Int, r = k + (cntYS L : Nat) := ⟨_, rfl⟩
  have hc := hdYS_any _ L k _ h1 hm hk0 hk
  rw [← hr] at hc hn ⊢
  have HC := Lib.hid hc
  clear z h hc hr h1
  go_enter Try.func31, Try.ntmps31
  go_wp2_with fail
  refine HC.out.mono ?_
  rintro e w1 ⟨rfl, hb⟩
  replace B0 := below_step B0 hb
  go_wp2
  go_ret
  exact ⟨rfl, B0⟩
theorem cntY_le (L : List Grp) : cntYS L ≤ 2 * L.length + 2 * wtG L := by
  induction L with
  | nil => simp [cntYS, wtG]
  | cons x L ih =>
    have e1 : cntYS (x :: L) = cntY x + cntYS L := by simp [cntYS]
    have e2 : wtG (x :: L) = x.h.length + wtG L := by simp [wtG]
    rw [e1, e2, List.length_cons]
    unfold cntY cntH
    omega
end Go.Proofs.Ytbcmoofpgffbhaa
