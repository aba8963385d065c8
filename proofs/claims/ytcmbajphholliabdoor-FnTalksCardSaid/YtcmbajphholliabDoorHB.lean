/-
  A step of a session that is up, of the program: a tick, and a message that is heard. Conditions: those in each contract.
  The law on two that talk: its walk. Conditions: those in each contract.
-/
import Derived.Test.YtcmbajphholliabDoorSA
import Derived.Test.YtcmbajphholliabDoorH2
import Derived.RegionTactic
import Derived.ChangeAlike
namespace Go.Proofs.YtcmbajphholliabDoor
open Go.ChangeShapes Go.WideShapes Go.ChangeAt Go.RowKit Go.BigFrame Go.Joins
set_option linter.unusedVariables false
set_option maxRecDepth 100000
set_option linter.unusedSimpArgs false
set_option maxRecDepth 100000

/-- block g begins with a keep-alive -/
def KeepAt (w : World) (g : Nat) : Prop := w.cell? ⟨g, 0, none⟩ = some (.int .i64 4) ∧ w.cell? ⟨g, 1, none⟩ = some (.int .i64 0) ∧ w.cell? ⟨g, 2, none⟩ = some (.int .i64 0) ∧ w.cell? ⟨g, 3, none⟩ = some (.int .i64 0) ∧ w.cell? ⟨g, 4, none⟩ = some (.slice none 0 0) ∧ w.cell? ⟨g, 5, none⟩ = some (.slice none 0 0) ∧ w.cell? ⟨g, 6, none⟩ = some (.slice none 0 0) ∧ w.cell? ⟨g, 7, none⟩ = some (.int .i64 0) ∧ w.cell? ⟨g, 8, none⟩ = some (.slice none 0 0) ∧ w.cell? ⟨g, 9, none⟩ = some (.int .i64 0) ∧ w.cell? ⟨g, 10, none⟩ = some (.int .i64 0)
theorem KeepAt.keep {w w' : World} {g : Nat} (h : KeepAt w g) (hb : Below w.heap.size w w') : KeepAt w' g := by
  obtain ⟨k0, k1, k2, k3, k4, k5, k6, k7, k8, k9, k10⟩ := h
  exact ⟨cell_keep hb (World.block_lt_of_cell? w _ k0) k0, cell_keep hb (World.block_lt_of_cell? w _ k1) k1, cell_keep hb (World.block_lt_of_cell? w _ k2) k2, cell_keep hb (World.block_lt_of_cell? w _ k3) k3, cell_keep hb (World.block_lt_of_cell? w _ k4) k4, cell_keep hb (World.block_lt_of_cell? w _ k5) k5, cell_keep hb (World.block_lt_of_cell? w _ k6) k6, cell_keep hb (World.block_lt_of_cell? w _ k7) k7, cell_keep hb (World.block_lt_of_cell? w _ k8) k8, cell_keep hb (World.block_lt_of_cell? w _ k9) k9, cell_keep hb (World.block_lt_of_cell? w _ k10) k10⟩
theorem KeepAt.far {w : World} {g B o : Nat} {u : Value} (h : KeepAt w g) (hne : B ≠ g) : KeepAt (w.setCell ⟨B, o, none⟩ u) g := by
  obtain ⟨k0, k1, k2, k3, k4, k5, k6, k7, k8, k9, k10⟩ := h
  have ne : ∀ i, (⟨B, o, none⟩ : Addr) ≠ ⟨g, i, none⟩ := fun i q => by injection q with q _; exact hne q
  exact ⟨set_other (ne 0) k0, set_other (ne 1) k1, set_other (ne 2) k2, set_other (ne 3) k3, set_other (ne 4) k4, set_other (ne 5) k5, set_other (ne 6) k6, set_other (ne 7) k7, set_other (ne 8) k8, set_other (ne 9) k9, set_other (ne 10) k10⟩
theorem KeepAt.drewN {w : World} {g : Nat} (h : KeepAt w g) (n : Nat) : KeepAt (w.drewN n) g := h
theorem OwnG.keepAt {w : World} {base : Nat} {v : Value} (h : OwnG w base v [⟨4, 0, 0, 0, 0⟩]) : ∃ g x, v = .slice (some ⟨g, 0, none⟩) 1 x ∧ base ≤ g ∧ KeepAt w g := by
  have h0 := h
  unfold OwnG at h0
  rcases h0.2 with ⟨rfl, hn⟩ | ⟨g, cap, cur, rfl, hb, hg, hnc, hcm, hcs, htake⟩
  · cases hn
  · refine ⟨g, cap, rfl, hb, ?_⟩
    unfold KeepAt
    have hc := fun i hi => h0.cellAt i hi
    refine ⟨(hc 0 (by simp)).trans rfl, (hc 1 (by simp)).trans rfl, (hc 2 (by simp)).trans rfl, (hc 3 (by simp)).trans rfl, (hc 4 (by simp)).trans rfl, (hc 5 (by simp)).trans rfl, (hc 6 (by simp)).trans rfl, (hc 7 (by simp)).trans rfl, (hc 8 (by simp)).trans rfl, (hc 9 (by simp)).trans rfl, (hc 10 (by simp)).trans rfl⟩
theorem tick_go {aa ai ah ap m c d pe : Int} (u : Value) (w : World) (hu0 : w.cell? ⟨0, 0, none⟩ = some (.iface 194 u)) (hg0 : w.cell? ⟨1, 0, none⟩ = some (.iface 172 (.agg #[.pointer (some ⟨6, 103, none⟩)]))) (HS : Hid (sesB aa ai ah ap 4 m c d pe = true)) (h1 : Hid (¬ c + 1 = m)) (h2 : Hid (¬ d - 1 = 0)) (c' d' : Int) (he : Hid (c' = c + 1 ∧ d' = d - 1)) :
    Calls Tryd.prog 14 #[.agg #[.int .i64 aa, .int .i64 ai, .int .i64 ah, .int .i64 ap], .agg #[.int .i64 4, .int .i64 m, .int .i64 c, .int .i64 d, .int .i64 pe], .agg #[.int .i64 5, .int .i64 0, .int .i64 0, .int .i64 0, .int .i64 0, .slice none 0 0, .slice none 0 0, .slice none 0 0, .int .i64 0, .slice none 0 0, .int .i64 0, .int .i64 0, .int .i64 0]] w fun e w' => ∃ a x, e = .returned (.tuple #[.agg #[.int .i64 4, .int .i64 m, .int .i64 c', .int .i64 d', .int .i64 pe], .slice a 0 x]) ∧ Below w.heap.size w w' := by
  have h := iSS_any aa ai ah ap 4 m c d pe none none none none 0 0 0 0 [] [] [] [] 5 0 0 0 0 0 0 0 0 u w (RdP.nil w) (RdP.nil w) ⟨by simp, by simp, .inl ⟨none, 0, rfl, rfl, fun _ => rfl⟩⟩ ⟨by simp, by simp, .inl ⟨none, 0, rfl, rfl, fun _ => rfl⟩⟩ hu0 hg0
  have e : ssF aa ai ah ap 4 m c d pe [] [] [] [] 5 0 0 0 0 0 0 0 0 = ⟨4, m, c', d', pe, []⟩ := by
    unfold ssF
    rw [if_pos ⟨HS.out, by decide⟩]
    obtain ⟨rfl, rfl⟩ := he.out
    have q1 := h1.out
    have q2 := h2.out
    simp [stepF, q1, q2]
  rw [e] at h
  refine h.mono fun e w' ⟨v, he, ho, hb⟩ => ?_
  obtain ⟨a, x, rfl, hx⟩ := ho.cap
  exact ⟨a, x, he, hb⟩
theorem tick_keep {aa ai ah ap m c d pe : Int} (u : Value) (w : World) (hu0 : w.cell? ⟨0, 0, none⟩ = some (.iface 194 u)) (hg0 : w.cell? ⟨1, 0, none⟩ = some (.iface 172 (.agg #[.pointer (some ⟨6, 103, none⟩)]))) (HS : Hid (sesB aa ai ah ap 4 m c d pe = true)) (h1 : Hid (¬ c + 1 = m)) (h2 : Hid (d - 1 = 0)) (c' d' : Int) (he : Hid (c' = c + 1 ∧ d' = m / 3)) :
    Calls Tryd.prog 14 #[.agg #[.int .i64 aa, .int .i64 ai, .int .i64 ah, .int .i64 ap], .agg #[.int .i64 4, .int .i64 m, .int .i64 c, .int .i64 d, .int .i64 pe], .agg #[.int .i64 5, .int .i64 0, .int .i64 0, .int .i64 0, .int .i64 0, .slice none 0 0, .slice none 0 0, .slice none 0 0, .int .i64 0, .slice none 0 0, .int .i64 0, .int .i64 0, .int .i64 0]] w fun e w' => ∃ g x, e = .returned (.tuple #[.agg #[.int .i64 4, .int .i64 m, .int .i64 c', .int .i64 d', .int .i64 pe], .slice (some ⟨g, 0, none⟩) 1 x]) ∧ w.heap.size ≤ g ∧ KeepAt w' g ∧ Below w.heap.size w w' := by
  have h := iSS_any aa ai ah ap 4 m c d pe none none none none 0 0 0 0 [] [] [] [] 5 0 0 0 0 0 0 0 0 u w (RdP.nil w) (RdP.nil w) ⟨by simp, by simp, .inl ⟨none, 0, rfl, rfl, fun _ => rfl⟩⟩ ⟨by simp, by simp, .inl ⟨none, 0, rfl, rfl, fun _ => rfl⟩⟩ hu0 hg0
  have e : ssF aa ai ah ap 4 m c d pe [] [] [] [] 5 0 0 0 0 0 0 0 0 = ⟨4, m, c', d', pe, [⟨4, 0, 0, 0, 0⟩]⟩ := by
    unfold ssF
    rw [if_pos ⟨HS.out, by decide⟩]
    obtain ⟨rfl, rfl⟩ := he.out
    have q1 := h1.out
    have q2 := h2.out
    simp [stepF, q1, q2]
  rw [e] at h
  refine h.mono fun e w' ⟨v, he, ho, hb⟩ => ?_
  obtain ⟨g, x, rfl, hg, hk⟩ := ho.keepAt
  exact ⟨g, x, he, hg, hk, hb⟩
theorem hear_keep {aa ai ah ap m c d pe : Int} (u : Value) (w : World) (hu0 : w.cell? ⟨0, 0, none⟩ = some (.iface 194 u)) (hg0 : w.cell? ⟨1, 0, none⟩ = some (.iface 172 (.agg #[.pointer (some ⟨6, 103, none⟩)]))) (HS : Hid (sesB aa ai ah ap 4 m c d pe = true)) :
    Calls Tryd.prog 14 #[.agg #[.int .i64 aa, .int .i64 ai, .int .i64 ah, .int .i64 ap], .agg #[.int .i64 4, .int .i64 m, .int .i64 c, .int .i64 d, .int .i64 pe], .agg #[.int .i64 4, .int .i64 4, .int .i64 0, .int .i64 0, .int .i64 0, .slice none 0 0, .slice none 0 0, .slice none 0 0, .int .i64 0, .slice none 0 0, .int .i64 0, .int .i64 0, .int .i64 0]] w fun e w' => ∃ a x, e = .returned (.tuple #[.agg #[.int .i64 4, .int .i64 m, .int .i64 0, .int .i64 d, .int .i64 pe], .slice a 0 x]) ∧ Below w.heap.size w w' := by
  have h := iSS_any aa ai ah ap 4 m c d pe none none none none 0 0 0 0 [] [] [] [] 4 0 4 0 0 0 0 0 0 u w (RdP.nil w) (RdP.nil w) ⟨by simp, by simp, .inl ⟨none, 0, rfl, rfl, fun _ => rfl⟩⟩ ⟨by simp, by simp, .inl ⟨none, 0, rfl, rfl, fun _ => rfl⟩⟩ hu0 hg0
  have e : ssF aa ai ah ap 4 m c d pe [] [] [] [] 4 0 4 0 0 0 0 0 0 = ⟨4, m, 0, d, pe, []⟩ := by
    unfold ssF
    rw [if_pos ⟨HS.out, by decide⟩]
    simp [stepF]
  rw [e] at h
  refine h.mono fun e w' ⟨v, he, ho, hb⟩ => ?_
  obtain ⟨a, x, rfl, hx⟩ := ho.cap
  exact ⟨a, x, he, hb⟩
end Go.Proofs.YtcmbajphholliabDoor
namespace Go.Proofs.YtcmbajphholliabDoor
open Go.ChangeShapes Go.WideShapes Go.ChangeAt Go.RowKit Go.BigFrame Go.Joins
set_option linter.unusedVariables false
set_option linter.unusedSimpArgs false
set_option maxRecDepth 100000

theorem Bl.drew {w : World} {B : Nat} {xs : List Value} (h : Bl w B xs) : Bl w.drew B xs := ⟨h.lt, h.cs, h.fz⟩
theorem KeepAt.drew {w : World} {g : Nat} (h : KeepAt w g) : KeepAt w.drew g := h
theorem ses_gen {aa ai ah ap ba m c d k : Int} (h : cokB aa ai ah ap = true) (hb : asB ba = true) (hm : 3 ≤ m ∧ m ≤ ah) (hc : 0 ≤ c ∧ c < m) (hk : k = m / 3) (hd : 1 ≤ d ∧ d ≤ k) (hp : ap = 0 ∨ ba = ap) : sesB aa ai ah ap 4 m c d ba = true := by
  unfold sesB
  simp only [decide_eq_true_eq]
  refine ⟨h, by omega, by omega, by omega, fun _ => ⟨by omega, by omega, by omega, by omega, by omega, fun _ => ⟨by omega, by omega, hb, hp⟩⟩⟩
set_option maxHeartbeats 8000000 in
theorem talks_walk (u : Value) (W : World) (hu : W.cell? ⟨0, 0, none⟩ = some (.iface 194 u)) (hg : W.cell? ⟨1, 0, none⟩ = some (.iface 172 (.agg #[.pointer (some ⟨6, 103, none⟩)]))) (v : Value) (hv : ∃ ls, Rd W v ls) :
    Calls Tryd.prog 4 #[v] W fun e w' => e = .returned (.bool true) ∧ Below W.heap.size W w' := by
  obtain ⟨ls, hr⟩ : ∃ ls, Rd W v ls := hv
  go_enter Tryd.func4, Tryd.ntmps4
  go_wp2_with fail
  refine (drawGreet_any v ls _ hr).mono ?_
  rintro e w1 ⟨aa, ai, ah, ap, ba, bi, bh, bp, rfl, hb⟩
  have B0 := hb
  clear hb hr
  have ltW := B0.size
  have bP := Bl.new w1 [.int .i64 aa, .int .i64 ai, .int .i64 ah, .int .i64 ap] 24 (w1.heap.size) (by simp)
  replace B0 := B0.alloc B0.size (.cells #[.int .i64 aa, .int .i64 ai, .int .i64 ah, .int .i64 ap] 24)
  have bQ := Bl.new (w1.alloc (.cells #[.int .i64 aa, .int .i64 ai, .int .i64 ah, .int .i64 ap] 24)) [.int .i64 ba, .int .i64 bi, .int .i64 bh, .int .i64 bp] 24 (w1.heap.size + 1) (by simp)
  replace bP := bP.alloc (.cells #[.int .i64 ba, .int .i64 bi, .int .i64 bh, .int .i64 bp] 24)
  replace B0 := B0.alloc B0.size (.cells #[.int .i64 ba, .int .i64 bi, .int .i64 bh, .int .i64 bp] 24)
  have kP0 := bP.c 0 rfl
  have kP1 := bP.c 1 rfl
  have kP2 := bP.c 2 rfl
  have kP3 := bP.c 3 rfl
  have kQ0 := bQ.c 0 rfl
  have kQ1 := bQ.c 1 rfl
  have kQ2 := bQ.c 2 rfl
  have kQ3 := bQ.c 3 rfl
  go_wp2_with fail
  clear kP0 kP1 kP2 kP3 kQ0 kQ1 kQ2 kQ3
  obtain ⟨Q, eQ⟩ : ∃ Q, Q = (w1.heap.size + 1) := ⟨_, rfl⟩
  rw [← eQ] at bQ
  try rw [← eQ]
  have hwQ : W.heap.size ≤ Q := by omega
  obtain ⟨P, eP⟩ : ∃ P, P = (w1.heap.size) := ⟨_, rfl⟩
  rw [← eP] at bP
  try rw [← eP]
  have hwP : W.heap.size ≤ P := by omega
  have nPQ : P ≠ Q := by omega
  have nQP : Q ≠ P := by omega
  clear eP eQ  ltW
  cases hg0 : (cokB aa ai ah ap && cokB ba bi bh bp && (l4B aa ai ap 1 ba bi && l4B ba bi bp 1 aa ai))
  · have HG := Lib.hid hg0
    clear hg0
    refine (greet_zero u _ (cell_keep B0 (World.block_lt_of_cell? W _ hu) hu) (cell_keep B0 (World.block_lt_of_cell? W _ hg) hg) HG).mono ?_
    rintro e w2 ⟨rfl, hb⟩
    replace bP := bP.keep hb
    replace bQ := bQ.keep hb
    replace B0 := below_step B0 hb
    clear hb
    have ltP := bP.lt
    have ltQ := bQ.lt
    have ltW := B0.size
    have bX := Bl.new w2 [.int .i64 0, .int .i64 0, .int .i64 0, .int .i64 0, .int .i64 0] 28 (w2.heap.size) (by simp)
    replace bP := bP.alloc (.cells #[.int .i64 0, .int .i64 0, .int .i64 0, .int .i64 0, .int .i64 0] 28)
    replace bQ := bQ.alloc (.cells #[.int .i64 0, .int .i64 0, .int .i64 0, .int .i64 0, .int .i64 0] 28)
    replace B0 := B0.alloc B0.size (.cells #[.int .i64 0, .int .i64 0, .int .i64 0, .int .i64 0, .int .i64 0] 28)
    have bY := Bl.new (w2.alloc (.cells #[.int .i64 0, .int .i64 0, .int .i64 0, .int .i64 0, .int .i64 0] 28)) [.int .i64 0, .int .i64 0, .int .i64 0, .int .i64 0, .int .i64 0] 28 (w2.heap.size + 1) (by simp)
    replace bP := bP.alloc (.cells #[.int .i64 0, .int .i64 0, .int .i64 0, .int .i64 0, .int .i64 0] 28)
    replace bQ := bQ.alloc (.cells #[.int .i64 0, .int .i64 0, .int .i64 0, .int .i64 0, .int .i64 0] 28)
    replace bX := bX.alloc (.cells #[.int .i64 0, .int .i64 0, .int .i64 0, .int .i64 0, .int .i64 0] 28)
    replace B0 := B0.alloc B0.size (.cells #[.int .i64 0, .int .i64 0, .int .i64 0, .int .i64 0, .int .i64 0] 28)
    have kP0 := bP.c 0 rfl
    have kP1 := bP.c 1 rfl
    have kP2 := bP.c 2 rfl
    have kP3 := bP.c 3 rfl
    have kQ0 := bQ.c 0 rfl
    have kQ1 := bQ.c 1 rfl
    have kQ2 := bQ.c 2 rfl
    have kQ3 := bQ.c 3 rfl
    have kX0 := bX.c 0 rfl
    have kX1 := bX.c 1 rfl
    have kX2 := bX.c 2 rfl
    have kX3 := bX.c 3 rfl
    have kX4 := bX.c 4 rfl
    have kY0 := bY.c 0 rfl
    have kY1 := bY.c 1 rfl
    have kY2 := bY.c 2 rfl
    have kY3 := bY.c 3 rfl
    have kY4 := bY.c 4 rfl
    go_wp2_with fail
    clear kP0 kP1 kP2 kP3 kQ0 kQ1 kQ2 kQ3 kX0 kX1 kX2 kX3 kX4 kY0 kY1 kY2 kY3 kY4
    obtain ⟨Y, eY⟩ : ∃ Y, Y = (w2.heap.size + 1) := ⟨_, rfl⟩
    rw [← eY] at bY
    try rw [← eY]
    have hwY : W.heap.size ≤ Y := by omega
    have nPY : P ≠ Y := by omega
    have nYP : Y ≠ P := by omega
    have nQY : Q ≠ Y := by omega
    have nYQ : Y ≠ Q := by omega
    obtain ⟨X, eX⟩ : ∃ X, X = (w2.heap.size) := ⟨_, rfl⟩
    rw [← eX] at bX
    try rw [← eX]
    have hwX : W.heap.size ≤ X := by omega
    have nPX : P ≠ X := by omega
    have nXP : X ≠ P := by omega
    have nQX : Q ≠ X := by omega
    have nXQ : X ≠ Q := by omega
    have nXY : X ≠ Y := by omega
    have nYX : Y ≠ X := by omega
    clear eX eY ltP ltQ ltW
    refine (greets_any u _ (cell_keep B0 (World.block_lt_of_cell? W _ hu) hu) (cell_keep B0 (World.block_lt_of_cell? W _ hg) hg)).mono ?_
    rintro e w3 ⟨rfl, hb⟩
    replace bP := bP.keep hb
    replace bQ := bQ.keep hb
    replace bX := bX.keep hb
    replace bY := bY.keep hb
    replace B0 := below_step B0 hb
    clear hb
    go_wp2
    go_ret
    exact ⟨rfl, B0⟩
  · have HG := Lib.hid hg0
    have hall := hg0
    simp only [Bool.and_eq_true] at hall
    obtain ⟨⟨ha, hb⟩, hp, hq⟩ := hall
    have h3a := cokB_ho ha
    have h3b := cokB_ho hb
    obtain ⟨m, hm⟩ : ∃ m, m = (if ah ≤ bh then ah else bh) := ⟨_, rfl⟩
    obtain ⟨k, hk⟩ : ∃ k, k = m / 3 := ⟨_, rfl⟩
    have HM := Lib.hid (And.intro hm hk)
    have hm2 : 3 ≤ m ∧ m ≤ ah ∧ m ≤ bh := by
      rw [hm]
      split <;> omega
    have HALL := Lib.hid (And.intro ha (And.intro hb (And.intro (cok_as ha) (And.intro (cok_as hb) (And.intro (l4_peer hp) (And.intro (l4_peer hq) (And.intro hm2 hk)))))))
    clear hg0 ha hb hp hq h3a h3b hm hk hm2
    refine (greet_up u _ (cell_keep B0 (World.block_lt_of_cell? W _ hu) hu) (cell_keep B0 (World.block_lt_of_cell? W _ hg) hg) HG HM).mono ?_
    rintro e w2 ⟨rfl, hb⟩
    replace bP := bP.keep hb
    replace bQ := bQ.keep hb
    replace B0 := below_step B0 hb
    clear hb
    have ltP := bP.lt
    have ltQ := bQ.lt
    have ltW := B0.size
    have bX := Bl.new w2 [.int .i64 4, .int .i64 m, .int .i64 0, .int .i64 k, .int .i64 ba] 28 (w2.heap.size) (by simp)
    replace bP := bP.alloc (.cells #[.int .i64 4, .int .i64 m, .int .i64 0, .int .i64 k, .int .i64 ba] 28)
    replace bQ := bQ.alloc (.cells #[.int .i64 4, .int .i64 m, .int .i64 0, .int .i64 k, .int .i64 ba] 28)
    replace B0 := B0.alloc B0.size (.cells #[.int .i64 4, .int .i64 m, .int .i64 0, .int .i64 k, .int .i64 ba] 28)
    have bY := Bl.new (w2.alloc (.cells #[.int .i64 4, .int .i64 m, .int .i64 0, .int .i64 k, .int .i64 ba] 28)) [.int .i64 4, .int .i64 m, .int .i64 0, .int .i64 k, .int .i64 aa] 28 (w2.heap.size + 1) (by simp)
    replace bP := bP.alloc (.cells #[.int .i64 4, .int .i64 m, .int .i64 0, .int .i64 k, .int .i64 aa] 28)
    replace bQ := bQ.alloc (.cells #[.int .i64 4, .int .i64 m, .int .i64 0, .int .i64 k, .int .i64 aa] 28)
    replace bX := bX.alloc (.cells #[.int .i64 4, .int .i64 m, .int .i64 0, .int .i64 k, .int .i64 aa] 28)
    replace B0 := B0.alloc B0.size (.cells #[.int .i64 4, .int .i64 m, .int .i64 0, .int .i64 k, .int .i64 aa] 28)
    have kP0 := bP.c 0 rfl
    have kP1 := bP.c 1 rfl
    have kP2 := bP.c 2 rfl
    have kP3 := bP.c 3 rfl
    have kQ0 := bQ.c 0 rfl
    have kQ1 := bQ.c 1 rfl
    have kQ2 := bQ.c 2 rfl
    have kQ3 := bQ.c 3 rfl
    have kX0 := bX.c 0 rfl
    have kX1 := bX.c 1 rfl
    have kX2 := bX.c 2 rfl
    have kX3 := bX.c 3 rfl
    have kX4 := bX.c 4 rfl
    have kY0 := bY.c 0 rfl
    have kY1 := bY.c 1 rfl
    have kY2 := bY.c 2 rfl
    have kY3 := bY.c 3 rfl
    have kY4 := bY.c 4 rfl
    go_wp2_with fail
    clear kP0 kP1 kP2 kP3 kQ0 kQ1 kQ2 kQ3 kX0 kX1 kX2 kX3 kX4 kY0 kY1 kY2 kY3 kY4
    obtain ⟨Y, eY⟩ : ∃ Y, Y = (w2.heap.size + 1) := ⟨_, rfl⟩
    rw [← eY] at bY
    try rw [← eY]
    have hwY : W.heap.size ≤ Y := by omega
    have nPY : P ≠ Y := by omega
    have nYP : Y ≠ P := by omega
    have nQY : Q ≠ Y := by omega
    have nYQ : Y ≠ Q := by omega
    obtain ⟨X, eX⟩ : ∃ X, X = (w2.heap.size) := ⟨_, rfl⟩
    rw [← eX] at bX
    try rw [← eX]
    have hwX : W.heap.size ≤ X := by omega
    have nPX : P ≠ X := by omega
    have nXP : X ≠ P := by omega
    have nQX : Q ≠ X := by omega
    have nXQ : X ≠ Q := by omega
    have nXY : X ≠ Y := by omega
    have nYX : Y ≠ X := by omega
    clear eX eY ltP ltQ ltW
    have hk1 : 1 ≤ k := by
      obtain ⟨-, -, -, -, -, -, hm2, hk⟩ := HALL.out
      omega
    go_loopw [8] (fun i wr => ∃ j : Nat, j ≤ 60 ∧ i = .int .i64 j ∧ ∃ c d : Int, 0 ≤ c ∧ 1 ≤ d ∧ c + d = k ∧ Below W.heap.size W wr ∧ Bl wr P [.int .i64 aa, .int .i64 ai, .int .i64 ah, .int .i64 ap] ∧ Bl wr Q [.int .i64 ba, .int .i64 bi, .int .i64 bh, .int .i64 bp] ∧ Bl wr X [.int .i64 4, .int .i64 m, .int .i64 c, .int .i64 d, .int .i64 ba] ∧ Bl wr Y [.int .i64 4, .int .i64 m, .int .i64 c, .int .i64 d, .int .i64 aa]) (fun i _ => 60 - (intOf i).toNat)
    case atStart => exact ⟨0, by omega, rfl, 0, k, by omega, by omega, by omega, B0, bP, bQ, bX, bY⟩
    case round =>
      clear B0 bP bQ bX bY
      obtain ⟨j, hj, rfl, c, d, hc0, hd1, hcd, B0, bP, bQ, bX, bY⟩ := hrel
      by_cases hlt : j < 60
      · have hltI : (j : Int) < 60 := by omega
        obtain ⟨ha, hb, haa, hba, hlp, hlq, hm2, hk⟩ := HALL.out
        have HS1 := Lib.hid (ses_gen (aa := aa) (ai := ai) (ah := ah) (ap := ap) (ba := ba) (m := m) (c := c) (d := d) (k := k) ha hba (by omega) (by omega) hk (by omega) hlp)
        have HS2 := Lib.hid (ses_gen (aa := ba) (ai := bi) (ah := bh) (ap := bp) (ba := aa) (m := m) (c := c) (d := d) (k := k) hb haa (by omega) (by omega) hk (by omega) hlq)
        have H1 : Hid (¬ c + 1 = m) := Lib.hid (by omega)
        obtain ⟨c1, hc1⟩ : ∃ c1, c1 = c + 1 := ⟨_, rfl⟩
        by_cases hd : d = 1
        · obtain ⟨d1, hd2⟩ : ∃ d1, d1 = m / 3 := ⟨_, rfl⟩
          have H2 : Hid (d - 1 = 0) := Lib.hid (by omega)
          have HE := Lib.hid (And.intro hc1 hd2)
          have HS3 := Lib.hid (ses_gen (aa := aa) (ai := ai) (ah := ah) (ap := ap) (ba := ba) (m := m) (c := c1) (d := d1) (k := k) ha hba (by omega) (by omega) hk (by omega) hlp)
          have HS4 := Lib.hid (ses_gen (aa := ba) (ai := bi) (ah := bh) (ap := bp) (ba := aa) (m := m) (c := c1) (d := d1) (k := k) hb haa (by omega) (by omega) hk (by omega) hlq)
          have HD := Lib.hid (show 1 ≤ d1 ∧ d1 = k by omega)
          clear ha hb haa hba hlp hlq hm2 hk hc1 hd2 hd hc0 hd1 hcd
          have kP0 := bP.c 0 rfl
          have kP1 := bP.c 1 rfl
          have kP2 := bP.c 2 rfl
          have kP3 := bP.c 3 rfl
          have kX0 := bX.c 0 rfl
          have kX1 := bX.c 1 rfl
          have kX2 := bX.c 2 rfl
          have kX3 := bX.c 3 rfl
          have kX4 := bX.c 4 rfl
          go_wp2_with fail
          clear kP0 kP1 kP2 kP3 kX0 kX1 kX2 kX3 kX4
          refine (tick_keep u _ (cell_keep B0 (World.block_lt_of_cell? W _ hu) hu) (cell_keep B0 (World.block_lt_of_cell? W _ hg) hg) HS1 H1 H2 c1 d1 HE).mono ?_
          rintro e w1 ⟨g, x1, rfl, hgl, hKg, hb⟩
          have nPg : P ≠ g := by have := bP.lt; omega
          have nQg : Q ≠ g := by have := bQ.lt; omega
          have nXg : X ≠ g := by have := bX.lt; omega
          have nYg : Y ≠ g := by have := bY.lt; omega
          replace bP := bP.keep hb
          replace bQ := bQ.keep hb
          replace bX := bX.keep hb
          replace bY := bY.keep hb
          replace B0 := below_step B0 hb
          clear hb
          have ltP := bP.lt
          have ltQ := bQ.lt
          have ltX := bX.lt
          have ltY := bY.lt
          have bN := Bl.new w1 [.int .i64 4, .int .i64 m, .int .i64 c1, .int .i64 d1, .int .i64 ba] 28 w1.heap.size rfl
          replace bP := bP.alloc (.cells #[.int .i64 4, .int .i64 m, .int .i64 c1, .int .i64 d1, .int .i64 ba] 28)
          replace bQ := bQ.alloc (.cells #[.int .i64 4, .int .i64 m, .int .i64 c1, .int .i64 d1, .int .i64 ba] 28)
          replace bX := bX.alloc (.cells #[.int .i64 4, .int .i64 m, .int .i64 c1, .int .i64 d1, .int .i64 ba] 28)
          replace bY := bY.alloc (.cells #[.int .i64 4, .int .i64 m, .int .i64 c1, .int .i64 d1, .int .i64 ba] 28)
          replace hKg := hKg.keep ((Below.refl _ _).alloc (Nat.le_refl _) (.cells #[.int .i64 4, .int .i64 m, .int .i64 c1, .int .i64 d1, .int .i64 ba] 28))
          replace B0 := B0.alloc B0.size (.cells #[.int .i64 4, .int .i64 m, .int .i64 c1, .int .i64 d1, .int .i64 ba] 28)
          have kQ0 := bQ.c 0 rfl
          have kQ1 := bQ.c 1 rfl
          have kQ2 := bQ.c 2 rfl
          have kQ3 := bQ.c 3 rfl
          have kY0 := bY.c 0 rfl
          have kY1 := bY.c 1 rfl
          have kY2 := bY.c 2 rfl
          have kY3 := bY.c 3 rfl
          have kY4 := bY.c 4 rfl
          go_wp2_with fail
          clear kQ0 kQ1 kQ2 kQ3 kY0 kY1 kY2 kY3 kY4
          obtain ⟨N, eN⟩ : ∃ N, N = w1.heap.size := ⟨_, rfl⟩
          rw [← eN] at bN
          try rw [← eN]
          have nPN : P ≠ N := by omega
          have nNP : N ≠ P := by omega
          have nQN : Q ≠ N := by omega
          have nNQ : N ≠ Q := by omega
          have nXN : X ≠ N := by omega
          have nNX : N ≠ X := by omega
          have nYN : Y ≠ N := by omega
          have nNY : N ≠ Y := by omega
          clear eN ltP ltQ ltX ltY
          refine (tick_keep u _ (cell_keep B0 (World.block_lt_of_cell? W _ hu) hu) (cell_keep B0 (World.block_lt_of_cell? W _ hg) hg) HS2 H1 H2 c1 d1 HE).mono ?_
          rintro e w2 ⟨h, x2, rfl, hhl, hKh, hb⟩
          have nPh : P ≠ h := by have := bP.lt; omega
          have nQh : Q ≠ h := by have := bQ.lt; omega
          have nXh : X ≠ h := by have := bX.lt; omega
          have nYh : Y ≠ h := by have := bY.lt; omega
          replace bP := bP.keep hb
          replace bQ := bQ.keep hb
          replace bX := bX.keep hb
          replace bY := bY.keep hb
          replace bN := bN.keep hb
          replace hKg := hKg.keep hb
          replace B0 := below_step B0 hb
          clear hb
          have ltP := bP.lt
          have ltQ := bQ.lt
          have ltX := bX.lt
          have ltY := bY.lt
          have ltN := bN.lt
          have bM := Bl.new w2 [.int .i64 4, .int .i64 m, .int .i64 c1, .int .i64 d1, .int .i64 aa] 28 w2.heap.size rfl
          replace bP := bP.alloc (.cells #[.int .i64 4, .int .i64 m, .int .i64 c1, .int .i64 d1, .int .i64 aa] 28)
          replace bQ := bQ.alloc (.cells #[.int .i64 4, .int .i64 m, .int .i64 c1, .int .i64 d1, .int .i64 aa] 28)
          replace bX := bX.alloc (.cells #[.int .i64 4, .int .i64 m, .int .i64 c1, .int .i64 d1, .int .i64 aa] 28)
          replace bY := bY.alloc (.cells #[.int .i64 4, .int .i64 m, .int .i64 c1, .int .i64 d1, .int .i64 aa] 28)
          replace bN := bN.alloc (.cells #[.int .i64 4, .int .i64 m, .int .i64 c1, .int .i64 d1, .int .i64 aa] 28)
          replace hKg := hKg.keep ((Below.refl _ _).alloc (Nat.le_refl _) (.cells #[.int .i64 4, .int .i64 m, .int .i64 c1, .int .i64 d1, .int .i64 aa] 28))
          replace hKh := hKh.keep ((Below.refl _ _).alloc (Nat.le_refl _) (.cells #[.int .i64 4, .int .i64 m, .int .i64 c1, .int .i64 d1, .int .i64 aa] 28))
          replace B0 := B0.alloc B0.size (.cells #[.int .i64 4, .int .i64 m, .int .i64 c1, .int .i64 d1, .int .i64 aa] 28)
          go_wp2_with fail
          obtain ⟨M, eM⟩ : ∃ M, M = w2.heap.size := ⟨_, rfl⟩
          rw [← eM] at bM
          try rw [← eM]
          have nPM : P ≠ M := by omega
          have nMP : M ≠ P := by omega
          have nQM : Q ≠ M := by omega
          have nMQ : M ≠ Q := by omega
          have nXM : X ≠ M := by omega
          have nMX : M ≠ X := by omega
          have nYM : Y ≠ M := by omega
          have nMY : M ≠ Y := by omega
          have nNM : N ≠ M := by omega
          have nMN : M ≠ N := by omega
          clear eM ltP ltQ ltX ltY ltN
          obtain ⟨V, eV⟩ : ∃ V, V = (w2.alloc (.cells #[.int .i64 4, .int .i64 m, .int .i64 c1, .int .i64 d1, .int .i64 aa] 28)) := ⟨_, rfl⟩
          rw [← eV] at bP bQ bX bY bN bM B0 hKg hKh ⊢
          clear eV
          refine wp_region_held_drew (S := fun w' => Bl w' N [.int .i64 4, .int .i64 m, .int .i64 c1, .int .i64 d1, .int .i64 ba] ∧ Bl w' M [.int .i64 4, .int .i64 m, .int .i64 c1, .int .i64 d1, .int .i64 aa]) (by kernel_rfl) ⟨bN.drew, bM.drew⟩ (fun hHeld => ?_)
          obtain ⟨u0, e0⟩ : ∃ u, u = V.drew := ⟨_, rfl⟩
          replace bP := bP.drew
          replace bQ := bQ.drew
          replace bX := bX.drew
          replace bY := bY.drew
          replace bN := bN.drew
          replace bM := bM.drew
          replace hKg := hKg.drew
          replace hKh := hKh.drew
          replace B0 := B0.drew
          rw [← e0] at bP bQ bX bY bN bM B0 hKg hKh ⊢
          clear e0 hHeld
          refine wpAnyH_take (i := 0) (v := ?_) rfl (by kernel_rfl) (by kernel_rfl) (by kernel_rfl) (fun _ _ _ h => h) (Or.inl ⟨by rfl, ?_⟩) ⟨bN, bM⟩ ?_
          rotate_left
          · intro wq hSq
            (try dsimp only at hSq)
            have q0 := hSq.1.c 0 rfl
            have q1 := hSq.1.c 1 rfl
            have q2 := hSq.1.c 2 rfl
            have q3 := hSq.1.c 3 rfl
            have q4 := hSq.1.c 4 rfl
            go_simp
            try rfl
          change wpAnyH _ _ _ _ _ _ _ (Act.put _ (some 48) _) _
          simp only [Act.put, List.setIfInBounds_toArray, List.set_cons_succ, List.set_cons_zero]
          refine wpAnyH_take (i := 1) (v := ?_) rfl (by kernel_rfl) (by kernel_rfl) (by kernel_rfl) (fun _ _ _ h => h) (Or.inl ⟨by rfl, ?_⟩) ⟨bN, bM⟩ ?_
          rotate_left
          · intro wq hSq
            (try dsimp only at hSq)
            have q0 := hSq.2.c 0 rfl
            have q1 := hSq.2.c 1 rfl
            have q2 := hSq.2.c 2 rfl
            have q3 := hSq.2.c 3 rfl
            have q4 := hSq.2.c 4 rfl
            go_simp
            try rfl
          change wpAnyH _ _ _ _ _ _ _ (Act.put _ (some 49) _) _
          simp only [Act.put, List.setIfInBounds_toArray, List.set_cons_succ, List.set_cons_zero]
          refine wpAnyH_ready (rs := [2]) (by kernel_rfl) (by simp) ?_
          refine (AllReadyH.cons rfl (fun K hK => ?_) AllReadyH.nil)
          have kX0 := bX.c 0 rfl
          have qX0 := bX.f 0 (x := _) rfl
          have kX1 := bX.c 1 rfl
          have qX1 := bX.f 1 (x := _) rfl
          have kX2 := bX.c 2 rfl
          have qX2 := bX.f 2 (x := _) rfl
          have kX3 := bX.c 3 rfl
          have qX3 := bX.f 3 (x := _) rfl
          have kX4 := bX.c 4 rfl
          have qX4 := bX.f 4 (x := _) rfl
          go_simp
          clear kX0 qX0 kX1 qX1 kX2 qX2 kX3 qX3 kX4 qX4
          replace B0 := (((((B0.setCell (p := ⟨X, 0, none⟩) hwX (.int .i64 4)).setCell (p := ⟨X, 1, none⟩) hwX (.int .i64 m)).setCell (p := ⟨X, 2, none⟩) hwX (.int .i64 c1)).setCell (p := ⟨X, 3, none⟩) hwX (.int .i64 d1)).setCell (p := ⟨X, 4, none⟩) hwX (.int .i64 ba))
          replace bP := (((((bP.far (o := 0) (u := .int .i64 4) nPX).far (o := 1) (u := .int .i64 m) nPX).far (o := 2) (u := .int .i64 c1) nPX).far (o := 3) (u := .int .i64 d1) nPX).far (o := 4) (u := .int .i64 ba) nPX)
          replace bQ := (((((bQ.far (o := 0) (u := .int .i64 4) nQX).far (o := 1) (u := .int .i64 m) nQX).far (o := 2) (u := .int .i64 c1) nQX).far (o := 3) (u := .int .i64 d1) nQX).far (o := 4) (u := .int .i64 ba) nQX)
          replace bY := (((((bY.far (o := 0) (u := .int .i64 4) nYX).far (o := 1) (u := .int .i64 m) nYX).far (o := 2) (u := .int .i64 c1) nYX).far (o := 3) (u := .int .i64 d1) nYX).far (o := 4) (u := .int .i64 ba) nYX)
          replace bN := (((((bN.far (o := 0) (u := .int .i64 4) nNX).far (o := 1) (u := .int .i64 m) nNX).far (o := 2) (u := .int .i64 c1) nNX).far (o := 3) (u := .int .i64 d1) nNX).far (o := 4) (u := .int .i64 ba) nNX)
          replace bM := (((((bM.far (o := 0) (u := .int .i64 4) nMX).far (o := 1) (u := .int .i64 m) nMX).far (o := 2) (u := .int .i64 c1) nMX).far (o := 3) (u := .int .i64 d1) nMX).far (o := 4) (u := .int .i64 ba) nMX)
          replace hKg := (KeepAt.far (o := 4) (u := .int .i64 ba) (KeepAt.far (o := 3) (u := .int .i64 d1) (KeepAt.far (o := 2) (u := .int .i64 c1) (KeepAt.far (o := 1) (u := .int .i64 m) (KeepAt.far (o := 0) (u := .int .i64 4) hKg nXg) nXg) nXg) nXg) nXg)
          replace hKh := (KeepAt.far (o := 4) (u := .int .i64 ba) (KeepAt.far (o := 3) (u := .int .i64 d1) (KeepAt.far (o := 2) (u := .int .i64 c1) (KeepAt.far (o := 1) (u := .int .i64 m) (KeepAt.far (o := 0) (u := .int .i64 4) hKh nXh) nXh) nXh) nXh) nXh)
          replace bX := (((((bX.set 0 (.int .i64 4)).set 1 (.int .i64 m)).set 2 (.int .i64 c1)).set 3 (.int .i64 d1)).set 4 (.int .i64 ba))
          refine hK.out _ _ ⟨bN, bM⟩ (fun _ => ?_)
          clear hK K
          try simp only [Act.put, List.setIfInBounds_toArray, List.set_cons_zero, List.set_cons_succ]
          obtain ⟨u1, eU⟩ : ∃ z, z = (((((u0.setCell ⟨X, 0, none⟩ (.int .i64 4)).setCell ⟨X, 1, none⟩ (.int .i64 m)).setCell ⟨X, 2, none⟩ (.int .i64 c1)).setCell ⟨X, 3, none⟩ (.int .i64 d1)).setCell ⟨X, 4, none⟩ (.int .i64 ba)) := ⟨_, rfl⟩
          rw [← eU] at bP bQ bX bY bN bM B0 hKg hKh ⊢
          clear eU
          refine wpAnyH_ready (rs := [3]) (by kernel_rfl) (by simp) ?_
          refine (AllReadyH.cons rfl (fun K hK => ?_) AllReadyH.nil)
          have kY0 := bY.c 0 rfl
          have qY0 := bY.f 0 (x := _) rfl
          have kY1 := bY.c 1 rfl
          have qY1 := bY.f 1 (x := _) rfl
          have kY2 := bY.c 2 rfl
          have qY2 := bY.f 2 (x := _) rfl
          have kY3 := bY.c 3 rfl
          have qY3 := bY.f 3 (x := _) rfl
          have kY4 := bY.c 4 rfl
          have qY4 := bY.f 4 (x := _) rfl
          go_simp
          clear kY0 qY0 kY1 qY1 kY2 qY2 kY3 qY3 kY4 qY4
          replace B0 := (((((B0.setCell (p := ⟨Y, 0, none⟩) hwY (.int .i64 4)).setCell (p := ⟨Y, 1, none⟩) hwY (.int .i64 m)).setCell (p := ⟨Y, 2, none⟩) hwY (.int .i64 c1)).setCell (p := ⟨Y, 3, none⟩) hwY (.int .i64 d1)).setCell (p := ⟨Y, 4, none⟩) hwY (.int .i64 aa))
          replace bP := (((((bP.far (o := 0) (u := .int .i64 4) nPY).far (o := 1) (u := .int .i64 m) nPY).far (o := 2) (u := .int .i64 c1) nPY).far (o := 3) (u := .int .i64 d1) nPY).far (o := 4) (u := .int .i64 aa) nPY)
          replace bQ := (((((bQ.far (o := 0) (u := .int .i64 4) nQY).far (o := 1) (u := .int .i64 m) nQY).far (o := 2) (u := .int .i64 c1) nQY).far (o := 3) (u := .int .i64 d1) nQY).far (o := 4) (u := .int .i64 aa) nQY)
          replace bX := (((((bX.far (o := 0) (u := .int .i64 4) nXY).far (o := 1) (u := .int .i64 m) nXY).far (o := 2) (u := .int .i64 c1) nXY).far (o := 3) (u := .int .i64 d1) nXY).far (o := 4) (u := .int .i64 aa) nXY)
          replace bN := (((((bN.far (o := 0) (u := .int .i64 4) nNY).far (o := 1) (u := .int .i64 m) nNY).far (o := 2) (u := .int .i64 c1) nNY).far (o := 3) (u := .int .i64 d1) nNY).far (o := 4) (u := .int .i64 aa) nNY)
          replace bM := (((((bM.far (o := 0) (u := .int .i64 4) nMY).far (o := 1) (u := .int .i64 m) nMY).far (o := 2) (u := .int .i64 c1) nMY).far (o := 3) (u := .int .i64 d1) nMY).far (o := 4) (u := .int .i64 aa) nMY)
          replace hKg := (KeepAt.far (o := 4) (u := .int .i64 aa) (KeepAt.far (o := 3) (u := .int .i64 d1) (KeepAt.far (o := 2) (u := .int .i64 c1) (KeepAt.far (o := 1) (u := .int .i64 m) (KeepAt.far (o := 0) (u := .int .i64 4) hKg nYg) nYg) nYg) nYg) nYg)
          replace hKh := (KeepAt.far (o := 4) (u := .int .i64 aa) (KeepAt.far (o := 3) (u := .int .i64 d1) (KeepAt.far (o := 2) (u := .int .i64 c1) (KeepAt.far (o := 1) (u := .int .i64 m) (KeepAt.far (o := 0) (u := .int .i64 4) hKh nYh) nYh) nYh) nYh) nYh)
          replace bY := (((((bY.set 0 (.int .i64 4)).set 1 (.int .i64 m)).set 2 (.int .i64 c1)).set 3 (.int .i64 d1)).set 4 (.int .i64 aa))
          refine hK.out _ _ ⟨bN, bM⟩ (fun _ => ?_)
          clear hK K
          try simp only [Act.put, List.setIfInBounds_toArray, List.set_cons_zero, List.set_cons_succ]
          obtain ⟨u2, eU⟩ : ∃ z, z = (((((u1.setCell ⟨Y, 0, none⟩ (.int .i64 4)).setCell ⟨Y, 1, none⟩ (.int .i64 m)).setCell ⟨Y, 2, none⟩ (.int .i64 c1)).setCell ⟨Y, 3, none⟩ (.int .i64 d1)).setCell ⟨Y, 4, none⟩ (.int .i64 aa)) := ⟨_, rfl⟩
          rw [← eU] at bP bQ bX bY bN bM B0 hKg hKh ⊢
          clear eU
          refine wpAnyH_done (by kernel_rfl) ?_ _
          clear bN bM
          go_wp2_with fail
          have hn01 : (0 : Int) < 1 := by omega
          refine wp_loop_rounds 2 ?_
          rw [rounds_succ]
          go_wp2_with fail
          refine wp_region_held_drew (S := fun w' => Bl w' P [.int .i64 aa, .int .i64 ai, .int .i64 ah, .int .i64 ap] ∧ KeepAt w' h) (by kernel_rfl) ⟨bP.drew, hKh.drew⟩ (fun hHeld => ?_)
          obtain ⟨v3, e0⟩ : ∃ u, u = u2.drew := ⟨_, rfl⟩
          replace bP := bP.drew
          replace bQ := bQ.drew
          replace bX := bX.drew
          replace bY := bY.drew
          replace hKg := hKg.drew
          replace hKh := hKh.drew
          replace B0 := B0.drew
          rw [← e0] at bP bQ bX bY B0 hKg hKh ⊢
          clear e0 hHeld
          refine wpAnyH_take (i := 0) (v := ?_) rfl (by kernel_rfl) (by kernel_rfl) (by kernel_rfl) (fun _ _ _ h => h) (Or.inl ⟨by rfl, ?_⟩) ⟨bP, hKh⟩ ?_
          rotate_left
          · intro wq hSq
            (try dsimp only at hSq)
            have q0 := hSq.1.c 0 rfl
            have q1 := hSq.1.c 1 rfl
            have q2 := hSq.1.c 2 rfl
            have q3 := hSq.1.c 3 rfl
            go_simp
            try rfl
          change wpAnyH _ _ _ _ _ _ _ (Act.put _ (some 57) _) _
          simp only [Act.put, List.setIfInBounds_toArray, List.set_cons_succ, List.set_cons_zero]
          refine wpAnyH_take (i := 2) (v := ?_) rfl (by kernel_rfl) (by kernel_rfl) (by kernel_rfl) (fun _ _ _ h => h) (Or.inl ⟨by rfl, ?_⟩) ⟨bP, hKh⟩ ?_
          rotate_left
          · intro wq hSq
            (try dsimp only at hSq)

            go_simp
            try rfl
          change wpAnyH _ _ _ _ _ _ _ (Act.put _ (some 59) _) _
          simp only [Act.put, List.setIfInBounds_toArray, List.set_cons_succ, List.set_cons_zero]
          refine wpAnyH_take (i := 3) (v := ?_) rfl (by kernel_rfl) (by kernel_rfl) (by kernel_rfl) (fun _ _ _ h => h) (Or.inl ⟨by rfl, ?_⟩) ⟨bP, hKh⟩ ?_
          rotate_left
          · intro wq hSq
            (try dsimp only at hSq)

            go_simp
            try rfl
          change wpAnyH _ _ _ _ _ _ _ (Act.put _ (some 60) _) _
          simp only [Act.put, List.setIfInBounds_toArray, List.set_cons_succ, List.set_cons_zero]
          refine wpAnyH_take (i := 4) (v := ?_) rfl (by kernel_rfl) (by kernel_rfl) (by kernel_rfl) (fun _ _ _ h => h) (Or.inl ⟨by rfl, ?_⟩) ⟨bP, hKh⟩ ?_
          rotate_left
          · intro wq hSq
            (try dsimp only at hSq)

            go_simp
            try rfl
          change wpAnyH _ _ _ _ _ _ _ (Act.put _ (some 61) _) _
          simp only [Act.put, List.setIfInBounds_toArray, List.set_cons_succ, List.set_cons_zero]
          refine wpAnyH_take (i := 5) (v := ?_) rfl (by kernel_rfl) (by kernel_rfl) (by kernel_rfl) (fun _ _ _ h => h) (Or.inl ⟨by rfl, ?_⟩) ⟨bP, hKh⟩ ?_
          rotate_left
          · intro wq hSq
            (try dsimp only at hSq)
            obtain ⟨q0, q1, q2, q3, q4, q5, q6, q7, q8, q9, q10⟩ := hSq.2
            go_simp
            try rfl
          change wpAnyH _ _ _ _ _ _ _ (Act.put _ (some 62) _) _
          simp only [Act.put, List.setIfInBounds_toArray, List.set_cons_succ, List.set_cons_zero]
          refine wpAnyH_take (i := 6) (v := ?_) rfl (by kernel_rfl) (by kernel_rfl) (by kernel_rfl) (fun _ _ _ h => h) (Or.inl ⟨by rfl, ?_⟩) ⟨bP, hKh⟩ ?_
          rotate_left
          · intro wq hSq
            (try dsimp only at hSq)

            go_simp
            try rfl
          change wpAnyH _ _ _ _ _ _ _ (Act.put _ (some 63) _) _
          simp only [Act.put, List.setIfInBounds_toArray, List.set_cons_succ, List.set_cons_zero]
          refine wpAnyH_ready (rs := [1]) (by kernel_rfl) (by simp) ?_
          refine (AllReadyH.cons rfl (fun K hK => ?_) AllReadyH.nil)
          have kX0 := bX.c 0 rfl
          have kX1 := bX.c 1 rfl
          have kX2 := bX.c 2 rfl
          have kX3 := bX.c 3 rfl
          have kX4 := bX.c 4 rfl
          go_simp
          clear kX0 kX1 kX2 kX3 kX4
          refine hK.out _ _ ⟨bP, hKh⟩ (fun _ => ?_)
          clear hK K
          try simp only [Act.put, List.setIfInBounds_toArray, List.set_cons_zero, List.set_cons_succ]
          refine wpAnyH_ready (rs := [7]) (by kernel_rfl) (by simp) ?_
          refine (AllReadyH.cons rfl (fun K hK => ?_) AllReadyH.nil)
          go_simp
          refine (hear_keep u _ (cell_keep B0 (World.block_lt_of_cell? W _ hu) hu) (cell_keep B0 (World.block_lt_of_cell? W _ hg) hg) HS3).mono ?_
          rintro e w3 ⟨a3, x3, rfl, hb⟩
          replace bP := bP.keep hb
          replace bQ := bQ.keep hb
          replace bX := bX.keep hb
          replace bY := bY.keep hb
          replace hKg := hKg.keep hb
          replace hKh := hKh.keep hb
          replace B0 := below_step B0 hb
          clear hb
          refine hK.out _ _ ⟨bP, hKh⟩ (fun _ => ?_)
          clear hK K
          try simp only [Act.put, List.setIfInBounds_toArray, List.set_cons_zero, List.set_cons_succ]
          refine wpAnyH_take (i := 8) (v := ?_) rfl (by kernel_rfl) (by kernel_rfl) (by kernel_rfl) (fun _ _ _ h => h) (Or.inl ⟨by rfl, ?_⟩) ⟨bP, hKh⟩ ?_
          rotate_left
          · intro wq hSq
            (try dsimp only at hSq)

            go_simp
            try rfl
          change wpAnyH _ _ _ _ _ _ _ (Act.put _ (some 56) _) _
          simp only [Act.put, List.setIfInBounds_toArray, List.set_cons_succ, List.set_cons_zero]
          refine wpAnyH_take (i := 9) (v := ?_) rfl (by kernel_rfl) (by kernel_rfl) (by kernel_rfl) (fun _ _ _ h => h) (Or.inl ⟨by rfl, ?_⟩) ⟨bP, hKh⟩ ?_
          rotate_left
          · intro wq hSq
            (try dsimp only at hSq)

            go_simp
            try rfl
          change wpAnyH _ _ _ _ _ _ _ (Act.put _ (some 65) _) _
          simp only [Act.put, List.setIfInBounds_toArray, List.set_cons_succ, List.set_cons_zero]
          refine wpAnyH_take (i := 10) (v := ?_) rfl (by kernel_rfl) (by kernel_rfl) (by kernel_rfl) (fun _ _ _ h => h) (Or.inl ⟨by rfl, ?_⟩) ⟨bP, hKh⟩ ?_
          rotate_left
          · intro wq hSq
            (try dsimp only at hSq)

            go_simp
            try rfl
          change wpAnyH _ _ _ _ _ _ _ (Act.put _ (some 66) _) _
          simp only [Act.put, List.setIfInBounds_toArray, List.set_cons_succ, List.set_cons_zero]
          refine wpAnyH_ready (rs := [11]) (by kernel_rfl) (by simp) ?_
          refine (AllReadyH.cons rfl (fun K hK => ?_) AllReadyH.nil)
          have kX0 := bX.c 0 rfl
          have qX0 := bX.f 0 (x := _) rfl
          have kX1 := bX.c 1 rfl
          have qX1 := bX.f 1 (x := _) rfl
          have kX2 := bX.c 2 rfl
          have qX2 := bX.f 2 (x := _) rfl
          have kX3 := bX.c 3 rfl
          have qX3 := bX.f 3 (x := _) rfl
          have kX4 := bX.c 4 rfl
          have qX4 := bX.f 4 (x := _) rfl
          go_simp
          clear kX0 qX0 kX1 qX1 kX2 qX2 kX3 qX3 kX4 qX4
          replace B0 := (((((B0.setCell (p := ⟨X, 0, none⟩) hwX (.int .i64 4)).setCell (p := ⟨X, 1, none⟩) hwX (.int .i64 m)).setCell (p := ⟨X, 2, none⟩) hwX (.int .i64 0)).setCell (p := ⟨X, 3, none⟩) hwX (.int .i64 d1)).setCell (p := ⟨X, 4, none⟩) hwX (.int .i64 ba))
          replace bP := (((((bP.far (o := 0) (u := .int .i64 4) nPX).far (o := 1) (u := .int .i64 m) nPX).far (o := 2) (u := .int .i64 0) nPX).far (o := 3) (u := .int .i64 d1) nPX).far (o := 4) (u := .int .i64 ba) nPX)
          replace bQ := (((((bQ.far (o := 0) (u := .int .i64 4) nQX).far (o := 1) (u := .int .i64 m) nQX).far (o := 2) (u := .int .i64 0) nQX).far (o := 3) (u := .int .i64 d1) nQX).far (o := 4) (u := .int .i64 ba) nQX)
          replace bY := (((((bY.far (o := 0) (u := .int .i64 4) nYX).far (o := 1) (u := .int .i64 m) nYX).far (o := 2) (u := .int .i64 0) nYX).far (o := 3) (u := .int .i64 d1) nYX).far (o := 4) (u := .int .i64 ba) nYX)
          replace hKg := (KeepAt.far (o := 4) (u := .int .i64 ba) (KeepAt.far (o := 3) (u := .int .i64 d1) (KeepAt.far (o := 2) (u := .int .i64 0) (KeepAt.far (o := 1) (u := .int .i64 m) (KeepAt.far (o := 0) (u := .int .i64 4) hKg nXg) nXg) nXg) nXg) nXg)
          replace hKh := (KeepAt.far (o := 4) (u := .int .i64 ba) (KeepAt.far (o := 3) (u := .int .i64 d1) (KeepAt.far (o := 2) (u := .int .i64 0) (KeepAt.far (o := 1) (u := .int .i64 m) (KeepAt.far (o := 0) (u := .int .i64 4) hKh nXh) nXh) nXh) nXh) nXh)
          replace bX := (((((bX.set 0 (.int .i64 4)).set 1 (.int .i64 m)).set 2 (.int .i64 0)).set 3 (.int .i64 d1)).set 4 (.int .i64 ba))
          refine hK.out _ _ ⟨bP, hKh⟩ (fun _ => ?_)
          clear hK K
          try simp only [Act.put, List.setIfInBounds_toArray, List.set_cons_zero, List.set_cons_succ]
          obtain ⟨z3, eZ⟩ : ∃ z, z = (((((w3.setCell ⟨X, 0, none⟩ (.int .i64 4)).setCell ⟨X, 1, none⟩ (.int .i64 m)).setCell ⟨X, 2, none⟩ (.int .i64 0)).setCell ⟨X, 3, none⟩ (.int .i64 d1)).setCell ⟨X, 4, none⟩ (.int .i64 ba)) := ⟨_, rfl⟩
          rw [← eZ] at bP bQ bX bY B0 hKg hKh ⊢
          clear eZ
          refine wpAnyH_done (by kernel_rfl) ?_ _
          go_wp2_with fail
          rw [rounds_succ]
          go_wp2_with fail
          have hn01 : (0 : Int) < 1 := by omega
          refine wp_loop_rounds 2 ?_
          rw [rounds_succ]
          go_wp2_with fail
          refine wp_region_held_drew (S := fun w' => Bl w' Q [.int .i64 ba, .int .i64 bi, .int .i64 bh, .int .i64 bp] ∧ KeepAt w' g) (by kernel_rfl) ⟨bQ.drew, hKg.drew⟩ (fun hHeld => ?_)
          obtain ⟨v4, e0⟩ : ∃ u, u = z3.drew := ⟨_, rfl⟩
          replace bP := bP.drew
          replace bQ := bQ.drew
          replace bX := bX.drew
          replace bY := bY.drew
          replace hKg := hKg.drew
          replace B0 := B0.drew
          rw [← e0] at bP bQ bX bY B0 hKg ⊢
          clear e0 hHeld
          refine wpAnyH_take (i := 0) (v := ?_) rfl (by kernel_rfl) (by kernel_rfl) (by kernel_rfl) (fun _ _ _ h => h) (Or.inl ⟨by rfl, ?_⟩) ⟨bQ, hKg⟩ ?_
          rotate_left
          · intro wq hSq
            (try dsimp only at hSq)
            have q0 := hSq.1.c 0 rfl
            have q1 := hSq.1.c 1 rfl
            have q2 := hSq.1.c 2 rfl
            have q3 := hSq.1.c 3 rfl
            go_simp
            try rfl
          change wpAnyH _ _ _ _ _ _ _ (Act.put _ (some 74) _) _
          simp only [Act.put, List.setIfInBounds_toArray, List.set_cons_succ, List.set_cons_zero]
          refine wpAnyH_take (i := 2) (v := ?_) rfl (by kernel_rfl) (by kernel_rfl) (by kernel_rfl) (fun _ _ _ h => h) (Or.inl ⟨by rfl, ?_⟩) ⟨bQ, hKg⟩ ?_
          rotate_left
          · intro wq hSq
            (try dsimp only at hSq)

            go_simp
            try rfl
          change wpAnyH _ _ _ _ _ _ _ (Act.put _ (some 76) _) _
          simp only [Act.put, List.setIfInBounds_toArray, List.set_cons_succ, List.set_cons_zero]
          refine wpAnyH_take (i := 3) (v := ?_) rfl (by kernel_rfl) (by kernel_rfl) (by kernel_rfl) (fun _ _ _ h => h) (Or.inl ⟨by rfl, ?_⟩) ⟨bQ, hKg⟩ ?_
          rotate_left
          · intro wq hSq
            (try dsimp only at hSq)

            go_simp
            try rfl
          change wpAnyH _ _ _ _ _ _ _ (Act.put _ (some 77) _) _
          simp only [Act.put, List.setIfInBounds_toArray, List.set_cons_succ, List.set_cons_zero]
          refine wpAnyH_take (i := 4) (v := ?_) rfl (by kernel_rfl) (by kernel_rfl) (by kernel_rfl) (fun _ _ _ h => h) (Or.inl ⟨by rfl, ?_⟩) ⟨bQ, hKg⟩ ?_
          rotate_left
          · intro wq hSq
            (try dsimp only at hSq)

            go_simp
            try rfl
          change wpAnyH _ _ _ _ _ _ _ (Act.put _ (some 78) _) _
          simp only [Act.put, List.setIfInBounds_toArray, List.set_cons_succ, List.set_cons_zero]
          refine wpAnyH_take (i := 5) (v := ?_) rfl (by kernel_rfl) (by kernel_rfl) (by kernel_rfl) (fun _ _ _ h => h) (Or.inl ⟨by rfl, ?_⟩) ⟨bQ, hKg⟩ ?_
          rotate_left
          · intro wq hSq
            (try dsimp only at hSq)
            obtain ⟨q0, q1, q2, q3, q4, q5, q6, q7, q8, q9, q10⟩ := hSq.2
            go_simp
            try rfl
          change wpAnyH _ _ _ _ _ _ _ (Act.put _ (some 79) _) _
          simp only [Act.put, List.setIfInBounds_toArray, List.set_cons_succ, List.set_cons_zero]
          refine wpAnyH_take (i := 6) (v := ?_) rfl (by kernel_rfl) (by kernel_rfl) (by kernel_rfl) (fun _ _ _ h => h) (Or.inl ⟨by rfl, ?_⟩) ⟨bQ, hKg⟩ ?_
          rotate_left
          · intro wq hSq
            (try dsimp only at hSq)

            go_simp
            try rfl
          change wpAnyH _ _ _ _ _ _ _ (Act.put _ (some 80) _) _
          simp only [Act.put, List.setIfInBounds_toArray, List.set_cons_succ, List.set_cons_zero]
          refine wpAnyH_ready (rs := [1]) (by kernel_rfl) (by simp) ?_
          refine (AllReadyH.cons rfl (fun K hK => ?_) AllReadyH.nil)
          have kY0 := bY.c 0 rfl
          have kY1 := bY.c 1 rfl
          have kY2 := bY.c 2 rfl
          have kY3 := bY.c 3 rfl
          have kY4 := bY.c 4 rfl
          go_simp
          clear kY0 kY1 kY2 kY3 kY4
          refine hK.out _ _ ⟨bQ, hKg⟩ (fun _ => ?_)
          clear hK K
          try simp only [Act.put, List.setIfInBounds_toArray, List.set_cons_zero, List.set_cons_succ]
          refine wpAnyH_ready (rs := [7]) (by kernel_rfl) (by simp) ?_
          refine (AllReadyH.cons rfl (fun K hK => ?_) AllReadyH.nil)
          go_simp
          refine (hear_keep u _ (cell_keep B0 (World.block_lt_of_cell? W _ hu) hu) (cell_keep B0 (World.block_lt_of_cell? W _ hg) hg) HS4).mono ?_
          rintro e w4 ⟨a4, x4, rfl, hb⟩
          replace bP := bP.keep hb
          replace bQ := bQ.keep hb
          replace bX := bX.keep hb
          replace bY := bY.keep hb
          replace hKg := hKg.keep hb
          replace B0 := below_step B0 hb
          clear hb
          refine hK.out _ _ ⟨bQ, hKg⟩ (fun _ => ?_)
          clear hK K
          try simp only [Act.put, List.setIfInBounds_toArray, List.set_cons_zero, List.set_cons_succ]
          refine wpAnyH_take (i := 8) (v := ?_) rfl (by kernel_rfl) (by kernel_rfl) (by kernel_rfl) (fun _ _ _ h => h) (Or.inl ⟨by rfl, ?_⟩) ⟨bQ, hKg⟩ ?_
          rotate_left
          · intro wq hSq
            (try dsimp only at hSq)

            go_simp
            try rfl
          change wpAnyH _ _ _ _ _ _ _ (Act.put _ (some 73) _) _
          simp only [Act.put, List.setIfInBounds_toArray, List.set_cons_succ, List.set_cons_zero]
          refine wpAnyH_take (i := 9) (v := ?_) rfl (by kernel_rfl) (by kernel_rfl) (by kernel_rfl) (fun _ _ _ h => h) (Or.inl ⟨by rfl, ?_⟩) ⟨bQ, hKg⟩ ?_
          rotate_left
          · intro wq hSq
            (try dsimp only at hSq)

            go_simp
            try rfl
          change wpAnyH _ _ _ _ _ _ _ (Act.put _ (some 82) _) _
          simp only [Act.put, List.setIfInBounds_toArray, List.set_cons_succ, List.set_cons_zero]
          refine wpAnyH_take (i := 10) (v := ?_) rfl (by kernel_rfl) (by kernel_rfl) (by kernel_rfl) (fun _ _ _ h => h) (Or.inl ⟨by rfl, ?_⟩) ⟨bQ, hKg⟩ ?_
          rotate_left
          · intro wq hSq
            (try dsimp only at hSq)

            go_simp
            try rfl
          change wpAnyH _ _ _ _ _ _ _ (Act.put _ (some 83) _) _
          simp only [Act.put, List.setIfInBounds_toArray, List.set_cons_succ, List.set_cons_zero]
          refine wpAnyH_ready (rs := [11]) (by kernel_rfl) (by simp) ?_
          refine (AllReadyH.cons rfl (fun K hK => ?_) AllReadyH.nil)
          have kY0 := bY.c 0 rfl
          have qY0 := bY.f 0 (x := _) rfl
          have kY1 := bY.c 1 rfl
          have qY1 := bY.f 1 (x := _) rfl
          have kY2 := bY.c 2 rfl
          have qY2 := bY.f 2 (x := _) rfl
          have kY3 := bY.c 3 rfl
          have qY3 := bY.f 3 (x := _) rfl
          have kY4 := bY.c 4 rfl
          have qY4 := bY.f 4 (x := _) rfl
          go_simp
          clear kY0 qY0 kY1 qY1 kY2 qY2 kY3 qY3 kY4 qY4
          replace B0 := (((((B0.setCell (p := ⟨Y, 0, none⟩) hwY (.int .i64 4)).setCell (p := ⟨Y, 1, none⟩) hwY (.int .i64 m)).setCell (p := ⟨Y, 2, none⟩) hwY (.int .i64 0)).setCell (p := ⟨Y, 3, none⟩) hwY (.int .i64 d1)).setCell (p := ⟨Y, 4, none⟩) hwY (.int .i64 aa))
          replace bP := (((((bP.far (o := 0) (u := .int .i64 4) nPY).far (o := 1) (u := .int .i64 m) nPY).far (o := 2) (u := .int .i64 0) nPY).far (o := 3) (u := .int .i64 d1) nPY).far (o := 4) (u := .int .i64 aa) nPY)
          replace bQ := (((((bQ.far (o := 0) (u := .int .i64 4) nQY).far (o := 1) (u := .int .i64 m) nQY).far (o := 2) (u := .int .i64 0) nQY).far (o := 3) (u := .int .i64 d1) nQY).far (o := 4) (u := .int .i64 aa) nQY)
          replace bX := (((((bX.far (o := 0) (u := .int .i64 4) nXY).far (o := 1) (u := .int .i64 m) nXY).far (o := 2) (u := .int .i64 0) nXY).far (o := 3) (u := .int .i64 d1) nXY).far (o := 4) (u := .int .i64 aa) nXY)
          replace hKg := (KeepAt.far (o := 4) (u := .int .i64 aa) (KeepAt.far (o := 3) (u := .int .i64 d1) (KeepAt.far (o := 2) (u := .int .i64 0) (KeepAt.far (o := 1) (u := .int .i64 m) (KeepAt.far (o := 0) (u := .int .i64 4) hKg nYg) nYg) nYg) nYg) nYg)
          replace bY := (((((bY.set 0 (.int .i64 4)).set 1 (.int .i64 m)).set 2 (.int .i64 0)).set 3 (.int .i64 d1)).set 4 (.int .i64 aa))
          refine hK.out _ _ ⟨bQ, hKg⟩ (fun _ => ?_)
          clear hK K
          try simp only [Act.put, List.setIfInBounds_toArray, List.set_cons_zero, List.set_cons_succ]
          obtain ⟨z4, eZ⟩ : ∃ z, z = (((((w4.setCell ⟨Y, 0, none⟩ (.int .i64 4)).setCell ⟨Y, 1, none⟩ (.int .i64 m)).setCell ⟨Y, 2, none⟩ (.int .i64 0)).setCell ⟨Y, 3, none⟩ (.int .i64 d1)).setCell ⟨Y, 4, none⟩ (.int .i64 aa)) := ⟨_, rfl⟩
          rw [← eZ] at bP bQ bX bY B0 hKg ⊢
          clear eZ
          refine wpAnyH_done (by kernel_rfl) ?_ _
          go_wp2_with fail
          rw [rounds_succ]
          go_wp2_with fail
          go_roundw
          case rel => exact ⟨j + 1, by omega, by go_num, 0, d1, by omega, HD.out.1, by rw [HD.out.2]; omega, B0, bP, bQ, bX, bY⟩
          case measure => simp [intOf]; omega
        · obtain ⟨d1, hd2⟩ : ∃ d1, d1 = d - 1 := ⟨_, rfl⟩
          have H2 : Hid (¬ d - 1 = 0) := Lib.hid (by omega)
          have HE := Lib.hid (And.intro hc1 hd2)
          have HD := Lib.hid (show 0 ≤ c1 ∧ 1 ≤ d1 ∧ c1 + d1 = k by omega)
          clear ha hb haa hba hlp hlq hm2 hk hc1 hd2 hd hc0 hd1 hcd
          have kP0 := bP.c 0 rfl
          have kP1 := bP.c 1 rfl
          have kP2 := bP.c 2 rfl
          have kP3 := bP.c 3 rfl
          have kX0 := bX.c 0 rfl
          have kX1 := bX.c 1 rfl
          have kX2 := bX.c 2 rfl
          have kX3 := bX.c 3 rfl
          have kX4 := bX.c 4 rfl
          go_wp2_with fail
          clear kP0 kP1 kP2 kP3 kX0 kX1 kX2 kX3 kX4
          refine (tick_go u _ (cell_keep B0 (World.block_lt_of_cell? W _ hu) hu) (cell_keep B0 (World.block_lt_of_cell? W _ hg) hg) HS1 H1 H2 c1 d1 HE).mono ?_
          rintro e w1 ⟨y1, x1, rfl, hb⟩
          replace bP := bP.keep hb
          replace bQ := bQ.keep hb
          replace bX := bX.keep hb
          replace bY := bY.keep hb
          replace B0 := below_step B0 hb
          clear hb
          have ltP := bP.lt
          have ltQ := bQ.lt
          have ltX := bX.lt
          have ltY := bY.lt
          have bN := Bl.new w1 [.int .i64 4, .int .i64 m, .int .i64 c1, .int .i64 d1, .int .i64 ba] 28 w1.heap.size rfl
          replace bP := bP.alloc (.cells #[.int .i64 4, .int .i64 m, .int .i64 c1, .int .i64 d1, .int .i64 ba] 28)
          replace bQ := bQ.alloc (.cells #[.int .i64 4, .int .i64 m, .int .i64 c1, .int .i64 d1, .int .i64 ba] 28)
          replace bX := bX.alloc (.cells #[.int .i64 4, .int .i64 m, .int .i64 c1, .int .i64 d1, .int .i64 ba] 28)
          replace bY := bY.alloc (.cells #[.int .i64 4, .int .i64 m, .int .i64 c1, .int .i64 d1, .int .i64 ba] 28)
          replace B0 := B0.alloc B0.size (.cells #[.int .i64 4, .int .i64 m, .int .i64 c1, .int .i64 d1, .int .i64 ba] 28)
          have kQ0 := bQ.c 0 rfl
          have kQ1 := bQ.c 1 rfl
          have kQ2 := bQ.c 2 rfl
          have kQ3 := bQ.c 3 rfl
          have kY0 := bY.c 0 rfl
          have kY1 := bY.c 1 rfl
          have kY2 := bY.c 2 rfl
          have kY3 := bY.c 3 rfl
          have kY4 := bY.c 4 rfl
          go_wp2_with fail
          clear kQ0 kQ1 kQ2 kQ3 kY0 kY1 kY2 kY3 kY4
          obtain ⟨N, eN⟩ : ∃ N, N = w1.heap.size := ⟨_, rfl⟩
          rw [← eN] at bN
          try rw [← eN]
          have nPN : P ≠ N := by omega
          have nNP : N ≠ P := by omega
          have nQN : Q ≠ N := by omega
          have nNQ : N ≠ Q := by omega
          have nXN : X ≠ N := by omega
          have nNX : N ≠ X := by omega
          have nYN : Y ≠ N := by omega
          have nNY : N ≠ Y := by omega
          clear eN ltP ltQ ltX ltY
          refine (tick_go u _ (cell_keep B0 (World.block_lt_of_cell? W _ hu) hu) (cell_keep B0 (World.block_lt_of_cell? W _ hg) hg) HS2 H1 H2 c1 d1 HE).mono ?_
          rintro e w2 ⟨y2, x2, rfl, hb⟩
          replace bP := bP.keep hb
          replace bQ := bQ.keep hb
          replace bX := bX.keep hb
          replace bY := bY.keep hb
          replace bN := bN.keep hb
          replace B0 := below_step B0 hb
          clear hb
          have ltP := bP.lt
          have ltQ := bQ.lt
          have ltX := bX.lt
          have ltY := bY.lt
          have ltN := bN.lt
          have bM := Bl.new w2 [.int .i64 4, .int .i64 m, .int .i64 c1, .int .i64 d1, .int .i64 aa] 28 w2.heap.size rfl
          replace bP := bP.alloc (.cells #[.int .i64 4, .int .i64 m, .int .i64 c1, .int .i64 d1, .int .i64 aa] 28)
          replace bQ := bQ.alloc (.cells #[.int .i64 4, .int .i64 m, .int .i64 c1, .int .i64 d1, .int .i64 aa] 28)
          replace bX := bX.alloc (.cells #[.int .i64 4, .int .i64 m, .int .i64 c1, .int .i64 d1, .int .i64 aa] 28)
          replace bY := bY.alloc (.cells #[.int .i64 4, .int .i64 m, .int .i64 c1, .int .i64 d1, .int .i64 aa] 28)
          replace bN := bN.alloc (.cells #[.int .i64 4, .int .i64 m, .int .i64 c1, .int .i64 d1, .int .i64 aa] 28)
          replace B0 := B0.alloc B0.size (.cells #[.int .i64 4, .int .i64 m, .int .i64 c1, .int .i64 d1, .int .i64 aa] 28)
          go_wp2_with fail
          obtain ⟨M, eM⟩ : ∃ M, M = w2.heap.size := ⟨_, rfl⟩
          rw [← eM] at bM
          try rw [← eM]
          have nPM : P ≠ M := by omega
          have nMP : M ≠ P := by omega
          have nQM : Q ≠ M := by omega
          have nMQ : M ≠ Q := by omega
          have nXM : X ≠ M := by omega
          have nMX : M ≠ X := by omega
          have nYM : Y ≠ M := by omega
          have nMY : M ≠ Y := by omega
          have nNM : N ≠ M := by omega
          have nMN : M ≠ N := by omega
          clear eM ltP ltQ ltX ltY ltN
          obtain ⟨V, eV⟩ : ∃ V, V = (w2.alloc (.cells #[.int .i64 4, .int .i64 m, .int .i64 c1, .int .i64 d1, .int .i64 aa] 28)) := ⟨_, rfl⟩
          rw [← eV] at bP bQ bX bY bN bM B0 ⊢
          clear eV
          refine wp_region_held_drew (S := fun w' => Bl w' N [.int .i64 4, .int .i64 m, .int .i64 c1, .int .i64 d1, .int .i64 ba] ∧ Bl w' M [.int .i64 4, .int .i64 m, .int .i64 c1, .int .i64 d1, .int .i64 aa]) (by kernel_rfl) ⟨bN.drew, bM.drew⟩ (fun hHeld => ?_)
          obtain ⟨u0, e0⟩ : ∃ u, u = V.drew := ⟨_, rfl⟩
          replace bP := bP.drew
          replace bQ := bQ.drew
          replace bX := bX.drew
          replace bY := bY.drew
          replace bN := bN.drew
          replace bM := bM.drew
          replace B0 := B0.drew
          rw [← e0] at bP bQ bX bY bN bM B0 ⊢
          clear e0 hHeld
          refine wpAnyH_take (i := 0) (v := ?_) rfl (by kernel_rfl) (by kernel_rfl) (by kernel_rfl) (fun _ _ _ h => h) (Or.inl ⟨by rfl, ?_⟩) ⟨bN, bM⟩ ?_
          rotate_left
          · intro wq hSq
            (try dsimp only at hSq)
            have q0 := hSq.1.c 0 rfl
            have q1 := hSq.1.c 1 rfl
            have q2 := hSq.1.c 2 rfl
            have q3 := hSq.1.c 3 rfl
            have q4 := hSq.1.c 4 rfl
            go_simp
            try rfl
          change wpAnyH _ _ _ _ _ _ _ (Act.put _ (some 48) _) _
          simp only [Act.put, List.setIfInBounds_toArray, List.set_cons_succ, List.set_cons_zero]
          refine wpAnyH_take (i := 1) (v := ?_) rfl (by kernel_rfl) (by kernel_rfl) (by kernel_rfl) (fun _ _ _ h => h) (Or.inl ⟨by rfl, ?_⟩) ⟨bN, bM⟩ ?_
          rotate_left
          · intro wq hSq
            (try dsimp only at hSq)
            have q0 := hSq.2.c 0 rfl
            have q1 := hSq.2.c 1 rfl
            have q2 := hSq.2.c 2 rfl
            have q3 := hSq.2.c 3 rfl
            have q4 := hSq.2.c 4 rfl
            go_simp
            try rfl
          change wpAnyH _ _ _ _ _ _ _ (Act.put _ (some 49) _) _
          simp only [Act.put, List.setIfInBounds_toArray, List.set_cons_succ, List.set_cons_zero]
          refine wpAnyH_ready (rs := [2]) (by kernel_rfl) (by simp) ?_
          refine (AllReadyH.cons rfl (fun K hK => ?_) AllReadyH.nil)
          have kX0 := bX.c 0 rfl
          have qX0 := bX.f 0 (x := _) rfl
          have kX1 := bX.c 1 rfl
          have qX1 := bX.f 1 (x := _) rfl
          have kX2 := bX.c 2 rfl
          have qX2 := bX.f 2 (x := _) rfl
          have kX3 := bX.c 3 rfl
          have qX3 := bX.f 3 (x := _) rfl
          have kX4 := bX.c 4 rfl
          have qX4 := bX.f 4 (x := _) rfl
          go_simp
          clear kX0 qX0 kX1 qX1 kX2 qX2 kX3 qX3 kX4 qX4
          replace B0 := (((((B0.setCell (p := ⟨X, 0, none⟩) hwX (.int .i64 4)).setCell (p := ⟨X, 1, none⟩) hwX (.int .i64 m)).setCell (p := ⟨X, 2, none⟩) hwX (.int .i64 c1)).setCell (p := ⟨X, 3, none⟩) hwX (.int .i64 d1)).setCell (p := ⟨X, 4, none⟩) hwX (.int .i64 ba))
          replace bP := (((((bP.far (o := 0) (u := .int .i64 4) nPX).far (o := 1) (u := .int .i64 m) nPX).far (o := 2) (u := .int .i64 c1) nPX).far (o := 3) (u := .int .i64 d1) nPX).far (o := 4) (u := .int .i64 ba) nPX)
          replace bQ := (((((bQ.far (o := 0) (u := .int .i64 4) nQX).far (o := 1) (u := .int .i64 m) nQX).far (o := 2) (u := .int .i64 c1) nQX).far (o := 3) (u := .int .i64 d1) nQX).far (o := 4) (u := .int .i64 ba) nQX)
          replace bY := (((((bY.far (o := 0) (u := .int .i64 4) nYX).far (o := 1) (u := .int .i64 m) nYX).far (o := 2) (u := .int .i64 c1) nYX).far (o := 3) (u := .int .i64 d1) nYX).far (o := 4) (u := .int .i64 ba) nYX)
          replace bN := (((((bN.far (o := 0) (u := .int .i64 4) nNX).far (o := 1) (u := .int .i64 m) nNX).far (o := 2) (u := .int .i64 c1) nNX).far (o := 3) (u := .int .i64 d1) nNX).far (o := 4) (u := .int .i64 ba) nNX)
          replace bM := (((((bM.far (o := 0) (u := .int .i64 4) nMX).far (o := 1) (u := .int .i64 m) nMX).far (o := 2) (u := .int .i64 c1) nMX).far (o := 3) (u := .int .i64 d1) nMX).far (o := 4) (u := .int .i64 ba) nMX)
          replace bX := (((((bX.set 0 (.int .i64 4)).set 1 (.int .i64 m)).set 2 (.int .i64 c1)).set 3 (.int .i64 d1)).set 4 (.int .i64 ba))
          refine hK.out _ _ ⟨bN, bM⟩ (fun _ => ?_)
          clear hK K
          try simp only [Act.put, List.setIfInBounds_toArray, List.set_cons_zero, List.set_cons_succ]
          obtain ⟨u1, eU⟩ : ∃ z, z = (((((u0.setCell ⟨X, 0, none⟩ (.int .i64 4)).setCell ⟨X, 1, none⟩ (.int .i64 m)).setCell ⟨X, 2, none⟩ (.int .i64 c1)).setCell ⟨X, 3, none⟩ (.int .i64 d1)).setCell ⟨X, 4, none⟩ (.int .i64 ba)) := ⟨_, rfl⟩
          rw [← eU] at bP bQ bX bY bN bM B0 ⊢
          clear eU
          refine wpAnyH_ready (rs := [3]) (by kernel_rfl) (by simp) ?_
          refine (AllReadyH.cons rfl (fun K hK => ?_) AllReadyH.nil)
          have kY0 := bY.c 0 rfl
          have qY0 := bY.f 0 (x := _) rfl
          have kY1 := bY.c 1 rfl
          have qY1 := bY.f 1 (x := _) rfl
          have kY2 := bY.c 2 rfl
          have qY2 := bY.f 2 (x := _) rfl
          have kY3 := bY.c 3 rfl
          have qY3 := bY.f 3 (x := _) rfl
          have kY4 := bY.c 4 rfl
          have qY4 := bY.f 4 (x := _) rfl
          go_simp
          clear kY0 qY0 kY1 qY1 kY2 qY2 kY3 qY3 kY4 qY4
          replace B0 := (((((B0.setCell (p := ⟨Y, 0, none⟩) hwY (.int .i64 4)).setCell (p := ⟨Y, 1, none⟩) hwY (.int .i64 m)).setCell (p := ⟨Y, 2, none⟩) hwY (.int .i64 c1)).setCell (p := ⟨Y, 3, none⟩) hwY (.int .i64 d1)).setCell (p := ⟨Y, 4, none⟩) hwY (.int .i64 aa))
          replace bP := (((((bP.far (o := 0) (u := .int .i64 4) nPY).far (o := 1) (u := .int .i64 m) nPY).far (o := 2) (u := .int .i64 c1) nPY).far (o := 3) (u := .int .i64 d1) nPY).far (o := 4) (u := .int .i64 aa) nPY)
          replace bQ := (((((bQ.far (o := 0) (u := .int .i64 4) nQY).far (o := 1) (u := .int .i64 m) nQY).far (o := 2) (u := .int .i64 c1) nQY).far (o := 3) (u := .int .i64 d1) nQY).far (o := 4) (u := .int .i64 aa) nQY)
          replace bX := (((((bX.far (o := 0) (u := .int .i64 4) nXY).far (o := 1) (u := .int .i64 m) nXY).far (o := 2) (u := .int .i64 c1) nXY).far (o := 3) (u := .int .i64 d1) nXY).far (o := 4) (u := .int .i64 aa) nXY)
          replace bN := (((((bN.far (o := 0) (u := .int .i64 4) nNY).far (o := 1) (u := .int .i64 m) nNY).far (o := 2) (u := .int .i64 c1) nNY).far (o := 3) (u := .int .i64 d1) nNY).far (o := 4) (u := .int .i64 aa) nNY)
          replace bM := (((((bM.far (o := 0) (u := .int .i64 4) nMY).far (o := 1) (u := .int .i64 m) nMY).far (o := 2) (u := .int .i64 c1) nMY).far (o := 3) (u := .int .i64 d1) nMY).far (o := 4) (u := .int .i64 aa) nMY)
          replace bY := (((((bY.set 0 (.int .i64 4)).set 1 (.int .i64 m)).set 2 (.int .i64 c1)).set 3 (.int .i64 d1)).set 4 (.int .i64 aa))
          refine hK.out _ _ ⟨bN, bM⟩ (fun _ => ?_)
          clear hK K
          try simp only [Act.put, List.setIfInBounds_toArray, List.set_cons_zero, List.set_cons_succ]
          obtain ⟨u2, eU⟩ : ∃ z, z = (((((u1.setCell ⟨Y, 0, none⟩ (.int .i64 4)).setCell ⟨Y, 1, none⟩ (.int .i64 m)).setCell ⟨Y, 2, none⟩ (.int .i64 c1)).setCell ⟨Y, 3, none⟩ (.int .i64 d1)).setCell ⟨Y, 4, none⟩ (.int .i64 aa)) := ⟨_, rfl⟩
          rw [← eU] at bP bQ bX bY bN bM B0 ⊢
          clear eU
          refine wpAnyH_done (by kernel_rfl) ?_ _
          clear bN bM
          go_wp2_with fail
          refine wp_loop_rounds 1 ?_
          rw [rounds_succ]
          go_wp2_with fail
          refine wp_loop_rounds 1 ?_
          rw [rounds_succ]
          go_wp2_with fail
          go_roundw
          case rel => exact ⟨j + 1, by omega, by go_num, c1, d1, HD.out.1, HD.out.2.1, HD.out.2.2, B0, bP, bQ, bX, bY⟩
          case measure => simp [intOf]; omega
      · have hj60 : j = 60 := by omega
        subst hj60
        have kX0 := bX.c 0 rfl
        have kX1 := bX.c 1 rfl
        have kX2 := bX.c 2 rfl
        have kX3 := bX.c 3 rfl
        have kX4 := bX.c 4 rfl
        have kY0 := bY.c 0 rfl
        have kY1 := bY.c 1 rfl
        have kY2 := bY.c 2 rfl
        have kY3 := bY.c 3 rfl
        have kY4 := bY.c 4 rfl
        go_wp2_with fail
        refine (greets_any u _ (cell_keep B0 (World.block_lt_of_cell? W _ hu) hu) (cell_keep B0 (World.block_lt_of_cell? W _ hg) hg)).mono ?_
        rintro e w9 ⟨rfl, hb⟩
        replace B0 := below_step B0 hb
        clear hb
        go_wp2
        go_ret
        exact ⟨rfl, B0⟩
end Go.Proofs.YtcmbajphholliabDoor
