/-
  The law on greetings: its walk. Conditions: those in each contract.
-/
import Derived.Test.YtcmbajphholliabDoorHA
import Derived.Test.YtcmbajphholliabDoorZ10
import Derived.Test.YtcmbajphholliabDoorS4
import Derived.Test.YtcmbajphholliabDoorO1
namespace Go.Proofs.YtcmbajphholliabDoor
open Go.ChangeShapes Go.WideShapes Go.ChangeAt Go.RowKit Go.BigFrame Go.Joins
set_option linter.unusedVariables false
set_option maxRecDepth 100000
set_option linter.unusedSimpArgs false
set_option maxRecDepth 100000

theorem greet_zero {aa ai ah ap ba bi bh bp : Int} (u : Value) (w : World) (hu0 : w.cell? ⟨0, 0, none⟩ = some (.iface 194 u)) (hg0 : w.cell? ⟨1, 0, none⟩ = some (.iface 172 (.agg #[.pointer (some ⟨6, 103, none⟩)]))) (H : Hid ((cokB aa ai ah ap && cokB ba bi bh bp && (l4B aa ai ap 1 ba bi && l4B ba bi bp 1 aa ai)) = false)) :
    Calls Tryd.prog 7 #[.agg #[.int .i64 aa, .int .i64 ai, .int .i64 ah, .int .i64 ap], .agg #[.int .i64 ba, .int .i64 bi, .int .i64 bh, .int .i64 bp]] w fun e w' => e = .returned (.tuple #[.agg #[.int .i64 0, .int .i64 0, .int .i64 0, .int .i64 0, .int .i64 0], .agg #[.int .i64 0, .int .i64 0, .int .i64 0, .int .i64 0, .int .i64 0], .bool false]) ∧ Below w.heap.size w w' :=
  iGreet_t (G := ⟨0, 0, 0, 0, 0, []⟩) (J := ⟨0, 0, 0, 0, 0, []⟩) (t := false) u w hu0 hg0 (Lib.hid ⟨H.out.symm, rfl, rfl⟩)
theorem greet_up {aa ai ah ap ba bi bh bp m k : Int} (u : Value) (w : World) (hu0 : w.cell? ⟨0, 0, none⟩ = some (.iface 194 u)) (hg0 : w.cell? ⟨1, 0, none⟩ = some (.iface 172 (.agg #[.pointer (some ⟨6, 103, none⟩)]))) (H : Hid ((cokB aa ai ah ap && cokB ba bi bh bp && (l4B aa ai ap 1 ba bi && l4B ba bi bp 1 aa ai)) = true)) (HM : Hid (m = (if ah ≤ bh then ah else bh) ∧ k = m / 3)) :
    Calls Tryd.prog 7 #[.agg #[.int .i64 aa, .int .i64 ai, .int .i64 ah, .int .i64 ap], .agg #[.int .i64 ba, .int .i64 bi, .int .i64 bh, .int .i64 bp]] w fun e w' => e = .returned (.tuple #[.agg #[.int .i64 4, .int .i64 m, .int .i64 0, .int .i64 k, .int .i64 ba], .agg #[.int .i64 4, .int .i64 m, .int .i64 0, .int .i64 k, .int .i64 aa], .bool true]) ∧ Below w.heap.size w w' := by
  obtain ⟨hm, rfl⟩ := HM.out
  refine iGreet_t (G := ⟨4, m, 0, m / 3, ba, []⟩) (J := ⟨4, m, 0, m / 3, aa, []⟩) (t := true) u w hu0 hg0 (Lib.hid ⟨H.out.symm, ?_, ?_⟩)
  · subst hm
    unfold gF
    rw [if_pos rfl]
    split <;> rfl
  · subst hm
    unfold gF
    rw [if_pos rfl]
    by_cases h : ah ≤ bh
    · rw [if_pos h]
      by_cases h2 : bh ≤ ah
      · obtain rfl : ah = bh := by omega
        rw [if_pos h2]
      · rw [if_neg h2]
    · rw [if_neg h, if_pos (by omega)]
theorem ses_t {sa ix ho pe st hd he ke pr : Int} {b : Bool} (w : World) (H : Hid (sesB sa ix ho pe st hd he ke pr = b)) : Calls Tryd.prog 13 #[.agg #[.int .i64 sa, .int .i64 ix, .int .i64 ho, .int .i64 pe], .agg #[.int .i64 st, .int .i64 hd, .int .i64 he, .int .i64 ke, .int .i64 pr]] w fun e w' => e = .returned (.bool b) ∧ Below w.heap.size w w' := H.out ▸ iSs_any sa ix ho pe st hd he ke pr w
theorem cf_t {sa ix ho pe : Int} {b : Bool} (w : World) (H : Hid (cokB sa ix ho pe = b)) : Calls Tryd.prog 10 #[.agg #[.int .i64 sa, .int .i64 ix, .int .i64 ho, .int .i64 pe]] w fun e w' => e = .returned (.bool b) ∧ Below w.heap.size w w' := H.out ▸ iCf_any sa ix ho pe w
theorem scf_t {sa ix ho pe : Int} {b : Bool} (w : World) (H : Hid (cokB sa ix ho pe = b)) : Calls Tryd.prog 8 #[.agg #[.int .i64 sa, .int .i64 ix, .int .i64 ho, .int .i64 pe]] w fun e w' => e = .returned (.bool b) ∧ Below w.heap.size w w' := H.out ▸ sCf_any sa ix ho pe w
theorem open_t {sa ix ho pe : Int} (w : World) (H : Hid (cokB sa ix ho pe = true)) : Calls Tryd.prog 11 #[.agg #[.int .i64 sa, .int .i64 ix, .int .i64 ho, .int .i64 pe]] w fun e w' => e = .returned (.tuple #[.agg #[.int .i64 1, .int .i64 sa, .int .i64 ho, .int .i64 ix, .slice none 0 0, .slice none 0 0, .slice none 0 0, .int .i64 0, .slice none 0 0, .int .i64 0, .int .i64 0], .bool true]) ∧ Below w.heap.size w w' :=
  implOp_any w (Lib.hid (.inl ⟨H.out, rfl, rfl, rfl, rfl, rfl⟩))
theorem acc_t {aa ai ah ap ba bi bh bp : Int} {b : Bool} (w : World) (HA : Hid (cokB aa ai ah ap = true)) (HB : Hid (cokB ba bi bh bp = true)) (H : Hid (l4B aa ai ap 1 ba bi = b)) : Calls Tryd.prog 12 #[.agg #[.int .i64 aa, .int .i64 ai, .int .i64 ah, .int .i64 ap], .agg #[.int .i64 1, .int .i64 ba, .int .i64 bh, .int .i64 bi, .slice none 0 0, .slice none 0 0, .slice none 0 0, .int .i64 0, .slice none 0 0, .int .i64 0, .int .i64 0]] w fun e w' => e = .returned (.bool b) ∧ Below w.heap.size w w' :=
  iAcc_t (gs := []) (cs := []) (ps := []) (ms := []) w (RdP.nil w) (RdP.nil w) ⟨by simp, by simp, .inl ⟨none, 0, rfl, rfl, fun _ => rfl⟩⟩ ⟨by simp, by simp, .inl ⟨none, 0, rfl, rfl, fun _ => rfl⟩⟩ (Lib.hid ((acc_open HA.out HB.out).trans H.out))
theorem ses_zero {aa ai ah ap : Int} (h : cokB aa ai ah ap = true) : sesB aa ai ah ap 0 0 0 0 0 = true := by
  unfold sesB
  simp [h]
theorem ses_up {aa ai ah ap ba m k : Int} (h : cokB aa ai ah ap = true) (hb : asB ba = true) (hm : 3 ≤ m ∧ m ≤ ah) (hk : k = m / 3) (hp : ap = 0 ∨ ba = ap) : sesB aa ai ah ap 4 m 0 k ba = true := by
  unfold sesB
  simp only [decide_eq_true_eq]
  refine ⟨h, by omega, by omega, by omega, fun _ => ⟨by omega, by omega, by omega, by omega, by omega, fun _ => ⟨by omega, by omega, hb, hp⟩⟩⟩
theorem cok_as {sa ix ho pe : Int} (h : cokB sa ix ho pe = true) : asB sa = true := by
  unfold cokB valO at h
  simp only [Bool.and_eq_true] at h
  exact h.1.1.1
theorem l4_peer {xa xi xp sa ix : Int} (h : l4B xa xi xp 1 sa ix = true) : xp = 0 ∨ sa = xp := by
  unfold l4B at h
  simp only [decide_eq_true_eq] at h
  exact h.2.2.2
set_option maxHeartbeats 1000000 in
theorem greets_any (u : Value) (W : World) (hu : W.cell? ⟨0, 0, none⟩ = some (.iface 194 u)) (hg : W.cell? ⟨1, 0, none⟩ = some (.iface 172 (.agg #[.pointer (some ⟨6, 103, none⟩)]))) : Calls Tryd.prog 9 #[] W fun e w' => e = .returned (.bool true) ∧ Below W.heap.size W w' := by
  obtain ⟨bA, bB, B0, z⟩ := two W [.int .i64 1, .int .i64 1, .int .i64 9, .int .i64 0] [.int .i64 2, .int .i64 2, .int .i64 6, .int .i64 0] 24 24
  clear z
  have H1 : Hid ((cokB 1 1 9 0 && cokB 2 2 6 0 && (l4B 1 1 0 1 2 2 && l4B 2 2 0 1 1 1)) = true) := Lib.hid (by decide)
  have H2 : Hid ((6 : Int) = (if (9 : Int) ≤ 6 then 9 else 6) ∧ (2 : Int) = 6 / 3) := Lib.hid (by decide)
  have H3 : Hid (sesB 1 1 9 0 4 6 0 2 2 = true) := Lib.hid (by decide)
  go_enter Tryd.func9, Tryd.ntmps9
  go_wp2_with fail
  refine (greet_up u _ (cell_keep B0 (World.block_lt_of_cell? W _ hu) hu) (cell_keep B0 (World.block_lt_of_cell? W _ hg) hg) H1 H2).mono ?_
  rintro e w1 ⟨rfl, hb⟩
  replace bA := bA.keep hb
  replace bB := bB.keep hb
  replace B0 := below_step B0 hb
  clear hb
  have bX := Bl.new w1 [.int .i64 4, .int .i64 6, .int .i64 0, .int .i64 2, .int .i64 2] 28 (w1.heap.size) (by simp)
  replace bA := bA.alloc (.cells #[.int .i64 4, .int .i64 6, .int .i64 0, .int .i64 2, .int .i64 2] 28)
  replace bB := bB.alloc (.cells #[.int .i64 4, .int .i64 6, .int .i64 0, .int .i64 2, .int .i64 2] 28)
  replace B0 := B0.alloc B0.size (.cells #[.int .i64 4, .int .i64 6, .int .i64 0, .int .i64 2, .int .i64 2] 28)
  have bY := Bl.new (w1.alloc (.cells #[.int .i64 4, .int .i64 6, .int .i64 0, .int .i64 2, .int .i64 2] 28)) [.int .i64 4, .int .i64 6, .int .i64 0, .int .i64 2, .int .i64 1] 28 (w1.heap.size + 1) (by simp)
  replace bA := bA.alloc (.cells #[.int .i64 4, .int .i64 6, .int .i64 0, .int .i64 2, .int .i64 1] 28)
  replace bB := bB.alloc (.cells #[.int .i64 4, .int .i64 6, .int .i64 0, .int .i64 2, .int .i64 1] 28)
  replace bX := bX.alloc (.cells #[.int .i64 4, .int .i64 6, .int .i64 0, .int .i64 2, .int .i64 1] 28)
  replace B0 := B0.alloc B0.size (.cells #[.int .i64 4, .int .i64 6, .int .i64 0, .int .i64 2, .int .i64 1] 28)
  have kA0 := bA.c 0 rfl
  have kA1 := bA.c 1 rfl
  have kA2 := bA.c 2 rfl
  have kA3 := bA.c 3 rfl
  have kB0 := bB.c 0 rfl
  have kB1 := bB.c 1 rfl
  have kB2 := bB.c 2 rfl
  have kB3 := bB.c 3 rfl
  have kX0 := bX.c 0 rfl
  have kX1 := bX.c 1 rfl
  have kX2 := bX.c 2 rfl
  have kX3 := bX.c 3 rfl
  have kX4 := bX.c 4 rfl
  have kY0 := bY.c 0 rfl
  have kY1 := bY.c 1 rfl
  have kY2 := bY.c 2 rfl
  have kY3 := bY.c 3 rfl
  have kY4 := bY.c 4 rfl
  go_wp2_with fail
  clear kA0 kA1 kA2 kA3 kB0 kB1 kB2 kB3 kX0 kX1 kX2 kX3 kX4 kY0 kY1 kY2 kY3 kY4
  obtain ⟨Y, eY⟩ : ∃ Y, Y = (w1.heap.size + 1) := ⟨_, rfl⟩
  rw [← eY] at bY
  try rw [← eY]
  clear eY
  obtain ⟨X, eX⟩ : ∃ X, X = (w1.heap.size) := ⟨_, rfl⟩
  rw [← eX] at bX
  try rw [← eX]
  clear eX
  refine (ses_t _ H3).mono ?_
  rintro e w2 ⟨rfl, hb⟩
  replace bA := bA.keep hb
  replace bB := bB.keep hb
  replace bX := bX.keep hb
  replace bY := bY.keep hb
  replace B0 := below_step B0 hb
  clear hb
  go_wp2
  go_ret
  exact ⟨rfl, B0⟩
set_option maxHeartbeats 8000000 in
theorem greets_walk (u : Value) (W : World) (hu : W.cell? ⟨0, 0, none⟩ = some (.iface 194 u)) (hg : W.cell? ⟨1, 0, none⟩ = some (.iface 172 (.agg #[.pointer (some ⟨6, 103, none⟩)]))) (v : Value) (hv : ∃ ls, Rd W v ls) :
    Calls Tryd.prog 3 #[v] W fun e w' => e = .returned (.bool true) ∧ Below W.heap.size W w' := by
  obtain ⟨ls, hr⟩ : ∃ ls, Rd W v ls := hv
  go_enter Tryd.func3, Tryd.ntmps3
  go_wp2_with fail
  refine (drawGreet_any v ls _ hr).mono ?_
  rintro e w1 ⟨aa, ai, ah, ap, ba, bi, bh, bp, rfl, hb⟩
  have B0 := hb
  clear hb hr
  have H0 : Hid (cokB 0 0 0 0 = false) := Lib.hid (by decide)
  have bP := Bl.new w1 [.int .i64 aa, .int .i64 ai, .int .i64 ah, .int .i64 ap] 24 (w1.heap.size) (by simp)
  replace B0 := B0.alloc B0.size (.cells #[.int .i64 aa, .int .i64 ai, .int .i64 ah, .int .i64 ap] 24)
  have bQ := Bl.new (w1.alloc (.cells #[.int .i64 aa, .int .i64 ai, .int .i64 ah, .int .i64 ap] 24)) [.int .i64 ba, .int .i64 bi, .int .i64 bh, .int .i64 bp] 24 (w1.heap.size + 1) (by simp)
  replace bP := bP.alloc (.cells #[.int .i64 ba, .int .i64 bi, .int .i64 bh, .int .i64 bp] 24)
  replace B0 := B0.alloc B0.size (.cells #[.int .i64 ba, .int .i64 bi, .int .i64 bh, .int .i64 bp] 24)
  have kP0 := bP.c 0 rfl
  have kP1 := bP.c 1 rfl
  have kP2 := bP.c 2 rfl
  have kP3 := bP.c 3 rfl
  have kQ0 := bQ.c 0 rfl
  have kQ1 := bQ.c 1 rfl
  have kQ2 := bQ.c 2 rfl
  have kQ3 := bQ.c 3 rfl
  go_wp2_with fail
  clear kP0 kP1 kP2 kP3 kQ0 kQ1 kQ2 kQ3
  obtain ⟨Q, eQ⟩ : ∃ Q, Q = (w1.heap.size + 1) := ⟨_, rfl⟩
  rw [← eQ] at bQ
  try rw [← eQ]
  clear eQ
  obtain ⟨P, eP⟩ : ∃ P, P = (w1.heap.size) := ⟨_, rfl⟩
  rw [← eP] at bP
  try rw [← eP]
  clear eP
  cases ha : cokB aa ai ah ap
  · have HA := Lib.hid ha
    have HG := Lib.hid (show (cokB aa ai ah ap && cokB ba bi bh bp && (l4B aa ai ap 1 ba bi && l4B ba bi bp 1 aa ai)) = false by rw [ha]; rfl)
    clear ha
    refine (greet_zero u _ (cell_keep B0 (World.block_lt_of_cell? W _ hu) hu) (cell_keep B0 (World.block_lt_of_cell? W _ hg) hg) HG).mono ?_
    rintro e w2 ⟨rfl, hb⟩
    replace bP := bP.keep hb
    replace bQ := bQ.keep hb
    replace B0 := below_step B0 hb
    clear hb
    have bX := Bl.new w2 [.int .i64 0, .int .i64 0, .int .i64 0, .int .i64 0, .int .i64 0] 28 (w2.heap.size) (by simp)
    replace bP := bP.alloc (.cells #[.int .i64 0, .int .i64 0, .int .i64 0, .int .i64 0, .int .i64 0] 28)
    replace bQ := bQ.alloc (.cells #[.int .i64 0, .int .i64 0, .int .i64 0, .int .i64 0, .int .i64 0] 28)
    replace B0 := B0.alloc B0.size (.cells #[.int .i64 0, .int .i64 0, .int .i64 0, .int .i64 0, .int .i64 0] 28)
    have bY := Bl.new (w2.alloc (.cells #[.int .i64 0, .int .i64 0, .int .i64 0, .int .i64 0, .int .i64 0] 28)) [.int .i64 0, .int .i64 0, .int .i64 0, .int .i64 0, .int .i64 0] 28 (w2.heap.size + 1) (by simp)
    replace bP := bP.alloc (.cells #[.int .i64 0, .int .i64 0, .int .i64 0, .int .i64 0, .int .i64 0] 28)
    replace bQ := bQ.alloc (.cells #[.int .i64 0, .int .i64 0, .int .i64 0, .int .i64 0, .int .i64 0] 28)
    replace bX := bX.alloc (.cells #[.int .i64 0, .int .i64 0, .int .i64 0, .int .i64 0, .int .i64 0] 28)
    replace B0 := B0.alloc B0.size (.cells #[.int .i64 0, .int .i64 0, .int .i64 0, .int .i64 0, .int .i64 0] 28)
    have kP0 := bP.c 0 rfl
    have kP1 := bP.c 1 rfl
    have kP2 := bP.c 2 rfl
    have kP3 := bP.c 3 rfl
    have kQ0 := bQ.c 0 rfl
    have kQ1 := bQ.c 1 rfl
    have kQ2 := bQ.c 2 rfl
    have kQ3 := bQ.c 3 rfl
    have kX0 := bX.c 0 rfl
    have kX1 := bX.c 1 rfl
    have kX2 := bX.c 2 rfl
    have kX3 := bX.c 3 rfl
    have kX4 := bX.c 4 rfl
    have kY0 := bY.c 0 rfl
    have kY1 := bY.c 1 rfl
    have kY2 := bY.c 2 rfl
    have kY3 := bY.c 3 rfl
    have kY4 := bY.c 4 rfl
    go_wp2_with fail
    clear kP0 kP1 kP2 kP3 kQ0 kQ1 kQ2 kQ3 kX0 kX1 kX2 kX3 kX4 kY0 kY1 kY2 kY3 kY4
    obtain ⟨Y, eY⟩ : ∃ Y, Y = (w2.heap.size + 1) := ⟨_, rfl⟩
    rw [← eY] at bY
    try rw [← eY]
    clear eY
    obtain ⟨X, eX⟩ : ∃ X, X = (w2.heap.size) := ⟨_, rfl⟩
    rw [← eX] at bX
    try rw [← eX]
    clear eX
    refine (scf_t _ HA).mono ?_
    rintro e w3 ⟨rfl, hb⟩
    replace bP := bP.keep hb
    replace bQ := bQ.keep hb
    replace bX := bX.keep hb
    replace bY := bY.keep hb
    replace B0 := below_step B0 hb
    clear hb
    have kP0 := bP.c 0 rfl
    have kP1 := bP.c 1 rfl
    have kP2 := bP.c 2 rfl
    have kP3 := bP.c 3 rfl
    have kQ0 := bQ.c 0 rfl
    have kQ1 := bQ.c 1 rfl
    have kQ2 := bQ.c 2 rfl
    have kQ3 := bQ.c 3 rfl
    have kX0 := bX.c 0 rfl
    have kX1 := bX.c 1 rfl
    have kX2 := bX.c 2 rfl
    have kX3 := bX.c 3 rfl
    have kX4 := bX.c 4 rfl
    have kY0 := bY.c 0 rfl
    have kY1 := bY.c 1 rfl
    have kY2 := bY.c 2 rfl
    have kY3 := bY.c 3 rfl
    have kY4 := bY.c 4 rfl
    go_wp2_with fail
    clear kP0 kP1 kP2 kP3 kQ0 kQ1 kQ2 kQ3 kX0 kX1 kX2 kX3 kX4 kY0 kY1 kY2 kY3 kY4
    refine (greets_any u _ (cell_keep B0 (World.block_lt_of_cell? W _ hu) hu) (cell_keep B0 (World.block_lt_of_cell? W _ hg) hg)).mono ?_
    rintro e w4 ⟨rfl, hb⟩
    replace bP := bP.keep hb
    replace bQ := bQ.keep hb
    replace bX := bX.keep hb
    replace bY := bY.keep hb
    replace B0 := below_step B0 hb
    clear hb
    have kP0 := bP.c 0 rfl
    have kP1 := bP.c 1 rfl
    have kP2 := bP.c 2 rfl
    have kP3 := bP.c 3 rfl
    have kQ0 := bQ.c 0 rfl
    have kQ1 := bQ.c 1 rfl
    have kQ2 := bQ.c 2 rfl
    have kQ3 := bQ.c 3 rfl
    have kX0 := bX.c 0 rfl
    have kX1 := bX.c 1 rfl
    have kX2 := bX.c 2 rfl
    have kX3 := bX.c 3 rfl
    have kX4 := bX.c 4 rfl
    have kY0 := bY.c 0 rfl
    have kY1 := bY.c 1 rfl
    have kY2 := bY.c 2 rfl
    have kY3 := bY.c 3 rfl
    have kY4 := bY.c 4 rfl
    go_wp2_with fail
    clear kP0 kP1 kP2 kP3 kQ0 kQ1 kQ2 kQ3 kX0 kX1 kX2 kX3 kX4 kY0 kY1 kY2 kY3 kY4
    refine (cf_t _ H0).mono ?_
    rintro e w5 ⟨rfl, hb⟩
    replace bP := bP.keep hb
    replace bQ := bQ.keep hb
    replace bX := bX.keep hb
    replace bY := bY.keep hb
    replace B0 := below_step B0 hb
    clear hb
    go_wp2
    go_ret
    exact ⟨rfl, B0⟩
  · cases hb : cokB ba bi bh bp
    · have HA := Lib.hid ha
      have HB := Lib.hid hb
      have HG := Lib.hid (show (cokB aa ai ah ap && cokB ba bi bh bp && (l4B aa ai ap 1 ba bi && l4B ba bi bp 1 aa ai)) = false by rw [ha, hb]; rfl)
      clear ha hb
      refine (greet_zero u _ (cell_keep B0 (World.block_lt_of_cell? W _ hu) hu) (cell_keep B0 (World.block_lt_of_cell? W _ hg) hg) HG).mono ?_
      rintro e w2 ⟨rfl, hb⟩
      replace bP := bP.keep hb
      replace bQ := bQ.keep hb
      replace B0 := below_step B0 hb
      clear hb
      have bX := Bl.new w2 [.int .i64 0, .int .i64 0, .int .i64 0, .int .i64 0, .int .i64 0] 28 (w2.heap.size) (by simp)
      replace bP := bP.alloc (.cells #[.int .i64 0, .int .i64 0, .int .i64 0, .int .i64 0, .int .i64 0] 28)
      replace bQ := bQ.alloc (.cells #[.int .i64 0, .int .i64 0, .int .i64 0, .int .i64 0, .int .i64 0] 28)
      replace B0 := B0.alloc B0.size (.cells #[.int .i64 0, .int .i64 0, .int .i64 0, .int .i64 0, .int .i64 0] 28)
      have bY := Bl.new (w2.alloc (.cells #[.int .i64 0, .int .i64 0, .int .i64 0, .int .i64 0, .int .i64 0] 28)) [.int .i64 0, .int .i64 0, .int .i64 0, .int .i64 0, .int .i64 0] 28 (w2.heap.size + 1) (by simp)
      replace bP := bP.alloc (.cells #[.int .i64 0, .int .i64 0, .int .i64 0, .int .i64 0, .int .i64 0] 28)
      replace bQ := bQ.alloc (.cells #[.int .i64 0, .int .i64 0, .int .i64 0, .int .i64 0, .int .i64 0] 28)
      replace bX := bX.alloc (.cells #[.int .i64 0, .int .i64 0, .int .i64 0, .int .i64 0, .int .i64 0] 28)
      replace B0 := B0.alloc B0.size (.cells #[.int .i64 0, .int .i64 0, .int .i64 0, .int .i64 0, .int .i64 0] 28)
      have kP0 := bP.c 0 rfl
      have kP1 := bP.c 1 rfl
      have kP2 := bP.c 2 rfl
      have kP3 := bP.c 3 rfl
      have kQ0 := bQ.c 0 rfl
      have kQ1 := bQ.c 1 rfl
      have kQ2 := bQ.c 2 rfl
      have kQ3 := bQ.c 3 rfl
      have kX0 := bX.c 0 rfl
      have kX1 := bX.c 1 rfl
      have kX2 := bX.c 2 rfl
      have kX3 := bX.c 3 rfl
      have kX4 := bX.c 4 rfl
      have kY0 := bY.c 0 rfl
      have kY1 := bY.c 1 rfl
      have kY2 := bY.c 2 rfl
      have kY3 := bY.c 3 rfl
      have kY4 := bY.c 4 rfl
      go_wp2_with fail
      clear kP0 kP1 kP2 kP3 kQ0 kQ1 kQ2 kQ3 kX0 kX1 kX2 kX3 kX4 kY0 kY1 kY2 kY3 kY4
      obtain ⟨Y, eY⟩ : ∃ Y, Y = (w2.heap.size + 1) := ⟨_, rfl⟩
      rw [← eY] at bY
      try rw [← eY]
      clear eY
      obtain ⟨X, eX⟩ : ∃ X, X = (w2.heap.size) := ⟨_, rfl⟩
      rw [← eX] at bX
      try rw [← eX]
      clear eX
      refine (scf_t _ HA).mono ?_
      rintro e w3 ⟨rfl, hb⟩
      replace bP := bP.keep hb
      replace bQ := bQ.keep hb
      replace bX := bX.keep hb
      replace bY := bY.keep hb
      replace B0 := below_step B0 hb
      clear hb
      have kP0 := bP.c 0 rfl
      have kP1 := bP.c 1 rfl
      have kP2 := bP.c 2 rfl
      have kP3 := bP.c 3 rfl
      have kQ0 := bQ.c 0 rfl
      have kQ1 := bQ.c 1 rfl
      have kQ2 := bQ.c 2 rfl
      have kQ3 := bQ.c 3 rfl
      have kX0 := bX.c 0 rfl
      have kX1 := bX.c 1 rfl
      have kX2 := bX.c 2 rfl
      have kX3 := bX.c 3 rfl
      have kX4 := bX.c 4 rfl
      have kY0 := bY.c 0 rfl
      have kY1 := bY.c 1 rfl
      have kY2 := bY.c 2 rfl
      have kY3 := bY.c 3 rfl
      have kY4 := bY.c 4 rfl
      go_wp2_with fail
      clear kP0 kP1 kP2 kP3 kQ0 kQ1 kQ2 kQ3 kX0 kX1 kX2 kX3 kX4 kY0 kY1 kY2 kY3 kY4
      refine (scf_t _ HB).mono ?_
      rintro e w4 ⟨rfl, hb⟩
      replace bP := bP.keep hb
      replace bQ := bQ.keep hb
      replace bX := bX.keep hb
      replace bY := bY.keep hb
      replace B0 := below_step B0 hb
      clear hb
      have kP0 := bP.c 0 rfl
      have kP1 := bP.c 1 rfl
      have kP2 := bP.c 2 rfl
      have kP3 := bP.c 3 rfl
      have kQ0 := bQ.c 0 rfl
      have kQ1 := bQ.c 1 rfl
      have kQ2 := bQ.c 2 rfl
      have kQ3 := bQ.c 3 rfl
      have kX0 := bX.c 0 rfl
      have kX1 := bX.c 1 rfl
      have kX2 := bX.c 2 rfl
      have kX3 := bX.c 3 rfl
      have kX4 := bX.c 4 rfl
      have kY0 := bY.c 0 rfl
      have kY1 := bY.c 1 rfl
      have kY2 := bY.c 2 rfl
      have kY3 := bY.c 3 rfl
      have kY4 := bY.c 4 rfl
      go_wp2_with fail
      clear kP0 kP1 kP2 kP3 kQ0 kQ1 kQ2 kQ3 kX0 kX1 kX2 kX3 kX4 kY0 kY1 kY2 kY3 kY4
      refine (greets_any u _ (cell_keep B0 (World.block_lt_of_cell? W _ hu) hu) (cell_keep B0 (World.block_lt_of_cell? W _ hg) hg)).mono ?_
      rintro e w5 ⟨rfl, hb⟩
      replace bP := bP.keep hb
      replace bQ := bQ.keep hb
      replace bX := bX.keep hb
      replace bY := bY.keep hb
      replace B0 := below_step B0 hb
      clear hb
      have kP0 := bP.c 0 rfl
      have kP1 := bP.c 1 rfl
      have kP2 := bP.c 2 rfl
      have kP3 := bP.c 3 rfl
      have kQ0 := bQ.c 0 rfl
      have kQ1 := bQ.c 1 rfl
      have kQ2 := bQ.c 2 rfl
      have kQ3 := bQ.c 3 rfl
      have kX0 := bX.c 0 rfl
      have kX1 := bX.c 1 rfl
      have kX2 := bX.c 2 rfl
      have kX3 := bX.c 3 rfl
      have kX4 := bX.c 4 rfl
      have kY0 := bY.c 0 rfl
      have kY1 := bY.c 1 rfl
      have kY2 := bY.c 2 rfl
      have kY3 := bY.c 3 rfl
      have kY4 := bY.c 4 rfl
      go_wp2_with fail
      clear kP0 kP1 kP2 kP3 kQ0 kQ1 kQ2 kQ3 kX0 kX1 kX2 kX3 kX4 kY0 kY1 kY2 kY3 kY4
      refine (cf_t _ H0).mono ?_
      rintro e w6 ⟨rfl, hb⟩
      replace bP := bP.keep hb
      replace bQ := bQ.keep hb
      replace bX := bX.keep hb
      replace bY := bY.keep hb
      replace B0 := below_step B0 hb
      clear hb
      go_wp2
      go_ret
      exact ⟨rfl, B0⟩
    · cases hp : l4B aa ai ap 1 ba bi
      · by_cases hless : bh < ah
        · have HA := Lib.hid ha
          have HB := Lib.hid hb
          have HS1 := Lib.hid (ses_zero ha)
          have HS2 := Lib.hid (ses_zero hb)
          have HP := Lib.hid hp
          have HG := Lib.hid (show (cokB aa ai ah ap && cokB ba bi bh bp && (l4B aa ai ap 1 ba bi && l4B ba bi bp 1 aa ai)) = false by rw [ha, hb, hp]; rfl)
          clear ha hb hp
          refine (greet_zero u _ (cell_keep B0 (World.block_lt_of_cell? W _ hu) hu) (cell_keep B0 (World.block_lt_of_cell? W _ hg) hg) HG).mono ?_
          rintro e w2 ⟨rfl, hb⟩
          replace bP := bP.keep hb
          replace bQ := bQ.keep hb
          replace B0 := below_step B0 hb
          clear hb
          have bX := Bl.new w2 [.int .i64 0, .int .i64 0, .int .i64 0, .int .i64 0, .int .i64 0] 28 (w2.heap.size) (by simp)
          replace bP := bP.alloc (.cells #[.int .i64 0, .int .i64 0, .int .i64 0, .int .i64 0, .int .i64 0] 28)
          replace bQ := bQ.alloc (.cells #[.int .i64 0, .int .i64 0, .int .i64 0, .int .i64 0, .int .i64 0] 28)
          replace B0 := B0.alloc B0.size (.cells #[.int .i64 0, .int .i64 0, .int .i64 0, .int .i64 0, .int .i64 0] 28)
          have bY := Bl.new (w2.alloc (.cells #[.int .i64 0, .int .i64 0, .int .i64 0, .int .i64 0, .int .i64 0] 28)) [.int .i64 0, .int .i64 0, .int .i64 0, .int .i64 0, .int .i64 0] 28 (w2.heap.size + 1) (by simp)
          replace bP := bP.alloc (.cells #[.int .i64 0, .int .i64 0, .int .i64 0, .int .i64 0, .int .i64 0] 28)
          replace bQ := bQ.alloc (.cells #[.int .i64 0, .int .i64 0, .int .i64 0, .int .i64 0, .int .i64 0] 28)
          replace bX := bX.alloc (.cells #[.int .i64 0, .int .i64 0, .int .i64 0, .int .i64 0, .int .i64 0] 28)
          replace B0 := B0.alloc B0.size (.cells #[.int .i64 0, .int .i64 0, .int .i64 0, .int .i64 0, .int .i64 0] 28)
          have kP0 := bP.c 0 rfl
          have kP1 := bP.c 1 rfl
          have kP2 := bP.c 2 rfl
          have kP3 := bP.c 3 rfl
          have kQ0 := bQ.c 0 rfl
          have kQ1 := bQ.c 1 rfl
          have kQ2 := bQ.c 2 rfl
          have kQ3 := bQ.c 3 rfl
          have kX0 := bX.c 0 rfl
          have kX1 := bX.c 1 rfl
          have kX2 := bX.c 2 rfl
          have kX3 := bX.c 3 rfl
          have kX4 := bX.c 4 rfl
          have kY0 := bY.c 0 rfl
          have kY1 := bY.c 1 rfl
          have kY2 := bY.c 2 rfl
          have kY3 := bY.c 3 rfl
          have kY4 := bY.c 4 rfl
          go_wp2_with fail
          clear kP0 kP1 kP2 kP3 kQ0 kQ1 kQ2 kQ3 kX0 kX1 kX2 kX3 kX4 kY0 kY1 kY2 kY3 kY4
          obtain ⟨Y, eY⟩ : ∃ Y, Y = (w2.heap.size + 1) := ⟨_, rfl⟩
          rw [← eY] at bY
          try rw [← eY]
          clear eY
          obtain ⟨X, eX⟩ : ∃ X, X = (w2.heap.size) := ⟨_, rfl⟩
          rw [← eX] at bX
          try rw [← eX]
          clear eX
          refine (scf_t _ HA).mono ?_
          rintro e w3 ⟨rfl, hb⟩
          replace bP := bP.keep hb
          replace bQ := bQ.keep hb
          replace bX := bX.keep hb
          replace bY := bY.keep hb
          replace B0 := below_step B0 hb
          clear hb
          have kP0 := bP.c 0 rfl
          have kP1 := bP.c 1 rfl
          have kP2 := bP.c 2 rfl
          have kP3 := bP.c 3 rfl
          have kQ0 := bQ.c 0 rfl
          have kQ1 := bQ.c 1 rfl
          have kQ2 := bQ.c 2 rfl
          have kQ3 := bQ.c 3 rfl
          have kX0 := bX.c 0 rfl
          have kX1 := bX.c 1 rfl
          have kX2 := bX.c 2 rfl
          have kX3 := bX.c 3 rfl
          have kX4 := bX.c 4 rfl
          have kY0 := bY.c 0 rfl
          have kY1 := bY.c 1 rfl
          have kY2 := bY.c 2 rfl
          have kY3 := bY.c 3 rfl
          have kY4 := bY.c 4 rfl
          go_wp2_with fail
          clear kP0 kP1 kP2 kP3 kQ0 kQ1 kQ2 kQ3 kX0 kX1 kX2 kX3 kX4 kY0 kY1 kY2 kY3 kY4
          refine (scf_t _ HB).mono ?_
          rintro e w4 ⟨rfl, hb⟩
          replace bP := bP.keep hb
          replace bQ := bQ.keep hb
          replace bX := bX.keep hb
          replace bY := bY.keep hb
          replace B0 := below_step B0 hb
          clear hb
          have kP0 := bP.c 0 rfl
          have kP1 := bP.c 1 rfl
          have kP2 := bP.c 2 rfl
          have kP3 := bP.c 3 rfl
          have kQ0 := bQ.c 0 rfl
          have kQ1 := bQ.c 1 rfl
          have kQ2 := bQ.c 2 rfl
          have kQ3 := bQ.c 3 rfl
          have kX0 := bX.c 0 rfl
          have kX1 := bX.c 1 rfl
          have kX2 := bX.c 2 rfl
          have kX3 := bX.c 3 rfl
          have kX4 := bX.c 4 rfl
          have kY0 := bY.c 0 rfl
          have kY1 := bY.c 1 rfl
          have kY2 := bY.c 2 rfl
          have kY3 := bY.c 3 rfl
          have kY4 := bY.c 4 rfl
          go_wp2_with fail
          clear kP0 kP1 kP2 kP3 kQ0 kQ1 kQ2 kQ3 kX0 kX1 kX2 kX3 kX4 kY0 kY1 kY2 kY3 kY4
          refine (open_t _ HA).mono ?_
          rintro e w5 ⟨rfl, hb⟩
          replace bP := bP.keep hb
          replace bQ := bQ.keep hb
          replace bX := bX.keep hb
          replace bY := bY.keep hb
          replace B0 := below_step B0 hb
          clear hb
          have bM := Bl.new w5 [.int .i64 1, .int .i64 aa, .int .i64 ah, .int .i64 ai, .slice none 0 0, .slice none 0 0, .slice none 0 0, .int .i64 0, .slice none 0 0, .int .i64 0, .int .i64 0] 38 (w5.heap.size) (by simp)
          replace bP := bP.alloc (.cells #[.int .i64 1, .int .i64 aa, .int .i64 ah, .int .i64 ai, .slice none 0 0, .slice none 0 0, .slice none 0 0, .int .i64 0, .slice none 0 0, .int .i64 0, .int .i64 0] 38)
          replace bQ := bQ.alloc (.cells #[.int .i64 1, .int .i64 aa, .int .i64 ah, .int .i64 ai, .slice none 0 0, .slice none 0 0, .slice none 0 0, .int .i64 0, .slice none 0 0, .int .i64 0, .int .i64 0] 38)
          replace bX := bX.alloc (.cells #[.int .i64 1, .int .i64 aa, .int .i64 ah, .int .i64 ai, .slice none 0 0, .slice none 0 0, .slice none 0 0, .int .i64 0, .slice none 0 0, .int .i64 0, .int .i64 0] 38)
          replace bY := bY.alloc (.cells #[.int .i64 1, .int .i64 aa, .int .i64 ah, .int .i64 ai, .slice none 0 0, .slice none 0 0, .slice none 0 0, .int .i64 0, .slice none 0 0, .int .i64 0, .int .i64 0] 38)
          replace B0 := B0.alloc B0.size (.cells #[.int .i64 1, .int .i64 aa, .int .i64 ah, .int .i64 ai, .slice none 0 0, .slice none 0 0, .slice none 0 0, .int .i64 0, .slice none 0 0, .int .i64 0, .int .i64 0] 38)
          have kP0 := bP.c 0 rfl
          have kP1 := bP.c 1 rfl
          have kP2 := bP.c 2 rfl
          have kP3 := bP.c 3 rfl
          have kQ0 := bQ.c 0 rfl
          have kQ1 := bQ.c 1 rfl
          have kQ2 := bQ.c 2 rfl
          have kQ3 := bQ.c 3 rfl
          have kX0 := bX.c 0 rfl
          have kX1 := bX.c 1 rfl
          have kX2 := bX.c 2 rfl
          have kX3 := bX.c 3 rfl
          have kX4 := bX.c 4 rfl
          have kY0 := bY.c 0 rfl
          have kY1 := bY.c 1 rfl
          have kY2 := bY.c 2 rfl
          have kY3 := bY.c 3 rfl
          have kY4 := bY.c 4 rfl
          have kM0 := bM.c 0 rfl
          have kM1 := bM.c 1 rfl
          have kM2 := bM.c 2 rfl
          have kM3 := bM.c 3 rfl
          have kM4 := bM.c 4 rfl
          have kM5 := bM.c 5 rfl
          have kM6 := bM.c 6 rfl
          have kM7 := bM.c 7 rfl
          have kM8 := bM.c 8 rfl
          have kM9 := bM.c 9 rfl
          have kM10 := bM.c 10 rfl
          go_wp2_with fail
          clear kP0 kP1 kP2 kP3 kQ0 kQ1 kQ2 kQ3 kX0 kX1 kX2 kX3 kX4 kY0 kY1 kY2 kY3 kY4 kM0 kM1 kM2 kM3 kM4 kM5 kM6 kM7 kM8 kM9 kM10
          obtain ⟨M, eM⟩ : ∃ M, M = (w5.heap.size) := ⟨_, rfl⟩
          rw [← eM] at bM
          try rw [← eM]
          clear eM
          refine (open_t _ HB).mono ?_
          rintro e w6 ⟨rfl, hb⟩
          replace bP := bP.keep hb
          replace bQ := bQ.keep hb
          replace bX := bX.keep hb
          replace bY := bY.keep hb
          replace bM := bM.keep hb
          replace B0 := below_step B0 hb
          clear hb
          have bN := Bl.new w6 [.int .i64 1, .int .i64 ba, .int .i64 bh, .int .i64 bi, .slice none 0 0, .slice none 0 0, .slice none 0 0, .int .i64 0, .slice none 0 0, .int .i64 0, .int .i64 0] 38 (w6.heap.size) (by simp)
          replace bP := bP.alloc (.cells #[.int .i64 1, .int .i64 ba, .int .i64 bh, .int .i64 bi, .slice none 0 0, .slice none 0 0, .slice none 0 0, .int .i64 0, .slice none 0 0, .int .i64 0, .int .i64 0] 38)
          replace bQ := bQ.alloc (.cells #[.int .i64 1, .int .i64 ba, .int .i64 bh, .int .i64 bi, .slice none 0 0, .slice none 0 0, .slice none 0 0, .int .i64 0, .slice none 0 0, .int .i64 0, .int .i64 0] 38)
          replace bX := bX.alloc (.cells #[.int .i64 1, .int .i64 ba, .int .i64 bh, .int .i64 bi, .slice none 0 0, .slice none 0 0, .slice none 0 0, .int .i64 0, .slice none 0 0, .int .i64 0, .int .i64 0] 38)
          replace bY := bY.alloc (.cells #[.int .i64 1, .int .i64 ba, .int .i64 bh, .int .i64 bi, .slice none 0 0, .slice none 0 0, .slice none 0 0, .int .i64 0, .slice none 0 0, .int .i64 0, .int .i64 0] 38)
          replace bM := bM.alloc (.cells #[.int .i64 1, .int .i64 ba, .int .i64 bh, .int .i64 bi, .slice none 0 0, .slice none 0 0, .slice none 0 0, .int .i64 0, .slice none 0 0, .int .i64 0, .int .i64 0] 38)
          replace B0 := B0.alloc B0.size (.cells #[.int .i64 1, .int .i64 ba, .int .i64 bh, .int .i64 bi, .slice none 0 0, .slice none 0 0, .slice none 0 0, .int .i64 0, .slice none 0 0, .int .i64 0, .int .i64 0] 38)
          have kP0 := bP.c 0 rfl
          have kP1 := bP.c 1 rfl
          have kP2 := bP.c 2 rfl
          have kP3 := bP.c 3 rfl
          have kQ0 := bQ.c 0 rfl
          have kQ1 := bQ.c 1 rfl
          have kQ2 := bQ.c 2 rfl
          have kQ3 := bQ.c 3 rfl
          have kX0 := bX.c 0 rfl
          have kX1 := bX.c 1 rfl
          have kX2 := bX.c 2 rfl
          have kX3 := bX.c 3 rfl
          have kX4 := bX.c 4 rfl
          have kY0 := bY.c 0 rfl
          have kY1 := bY.c 1 rfl
          have kY2 := bY.c 2 rfl
          have kY3 := bY.c 3 rfl
          have kY4 := bY.c 4 rfl
          have kM0 := bM.c 0 rfl
          have kM1 := bM.c 1 rfl
          have kM2 := bM.c 2 rfl
          have kM3 := bM.c 3 rfl
          have kM4 := bM.c 4 rfl
          have kM5 := bM.c 5 rfl
          have kM6 := bM.c 6 rfl
          have kM7 := bM.c 7 rfl
          have kM8 := bM.c 8 rfl
          have kM9 := bM.c 9 rfl
          have kM10 := bM.c 10 rfl
          have kN0 := bN.c 0 rfl
          have kN1 := bN.c 1 rfl
          have kN2 := bN.c 2 rfl
          have kN3 := bN.c 3 rfl
          have kN4 := bN.c 4 rfl
          have kN5 := bN.c 5 rfl
          have kN6 := bN.c 6 rfl
          have kN7 := bN.c 7 rfl
          have kN8 := bN.c 8 rfl
          have kN9 := bN.c 9 rfl
          have kN10 := bN.c 10 rfl
          go_wp2_with fail
          clear kP0 kP1 kP2 kP3 kQ0 kQ1 kQ2 kQ3 kX0 kX1 kX2 kX3 kX4 kY0 kY1 kY2 kY3 kY4 kM0 kM1 kM2 kM3 kM4 kM5 kM6 kM7 kM8 kM9 kM10 kN0 kN1 kN2 kN3 kN4 kN5 kN6 kN7 kN8 kN9 kN10
          obtain ⟨N, eN⟩ : ∃ N, N = (w6.heap.size) := ⟨_, rfl⟩
          rw [← eN] at bN
          try rw [← eN]
          clear eN
          refine (acc_t _ HA HB HP).mono ?_
          rintro e w7 ⟨rfl, hb⟩
          replace bP := bP.keep hb
          replace bQ := bQ.keep hb
          replace bX := bX.keep hb
          replace bY := bY.keep hb
          replace bM := bM.keep hb
          replace bN := bN.keep hb
          replace B0 := below_step B0 hb
          clear hb
          have kP0 := bP.c 0 rfl
          have kP1 := bP.c 1 rfl
          have kP2 := bP.c 2 rfl
          have kP3 := bP.c 3 rfl
          have kQ0 := bQ.c 0 rfl
          have kQ1 := bQ.c 1 rfl
          have kQ2 := bQ.c 2 rfl
          have kQ3 := bQ.c 3 rfl
          have kX0 := bX.c 0 rfl
          have kX1 := bX.c 1 rfl
          have kX2 := bX.c 2 rfl
          have kX3 := bX.c 3 rfl
          have kX4 := bX.c 4 rfl
          have kY0 := bY.c 0 rfl
          have kY1 := bY.c 1 rfl
          have kY2 := bY.c 2 rfl
          have kY3 := bY.c 3 rfl
          have kY4 := bY.c 4 rfl
          have kM0 := bM.c 0 rfl
          have kM1 := bM.c 1 rfl
          have kM2 := bM.c 2 rfl
          have kM3 := bM.c 3 rfl
          have kM4 := bM.c 4 rfl
          have kM5 := bM.c 5 rfl
          have kM6 := bM.c 6 rfl
          have kM7 := bM.c 7 rfl
          have kM8 := bM.c 8 rfl
          have kM9 := bM.c 9 rfl
          have kM10 := bM.c 10 rfl
          have kN0 := bN.c 0 rfl
          have kN1 := bN.c 1 rfl
          have kN2 := bN.c 2 rfl
          have kN3 := bN.c 3 rfl
          have kN4 := bN.c 4 rfl
          have kN5 := bN.c 5 rfl
          have kN6 := bN.c 6 rfl
          have kN7 := bN.c 7 rfl
          have kN8 := bN.c 8 rfl
          have kN9 := bN.c 9 rfl
          have kN10 := bN.c 10 rfl
          go_wp2_with fail
          clear kP0 kP1 kP2 kP3 kQ0 kQ1 kQ2 kQ3 kX0 kX1 kX2 kX3 kX4 kY0 kY1 kY2 kY3 kY4 kM0 kM1 kM2 kM3 kM4 kM5 kM6 kM7 kM8 kM9 kM10 kN0 kN1 kN2 kN3 kN4 kN5 kN6 kN7 kN8 kN9 kN10
          refine (ses_t _ HS1).mono ?_
          rintro e w8 ⟨rfl, hb⟩
          replace bP := bP.keep hb
          replace bQ := bQ.keep hb
          replace bX := bX.keep hb
          replace bY := bY.keep hb
          replace bM := bM.keep hb
          replace bN := bN.keep hb
          replace B0 := below_step B0 hb
          clear hb
          have kP0 := bP.c 0 rfl
          have kP1 := bP.c 1 rfl
          have kP2 := bP.c 2 rfl
          have kP3 := bP.c 3 rfl
          have kQ0 := bQ.c 0 rfl
          have kQ1 := bQ.c 1 rfl
          have kQ2 := bQ.c 2 rfl
          have kQ3 := bQ.c 3 rfl
          have kX0 := bX.c 0 rfl
          have kX1 := bX.c 1 rfl
          have kX2 := bX.c 2 rfl
          have kX3 := bX.c 3 rfl
          have kX4 := bX.c 4 rfl
          have kY0 := bY.c 0 rfl
          have kY1 := bY.c 1 rfl
          have kY2 := bY.c 2 rfl
          have kY3 := bY.c 3 rfl
          have kY4 := bY.c 4 rfl
          have kM0 := bM.c 0 rfl
          have kM1 := bM.c 1 rfl
          have kM2 := bM.c 2 rfl
          have kM3 := bM.c 3 rfl
          have kM4 := bM.c 4 rfl
          have kM5 := bM.c 5 rfl
          have kM6 := bM.c 6 rfl
          have kM7 := bM.c 7 rfl
          have kM8 := bM.c 8 rfl
          have kM9 := bM.c 9 rfl
          have kM10 := bM.c 10 rfl
          have kN0 := bN.c 0 rfl
          have kN1 := bN.c 1 rfl
          have kN2 := bN.c 2 rfl
          have kN3 := bN.c 3 rfl
          have kN4 := bN.c 4 rfl
          have kN5 := bN.c 5 rfl
          have kN6 := bN.c 6 rfl
          have kN7 := bN.c 7 rfl
          have kN8 := bN.c 8 rfl
          have kN9 := bN.c 9 rfl
          have kN10 := bN.c 10 rfl
          go_wp2_with fail
          clear kP0 kP1 kP2 kP3 kQ0 kQ1 kQ2 kQ3 kX0 kX1 kX2 kX3 kX4 kY0 kY1 kY2 kY3 kY4 kM0 kM1 kM2 kM3 kM4 kM5 kM6 kM7 kM8 kM9 kM10 kN0 kN1 kN2 kN3 kN4 kN5 kN6 kN7 kN8 kN9 kN10
          refine (ses_t _ HS2).mono ?_
          rintro e w9 ⟨rfl, hb⟩
          replace bP := bP.keep hb
          replace bQ := bQ.keep hb
          replace bX := bX.keep hb
          replace bY := bY.keep hb
          replace bM := bM.keep hb
          replace bN := bN.keep hb
          replace B0 := below_step B0 hb
          clear hb
          have kP0 := bP.c 0 rfl
          have kP1 := bP.c 1 rfl
          have kP2 := bP.c 2 rfl
          have kP3 := bP.c 3 rfl
          have kQ0 := bQ.c 0 rfl
          have kQ1 := bQ.c 1 rfl
          have kQ2 := bQ.c 2 rfl
          have kQ3 := bQ.c 3 rfl
          have kX0 := bX.c 0 rfl
          have kX1 := bX.c 1 rfl
          have kX2 := bX.c 2 rfl
          have kX3 := bX.c 3 rfl
          have kX4 := bX.c 4 rfl
          have kY0 := bY.c 0 rfl
          have kY1 := bY.c 1 rfl
          have kY2 := bY.c 2 rfl
          have kY3 := bY.c 3 rfl
          have kY4 := bY.c 4 rfl
          have kM0 := bM.c 0 rfl
          have kM1 := bM.c 1 rfl
          have kM2 := bM.c 2 rfl
          have kM3 := bM.c 3 rfl
          have kM4 := bM.c 4 rfl
          have kM5 := bM.c 5 rfl
          have kM6 := bM.c 6 rfl
          have kM7 := bM.c 7 rfl
          have kM8 := bM.c 8 rfl
          have kM9 := bM.c 9 rfl
          have kM10 := bM.c 10 rfl
          have kN0 := bN.c 0 rfl
          have kN1 := bN.c 1 rfl
          have kN2 := bN.c 2 rfl
          have kN3 := bN.c 3 rfl
          have kN4 := bN.c 4 rfl
          have kN5 := bN.c 5 rfl
          have kN6 := bN.c 6 rfl
          have kN7 := bN.c 7 rfl
          have kN8 := bN.c 8 rfl
          have kN9 := bN.c 9 rfl
          have kN10 := bN.c 10 rfl
          go_wp2_with fail
          clear kP0 kP1 kP2 kP3 kQ0 kQ1 kQ2 kQ3 kX0 kX1 kX2 kX3 kX4 kY0 kY1 kY2 kY3 kY4 kM0 kM1 kM2 kM3 kM4 kM5 kM6 kM7 kM8 kM9 kM10 kN0 kN1 kN2 kN3 kN4 kN5 kN6 kN7 kN8 kN9 kN10
          refine (greets_any u _ (cell_keep B0 (World.block_lt_of_cell? W _ hu) hu) (cell_keep B0 (World.block_lt_of_cell? W _ hg) hg)).mono ?_
          rintro e w10 ⟨rfl, hb⟩
          replace bP := bP.keep hb
          replace bQ := bQ.keep hb
          replace bX := bX.keep hb
          replace bY := bY.keep hb
          replace bM := bM.keep hb
          replace bN := bN.keep hb
          replace B0 := below_step B0 hb
          clear hb
          go_wp2
          go_ret
          exact ⟨rfl, B0⟩
        · have HA := Lib.hid ha
          have HB := Lib.hid hb
          have HS1 := Lib.hid (ses_zero ha)
          have HS2 := Lib.hid (ses_zero hb)
          have HP := Lib.hid hp
          have HG := Lib.hid (show (cokB aa ai ah ap && cokB ba bi bh bp && (l4B aa ai ap 1 ba bi && l4B ba bi bp 1 aa ai)) = false by rw [ha, hb, hp]; rfl)
          clear ha hb hp
          refine (greet_zero u _ (cell_keep B0 (World.block_lt_of_cell? W _ hu) hu) (cell_keep B0 (World.block_lt_of_cell? W _ hg) hg) HG).mono ?_
          rintro e w2 ⟨rfl, hb⟩
          replace bP := bP.keep hb
          replace bQ := bQ.keep hb
          replace B0 := below_step B0 hb
          clear hb
          have bX := Bl.new w2 [.int .i64 0, .int .i64 0, .int .i64 0, .int .i64 0, .int .i64 0] 28 (w2.heap.size) (by simp)
          replace bP := bP.alloc (.cells #[.int .i64 0, .int .i64 0, .int .i64 0, .int .i64 0, .int .i64 0] 28)
          replace bQ := bQ.alloc (.cells #[.int .i64 0, .int .i64 0, .int .i64 0, .int .i64 0, .int .i64 0] 28)
          replace B0 := B0.alloc B0.size (.cells #[.int .i64 0, .int .i64 0, .int .i64 0, .int .i64 0, .int .i64 0] 28)
          have bY := Bl.new (w2.alloc (.cells #[.int .i64 0, .int .i64 0, .int .i64 0, .int .i64 0, .int .i64 0] 28)) [.int .i64 0, .int .i64 0, .int .i64 0, .int .i64 0, .int .i64 0] 28 (w2.heap.size + 1) (by simp)
          replace bP := bP.alloc (.cells #[.int .i64 0, .int .i64 0, .int .i64 0, .int .i64 0, .int .i64 0] 28)
          replace bQ := bQ.alloc (.cells #[.int .i64 0, .int .i64 0, .int .i64 0, .int .i64 0, .int .i64 0] 28)
          replace bX := bX.alloc (.cells #[.int .i64 0, .int .i64 0, .int .i64 0, .int .i64 0, .int .i64 0] 28)
          replace B0 := B0.alloc B0.size (.cells #[.int .i64 0, .int .i64 0, .int .i64 0, .int .i64 0, .int .i64 0] 28)
          have kP0 := bP.c 0 rfl
          have kP1 := bP.c 1 rfl
          have kP2 := bP.c 2 rfl
          have kP3 := bP.c 3 rfl
          have kQ0 := bQ.c 0 rfl
          have kQ1 := bQ.c 1 rfl
          have kQ2 := bQ.c 2 rfl
          have kQ3 := bQ.c 3 rfl
          have kX0 := bX.c 0 rfl
          have kX1 := bX.c 1 rfl
          have kX2 := bX.c 2 rfl
          have kX3 := bX.c 3 rfl
          have kX4 := bX.c 4 rfl
          have kY0 := bY.c 0 rfl
          have kY1 := bY.c 1 rfl
          have kY2 := bY.c 2 rfl
          have kY3 := bY.c 3 rfl
          have kY4 := bY.c 4 rfl
          go_wp2_with fail
          clear kP0 kP1 kP2 kP3 kQ0 kQ1 kQ2 kQ3 kX0 kX1 kX2 kX3 kX4 kY0 kY1 kY2 kY3 kY4
          obtain ⟨Y, eY⟩ : ∃ Y, Y = (w2.heap.size + 1) := ⟨_, rfl⟩
          rw [← eY] at bY
          try rw [← eY]
          clear eY
          obtain ⟨X, eX⟩ : ∃ X, X = (w2.heap.size) := ⟨_, rfl⟩
          rw [← eX] at bX
          try rw [← eX]
          clear eX
          refine (scf_t _ HA).mono ?_
          rintro e w3 ⟨rfl, hb⟩
          replace bP := bP.keep hb
          replace bQ := bQ.keep hb
          replace bX := bX.keep hb
          replace bY := bY.keep hb
          replace B0 := below_step B0 hb
          clear hb
          have kP0 := bP.c 0 rfl
          have kP1 := bP.c 1 rfl
          have kP2 := bP.c 2 rfl
          have kP3 := bP.c 3 rfl
          have kQ0 := bQ.c 0 rfl
          have kQ1 := bQ.c 1 rfl
          have kQ2 := bQ.c 2 rfl
          have kQ3 := bQ.c 3 rfl
          have kX0 := bX.c 0 rfl
          have kX1 := bX.c 1 rfl
          have kX2 := bX.c 2 rfl
          have kX3 := bX.c 3 rfl
          have kX4 := bX.c 4 rfl
          have kY0 := bY.c 0 rfl
          have kY1 := bY.c 1 rfl
          have kY2 := bY.c 2 rfl
          have kY3 := bY.c 3 rfl
          have kY4 := bY.c 4 rfl
          go_wp2_with fail
          clear kP0 kP1 kP2 kP3 kQ0 kQ1 kQ2 kQ3 kX0 kX1 kX2 kX3 kX4 kY0 kY1 kY2 kY3 kY4
          refine (scf_t _ HB).mono ?_
          rintro e w4 ⟨rfl, hb⟩
          replace bP := bP.keep hb
          replace bQ := bQ.keep hb
          replace bX := bX.keep hb
          replace bY := bY.keep hb
          replace B0 := below_step B0 hb
          clear hb
          have kP0 := bP.c 0 rfl
          have kP1 := bP.c 1 rfl
          have kP2 := bP.c 2 rfl
          have kP3 := bP.c 3 rfl
          have kQ0 := bQ.c 0 rfl
          have kQ1 := bQ.c 1 rfl
          have kQ2 := bQ.c 2 rfl
          have kQ3 := bQ.c 3 rfl
          have kX0 := bX.c 0 rfl
          have kX1 := bX.c 1 rfl
          have kX2 := bX.c 2 rfl
          have kX3 := bX.c 3 rfl
          have kX4 := bX.c 4 rfl
          have kY0 := bY.c 0 rfl
          have kY1 := bY.c 1 rfl
          have kY2 := bY.c 2 rfl
          have kY3 := bY.c 3 rfl
          have kY4 := bY.c 4 rfl
          go_wp2_with fail
          clear kP0 kP1 kP2 kP3 kQ0 kQ1 kQ2 kQ3 kX0 kX1 kX2 kX3 kX4 kY0 kY1 kY2 kY3 kY4
          refine (open_t _ HA).mono ?_
          rintro e w5 ⟨rfl, hb⟩
          replace bP := bP.keep hb
          replace bQ := bQ.keep hb
          replace bX := bX.keep hb
          replace bY := bY.keep hb
          replace B0 := below_step B0 hb
          clear hb
          have bM := Bl.new w5 [.int .i64 1, .int .i64 aa, .int .i64 ah, .int .i64 ai, .slice none 0 0, .slice none 0 0, .slice none 0 0, .int .i64 0, .slice none 0 0, .int .i64 0, .int .i64 0] 38 (w5.heap.size) (by simp)
          replace bP := bP.alloc (.cells #[.int .i64 1, .int .i64 aa, .int .i64 ah, .int .i64 ai, .slice none 0 0, .slice none 0 0, .slice none 0 0, .int .i64 0, .slice none 0 0, .int .i64 0, .int .i64 0] 38)
          replace bQ := bQ.alloc (.cells #[.int .i64 1, .int .i64 aa, .int .i64 ah, .int .i64 ai, .slice none 0 0, .slice none 0 0, .slice none 0 0, .int .i64 0, .slice none 0 0, .int .i64 0, .int .i64 0] 38)
          replace bX := bX.alloc (.cells #[.int .i64 1, .int .i64 aa, .int .i64 ah, .int .i64 ai, .slice none 0 0, .slice none 0 0, .slice none 0 0, .int .i64 0, .slice none 0 0, .int .i64 0, .int .i64 0] 38)
          replace bY := bY.alloc (.cells #[.int .i64 1, .int .i64 aa, .int .i64 ah, .int .i64 ai, .slice none 0 0, .slice none 0 0, .slice none 0 0, .int .i64 0, .slice none 0 0, .int .i64 0, .int .i64 0] 38)
          replace B0 := B0.alloc B0.size (.cells #[.int .i64 1, .int .i64 aa, .int .i64 ah, .int .i64 ai, .slice none 0 0, .slice none 0 0, .slice none 0 0, .int .i64 0, .slice none 0 0, .int .i64 0, .int .i64 0] 38)
          have kP0 := bP.c 0 rfl
          have kP1 := bP.c 1 rfl
          have kP2 := bP.c 2 rfl
          have kP3 := bP.c 3 rfl
          have kQ0 := bQ.c 0 rfl
          have kQ1 := bQ.c 1 rfl
          have kQ2 := bQ.c 2 rfl
          have kQ3 := bQ.c 3 rfl
          have kX0 := bX.c 0 rfl
          have kX1 := bX.c 1 rfl
          have kX2 := bX.c 2 rfl
          have kX3 := bX.c 3 rfl
          have kX4 := bX.c 4 rfl
          have kY0 := bY.c 0 rfl
          have kY1 := bY.c 1 rfl
          have kY2 := bY.c 2 rfl
          have kY3 := bY.c 3 rfl
          have kY4 := bY.c 4 rfl
          have kM0 := bM.c 0 rfl
          have kM1 := bM.c 1 rfl
          have kM2 := bM.c 2 rfl
          have kM3 := bM.c 3 rfl
          have kM4 := bM.c 4 rfl
          have kM5 := bM.c 5 rfl
          have kM6 := bM.c 6 rfl
          have kM7 := bM.c 7 rfl
          have kM8 := bM.c 8 rfl
          have kM9 := bM.c 9 rfl
          have kM10 := bM.c 10 rfl
          go_wp2_with fail
          clear kP0 kP1 kP2 kP3 kQ0 kQ1 kQ2 kQ3 kX0 kX1 kX2 kX3 kX4 kY0 kY1 kY2 kY3 kY4 kM0 kM1 kM2 kM3 kM4 kM5 kM6 kM7 kM8 kM9 kM10
          obtain ⟨M, eM⟩ : ∃ M, M = (w5.heap.size) := ⟨_, rfl⟩
          rw [← eM] at bM
          try rw [← eM]
          clear eM
          refine (open_t _ HB).mono ?_
          rintro e w6 ⟨rfl, hb⟩
          replace bP := bP.keep hb
          replace bQ := bQ.keep hb
          replace bX := bX.keep hb
          replace bY := bY.keep hb
          replace bM := bM.keep hb
          replace B0 := below_step B0 hb
          clear hb
          have bN := Bl.new w6 [.int .i64 1, .int .i64 ba, .int .i64 bh, .int .i64 bi, .slice none 0 0, .slice none 0 0, .slice none 0 0, .int .i64 0, .slice none 0 0, .int .i64 0, .int .i64 0] 38 (w6.heap.size) (by simp)
          replace bP := bP.alloc (.cells #[.int .i64 1, .int .i64 ba, .int .i64 bh, .int .i64 bi, .slice none 0 0, .slice none 0 0, .slice none 0 0, .int .i64 0, .slice none 0 0, .int .i64 0, .int .i64 0] 38)
          replace bQ := bQ.alloc (.cells #[.int .i64 1, .int .i64 ba, .int .i64 bh, .int .i64 bi, .slice none 0 0, .slice none 0 0, .slice none 0 0, .int .i64 0, .slice none 0 0, .int .i64 0, .int .i64 0] 38)
          replace bX := bX.alloc (.cells #[.int .i64 1, .int .i64 ba, .int .i64 bh, .int .i64 bi, .slice none 0 0, .slice none 0 0, .slice none 0 0, .int .i64 0, .slice none 0 0, .int .i64 0, .int .i64 0] 38)
          replace bY := bY.alloc (.cells #[.int .i64 1, .int .i64 ba, .int .i64 bh, .int .i64 bi, .slice none 0 0, .slice none 0 0, .slice none 0 0, .int .i64 0, .slice none 0 0, .int .i64 0, .int .i64 0] 38)
          replace bM := bM.alloc (.cells #[.int .i64 1, .int .i64 ba, .int .i64 bh, .int .i64 bi, .slice none 0 0, .slice none 0 0, .slice none 0 0, .int .i64 0, .slice none 0 0, .int .i64 0, .int .i64 0] 38)
          replace B0 := B0.alloc B0.size (.cells #[.int .i64 1, .int .i64 ba, .int .i64 bh, .int .i64 bi, .slice none 0 0, .slice none 0 0, .slice none 0 0, .int .i64 0, .slice none 0 0, .int .i64 0, .int .i64 0] 38)
          have kP0 := bP.c 0 rfl
          have kP1 := bP.c 1 rfl
          have kP2 := bP.c 2 rfl
          have kP3 := bP.c 3 rfl
          have kQ0 := bQ.c 0 rfl
          have kQ1 := bQ.c 1 rfl
          have kQ2 := bQ.c 2 rfl
          have kQ3 := bQ.c 3 rfl
          have kX0 := bX.c 0 rfl
          have kX1 := bX.c 1 rfl
          have kX2 := bX.c 2 rfl
          have kX3 := bX.c 3 rfl
          have kX4 := bX.c 4 rfl
          have kY0 := bY.c 0 rfl
          have kY1 := bY.c 1 rfl
          have kY2 := bY.c 2 rfl
          have kY3 := bY.c 3 rfl
          have kY4 := bY.c 4 rfl
          have kM0 := bM.c 0 rfl
          have kM1 := bM.c 1 rfl
          have kM2 := bM.c 2 rfl
          have kM3 := bM.c 3 rfl
          have kM4 := bM.c 4 rfl
          have kM5 := bM.c 5 rfl
          have kM6 := bM.c 6 rfl
          have kM7 := bM.c 7 rfl
          have kM8 := bM.c 8 rfl
          have kM9 := bM.c 9 rfl
          have kM10 := bM.c 10 rfl
          have kN0 := bN.c 0 rfl
          have kN1 := bN.c 1 rfl
          have kN2 := bN.c 2 rfl
          have kN3 := bN.c 3 rfl
          have kN4 := bN.c 4 rfl
          have kN5 := bN.c 5 rfl
          have kN6 := bN.c 6 rfl
          have kN7 := bN.c 7 rfl
          have kN8 := bN.c 8 rfl
          have kN9 := bN.c 9 rfl
          have kN10 := bN.c 10 rfl
          go_wp2_with fail
          clear kP0 kP1 kP2 kP3 kQ0 kQ1 kQ2 kQ3 kX0 kX1 kX2 kX3 kX4 kY0 kY1 kY2 kY3 kY4 kM0 kM1 kM2 kM3 kM4 kM5 kM6 kM7 kM8 kM9 kM10 kN0 kN1 kN2 kN3 kN4 kN5 kN6 kN7 kN8 kN9 kN10
          obtain ⟨N, eN⟩ : ∃ N, N = (w6.heap.size) := ⟨_, rfl⟩
          rw [← eN] at bN
          try rw [← eN]
          clear eN
          refine (acc_t _ HA HB HP).mono ?_
          rintro e w7 ⟨rfl, hb⟩
          replace bP := bP.keep hb
          replace bQ := bQ.keep hb
          replace bX := bX.keep hb
          replace bY := bY.keep hb
          replace bM := bM.keep hb
          replace bN := bN.keep hb
          replace B0 := below_step B0 hb
          clear hb
          have kP0 := bP.c 0 rfl
          have kP1 := bP.c 1 rfl
          have kP2 := bP.c 2 rfl
          have kP3 := bP.c 3 rfl
          have kQ0 := bQ.c 0 rfl
          have kQ1 := bQ.c 1 rfl
          have kQ2 := bQ.c 2 rfl
          have kQ3 := bQ.c 3 rfl
          have kX0 := bX.c 0 rfl
          have kX1 := bX.c 1 rfl
          have kX2 := bX.c 2 rfl
          have kX3 := bX.c 3 rfl
          have kX4 := bX.c 4 rfl
          have kY0 := bY.c 0 rfl
          have kY1 := bY.c 1 rfl
          have kY2 := bY.c 2 rfl
          have kY3 := bY.c 3 rfl
          have kY4 := bY.c 4 rfl
          have kM0 := bM.c 0 rfl
          have kM1 := bM.c 1 rfl
          have kM2 := bM.c 2 rfl
          have kM3 := bM.c 3 rfl
          have kM4 := bM.c 4 rfl
          have kM5 := bM.c 5 rfl
          have kM6 := bM.c 6 rfl
          have kM7 := bM.c 7 rfl
          have kM8 := bM.c 8 rfl
          have kM9 := bM.c 9 rfl
          have kM10 := bM.c 10 rfl
          have kN0 := bN.c 0 rfl
          have kN1 := bN.c 1 rfl
          have kN2 := bN.c 2 rfl
          have kN3 := bN.c 3 rfl
          have kN4 := bN.c 4 rfl
          have kN5 := bN.c 5 rfl
          have kN6 := bN.c 6 rfl
          have kN7 := bN.c 7 rfl
          have kN8 := bN.c 8 rfl
          have kN9 := bN.c 9 rfl
          have kN10 := bN.c 10 rfl
          go_wp2_with fail
          clear kP0 kP1 kP2 kP3 kQ0 kQ1 kQ2 kQ3 kX0 kX1 kX2 kX3 kX4 kY0 kY1 kY2 kY3 kY4 kM0 kM1 kM2 kM3 kM4 kM5 kM6 kM7 kM8 kM9 kM10 kN0 kN1 kN2 kN3 kN4 kN5 kN6 kN7 kN8 kN9 kN10
          refine (ses_t _ HS1).mono ?_
          rintro e w8 ⟨rfl, hb⟩
          replace bP := bP.keep hb
          replace bQ := bQ.keep hb
          replace bX := bX.keep hb
          replace bY := bY.keep hb
          replace bM := bM.keep hb
          replace bN := bN.keep hb
          replace B0 := below_step B0 hb
          clear hb
          have kP0 := bP.c 0 rfl
          have kP1 := bP.c 1 rfl
          have kP2 := bP.c 2 rfl
          have kP3 := bP.c 3 rfl
          have kQ0 := bQ.c 0 rfl
          have kQ1 := bQ.c 1 rfl
          have kQ2 := bQ.c 2 rfl
          have kQ3 := bQ.c 3 rfl
          have kX0 := bX.c 0 rfl
          have kX1 := bX.c 1 rfl
          have kX2 := bX.c 2 rfl
          have kX3 := bX.c 3 rfl
          have kX4 := bX.c 4 rfl
          have kY0 := bY.c 0 rfl
          have kY1 := bY.c 1 rfl
          have kY2 := bY.c 2 rfl
          have kY3 := bY.c 3 rfl
          have kY4 := bY.c 4 rfl
          have kM0 := bM.c 0 rfl
          have kM1 := bM.c 1 rfl
          have kM2 := bM.c 2 rfl
          have kM3 := bM.c 3 rfl
          have kM4 := bM.c 4 rfl
          have kM5 := bM.c 5 rfl
          have kM6 := bM.c 6 rfl
          have kM7 := bM.c 7 rfl
          have kM8 := bM.c 8 rfl
          have kM9 := bM.c 9 rfl
          have kM10 := bM.c 10 rfl
          have kN0 := bN.c 0 rfl
          have kN1 := bN.c 1 rfl
          have kN2 := bN.c 2 rfl
          have kN3 := bN.c 3 rfl
          have kN4 := bN.c 4 rfl
          have kN5 := bN.c 5 rfl
          have kN6 := bN.c 6 rfl
          have kN7 := bN.c 7 rfl
          have kN8 := bN.c 8 rfl
          have kN9 := bN.c 9 rfl
          have kN10 := bN.c 10 rfl
          go_wp2_with fail
          clear kP0 kP1 kP2 kP3 kQ0 kQ1 kQ2 kQ3 kX0 kX1 kX2 kX3 kX4 kY0 kY1 kY2 kY3 kY4 kM0 kM1 kM2 kM3 kM4 kM5 kM6 kM7 kM8 kM9 kM10 kN0 kN1 kN2 kN3 kN4 kN5 kN6 kN7 kN8 kN9 kN10
          refine (ses_t _ HS2).mono ?_
          rintro e w9 ⟨rfl, hb⟩
          replace bP := bP.keep hb
          replace bQ := bQ.keep hb
          replace bX := bX.keep hb
          replace bY := bY.keep hb
          replace bM := bM.keep hb
          replace bN := bN.keep hb
          replace B0 := below_step B0 hb
          clear hb
          have kP0 := bP.c 0 rfl
          have kP1 := bP.c 1 rfl
          have kP2 := bP.c 2 rfl
          have kP3 := bP.c 3 rfl
          have kQ0 := bQ.c 0 rfl
          have kQ1 := bQ.c 1 rfl
          have kQ2 := bQ.c 2 rfl
          have kQ3 := bQ.c 3 rfl
          have kX0 := bX.c 0 rfl
          have kX1 := bX.c 1 rfl
          have kX2 := bX.c 2 rfl
          have kX3 := bX.c 3 rfl
          have kX4 := bX.c 4 rfl
          have kY0 := bY.c 0 rfl
          have kY1 := bY.c 1 rfl
          have kY2 := bY.c 2 rfl
          have kY3 := bY.c 3 rfl
          have kY4 := bY.c 4 rfl
          have kM0 := bM.c 0 rfl
          have kM1 := bM.c 1 rfl
          have kM2 := bM.c 2 rfl
          have kM3 := bM.c 3 rfl
          have kM4 := bM.c 4 rfl
          have kM5 := bM.c 5 rfl
          have kM6 := bM.c 6 rfl
          have kM7 := bM.c 7 rfl
          have kM8 := bM.c 8 rfl
          have kM9 := bM.c 9 rfl
          have kM10 := bM.c 10 rfl
          have kN0 := bN.c 0 rfl
          have kN1 := bN.c 1 rfl
          have kN2 := bN.c 2 rfl
          have kN3 := bN.c 3 rfl
          have kN4 := bN.c 4 rfl
          have kN5 := bN.c 5 rfl
          have kN6 := bN.c 6 rfl
          have kN7 := bN.c 7 rfl
          have kN8 := bN.c 8 rfl
          have kN9 := bN.c 9 rfl
          have kN10 := bN.c 10 rfl
          go_wp2_with fail
          clear kP0 kP1 kP2 kP3 kQ0 kQ1 kQ2 kQ3 kX0 kX1 kX2 kX3 kX4 kY0 kY1 kY2 kY3 kY4 kM0 kM1 kM2 kM3 kM4 kM5 kM6 kM7 kM8 kM9 kM10 kN0 kN1 kN2 kN3 kN4 kN5 kN6 kN7 kN8 kN9 kN10
          refine (greets_any u _ (cell_keep B0 (World.block_lt_of_cell? W _ hu) hu) (cell_keep B0 (World.block_lt_of_cell? W _ hg) hg)).mono ?_
          rintro e w10 ⟨rfl, hb⟩
          replace bP := bP.keep hb
          replace bQ := bQ.keep hb
          replace bX := bX.keep hb
          replace bY := bY.keep hb
          replace bM := bM.keep hb
          replace bN := bN.keep hb
          replace B0 := below_step B0 hb
          clear hb
          go_wp2
          go_ret
          exact ⟨rfl, B0⟩
      · cases hq : l4B ba bi bp 1 aa ai
        · by_cases hless : bh < ah
          · have HA := Lib.hid ha
            have HB := Lib.hid hb
            have HS1 := Lib.hid (ses_zero ha)
            have HS2 := Lib.hid (ses_zero hb)
            have HP := Lib.hid hp
            have HQ := Lib.hid hq
            have HG := Lib.hid (show (cokB aa ai ah ap && cokB ba bi bh bp && (l4B aa ai ap 1 ba bi && l4B ba bi bp 1 aa ai)) = false by rw [ha, hb, hp, hq]; rfl)
            clear ha hb hp hq
            refine (greet_zero u _ (cell_keep B0 (World.block_lt_of_cell? W _ hu) hu) (cell_keep B0 (World.block_lt_of_cell? W _ hg) hg) HG).mono ?_
            rintro e w2 ⟨rfl, hb⟩
            replace bP := bP.keep hb
            replace bQ := bQ.keep hb
            replace B0 := below_step B0 hb
            clear hb
            have bX := Bl.new w2 [.int .i64 0, .int .i64 0, .int .i64 0, .int .i64 0, .int .i64 0] 28 (w2.heap.size) (by simp)
            replace bP := bP.alloc (.cells #[.int .i64 0, .int .i64 0, .int .i64 0, .int .i64 0, .int .i64 0] 28)
            replace bQ := bQ.alloc (.cells #[.int .i64 0, .int .i64 0, .int .i64 0, .int .i64 0, .int .i64 0] 28)
            replace B0 := B0.alloc B0.size (.cells #[.int .i64 0, .int .i64 0, .int .i64 0, .int .i64 0, .int .i64 0] 28)
            have bY := Bl.new (w2.alloc (.cells #[.int .i64 0, .int .i64 0, .int .i64 0, .int .i64 0, .int .i64 0] 28)) [.int .i64 0, .int .i64 0, .int .i64 0, .int .i64 0, .int .i64 0] 28 (w2.heap.size + 1) (by simp)
            replace bP := bP.alloc (.cells #[.int .i64 0, .int .i64 0, .int .i64 0, .int .i64 0, .int .i64 0] 28)
            replace bQ := bQ.alloc (.cells #[.int .i64 0, .int .i64 0, .int .i64 0, .int .i64 0, .int .i64 0] 28)
            replace bX := bX.alloc (.cells #[.int .i64 0, .int .i64 0, .int .i64 0, .int .i64 0, .int .i64 0] 28)
            replace B0 := B0.alloc B0.size (.cells #[.int .i64 0, .int .i64 0, .int .i64 0, .int .i64 0, .int .i64 0] 28)
            have kP0 := bP.c 0 rfl
            have kP1 := bP.c 1 rfl
            have kP2 := bP.c 2 rfl
            have kP3 := bP.c 3 rfl
            have kQ0 := bQ.c 0 rfl
            have kQ1 := bQ.c 1 rfl
            have kQ2 := bQ.c 2 rfl
            have kQ3 := bQ.c 3 rfl
            have kX0 := bX.c 0 rfl
            have kX1 := bX.c 1 rfl
            have kX2 := bX.c 2 rfl
            have kX3 := bX.c 3 rfl
            have kX4 := bX.c 4 rfl
            have kY0 := bY.c 0 rfl
            have kY1 := bY.c 1 rfl
            have kY2 := bY.c 2 rfl
            have kY3 := bY.c 3 rfl
            have kY4 := bY.c 4 rfl
            go_wp2_with fail
            clear kP0 kP1 kP2 kP3 kQ0 kQ1 kQ2 kQ3 kX0 kX1 kX2 kX3 kX4 kY0 kY1 kY2 kY3 kY4
            obtain ⟨Y, eY⟩ : ∃ Y, Y = (w2.heap.size + 1) := ⟨_, rfl⟩
            rw [← eY] at bY
            try rw [← eY]
            clear eY
            obtain ⟨X, eX⟩ : ∃ X, X = (w2.heap.size) := ⟨_, rfl⟩
            rw [← eX] at bX
            try rw [← eX]
            clear eX
            refine (scf_t _ HA).mono ?_
            rintro e w3 ⟨rfl, hb⟩
            replace bP := bP.keep hb
            replace bQ := bQ.keep hb
            replace bX := bX.keep hb
            replace bY := bY.keep hb
            replace B0 := below_step B0 hb
            clear hb
            have kP0 := bP.c 0 rfl
            have kP1 := bP.c 1 rfl
            have kP2 := bP.c 2 rfl
            have kP3 := bP.c 3 rfl
            have kQ0 := bQ.c 0 rfl
            have kQ1 := bQ.c 1 rfl
            have kQ2 := bQ.c 2 rfl
            have kQ3 := bQ.c 3 rfl
            have kX0 := bX.c 0 rfl
            have kX1 := bX.c 1 rfl
            have kX2 := bX.c 2 rfl
            have kX3 := bX.c 3 rfl
            have kX4 := bX.c 4 rfl
            have kY0 := bY.c 0 rfl
            have kY1 := bY.c 1 rfl
            have kY2 := bY.c 2 rfl
            have kY3 := bY.c 3 rfl
            have kY4 := bY.c 4 rfl
            go_wp2_with fail
            clear kP0 kP1 kP2 kP3 kQ0 kQ1 kQ2 kQ3 kX0 kX1 kX2 kX3 kX4 kY0 kY1 kY2 kY3 kY4
            refine (scf_t _ HB).mono ?_
            rintro e w4 ⟨rfl, hb⟩
            replace bP := bP.keep hb
            replace bQ := bQ.keep hb
            replace bX := bX.keep hb
            replace bY := bY.keep hb
            replace B0 := below_step B0 hb
            clear hb
            have kP0 := bP.c 0 rfl
            have kP1 := bP.c 1 rfl
            have kP2 := bP.c 2 rfl
            have kP3 := bP.c 3 rfl
            have kQ0 := bQ.c 0 rfl
            have kQ1 := bQ.c 1 rfl
            have kQ2 := bQ.c 2 rfl
            have kQ3 := bQ.c 3 rfl
            have kX0 := bX.c 0 rfl
            have kX1 := bX.c 1 rfl
            have kX2 := bX.c 2 rfl
            have kX3 := bX.c 3 rfl
            have kX4 := bX.c 4 rfl
            have kY0 := bY.c 0 rfl
            have kY1 := bY.c 1 rfl
            have kY2 := bY.c 2 rfl
            have kY3 := bY.c 3 rfl
            have kY4 := bY.c 4 rfl
            go_wp2_with fail
            clear kP0 kP1 kP2 kP3 kQ0 kQ1 kQ2 kQ3 kX0 kX1 kX2 kX3 kX4 kY0 kY1 kY2 kY3 kY4
            refine (open_t _ HA).mono ?_
            rintro e w5 ⟨rfl, hb⟩
            replace bP := bP.keep hb
            replace bQ := bQ.keep hb
            replace bX := bX.keep hb
            replace bY := bY.keep hb
            replace B0 := below_step B0 hb
            clear hb
            have bM := Bl.new w5 [.int .i64 1, .int .i64 aa, .int .i64 ah, .int .i64 ai, .slice none 0 0, .slice none 0 0, .slice none 0 0, .int .i64 0, .slice none 0 0, .int .i64 0, .int .i64 0] 38 (w5.heap.size) (by simp)
            replace bP := bP.alloc (.cells #[.int .i64 1, .int .i64 aa, .int .i64 ah, .int .i64 ai, .slice none 0 0, .slice none 0 0, .slice none 0 0, .int .i64 0, .slice none 0 0, .int .i64 0, .int .i64 0] 38)
            replace bQ := bQ.alloc (.cells #[.int .i64 1, .int .i64 aa, .int .i64 ah, .int .i64 ai, .slice none 0 0, .slice none 0 0, .slice none 0 0, .int .i64 0, .slice none 0 0, .int .i64 0, .int .i64 0] 38)
            replace bX := bX.alloc (.cells #[.int .i64 1, .int .i64 aa, .int .i64 ah, .int .i64 ai, .slice none 0 0, .slice none 0 0, .slice none 0 0, .int .i64 0, .slice none 0 0, .int .i64 0, .int .i64 0] 38)
            replace bY := bY.alloc (.cells #[.int .i64 1, .int .i64 aa, .int .i64 ah, .int .i64 ai, .slice none 0 0, .slice none 0 0, .slice none 0 0, .int .i64 0, .slice none 0 0, .int .i64 0, .int .i64 0] 38)
            replace B0 := B0.alloc B0.size (.cells #[.int .i64 1, .int .i64 aa, .int .i64 ah, .int .i64 ai, .slice none 0 0, .slice none 0 0, .slice none 0 0, .int .i64 0, .slice none 0 0, .int .i64 0, .int .i64 0] 38)
            have kP0 := bP.c 0 rfl
            have kP1 := bP.c 1 rfl
            have kP2 := bP.c 2 rfl
            have kP3 := bP.c 3 rfl
            have kQ0 := bQ.c 0 rfl
            have kQ1 := bQ.c 1 rfl
            have kQ2 := bQ.c 2 rfl
            have kQ3 := bQ.c 3 rfl
            have kX0 := bX.c 0 rfl
            have kX1 := bX.c 1 rfl
            have kX2 := bX.c 2 rfl
            have kX3 := bX.c 3 rfl
            have kX4 := bX.c 4 rfl
            have kY0 := bY.c 0 rfl
            have kY1 := bY.c 1 rfl
            have kY2 := bY.c 2 rfl
            have kY3 := bY.c 3 rfl
            have kY4 := bY.c 4 rfl
            have kM0 := bM.c 0 rfl
            have kM1 := bM.c 1 rfl
            have kM2 := bM.c 2 rfl
            have kM3 := bM.c 3 rfl
            have kM4 := bM.c 4 rfl
            have kM5 := bM.c 5 rfl
            have kM6 := bM.c 6 rfl
            have kM7 := bM.c 7 rfl
            have kM8 := bM.c 8 rfl
            have kM9 := bM.c 9 rfl
            have kM10 := bM.c 10 rfl
            go_wp2_with fail
            clear kP0 kP1 kP2 kP3 kQ0 kQ1 kQ2 kQ3 kX0 kX1 kX2 kX3 kX4 kY0 kY1 kY2 kY3 kY4 kM0 kM1 kM2 kM3 kM4 kM5 kM6 kM7 kM8 kM9 kM10
            obtain ⟨M, eM⟩ : ∃ M, M = (w5.heap.size) := ⟨_, rfl⟩
            rw [← eM] at bM
            try rw [← eM]
            clear eM
            refine (open_t _ HB).mono ?_
            rintro e w6 ⟨rfl, hb⟩
            replace bP := bP.keep hb
            replace bQ := bQ.keep hb
            replace bX := bX.keep hb
            replace bY := bY.keep hb
            replace bM := bM.keep hb
            replace B0 := below_step B0 hb
            clear hb
            have bN := Bl.new w6 [.int .i64 1, .int .i64 ba, .int .i64 bh, .int .i64 bi, .slice none 0 0, .slice none 0 0, .slice none 0 0, .int .i64 0, .slice none 0 0, .int .i64 0, .int .i64 0] 38 (w6.heap.size) (by simp)
            replace bP := bP.alloc (.cells #[.int .i64 1, .int .i64 ba, .int .i64 bh, .int .i64 bi, .slice none 0 0, .slice none 0 0, .slice none 0 0, .int .i64 0, .slice none 0 0, .int .i64 0, .int .i64 0] 38)
            replace bQ := bQ.alloc (.cells #[.int .i64 1, .int .i64 ba, .int .i64 bh, .int .i64 bi, .slice none 0 0, .slice none 0 0, .slice none 0 0, .int .i64 0, .slice none 0 0, .int .i64 0, .int .i64 0] 38)
            replace bX := bX.alloc (.cells #[.int .i64 1, .int .i64 ba, .int .i64 bh, .int .i64 bi, .slice none 0 0, .slice none 0 0, .slice none 0 0, .int .i64 0, .slice none 0 0, .int .i64 0, .int .i64 0] 38)
            replace bY := bY.alloc (.cells #[.int .i64 1, .int .i64 ba, .int .i64 bh, .int .i64 bi, .slice none 0 0, .slice none 0 0, .slice none 0 0, .int .i64 0, .slice none 0 0, .int .i64 0, .int .i64 0] 38)
            replace bM := bM.alloc (.cells #[.int .i64 1, .int .i64 ba, .int .i64 bh, .int .i64 bi, .slice none 0 0, .slice none 0 0, .slice none 0 0, .int .i64 0, .slice none 0 0, .int .i64 0, .int .i64 0] 38)
            replace B0 := B0.alloc B0.size (.cells #[.int .i64 1, .int .i64 ba, .int .i64 bh, .int .i64 bi, .slice none 0 0, .slice none 0 0, .slice none 0 0, .int .i64 0, .slice none 0 0, .int .i64 0, .int .i64 0] 38)
            have kP0 := bP.c 0 rfl
            have kP1 := bP.c 1 rfl
            have kP2 := bP.c 2 rfl
            have kP3 := bP.c 3 rfl
            have kQ0 := bQ.c 0 rfl
            have kQ1 := bQ.c 1 rfl
            have kQ2 := bQ.c 2 rfl
            have kQ3 := bQ.c 3 rfl
            have kX0 := bX.c 0 rfl
            have kX1 := bX.c 1 rfl
            have kX2 := bX.c 2 rfl
            have kX3 := bX.c 3 rfl
            have kX4 := bX.c 4 rfl
            have kY0 := bY.c 0 rfl
            have kY1 := bY.c 1 rfl
            have kY2 := bY.c 2 rfl
            have kY3 := bY.c 3 rfl
            have kY4 := bY.c 4 rfl
            have kM0 := bM.c 0 rfl
            have kM1 := bM.c 1 rfl
            have kM2 := bM.c 2 rfl
            have kM3 := bM.c 3 rfl
            have kM4 := bM.c 4 rfl
            have kM5 := bM.c 5 rfl
            have kM6 := bM.c 6 rfl
            have kM7 := bM.c 7 rfl
            have kM8 := bM.c 8 rfl
            have kM9 := bM.c 9 rfl
            have kM10 := bM.c 10 rfl
            have kN0 := bN.c 0 rfl
            have kN1 := bN.c 1 rfl
            have kN2 := bN.c 2 rfl
            have kN3 := bN.c 3 rfl
            have kN4 := bN.c 4 rfl
            have kN5 := bN.c 5 rfl
            have kN6 := bN.c 6 rfl
            have kN7 := bN.c 7 rfl
            have kN8 := bN.c 8 rfl
            have kN9 := bN.c 9 rfl
            have kN10 := bN.c 10 rfl
            go_wp2_with fail
            clear kP0 kP1 kP2 kP3 kQ0 kQ1 kQ2 kQ3 kX0 kX1 kX2 kX3 kX4 kY0 kY1 kY2 kY3 kY4 kM0 kM1 kM2 kM3 kM4 kM5 kM6 kM7 kM8 kM9 kM10 kN0 kN1 kN2 kN3 kN4 kN5 kN6 kN7 kN8 kN9 kN10
            obtain ⟨N, eN⟩ : ∃ N, N = (w6.heap.size) := ⟨_, rfl⟩
            rw [← eN] at bN
            try rw [← eN]
            clear eN
            refine (acc_t _ HA HB HP).mono ?_
            rintro e w7 ⟨rfl, hb⟩
            replace bP := bP.keep hb
            replace bQ := bQ.keep hb
            replace bX := bX.keep hb
            replace bY := bY.keep hb
            replace bM := bM.keep hb
            replace bN := bN.keep hb
            replace B0 := below_step B0 hb
            clear hb
            have kP0 := bP.c 0 rfl
            have kP1 := bP.c 1 rfl
            have kP2 := bP.c 2 rfl
            have kP3 := bP.c 3 rfl
            have kQ0 := bQ.c 0 rfl
            have kQ1 := bQ.c 1 rfl
            have kQ2 := bQ.c 2 rfl
            have kQ3 := bQ.c 3 rfl
            have kX0 := bX.c 0 rfl
            have kX1 := bX.c 1 rfl
            have kX2 := bX.c 2 rfl
            have kX3 := bX.c 3 rfl
            have kX4 := bX.c 4 rfl
            have kY0 := bY.c 0 rfl
            have kY1 := bY.c 1 rfl
            have kY2 := bY.c 2 rfl
            have kY3 := bY.c 3 rfl
            have kY4 := bY.c 4 rfl
            have kM0 := bM.c 0 rfl
            have kM1 := bM.c 1 rfl
            have kM2 := bM.c 2 rfl
            have kM3 := bM.c 3 rfl
            have kM4 := bM.c 4 rfl
            have kM5 := bM.c 5 rfl
            have kM6 := bM.c 6 rfl
            have kM7 := bM.c 7 rfl
            have kM8 := bM.c 8 rfl
            have kM9 := bM.c 9 rfl
            have kM10 := bM.c 10 rfl
            have kN0 := bN.c 0 rfl
            have kN1 := bN.c 1 rfl
            have kN2 := bN.c 2 rfl
            have kN3 := bN.c 3 rfl
            have kN4 := bN.c 4 rfl
            have kN5 := bN.c 5 rfl
            have kN6 := bN.c 6 rfl
            have kN7 := bN.c 7 rfl
            have kN8 := bN.c 8 rfl
            have kN9 := bN.c 9 rfl
            have kN10 := bN.c 10 rfl
            go_wp2_with fail
            clear kP0 kP1 kP2 kP3 kQ0 kQ1 kQ2 kQ3 kX0 kX1 kX2 kX3 kX4 kY0 kY1 kY2 kY3 kY4 kM0 kM1 kM2 kM3 kM4 kM5 kM6 kM7 kM8 kM9 kM10 kN0 kN1 kN2 kN3 kN4 kN5 kN6 kN7 kN8 kN9 kN10
            refine (acc_t _ HB HA HQ).mono ?_
            rintro e w8 ⟨rfl, hb⟩
            replace bP := bP.keep hb
            replace bQ := bQ.keep hb
            replace bX := bX.keep hb
            replace bY := bY.keep hb
            replace bM := bM.keep hb
            replace bN := bN.keep hb
            replace B0 := below_step B0 hb
            clear hb
            have kP0 := bP.c 0 rfl
            have kP1 := bP.c 1 rfl
            have kP2 := bP.c 2 rfl
            have kP3 := bP.c 3 rfl
            have kQ0 := bQ.c 0 rfl
            have kQ1 := bQ.c 1 rfl
            have kQ2 := bQ.c 2 rfl
            have kQ3 := bQ.c 3 rfl
            have kX0 := bX.c 0 rfl
            have kX1 := bX.c 1 rfl
            have kX2 := bX.c 2 rfl
            have kX3 := bX.c 3 rfl
            have kX4 := bX.c 4 rfl
            have kY0 := bY.c 0 rfl
            have kY1 := bY.c 1 rfl
            have kY2 := bY.c 2 rfl
            have kY3 := bY.c 3 rfl
            have kY4 := bY.c 4 rfl
            have kM0 := bM.c 0 rfl
            have kM1 := bM.c 1 rfl
            have kM2 := bM.c 2 rfl
            have kM3 := bM.c 3 rfl
            have kM4 := bM.c 4 rfl
            have kM5 := bM.c 5 rfl
            have kM6 := bM.c 6 rfl
            have kM7 := bM.c 7 rfl
            have kM8 := bM.c 8 rfl
            have kM9 := bM.c 9 rfl
            have kM10 := bM.c 10 rfl
            have kN0 := bN.c 0 rfl
            have kN1 := bN.c 1 rfl
            have kN2 := bN.c 2 rfl
            have kN3 := bN.c 3 rfl
            have kN4 := bN.c 4 rfl
            have kN5 := bN.c 5 rfl
            have kN6 := bN.c 6 rfl
            have kN7 := bN.c 7 rfl
            have kN8 := bN.c 8 rfl
            have kN9 := bN.c 9 rfl
            have kN10 := bN.c 10 rfl
            go_wp2_with fail
            clear kP0 kP1 kP2 kP3 kQ0 kQ1 kQ2 kQ3 kX0 kX1 kX2 kX3 kX4 kY0 kY1 kY2 kY3 kY4 kM0 kM1 kM2 kM3 kM4 kM5 kM6 kM7 kM8 kM9 kM10 kN0 kN1 kN2 kN3 kN4 kN5 kN6 kN7 kN8 kN9 kN10
            refine (ses_t _ HS1).mono ?_
            rintro e w9 ⟨rfl, hb⟩
            replace bP := bP.keep hb
            replace bQ := bQ.keep hb
            replace bX := bX.keep hb
            replace bY := bY.keep hb
            replace bM := bM.keep hb
            replace bN := bN.keep hb
            replace B0 := below_step B0 hb
            clear hb
            have kP0 := bP.c 0 rfl
            have kP1 := bP.c 1 rfl
            have kP2 := bP.c 2 rfl
            have kP3 := bP.c 3 rfl
            have kQ0 := bQ.c 0 rfl
            have kQ1 := bQ.c 1 rfl
            have kQ2 := bQ.c 2 rfl
            have kQ3 := bQ.c 3 rfl
            have kX0 := bX.c 0 rfl
            have kX1 := bX.c 1 rfl
            have kX2 := bX.c 2 rfl
            have kX3 := bX.c 3 rfl
            have kX4 := bX.c 4 rfl
            have kY0 := bY.c 0 rfl
            have kY1 := bY.c 1 rfl
            have kY2 := bY.c 2 rfl
            have kY3 := bY.c 3 rfl
            have kY4 := bY.c 4 rfl
            have kM0 := bM.c 0 rfl
            have kM1 := bM.c 1 rfl
            have kM2 := bM.c 2 rfl
            have kM3 := bM.c 3 rfl
            have kM4 := bM.c 4 rfl
            have kM5 := bM.c 5 rfl
            have kM6 := bM.c 6 rfl
            have kM7 := bM.c 7 rfl
            have kM8 := bM.c 8 rfl
            have kM9 := bM.c 9 rfl
            have kM10 := bM.c 10 rfl
            have kN0 := bN.c 0 rfl
            have kN1 := bN.c 1 rfl
            have kN2 := bN.c 2 rfl
            have kN3 := bN.c 3 rfl
            have kN4 := bN.c 4 rfl
            have kN5 := bN.c 5 rfl
            have kN6 := bN.c 6 rfl
            have kN7 := bN.c 7 rfl
            have kN8 := bN.c 8 rfl
            have kN9 := bN.c 9 rfl
            have kN10 := bN.c 10 rfl
            go_wp2_with fail
            clear kP0 kP1 kP2 kP3 kQ0 kQ1 kQ2 kQ3 kX0 kX1 kX2 kX3 kX4 kY0 kY1 kY2 kY3 kY4 kM0 kM1 kM2 kM3 kM4 kM5 kM6 kM7 kM8 kM9 kM10 kN0 kN1 kN2 kN3 kN4 kN5 kN6 kN7 kN8 kN9 kN10
            refine (ses_t _ HS2).mono ?_
            rintro e w10 ⟨rfl, hb⟩
            replace bP := bP.keep hb
            replace bQ := bQ.keep hb
            replace bX := bX.keep hb
            replace bY := bY.keep hb
            replace bM := bM.keep hb
            replace bN := bN.keep hb
            replace B0 := below_step B0 hb
            clear hb
            have kP0 := bP.c 0 rfl
            have kP1 := bP.c 1 rfl
            have kP2 := bP.c 2 rfl
            have kP3 := bP.c 3 rfl
            have kQ0 := bQ.c 0 rfl
            have kQ1 := bQ.c 1 rfl
            have kQ2 := bQ.c 2 rfl
            have kQ3 := bQ.c 3 rfl
            have kX0 := bX.c 0 rfl
            have kX1 := bX.c 1 rfl
            have kX2 := bX.c 2 rfl
            have kX3 := bX.c 3 rfl
            have kX4 := bX.c 4 rfl
            have kY0 := bY.c 0 rfl
            have kY1 := bY.c 1 rfl
            have kY2 := bY.c 2 rfl
            have kY3 := bY.c 3 rfl
            have kY4 := bY.c 4 rfl
            have kM0 := bM.c 0 rfl
            have kM1 := bM.c 1 rfl
            have kM2 := bM.c 2 rfl
            have kM3 := bM.c 3 rfl
            have kM4 := bM.c 4 rfl
            have kM5 := bM.c 5 rfl
            have kM6 := bM.c 6 rfl
            have kM7 := bM.c 7 rfl
            have kM8 := bM.c 8 rfl
            have kM9 := bM.c 9 rfl
            have kM10 := bM.c 10 rfl
            have kN0 := bN.c 0 rfl
            have kN1 := bN.c 1 rfl
            have kN2 := bN.c 2 rfl
            have kN3 := bN.c 3 rfl
            have kN4 := bN.c 4 rfl
            have kN5 := bN.c 5 rfl
            have kN6 := bN.c 6 rfl
            have kN7 := bN.c 7 rfl
            have kN8 := bN.c 8 rfl
            have kN9 := bN.c 9 rfl
            have kN10 := bN.c 10 rfl
            go_wp2_with fail
            clear kP0 kP1 kP2 kP3 kQ0 kQ1 kQ2 kQ3 kX0 kX1 kX2 kX3 kX4 kY0 kY1 kY2 kY3 kY4 kM0 kM1 kM2 kM3 kM4 kM5 kM6 kM7 kM8 kM9 kM10 kN0 kN1 kN2 kN3 kN4 kN5 kN6 kN7 kN8 kN9 kN10
            refine (greets_any u _ (cell_keep B0 (World.block_lt_of_cell? W _ hu) hu) (cell_keep B0 (World.block_lt_of_cell? W _ hg) hg)).mono ?_
            rintro e w11 ⟨rfl, hb⟩
            replace bP := bP.keep hb
            replace bQ := bQ.keep hb
            replace bX := bX.keep hb
            replace bY := bY.keep hb
            replace bM := bM.keep hb
            replace bN := bN.keep hb
            replace B0 := below_step B0 hb
            clear hb
            go_wp2
            go_ret
            exact ⟨rfl, B0⟩
          · have HA := Lib.hid ha
            have HB := Lib.hid hb
            have HS1 := Lib.hid (ses_zero ha)
            have HS2 := Lib.hid (ses_zero hb)
            have HP := Lib.hid hp
            have HQ := Lib.hid hq
            have HG := Lib.hid (show (cokB aa ai ah ap && cokB ba bi bh bp && (l4B aa ai ap 1 ba bi && l4B ba bi bp 1 aa ai)) = false by rw [ha, hb, hp, hq]; rfl)
            clear ha hb hp hq
            refine (greet_zero u _ (cell_keep B0 (World.block_lt_of_cell? W _ hu) hu) (cell_keep B0 (World.block_lt_of_cell? W _ hg) hg) HG).mono ?_
            rintro e w2 ⟨rfl, hb⟩
            replace bP := bP.keep hb
            replace bQ := bQ.keep hb
            replace B0 := below_step B0 hb
            clear hb
            have bX := Bl.new w2 [.int .i64 0, .int .i64 0, .int .i64 0, .int .i64 0, .int .i64 0] 28 (w2.heap.size) (by simp)
            replace bP := bP.alloc (.cells #[.int .i64 0, .int .i64 0, .int .i64 0, .int .i64 0, .int .i64 0] 28)
            replace bQ := bQ.alloc (.cells #[.int .i64 0, .int .i64 0, .int .i64 0, .int .i64 0, .int .i64 0] 28)
            replace B0 := B0.alloc B0.size (.cells #[.int .i64 0, .int .i64 0, .int .i64 0, .int .i64 0, .int .i64 0] 28)
            have bY := Bl.new (w2.alloc (.cells #[.int .i64 0, .int .i64 0, .int .i64 0, .int .i64 0, .int .i64 0] 28)) [.int .i64 0, .int .i64 0, .int .i64 0, .int .i64 0, .int .i64 0] 28 (w2.heap.size + 1) (by simp)
            replace bP := bP.alloc (.cells #[.int .i64 0, .int .i64 0, .int .i64 0, .int .i64 0, .int .i64 0] 28)
            replace bQ := bQ.alloc (.cells #[.int .i64 0, .int .i64 0, .int .i64 0, .int .i64 0, .int .i64 0] 28)
            replace bX := bX.alloc (.cells #[.int .i64 0, .int .i64 0, .int .i64 0, .int .i64 0, .int .i64 0] 28)
            replace B0 := B0.alloc B0.size (.cells #[.int .i64 0, .int .i64 0, .int .i64 0, .int .i64 0, .int .i64 0] 28)
            have kP0 := bP.c 0 rfl
            have kP1 := bP.c 1 rfl
            have kP2 := bP.c 2 rfl
            have kP3 := bP.c 3 rfl
            have kQ0 := bQ.c 0 rfl
            have kQ1 := bQ.c 1 rfl
            have kQ2 := bQ.c 2 rfl
            have kQ3 := bQ.c 3 rfl
            have kX0 := bX.c 0 rfl
            have kX1 := bX.c 1 rfl
            have kX2 := bX.c 2 rfl
            have kX3 := bX.c 3 rfl
            have kX4 := bX.c 4 rfl
            have kY0 := bY.c 0 rfl
            have kY1 := bY.c 1 rfl
            have kY2 := bY.c 2 rfl
            have kY3 := bY.c 3 rfl
            have kY4 := bY.c 4 rfl
            go_wp2_with fail
            clear kP0 kP1 kP2 kP3 kQ0 kQ1 kQ2 kQ3 kX0 kX1 kX2 kX3 kX4 kY0 kY1 kY2 kY3 kY4
            obtain ⟨Y, eY⟩ : ∃ Y, Y = (w2.heap.size + 1) := ⟨_, rfl⟩
            rw [← eY] at bY
            try rw [← eY]
            clear eY
            obtain ⟨X, eX⟩ : ∃ X, X = (w2.heap.size) := ⟨_, rfl⟩
            rw [← eX] at bX
            try rw [← eX]
            clear eX
            refine (scf_t _ HA).mono ?_
            rintro e w3 ⟨rfl, hb⟩
            replace bP := bP.keep hb
            replace bQ := bQ.keep hb
            replace bX := bX.keep hb
            replace bY := bY.keep hb
            replace B0 := below_step B0 hb
            clear hb
            have kP0 := bP.c 0 rfl
            have kP1 := bP.c 1 rfl
            have kP2 := bP.c 2 rfl
            have kP3 := bP.c 3 rfl
            have kQ0 := bQ.c 0 rfl
            have kQ1 := bQ.c 1 rfl
            have kQ2 := bQ.c 2 rfl
            have kQ3 := bQ.c 3 rfl
            have kX0 := bX.c 0 rfl
            have kX1 := bX.c 1 rfl
            have kX2 := bX.c 2 rfl
            have kX3 := bX.c 3 rfl
            have kX4 := bX.c 4 rfl
            have kY0 := bY.c 0 rfl
            have kY1 := bY.c 1 rfl
            have kY2 := bY.c 2 rfl
            have kY3 := bY.c 3 rfl
            have kY4 := bY.c 4 rfl
            go_wp2_with fail
            clear kP0 kP1 kP2 kP3 kQ0 kQ1 kQ2 kQ3 kX0 kX1 kX2 kX3 kX4 kY0 kY1 kY2 kY3 kY4
            refine (scf_t _ HB).mono ?_
            rintro e w4 ⟨rfl, hb⟩
            replace bP := bP.keep hb
            replace bQ := bQ.keep hb
            replace bX := bX.keep hb
            replace bY := bY.keep hb
            replace B0 := below_step B0 hb
            clear hb
            have kP0 := bP.c 0 rfl
            have kP1 := bP.c 1 rfl
            have kP2 := bP.c 2 rfl
            have kP3 := bP.c 3 rfl
            have kQ0 := bQ.c 0 rfl
            have kQ1 := bQ.c 1 rfl
            have kQ2 := bQ.c 2 rfl
            have kQ3 := bQ.c 3 rfl
            have kX0 := bX.c 0 rfl
            have kX1 := bX.c 1 rfl
            have kX2 := bX.c 2 rfl
            have kX3 := bX.c 3 rfl
            have kX4 := bX.c 4 rfl
            have kY0 := bY.c 0 rfl
            have kY1 := bY.c 1 rfl
            have kY2 := bY.c 2 rfl
            have kY3 := bY.c 3 rfl
            have kY4 := bY.c 4 rfl
            go_wp2_with fail
            clear kP0 kP1 kP2 kP3 kQ0 kQ1 kQ2 kQ3 kX0 kX1 kX2 kX3 kX4 kY0 kY1 kY2 kY3 kY4
            refine (open_t _ HA).mono ?_
            rintro e w5 ⟨rfl, hb⟩
            replace bP := bP.keep hb
            replace bQ := bQ.keep hb
            replace bX := bX.keep hb
            replace bY := bY.keep hb
            replace B0 := below_step B0 hb
            clear hb
            have bM := Bl.new w5 [.int .i64 1, .int .i64 aa, .int .i64 ah, .int .i64 ai, .slice none 0 0, .slice none 0 0, .slice none 0 0, .int .i64 0, .slice none 0 0, .int .i64 0, .int .i64 0] 38 (w5.heap.size) (by simp)
            replace bP := bP.alloc (.cells #[.int .i64 1, .int .i64 aa, .int .i64 ah, .int .i64 ai, .slice none 0 0, .slice none 0 0, .slice none 0 0, .int .i64 0, .slice none 0 0, .int .i64 0, .int .i64 0] 38)
            replace bQ := bQ.alloc (.cells #[.int .i64 1, .int .i64 aa, .int .i64 ah, .int .i64 ai, .slice none 0 0, .slice none 0 0, .slice none 0 0, .int .i64 0, .slice none 0 0, .int .i64 0, .int .i64 0] 38)
            replace bX := bX.alloc (.cells #[.int .i64 1, .int .i64 aa, .int .i64 ah, .int .i64 ai, .slice none 0 0, .slice none 0 0, .slice none 0 0, .int .i64 0, .slice none 0 0, .int .i64 0, .int .i64 0] 38)
            replace bY := bY.alloc (.cells #[.int .i64 1, .int .i64 aa, .int .i64 ah, .int .i64 ai, .slice none 0 0, .slice none 0 0, .slice none 0 0, .int .i64 0, .slice none 0 0, .int .i64 0, .int .i64 0] 38)
            replace B0 := B0.alloc B0.size (.cells #[.int .i64 1, .int .i64 aa, .int .i64 ah, .int .i64 ai, .slice none 0 0, .slice none 0 0, .slice none 0 0, .int .i64 0, .slice none 0 0, .int .i64 0, .int .i64 0] 38)
            have kP0 := bP.c 0 rfl
            have kP1 := bP.c 1 rfl
            have kP2 := bP.c 2 rfl
            have kP3 := bP.c 3 rfl
            have kQ0 := bQ.c 0 rfl
            have kQ1 := bQ.c 1 rfl
            have kQ2 := bQ.c 2 rfl
            have kQ3 := bQ.c 3 rfl
            have kX0 := bX.c 0 rfl
            have kX1 := bX.c 1 rfl
            have kX2 := bX.c 2 rfl
            have kX3 := bX.c 3 rfl
            have kX4 := bX.c 4 rfl
            have kY0 := bY.c 0 rfl
            have kY1 := bY.c 1 rfl
            have kY2 := bY.c 2 rfl
            have kY3 := bY.c 3 rfl
            have kY4 := bY.c 4 rfl
            have kM0 := bM.c 0 rfl
            have kM1 := bM.c 1 rfl
            have kM2 := bM.c 2 rfl
            have kM3 := bM.c 3 rfl
            have kM4 := bM.c 4 rfl
            have kM5 := bM.c 5 rfl
            have kM6 := bM.c 6 rfl
            have kM7 := bM.c 7 rfl
            have kM8 := bM.c 8 rfl
            have kM9 := bM.c 9 rfl
            have kM10 := bM.c 10 rfl
            go_wp2_with fail
            clear kP0 kP1 kP2 kP3 kQ0 kQ1 kQ2 kQ3 kX0 kX1 kX2 kX3 kX4 kY0 kY1 kY2 kY3 kY4 kM0 kM1 kM2 kM3 kM4 kM5 kM6 kM7 kM8 kM9 kM10
            obtain ⟨M, eM⟩ : ∃ M, M = (w5.heap.size) := ⟨_, rfl⟩
            rw [← eM] at bM
            try rw [← eM]
            clear eM
            refine (open_t _ HB).mono ?_
            rintro e w6 ⟨rfl, hb⟩
            replace bP := bP.keep hb
            replace bQ := bQ.keep hb
            replace bX := bX.keep hb
            replace bY := bY.keep hb
            replace bM := bM.keep hb
            replace B0 := below_step B0 hb
            clear hb
            have bN := Bl.new w6 [.int .i64 1, .int .i64 ba, .int .i64 bh, .int .i64 bi, .slice none 0 0, .slice none 0 0, .slice none 0 0, .int .i64 0, .slice none 0 0, .int .i64 0, .int .i64 0] 38 (w6.heap.size) (by simp)
            replace bP := bP.alloc (.cells #[.int .i64 1, .int .i64 ba, .int .i64 bh, .int .i64 bi, .slice none 0 0, .slice none 0 0, .slice none 0 0, .int .i64 0, .slice none 0 0, .int .i64 0, .int .i64 0] 38)
            replace bQ := bQ.alloc (.cells #[.int .i64 1, .int .i64 ba, .int .i64 bh, .int .i64 bi, .slice none 0 0, .slice none 0 0, .slice none 0 0, .int .i64 0, .slice none 0 0, .int .i64 0, .int .i64 0] 38)
            replace bX := bX.alloc (.cells #[.int .i64 1, .int .i64 ba, .int .i64 bh, .int .i64 bi, .slice none 0 0, .slice none 0 0, .slice none 0 0, .int .i64 0, .slice none 0 0, .int .i64 0, .int .i64 0] 38)
            replace bY := bY.alloc (.cells #[.int .i64 1, .int .i64 ba, .int .i64 bh, .int .i64 bi, .slice none 0 0, .slice none 0 0, .slice none 0 0, .int .i64 0, .slice none 0 0, .int .i64 0, .int .i64 0] 38)
            replace bM := bM.alloc (.cells #[.int .i64 1, .int .i64 ba, .int .i64 bh, .int .i64 bi, .slice none 0 0, .slice none 0 0, .slice none 0 0, .int .i64 0, .slice none 0 0, .int .i64 0, .int .i64 0] 38)
            replace B0 := B0.alloc B0.size (.cells #[.int .i64 1, .int .i64 ba, .int .i64 bh, .int .i64 bi, .slice none 0 0, .slice none 0 0, .slice none 0 0, .int .i64 0, .slice none 0 0, .int .i64 0, .int .i64 0] 38)
            have kP0 := bP.c 0 rfl
            have kP1 := bP.c 1 rfl
            have kP2 := bP.c 2 rfl
            have kP3 := bP.c 3 rfl
            have kQ0 := bQ.c 0 rfl
            have kQ1 := bQ.c 1 rfl
            have kQ2 := bQ.c 2 rfl
            have kQ3 := bQ.c 3 rfl
            have kX0 := bX.c 0 rfl
            have kX1 := bX.c 1 rfl
            have kX2 := bX.c 2 rfl
            have kX3 := bX.c 3 rfl
            have kX4 := bX.c 4 rfl
            have kY0 := bY.c 0 rfl
            have kY1 := bY.c 1 rfl
            have kY2 := bY.c 2 rfl
            have kY3 := bY.c 3 rfl
            have kY4 := bY.c 4 rfl
            have kM0 := bM.c 0 rfl
            have kM1 := bM.c 1 rfl
            have kM2 := bM.c 2 rfl
            have kM3 := bM.c 3 rfl
            have kM4 := bM.c 4 rfl
            have kM5 := bM.c 5 rfl
            have kM6 := bM.c 6 rfl
            have kM7 := bM.c 7 rfl
            have kM8 := bM.c 8 rfl
            have kM9 := bM.c 9 rfl
            have kM10 := bM.c 10 rfl
            have kN0 := bN.c 0 rfl
            have kN1 := bN.c 1 rfl
            have kN2 := bN.c 2 rfl
            have kN3 := bN.c 3 rfl
            have kN4 := bN.c 4 rfl
            have kN5 := bN.c 5 rfl
            have kN6 := bN.c 6 rfl
            have kN7 := bN.c 7 rfl
            have kN8 := bN.c 8 rfl
            have kN9 := bN.c 9 rfl
            have kN10 := bN.c 10 rfl
            go_wp2_with fail
            clear kP0 kP1 kP2 kP3 kQ0 kQ1 kQ2 kQ3 kX0 kX1 kX2 kX3 kX4 kY0 kY1 kY2 kY3 kY4 kM0 kM1 kM2 kM3 kM4 kM5 kM6 kM7 kM8 kM9 kM10 kN0 kN1 kN2 kN3 kN4 kN5 kN6 kN7 kN8 kN9 kN10
            obtain ⟨N, eN⟩ : ∃ N, N = (w6.heap.size) := ⟨_, rfl⟩
            rw [← eN] at bN
            try rw [← eN]
            clear eN
            refine (acc_t _ HA HB HP).mono ?_
            rintro e w7 ⟨rfl, hb⟩
            replace bP := bP.keep hb
            replace bQ := bQ.keep hb
            replace bX := bX.keep hb
            replace bY := bY.keep hb
            replace bM := bM.keep hb
            replace bN := bN.keep hb
            replace B0 := below_step B0 hb
            clear hb
            have kP0 := bP.c 0 rfl
            have kP1 := bP.c 1 rfl
            have kP2 := bP.c 2 rfl
            have kP3 := bP.c 3 rfl
            have kQ0 := bQ.c 0 rfl
            have kQ1 := bQ.c 1 rfl
            have kQ2 := bQ.c 2 rfl
            have kQ3 := bQ.c 3 rfl
            have kX0 := bX.c 0 rfl
            have kX1 := bX.c 1 rfl
            have kX2 := bX.c 2 rfl
            have kX3 := bX.c 3 rfl
            have kX4 := bX.c 4 rfl
            have kY0 := bY.c 0 rfl
            have kY1 := bY.c 1 rfl
            have kY2 := bY.c 2 rfl
            have kY3 := bY.c 3 rfl
            have kY4 := bY.c 4 rfl
            have kM0 := bM.c 0 rfl
            have kM1 := bM.c 1 rfl
            have kM2 := bM.c 2 rfl
            have kM3 := bM.c 3 rfl
            have kM4 := bM.c 4 rfl
            have kM5 := bM.c 5 rfl
            have kM6 := bM.c 6 rfl
            have kM7 := bM.c 7 rfl
            have kM8 := bM.c 8 rfl
            have kM9 := bM.c 9 rfl
            have kM10 := bM.c 10 rfl
            have kN0 := bN.c 0 rfl
            have kN1 := bN.c 1 rfl
            have kN2 := bN.c 2 rfl
            have kN3 := bN.c 3 rfl
            have kN4 := bN.c 4 rfl
            have kN5 := bN.c 5 rfl
            have kN6 := bN.c 6 rfl
            have kN7 := bN.c 7 rfl
            have kN8 := bN.c 8 rfl
            have kN9 := bN.c 9 rfl
            have kN10 := bN.c 10 rfl
            go_wp2_with fail
            clear kP0 kP1 kP2 kP3 kQ0 kQ1 kQ2 kQ3 kX0 kX1 kX2 kX3 kX4 kY0 kY1 kY2 kY3 kY4 kM0 kM1 kM2 kM3 kM4 kM5 kM6 kM7 kM8 kM9 kM10 kN0 kN1 kN2 kN3 kN4 kN5 kN6 kN7 kN8 kN9 kN10
            refine (acc_t _ HB HA HQ).mono ?_
            rintro e w8 ⟨rfl, hb⟩
            replace bP := bP.keep hb
            replace bQ := bQ.keep hb
            replace bX := bX.keep hb
            replace bY := bY.keep hb
            replace bM := bM.keep hb
            replace bN := bN.keep hb
            replace B0 := below_step B0 hb
            clear hb
            have kP0 := bP.c 0 rfl
            have kP1 := bP.c 1 rfl
            have kP2 := bP.c 2 rfl
            have kP3 := bP.c 3 rfl
            have kQ0 := bQ.c 0 rfl
            have kQ1 := bQ.c 1 rfl
            have kQ2 := bQ.c 2 rfl
            have kQ3 := bQ.c 3 rfl
            have kX0 := bX.c 0 rfl
            have kX1 := bX.c 1 rfl
            have kX2 := bX.c 2 rfl
            have kX3 := bX.c 3 rfl
            have kX4 := bX.c 4 rfl
            have kY0 := bY.c 0 rfl
            have kY1 := bY.c 1 rfl
            have kY2 := bY.c 2 rfl
            have kY3 := bY.c 3 rfl
            have kY4 := bY.c 4 rfl
            have kM0 := bM.c 0 rfl
            have kM1 := bM.c 1 rfl
            have kM2 := bM.c 2 rfl
            have kM3 := bM.c 3 rfl
            have kM4 := bM.c 4 rfl
            have kM5 := bM.c 5 rfl
            have kM6 := bM.c 6 rfl
            have kM7 := bM.c 7 rfl
            have kM8 := bM.c 8 rfl
            have kM9 := bM.c 9 rfl
            have kM10 := bM.c 10 rfl
            have kN0 := bN.c 0 rfl
            have kN1 := bN.c 1 rfl
            have kN2 := bN.c 2 rfl
            have kN3 := bN.c 3 rfl
            have kN4 := bN.c 4 rfl
            have kN5 := bN.c 5 rfl
            have kN6 := bN.c 6 rfl
            have kN7 := bN.c 7 rfl
            have kN8 := bN.c 8 rfl
            have kN9 := bN.c 9 rfl
            have kN10 := bN.c 10 rfl
            go_wp2_with fail
            clear kP0 kP1 kP2 kP3 kQ0 kQ1 kQ2 kQ3 kX0 kX1 kX2 kX3 kX4 kY0 kY1 kY2 kY3 kY4 kM0 kM1 kM2 kM3 kM4 kM5 kM6 kM7 kM8 kM9 kM10 kN0 kN1 kN2 kN3 kN4 kN5 kN6 kN7 kN8 kN9 kN10
            refine (ses_t _ HS1).mono ?_
            rintro e w9 ⟨rfl, hb⟩
            replace bP := bP.keep hb
            replace bQ := bQ.keep hb
            replace bX := bX.keep hb
            replace bY := bY.keep hb
            replace bM := bM.keep hb
            replace bN := bN.keep hb
            replace B0 := below_step B0 hb
            clear hb
            have kP0 := bP.c 0 rfl
            have kP1 := bP.c 1 rfl
            have kP2 := bP.c 2 rfl
            have kP3 := bP.c 3 rfl
            have kQ0 := bQ.c 0 rfl
            have kQ1 := bQ.c 1 rfl
            have kQ2 := bQ.c 2 rfl
            have kQ3 := bQ.c 3 rfl
            have kX0 := bX.c 0 rfl
            have kX1 := bX.c 1 rfl
            have kX2 := bX.c 2 rfl
            have kX3 := bX.c 3 rfl
            have kX4 := bX.c 4 rfl
            have kY0 := bY.c 0 rfl
            have kY1 := bY.c 1 rfl
            have kY2 := bY.c 2 rfl
            have kY3 := bY.c 3 rfl
            have kY4 := bY.c 4 rfl
            have kM0 := bM.c 0 rfl
            have kM1 := bM.c 1 rfl
            have kM2 := bM.c 2 rfl
            have kM3 := bM.c 3 rfl
            have kM4 := bM.c 4 rfl
            have kM5 := bM.c 5 rfl
            have kM6 := bM.c 6 rfl
            have kM7 := bM.c 7 rfl
            have kM8 := bM.c 8 rfl
            have kM9 := bM.c 9 rfl
            have kM10 := bM.c 10 rfl
            have kN0 := bN.c 0 rfl
            have kN1 := bN.c 1 rfl
            have kN2 := bN.c 2 rfl
            have kN3 := bN.c 3 rfl
            have kN4 := bN.c 4 rfl
            have kN5 := bN.c 5 rfl
            have kN6 := bN.c 6 rfl
            have kN7 := bN.c 7 rfl
            have kN8 := bN.c 8 rfl
            have kN9 := bN.c 9 rfl
            have kN10 := bN.c 10 rfl
            go_wp2_with fail
            clear kP0 kP1 kP2 kP3 kQ0 kQ1 kQ2 kQ3 kX0 kX1 kX2 kX3 kX4 kY0 kY1 kY2 kY3 kY4 kM0 kM1 kM2 kM3 kM4 kM5 kM6 kM7 kM8 kM9 kM10 kN0 kN1 kN2 kN3 kN4 kN5 kN6 kN7 kN8 kN9 kN10
            refine (ses_t _ HS2).mono ?_
            rintro e w10 ⟨rfl, hb⟩
            replace bP := bP.keep hb
            replace bQ := bQ.keep hb
            replace bX := bX.keep hb
            replace bY := bY.keep hb
            replace bM := bM.keep hb
            replace bN := bN.keep hb
            replace B0 := below_step B0 hb
            clear hb
            have kP0 := bP.c 0 rfl
            have kP1 := bP.c 1 rfl
            have kP2 := bP.c 2 rfl
            have kP3 := bP.c 3 rfl
            have kQ0 := bQ.c 0 rfl
            have kQ1 := bQ.c 1 rfl
            have kQ2 := bQ.c 2 rfl
            have kQ3 := bQ.c 3 rfl
            have kX0 := bX.c 0 rfl
            have kX1 := bX.c 1 rfl
            have kX2 := bX.c 2 rfl
            have kX3 := bX.c 3 rfl
            have kX4 := bX.c 4 rfl
            have kY0 := bY.c 0 rfl
            have kY1 := bY.c 1 rfl
            have kY2 := bY.c 2 rfl
            have kY3 := bY.c 3 rfl
            have kY4 := bY.c 4 rfl
            have kM0 := bM.c 0 rfl
            have kM1 := bM.c 1 rfl
            have kM2 := bM.c 2 rfl
            have kM3 := bM.c 3 rfl
            have kM4 := bM.c 4 rfl
            have kM5 := bM.c 5 rfl
            have kM6 := bM.c 6 rfl
            have kM7 := bM.c 7 rfl
            have kM8 := bM.c 8 rfl
            have kM9 := bM.c 9 rfl
            have kM10 := bM.c 10 rfl
            have kN0 := bN.c 0 rfl
            have kN1 := bN.c 1 rfl
            have kN2 := bN.c 2 rfl
            have kN3 := bN.c 3 rfl
            have kN4 := bN.c 4 rfl
            have kN5 := bN.c 5 rfl
            have kN6 := bN.c 6 rfl
            have kN7 := bN.c 7 rfl
            have kN8 := bN.c 8 rfl
            have kN9 := bN.c 9 rfl
            have kN10 := bN.c 10 rfl
            go_wp2_with fail
            clear kP0 kP1 kP2 kP3 kQ0 kQ1 kQ2 kQ3 kX0 kX1 kX2 kX3 kX4 kY0 kY1 kY2 kY3 kY4 kM0 kM1 kM2 kM3 kM4 kM5 kM6 kM7 kM8 kM9 kM10 kN0 kN1 kN2 kN3 kN4 kN5 kN6 kN7 kN8 kN9 kN10
            refine (greets_any u _ (cell_keep B0 (World.block_lt_of_cell? W _ hu) hu) (cell_keep B0 (World.block_lt_of_cell? W _ hg) hg)).mono ?_
            rintro e w11 ⟨rfl, hb⟩
            replace bP := bP.keep hb
            replace bQ := bQ.keep hb
            replace bX := bX.keep hb
            replace bY := bY.keep hb
            replace bM := bM.keep hb
            replace bN := bN.keep hb
            replace B0 := below_step B0 hb
            clear hb
            go_wp2
            go_ret
            exact ⟨rfl, B0⟩
        · have h3a := cokB_ho ha
          have h3b := cokB_ho hb
          by_cases hless : bh < ah
          · obtain ⟨k, hk⟩ : ∃ k, bh / 3 = k := ⟨_, rfl⟩
            have HA := Lib.hid ha
            have HB := Lib.hid hb
            have HP := Lib.hid hp
            have HQ := Lib.hid hq
            have HS1 := Lib.hid (ses_up (m := bh) (k := k) ha (cok_as hb) (by omega) hk.symm (l4_peer hp))
            have HS2 := Lib.hid (ses_up (m := bh) (k := k) hb (cok_as ha) (by omega) hk.symm (l4_peer hq))
            have HM := Lib.hid (show bh = (if ah ≤ bh then ah else bh) ∧ k = bh / 3 from ⟨by rw [if_neg (by omega)], hk.symm⟩)
            have HG := Lib.hid (show (cokB aa ai ah ap && cokB ba bi bh bp && (l4B aa ai ap 1 ba bi && l4B ba bi bp 1 aa ai)) = true by rw [ha, hb, hp, hq]; rfl)
            clear ha hb hp hq h3a h3b hk
            refine (greet_up u _ (cell_keep B0 (World.block_lt_of_cell? W _ hu) hu) (cell_keep B0 (World.block_lt_of_cell? W _ hg) hg) HG HM).mono ?_
            rintro e w2 ⟨rfl, hb⟩
            replace bP := bP.keep hb
            replace bQ := bQ.keep hb
            replace B0 := below_step B0 hb
            clear hb
            have bX := Bl.new w2 [.int .i64 4, .int .i64 bh, .int .i64 0, .int .i64 k, .int .i64 ba] 28 (w2.heap.size) (by simp)
            replace bP := bP.alloc (.cells #[.int .i64 4, .int .i64 bh, .int .i64 0, .int .i64 k, .int .i64 ba] 28)
            replace bQ := bQ.alloc (.cells #[.int .i64 4, .int .i64 bh, .int .i64 0, .int .i64 k, .int .i64 ba] 28)
            replace B0 := B0.alloc B0.size (.cells #[.int .i64 4, .int .i64 bh, .int .i64 0, .int .i64 k, .int .i64 ba] 28)
            have bY := Bl.new (w2.alloc (.cells #[.int .i64 4, .int .i64 bh, .int .i64 0, .int .i64 k, .int .i64 ba] 28)) [.int .i64 4, .int .i64 bh, .int .i64 0, .int .i64 k, .int .i64 aa] 28 (w2.heap.size + 1) (by simp)
            replace bP := bP.alloc (.cells #[.int .i64 4, .int .i64 bh, .int .i64 0, .int .i64 k, .int .i64 aa] 28)
            replace bQ := bQ.alloc (.cells #[.int .i64 4, .int .i64 bh, .int .i64 0, .int .i64 k, .int .i64 aa] 28)
            replace bX := bX.alloc (.cells #[.int .i64 4, .int .i64 bh, .int .i64 0, .int .i64 k, .int .i64 aa] 28)
            replace B0 := B0.alloc B0.size (.cells #[.int .i64 4, .int .i64 bh, .int .i64 0, .int .i64 k, .int .i64 aa] 28)
            have kP0 := bP.c 0 rfl
            have kP1 := bP.c 1 rfl
            have kP2 := bP.c 2 rfl
            have kP3 := bP.c 3 rfl
            have kQ0 := bQ.c 0 rfl
            have kQ1 := bQ.c 1 rfl
            have kQ2 := bQ.c 2 rfl
            have kQ3 := bQ.c 3 rfl
            have kX0 := bX.c 0 rfl
            have kX1 := bX.c 1 rfl
            have kX2 := bX.c 2 rfl
            have kX3 := bX.c 3 rfl
            have kX4 := bX.c 4 rfl
            have kY0 := bY.c 0 rfl
            have kY1 := bY.c 1 rfl
            have kY2 := bY.c 2 rfl
            have kY3 := bY.c 3 rfl
            have kY4 := bY.c 4 rfl
            go_wp2_with fail
            clear kP0 kP1 kP2 kP3 kQ0 kQ1 kQ2 kQ3 kX0 kX1 kX2 kX3 kX4 kY0 kY1 kY2 kY3 kY4
            obtain ⟨Y, eY⟩ : ∃ Y, Y = (w2.heap.size + 1) := ⟨_, rfl⟩
            rw [← eY] at bY
            try rw [← eY]
            clear eY
            obtain ⟨X, eX⟩ : ∃ X, X = (w2.heap.size) := ⟨_, rfl⟩
            rw [← eX] at bX
            try rw [← eX]
            clear eX
            refine (scf_t _ HA).mono ?_
            rintro e w3 ⟨rfl, hb⟩
            replace bP := bP.keep hb
            replace bQ := bQ.keep hb
            replace bX := bX.keep hb
            replace bY := bY.keep hb
            replace B0 := below_step B0 hb
            clear hb
            have kP0 := bP.c 0 rfl
            have kP1 := bP.c 1 rfl
            have kP2 := bP.c 2 rfl
            have kP3 := bP.c 3 rfl
            have kQ0 := bQ.c 0 rfl
            have kQ1 := bQ.c 1 rfl
            have kQ2 := bQ.c 2 rfl
            have kQ3 := bQ.c 3 rfl
            have kX0 := bX.c 0 rfl
            have kX1 := bX.c 1 rfl
            have kX2 := bX.c 2 rfl
            have kX3 := bX.c 3 rfl
            have kX4 := bX.c 4 rfl
            have kY0 := bY.c 0 rfl
            have kY1 := bY.c 1 rfl
            have kY2 := bY.c 2 rfl
            have kY3 := bY.c 3 rfl
            have kY4 := bY.c 4 rfl
            go_wp2_with fail
            clear kP0 kP1 kP2 kP3 kQ0 kQ1 kQ2 kQ3 kX0 kX1 kX2 kX3 kX4 kY0 kY1 kY2 kY3 kY4
            refine (scf_t _ HB).mono ?_
            rintro e w4 ⟨rfl, hb⟩
            replace bP := bP.keep hb
            replace bQ := bQ.keep hb
            replace bX := bX.keep hb
            replace bY := bY.keep hb
            replace B0 := below_step B0 hb
            clear hb
            have kP0 := bP.c 0 rfl
            have kP1 := bP.c 1 rfl
            have kP2 := bP.c 2 rfl
            have kP3 := bP.c 3 rfl
            have kQ0 := bQ.c 0 rfl
            have kQ1 := bQ.c 1 rfl
            have kQ2 := bQ.c 2 rfl
            have kQ3 := bQ.c 3 rfl
            have kX0 := bX.c 0 rfl
            have kX1 := bX.c 1 rfl
            have kX2 := bX.c 2 rfl
            have kX3 := bX.c 3 rfl
            have kX4 := bX.c 4 rfl
            have kY0 := bY.c 0 rfl
            have kY1 := bY.c 1 rfl
            have kY2 := bY.c 2 rfl
            have kY3 := bY.c 3 rfl
            have kY4 := bY.c 4 rfl
            go_wp2_with fail
            clear kP0 kP1 kP2 kP3 kQ0 kQ1 kQ2 kQ3 kX0 kX1 kX2 kX3 kX4 kY0 kY1 kY2 kY3 kY4
            refine (open_t _ HA).mono ?_
            rintro e w5 ⟨rfl, hb⟩
            replace bP := bP.keep hb
            replace bQ := bQ.keep hb
            replace bX := bX.keep hb
            replace bY := bY.keep hb
            replace B0 := below_step B0 hb
            clear hb
            have bM := Bl.new w5 [.int .i64 1, .int .i64 aa, .int .i64 ah, .int .i64 ai, .slice none 0 0, .slice none 0 0, .slice none 0 0, .int .i64 0, .slice none 0 0, .int .i64 0, .int .i64 0] 38 (w5.heap.size) (by simp)
            replace bP := bP.alloc (.cells #[.int .i64 1, .int .i64 aa, .int .i64 ah, .int .i64 ai, .slice none 0 0, .slice none 0 0, .slice none 0 0, .int .i64 0, .slice none 0 0, .int .i64 0, .int .i64 0] 38)
            replace bQ := bQ.alloc (.cells #[.int .i64 1, .int .i64 aa, .int .i64 ah, .int .i64 ai, .slice none 0 0, .slice none 0 0, .slice none 0 0, .int .i64 0, .slice none 0 0, .int .i64 0, .int .i64 0] 38)
            replace bX := bX.alloc (.cells #[.int .i64 1, .int .i64 aa, .int .i64 ah, .int .i64 ai, .slice none 0 0, .slice none 0 0, .slice none 0 0, .int .i64 0, .slice none 0 0, .int .i64 0, .int .i64 0] 38)
            replace bY := bY.alloc (.cells #[.int .i64 1, .int .i64 aa, .int .i64 ah, .int .i64 ai, .slice none 0 0, .slice none 0 0, .slice none 0 0, .int .i64 0, .slice none 0 0, .int .i64 0, .int .i64 0] 38)
            replace B0 := B0.alloc B0.size (.cells #[.int .i64 1, .int .i64 aa, .int .i64 ah, .int .i64 ai, .slice none 0 0, .slice none 0 0, .slice none 0 0, .int .i64 0, .slice none 0 0, .int .i64 0, .int .i64 0] 38)
            have kP0 := bP.c 0 rfl
            have kP1 := bP.c 1 rfl
            have kP2 := bP.c 2 rfl
            have kP3 := bP.c 3 rfl
            have kQ0 := bQ.c 0 rfl
            have kQ1 := bQ.c 1 rfl
            have kQ2 := bQ.c 2 rfl
            have kQ3 := bQ.c 3 rfl
            have kX0 := bX.c 0 rfl
            have kX1 := bX.c 1 rfl
            have kX2 := bX.c 2 rfl
            have kX3 := bX.c 3 rfl
            have kX4 := bX.c 4 rfl
            have kY0 := bY.c 0 rfl
            have kY1 := bY.c 1 rfl
            have kY2 := bY.c 2 rfl
            have kY3 := bY.c 3 rfl
            have kY4 := bY.c 4 rfl
            have kM0 := bM.c 0 rfl
            have kM1 := bM.c 1 rfl
            have kM2 := bM.c 2 rfl
            have kM3 := bM.c 3 rfl
            have kM4 := bM.c 4 rfl
            have kM5 := bM.c 5 rfl
            have kM6 := bM.c 6 rfl
            have kM7 := bM.c 7 rfl
            have kM8 := bM.c 8 rfl
            have kM9 := bM.c 9 rfl
            have kM10 := bM.c 10 rfl
            go_wp2_with fail
            clear kP0 kP1 kP2 kP3 kQ0 kQ1 kQ2 kQ3 kX0 kX1 kX2 kX3 kX4 kY0 kY1 kY2 kY3 kY4 kM0 kM1 kM2 kM3 kM4 kM5 kM6 kM7 kM8 kM9 kM10
            obtain ⟨M, eM⟩ : ∃ M, M = (w5.heap.size) := ⟨_, rfl⟩
            rw [← eM] at bM
            try rw [← eM]
            clear eM
            refine (open_t _ HB).mono ?_
            rintro e w6 ⟨rfl, hb⟩
            replace bP := bP.keep hb
            replace bQ := bQ.keep hb
            replace bX := bX.keep hb
            replace bY := bY.keep hb
            replace bM := bM.keep hb
            replace B0 := below_step B0 hb
            clear hb
            have bN := Bl.new w6 [.int .i64 1, .int .i64 ba, .int .i64 bh, .int .i64 bi, .slice none 0 0, .slice none 0 0, .slice none 0 0, .int .i64 0, .slice none 0 0, .int .i64 0, .int .i64 0] 38 (w6.heap.size) (by simp)
            replace bP := bP.alloc (.cells #[.int .i64 1, .int .i64 ba, .int .i64 bh, .int .i64 bi, .slice none 0 0, .slice none 0 0, .slice none 0 0, .int .i64 0, .slice none 0 0, .int .i64 0, .int .i64 0] 38)
            replace bQ := bQ.alloc (.cells #[.int .i64 1, .int .i64 ba, .int .i64 bh, .int .i64 bi, .slice none 0 0, .slice none 0 0, .slice none 0 0, .int .i64 0, .slice none 0 0, .int .i64 0, .int .i64 0] 38)
            replace bX := bX.alloc (.cells #[.int .i64 1, .int .i64 ba, .int .i64 bh, .int .i64 bi, .slice none 0 0, .slice none 0 0, .slice none 0 0, .int .i64 0, .slice none 0 0, .int .i64 0, .int .i64 0] 38)
            replace bY := bY.alloc (.cells #[.int .i64 1, .int .i64 ba, .int .i64 bh, .int .i64 bi, .slice none 0 0, .slice none 0 0, .slice none 0 0, .int .i64 0, .slice none 0 0, .int .i64 0, .int .i64 0] 38)
            replace bM := bM.alloc (.cells #[.int .i64 1, .int .i64 ba, .int .i64 bh, .int .i64 bi, .slice none 0 0, .slice none 0 0, .slice none 0 0, .int .i64 0, .slice none 0 0, .int .i64 0, .int .i64 0] 38)
            replace B0 := B0.alloc B0.size (.cells #[.int .i64 1, .int .i64 ba, .int .i64 bh, .int .i64 bi, .slice none 0 0, .slice none 0 0, .slice none 0 0, .int .i64 0, .slice none 0 0, .int .i64 0, .int .i64 0] 38)
            have kP0 := bP.c 0 rfl
            have kP1 := bP.c 1 rfl
            have kP2 := bP.c 2 rfl
            have kP3 := bP.c 3 rfl
            have kQ0 := bQ.c 0 rfl
            have kQ1 := bQ.c 1 rfl
            have kQ2 := bQ.c 2 rfl
            have kQ3 := bQ.c 3 rfl
            have kX0 := bX.c 0 rfl
            have kX1 := bX.c 1 rfl
            have kX2 := bX.c 2 rfl
            have kX3 := bX.c 3 rfl
            have kX4 := bX.c 4 rfl
            have kY0 := bY.c 0 rfl
            have kY1 := bY.c 1 rfl
            have kY2 := bY.c 2 rfl
            have kY3 := bY.c 3 rfl
            have kY4 := bY.c 4 rfl
            have kM0 := bM.c 0 rfl
            have kM1 := bM.c 1 rfl
            have kM2 := bM.c 2 rfl
            have kM3 := bM.c 3 rfl
            have kM4 := bM.c 4 rfl
            have kM5 := bM.c 5 rfl
            have kM6 := bM.c 6 rfl
            have kM7 := bM.c 7 rfl
            have kM8 := bM.c 8 rfl
            have kM9 := bM.c 9 rfl
            have kM10 := bM.c 10 rfl
            have kN0 := bN.c 0 rfl
            have kN1 := bN.c 1 rfl
            have kN2 := bN.c 2 rfl
            have kN3 := bN.c 3 rfl
            have kN4 := bN.c 4 rfl
            have kN5 := bN.c 5 rfl
            have kN6 := bN.c 6 rfl
            have kN7 := bN.c 7 rfl
            have kN8 := bN.c 8 rfl
            have kN9 := bN.c 9 rfl
            have kN10 := bN.c 10 rfl
            go_wp2_with fail
            clear kP0 kP1 kP2 kP3 kQ0 kQ1 kQ2 kQ3 kX0 kX1 kX2 kX3 kX4 kY0 kY1 kY2 kY3 kY4 kM0 kM1 kM2 kM3 kM4 kM5 kM6 kM7 kM8 kM9 kM10 kN0 kN1 kN2 kN3 kN4 kN5 kN6 kN7 kN8 kN9 kN10
            obtain ⟨N, eN⟩ : ∃ N, N = (w6.heap.size) := ⟨_, rfl⟩
            rw [← eN] at bN
            try rw [← eN]
            clear eN
            refine (acc_t _ HA HB HP).mono ?_
            rintro e w7 ⟨rfl, hb⟩
            replace bP := bP.keep hb
            replace bQ := bQ.keep hb
            replace bX := bX.keep hb
            replace bY := bY.keep hb
            replace bM := bM.keep hb
            replace bN := bN.keep hb
            replace B0 := below_step B0 hb
            clear hb
            have kP0 := bP.c 0 rfl
            have kP1 := bP.c 1 rfl
            have kP2 := bP.c 2 rfl
            have kP3 := bP.c 3 rfl
            have kQ0 := bQ.c 0 rfl
            have kQ1 := bQ.c 1 rfl
            have kQ2 := bQ.c 2 rfl
            have kQ3 := bQ.c 3 rfl
            have kX0 := bX.c 0 rfl
            have kX1 := bX.c 1 rfl
            have kX2 := bX.c 2 rfl
            have kX3 := bX.c 3 rfl
            have kX4 := bX.c 4 rfl
            have kY0 := bY.c 0 rfl
            have kY1 := bY.c 1 rfl
            have kY2 := bY.c 2 rfl
            have kY3 := bY.c 3 rfl
            have kY4 := bY.c 4 rfl
            have kM0 := bM.c 0 rfl
            have kM1 := bM.c 1 rfl
            have kM2 := bM.c 2 rfl
            have kM3 := bM.c 3 rfl
            have kM4 := bM.c 4 rfl
            have kM5 := bM.c 5 rfl
            have kM6 := bM.c 6 rfl
            have kM7 := bM.c 7 rfl
            have kM8 := bM.c 8 rfl
            have kM9 := bM.c 9 rfl
            have kM10 := bM.c 10 rfl
            have kN0 := bN.c 0 rfl
            have kN1 := bN.c 1 rfl
            have kN2 := bN.c 2 rfl
            have kN3 := bN.c 3 rfl
            have kN4 := bN.c 4 rfl
            have kN5 := bN.c 5 rfl
            have kN6 := bN.c 6 rfl
            have kN7 := bN.c 7 rfl
            have kN8 := bN.c 8 rfl
            have kN9 := bN.c 9 rfl
            have kN10 := bN.c 10 rfl
            go_wp2_with fail
            clear kP0 kP1 kP2 kP3 kQ0 kQ1 kQ2 kQ3 kX0 kX1 kX2 kX3 kX4 kY0 kY1 kY2 kY3 kY4 kM0 kM1 kM2 kM3 kM4 kM5 kM6 kM7 kM8 kM9 kM10 kN0 kN1 kN2 kN3 kN4 kN5 kN6 kN7 kN8 kN9 kN10
            refine (acc_t _ HB HA HQ).mono ?_
            rintro e w8 ⟨rfl, hb⟩
            replace bP := bP.keep hb
            replace bQ := bQ.keep hb
            replace bX := bX.keep hb
            replace bY := bY.keep hb
            replace bM := bM.keep hb
            replace bN := bN.keep hb
            replace B0 := below_step B0 hb
            clear hb
            have kP0 := bP.c 0 rfl
            have kP1 := bP.c 1 rfl
            have kP2 := bP.c 2 rfl
            have kP3 := bP.c 3 rfl
            have kQ0 := bQ.c 0 rfl
            have kQ1 := bQ.c 1 rfl
            have kQ2 := bQ.c 2 rfl
            have kQ3 := bQ.c 3 rfl
            have kX0 := bX.c 0 rfl
            have kX1 := bX.c 1 rfl
            have kX2 := bX.c 2 rfl
            have kX3 := bX.c 3 rfl
            have kX4 := bX.c 4 rfl
            have kY0 := bY.c 0 rfl
            have kY1 := bY.c 1 rfl
            have kY2 := bY.c 2 rfl
            have kY3 := bY.c 3 rfl
            have kY4 := bY.c 4 rfl
            have kM0 := bM.c 0 rfl
            have kM1 := bM.c 1 rfl
            have kM2 := bM.c 2 rfl
            have kM3 := bM.c 3 rfl
            have kM4 := bM.c 4 rfl
            have kM5 := bM.c 5 rfl
            have kM6 := bM.c 6 rfl
            have kM7 := bM.c 7 rfl
            have kM8 := bM.c 8 rfl
            have kM9 := bM.c 9 rfl
            have kM10 := bM.c 10 rfl
            have kN0 := bN.c 0 rfl
            have kN1 := bN.c 1 rfl
            have kN2 := bN.c 2 rfl
            have kN3 := bN.c 3 rfl
            have kN4 := bN.c 4 rfl
            have kN5 := bN.c 5 rfl
            have kN6 := bN.c 6 rfl
            have kN7 := bN.c 7 rfl
            have kN8 := bN.c 8 rfl
            have kN9 := bN.c 9 rfl
            have kN10 := bN.c 10 rfl
            go_wp2_with fail
            clear kP0 kP1 kP2 kP3 kQ0 kQ1 kQ2 kQ3 kX0 kX1 kX2 kX3 kX4 kY0 kY1 kY2 kY3 kY4 kM0 kM1 kM2 kM3 kM4 kM5 kM6 kM7 kM8 kM9 kM10 kN0 kN1 kN2 kN3 kN4 kN5 kN6 kN7 kN8 kN9 kN10
            refine (ses_t _ HS1).mono ?_
            rintro e w9 ⟨rfl, hb⟩
            replace bP := bP.keep hb
            replace bQ := bQ.keep hb
            replace bX := bX.keep hb
            replace bY := bY.keep hb
            replace bM := bM.keep hb
            replace bN := bN.keep hb
            replace B0 := below_step B0 hb
            clear hb
            have kP0 := bP.c 0 rfl
            have kP1 := bP.c 1 rfl
            have kP2 := bP.c 2 rfl
            have kP3 := bP.c 3 rfl
            have kQ0 := bQ.c 0 rfl
            have kQ1 := bQ.c 1 rfl
            have kQ2 := bQ.c 2 rfl
            have kQ3 := bQ.c 3 rfl
            have kX0 := bX.c 0 rfl
            have kX1 := bX.c 1 rfl
            have kX2 := bX.c 2 rfl
            have kX3 := bX.c 3 rfl
            have kX4 := bX.c 4 rfl
            have kY0 := bY.c 0 rfl
            have kY1 := bY.c 1 rfl
            have kY2 := bY.c 2 rfl
            have kY3 := bY.c 3 rfl
            have kY4 := bY.c 4 rfl
            have kM0 := bM.c 0 rfl
            have kM1 := bM.c 1 rfl
            have kM2 := bM.c 2 rfl
            have kM3 := bM.c 3 rfl
            have kM4 := bM.c 4 rfl
            have kM5 := bM.c 5 rfl
            have kM6 := bM.c 6 rfl
            have kM7 := bM.c 7 rfl
            have kM8 := bM.c 8 rfl
            have kM9 := bM.c 9 rfl
            have kM10 := bM.c 10 rfl
            have kN0 := bN.c 0 rfl
            have kN1 := bN.c 1 rfl
            have kN2 := bN.c 2 rfl
            have kN3 := bN.c 3 rfl
            have kN4 := bN.c 4 rfl
            have kN5 := bN.c 5 rfl
            have kN6 := bN.c 6 rfl
            have kN7 := bN.c 7 rfl
            have kN8 := bN.c 8 rfl
            have kN9 := bN.c 9 rfl
            have kN10 := bN.c 10 rfl
            go_wp2_with fail
            clear kP0 kP1 kP2 kP3 kQ0 kQ1 kQ2 kQ3 kX0 kX1 kX2 kX3 kX4 kY0 kY1 kY2 kY3 kY4 kM0 kM1 kM2 kM3 kM4 kM5 kM6 kM7 kM8 kM9 kM10 kN0 kN1 kN2 kN3 kN4 kN5 kN6 kN7 kN8 kN9 kN10
            refine (ses_t _ HS2).mono ?_
            rintro e w10 ⟨rfl, hb⟩
            replace bP := bP.keep hb
            replace bQ := bQ.keep hb
            replace bX := bX.keep hb
            replace bY := bY.keep hb
            replace bM := bM.keep hb
            replace bN := bN.keep hb
            replace B0 := below_step B0 hb
            clear hb
            have kP0 := bP.c 0 rfl
            have kP1 := bP.c 1 rfl
            have kP2 := bP.c 2 rfl
            have kP3 := bP.c 3 rfl
            have kQ0 := bQ.c 0 rfl
            have kQ1 := bQ.c 1 rfl
            have kQ2 := bQ.c 2 rfl
            have kQ3 := bQ.c 3 rfl
            have kX0 := bX.c 0 rfl
            have kX1 := bX.c 1 rfl
            have kX2 := bX.c 2 rfl
            have kX3 := bX.c 3 rfl
            have kX4 := bX.c 4 rfl
            have kY0 := bY.c 0 rfl
            have kY1 := bY.c 1 rfl
            have kY2 := bY.c 2 rfl
            have kY3 := bY.c 3 rfl
            have kY4 := bY.c 4 rfl
            have kM0 := bM.c 0 rfl
            have kM1 := bM.c 1 rfl
            have kM2 := bM.c 2 rfl
            have kM3 := bM.c 3 rfl
            have kM4 := bM.c 4 rfl
            have kM5 := bM.c 5 rfl
            have kM6 := bM.c 6 rfl
            have kM7 := bM.c 7 rfl
            have kM8 := bM.c 8 rfl
            have kM9 := bM.c 9 rfl
            have kM10 := bM.c 10 rfl
            have kN0 := bN.c 0 rfl
            have kN1 := bN.c 1 rfl
            have kN2 := bN.c 2 rfl
            have kN3 := bN.c 3 rfl
            have kN4 := bN.c 4 rfl
            have kN5 := bN.c 5 rfl
            have kN6 := bN.c 6 rfl
            have kN7 := bN.c 7 rfl
            have kN8 := bN.c 8 rfl
            have kN9 := bN.c 9 rfl
            have kN10 := bN.c 10 rfl
            go_wp2_with fail
            clear kP0 kP1 kP2 kP3 kQ0 kQ1 kQ2 kQ3 kX0 kX1 kX2 kX3 kX4 kY0 kY1 kY2 kY3 kY4 kM0 kM1 kM2 kM3 kM4 kM5 kM6 kM7 kM8 kM9 kM10 kN0 kN1 kN2 kN3 kN4 kN5 kN6 kN7 kN8 kN9 kN10
            refine (greets_any u _ (cell_keep B0 (World.block_lt_of_cell? W _ hu) hu) (cell_keep B0 (World.block_lt_of_cell? W _ hg) hg)).mono ?_
            rintro e w11 ⟨rfl, hb⟩
            replace bP := bP.keep hb
            replace bQ := bQ.keep hb
            replace bX := bX.keep hb
            replace bY := bY.keep hb
            replace bM := bM.keep hb
            replace bN := bN.keep hb
            replace B0 := below_step B0 hb
            clear hb
            go_wp2
            go_ret
            exact ⟨rfl, B0⟩
          · obtain ⟨k, hk⟩ : ∃ k, ah / 3 = k := ⟨_, rfl⟩
            have HA := Lib.hid ha
            have HB := Lib.hid hb
            have HP := Lib.hid hp
            have HQ := Lib.hid hq
            have HS1 := Lib.hid (ses_up (m := ah) (k := k) ha (cok_as hb) (by omega) hk.symm (l4_peer hp))
            have HS2 := Lib.hid (ses_up (m := ah) (k := k) hb (cok_as ha) (by omega) hk.symm (l4_peer hq))
            have HM := Lib.hid (show ah = (if ah ≤ bh then ah else bh) ∧ k = ah / 3 from ⟨by rw [if_pos (by omega)], hk.symm⟩)
            have HG := Lib.hid (show (cokB aa ai ah ap && cokB ba bi bh bp && (l4B aa ai ap 1 ba bi && l4B ba bi bp 1 aa ai)) = true by rw [ha, hb, hp, hq]; rfl)
            clear ha hb hp hq h3a h3b hk
            refine (greet_up u _ (cell_keep B0 (World.block_lt_of_cell? W _ hu) hu) (cell_keep B0 (World.block_lt_of_cell? W _ hg) hg) HG HM).mono ?_
            rintro e w2 ⟨rfl, hb⟩
            replace bP := bP.keep hb
            replace bQ := bQ.keep hb
            replace B0 := below_step B0 hb
            clear hb
            have bX := Bl.new w2 [.int .i64 4, .int .i64 ah, .int .i64 0, .int .i64 k, .int .i64 ba] 28 (w2.heap.size) (by simp)
            replace bP := bP.alloc (.cells #[.int .i64 4, .int .i64 ah, .int .i64 0, .int .i64 k, .int .i64 ba] 28)
            replace bQ := bQ.alloc (.cells #[.int .i64 4, .int .i64 ah, .int .i64 0, .int .i64 k, .int .i64 ba] 28)
            replace B0 := B0.alloc B0.size (.cells #[.int .i64 4, .int .i64 ah, .int .i64 0, .int .i64 k, .int .i64 ba] 28)
            have bY := Bl.new (w2.alloc (.cells #[.int .i64 4, .int .i64 ah, .int .i64 0, .int .i64 k, .int .i64 ba] 28)) [.int .i64 4, .int .i64 ah, .int .i64 0, .int .i64 k, .int .i64 aa] 28 (w2.heap.size + 1) (by simp)
            replace bP := bP.alloc (.cells #[.int .i64 4, .int .i64 ah, .int .i64 0, .int .i64 k, .int .i64 aa] 28)
            replace bQ := bQ.alloc (.cells #[.int .i64 4, .int .i64 ah, .int .i64 0, .int .i64 k, .int .i64 aa] 28)
            replace bX := bX.alloc (.cells #[.int .i64 4, .int .i64 ah, .int .i64 0, .int .i64 k, .int .i64 aa] 28)
            replace B0 := B0.alloc B0.size (.cells #[.int .i64 4, .int .i64 ah, .int .i64 0, .int .i64 k, .int .i64 aa] 28)
            have kP0 := bP.c 0 rfl
            have kP1 := bP.c 1 rfl
            have kP2 := bP.c 2 rfl
            have kP3 := bP.c 3 rfl
            have kQ0 := bQ.c 0 rfl
            have kQ1 := bQ.c 1 rfl
            have kQ2 := bQ.c 2 rfl
            have kQ3 := bQ.c 3 rfl
            have kX0 := bX.c 0 rfl
            have kX1 := bX.c 1 rfl
            have kX2 := bX.c 2 rfl
            have kX3 := bX.c 3 rfl
            have kX4 := bX.c 4 rfl
            have kY0 := bY.c 0 rfl
            have kY1 := bY.c 1 rfl
            have kY2 := bY.c 2 rfl
            have kY3 := bY.c 3 rfl
            have kY4 := bY.c 4 rfl
            go_wp2_with fail
            clear kP0 kP1 kP2 kP3 kQ0 kQ1 kQ2 kQ3 kX0 kX1 kX2 kX3 kX4 kY0 kY1 kY2 kY3 kY4
            obtain ⟨Y, eY⟩ : ∃ Y, Y = (w2.heap.size + 1) := ⟨_, rfl⟩
            rw [← eY] at bY
            try rw [← eY]
            clear eY
            obtain ⟨X, eX⟩ : ∃ X, X = (w2.heap.size) := ⟨_, rfl⟩
            rw [← eX] at bX
            try rw [← eX]
            clear eX
            refine (scf_t _ HA).mono ?_
            rintro e w3 ⟨rfl, hb⟩
            replace bP := bP.keep hb
            replace bQ := bQ.keep hb
            replace bX := bX.keep hb
            replace bY := bY.keep hb
            replace B0 := below_step B0 hb
            clear hb
            have kP0 := bP.c 0 rfl
            have kP1 := bP.c 1 rfl
            have kP2 := bP.c 2 rfl
            have kP3 := bP.c 3 rfl
            have kQ0 := bQ.c 0 rfl
            have kQ1 := bQ.c 1 rfl
            have kQ2 := bQ.c 2 rfl
            have kQ3 := bQ.c 3 rfl
            have kX0 := bX.c 0 rfl
            have kX1 := bX.c 1 rfl
            have kX2 := bX.c 2 rfl
            have kX3 := bX.c 3 rfl
            have kX4 := bX.c 4 rfl
            have kY0 := bY.c 0 rfl
            have kY1 := bY.c 1 rfl
            have kY2 := bY.c 2 rfl
            have kY3 := bY.c 3 rfl
            have kY4 := bY.c 4 rfl
            go_wp2_with fail
            clear kP0 kP1 kP2 kP3 kQ0 kQ1 kQ2 kQ3 kX0 kX1 kX2 kX3 kX4 kY0 kY1 kY2 kY3 kY4
            refine (scf_t _ HB).mono ?_
            rintro e w4 ⟨rfl, hb⟩
            replace bP := bP.keep hb
            replace bQ := bQ.keep hb
            replace bX := bX.keep hb
            replace bY := bY.keep hb
            replace B0 := below_step B0 hb
            clear hb
            have kP0 := bP.c 0 rfl
            have kP1 := bP.c 1 rfl
            have kP2 := bP.c 2 rfl
            have kP3 := bP.c 3 rfl
            have kQ0 := bQ.c 0 rfl
            have kQ1 := bQ.c 1 rfl
            have kQ2 := bQ.c 2 rfl
            have kQ3 := bQ.c 3 rfl
            have kX0 := bX.c 0 rfl
            have kX1 := bX.c 1 rfl
            have kX2 := bX.c 2 rfl
            have kX3 := bX.c 3 rfl
            have kX4 := bX.c 4 rfl
            have kY0 := bY.c 0 rfl
            have kY1 := bY.c 1 rfl
            have kY2 := bY.c 2 rfl
            have kY3 := bY.c 3 rfl
            have kY4 := bY.c 4 rfl
            go_wp2_with fail
            clear kP0 kP1 kP2 kP3 kQ0 kQ1 kQ2 kQ3 kX0 kX1 kX2 kX3 kX4 kY0 kY1 kY2 kY3 kY4
            refine (open_t _ HA).mono ?_
            rintro e w5 ⟨rfl, hb⟩
            replace bP := bP.keep hb
            replace bQ := bQ.keep hb
            replace bX := bX.keep hb
            replace bY := bY.keep hb
            replace B0 := below_step B0 hb
            clear hb
            have bM := Bl.new w5 [.int .i64 1, .int .i64 aa, .int .i64 ah, .int .i64 ai, .slice none 0 0, .slice none 0 0, .slice none 0 0, .int .i64 0, .slice none 0 0, .int .i64 0, .int .i64 0] 38 (w5.heap.size) (by simp)
            replace bP := bP.alloc (.cells #[.int .i64 1, .int .i64 aa, .int .i64 ah, .int .i64 ai, .slice none 0 0, .slice none 0 0, .slice none 0 0, .int .i64 0, .slice none 0 0, .int .i64 0, .int .i64 0] 38)
            replace bQ := bQ.alloc (.cells #[.int .i64 1, .int .i64 aa, .int .i64 ah, .int .i64 ai, .slice none 0 0, .slice none 0 0, .slice none 0 0, .int .i64 0, .slice none 0 0, .int .i64 0, .int .i64 0] 38)
            replace bX := bX.alloc (.cells #[.int .i64 1, .int .i64 aa, .int .i64 ah, .int .i64 ai, .slice none 0 0, .slice none 0 0, .slice none 0 0, .int .i64 0, .slice none 0 0, .int .i64 0, .int .i64 0] 38)
            replace bY := bY.alloc (.cells #[.int .i64 1, .int .i64 aa, .int .i64 ah, .int .i64 ai, .slice none 0 0, .slice none 0 0, .slice none 0 0, .int .i64 0, .slice none 0 0, .int .i64 0, .int .i64 0] 38)
            replace B0 := B0.alloc B0.size (.cells #[.int .i64 1, .int .i64 aa, .int .i64 ah, .int .i64 ai, .slice none 0 0, .slice none 0 0, .slice none 0 0, .int .i64 0, .slice none 0 0, .int .i64 0, .int .i64 0] 38)
            have kP0 := bP.c 0 rfl
            have kP1 := bP.c 1 rfl
            have kP2 := bP.c 2 rfl
            have kP3 := bP.c 3 rfl
            have kQ0 := bQ.c 0 rfl
            have kQ1 := bQ.c 1 rfl
            have kQ2 := bQ.c 2 rfl
            have kQ3 := bQ.c 3 rfl
            have kX0 := bX.c 0 rfl
            have kX1 := bX.c 1 rfl
            have kX2 := bX.c 2 rfl
            have kX3 := bX.c 3 rfl
            have kX4 := bX.c 4 rfl
            have kY0 := bY.c 0 rfl
            have kY1 := bY.c 1 rfl
            have kY2 := bY.c 2 rfl
            have kY3 := bY.c 3 rfl
            have kY4 := bY.c 4 rfl
            have kM0 := bM.c 0 rfl
            have kM1 := bM.c 1 rfl
            have kM2 := bM.c 2 rfl
            have kM3 := bM.c 3 rfl
            have kM4 := bM.c 4 rfl
            have kM5 := bM.c 5 rfl
            have kM6 := bM.c 6 rfl
            have kM7 := bM.c 7 rfl
            have kM8 := bM.c 8 rfl
            have kM9 := bM.c 9 rfl
            have kM10 := bM.c 10 rfl
            go_wp2_with fail
            clear kP0 kP1 kP2 kP3 kQ0 kQ1 kQ2 kQ3 kX0 kX1 kX2 kX3 kX4 kY0 kY1 kY2 kY3 kY4 kM0 kM1 kM2 kM3 kM4 kM5 kM6 kM7 kM8 kM9 kM10
            obtain ⟨M, eM⟩ : ∃ M, M = (w5.heap.size) := ⟨_, rfl⟩
            rw [← eM] at bM
            try rw [← eM]
            clear eM
            refine (open_t _ HB).mono ?_
            rintro e w6 ⟨rfl, hb⟩
            replace bP := bP.keep hb
            replace bQ := bQ.keep hb
            replace bX := bX.keep hb
            replace bY := bY.keep hb
            replace bM := bM.keep hb
            replace B0 := below_step B0 hb
            clear hb
            have bN := Bl.new w6 [.int .i64 1, .int .i64 ba, .int .i64 bh, .int .i64 bi, .slice none 0 0, .slice none 0 0, .slice none 0 0, .int .i64 0, .slice none 0 0, .int .i64 0, .int .i64 0] 38 (w6.heap.size) (by simp)
            replace bP := bP.alloc (.cells #[.int .i64 1, .int .i64 ba, .int .i64 bh, .int .i64 bi, .slice none 0 0, .slice none 0 0, .slice none 0 0, .int .i64 0, .slice none 0 0, .int .i64 0, .int .i64 0] 38)
            replace bQ := bQ.alloc (.cells #[.int .i64 1, .int .i64 ba, .int .i64 bh, .int .i64 bi, .slice none 0 0, .slice none 0 0, .slice none 0 0, .int .i64 0, .slice none 0 0, .int .i64 0, .int .i64 0] 38)
            replace bX := bX.alloc (.cells #[.int .i64 1, .int .i64 ba, .int .i64 bh, .int .i64 bi, .slice none 0 0, .slice none 0 0, .slice none 0 0, .int .i64 0, .slice none 0 0, .int .i64 0, .int .i64 0] 38)
            replace bY := bY.alloc (.cells #[.int .i64 1, .int .i64 ba, .int .i64 bh, .int .i64 bi, .slice none 0 0, .slice none 0 0, .slice none 0 0, .int .i64 0, .slice none 0 0, .int .i64 0, .int .i64 0] 38)
            replace bM := bM.alloc (.cells #[.int .i64 1, .int .i64 ba, .int .i64 bh, .int .i64 bi, .slice none 0 0, .slice none 0 0, .slice none 0 0, .int .i64 0, .slice none 0 0, .int .i64 0, .int .i64 0] 38)
            replace B0 := B0.alloc B0.size (.cells #[.int .i64 1, .int .i64 ba, .int .i64 bh, .int .i64 bi, .slice none 0 0, .slice none 0 0, .slice none 0 0, .int .i64 0, .slice none 0 0, .int .i64 0, .int .i64 0] 38)
            have kP0 := bP.c 0 rfl
            have kP1 := bP.c 1 rfl
            have kP2 := bP.c 2 rfl
            have kP3 := bP.c 3 rfl
            have kQ0 := bQ.c 0 rfl
            have kQ1 := bQ.c 1 rfl
            have kQ2 := bQ.c 2 rfl
            have kQ3 := bQ.c 3 rfl
            have kX0 := bX.c 0 rfl
            have kX1 := bX.c 1 rfl
            have kX2 := bX.c 2 rfl
            have kX3 := bX.c 3 rfl
            have kX4 := bX.c 4 rfl
            have kY0 := bY.c 0 rfl
            have kY1 := bY.c 1 rfl
            have kY2 := bY.c 2 rfl
            have kY3 := bY.c 3 rfl
            have kY4 := bY.c 4 rfl
            have kM0 := bM.c 0 rfl
            have kM1 := bM.c 1 rfl
            have kM2 := bM.c 2 rfl
            have kM3 := bM.c 3 rfl
            have kM4 := bM.c 4 rfl
            have kM5 := bM.c 5 rfl
            have kM6 := bM.c 6 rfl
            have kM7 := bM.c 7 rfl
            have kM8 := bM.c 8 rfl
            have kM9 := bM.c 9 rfl
            have kM10 := bM.c 10 rfl
            have kN0 := bN.c 0 rfl
            have kN1 := bN.c 1 rfl
            have kN2 := bN.c 2 rfl
            have kN3 := bN.c 3 rfl
            have kN4 := bN.c 4 rfl
            have kN5 := bN.c 5 rfl
            have kN6 := bN.c 6 rfl
            have kN7 := bN.c 7 rfl
            have kN8 := bN.c 8 rfl
            have kN9 := bN.c 9 rfl
            have kN10 := bN.c 10 rfl
            go_wp2_with fail
            clear kP0 kP1 kP2 kP3 kQ0 kQ1 kQ2 kQ3 kX0 kX1 kX2 kX3 kX4 kY0 kY1 kY2 kY3 kY4 kM0 kM1 kM2 kM3 kM4 kM5 kM6 kM7 kM8 kM9 kM10 kN0 kN1 kN2 kN3 kN4 kN5 kN6 kN7 kN8 kN9 kN10
            obtain ⟨N, eN⟩ : ∃ N, N = (w6.heap.size) := ⟨_, rfl⟩
            rw [← eN] at bN
            try rw [← eN]
            clear eN
            refine (acc_t _ HA HB HP).mono ?_
            rintro e w7 ⟨rfl, hb⟩
            replace bP := bP.keep hb
            replace bQ := bQ.keep hb
            replace bX := bX.keep hb
            replace bY := bY.keep hb
            replace bM := bM.keep hb
            replace bN := bN.keep hb
            replace B0 := below_step B0 hb
            clear hb
            have kP0 := bP.c 0 rfl
            have kP1 := bP.c 1 rfl
            have kP2 := bP.c 2 rfl
            have kP3 := bP.c 3 rfl
            have kQ0 := bQ.c 0 rfl
            have kQ1 := bQ.c 1 rfl
            have kQ2 := bQ.c 2 rfl
            have kQ3 := bQ.c 3 rfl
            have kX0 := bX.c 0 rfl
            have kX1 := bX.c 1 rfl
            have kX2 := bX.c 2 rfl
            have kX3 := bX.c 3 rfl
            have kX4 := bX.c 4 rfl
            have kY0 := bY.c 0 rfl
            have kY1 := bY.c 1 rfl
            have kY2 := bY.c 2 rfl
            have kY3 := bY.c 3 rfl
            have kY4 := bY.c 4 rfl
            have kM0 := bM.c 0 rfl
            have kM1 := bM.c 1 rfl
            have kM2 := bM.c 2 rfl
            have kM3 := bM.c 3 rfl
            have kM4 := bM.c 4 rfl
            have kM5 := bM.c 5 rfl
            have kM6 := bM.c 6 rfl
            have kM7 := bM.c 7 rfl
            have kM8 := bM.c 8 rfl
            have kM9 := bM.c 9 rfl
            have kM10 := bM.c 10 rfl
            have kN0 := bN.c 0 rfl
            have kN1 := bN.c 1 rfl
            have kN2 := bN.c 2 rfl
            have kN3 := bN.c 3 rfl
            have kN4 := bN.c 4 rfl
            have kN5 := bN.c 5 rfl
            have kN6 := bN.c 6 rfl
            have kN7 := bN.c 7 rfl
            have kN8 := bN.c 8 rfl
            have kN9 := bN.c 9 rfl
            have kN10 := bN.c 10 rfl
            go_wp2_with fail
            clear kP0 kP1 kP2 kP3 kQ0 kQ1 kQ2 kQ3 kX0 kX1 kX2 kX3 kX4 kY0 kY1 kY2 kY3 kY4 kM0 kM1 kM2 kM3 kM4 kM5 kM6 kM7 kM8 kM9 kM10 kN0 kN1 kN2 kN3 kN4 kN5 kN6 kN7 kN8 kN9 kN10
            refine (acc_t _ HB HA HQ).mono ?_
            rintro e w8 ⟨rfl, hb⟩
            replace bP := bP.keep hb
            replace bQ := bQ.keep hb
            replace bX := bX.keep hb
            replace bY := bY.keep hb
            replace bM := bM.keep hb
            replace bN := bN.keep hb
            replace B0 := below_step B0 hb
            clear hb
            have kP0 := bP.c 0 rfl
            have kP1 := bP.c 1 rfl
            have kP2 := bP.c 2 rfl
            have kP3 := bP.c 3 rfl
            have kQ0 := bQ.c 0 rfl
            have kQ1 := bQ.c 1 rfl
            have kQ2 := bQ.c 2 rfl
            have kQ3 := bQ.c 3 rfl
            have kX0 := bX.c 0 rfl
            have kX1 := bX.c 1 rfl
            have kX2 := bX.c 2 rfl
            have kX3 := bX.c 3 rfl
            have kX4 := bX.c 4 rfl
            have kY0 := bY.c 0 rfl
            have kY1 := bY.c 1 rfl
            have kY2 := bY.c 2 rfl
            have kY3 := bY.c 3 rfl
            have kY4 := bY.c 4 rfl
            have kM0 := bM.c 0 rfl
            have kM1 := bM.c 1 rfl
            have kM2 := bM.c 2 rfl
            have kM3 := bM.c 3 rfl
            have kM4 := bM.c 4 rfl
            have kM5 := bM.c 5 rfl
            have kM6 := bM.c 6 rfl
            have kM7 := bM.c 7 rfl
            have kM8 := bM.c 8 rfl
            have kM9 := bM.c 9 rfl
            have kM10 := bM.c 10 rfl
            have kN0 := bN.c 0 rfl
            have kN1 := bN.c 1 rfl
            have kN2 := bN.c 2 rfl
            have kN3 := bN.c 3 rfl
            have kN4 := bN.c 4 rfl
            have kN5 := bN.c 5 rfl
            have kN6 := bN.c 6 rfl
            have kN7 := bN.c 7 rfl
            have kN8 := bN.c 8 rfl
            have kN9 := bN.c 9 rfl
            have kN10 := bN.c 10 rfl
            go_wp2_with fail
            clear kP0 kP1 kP2 kP3 kQ0 kQ1 kQ2 kQ3 kX0 kX1 kX2 kX3 kX4 kY0 kY1 kY2 kY3 kY4 kM0 kM1 kM2 kM3 kM4 kM5 kM6 kM7 kM8 kM9 kM10 kN0 kN1 kN2 kN3 kN4 kN5 kN6 kN7 kN8 kN9 kN10
            refine (ses_t _ HS1).mono ?_
            rintro e w9 ⟨rfl, hb⟩
            replace bP := bP.keep hb
            replace bQ := bQ.keep hb
            replace bX := bX.keep hb
            replace bY := bY.keep hb
            replace bM := bM.keep hb
            replace bN := bN.keep hb
            replace B0 := below_step B0 hb
            clear hb
            have kP0 := bP.c 0 rfl
            have kP1 := bP.c 1 rfl
            have kP2 := bP.c 2 rfl
            have kP3 := bP.c 3 rfl
            have kQ0 := bQ.c 0 rfl
            have kQ1 := bQ.c 1 rfl
            have kQ2 := bQ.c 2 rfl
            have kQ3 := bQ.c 3 rfl
            have kX0 := bX.c 0 rfl
            have kX1 := bX.c 1 rfl
            have kX2 := bX.c 2 rfl
            have kX3 := bX.c 3 rfl
            have kX4 := bX.c 4 rfl
            have kY0 := bY.c 0 rfl
            have kY1 := bY.c 1 rfl
            have kY2 := bY.c 2 rfl
            have kY3 := bY.c 3 rfl
            have kY4 := bY.c 4 rfl
            have kM0 := bM.c 0 rfl
            have kM1 := bM.c 1 rfl
            have kM2 := bM.c 2 rfl
            have kM3 := bM.c 3 rfl
            have kM4 := bM.c 4 rfl
            have kM5 := bM.c 5 rfl
            have kM6 := bM.c 6 rfl
            have kM7 := bM.c 7 rfl
            have kM8 := bM.c 8 rfl
            have kM9 := bM.c 9 rfl
            have kM10 := bM.c 10 rfl
            have kN0 := bN.c 0 rfl
            have kN1 := bN.c 1 rfl
            have kN2 := bN.c 2 rfl
            have kN3 := bN.c 3 rfl
            have kN4 := bN.c 4 rfl
            have kN5 := bN.c 5 rfl
            have kN6 := bN.c 6 rfl
            have kN7 := bN.c 7 rfl
            have kN8 := bN.c 8 rfl
            have kN9 := bN.c 9 rfl
            have kN10 := bN.c 10 rfl
            go_wp2_with fail
            clear kP0 kP1 kP2 kP3 kQ0 kQ1 kQ2 kQ3 kX0 kX1 kX2 kX3 kX4 kY0 kY1 kY2 kY3 kY4 kM0 kM1 kM2 kM3 kM4 kM5 kM6 kM7 kM8 kM9 kM10 kN0 kN1 kN2 kN3 kN4 kN5 kN6 kN7 kN8 kN9 kN10
            refine (ses_t _ HS2).mono ?_
            rintro e w10 ⟨rfl, hb⟩
            replace bP := bP.keep hb
            replace bQ := bQ.keep hb
            replace bX := bX.keep hb
            replace bY := bY.keep hb
            replace bM := bM.keep hb
            replace bN := bN.keep hb
            replace B0 := below_step B0 hb
            clear hb
            have kP0 := bP.c 0 rfl
            have kP1 := bP.c 1 rfl
            have kP2 := bP.c 2 rfl
            have kP3 := bP.c 3 rfl
            have kQ0 := bQ.c 0 rfl
            have kQ1 := bQ.c 1 rfl
            have kQ2 := bQ.c 2 rfl
            have kQ3 := bQ.c 3 rfl
            have kX0 := bX.c 0 rfl
            have kX1 := bX.c 1 rfl
            have kX2 := bX.c 2 rfl
            have kX3 := bX.c 3 rfl
            have kX4 := bX.c 4 rfl
            have kY0 := bY.c 0 rfl
            have kY1 := bY.c 1 rfl
            have kY2 := bY.c 2 rfl
            have kY3 := bY.c 3 rfl
            have kY4 := bY.c 4 rfl
            have kM0 := bM.c 0 rfl
            have kM1 := bM.c 1 rfl
            have kM2 := bM.c 2 rfl
            have kM3 := bM.c 3 rfl
            have kM4 := bM.c 4 rfl
            have kM5 := bM.c 5 rfl
            have kM6 := bM.c 6 rfl
            have kM7 := bM.c 7 rfl
            have kM8 := bM.c 8 rfl
            have kM9 := bM.c 9 rfl
            have kM10 := bM.c 10 rfl
            have kN0 := bN.c 0 rfl
            have kN1 := bN.c 1 rfl
            have kN2 := bN.c 2 rfl
            have kN3 := bN.c 3 rfl
            have kN4 := bN.c 4 rfl
            have kN5 := bN.c 5 rfl
            have kN6 := bN.c 6 rfl
            have kN7 := bN.c 7 rfl
            have kN8 := bN.c 8 rfl
            have kN9 := bN.c 9 rfl
            have kN10 := bN.c 10 rfl
            go_wp2_with fail
            clear kP0 kP1 kP2 kP3 kQ0 kQ1 kQ2 kQ3 kX0 kX1 kX2 kX3 kX4 kY0 kY1 kY2 kY3 kY4 kM0 kM1 kM2 kM3 kM4 kM5 kM6 kM7 kM8 kM9 kM10 kN0 kN1 kN2 kN3 kN4 kN5 kN6 kN7 kN8 kN9 kN10
            refine (greets_any u _ (cell_keep B0 (World.block_lt_of_cell? W _ hu) hu) (cell_keep B0 (World.block_lt_of_cell? W _ hg) hg)).mono ?_
            rintro e w11 ⟨rfl, hb⟩
            replace bP := bP.keep hb
            replace bQ := bQ.keep hb
            replace bX := bX.keep hb
            replace bY := bY.keep hb
            replace bM := bM.keep hb
            replace bN := bN.keep hb
            replace B0 := below_step B0 hb
            clear hb
            go_wp2
            go_ret
            exact ⟨rfl, B0⟩
end Go.Proofs.YtcmbajphholliabDoor
