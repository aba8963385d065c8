/-
  Contracts of Accepts of the program and of the model. Conditions: those in each contract.
-/
import Derived.Test.YtcmbajphholliabDoorS2
namespace Go.Proofs.YtcmbajphholliabDoor
open Go.ChangeShapes Go.WideShapes Go.ChangeAt Go.RowKit Go.BigFrame Go.Joins
set_option linter.unusedVariables false
set_option maxRecDepth 100000
set_option linter.unusedSimpArgs false

theorem imok_t {ga ca pa ma : Option Addr} {gx cx px mx : Nat} {gs cs : List (Int × Int)} {ps ms : List Int} {kn sa ho ix pr bw er : Int} {b : Bool} (w : World) (hg : RdP w (.slice ga gs.length gx) gs) (hc : RdP w (.slice ca cs.length cx) cs) (hp : RdI w (.slice pa ps.length px) ps) (hm : RdI w (.slice ma ms.length mx) ms) (H : Hid (mokB gs cs ps ms kn sa ho ix pr bw er = b)) :
    Calls Tryd.prog 36 #[.agg #[.int .i64 kn, .int .i64 sa, .int .i64 ho, .int .i64 ix, .slice ga gs.length gx, .slice ca cs.length cx, .slice pa ps.length px, .int .i64 pr, .slice ma ms.length mx, .int .i64 bw, .int .i64 er]] w fun e w' => e = .returned (.bool b) ∧ Below w.heap.size w w' := H.out ▸ imok_any ga ca pa ma gx cx px mx gs cs ps ms kn sa ho ix pr bw er w hg hc hp hm
/-- who opens is somebody else, and the one who is wanted -/
def l4B (xa xi xp kn sa ix : Int) : Bool := decide (kn = 1 ∧ ¬ sa = xa ∧ ¬ ix = xi ∧ (xp = 0 ∨ sa = xp))
def accB (xa xi xh xp : Int) (gs cs : List (Int × Int)) (ps ms : List Int) (kn sa ho ix pr bw er : Int) : Bool :=
  decide (cokB xa xi xh xp = true ∧ mokB gs cs ps ms kn sa ho ix pr bw er = true ∧ l4B xa xi xp kn sa ix = true)
set_option maxHeartbeats 4000000 in
theorem iAcc_any (xa xi xh xp : Int) (ga ca pa ma : Option Addr) (gx cx px mx : Nat) (gs cs : List (Int × Int)) (ps ms : List Int) (kn sa ho ix pr bw er : Int) (w : World) (hg : RdP w (.slice ga gs.length gx) gs) (hc : RdP w (.slice ca cs.length cx) cs) (hp : RdI w (.slice pa ps.length px) ps) (hm : RdI w (.slice ma ms.length mx) ms) : Calls Tryd.prog 12 #[.agg #[.int .i64 xa, .int .i64 xi, .int .i64 xh, .int .i64 xp], .agg #[.int .i64 kn, .int .i64 sa, .int .i64 ho, .int .i64 ix, .slice ga gs.length gx, .slice ca cs.length cx, .slice pa ps.length px, .int .i64 pr, .slice ma ms.length mx, .int .i64 bw, .int .i64 er]] w fun e w' => e = .returned (.bool (accB xa xi xh xp gs cs ps ms kn sa ho ix pr bw er)) ∧ Below w.heap.size w w' := by
  obtain ⟨bA, bM, B0, z⟩ := two w [.int .i64 xa, .int .i64 xi, .int .i64 xh, .int .i64 xp] [.int .i64 kn, .int .i64 sa, .int .i64 ho, .int .i64 ix, .slice ga gs.length gx, .slice ca cs.length cx, .slice pa ps.length px, .int .i64 pr, .slice ma ms.length mx, .int .i64 bw, .int .i64 er] 24 38
  replace hg := hg.keep B0
  replace hc := hc.keep B0
  replace hp := hp.keep B0
  replace hm := hm.keep B0
  clear z
  by_cases hcc : cokB xa xi xh xp = false
  · have HC := Lib.hid hcc
    clear hcc
    go_enter Tryd.func12, Tryd.ntmps12
    have fa0 := bA.c 0 rfl
    have fa1 := bA.c 1 rfl
    have fa2 := bA.c 2 rfl
    have fa3 := bA.c 3 rfl
    have fm0 := bM.c 0 rfl
    have fm1 := bM.c 1 rfl
    have fm2 := bM.c 2 rfl
    have fm3 := bM.c 3 rfl
    have fm4 := bM.c 4 rfl
    have fm5 := bM.c 5 rfl
    have fm6 := bM.c 6 rfl
    have fm7 := bM.c 7 rfl
    have fm8 := bM.c 8 rfl
    have fm9 := bM.c 9 rfl
    have fm10 := bM.c 10 rfl
    go_wp2_with fail
    clear fa0 fa1 fa2 fa3 fm0 fm1 fm2 fm3 fm4 fm5 fm6 fm7 fm8 fm9 fm10
    refine (iCf_t _ HC).mono ?_
    rintro e w1 ⟨rfl, hb⟩
    replace bA := bA.keep hb
    replace bM := bM.keep hb
    replace hg := hg.keep hb
    replace hc := hc.keep hb
    replace hp := hp.keep hb
    replace hm := hm.keep hb
    replace B0 := below_step B0 hb
    clear hb
    have fa0 := bA.c 0 rfl
    have fa1 := bA.c 1 rfl
    have fa2 := bA.c 2 rfl
    have fa3 := bA.c 3 rfl
    have fm0 := bM.c 0 rfl
    have fm1 := bM.c 1 rfl
    have fm2 := bM.c 2 rfl
    have fm3 := bM.c 3 rfl
    have fm4 := bM.c 4 rfl
    have fm5 := bM.c 5 rfl
    have fm6 := bM.c 6 rfl
    have fm7 := bM.c 7 rfl
    have fm8 := bM.c 8 rfl
    have fm9 := bM.c 9 rfl
    have fm10 := bM.c 10 rfl
    go_wp2_with fail
    all_goals
      go_ret
      exact ⟨ret_bool (by have q0 := HC.out; rw [Bool.eq_iff_iff]; (try unfold accB  l4B); (try rw [HC.out]); simp [accB, l4B, HC.out] <;> omega), B0⟩
  · have HC : Hid (cokB xa xi xh xp = true) := Lib.hid (eq_true_of_ne_false hcc)
    clear hcc
    by_cases hmc : mokB gs cs ps ms kn sa ho ix pr bw er = false
    · have HM := Lib.hid hmc
      clear hmc
      go_enter Tryd.func12, Tryd.ntmps12
      have fa0 := bA.c 0 rfl
      have fa1 := bA.c 1 rfl
      have fa2 := bA.c 2 rfl
      have fa3 := bA.c 3 rfl
      have fm0 := bM.c 0 rfl
      have fm1 := bM.c 1 rfl
      have fm2 := bM.c 2 rfl
      have fm3 := bM.c 3 rfl
      have fm4 := bM.c 4 rfl
      have fm5 := bM.c 5 rfl
      have fm6 := bM.c 6 rfl
      have fm7 := bM.c 7 rfl
      have fm8 := bM.c 8 rfl
      have fm9 := bM.c 9 rfl
      have fm10 := bM.c 10 rfl
      go_wp2_with fail
      clear fa0 fa1 fa2 fa3 fm0 fm1 fm2 fm3 fm4 fm5 fm6 fm7 fm8 fm9 fm10
      refine (iCf_t _ HC).mono ?_
      rintro e w1 ⟨rfl, hb⟩
      replace bA := bA.keep hb
      replace bM := bM.keep hb
      replace hg := hg.keep hb
      replace hc := hc.keep hb
      replace hp := hp.keep hb
      replace hm := hm.keep hb
      replace B0 := below_step B0 hb
      clear hb
      have fa0 := bA.c 0 rfl
      have fa1 := bA.c 1 rfl
      have fa2 := bA.c 2 rfl
      have fa3 := bA.c 3 rfl
      have fm0 := bM.c 0 rfl
      have fm1 := bM.c 1 rfl
      have fm2 := bM.c 2 rfl
      have fm3 := bM.c 3 rfl
      have fm4 := bM.c 4 rfl
      have fm5 := bM.c 5 rfl
      have fm6 := bM.c 6 rfl
      have fm7 := bM.c 7 rfl
      have fm8 := bM.c 8 rfl
      have fm9 := bM.c 9 rfl
      have fm10 := bM.c 10 rfl
      go_wp2_with fail
      clear fa0 fa1 fa2 fa3 fm0 fm1 fm2 fm3 fm4 fm5 fm6 fm7 fm8 fm9 fm10
      refine (imok_t _ hg hc hp hm HM).mono ?_
      rintro e w1 ⟨rfl, hb⟩
      replace bA := bA.keep hb
      replace bM := bM.keep hb
      replace hg := hg.keep hb
      replace hc := hc.keep hb
      replace hp := hp.keep hb
      replace hm := hm.keep hb
      replace B0 := below_step B0 hb
      clear hb
      have fa0 := bA.c 0 rfl
      have fa1 := bA.c 1 rfl
      have fa2 := bA.c 2 rfl
      have fa3 := bA.c 3 rfl
      have fm0 := bM.c 0 rfl
      have fm1 := bM.c 1 rfl
      have fm2 := bM.c 2 rfl
      have fm3 := bM.c 3 rfl
      have fm4 := bM.c 4 rfl
      have fm5 := bM.c 5 rfl
      have fm6 := bM.c 6 rfl
      have fm7 := bM.c 7 rfl
      have fm8 := bM.c 8 rfl
      have fm9 := bM.c 9 rfl
      have fm10 := bM.c 10 rfl
      go_wp2_with fail
      all_goals
        go_ret
        exact ⟨ret_bool (by have q0 := HC.out; have q1 := HM.out; rw [Bool.eq_iff_iff]; (try unfold accB  l4B); (try rw [HC.out]); (try rw [HM.out]); simp [accB, l4B, HC.out, HM.out] <;> omega), B0⟩
    · have HM : Hid (mokB gs cs ps ms kn sa ho ix pr bw er = true) := Lib.hid (eq_true_of_ne_false hmc)
      clear hmc
      by_cases a0 : kn = 1
      · have a0b : (kn == 1) = true := by simp [a0]
        have a0n : (kn != 1) = false := by simp [a0]
        have A0 := Lib.hid a0
        clear a0
        by_cases a1 : sa = xa
        · have a1b : (sa == xa) = true := by simp [a1]
          have a1n : (sa != xa) = false := by simp [a1]
          have A1 := Lib.hid a1
          clear a1
          go_enter Tryd.func12, Tryd.ntmps12
          have fa0 := bA.c 0 rfl
          have fa1 := bA.c 1 rfl
          have fa2 := bA.c 2 rfl
          have fa3 := bA.c 3 rfl
          have fm0 := bM.c 0 rfl
          have fm1 := bM.c 1 rfl
          have fm2 := bM.c 2 rfl
          have fm3 := bM.c 3 rfl
          have fm4 := bM.c 4 rfl
          have fm5 := bM.c 5 rfl
          have fm6 := bM.c 6 rfl
          have fm7 := bM.c 7 rfl
          have fm8 := bM.c 8 rfl
          have fm9 := bM.c 9 rfl
          have fm10 := bM.c 10 rfl
          go_wp2_with fail
          clear fa0 fa1 fa2 fa3 fm0 fm1 fm2 fm3 fm4 fm5 fm6 fm7 fm8 fm9 fm10
          refine (iCf_t _ HC).mono ?_
          rintro e w1 ⟨rfl, hb⟩
          replace bA := bA.keep hb
          replace bM := bM.keep hb
          replace hg := hg.keep hb
          replace hc := hc.keep hb
          replace hp := hp.keep hb
          replace hm := hm.keep hb
          replace B0 := below_step B0 hb
          clear hb
          have fa0 := bA.c 0 rfl
          have fa1 := bA.c 1 rfl
          have fa2 := bA.c 2 rfl
          have fa3 := bA.c 3 rfl
          have fm0 := bM.c 0 rfl
          have fm1 := bM.c 1 rfl
          have fm2 := bM.c 2 rfl
          have fm3 := bM.c 3 rfl
          have fm4 := bM.c 4 rfl
          have fm5 := bM.c 5 rfl
          have fm6 := bM.c 6 rfl
          have fm7 := bM.c 7 rfl
          have fm8 := bM.c 8 rfl
          have fm9 := bM.c 9 rfl
          have fm10 := bM.c 10 rfl
          go_wp2_with fail
          clear fa0 fa1 fa2 fa3 fm0 fm1 fm2 fm3 fm4 fm5 fm6 fm7 fm8 fm9 fm10
          refine (imok_t _ hg hc hp hm HM).mono ?_
          rintro e w1 ⟨rfl, hb⟩
          replace bA := bA.keep hb
          replace bM := bM.keep hb
          replace hg := hg.keep hb
          replace hc := hc.keep hb
          replace hp := hp.keep hb
          replace hm := hm.keep hb
          replace B0 := below_step B0 hb
          clear hb
          have fa0 := bA.c 0 rfl
          have fa1 := bA.c 1 rfl
          have fa2 := bA.c 2 rfl
          have fa3 := bA.c 3 rfl
          have fm0 := bM.c 0 rfl
          have fm1 := bM.c 1 rfl
          have fm2 := bM.c 2 rfl
          have fm3 := bM.c 3 rfl
          have fm4 := bM.c 4 rfl
          have fm5 := bM.c 5 rfl
          have fm6 := bM.c 6 rfl
          have fm7 := bM.c 7 rfl
          have fm8 := bM.c 8 rfl
          have fm9 := bM.c 9 rfl
          have fm10 := bM.c 10 rfl
          go_wp2_with fail
          all_goals
            go_ret
            exact ⟨ret_bool (by have q0 := HC.out; have q1 := HM.out; have q2 := A0.out; have q3 := A1.out; rw [Bool.eq_iff_iff]; (try unfold accB  l4B); (try rw [HC.out]); (try rw [HM.out]); simp [accB, l4B, HC.out, HM.out, A0.out, A1.out] <;> omega), B0⟩
        · have a1b : (sa == xa) = false := by simp [a1]
          have a1n : (sa != xa) = true := by simp [a1]
          have A1 := Lib.hid a1
          clear a1
          by_cases a2 : ix = xi
          · have a2b : (ix == xi) = true := by simp [a2]
            have a2n : (ix != xi) = false := by simp [a2]
            have A2 := Lib.hid a2
            clear a2
            go_enter Tryd.func12, Tryd.ntmps12
            have fa0 := bA.c 0 rfl
            have fa1 := bA.c 1 rfl
            have fa2 := bA.c 2 rfl
            have fa3 := bA.c 3 rfl
            have fm0 := bM.c 0 rfl
            have fm1 := bM.c 1 rfl
            have fm2 := bM.c 2 rfl
            have fm3 := bM.c 3 rfl
            have fm4 := bM.c 4 rfl
            have fm5 := bM.c 5 rfl
            have fm6 := bM.c 6 rfl
            have fm7 := bM.c 7 rfl
            have fm8 := bM.c 8 rfl
            have fm9 := bM.c 9 rfl
            have fm10 := bM.c 10 rfl
            go_wp2_with fail
            clear fa0 fa1 fa2 fa3 fm0 fm1 fm2 fm3 fm4 fm5 fm6 fm7 fm8 fm9 fm10
            refine (iCf_t _ HC).mono ?_
            rintro e w1 ⟨rfl, hb⟩
            replace bA := bA.keep hb
            replace bM := bM.keep hb
            replace hg := hg.keep hb
            replace hc := hc.keep hb
            replace hp := hp.keep hb
            replace hm := hm.keep hb
            replace B0 := below_step B0 hb
            clear hb
            have fa0 := bA.c 0 rfl
            have fa1 := bA.c 1 rfl
            have fa2 := bA.c 2 rfl
            have fa3 := bA.c 3 rfl
            have fm0 := bM.c 0 rfl
            have fm1 := bM.c 1 rfl
            have fm2 := bM.c 2 rfl
            have fm3 := bM.c 3 rfl
            have fm4 := bM.c 4 rfl
            have fm5 := bM.c 5 rfl
            have fm6 := bM.c 6 rfl
            have fm7 := bM.c 7 rfl
            have fm8 := bM.c 8 rfl
            have fm9 := bM.c 9 rfl
            have fm10 := bM.c 10 rfl
            go_wp2_with fail
            clear fa0 fa1 fa2 fa3 fm0 fm1 fm2 fm3 fm4 fm5 fm6 fm7 fm8 fm9 fm10
            refine (imok_t _ hg hc hp hm HM).mono ?_
            rintro e w1 ⟨rfl, hb⟩
            replace bA := bA.keep hb
            replace bM := bM.keep hb
            replace hg := hg.keep hb
            replace hc := hc.keep hb
            replace hp := hp.keep hb
            replace hm := hm.keep hb
            replace B0 := below_step B0 hb
            clear hb
            have fa0 := bA.c 0 rfl
            have fa1 := bA.c 1 rfl
            have fa2 := bA.c 2 rfl
            have fa3 := bA.c 3 rfl
            have fm0 := bM.c 0 rfl
            have fm1 := bM.c 1 rfl
            have fm2 := bM.c 2 rfl
            have fm3 := bM.c 3 rfl
            have fm4 := bM.c 4 rfl
            have fm5 := bM.c 5 rfl
            have fm6 := bM.c 6 rfl
            have fm7 := bM.c 7 rfl
            have fm8 := bM.c 8 rfl
            have fm9 := bM.c 9 rfl
            have fm10 := bM.c 10 rfl
            go_wp2_with fail
            all_goals
              go_ret
              exact ⟨ret_bool (by have q0 := HC.out; have q1 := HM.out; have q2 := A0.out; have q3 := A1.out; have q4 := A2.out; rw [Bool.eq_iff_iff]; (try unfold accB  l4B); (try rw [HC.out]); (try rw [HM.out]); simp [accB, l4B, HC.out, HM.out, A0.out, A1.out, A2.out] <;> omega), B0⟩
          · have a2b : (ix == xi) = false := by simp [a2]
            have a2n : (ix != xi) = true := by simp [a2]
            have A2 := Lib.hid a2
            clear a2
            by_cases hlc : (decide (xp = 0) || decide (xp = sa)) = false
            · have HL := Lib.hid hlc
              clear hlc
              go_enter Tryd.func12, Tryd.ntmps12
              have fa0 := bA.c 0 rfl
              have fa1 := bA.c 1 rfl
              have fa2 := bA.c 2 rfl
              have fa3 := bA.c 3 rfl
              have fm0 := bM.c 0 rfl
              have fm1 := bM.c 1 rfl
              have fm2 := bM.c 2 rfl
              have fm3 := bM.c 3 rfl
              have fm4 := bM.c 4 rfl
              have fm5 := bM.c 5 rfl
              have fm6 := bM.c 6 rfl
              have fm7 := bM.c 7 rfl
              have fm8 := bM.c 8 rfl
              have fm9 := bM.c 9 rfl
              have fm10 := bM.c 10 rfl
              go_wp2_with fail
              clear fa0 fa1 fa2 fa3 fm0 fm1 fm2 fm3 fm4 fm5 fm6 fm7 fm8 fm9 fm10
              refine (iCf_t _ HC).mono ?_
              rintro e w1 ⟨rfl, hb⟩
              replace bA := bA.keep hb
              replace bM := bM.keep hb
              replace hg := hg.keep hb
              replace hc := hc.keep hb
              replace hp := hp.keep hb
              replace hm := hm.keep hb
              replace B0 := below_step B0 hb
              clear hb
              have fa0 := bA.c 0 rfl
              have fa1 := bA.c 1 rfl
              have fa2 := bA.c 2 rfl
              have fa3 := bA.c 3 rfl
              have fm0 := bM.c 0 rfl
              have fm1 := bM.c 1 rfl
              have fm2 := bM.c 2 rfl
              have fm3 := bM.c 3 rfl
              have fm4 := bM.c 4 rfl
              have fm5 := bM.c 5 rfl
              have fm6 := bM.c 6 rfl
              have fm7 := bM.c 7 rfl
              have fm8 := bM.c 8 rfl
              have fm9 := bM.c 9 rfl
              have fm10 := bM.c 10 rfl
              go_wp2_with fail
              clear fa0 fa1 fa2 fa3 fm0 fm1 fm2 fm3 fm4 fm5 fm6 fm7 fm8 fm9 fm10
              refine (imok_t _ hg hc hp hm HM).mono ?_
              rintro e w1 ⟨rfl, hb⟩
              replace bA := bA.keep hb
              replace bM := bM.keep hb
              replace hg := hg.keep hb
              replace hc := hc.keep hb
              replace hp := hp.keep hb
              replace hm := hm.keep hb
              replace B0 := below_step B0 hb
              clear hb
              have fa0 := bA.c 0 rfl
              have fa1 := bA.c 1 rfl
              have fa2 := bA.c 2 rfl
              have fa3 := bA.c 3 rfl
              have fm0 := bM.c 0 rfl
              have fm1 := bM.c 1 rfl
              have fm2 := bM.c 2 rfl
              have fm3 := bM.c 3 rfl
              have fm4 := bM.c 4 rfl
              have fm5 := bM.c 5 rfl
              have fm6 := bM.c 6 rfl
              have fm7 := bM.c 7 rfl
              have fm8 := bM.c 8 rfl
              have fm9 := bM.c 9 rfl
              have fm10 := bM.c 10 rfl
              go_wp2_with fail
              clear fa0 fa1 fa2 fa3 fm0 fm1 fm2 fm3 fm4 fm5 fm6 fm7 fm8 fm9 fm10
              refine (ialw_t _ HL).mono ?_
              rintro e w1 ⟨rfl, hb⟩
              replace bA := bA.keep hb
              replace bM := bM.keep hb
              replace hg := hg.keep hb
              replace hc := hc.keep hb
              replace hp := hp.keep hb
              replace hm := hm.keep hb
              replace B0 := below_step B0 hb
              clear hb
              have fa0 := bA.c 0 rfl
              have fa1 := bA.c 1 rfl
              have fa2 := bA.c 2 rfl
              have fa3 := bA.c 3 rfl
              have fm0 := bM.c 0 rfl
              have fm1 := bM.c 1 rfl
              have fm2 := bM.c 2 rfl
              have fm3 := bM.c 3 rfl
              have fm4 := bM.c 4 rfl
              have fm5 := bM.c 5 rfl
              have fm6 := bM.c 6 rfl
              have fm7 := bM.c 7 rfl
              have fm8 := bM.c 8 rfl
              have fm9 := bM.c 9 rfl
              have fm10 := bM.c 10 rfl
              go_wp2_with fail
              all_goals
                go_ret
                exact ⟨ret_bool (by have q0 := HC.out; have q1 := HM.out; have q2 := A0.out; have q3 := A1.out; have q4 := A2.out; rw [Bool.eq_iff_iff]; (try unfold accB  l4B); (try rw [HC.out]); (try rw [HM.out]); have qq := HL.out; simp at qq; simp [accB, l4B, HC.out, HM.out, A0.out, A1.out, A2.out] <;> omega), B0⟩
            · have HL : Hid ((decide (xp = 0) || decide (xp = sa)) = true) := Lib.hid (eq_true_of_ne_false hlc)
              clear hlc
              go_enter Tryd.func12, Tryd.ntmps12
              have fa0 := bA.c 0 rfl
              have fa1 := bA.c 1 rfl
              have fa2 := bA.c 2 rfl
              have fa3 := bA.c 3 rfl
              have fm0 := bM.c 0 rfl
              have fm1 := bM.c 1 rfl
              have fm2 := bM.c 2 rfl
              have fm3 := bM.c 3 rfl
              have fm4 := bM.c 4 rfl
              have fm5 := bM.c 5 rfl
              have fm6 := bM.c 6 rfl
              have fm7 := bM.c 7 rfl
              have fm8 := bM.c 8 rfl
              have fm9 := bM.c 9 rfl
              have fm10 := bM.c 10 rfl
              go_wp2_with fail
              clear fa0 fa1 fa2 fa3 fm0 fm1 fm2 fm3 fm4 fm5 fm6 fm7 fm8 fm9 fm10
              refine (iCf_t _ HC).mono ?_
              rintro e w1 ⟨rfl, hb⟩
              replace bA := bA.keep hb
              replace bM := bM.keep hb
              replace hg := hg.keep hb
              replace hc := hc.keep hb
              replace hp := hp.keep hb
              replace hm := hm.keep hb
              replace B0 := below_step B0 hb
              clear hb
              have fa0 := bA.c 0 rfl
              have fa1 := bA.c 1 rfl
              have fa2 := bA.c 2 rfl
              have fa3 := bA.c 3 rfl
              have fm0 := bM.c 0 rfl
              have fm1 := bM.c 1 rfl
              have fm2 := bM.c 2 rfl
              have fm3 := bM.c 3 rfl
              have fm4 := bM.c 4 rfl
              have fm5 := bM.c 5 rfl
              have fm6 := bM.c 6 rfl
              have fm7 := bM.c 7 rfl
              have fm8 := bM.c 8 rfl
              have fm9 := bM.c 9 rfl
              have fm10 := bM.c 10 rfl
              go_wp2_with fail
              clear fa0 fa1 fa2 fa3 fm0 fm1 fm2 fm3 fm4 fm5 fm6 fm7 fm8 fm9 fm10
              refine (imok_t _ hg hc hp hm HM).mono ?_
              rintro e w1 ⟨rfl, hb⟩
              replace bA := bA.keep hb
              replace bM := bM.keep hb
              replace hg := hg.keep hb
              replace hc := hc.keep hb
              replace hp := hp.keep hb
              replace hm := hm.keep hb
              replace B0 := below_step B0 hb
              clear hb
              have fa0 := bA.c 0 rfl
              have fa1 := bA.c 1 rfl
              have fa2 := bA.c 2 rfl
              have fa3 := bA.c 3 rfl
              have fm0 := bM.c 0 rfl
              have fm1 := bM.c 1 rfl
              have fm2 := bM.c 2 rfl
              have fm3 := bM.c 3 rfl
              have fm4 := bM.c 4 rfl
              have fm5 := bM.c 5 rfl
              have fm6 := bM.c 6 rfl
              have fm7 := bM.c 7 rfl
              have fm8 := bM.c 8 rfl
              have fm9 := bM.c 9 rfl
              have fm10 := bM.c 10 rfl
              go_wp2_with fail
              clear fa0 fa1 fa2 fa3 fm0 fm1 fm2 fm3 fm4 fm5 fm6 fm7 fm8 fm9 fm10
              refine (ialw_t _ HL).mono ?_
              rintro e w1 ⟨rfl, hb⟩
              replace bA := bA.keep hb
              replace bM := bM.keep hb
              replace hg := hg.keep hb
              replace hc := hc.keep hb
              replace hp := hp.keep hb
              replace hm := hm.keep hb
              replace B0 := below_step B0 hb
              clear hb
              have fa0 := bA.c 0 rfl
              have fa1 := bA.c 1 rfl
              have fa2 := bA.c 2 rfl
              have fa3 := bA.c 3 rfl
              have fm0 := bM.c 0 rfl
              have fm1 := bM.c 1 rfl
              have fm2 := bM.c 2 rfl
              have fm3 := bM.c 3 rfl
              have fm4 := bM.c 4 rfl
              have fm5 := bM.c 5 rfl
              have fm6 := bM.c 6 rfl
              have fm7 := bM.c 7 rfl
              have fm8 := bM.c 8 rfl
              have fm9 := bM.c 9 rfl
              have fm10 := bM.c 10 rfl
              go_wp2_with fail
              all_goals
                go_ret
                exact ⟨ret_bool (by have q0 := HC.out; have q1 := HM.out; have q2 := A0.out; have q3 := A1.out; have q4 := A2.out; rw [Bool.eq_iff_iff]; (try unfold accB  l4B); (try rw [HC.out]); (try rw [HM.out]); have qq := HL.out; simp at qq; simp [accB, l4B, HC.out, HM.out, A0.out, A1.out, A2.out] <;> omega), B0⟩
      · have a0b : (kn == 1) = false := by simp [a0]
        have a0n : (kn != 1) = true := by simp [a0]
        have A0 := Lib.hid a0
        clear a0
        go_enter Tryd.func12, Tryd.ntmps12
        have fa0 := bA.c 0 rfl
        have fa1 := bA.c 1 rfl
        have fa2 := bA.c 2 rfl
        have fa3 := bA.c 3 rfl
        have fm0 := bM.c 0 rfl
        have fm1 := bM.c 1 rfl
        have fm2 := bM.c 2 rfl
        have fm3 := bM.c 3 rfl
        have fm4 := bM.c 4 rfl
        have fm5 := bM.c 5 rfl
        have fm6 := bM.c 6 rfl
        have fm7 := bM.c 7 rfl
        have fm8 := bM.c 8 rfl
        have fm9 := bM.c 9 rfl
        have fm10 := bM.c 10 rfl
        go_wp2_with fail
        clear fa0 fa1 fa2 fa3 fm0 fm1 fm2 fm3 fm4 fm5 fm6 fm7 fm8 fm9 fm10
        refine (iCf_t _ HC).mono ?_
        rintro e w1 ⟨rfl, hb⟩
        replace bA := bA.keep hb
        replace bM := bM.keep hb
        replace hg := hg.keep hb
        replace hc := hc.keep hb
        replace hp := hp.keep hb
        replace hm := hm.keep hb
        replace B0 := below_step B0 hb
        clear hb
        have fa0 := bA.c 0 rfl
        have fa1 := bA.c 1 rfl
        have fa2 := bA.c 2 rfl
        have fa3 := bA.c 3 rfl
        have fm0 := bM.c 0 rfl
        have fm1 := bM.c 1 rfl
        have fm2 := bM.c 2 rfl
        have fm3 := bM.c 3 rfl
        have fm4 := bM.c 4 rfl
        have fm5 := bM.c 5 rfl
        have fm6 := bM.c 6 rfl
        have fm7 := bM.c 7 rfl
        have fm8 := bM.c 8 rfl
        have fm9 := bM.c 9 rfl
        have fm10 := bM.c 10 rfl
        go_wp2_with fail
        clear fa0 fa1 fa2 fa3 fm0 fm1 fm2 fm3 fm4 fm5 fm6 fm7 fm8 fm9 fm10
        refine (imok_t _ hg hc hp hm HM).mono ?_
        rintro e w1 ⟨rfl, hb⟩
        replace bA := bA.keep hb
        replace bM := bM.keep hb
        replace hg := hg.keep hb
        replace hc := hc.keep hb
        replace hp := hp.keep hb
        replace hm := hm.keep hb
        replace B0 := below_step B0 hb
        clear hb
        have fa0 := bA.c 0 rfl
        have fa1 := bA.c 1 rfl
        have fa2 := bA.c 2 rfl
        have fa3 := bA.c 3 rfl
        have fm0 := bM.c 0 rfl
        have fm1 := bM.c 1 rfl
        have fm2 := bM.c 2 rfl
        have fm3 := bM.c 3 rfl
        have fm4 := bM.c 4 rfl
        have fm5 := bM.c 5 rfl
        have fm6 := bM.c 6 rfl
        have fm7 := bM.c 7 rfl
        have fm8 := bM.c 8 rfl
        have fm9 := bM.c 9 rfl
        have fm10 := bM.c 10 rfl
        go_wp2_with fail
        all_goals
          go_ret
          exact ⟨ret_bool (by have q0 := HC.out; have q1 := HM.out; have q2 := A0.out; rw [Bool.eq_iff_iff]; (try unfold accB  l4B); (try rw [HC.out]); (try rw [HM.out]); simp [accB, l4B, HC.out, HM.out, A0.out] <;> omega), B0⟩
theorem iAcc_t {xa xi xh xp : Int} {ga ca pa ma : Option Addr} {gx cx px mx : Nat} {gs cs : List (Int × Int)} {ps ms : List Int} {kn sa ho ix pr bw er : Int} {b : Bool} (w : World) (hg : RdP w (.slice ga gs.length gx) gs) (hc : RdP w (.slice ca cs.length cx) cs) (hp : RdI w (.slice pa ps.length px) ps) (hm : RdI w (.slice ma ms.length mx) ms) (H : Hid (accB xa xi xh xp gs cs ps ms kn sa ho ix pr bw er = b)) : Calls Tryd.prog 12 #[.agg #[.int .i64 xa, .int .i64 xi, .int .i64 xh, .int .i64 xp], .agg #[.int .i64 kn, .int .i64 sa, .int .i64 ho, .int .i64 ix, .slice ga gs.length gx, .slice ca cs.length cx, .slice pa ps.length px, .int .i64 pr, .slice ma ms.length mx, .int .i64 bw, .int .i64 er]] w fun e w' => e = .returned (.bool b) ∧ Below w.heap.size w w' := H.out ▸ iAcc_any xa xi xh xp ga ca pa ma gx cx px mx gs cs ps ms kn sa ho ix pr bw er w hg hc hp hm
end Go.Proofs.YtcmbajphholliabDoor
