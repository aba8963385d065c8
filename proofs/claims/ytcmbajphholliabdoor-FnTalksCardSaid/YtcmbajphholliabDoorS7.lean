/-
  Contracts of EventOk of the program and of the model. Conditions: those in each contract.
-/
import Derived.Test.YtcmbajphholliabDoorS6
namespace Go.Proofs.YtcmbajphholliabDoor
open Go.ChangeShapes Go.WideShapes Go.ChangeAt Go.RowKit Go.BigFrame Go.Joins
set_option linter.unusedVariables false
set_option maxRecDepth 100000
set_option linter.unusedSimpArgs false

/-- every field of the message is zero -/
def zM (gs cs : List (Int × Int)) (ps ms : List Int) (kn sa ho ix pr bw er : Int) : Bool := decide (kn = 0 ∧ sa = 0 ∧ ho = 0 ∧ ix = 0 ∧ er = 0 ∧ (gs.length : Int) + cs.length = 0 ∧ zA ps ms pr bw = true)
/-- the event is valid -/
def evB (gs cs : List (Int × Int)) (ps ms : List Int) (ek ee kn sa ho ix pr bw er : Int) : Bool :=
  decide (0 ≤ ek ∧ ek ≤ 6 ∧ (ek = 6 → 1 ≤ ee ∧ ee ≤ 6) ∧ (¬ ek = 6 → ee = 0) ∧ (ek = 4 → mokB gs cs ps ms kn sa ho ix pr bw er = true) ∧ (¬ ek = 4 → zM gs cs ps ms kn sa ho ix pr bw er = true))
theorem zM_same (gs cs : List (Int × Int)) (ps ms : List Int) (kn sa ho ix pr bw er : Int) : zM gs cs ps ms kn sa ho ix pr bw er = sameB gs cs [] [] ps ms [] [] kn sa ho ix pr bw er 0 0 0 0 0 0 0 := by
  rw [Bool.eq_iff_iff]
  unfold zM sameB
  simp only [decide_eq_true_eq, zA_iff]
  constructor
  · rintro ⟨h1, h2, h3, h4, h5, h6, h7, h8, h9, h10⟩
    exact ⟨h1, h2, h3, h4, h5, List.eq_nil_of_length_eq_zero (by omega), List.eq_nil_of_length_eq_zero (by omega), h9, h7, h10, h8⟩
  · rintro ⟨h1, h2, h3, h4, h5, rfl, rfl, h9, h7, h10, h8⟩
    exact ⟨h1, h2, h3, h4, h5, by simp, h7, h8, h9, h10⟩
theorem izero_t {ga ca pa ma : Option Addr} {gx cx px mx : Nat} {gs cs : List (Int × Int)} {ps ms : List Int} {kn sa ho ix pr bw er : Int} {b : Bool} (w : World) (hg : RdP w (.slice ga gs.length gx) gs) (hc : RdP w (.slice ca cs.length cx) cs) (hp : RdI w (.slice pa ps.length px) ps) (hm : RdI w (.slice ma ms.length mx) ms) (H : Hid (zM gs cs ps ms kn sa ho ix pr bw er = b)) :
    Calls Tryd.prog 65 #[.agg #[.int .i64 kn, .int .i64 sa, .int .i64 ho, .int .i64 ix, .slice ga gs.length gx, .slice ca cs.length cx, .slice pa ps.length px, .int .i64 pr, .slice ma ms.length mx, .int .i64 bw, .int .i64 er], .agg #[.int .i64 0, .int .i64 0, .int .i64 0, .int .i64 0, .slice none 0 0, .slice none 0 0, .slice none 0 0, .int .i64 0, .slice none 0 0, .int .i64 0, .int .i64 0]] w fun e w' => e = .returned (.bool b) ∧ Below w.heap.size w w' :=
  isameM_t w hg hc hp hm (RdP.nil w) (RdP.nil w) (RdI.nil w) (RdI.nil w) (Lib.hid ((zM_same gs cs ps ms kn sa ho ix pr bw er).symm.trans H.out))
set_option maxHeartbeats 8000000 in
theorem iEv_any (ga ca pa ma : Option Addr) (gx cx px mx : Nat) (gs cs : List (Int × Int)) (ps ms : List Int) (ek ee kn sa ho ix pr bw er : Int) (w : World) (hg : RdP w (.slice ga gs.length gx) gs) (hc : RdP w (.slice ca cs.length cx) cs) (hp : RdI w (.slice pa ps.length px) ps) (hm : RdI w (.slice ma ms.length mx) ms) : Calls Tryd.prog 39 #[.agg #[.int .i64 ek, .int .i64 kn, .int .i64 sa, .int .i64 ho, .int .i64 ix, .slice ga gs.length gx, .slice ca cs.length cx, .slice pa ps.length px, .int .i64 pr, .slice ma ms.length mx, .int .i64 bw, .int .i64 er, .int .i64 ee]] w fun e w' => e = .returned (.bool (evB gs cs ps ms ek ee kn sa ho ix pr bw er)) ∧ Below w.heap.size w w' := by
  obtain ⟨bE, B0, z⟩ := one w [.int .i64 ek, .int .i64 kn, .int .i64 sa, .int .i64 ho, .int .i64 ix, .slice ga gs.length gx, .slice ca cs.length cx, .slice pa ps.length px, .int .i64 pr, .slice ma ms.length mx, .int .i64 bw, .int .i64 er, .int .i64 ee] 48
  replace hg := hg.keep B0
  replace hc := hc.keep B0
  replace hp := hp.keep B0
  replace hm := hm.keep B0
  clear z
  by_cases k4 : ek = 4
  · have k4b : (ek == 4) = true := by simp [k4]
    have k4n : (ek != 4) = false := by simp [k4]
    have K4 := Lib.hid k4
    clear k4
    by_cases hmc : mokB gs cs ps ms kn sa ho ix pr bw er = false
    · have HM := Lib.hid hmc
      clear hmc
      go_enter Tryd.func39, Tryd.ntmps39
      have fe0 := bE.c 0 rfl
      have fe1 := bE.c 1 rfl
      have fe2 := bE.c 2 rfl
      have fe3 := bE.c 3 rfl
      have fe4 := bE.c 4 rfl
      have fe5 := bE.c 5 rfl
      have fe6 := bE.c 6 rfl
      have fe7 := bE.c 7 rfl
      have fe8 := bE.c 8 rfl
      have fe9 := bE.c 9 rfl
      have fe10 := bE.c 10 rfl
      have fe11 := bE.c 11 rfl
      have fe12 := bE.c 12 rfl
      go_wp2_with fail
      clear fe0 fe1 fe2 fe3 fe4 fe5 fe6 fe7 fe8 fe9 fe10 fe11 fe12
      refine (imok_t _ hg hc hp hm HM).mono ?_
      rintro e w1 ⟨rfl, hb⟩
      replace bE := bE.keep hb
      replace hg := hg.keep hb
      replace hc := hc.keep hb
      replace hp := hp.keep hb
      replace hm := hm.keep hb
      replace B0 := below_step B0 hb
      clear hb
      have fe0 := bE.c 0 rfl
      have fe1 := bE.c 1 rfl
      have fe2 := bE.c 2 rfl
      have fe3 := bE.c 3 rfl
      have fe4 := bE.c 4 rfl
      have fe5 := bE.c 5 rfl
      have fe6 := bE.c 6 rfl
      have fe7 := bE.c 7 rfl
      have fe8 := bE.c 8 rfl
      have fe9 := bE.c 9 rfl
      have fe10 := bE.c 10 rfl
      have fe11 := bE.c 11 rfl
      have fe12 := bE.c 12 rfl
      go_wp2_with fail
      all_goals
        go_ret
        exact ⟨ret_bool (by have q0 := K4.out; have q1 := HM.out; rw [Bool.eq_iff_iff]; (try unfold evB); (try rw [HM.out]); simp [evB, K4.out, HM.out] <;> omega), B0⟩
    · have HM : Hid (mokB gs cs ps ms kn sa ho ix pr bw er = true) := Lib.hid (eq_true_of_ne_false hmc)
      clear hmc
      by_cases e0 : ee = 0
      · have e0b : (ee == 0) = true := by simp [e0]
        have e0n : (ee != 0) = false := by simp [e0]
        have E0 := Lib.hid e0
        clear e0
        go_enter Tryd.func39, Tryd.ntmps39
        have fe0 := bE.c 0 rfl
        have fe1 := bE.c 1 rfl
        have fe2 := bE.c 2 rfl
        have fe3 := bE.c 3 rfl
        have fe4 := bE.c 4 rfl
        have fe5 := bE.c 5 rfl
        have fe6 := bE.c 6 rfl
        have fe7 := bE.c 7 rfl
        have fe8 := bE.c 8 rfl
        have fe9 := bE.c 9 rfl
        have fe10 := bE.c 10 rfl
        have fe11 := bE.c 11 rfl
        have fe12 := bE.c 12 rfl
        go_wp2_with fail
        clear fe0 fe1 fe2 fe3 fe4 fe5 fe6 fe7 fe8 fe9 fe10 fe11 fe12
        refine (imok_t _ hg hc hp hm HM).mono ?_
        rintro e w1 ⟨rfl, hb⟩
        replace bE := bE.keep hb
        replace hg := hg.keep hb
        replace hc := hc.keep hb
        replace hp := hp.keep hb
        replace hm := hm.keep hb
        replace B0 := below_step B0 hb
        clear hb
        have fe0 := bE.c 0 rfl
        have fe1 := bE.c 1 rfl
        have fe2 := bE.c 2 rfl
        have fe3 := bE.c 3 rfl
        have fe4 := bE.c 4 rfl
        have fe5 := bE.c 5 rfl
        have fe6 := bE.c 6 rfl
        have fe7 := bE.c 7 rfl
        have fe8 := bE.c 8 rfl
        have fe9 := bE.c 9 rfl
        have fe10 := bE.c 10 rfl
        have fe11 := bE.c 11 rfl
        have fe12 := bE.c 12 rfl
        go_wp2_with fail
        all_goals
          go_ret
          exact ⟨ret_bool (by have q0 := K4.out; have q1 := HM.out; have q2 := E0.out; rw [Bool.eq_iff_iff]; (try unfold evB); (try rw [HM.out]); simp [evB, K4.out, HM.out, E0.out] <;> omega), B0⟩
      · have e0b : (ee == 0) = false := by simp [e0]
        have e0n : (ee != 0) = true := by simp [e0]
        have E0 := Lib.hid e0
        clear e0
        go_enter Tryd.func39, Tryd.ntmps39
        have fe0 := bE.c 0 rfl
        have fe1 := bE.c 1 rfl
        have fe2 := bE.c 2 rfl
        have fe3 := bE.c 3 rfl
        have fe4 := bE.c 4 rfl
        have fe5 := bE.c 5 rfl
        have fe6 := bE.c 6 rfl
        have fe7 := bE.c 7 rfl
        have fe8 := bE.c 8 rfl
        have fe9 := bE.c 9 rfl
        have fe10 := bE.c 10 rfl
        have fe11 := bE.c 11 rfl
        have fe12 := bE.c 12 rfl
        go_wp2_with fail
        clear fe0 fe1 fe2 fe3 fe4 fe5 fe6 fe7 fe8 fe9 fe10 fe11 fe12
        refine (imok_t _ hg hc hp hm HM).mono ?_
        rintro e w1 ⟨rfl, hb⟩
        replace bE := bE.keep hb
        replace hg := hg.keep hb
        replace hc := hc.keep hb
        replace hp := hp.keep hb
        replace hm := hm.keep hb
        replace B0 := below_step B0 hb
        clear hb
        have fe0 := bE.c 0 rfl
        have fe1 := bE.c 1 rfl
        have fe2 := bE.c 2 rfl
        have fe3 := bE.c 3 rfl
        have fe4 := bE.c 4 rfl
        have fe5 := bE.c 5 rfl
        have fe6 := bE.c 6 rfl
        have fe7 := bE.c 7 rfl
        have fe8 := bE.c 8 rfl
        have fe9 := bE.c 9 rfl
        have fe10 := bE.c 10 rfl
        have fe11 := bE.c 11 rfl
        have fe12 := bE.c 12 rfl
        go_wp2_with fail
        all_goals
          go_ret
          exact ⟨ret_bool (by have q0 := K4.out; have q1 := HM.out; have q2 := E0.out; rw [Bool.eq_iff_iff]; (try unfold evB); (try rw [HM.out]); simp [evB, K4.out, HM.out, E0.out] <;> omega), B0⟩
  · have k4b : (ek == 4) = false := by simp [k4]
    have k4n : (ek != 4) = true := by simp [k4]
    have K4 := Lib.hid k4
    clear k4
    by_cases k6 : ek = 6
    · have k6b : (ek == 6) = true := by simp [k6]
      have k6n : (ek != 6) = false := by simp [k6]
      have K6 := Lib.hid k6
      clear k6
      by_cases hki : 1 ≤ ee ∧ ee ≤ 6
      · have HK : Hid (inB ee 1 6 = true) := Lib.hid (inB_iff.mpr hki)
        obtain ⟨hki1, hki2⟩ := hki
        by_cases hzc : zM gs cs ps ms kn sa ho ix pr bw er = false
        · have HZ := Lib.hid hzc
          clear hzc
          go_enter Tryd.func39, Tryd.ntmps39
          have fe0 := bE.c 0 rfl
          have fe1 := bE.c 1 rfl
          have fe2 := bE.c 2 rfl
          have fe3 := bE.c 3 rfl
          have fe4 := bE.c 4 rfl
          have fe5 := bE.c 5 rfl
          have fe6 := bE.c 6 rfl
          have fe7 := bE.c 7 rfl
          have fe8 := bE.c 8 rfl
          have fe9 := bE.c 9 rfl
          have fe10 := bE.c 10 rfl
          have fe11 := bE.c 11 rfl
          have fe12 := bE.c 12 rfl
          go_wp2_with fail
          clear fe0 fe1 fe2 fe3 fe4 fe5 fe6 fe7 fe8 fe9 fe10 fe11 fe12
          refine (within_t _ HK).mono ?_
          rintro e w1 ⟨rfl, rfl⟩
          have fe0 := bE.c 0 rfl
          have fe1 := bE.c 1 rfl
          have fe2 := bE.c 2 rfl
          have fe3 := bE.c 3 rfl
          have fe4 := bE.c 4 rfl
          have fe5 := bE.c 5 rfl
          have fe6 := bE.c 6 rfl
          have fe7 := bE.c 7 rfl
          have fe8 := bE.c 8 rfl
          have fe9 := bE.c 9 rfl
          have fe10 := bE.c 10 rfl
          have fe11 := bE.c 11 rfl
          have fe12 := bE.c 12 rfl
          go_wp2_with fail
          clear fe0 fe1 fe2 fe3 fe4 fe5 fe6 fe7 fe8 fe9 fe10 fe11 fe12
          refine (izero_t _ hg hc hp hm HZ).mono ?_
          rintro e w1 ⟨rfl, hb⟩
          replace bE := bE.keep hb
          replace hg := hg.keep hb
          replace hc := hc.keep hb
          replace hp := hp.keep hb
          replace hm := hm.keep hb
          replace B0 := below_step B0 hb
          clear hb
          have fe0 := bE.c 0 rfl
          have fe1 := bE.c 1 rfl
          have fe2 := bE.c 2 rfl
          have fe3 := bE.c 3 rfl
          have fe4 := bE.c 4 rfl
          have fe5 := bE.c 5 rfl
          have fe6 := bE.c 6 rfl
          have fe7 := bE.c 7 rfl
          have fe8 := bE.c 8 rfl
          have fe9 := bE.c 9 rfl
          have fe10 := bE.c 10 rfl
          have fe11 := bE.c 11 rfl
          have fe12 := bE.c 12 rfl
          go_wp2_with fail
          all_goals
            go_ret
            exact ⟨ret_bool (by have q0 := K4.out; have q1 := K6.out; have q4 := HZ.out; rw [Bool.eq_iff_iff]; (try unfold evB); (try rw [HZ.out]); simp [evB, K4.out, K6.out, hki1, hki2, HZ.out] <;> omega), B0⟩
        · have HZ : Hid (zM gs cs ps ms kn sa ho ix pr bw er = true) := Lib.hid (eq_true_of_ne_false hzc)
          clear hzc
          go_enter Tryd.func39, Tryd.ntmps39
          have fe0 := bE.c 0 rfl
          have fe1 := bE.c 1 rfl
          have fe2 := bE.c 2 rfl
          have fe3 := bE.c 3 rfl
          have fe4 := bE.c 4 rfl
          have fe5 := bE.c 5 rfl
          have fe6 := bE.c 6 rfl
          have fe7 := bE.c 7 rfl
          have fe8 := bE.c 8 rfl
          have fe9 := bE.c 9 rfl
          have fe10 := bE.c 10 rfl
          have fe11 := bE.c 11 rfl
          have fe12 := bE.c 12 rfl
          go_wp2_with fail
          clear fe0 fe1 fe2 fe3 fe4 fe5 fe6 fe7 fe8 fe9 fe10 fe11 fe12
          refine (within_t _ HK).mono ?_
          rintro e w1 ⟨rfl, rfl⟩
          have fe0 := bE.c 0 rfl
          have fe1 := bE.c 1 rfl
          have fe2 := bE.c 2 rfl
          have fe3 := bE.c 3 rfl
          have fe4 := bE.c 4 rfl
          have fe5 := bE.c 5 rfl
          have fe6 := bE.c 6 rfl
          have fe7 := bE.c 7 rfl
          have fe8 := bE.c 8 rfl
          have fe9 := bE.c 9 rfl
          have fe10 := bE.c 10 rfl
          have fe11 := bE.c 11 rfl
          have fe12 := bE.c 12 rfl
          go_wp2_with fail
          clear fe0 fe1 fe2 fe3 fe4 fe5 fe6 fe7 fe8 fe9 fe10 fe11 fe12
          refine (izero_t _ hg hc hp hm HZ).mono ?_
          rintro e w1 ⟨rfl, hb⟩
          replace bE := bE.keep hb
          replace hg := hg.keep hb
          replace hc := hc.keep hb
          replace hp := hp.keep hb
          replace hm := hm.keep hb
          replace B0 := below_step B0 hb
          clear hb
          have fe0 := bE.c 0 rfl
          have fe1 := bE.c 1 rfl
          have fe2 := bE.c 2 rfl
          have fe3 := bE.c 3 rfl
          have fe4 := bE.c 4 rfl
          have fe5 := bE.c 5 rfl
          have fe6 := bE.c 6 rfl
          have fe7 := bE.c 7 rfl
          have fe8 := bE.c 8 rfl
          have fe9 := bE.c 9 rfl
          have fe10 := bE.c 10 rfl
          have fe11 := bE.c 11 rfl
          have fe12 := bE.c 12 rfl
          go_wp2_with fail
          all_goals
            go_ret
            exact ⟨ret_bool (by have q0 := K4.out; have q1 := K6.out; have q4 := HZ.out; rw [Bool.eq_iff_iff]; (try unfold evB); (try rw [HZ.out]); simp [evB, K4.out, K6.out, hki1, hki2, HZ.out] <;> omega), B0⟩
      · have HK : Hid (inB ee 1 6 = false) := Lib.hid (by simp [inB]; omega)
        have HKn := Lib.hid hki
        clear hki
        go_enter Tryd.func39, Tryd.ntmps39
        have fe0 := bE.c 0 rfl
        have fe1 := bE.c 1 rfl
        have fe2 := bE.c 2 rfl
        have fe3 := bE.c 3 rfl
        have fe4 := bE.c 4 rfl
        have fe5 := bE.c 5 rfl
        have fe6 := bE.c 6 rfl
        have fe7 := bE.c 7 rfl
        have fe8 := bE.c 8 rfl
        have fe9 := bE.c 9 rfl
        have fe10 := bE.c 10 rfl
        have fe11 := bE.c 11 rfl
        have fe12 := bE.c 12 rfl
        go_wp2_with fail
        clear fe0 fe1 fe2 fe3 fe4 fe5 fe6 fe7 fe8 fe9 fe10 fe11 fe12
        refine (within_t _ HK).mono ?_
        rintro e w1 ⟨rfl, rfl⟩
        have fe0 := bE.c 0 rfl
        have fe1 := bE.c 1 rfl
        have fe2 := bE.c 2 rfl
        have fe3 := bE.c 3 rfl
        have fe4 := bE.c 4 rfl
        have fe5 := bE.c 5 rfl
        have fe6 := bE.c 6 rfl
        have fe7 := bE.c 7 rfl
        have fe8 := bE.c 8 rfl
        have fe9 := bE.c 9 rfl
        have fe10 := bE.c 10 rfl
        have fe11 := bE.c 11 rfl
        have fe12 := bE.c 12 rfl
        go_wp2_with fail
        all_goals
          go_ret
          exact ⟨ret_bool (by have q0 := K4.out; have q1 := K6.out; have q2 := HKn.out; rw [Bool.eq_iff_iff]; (try unfold evB); simp [evB, K4.out, K6.out, HKn.out] <;> omega), B0⟩
    · have k6b : (ek == 6) = false := by simp [k6]
      have k6n : (ek != 6) = true := by simp [k6]
      have K6 := Lib.hid k6
      clear k6
      by_cases hii : 0 ≤ ek ∧ ek ≤ 6
      · have HI : Hid (inB ek 0 6 = true) := Lib.hid (inB_iff.mpr hii)
        obtain ⟨hii1, hii2⟩ := hii
        by_cases e0 : ee = 0
        · have e0b : (ee == 0) = true := by simp [e0]
          have e0n : (ee != 0) = false := by simp [e0]
          have E0 := Lib.hid e0
          clear e0
          by_cases hzc : zM gs cs ps ms kn sa ho ix pr bw er = false
          · have HZ := Lib.hid hzc
            clear hzc
            go_enter Tryd.func39, Tryd.ntmps39
            have fe0 := bE.c 0 rfl
            have fe1 := bE.c 1 rfl
            have fe2 := bE.c 2 rfl
            have fe3 := bE.c 3 rfl
            have fe4 := bE.c 4 rfl
            have fe5 := bE.c 5 rfl
            have fe6 := bE.c 6 rfl
            have fe7 := bE.c 7 rfl
            have fe8 := bE.c 8 rfl
            have fe9 := bE.c 9 rfl
            have fe10 := bE.c 10 rfl
            have fe11 := bE.c 11 rfl
            have fe12 := bE.c 12 rfl
            go_wp2_with fail
            clear fe0 fe1 fe2 fe3 fe4 fe5 fe6 fe7 fe8 fe9 fe10 fe11 fe12
            refine (within_t _ HI).mono ?_
            rintro e w1 ⟨rfl, rfl⟩
            have fe0 := bE.c 0 rfl
            have fe1 := bE.c 1 rfl
            have fe2 := bE.c 2 rfl
            have fe3 := bE.c 3 rfl
            have fe4 := bE.c 4 rfl
            have fe5 := bE.c 5 rfl
            have fe6 := bE.c 6 rfl
            have fe7 := bE.c 7 rfl
            have fe8 := bE.c 8 rfl
            have fe9 := bE.c 9 rfl
            have fe10 := bE.c 10 rfl
            have fe11 := bE.c 11 rfl
            have fe12 := bE.c 12 rfl
            go_wp2_with fail
            clear fe0 fe1 fe2 fe3 fe4 fe5 fe6 fe7 fe8 fe9 fe10 fe11 fe12
            refine (izero_t _ hg hc hp hm HZ).mono ?_
            rintro e w1 ⟨rfl, hb⟩
            replace bE := bE.keep hb
            replace hg := hg.keep hb
            replace hc := hc.keep hb
            replace hp := hp.keep hb
            replace hm := hm.keep hb
            replace B0 := below_step B0 hb
            clear hb
            have fe0 := bE.c 0 rfl
            have fe1 := bE.c 1 rfl
            have fe2 := bE.c 2 rfl
            have fe3 := bE.c 3 rfl
            have fe4 := bE.c 4 rfl
            have fe5 := bE.c 5 rfl
            have fe6 := bE.c 6 rfl
            have fe7 := bE.c 7 rfl
            have fe8 := bE.c 8 rfl
            have fe9 := bE.c 9 rfl
            have fe10 := bE.c 10 rfl
            have fe11 := bE.c 11 rfl
            have fe12 := bE.c 12 rfl
            go_wp2_with fail
            all_goals
              go_ret
              exact ⟨ret_bool (by have q0 := K4.out; have q1 := K6.out; have q4 := E0.out; have q5 := HZ.out; rw [Bool.eq_iff_iff]; (try unfold evB); (try rw [HZ.out]); simp [evB, K4.out, K6.out, hii1, hii2, E0.out, HZ.out] <;> omega), B0⟩
          · have HZ : Hid (zM gs cs ps ms kn sa ho ix pr bw er = true) := Lib.hid (eq_true_of_ne_false hzc)
            clear hzc
            go_enter Tryd.func39, Tryd.ntmps39
            have fe0 := bE.c 0 rfl
            have fe1 := bE.c 1 rfl
            have fe2 := bE.c 2 rfl
            have fe3 := bE.c 3 rfl
            have fe4 := bE.c 4 rfl
            have fe5 := bE.c 5 rfl
            have fe6 := bE.c 6 rfl
            have fe7 := bE.c 7 rfl
            have fe8 := bE.c 8 rfl
            have fe9 := bE.c 9 rfl
            have fe10 := bE.c 10 rfl
            have fe11 := bE.c 11 rfl
            have fe12 := bE.c 12 rfl
            go_wp2_with fail
            clear fe0 fe1 fe2 fe3 fe4 fe5 fe6 fe7 fe8 fe9 fe10 fe11 fe12
            refine (within_t _ HI).mono ?_
            rintro e w1 ⟨rfl, rfl⟩
            have fe0 := bE.c 0 rfl
            have fe1 := bE.c 1 rfl
            have fe2 := bE.c 2 rfl
            have fe3 := bE.c 3 rfl
            have fe4 := bE.c 4 rfl
            have fe5 := bE.c 5 rfl
            have fe6 := bE.c 6 rfl
            have fe7 := bE.c 7 rfl
            have fe8 := bE.c 8 rfl
            have fe9 := bE.c 9 rfl
            have fe10 := bE.c 10 rfl
            have fe11 := bE.c 11 rfl
            have fe12 := bE.c 12 rfl
            go_wp2_with fail
            clear fe0 fe1 fe2 fe3 fe4 fe5 fe6 fe7 fe8 fe9 fe10 fe11 fe12
            refine (izero_t _ hg hc hp hm HZ).mono ?_
            rintro e w1 ⟨rfl, hb⟩
            replace bE := bE.keep hb
            replace hg := hg.keep hb
            replace hc := hc.keep hb
            replace hp := hp.keep hb
            replace hm := hm.keep hb
            replace B0 := below_step B0 hb
            clear hb
            have fe0 := bE.c 0 rfl
            have fe1 := bE.c 1 rfl
            have fe2 := bE.c 2 rfl
            have fe3 := bE.c 3 rfl
            have fe4 := bE.c 4 rfl
            have fe5 := bE.c 5 rfl
            have fe6 := bE.c 6 rfl
            have fe7 := bE.c 7 rfl
            have fe8 := bE.c 8 rfl
            have fe9 := bE.c 9 rfl
            have fe10 := bE.c 10 rfl
            have fe11 := bE.c 11 rfl
            have fe12 := bE.c 12 rfl
            go_wp2_with fail
            all_goals
              go_ret
              exact ⟨ret_bool (by have q0 := K4.out; have q1 := K6.out; have q4 := E0.out; have q5 := HZ.out; rw [Bool.eq_iff_iff]; (try unfold evB); (try rw [HZ.out]); simp [evB, K4.out, K6.out, hii1, hii2, E0.out, HZ.out] <;> omega), B0⟩
        · have e0b : (ee == 0) = false := by simp [e0]
          have e0n : (ee != 0) = true := by simp [e0]
          have E0 := Lib.hid e0
          clear e0
          go_enter Tryd.func39, Tryd.ntmps39
          have fe0 := bE.c 0 rfl
          have fe1 := bE.c 1 rfl
          have fe2 := bE.c 2 rfl
          have fe3 := bE.c 3 rfl
          have fe4 := bE.c 4 rfl
          have fe5 := bE.c 5 rfl
          have fe6 := bE.c 6 rfl
          have fe7 := bE.c 7 rfl
          have fe8 := bE.c 8 rfl
          have fe9 := bE.c 9 rfl
          have fe10 := bE.c 10 rfl
          have fe11 := bE.c 11 rfl
          have fe12 := bE.c 12 rfl
          go_wp2_with fail
          clear fe0 fe1 fe2 fe3 fe4 fe5 fe6 fe7 fe8 fe9 fe10 fe11 fe12
          refine (within_t _ HI).mono ?_
          rintro e w1 ⟨rfl, rfl⟩
          have fe0 := bE.c 0 rfl
          have fe1 := bE.c 1 rfl
          have fe2 := bE.c 2 rfl
          have fe3 := bE.c 3 rfl
          have fe4 := bE.c 4 rfl
          have fe5 := bE.c 5 rfl
          have fe6 := bE.c 6 rfl
          have fe7 := bE.c 7 rfl
          have fe8 := bE.c 8 rfl
          have fe9 := bE.c 9 rfl
          have fe10 := bE.c 10 rfl
          have fe11 := bE.c 11 rfl
          have fe12 := bE.c 12 rfl
          go_wp2_with fail
          all_goals
            go_ret
            exact ⟨ret_bool (by have q0 := K4.out; have q1 := K6.out; have q4 := E0.out; rw [Bool.eq_iff_iff]; (try unfold evB); simp [evB, K4.out, K6.out, hii1, hii2, E0.out] <;> omega), B0⟩
      · have HI : Hid (inB ek 0 6 = false) := Lib.hid (by simp [inB]; omega)
        have HIn := Lib.hid hii
        clear hii
        go_enter Tryd.func39, Tryd.ntmps39
        have fe0 := bE.c 0 rfl
        have fe1 := bE.c 1 rfl
        have fe2 := bE.c 2 rfl
        have fe3 := bE.c 3 rfl
        have fe4 := bE.c 4 rfl
        have fe5 := bE.c 5 rfl
        have fe6 := bE.c 6 rfl
        have fe7 := bE.c 7 rfl
        have fe8 := bE.c 8 rfl
        have fe9 := bE.c 9 rfl
        have fe10 := bE.c 10 rfl
        have fe11 := bE.c 11 rfl
        have fe12 := bE.c 12 rfl
        go_wp2_with fail
        clear fe0 fe1 fe2 fe3 fe4 fe5 fe6 fe7 fe8 fe9 fe10 fe11 fe12
        refine (within_t _ HI).mono ?_
        rintro e w1 ⟨rfl, rfl⟩
        have fe0 := bE.c 0 rfl
        have fe1 := bE.c 1 rfl
        have fe2 := bE.c 2 rfl
        have fe3 := bE.c 3 rfl
        have fe4 := bE.c 4 rfl
        have fe5 := bE.c 5 rfl
        have fe6 := bE.c 6 rfl
        have fe7 := bE.c 7 rfl
        have fe8 := bE.c 8 rfl
        have fe9 := bE.c 9 rfl
        have fe10 := bE.c 10 rfl
        have fe11 := bE.c 11 rfl
        have fe12 := bE.c 12 rfl
        go_wp2_with fail
        all_goals
          go_ret
          exact ⟨ret_bool (by have q0 := K4.out; have q1 := K6.out; have q2 := HIn.out; rw [Bool.eq_iff_iff]; (try unfold evB); simp [evB, K4.out, K6.out, HIn.out] <;> omega), B0⟩
theorem iEv_t {ga ca pa ma : Option Addr} {gx cx px mx : Nat} {gs cs : List (Int × Int)} {ps ms : List Int} {ek ee kn sa ho ix pr bw er : Int} {b : Bool} (w : World) (hg : RdP w (.slice ga gs.length gx) gs) (hc : RdP w (.slice ca cs.length cx) cs) (hp : RdI w (.slice pa ps.length px) ps) (hm : RdI w (.slice ma ms.length mx) ms) (H : Hid (evB gs cs ps ms ek ee kn sa ho ix pr bw er = b)) : Calls Tryd.prog 39 #[.agg #[.int .i64 ek, .int .i64 kn, .int .i64 sa, .int .i64 ho, .int .i64 ix, .slice ga gs.length gx, .slice ca cs.length cx, .slice pa ps.length px, .int .i64 pr, .slice ma ms.length mx, .int .i64 bw, .int .i64 er, .int .i64 ee]] w fun e w' => e = .returned (.bool b) ∧ Below w.heap.size w w' := H.out ▸ iEv_any ga ca pa ma gx cx px mx gs cs ps ms ek ee kn sa ho ix pr bw er w hg hc hp hm
end Go.Proofs.YtcmbajphholliabDoor
