/-
  Contracts of EventOk of the program and of the model. Conditions: those in each contract.
-/
import Derived.Test.YtaffcicgljoajaaGreatDoorS6
namespace Go.Proofs.YtaffcicgljoajaaGreatDoor
open Go.ChangeShapes Go.WideShapes Go.ChangeAt Go.RowKit Go.BigFrame Go.Joins
set_option linter.unusedVariables false
set_option maxRecDepth 100000
set_option linter.unusedSimpArgs false

/-- every field of the message is zero -/
def zM (gs cs : List (Int × Int)) (ps ms : List Int) (kn sa ho ix pr bw er : Int) : Bool := decide (kn = 0 ∧ sa = 0 ∧ ho = 0 ∧ ix = 0 ∧ er = 0 ∧ (gs.length : Int) + cs.length = 0 ∧ zA ps ms pr bw = true)
/-- the event is valid -/
def evB (gs cs : List (Int × Int)) (ps ms : List Int) (ek ee kn sa ho ix pr bw er : Int) : Bool :=
  decide (0 ≤ ek ∧ ek ≤ 6 ∧ (ek = 6 → 1 ≤ ee ∧ ee ≤ 6) ∧ (¬ ek = 6 → ee = 0) ∧ (ek = 4 → mokB gs cs ps ms kn sa ho ix pr bw er = true) ∧ (¬ ek = 4 → zM gs cs ps ms kn sa ho ix pr bw er = true))
theorem zM_same (gs cs : List (Int × Int)) (ps ms : List Int) (kn sa ho ix pr bw er : Int) : zM gs cs ps ms kn sa ho ix pr bw er = sameB gs cs [] [] ps ms [] [] kn sa ho ix pr bw er 0 0 0 0 0 0 0 := by
  rw [Bool.eq_iff_iff]
  unfold zM sameB
  simp only [decide_eq_true_eq, zA_iff]
  constructor
  · rintro ⟨h1, h2, h3, h4, h5, h6, h7, h8, h9, h10⟩
    exact ⟨h1, h2, h3, h4, h5, List.eq_nil_of_length_eq_zero (by omega), List.eq_nil_of_length_eq_zero (by omega), h9, h7, h10, h8⟩
  · rintro ⟨h1, h2, h3, h4, h5, rfl, rfl, h9, h7, h10, h8⟩
    exact ⟨h1, h2, h3, h4, h5, by simp, h7, h8, h9, h10⟩
theorem izero_t {ga ca pa ma : Option Addr} {gx cx px mx : Nat} {gs cs : List (Int × Int)} {ps ms : List Int} {kn sa ho ix pr bw er : Int} {b : Bool} (w : World) (hg : RdP w (.slice ga gs.length gx) gs) (hc : RdP w (.slice ca cs.length cx) cs) (hp : RdI w (.slice pa ps.length px) ps) (hm : RdI w (.slice ma ms.length mx) ms) (H : Hid (zM gs cs ps ms kn sa ho ix pr bw er = b)) :
    Calls Tryz.prog 39 #[.agg #[.int .i64 kn, .int .i64 sa, .int .i64 ho, .int .i64 ix, .slice ga gs.length gx, .slice ca cs.length cx, .slice pa ps.length px, .int .i64 pr, .slice ma ms.length mx, .int .i64 bw, .int .i64 er], .agg #[.int .i64 0, .int .i64 0, .int .i64 0, .int .i64 0, .slice none 0 0, .slice none 0 0, .slice none 0 0, .int .i64 0, .slice none 0 0, .int .i64 0, .int .i64 0]] w fun e w' => e = .returned (.bool b) ∧ Below w.heap.size w w' :=
  isameM_t w hg hc hp hm (RdP.nil w) (RdP.nil w) (RdI.nil w) (RdI.nil w) (Lib.hid ((zM_same gs cs ps ms kn sa ho ix pr bw er).symm.trans H.out))
set_option maxHeartbeats 8000000 in
theorem iEv_any (ga ca pa ma : Option Addr) (gx cx px mx : Nat) (gs cs : List (Int × Int)) (ps ms : List Int) (ek ee kn sa ho ix pr bw er : Int) (w : World) (hg : RdP w (.slice ga gs.length gx) gs) (hc : RdP w (.slice ca cs.length cx) cs) (hp : RdI w (.slice pa ps.length px) ps) (hm : RdI w (.slice ma ms.length mx) ms) : Calls Tryz.prog 12 #[.agg #[.int .i64 ek, .int .i64 kn, .int .i64 sa, .int .i64 ho, .int .i64 ix, .slice ga gs.length gx, .slice ca cs.length cx, .slice pa ps.length px, .int .i64 pr, .slice ma ms.length mx, .int .i64 bw, .int .i64 er, .int .i64 ee]] w fun e w' => e = .returned (.bool (evB gs cs ps ms ek ee kn sa ho ix pr bw er)) ∧ Below w.heap.size w w' := by
  obtain ⟨bE, B0, z⟩ := one w [.int .i64 ek, .int .i64 kn, .int .i64 sa, .int .i64 ho, .int .i64 ix, .slice ga gs.length gx, .slice ca cs.length cx, .slice pa ps.length px, .int .i64 pr, .slice ma ms.length mx, .int .i64 bw, .int .i64 er, .int .i64 ee] 34
  replace hg := hg.keep B0
  replace hc := hc.keep B0
  replace hp := hp.keep B0
  replace hm := hm.keep B0
  clear z
  by_cases k4 : ek = 4
  · have k4b : (ek == 4) = true := by simp [k4]
    have k4n : (ek != 4) = false := by simp [k4]
    have K4 := Lib.hid k4
    clear k4
    by_cases hmc : mokB gs cs ps ms kn sa ho ix pr bw er = false
    · have HM := Lib.hid hmc
      clear hmc
      go_enter Tryz.func12, Tryz.ntmps12
      have fe0 := bE.c 0 rfl
      have fe1 := bE.c 1 rfl
      have fe2 := bE.c 2 rfl
      have fe3 := bE.c 3 rfl
      have fe4 := bE.c 4 rfl
      have fe5 := bE.c 5 rfl
      have fe6 := bE.c 6 rfl
      have fe7 := bE.c 7 rfl
      have fe8 := bE.c 8 rfl
      have fe9 := bE.c 9 rfl
      have fe10 := bE.c 10 rfl
      have fe11 := bE.c 11 rfl
      have fe12 := bE.c 12 rfl
      go_wp2_with fail
      clear fe0 fe1 fe2 fe3 fe4 fe5 fe6 fe7 fe8 fe9 fe10 fe11 fe12
      refine (imok_t _ hg hc hp hm HM).mono ?_
      rintro e w1 ⟨rfl, hb⟩
      replace bE := bE.keep hb
      replace hg := hg.keep hb
      replace hc := hc.keep hb
      replace hp := hp.keep hb
      replace hm := hm.keep hb
      replace B0 := below_step B0 hb
      clear hb
      have fe0 := bE.c 0 rfl
      have fe1 := bE.c 1 rfl
      have fe2 := bE.c 2 rfl
      have fe3 := bE.c 3 rfl
      have fe4 := bE.c 4 rfl
      have fe5 := bE.c 5 rfl
      have fe6 := bE.c 6 rfl
      have fe7 := bE.c 7 rfl
      have fe8 := bE.c 8 rfl
      have fe9 := bE.c 9 rfl
      have fe10 := bE.c 10 rfl
      have fe11 := bE.c 11 rfl
      have fe12 := bE.c 12 rfl
      go_wp2_with fail
      all_goals
        go_ret
        exact ⟨ret_bool (by have q0 := K4.out; have q1 := HM.out; rw [Bool.eq_iff_iff]; (try unfold evB); (try rw [HM.out]); simp [evB, K4.out, HM.out] <;> omega), B0⟩
    · have HM : Hid (mokB gs cs ps ms kn sa ho ix pr bw er = true) := Lib.hid (eq_true_of_ne_false hmc)
      clear hmc
      by_cases e0 : ee = 0
      · have e0b : (ee == 0) = true := by simp [e0]
        have e0n : (ee != 0) = false := by simp [e0]
        have E0 := Lib.hid e0
        clear e0
        go_enter Tryz.func12, Tryz.ntmps12
        have fe0 := bE.c 0 rfl
        have fe1 := bE.c 1 rfl
        have fe2 := bE.c 2 rfl
        have fe3 := bE.c 3 rfl
        have fe4 := bE.c 4 rfl
        have fe5 := bE.c 5 rfl
        have fe6 := bE.c 6 rfl
        have fe7 := bE.c 7 rfl
        have fe8 := bE.c 8 rfl
        have fe9 := bE.c 9 rfl
        have fe10 := bE.c 10 rfl
        have fe11 := bE.c 11 rfl
        have fe12 := bE.c 12 rfl
        go_wp2_with fail
        clear fe0 fe1 fe2 fe3 fe4 fe5 fe6 fe7 fe8 fe9 fe10 fe11 fe12
        refine (imok_t _ hg hc hp hm HM).mono ?_
        rintro e w1 ⟨rfl, hb⟩
        replace bE := bE.keep hb
        replace hg := hg.keep hb
        replace hc := hc.keep hb
        replace hp := hp.keep hb
        replace hm := hm.keep hb
        replace B0 := below_step B0 hb
        clear hb
        have fe0 := bE.c 0 rfl
        have fe1 := bE.c 1 rfl
        have fe2 := bE.c 2 rfl
        have fe3 := bE.c 3 rfl
        have fe4 := bE.c 4 rfl
        have fe5 := bE.c 5 rfl
        have fe6 := bE.c 6 rfl
        have fe7 := bE.c 7 rfl
        have fe8 := bE.c 8 rfl
        have fe9 := bE.c 9 rfl
        have fe10 := bE.c 10 rfl
        have fe11 := bE.c 11 rfl
        have fe12 := bE.c 12 rfl
        go_wp2_with fail
        all_goals
          go_ret
          exact ⟨ret_bool (by have q0 := K4.out; have q1 := HM.out; have q2 := E0.out; rw [Bool.eq_iff_iff]; (try unfold evB); (try rw [HM.out]); simp [evB, K4.out, HM.out, E0.out] <;> omega), B0⟩
      · have e0b : (ee == 0) = false := by simp [e0]
        have e0n : (ee != 0) = true := by simp [e0]
        have E0 := Lib.hid e0
        clear e0
        go_enter Tryz.func12, Tryz.ntmps12
        have fe0 := bE.c 0 rfl
        have fe1 := bE.c 1 rfl
        have fe2 := bE.c 2 rfl
        have fe3 := bE.c 3 rfl
        have fe4 := bE.c 4 rfl
        have fe5 := bE.c 5 rfl
        have fe6 := bE.c 6 rfl
        have fe7 := bE.c 7 rfl
        have fe8 := bE.c 8 rfl
        have fe9 := bE.c 9 rfl
        have fe10 := bE.c 10 rfl
        have fe11 := bE.c 11 rfl
        have fe12 := bE.c 12 rfl
        go_wp2_with fail
        clear fe0 fe1 fe2 fe3 fe4 fe5 fe6 fe7 fe8 fe9 fe10 fe11 fe12
        refine (imok_t _ hg hc hp hm HM).mono ?_
        rintro e w1 ⟨rfl, hb⟩
        replace bE := bE.keep hb
        replace hg := hg.keep hb
        replace hc := hc.keep hb
        replace hp := hp.keep hb
        replace hm := hm.keep hb
        replace B0 := below_step B0 hb
        clear hb
        have fe0 := bE.c 0 rfl
        have fe1 := bE.c 1 rfl
        have fe2 := bE.c 2 rfl
        have fe3 := bE.c 3 rfl
        have fe4 := bE.c 4 rfl
        have fe5 := bE.c 5 rfl
        have fe6 := bE.c 6 rfl
        have fe7 := bE.c 7 rfl
        have fe8 := bE.c 8 rfl
        have fe9 := bE.c 9 rfl
        have fe10 := bE.c 10 rfl
        have fe11 := bE.c 11 rfl
        have fe12 := bE.c 12 rfl
        go_wp2_with fail
        all_goals
          go_ret
          exact ⟨ret_bool (by have q0 := K4.out; have q1 := HM.out; have q2 := E0.out; rw [Bool.eq_iff_iff]; (try unfold evB); (try rw [HM.out]); simp [evB, K4.out, HM.out, E0.out] <;> omega), B0⟩
  · have k4b : (ek == 4) = false := by simp [k4]
    have k4n : (ek != 4) = true := by simp [k4]
    have K4 := Lib.hid k4
    clear k4
    by_cases k6 : ek = 6
    · have k6b : (ek == 6) = true := by simp [k6]
      have k6n : (ek != 6) = false := by simp [k6]
      have K6 := Lib.hid k6
      clear k6
      by_cases hki : 1 ≤ ee ∧ ee ≤ 6
      · have HK : Hid (inB ee 1 6 = true) := Lib.hid (inB_iff.mpr hki)
        obtain ⟨hki1, hki2⟩ := hki
        by_cases hzc : zM gs cs ps ms kn sa ho ix pr bw er = false
        · have HZ := Lib.hid hzc
          clear hzc
          go_enter Tryz.func12, Tryz.ntmps12
          have fe0 := bE.c 0 rfl
          have fe1 := bE.c 1 rfl
          have fe2 := bE.c 2 rfl
          have fe3 := bE.c 3 rfl
          have fe4 := bE.c 4 rfl
          have fe5 := bE.c 5 rfl
          have fe6 := bE.c 6 rfl
          have fe7 := bE.c 7 rfl
          have fe8 := bE.c 8 rfl
          have fe9 := bE.c 9 rfl
          have fe10 := bE.c 10 rfl
          have fe11 := bE.c 11 rfl
          have fe12 := bE.c 12 rfl
          go_wp2_with fail
          clear fe0 fe1 fe2 fe3 fe4 fe5 fe6 fe7 fe8 fe9 fe10 fe11 fe12
          refine (within_t _ HK).mono ?_
          rintro e w1 ⟨rfl, rfl⟩
          have fe0 := bE.c 0 rfl
          have fe1 := bE.c 1 rfl
          have fe2 := bE.c 2 rfl
          have fe3 := bE.c 3 rfl
          have fe4 := bE.c 4 rfl
          have fe5 := bE.c 5 rfl
          have fe6 := bE.c 6 rfl
          have fe7 := bE.c 7 rfl
          have fe8 := bE.c 8 rfl
          have fe9 := bE.c 9 rfl
          have fe10 := bE.c 10 rfl
          have fe11 := bE.c 11 rfl
          have fe12 := bE.c 12 rfl
          go_wp2_with fail
          clear fe0 fe1 fe2 fe3 fe4 fe5 fe6 fe7 fe8 fe9 fe10 fe11 fe12
          refine (izero_t _ hg hc hp hm HZ).mono ?_
          rintro e w1 ⟨rfl, hb⟩
          replace bE := bE.keep hb
          replace hg := hg.keep hb
          replace hc := hc.keep hb
          replace hp := hp.keep hb
          replace hm := hm.keep hb
          replace B0 := below_step B0 hb
          clear hb
          have fe0 := bE.c 0 rfl
          have fe1 := bE.c 1 rfl
          have fe2 := bE.c 2 rfl
          have fe3 := bE.c 3 rfl
          have fe4 := bE.c 4 rfl
          have fe5 := bE.c 5 rfl
          have fe6 := bE.c 6 rfl
          have fe7 := bE.c 7 rfl
          have fe8 := bE.c 8 rfl
          have fe9 := bE.c 9 rfl
          have fe10 := bE.c 10 rfl
          have fe11 := bE.c 11 rfl
          have fe12 := bE.c 12 rfl
          go_wp2_with fail
          all_goals
            go_ret
            exact ⟨ret_bool (by have q0 := K4.out; have q1 := K6.out; have q4 := HZ.out; rw [Bool.eq_iff_iff]; (try unfold evB); (try rw [HZ.out]); simp [evB, K4.out, K6.out, hki1, hki2, HZ.out] <;> omega), B0⟩
        · have HZ : Hid (zM gs cs ps ms kn sa ho ix pr bw er = true) := Lib.hid (eq_true_of_ne_false hzc)
          clear hzc
          go_enter Tryz.func12, Tryz.ntmps12
          have fe0 := bE.c 0 rfl
          have fe1 := bE.c 1 rfl
          have fe2 := bE.c 2 rfl
          have fe3 := bE.c 3 rfl
          have fe4 := bE.c 4 rfl
          have fe5 := bE.c 5 rfl
          have fe6 := bE.c 6 rfl
          have fe7 := bE.c 7 rfl
          have fe8 := bE.c 8 rfl
          have fe9 := bE.c 9 rfl
          have fe10 := bE.c 10 rfl
          have fe11 := bE.c 11 rfl
          have fe12 := bE.c 12 rfl
          go_wp2_with fail
          clear fe0 fe1 fe2 fe3 fe4 fe5 fe6 fe7 fe8 fe9 fe10 fe11 fe12
          refine (within_t _ HK).mono ?_
          rintro e w1 ⟨rfl, rfl⟩
          have fe0 := bE.c 0 rfl
          have fe1 := bE.c 1 rfl
          have fe2 := bE.c 2 rfl
          have fe3 := bE.c 3 rfl
          have fe4 := bE.c 4 rfl
          have fe5 := bE.c 5 rfl
          have fe6 := bE.c 6 rfl
          have fe7 := bE.c 7 rfl
          have fe8 := bE.c 8 rfl
          have fe9 := bE.c 9 rfl
          have fe10 := bE.c 10 rfl
          have fe11 := bE.c 11 rfl
          have fe12 := bE.c 12 rfl
          go_wp2_with fail
          clear fe0 fe1 fe2 fe3 fe4 fe5 fe6 fe7 fe8 fe9 fe10 fe11 fe12
          refine (izero_t _ hg hc hp hm HZ).mono ?_
          rintro e w1 ⟨rfl, hb⟩
          replace bE := bE.keep hb
          replace hg := hg.keep hb
          replace hc := hc.keep hb
          replace hp := hp.keep hb
          replace hm := hm.keep hb
          replace B0 := below_step B0 hb
          clear hb
          have fe0 := bE.c 0 rfl
          have fe1 := bE.c 1 rfl
          have fe2 := bE.c 2 rfl
          have fe3 := bE.c 3 rfl
          have fe4 := bE.c 4 rfl
          have fe5 := bE.c 5 rfl
          have fe6 := bE.c 6 rfl
          have fe7 := bE.c 7 rfl
          have fe8 := bE.c 8 rfl
          have fe9 := bE.c 9 rfl
          have fe10 := bE.c 10 rfl
          have fe11 := bE.c 11 rfl
          have fe12 := bE.c 12 rfl
          go_wp2_with fail
          all_goals
            go_ret
            exact ⟨ret_bool (by have q0 := K4.out; have q1 := K6.out; have q4 := HZ.out; rw [Bool.eq_iff_iff]; (try unfold evB); (try rw [HZ.out]); simp [evB, K4.out, K6.out, hki1, hki2, HZ.out] <;> omega), B0⟩
      · have HK : Hid (inB ee 1 6 = false) := Lib.hid (by simp [inB]; omega)
        have HKn := Lib.hid hki
        clear hki
        go_enter Tryz.func12, Tryz.ntmps12
        have fe0 := bE.c 0 rfl
        have fe1 := bE.c 1 rfl
        have fe2 := bE.c 2 rfl
        have fe3 := bE.c 3 rfl
        have fe4 := bE.c 4 rfl
        have fe5 := bE.c 5 rfl
        have fe6 := bE.c 6 rfl
        have fe7 := bE.c 7 rfl
        have fe8 := bE.c 8 rfl
        have fe9 := bE.c 9 rfl
        have fe10 := bE.c 10 rfl
        have fe11 := bE.c 11 rfl
        have fe12 := bE.c 12 rfl
        go_wp2_with fail
        clear fe0 fe1 fe2 fe3 fe4 fe5 fe6 fe7 fe8 fe9 fe10 fe11 fe12
        refine (within_t _ HK).mono ?_
        rintro e w1 ⟨rfl, rfl⟩
        have fe0 := bE.c 0 rfl
        have fe1 := bE.c 1 rfl
        have fe2 := bE.c 2 rfl
        have fe3 := bE.c 3 rfl
        have fe4 := bE.c 4 rfl
        have fe5 := bE.c 5 rfl
        have fe6 := bE.c 6 rfl
        have fe7 := bE.c 7 rfl
        have fe8 := bE.c 8 rfl
        have fe9 := bE.c 9 rfl
        have fe10 := bE.c 10 rfl
        have fe11 := bE.c 11 rfl
        have fe12 := bE.c 12 rfl
        go_wp2_with fail
        all_goals
          go_ret
          exact ⟨ret_bool (by have q0 := K4.out; have q1 := K6.out; have q2 := HKn.out; rw [Bool.eq_iff_iff]; (try unfold evB); simp [evB, K4.out, K6.out, HKn.out] <;> omega), B0⟩
    · have k6b : (ek == 6) = false := by simp [k6]
      have k6n : (ek != 6) = true := by simp [k6]
      have K6 := Lib.hid k6
      clear k6
      by_cases hii : 0 ≤ ek ∧ ek ≤ 6
      · have HI : Hid (inB ek 0 6 = true) := Lib.hid (inB_iff.mpr hii)
        obtain ⟨hii1, hii2⟩ := hii
        by_cases e0 : ee = 0
        · have e0b : (ee == 0) = true := by simp [e0]
          have e0n : (ee != 0) = false := by simp [e0]
          have E0 := Lib.hid e0
          clear e0
          by_cases hzc : zM gs cs ps ms kn sa ho ix pr bw er = false
          · have HZ := Lib.hid hzc
            clear hzc
            go_enter Tryz.func12, Tryz.ntmps12
            have fe0 := bE.c 0 rfl
            have fe1 := bE.c 1 rfl
            have fe2 := bE.c 2 rfl
            have fe3 := bE.c 3 rfl
            have fe4 := bE.c 4 rfl
            have fe5 := bE.c 5 rfl
            have fe6 := bE.c 6 rfl
            have fe7 := bE.c 7 rfl
            have fe8 := bE.c 8 rfl
            have fe9 := bE.c 9 rfl
            have fe10 := bE.c 10 rfl
            have fe11 := bE.c 11 rfl
            have fe12 := bE.c 12 rfl
            go_wp2_with fail
            clear fe0 fe1 fe2 fe3 fe4 fe5 fe6 fe7 fe8 fe9 fe10 fe11 fe12
            refine (within_t _ HI).mono ?_
            rintro e w1 ⟨rfl, rfl⟩
            have fe0 := bE.c 0 rfl
            have fe1 := bE.c 1 rfl
            have fe2 := bE.c 2 rfl
            have fe3 := bE.c 3 rfl
            have fe4 := bE.c 4 rfl
            have fe5 := bE.c 5 rfl
            have fe6 := bE.c 6 rfl
            have fe7 := bE.c 7 rfl
            have fe8 := bE.c 8 rfl
            have fe9 := bE.c 9 rfl
            have fe10 := bE.c 10 rfl
            have fe11 := bE.c 11 rfl
            have fe12 := bE.c 12 rfl
            go_wp2_with fail
            clear fe0 fe1 fe2 fe3 fe4 fe5 fe6 fe7 fe8 fe9 fe10 fe11 fe12
            refine (izero_t _ hg hc hp hm HZ).mono ?_
            rintro e w1 ⟨rfl, hb⟩
            replace bE := bE.keep hb
            replace hg := hg.keep hb
            replace hc := hc.keep hb
            replace hp := hp.keep hb
            replace hm := hm.keep hb
            replace B0 := below_step B0 hb
            clear hb
            have fe0 := bE.c 0 rfl
            have fe1 := bE.c 1 rfl
            have fe2 := bE.c 2 rfl
            have fe3 := bE.c 3 rfl
            have fe4 := bE.c 4 rfl
            have fe5 := bE.c 5 rfl
            have fe6 := bE.c 6 rfl
            have fe7 := bE.c 7 rfl
            have fe8 := bE.c 8 rfl
            have fe9 := bE.c 9 rfl
            have fe10 := bE.c 10 rfl
            have fe11 := bE.c 11 rfl
            have fe12 := bE.c 12 rfl
            go_wp2_with fail
            all_goals
              go_ret
              exact ⟨ret_bool (by have q0 := K4.out; have q1 := K6.out; have q4 := E0.out; have q5 := HZ.out; rw [Bool.eq_iff_iff]; (try unfold evB); (try rw [HZ.out]); simp [evB, K4.out, K6.out, hii1, hii2, E0.out, HZ.out] <;> omega), B0⟩
          · have HZ : Hid (zM gs cs ps ms kn sa ho ix pr bw er = true) := Lib.hid (eq_true_of_ne_false hzc)
            clear hzc
            go_enter Tryz.func12, Tryz.ntmps12
            have fe0 := bE.c 0 rfl
            have fe1 := bE.c 1 rfl
            have fe2 := bE.c 2 rfl
            have fe3 := bE.c 3 rfl
            have fe4 := bE.c 4 rfl
            have fe5 := bE.c 5 rfl
            have fe6 := bE.c 6 rfl
            have fe7 := bE.c 7 rfl
            have fe8 := bE.c 8 rfl
            have fe9 := bE.c 9 rfl
            have fe10 := bE.c 10 rfl
            have fe11 := bE.c 11 rfl
            have fe12 := bE.c 12 rfl
            go_wp2_with fail
            clear fe0 fe1 fe2 fe3 fe4 fe5 fe6 fe7 fe8 fe9 fe10 fe11 fe12
            refine (within_t _ HI).mono ?_
            rintro e w1 ⟨rfl, rfl⟩
            have fe0 := bE.c 0 rfl
            have fe1 := bE.c 1 rfl
            have fe2 := bE.c 2 rfl
            have fe3 := bE.c 3 rfl
            have fe4 := bE.c 4 rfl
            have fe5 := bE.c 5 rfl
            have fe6 := bE.c 6 rfl
            have fe7 := bE.c 7 rfl
            have fe8 := bE.c 8 rfl
            have fe9 := bE.c 9 rfl
            have fe10 := bE.c 10 rfl
            have fe11 := bE.c 11 rfl
            have fe12 := bE.c 12 rfl
            go_wp2_with fail
            clear fe0 fe1 fe2 fe3 fe4 fe5 fe6 fe7 fe8 fe9 fe10 fe11 fe12
            refine (izero_t _ hg hc hp hm HZ).mono ?_
            rintro e w1 ⟨rfl, hb⟩
            replace bE := bE.keep hb
            replace hg := hg.keep hb
            replace hc := hc.keep hb
            replace hp := hp.keep hb
            replace hm := hm.keep hb
            replace B0 := below_step B0 hb
            clear hb
            have fe0 := bE.c 0 rfl
            have fe1 := bE.c 1 rfl
            have fe2 := bE.c 2 rfl
            have fe3 := bE.c 3 rfl
            have fe4 := bE.c 4 rfl
            have fe5 := bE.c 5 rfl
            have fe6 := bE.c 6 rfl
            have fe7 := bE.c 7 rfl
            have fe8 := bE.c 8 rfl
            have fe9 := bE.c 9 rfl
            have fe10 := bE.c 10 rfl
            have fe11 := bE.c 11 rfl
            have fe12 := bE.c 12 rfl
            go_wp2_with fail
            all_goals
              go_ret
              exact ⟨ret_bool (by have q0 := K4.out; have q1 := K6.out; have q4 := E0.out; have q5 := HZ.out; rw [Bool.eq_iff_iff]; (try unfold evB); (try rw [HZ.out]); simp [evB, K4.out, K6.out, hii1, hii2, E0.out, HZ.out] <;> omega), B0⟩
        · have e0b : (ee == 0) = false := by simp [e0]
          have e0n : (ee != 0) = true := by simp [e0]
          have E0 := Lib.hid e0
          clear e0
          go_enter Tryz.func12, Tryz.ntmps12
          have fe0 := bE.c 0 rfl
          have fe1 := bE.c 1 rfl
          have fe2 := bE.c 2 rfl
          have fe3 := bE.c 3 rfl
          have fe4 := bE.c 4 rfl
          have fe5 := bE.c 5 rfl
          have fe6 := bE.c 6 rfl
          have fe7 := bE.c 7 rfl
          have fe8 := bE.c 8 rfl
          have fe9 := bE.c 9 rfl
          have fe10 := bE.c 10 rfl
          have fe11 := bE.c 11 rfl
          have fe12 := bE.c 12 rfl
          go_wp2_with fail
          clear fe0 fe1 fe2 fe3 fe4 fe5 fe6 fe7 fe8 fe9 fe10 fe11 fe12
          refine (within_t _ HI).mono ?_
          rintro e w1 ⟨rfl, rfl⟩
          have fe0 := bE.c 0 rfl
          have fe1 := bE.c 1 rfl
          have fe2 := bE.c 2 rfl
          have fe3 := bE.c 3 rfl
          have fe4 := bE.c 4 rfl
          have fe5 := bE.c 5 rfl
          have fe6 := bE.c 6 rfl
          have fe7 := bE.c 7 rfl
          have fe8 := bE.c 8 rfl
          have fe9 := bE.c 9 rfl
          have fe10 := bE.c 10 rfl
          have fe11 := bE.c 11 rfl
          have fe12 := bE.c 12 rfl
          go_wp2_with fail
          all_goals
            go_ret
            exact ⟨ret_bool (by have q0 := K4.out; have q1 := K6.out; have q4 := E0.out; rw [Bool.eq_iff_iff]; (try unfold evB); simp [evB, K4.out, K6.out, hii1, hii2, E0.out] <;> omega), B0⟩
      · have HI : Hid (inB ek 0 6 = false) := Lib.hid (by simp [inB]; omega)
        have HIn := Lib.hid hii
        clear hii
        go_enter Tryz.func12, Tryz.ntmps12
        have fe0 := bE.c 0 rfl
        have fe1 := bE.c 1 rfl
        have fe2 := bE.c 2 rfl
        have fe3 := bE.c 3 rfl
        have fe4 := bE.c 4 rfl
        have fe5 := bE.c 5 rfl
        have fe6 := bE.c 6 rfl
        have fe7 := bE.c 7 rfl
        have fe8 := bE.c 8 rfl
        have fe9 := bE.c 9 rfl
        have fe10 := bE.c 10 rfl
        have fe11 := bE.c 11 rfl
        have fe12 := bE.c 12 rfl
        go_wp2_with fail
        clear fe0 fe1 fe2 fe3 fe4 fe5 fe6 fe7 fe8 fe9 fe10 fe11 fe12
        refine (within_t _ HI).mono ?_
        rintro e w1 ⟨rfl, rfl⟩
        have fe0 := bE.c 0 rfl
        have fe1 := bE.c 1 rfl
        have fe2 := bE.c 2 rfl
        have fe3 := bE.c 3 rfl
        have fe4 := bE.c 4 rfl
        have fe5 := bE.c 5 rfl
        have fe6 := bE.c 6 rfl
        have fe7 := bE.c 7 rfl
        have fe8 := bE.c 8 rfl
        have fe9 := bE.c 9 rfl
        have fe10 := bE.c 10 rfl
        have fe11 := bE.c 11 rfl
        have fe12 := bE.c 12 rfl
        go_wp2_with fail
        all_goals
          go_ret
          exact ⟨ret_bool (by have q0 := K4.out; have q1 := K6.out; have q2 := HIn.out; rw [Bool.eq_iff_iff]; (try unfold evB); simp [evB, K4.out, K6.out, HIn.out] <;> omega), B0⟩
set_option maxHeartbeats 8000000 in
theorem sEv_any (ga ca pa ma : Option Addr) (gx cx px mx : Nat) (gs cs : List (Int × Int)) (ps ms : List Int) (ek ee kn sa ho ix pr bw er : Int) (w : World) (hg : RdP w (.slice ga gs.length gx) gs) (hc : RdP w (.slice ca cs.length cx) cs) (hp : RdI w (.slice pa ps.length px) ps) (hm : RdI w (.slice ma ms.length mx) ms) (hgl : gs.length ≤ 1048576) (hcl : cs.length ≤ 1048576) (hpl : ps.length ≤ 1048576) (hml : ms.length ≤ 1048576) : Calls Tryz.prog 9 #[.agg #[.int .i64 ek, .int .i64 kn, .int .i64 sa, .int .i64 ho, .int .i64 ix, .slice ga gs.length gx, .slice ca cs.length cx, .slice pa ps.length px, .int .i64 pr, .slice ma ms.length mx, .int .i64 bw, .int .i64 er, .int .i64 ee]] w fun e w' => e = .returned (.bool (evB gs cs ps ms ek ee kn sa ho ix pr bw er)) ∧ Below w.heap.size w w' := by
  obtain ⟨bE, B0, z⟩ := one w [.int .i64 ek, .int .i64 kn, .int .i64 sa, .int .i64 ho, .int .i64 ix, .slice ga gs.length gx, .slice ca cs.length cx, .slice pa ps.length px, .int .i64 pr, .slice ma ms.length mx, .int .i64 bw, .int .i64 er, .int .i64 ee] 34
  replace hg := hg.keep B0
  replace hc := hc.keep B0
  replace hp := hp.keep B0
  replace hm := hm.keep B0
  clear z
  have hsum : IntKind.i64.wrap ((gs.length : Int) + (cs.length : Int)) = (gs.length : Int) + cs.length := wrap64_in _ (by omega) (by omega)
  by_cases a1 : 0 ≤ ek
  · by_cases a2 : ek ≤ 6
    · by_cases k6 : ek = 6
      · have k6b : (ek == 6) = true := by simp [k6]
        have k6n : (ek != 6) = false := by simp [k6]
        have K6 := Lib.hid k6
        clear k6
        by_cases e0 : ee = 0
        · have e0b : (ee == 0) = true := by simp [e0]
          have e0n : (ee != 0) = false := by simp [e0]
          have E0 := Lib.hid e0
          clear e0
          go_enter Tryz.func9, Tryz.ntmps9
          have fe0 := bE.c 0 rfl
          have fe1 := bE.c 1 rfl
          have fe2 := bE.c 2 rfl
          have fe3 := bE.c 3 rfl
          have fe4 := bE.c 4 rfl
          have fe5 := bE.c 5 rfl
          have fe6 := bE.c 6 rfl
          have fe7 := bE.c 7 rfl
          have fe8 := bE.c 8 rfl
          have fe9 := bE.c 9 rfl
          have fe10 := bE.c 10 rfl
          have fe11 := bE.c 11 rfl
          have fe12 := bE.c 12 rfl
          go_wp2_with fail
          all_goals
            go_ret
            exact ⟨ret_bool (by have q2 := K6.out; have q3 := E0.out; rw [Bool.eq_iff_iff]; (try unfold evB  zM); simp [evB, zM, a1, a2, K6.out, E0.out] <;> omega), B0⟩
        · have e0b : (ee == 0) = false := by simp [e0]
          have e0n : (ee != 0) = true := by simp [e0]
          have E0 := Lib.hid e0
          clear e0
          by_cases g1 : 0 ≤ ee
          · by_cases g2 : ee ≤ 6
            · have k4b : (ek == 4) = false := by have := K6.out; simp; omega
              obtain ⟨bM, hb, z⟩ := one (w.alloc (.cells #[.int .i64 ek, .int .i64 kn, .int .i64 sa, .int .i64 ho, .int .i64 ix, .slice ga gs.length gx, .slice ca cs.length cx, .slice pa ps.length px, .int .i64 pr, .slice ma ms.length mx, .int .i64 bw, .int .i64 er, .int .i64 ee] 34)) [.int .i64 kn, .int .i64 sa, .int .i64 ho, .int .i64 ix, .slice ga gs.length gx, .slice ca cs.length cx, .slice pa ps.length px, .int .i64 pr, .slice ma ms.length mx, .int .i64 bw, .int .i64 er] 32
              clear z bM
              replace bE := bE.keep hb
              replace hg := hg.keep hb
              replace hc := hc.keep hb
              replace hp := hp.keep hb
              replace hm := hm.keep hb
              replace B0 := below_step B0 hb
              clear hb
              by_cases z0 : kn = 0
              · have z0b : (kn == 0) = true := by simp [z0]
                have z0n : (kn != 0) = false := by simp [z0]
                have Z0 := Lib.hid z0
                clear z0
                by_cases z1 : sa = 0
                · have z1b : (sa == 0) = true := by simp [z1]
                  have z1n : (sa != 0) = false := by simp [z1]
                  have Z1 := Lib.hid z1
                  clear z1
                  by_cases z2 : ho = 0
                  · have z2b : (ho == 0) = true := by simp [z2]
                    have z2n : (ho != 0) = false := by simp [z2]
                    have Z2 := Lib.hid z2
                    clear z2
                    by_cases z3 : ix = 0
                    · have z3b : (ix == 0) = true := by simp [z3]
                      have z3n : (ix != 0) = false := by simp [z3]
                      have Z3 := Lib.hid z3
                      clear z3
                      by_cases z4 : er = 0
                      · have z4b : (er == 0) = true := by simp [z4]
                        have z4n : (er != 0) = false := by simp [z4]
                        have Z4 := Lib.hid z4
                        clear z4
                        by_cases z5 : ((gs.length : Int) + cs.length) = 0
                        · have z5b : (((gs.length : Int) + cs.length) == 0) = true := by simp [z5]
                          have z5n : (((gs.length : Int) + cs.length) != 0) = false := by simp [z5]
                          have Z5 := Lib.hid z5
                          clear z5
                          by_cases hzc : zA ps ms pr bw = false
                          · have HZ := Lib.hid hzc
                            clear hzc
                            go_enter Tryz.func9, Tryz.ntmps9
                            have fe0 := bE.c 0 rfl
                            have fe1 := bE.c 1 rfl
                            have fe2 := bE.c 2 rfl
                            have fe3 := bE.c 3 rfl
                            have fe4 := bE.c 4 rfl
                            have fe5 := bE.c 5 rfl
                            have fe6 := bE.c 6 rfl
                            have fe7 := bE.c 7 rfl
                            have fe8 := bE.c 8 rfl
                            have fe9 := bE.c 9 rfl
                            have fe10 := bE.c 10 rfl
                            have fe11 := bE.c 11 rfl
                            have fe12 := bE.c 12 rfl
                            go_wp2_with fail
                            clear fe0 fe1 fe2 fe3 fe4 fe5 fe6 fe7 fe8 fe9 fe10 fe11 fe12
                            refine (snoattr_t _ hpl hml HZ).mono ?_
                            rintro e w1 ⟨rfl, hb⟩
                            replace bE := bE.keep hb
                            replace hg := hg.keep hb
                            replace hc := hc.keep hb
                            replace hp := hp.keep hb
                            replace hm := hm.keep hb
                            replace B0 := below_step B0 hb
                            clear hb
                            have fe0 := bE.c 0 rfl
                            have fe1 := bE.c 1 rfl
                            have fe2 := bE.c 2 rfl
                            have fe3 := bE.c 3 rfl
                            have fe4 := bE.c 4 rfl
                            have fe5 := bE.c 5 rfl
                            have fe6 := bE.c 6 rfl
                            have fe7 := bE.c 7 rfl
                            have fe8 := bE.c 8 rfl
                            have fe9 := bE.c 9 rfl
                            have fe10 := bE.c 10 rfl
                            have fe11 := bE.c 11 rfl
                            have fe12 := bE.c 12 rfl
                            go_wp2_with fail
                            all_goals
                              go_ret
                              exact ⟨ret_bool (by have q2 := K6.out; have q3 := E0.out; have q6 := Z0.out; have q7 := Z1.out; have q8 := Z2.out; have q9 := Z3.out; have q10 := Z4.out; have q11 := Z5.out; have q12 := HZ.out; rw [Bool.eq_iff_iff]; (try unfold evB  zM); (try rw [HZ.out]); simp [evB, zM, a1, a2, K6.out, E0.out, g1, g2, Z0.out, Z1.out, Z2.out, Z3.out, Z4.out, Z5.out, HZ.out] <;> omega), B0⟩
                          · have HZ : Hid (zA ps ms pr bw = true) := Lib.hid (eq_true_of_ne_false hzc)
                            clear hzc
                            go_enter Tryz.func9, Tryz.ntmps9
                            have fe0 := bE.c 0 rfl
                            have fe1 := bE.c 1 rfl
                            have fe2 := bE.c 2 rfl
                            have fe3 := bE.c 3 rfl
                            have fe4 := bE.c 4 rfl
                            have fe5 := bE.c 5 rfl
                            have fe6 := bE.c 6 rfl
                            have fe7 := bE.c 7 rfl
                            have fe8 := bE.c 8 rfl
                            have fe9 := bE.c 9 rfl
                            have fe10 := bE.c 10 rfl
                            have fe11 := bE.c 11 rfl
                            have fe12 := bE.c 12 rfl
                            go_wp2_with fail
                            clear fe0 fe1 fe2 fe3 fe4 fe5 fe6 fe7 fe8 fe9 fe10 fe11 fe12
                            refine (snoattr_t _ hpl hml HZ).mono ?_
                            rintro e w1 ⟨rfl, hb⟩
                            replace bE := bE.keep hb
                            replace hg := hg.keep hb
                            replace hc := hc.keep hb
                            replace hp := hp.keep hb
                            replace hm := hm.keep hb
                            replace B0 := below_step B0 hb
                            clear hb
                            have fe0 := bE.c 0 rfl
                            have fe1 := bE.c 1 rfl
                            have fe2 := bE.c 2 rfl
                            have fe3 := bE.c 3 rfl
                            have fe4 := bE.c 4 rfl
                            have fe5 := bE.c 5 rfl
                            have fe6 := bE.c 6 rfl
                            have fe7 := bE.c 7 rfl
                            have fe8 := bE.c 8 rfl
                            have fe9 := bE.c 9 rfl
                            have fe10 := bE.c 10 rfl
                            have fe11 := bE.c 11 rfl
                            have fe12 := bE.c 12 rfl
                            go_wp2_with fail
                            all_goals
                              go_ret
                              exact ⟨ret_bool (by have q2 := K6.out; have q3 := E0.out; have q6 := Z0.out; have q7 := Z1.out; have q8 := Z2.out; have q9 := Z3.out; have q10 := Z4.out; have q11 := Z5.out; have q12 := HZ.out; rw [Bool.eq_iff_iff]; (try unfold evB  zM); (try rw [HZ.out]); simp [evB, zM, a1, a2, K6.out, E0.out, g1, g2, Z0.out, Z1.out, Z2.out, Z3.out, Z4.out, Z5.out, HZ.out] <;> omega), B0⟩
                        · have z5b : (((gs.length : Int) + cs.length) == 0) = false := by simp [z5]
                          have z5n : (((gs.length : Int) + cs.length) != 0) = true := by simp [z5]
                          have Z5 := Lib.hid z5
                          clear z5
                          go_enter Tryz.func9, Tryz.ntmps9
                          have fe0 := bE.c 0 rfl
                          have fe1 := bE.c 1 rfl
                          have fe2 := bE.c 2 rfl
                          have fe3 := bE.c 3 rfl
                          have fe4 := bE.c 4 rfl
                          have fe5 := bE.c 5 rfl
                          have fe6 := bE.c 6 rfl
                          have fe7 := bE.c 7 rfl
                          have fe8 := bE.c 8 rfl
                          have fe9 := bE.c 9 rfl
                          have fe10 := bE.c 10 rfl
                          have fe11 := bE.c 11 rfl
                          have fe12 := bE.c 12 rfl
                          go_wp2_with fail
                          all_goals
                            go_ret
                            exact ⟨ret_bool (by have q2 := K6.out; have q3 := E0.out; have q6 := Z0.out; have q7 := Z1.out; have q8 := Z2.out; have q9 := Z3.out; have q10 := Z4.out; have q11 := Z5.out; rw [Bool.eq_iff_iff]; (try unfold evB  zM); simp [evB, zM, a1, a2, K6.out, E0.out, g1, g2, Z0.out, Z1.out, Z2.out, Z3.out, Z4.out, Z5.out] <;> omega), B0⟩
                      · have z4b : (er == 0) = false := by simp [z4]
                        have z4n : (er != 0) = true := by simp [z4]
                        have Z4 := Lib.hid z4
                        clear z4
                        go_enter Tryz.func9, Tryz.ntmps9
                        have fe0 := bE.c 0 rfl
                        have fe1 := bE.c 1 rfl
                        have fe2 := bE.c 2 rfl
                        have fe3 := bE.c 3 rfl
                        have fe4 := bE.c 4 rfl
                        have fe5 := bE.c 5 rfl
                        have fe6 := bE.c 6 rfl
                        have fe7 := bE.c 7 rfl
                        have fe8 := bE.c 8 rfl
                        have fe9 := bE.c 9 rfl
                        have fe10 := bE.c 10 rfl
                        have fe11 := bE.c 11 rfl
                        have fe12 := bE.c 12 rfl
                        go_wp2_with fail
                        all_goals
                          go_ret
                          exact ⟨ret_bool (by have q2 := K6.out; have q3 := E0.out; have q6 := Z0.out; have q7 := Z1.out; have q8 := Z2.out; have q9 := Z3.out; have q10 := Z4.out; rw [Bool.eq_iff_iff]; (try unfold evB  zM); simp [evB, zM, a1, a2, K6.out, E0.out, g1, g2, Z0.out, Z1.out, Z2.out, Z3.out, Z4.out] <;> omega), B0⟩
                    · have z3b : (ix == 0) = false := by simp [z3]
                      have z3n : (ix != 0) = true := by simp [z3]
                      have Z3 := Lib.hid z3
                      clear z3
                      go_enter Tryz.func9, Tryz.ntmps9
                      have fe0 := bE.c 0 rfl
                      have fe1 := bE.c 1 rfl
                      have fe2 := bE.c 2 rfl
                      have fe3 := bE.c 3 rfl
                      have fe4 := bE.c 4 rfl
                      have fe5 := bE.c 5 rfl
                      have fe6 := bE.c 6 rfl
                      have fe7 := bE.c 7 rfl
                      have fe8 := bE.c 8 rfl
                      have fe9 := bE.c 9 rfl
                      have fe10 := bE.c 10 rfl
                      have fe11 := bE.c 11 rfl
                      have fe12 := bE.c 12 rfl
                      go_wp2_with fail
                      all_goals
                        go_ret
                        exact ⟨ret_bool (by have q2 := K6.out; have q3 := E0.out; have q6 := Z0.out; have q7 := Z1.out; have q8 := Z2.out; have q9 := Z3.out; rw [Bool.eq_iff_iff]; (try unfold evB  zM); simp [evB, zM, a1, a2, K6.out, E0.out, g1, g2, Z0.out, Z1.out, Z2.out, Z3.out] <;> omega), B0⟩
                  · have z2b : (ho == 0) = false := by simp [z2]
                    have z2n : (ho != 0) = true := by simp [z2]
                    have Z2 := Lib.hid z2
                    clear z2
                    go_enter Tryz.func9, Tryz.ntmps9
                    have fe0 := bE.c 0 rfl
                    have fe1 := bE.c 1 rfl
                    have fe2 := bE.c 2 rfl
                    have fe3 := bE.c 3 rfl
                    have fe4 := bE.c 4 rfl
                    have fe5 := bE.c 5 rfl
                    have fe6 := bE.c 6 rfl
                    have fe7 := bE.c 7 rfl
                    have fe8 := bE.c 8 rfl
                    have fe9 := bE.c 9 rfl
                    have fe10 := bE.c 10 rfl
                    have fe11 := bE.c 11 rfl
                    have fe12 := bE.c 12 rfl
                    go_wp2_with fail
                    all_goals
                      go_ret
                      exact ⟨ret_bool (by have q2 := K6.out; have q3 := E0.out; have q6 := Z0.out; have q7 := Z1.out; have q8 := Z2.out; rw [Bool.eq_iff_iff]; (try unfold evB  zM); simp [evB, zM, a1, a2, K6.out, E0.out, g1, g2, Z0.out, Z1.out, Z2.out] <;> omega), B0⟩
                · have z1b : (sa == 0) = false := by simp [z1]
                  have z1n : (sa != 0) = true := by simp [z1]
                  have Z1 := Lib.hid z1
                  clear z1
                  go_enter Tryz.func9, Tryz.ntmps9
                  have fe0 := bE.c 0 rfl
                  have fe1 := bE.c 1 rfl
                  have fe2 := bE.c 2 rfl
                  have fe3 := bE.c 3 rfl
                  have fe4 := bE.c 4 rfl
                  have fe5 := bE.c 5 rfl
                  have fe6 := bE.c 6 rfl
                  have fe7 := bE.c 7 rfl
                  have fe8 := bE.c 8 rfl
                  have fe9 := bE.c 9 rfl
                  have fe10 := bE.c 10 rfl
                  have fe11 := bE.c 11 rfl
                  have fe12 := bE.c 12 rfl
                  go_wp2_with fail
                  all_goals
                    go_ret
                    exact ⟨ret_bool (by have q2 := K6.out; have q3 := E0.out; have q6 := Z0.out; have q7 := Z1.out; rw [Bool.eq_iff_iff]; (try unfold evB  zM); simp [evB, zM, a1, a2, K6.out, E0.out, g1, g2, Z0.out, Z1.out] <;> omega), B0⟩
              · have z0b : (kn == 0) = false := by simp [z0]
                have z0n : (kn != 0) = true := by simp [z0]
                have Z0 := Lib.hid z0
                clear z0
                go_enter Tryz.func9, Tryz.ntmps9
                have fe0 := bE.c 0 rfl
                have fe1 := bE.c 1 rfl
                have fe2 := bE.c 2 rfl
                have fe3 := bE.c 3 rfl
                have fe4 := bE.c 4 rfl
                have fe5 := bE.c 5 rfl
                have fe6 := bE.c 6 rfl
                have fe7 := bE.c 7 rfl
                have fe8 := bE.c 8 rfl
                have fe9 := bE.c 9 rfl
                have fe10 := bE.c 10 rfl
                have fe11 := bE.c 11 rfl
                have fe12 := bE.c 12 rfl
                go_wp2_with fail
                all_goals
                  go_ret
                  exact ⟨ret_bool (by have q2 := K6.out; have q3 := E0.out; have q6 := Z0.out; rw [Bool.eq_iff_iff]; (try unfold evB  zM); simp [evB, zM, a1, a2, K6.out, E0.out, g1, g2, Z0.out] <;> omega), B0⟩
            · go_enter Tryz.func9, Tryz.ntmps9
              have fe0 := bE.c 0 rfl
              have fe1 := bE.c 1 rfl
              have fe2 := bE.c 2 rfl
              have fe3 := bE.c 3 rfl
              have fe4 := bE.c 4 rfl
              have fe5 := bE.c 5 rfl
              have fe6 := bE.c 6 rfl
              have fe7 := bE.c 7 rfl
              have fe8 := bE.c 8 rfl
              have fe9 := bE.c 9 rfl
              have fe10 := bE.c 10 rfl
              have fe11 := bE.c 11 rfl
              have fe12 := bE.c 12 rfl
              go_wp2_with fail
              all_goals
                go_ret
                exact ⟨ret_bool (by have q2 := K6.out; have q3 := E0.out; rw [Bool.eq_iff_iff]; (try unfold evB  zM); simp [evB, zM, a1, a2, K6.out, E0.out, g1, g2] <;> omega), B0⟩
          · go_enter Tryz.func9, Tryz.ntmps9
            have fe0 := bE.c 0 rfl
            have fe1 := bE.c 1 rfl
            have fe2 := bE.c 2 rfl
            have fe3 := bE.c 3 rfl
            have fe4 := bE.c 4 rfl
            have fe5 := bE.c 5 rfl
            have fe6 := bE.c 6 rfl
            have fe7 := bE.c 7 rfl
            have fe8 := bE.c 8 rfl
            have fe9 := bE.c 9 rfl
            have fe10 := bE.c 10 rfl
            have fe11 := bE.c 11 rfl
            have fe12 := bE.c 12 rfl
            go_wp2_with fail
            all_goals
              go_ret
              exact ⟨ret_bool (by have q2 := K6.out; have q3 := E0.out; rw [Bool.eq_iff_iff]; (try unfold evB  zM); simp [evB, zM, a1, a2, K6.out, E0.out, g1] <;> omega), B0⟩
      · have k6b : (ek == 6) = false := by simp [k6]
        have k6n : (ek != 6) = true := by simp [k6]
        have K6 := Lib.hid k6
        clear k6
        by_cases e0 : ee = 0
        · have e0b : (ee == 0) = true := by simp [e0]
          have e0n : (ee != 0) = false := by simp [e0]
          have E0 := Lib.hid e0
          clear e0
          have g1 : (0 : Int) ≤ ee := by have := E0.out; omega
          have g2 : ee ≤ 6 := by have := E0.out; omega
          by_cases k4 : ek = 4
          · have k4b : (ek == 4) = true := by simp [k4]
            have k4n : (ek != 4) = false := by simp [k4]
            have K4 := Lib.hid k4
            clear k4
            by_cases hmc : mokB gs cs ps ms kn sa ho ix pr bw er = false
            · have HM := Lib.hid hmc
              clear hmc
              go_enter Tryz.func9, Tryz.ntmps9
              have fe0 := bE.c 0 rfl
              have fe1 := bE.c 1 rfl
              have fe2 := bE.c 2 rfl
              have fe3 := bE.c 3 rfl
              have fe4 := bE.c 4 rfl
              have fe5 := bE.c 5 rfl
              have fe6 := bE.c 6 rfl
              have fe7 := bE.c 7 rfl
              have fe8 := bE.c 8 rfl
              have fe9 := bE.c 9 rfl
              have fe10 := bE.c 10 rfl
              have fe11 := bE.c 11 rfl
              have fe12 := bE.c 12 rfl
              go_wp2_with fail
              clear fe0 fe1 fe2 fe3 fe4 fe5 fe6 fe7 fe8 fe9 fe10 fe11 fe12
              refine (smok_t _ hg hc hp hm hpl hml HM).mono ?_
              rintro e w1 ⟨rfl, hb⟩
              replace bE := bE.keep hb
              replace hg := hg.keep hb
              replace hc := hc.keep hb
              replace hp := hp.keep hb
              replace hm := hm.keep hb
              replace B0 := below_step B0 hb
              clear hb
              have fe0 := bE.c 0 rfl
              have fe1 := bE.c 1 rfl
              have fe2 := bE.c 2 rfl
              have fe3 := bE.c 3 rfl
              have fe4 := bE.c 4 rfl
              have fe5 := bE.c 5 rfl
              have fe6 := bE.c 6 rfl
              have fe7 := bE.c 7 rfl
              have fe8 := bE.c 8 rfl
              have fe9 := bE.c 9 rfl
              have fe10 := bE.c 10 rfl
              have fe11 := bE.c 11 rfl
              have fe12 := bE.c 12 rfl
              go_wp2_with fail
              all_goals
                go_ret
                exact ⟨ret_bool (by have q2 := K6.out; have q3 := E0.out; have q4 := K4.out; have q5 := HM.out; rw [Bool.eq_iff_iff]; (try unfold evB  zM); (try rw [HM.out]); simp [evB, zM, a1, a2, K6.out, E0.out, K4.out, HM.out] <;> omega), B0⟩
            · have HM : Hid (mokB gs cs ps ms kn sa ho ix pr bw er = true) := Lib.hid (eq_true_of_ne_false hmc)
              clear hmc
              go_enter Tryz.func9, Tryz.ntmps9
              have fe0 := bE.c 0 rfl
              have fe1 := bE.c 1 rfl
              have fe2 := bE.c 2 rfl
              have fe3 := bE.c 3 rfl
              have fe4 := bE.c 4 rfl
              have fe5 := bE.c 5 rfl
              have fe6 := bE.c 6 rfl
              have fe7 := bE.c 7 rfl
              have fe8 := bE.c 8 rfl
              have fe9 := bE.c 9 rfl
              have fe10 := bE.c 10 rfl
              have fe11 := bE.c 11 rfl
              have fe12 := bE.c 12 rfl
              go_wp2_with fail
              clear fe0 fe1 fe2 fe3 fe4 fe5 fe6 fe7 fe8 fe9 fe10 fe11 fe12
              refine (smok_t _ hg hc hp hm hpl hml HM).mono ?_
              rintro e w1 ⟨rfl, hb⟩
              replace bE := bE.keep hb
              replace hg := hg.keep hb
              replace hc := hc.keep hb
              replace hp := hp.keep hb
              replace hm := hm.keep hb
              replace B0 := below_step B0 hb
              clear hb
              have fe0 := bE.c 0 rfl
              have fe1 := bE.c 1 rfl
              have fe2 := bE.c 2 rfl
              have fe3 := bE.c 3 rfl
              have fe4 := bE.c 4 rfl
              have fe5 := bE.c 5 rfl
              have fe6 := bE.c 6 rfl
              have fe7 := bE.c 7 rfl
              have fe8 := bE.c 8 rfl
              have fe9 := bE.c 9 rfl
              have fe10 := bE.c 10 rfl
              have fe11 := bE.c 11 rfl
              have fe12 := bE.c 12 rfl
              go_wp2_with fail
              all_goals
                go_ret
                exact ⟨ret_bool (by have q2 := K6.out; have q3 := E0.out; have q4 := K4.out; have q5 := HM.out; rw [Bool.eq_iff_iff]; (try unfold evB  zM); (try rw [HM.out]); simp [evB, zM, a1, a2, K6.out, E0.out, K4.out, HM.out] <;> omega), B0⟩
          · have k4b : (ek == 4) = false := by simp [k4]
            have k4n : (ek != 4) = true := by simp [k4]
            have K4 := Lib.hid k4
            clear k4
            obtain ⟨bM, hb, z⟩ := one (w.alloc (.cells #[.int .i64 ek, .int .i64 kn, .int .i64 sa, .int .i64 ho, .int .i64 ix, .slice ga gs.length gx, .slice ca cs.length cx, .slice pa ps.length px, .int .i64 pr, .slice ma ms.length mx, .int .i64 bw, .int .i64 er, .int .i64 ee] 34)) [.int .i64 kn, .int .i64 sa, .int .i64 ho, .int .i64 ix, .slice ga gs.length gx, .slice ca cs.length cx, .slice pa ps.length px, .int .i64 pr, .slice ma ms.length mx, .int .i64 bw, .int .i64 er] 32
            clear z bM
            replace bE := bE.keep hb
            replace hg := hg.keep hb
            replace hc := hc.keep hb
            replace hp := hp.keep hb
            replace hm := hm.keep hb
            replace B0 := below_step B0 hb
            clear hb
            by_cases z0 : kn = 0
            · have z0b : (kn == 0) = true := by simp [z0]
              have z0n : (kn != 0) = false := by simp [z0]
              have Z0 := Lib.hid z0
              clear z0
              by_cases z1 : sa = 0
              · have z1b : (sa == 0) = true := by simp [z1]
                have z1n : (sa != 0) = false := by simp [z1]
                have Z1 := Lib.hid z1
                clear z1
                by_cases z2 : ho = 0
                · have z2b : (ho == 0) = true := by simp [z2]
                  have z2n : (ho != 0) = false := by simp [z2]
                  have Z2 := Lib.hid z2
                  clear z2
                  by_cases z3 : ix = 0
                  · have z3b : (ix == 0) = true := by simp [z3]
                    have z3n : (ix != 0) = false := by simp [z3]
                    have Z3 := Lib.hid z3
                    clear z3
                    by_cases z4 : er = 0
                    · have z4b : (er == 0) = true := by simp [z4]
                      have z4n : (er != 0) = false := by simp [z4]
                      have Z4 := Lib.hid z4
                      clear z4
                      by_cases z5 : ((gs.length : Int) + cs.length) = 0
                      · have z5b : (((gs.length : Int) + cs.length) == 0) = true := by simp [z5]
                        have z5n : (((gs.length : Int) + cs.length) != 0) = false := by simp [z5]
                        have Z5 := Lib.hid z5
                        clear z5
                        by_cases hzc : zA ps ms pr bw = false
                        · have HZ := Lib.hid hzc
                          clear hzc
                          go_enter Tryz.func9, Tryz.ntmps9
                          have fe0 := bE.c 0 rfl
                          have fe1 := bE.c 1 rfl
                          have fe2 := bE.c 2 rfl
                          have fe3 := bE.c 3 rfl
                          have fe4 := bE.c 4 rfl
                          have fe5 := bE.c 5 rfl
                          have fe6 := bE.c 6 rfl
                          have fe7 := bE.c 7 rfl
                          have fe8 := bE.c 8 rfl
                          have fe9 := bE.c 9 rfl
                          have fe10 := bE.c 10 rfl
                          have fe11 := bE.c 11 rfl
                          have fe12 := bE.c 12 rfl
                          go_wp2_with fail
                          clear fe0 fe1 fe2 fe3 fe4 fe5 fe6 fe7 fe8 fe9 fe10 fe11 fe12
                          refine (snoattr_t _ hpl hml HZ).mono ?_
                          rintro e w1 ⟨rfl, hb⟩
                          replace bE := bE.keep hb
                          replace hg := hg.keep hb
                          replace hc := hc.keep hb
                          replace hp := hp.keep hb
                          replace hm := hm.keep hb
                          replace B0 := below_step B0 hb
                          clear hb
                          have fe0 := bE.c 0 rfl
                          have fe1 := bE.c 1 rfl
                          have fe2 := bE.c 2 rfl
                          have fe3 := bE.c 3 rfl
                          have fe4 := bE.c 4 rfl
                          have fe5 := bE.c 5 rfl
                          have fe6 := bE.c 6 rfl
                          have fe7 := bE.c 7 rfl
                          have fe8 := bE.c 8 rfl
                          have fe9 := bE.c 9 rfl
                          have fe10 := bE.c 10 rfl
                          have fe11 := bE.c 11 rfl
                          have fe12 := bE.c 12 rfl
                          go_wp2_with fail
                          all_goals
                            go_ret
                            exact ⟨ret_bool (by have q2 := K6.out; have q3 := E0.out; have q4 := K4.out; have q5 := Z0.out; have q6 := Z1.out; have q7 := Z2.out; have q8 := Z3.out; have q9 := Z4.out; have q10 := Z5.out; have q11 := HZ.out; rw [Bool.eq_iff_iff]; (try unfold evB  zM); (try rw [HZ.out]); simp [evB, zM, a1, a2, K6.out, E0.out, K4.out, Z0.out, Z1.out, Z2.out, Z3.out, Z4.out, Z5.out, HZ.out] <;> omega), B0⟩
                        · have HZ : Hid (zA ps ms pr bw = true) := Lib.hid (eq_true_of_ne_false hzc)
                          clear hzc
                          go_enter Tryz.func9, Tryz.ntmps9
                          have fe0 := bE.c 0 rfl
                          have fe1 := bE.c 1 rfl
                          have fe2 := bE.c 2 rfl
                          have fe3 := bE.c 3 rfl
                          have fe4 := bE.c 4 rfl
                          have fe5 := bE.c 5 rfl
                          have fe6 := bE.c 6 rfl
                          have fe7 := bE.c 7 rfl
                          have fe8 := bE.c 8 rfl
                          have fe9 := bE.c 9 rfl
                          have fe10 := bE.c 10 rfl
                          have fe11 := bE.c 11 rfl
                          have fe12 := bE.c 12 rfl
                          go_wp2_with fail
                          clear fe0 fe1 fe2 fe3 fe4 fe5 fe6 fe7 fe8 fe9 fe10 fe11 fe12
                          refine (snoattr_t _ hpl hml HZ).mono ?_
                          rintro e w1 ⟨rfl, hb⟩
                          replace bE := bE.keep hb
                          replace hg := hg.keep hb
                          replace hc := hc.keep hb
                          replace hp := hp.keep hb
                          replace hm := hm.keep hb
                          replace B0 := below_step B0 hb
                          clear hb
                          have fe0 := bE.c 0 rfl
                          have fe1 := bE.c 1 rfl
                          have fe2 := bE.c 2 rfl
                          have fe3 := bE.c 3 rfl
                          have fe4 := bE.c 4 rfl
                          have fe5 := bE.c 5 rfl
                          have fe6 := bE.c 6 rfl
                          have fe7 := bE.c 7 rfl
                          have fe8 := bE.c 8 rfl
                          have fe9 := bE.c 9 rfl
                          have fe10 := bE.c 10 rfl
                          have fe11 := bE.c 11 rfl
                          have fe12 := bE.c 12 rfl
                          go_wp2_with fail
                          all_goals
                            go_ret
                            exact ⟨ret_bool (by have q2 := K6.out; have q3 := E0.out; have q4 := K4.out; have q5 := Z0.out; have q6 := Z1.out; have q7 := Z2.out; have q8 := Z3.out; have q9 := Z4.out; have q10 := Z5.out; have q11 := HZ.out; rw [Bool.eq_iff_iff]; (try unfold evB  zM); (try rw [HZ.out]); simp [evB, zM, a1, a2, K6.out, E0.out, K4.out, Z0.out, Z1.out, Z2.out, Z3.out, Z4.out, Z5.out, HZ.out] <;> omega), B0⟩
                      · have z5b : (((gs.length : Int) + cs.length) == 0) = false := by simp [z5]
                        have z5n : (((gs.length : Int) + cs.length) != 0) = true := by simp [z5]
                        have Z5 := Lib.hid z5
                        clear z5
                        go_enter Tryz.func9, Tryz.ntmps9
                        have fe0 := bE.c 0 rfl
                        have fe1 := bE.c 1 rfl
                        have fe2 := bE.c 2 rfl
                        have fe3 := bE.c 3 rfl
                        have fe4 := bE.c 4 rfl
                        have fe5 := bE.c 5 rfl
                        have fe6 := bE.c 6 rfl
                        have fe7 := bE.c 7 rfl
                        have fe8 := bE.c 8 rfl
                        have fe9 := bE.c 9 rfl
                        have fe10 := bE.c 10 rfl
                        have fe11 := bE.c 11 rfl
                        have fe12 := bE.c 12 rfl
                        go_wp2_with fail
                        all_goals
                          go_ret
                          exact ⟨ret_bool (by have q2 := K6.out; have q3 := E0.out; have q4 := K4.out; have q5 := Z0.out; have q6 := Z1.out; have q7 := Z2.out; have q8 := Z3.out; have q9 := Z4.out; have q10 := Z5.out; rw [Bool.eq_iff_iff]; (try unfold evB  zM); simp [evB, zM, a1, a2, K6.out, E0.out, K4.out, Z0.out, Z1.out, Z2.out, Z3.out, Z4.out, Z5.out] <;> omega), B0⟩
                    · have z4b : (er == 0) = false := by simp [z4]
                      have z4n : (er != 0) = true := by simp [z4]
                      have Z4 := Lib.hid z4
                      clear z4
                      go_enter Tryz.func9, Tryz.ntmps9
                      have fe0 := bE.c 0 rfl
                      have fe1 := bE.c 1 rfl
                      have fe2 := bE.c 2 rfl
                      have fe3 := bE.c 3 rfl
                      have fe4 := bE.c 4 rfl
                      have fe5 := bE.c 5 rfl
                      have fe6 := bE.c 6 rfl
                      have fe7 := bE.c 7 rfl
                      have fe8 := bE.c 8 rfl
                      have fe9 := bE.c 9 rfl
                      have fe10 := bE.c 10 rfl
                      have fe11 := bE.c 11 rfl
                      have fe12 := bE.c 12 rfl
                      go_wp2_with fail
                      all_goals
                        go_ret
                        exact ⟨ret_bool (by have q2 := K6.out; have q3 := E0.out; have q4 := K4.out; have q5 := Z0.out; have q6 := Z1.out; have q7 := Z2.out; have q8 := Z3.out; have q9 := Z4.out; rw [Bool.eq_iff_iff]; (try unfold evB  zM); simp [evB, zM, a1, a2, K6.out, E0.out, K4.out, Z0.out, Z1.out, Z2.out, Z3.out, Z4.out] <;> omega), B0⟩
                  · have z3b : (ix == 0) = false := by simp [z3]
                    have z3n : (ix != 0) = true := by simp [z3]
                    have Z3 := Lib.hid z3
                    clear z3
                    go_enter Tryz.func9, Tryz.ntmps9
                    have fe0 := bE.c 0 rfl
                    have fe1 := bE.c 1 rfl
                    have fe2 := bE.c 2 rfl
                    have fe3 := bE.c 3 rfl
                    have fe4 := bE.c 4 rfl
                    have fe5 := bE.c 5 rfl
                    have fe6 := bE.c 6 rfl
                    have fe7 := bE.c 7 rfl
                    have fe8 := bE.c 8 rfl
                    have fe9 := bE.c 9 rfl
                    have fe10 := bE.c 10 rfl
                    have fe11 := bE.c 11 rfl
                    have fe12 := bE.c 12 rfl
                    go_wp2_with fail
                    all_goals
                      go_ret
                      exact ⟨ret_bool (by have q2 := K6.out; have q3 := E0.out; have q4 := K4.out; have q5 := Z0.out; have q6 := Z1.out; have q7 := Z2.out; have q8 := Z3.out; rw [Bool.eq_iff_iff]; (try unfold evB  zM); simp [evB, zM, a1, a2, K6.out, E0.out, K4.out, Z0.out, Z1.out, Z2.out, Z3.out] <;> omega), B0⟩
                · have z2b : (ho == 0) = false := by simp [z2]
                  have z2n : (ho != 0) = true := by simp [z2]
                  have Z2 := Lib.hid z2
                  clear z2
                  go_enter Tryz.func9, Tryz.ntmps9
                  have fe0 := bE.c 0 rfl
                  have fe1 := bE.c 1 rfl
                  have fe2 := bE.c 2 rfl
                  have fe3 := bE.c 3 rfl
                  have fe4 := bE.c 4 rfl
                  have fe5 := bE.c 5 rfl
                  have fe6 := bE.c 6 rfl
                  have fe7 := bE.c 7 rfl
                  have fe8 := bE.c 8 rfl
                  have fe9 := bE.c 9 rfl
                  have fe10 := bE.c 10 rfl
                  have fe11 := bE.c 11 rfl
                  have fe12 := bE.c 12 rfl
                  go_wp2_with fail
                  all_goals
                    go_ret
                    exact ⟨ret_bool (by have q2 := K6.out; have q3 := E0.out; have q4 := K4.out; have q5 := Z0.out; have q6 := Z1.out; have q7 := Z2.out; rw [Bool.eq_iff_iff]; (try unfold evB  zM); simp [evB, zM, a1, a2, K6.out, E0.out, K4.out, Z0.out, Z1.out, Z2.out] <;> omega), B0⟩
              · have z1b : (sa == 0) = false := by simp [z1]
                have z1n : (sa != 0) = true := by simp [z1]
                have Z1 := Lib.hid z1
                clear z1
                go_enter Tryz.func9, Tryz.ntmps9
                have fe0 := bE.c 0 rfl
                have fe1 := bE.c 1 rfl
                have fe2 := bE.c 2 rfl
                have fe3 := bE.c 3 rfl
                have fe4 := bE.c 4 rfl
                have fe5 := bE.c 5 rfl
                have fe6 := bE.c 6 rfl
                have fe7 := bE.c 7 rfl
                have fe8 := bE.c 8 rfl
                have fe9 := bE.c 9 rfl
                have fe10 := bE.c 10 rfl
                have fe11 := bE.c 11 rfl
                have fe12 := bE.c 12 rfl
                go_wp2_with fail
                all_goals
                  go_ret
                  exact ⟨ret_bool (by have q2 := K6.out; have q3 := E0.out; have q4 := K4.out; have q5 := Z0.out; have q6 := Z1.out; rw [Bool.eq_iff_iff]; (try unfold evB  zM); simp [evB, zM, a1, a2, K6.out, E0.out, K4.out, Z0.out, Z1.out] <;> omega), B0⟩
            · have z0b : (kn == 0) = false := by simp [z0]
              have z0n : (kn != 0) = true := by simp [z0]
              have Z0 := Lib.hid z0
              clear z0
              go_enter Tryz.func9, Tryz.ntmps9
              have fe0 := bE.c 0 rfl
              have fe1 := bE.c 1 rfl
              have fe2 := bE.c 2 rfl
              have fe3 := bE.c 3 rfl
              have fe4 := bE.c 4 rfl
              have fe5 := bE.c 5 rfl
              have fe6 := bE.c 6 rfl
              have fe7 := bE.c 7 rfl
              have fe8 := bE.c 8 rfl
              have fe9 := bE.c 9 rfl
              have fe10 := bE.c 10 rfl
              have fe11 := bE.c 11 rfl
              have fe12 := bE.c 12 rfl
              go_wp2_with fail
              all_goals
                go_ret
                exact ⟨ret_bool (by have q2 := K6.out; have q3 := E0.out; have q4 := K4.out; have q5 := Z0.out; rw [Bool.eq_iff_iff]; (try unfold evB  zM); simp [evB, zM, a1, a2, K6.out, E0.out, K4.out, Z0.out] <;> omega), B0⟩
        · have e0b : (ee == 0) = false := by simp [e0]
          have e0n : (ee != 0) = true := by simp [e0]
          have E0 := Lib.hid e0
          clear e0
          go_enter Tryz.func9, Tryz.ntmps9
          have fe0 := bE.c 0 rfl
          have fe1 := bE.c 1 rfl
          have fe2 := bE.c 2 rfl
          have fe3 := bE.c 3 rfl
          have fe4 := bE.c 4 rfl
          have fe5 := bE.c 5 rfl
          have fe6 := bE.c 6 rfl
          have fe7 := bE.c 7 rfl
          have fe8 := bE.c 8 rfl
          have fe9 := bE.c 9 rfl
          have fe10 := bE.c 10 rfl
          have fe11 := bE.c 11 rfl
          have fe12 := bE.c 12 rfl
          go_wp2_with fail
          all_goals
            go_ret
            exact ⟨ret_bool (by have q2 := K6.out; have q3 := E0.out; rw [Bool.eq_iff_iff]; (try unfold evB  zM); simp [evB, zM, a1, a2, K6.out, E0.out] <;> omega), B0⟩
    · go_enter Tryz.func9, Tryz.ntmps9
      have fe0 := bE.c 0 rfl
      have fe1 := bE.c 1 rfl
      have fe2 := bE.c 2 rfl
      have fe3 := bE.c 3 rfl
      have fe4 := bE.c 4 rfl
      have fe5 := bE.c 5 rfl
      have fe6 := bE.c 6 rfl
      have fe7 := bE.c 7 rfl
      have fe8 := bE.c 8 rfl
      have fe9 := bE.c 9 rfl
      have fe10 := bE.c 10 rfl
      have fe11 := bE.c 11 rfl
      have fe12 := bE.c 12 rfl
      go_wp2_with fail
      all_goals
        go_ret
        exact ⟨ret_bool (by rw [Bool.eq_iff_iff]; (try unfold evB  zM); simp [evB, zM, a1, a2] <;> omega), B0⟩
  · go_enter Tryz.func9, Tryz.ntmps9
    have fe0 := bE.c 0 rfl
    have fe1 := bE.c 1 rfl
    have fe2 := bE.c 2 rfl
    have fe3 := bE.c 3 rfl
    have fe4 := bE.c 4 rfl
    have fe5 := bE.c 5 rfl
    have fe6 := bE.c 6 rfl
    have fe7 := bE.c 7 rfl
    have fe8 := bE.c 8 rfl
    have fe9 := bE.c 9 rfl
    have fe10 := bE.c 10 rfl
    have fe11 := bE.c 11 rfl
    have fe12 := bE.c 12 rfl
    go_wp2_with fail
    all_goals
      go_ret
      exact ⟨ret_bool (by rw [Bool.eq_iff_iff]; (try unfold evB  zM); simp [evB, zM, a1] <;> omega), B0⟩
theorem sEv_t {ga ca pa ma : Option Addr} {gx cx px mx : Nat} {gs cs : List (Int × Int)} {ps ms : List Int} {ek ee kn sa ho ix pr bw er : Int} {b : Bool} (w : World) (hg : RdP w (.slice ga gs.length gx) gs) (hc : RdP w (.slice ca cs.length cx) cs) (hp : RdI w (.slice pa ps.length px) ps) (hm : RdI w (.slice ma ms.length mx) ms) (hgl : gs.length ≤ 1048576) (hcl : cs.length ≤ 1048576) (hpl : ps.length ≤ 1048576) (hml : ms.length ≤ 1048576) (H : Hid (evB gs cs ps ms ek ee kn sa ho ix pr bw er = b)) : Calls Tryz.prog 9 #[.agg #[.int .i64 ek, .int .i64 kn, .int .i64 sa, .int .i64 ho, .int .i64 ix, .slice ga gs.length gx, .slice ca cs.length cx, .slice pa ps.length px, .int .i64 pr, .slice ma ms.length mx, .int .i64 bw, .int .i64 er, .int .i64 ee]] w fun e w' => e = .returned (.bool b) ∧ Below w.heap.size w w' := H.out ▸ sEv_any ga ca pa ma gx cx px mx gs cs ps ms ek ee kn sa ho ix pr bw er w hg hc hp hm hgl hcl hpl hml
theorem iEv_t {ga ca pa ma : Option Addr} {gx cx px mx : Nat} {gs cs : List (Int × Int)} {ps ms : List Int} {ek ee kn sa ho ix pr bw er : Int} {b : Bool} (w : World) (hg : RdP w (.slice ga gs.length gx) gs) (hc : RdP w (.slice ca cs.length cx) cs) (hp : RdI w (.slice pa ps.length px) ps) (hm : RdI w (.slice ma ms.length mx) ms) (H : Hid (evB gs cs ps ms ek ee kn sa ho ix pr bw er = b)) : Calls Tryz.prog 12 #[.agg #[.int .i64 ek, .int .i64 kn, .int .i64 sa, .int .i64 ho, .int .i64 ix, .slice ga gs.length gx, .slice ca cs.length cx, .slice pa ps.length px, .int .i64 pr, .slice ma ms.length mx, .int .i64 bw, .int .i64 er, .int .i64 ee]] w fun e w' => e = .returned (.bool b) ∧ Below w.heap.size w w' := H.out ▸ iEv_any ga ca pa ma gx cx px mx gs cs ps ms ek ee kn sa ho ix pr bw er w hg hc hp hm
end Go.Proofs.YtaffcicgljoajaaGreatDoor
