/-
  Messages: contracts of the program's tests, and of what it unpacks. Conditions: those in each contract.
  Every switch and every message is as it should be: of the program. Conditions: those in each contract.
-/
import Derived.Test.YtbcmoofpgffbhabGreatHPh
import Derived.Test.YtbcmoofpgffbhabGreatHPe
import Derived.Test.YtbcmoofpgffbhabGreatHPb
import Derived.Test.YtbcmoofpgffbhabGreatHPg
namespace Go.Proofs.YtbcmoofpgffbhabGreat
open Go.ChangeShapes Go.WideShapes Go.ChangeAt Go.RowKit Go.BigFrame
open List (setIfInBounds_toArray set_cons_succ set_cons_zero)
set_option linter.unusedVariables false
set_option maxRecDepth 100000
set_option maxRecDepth 100000
set_option linter.unusedSimpArgs false

theorem RdI.nil (w : World) : RdI w (.slice none 0 0) [] := ⟨by simp, by simp, .inl ⟨none, 0, rfl, rfl, fun _ => rfl⟩⟩
theorem zA_iff {ps ms : List Int} {pr bw : Int} : zA ps ms pr bw = true ↔ pr = 0 ∧ bw = 0 ∧ ps = [] ∧ ms = [] := by
 unfold zA; rw [decide_eq_true_eq]
 constructor
 ·rintro ⟨h1, h2, h3⟩
  exact ⟨h1, h2, List.eq_nil_of_length_eq_zero (by omega), List.eq_nil_of_length_eq_zero (by omega)⟩
 ·rintro ⟨h1, h2, rfl, rfl⟩
  exact ⟨h1, h2, rfl⟩
theorem pokL_nil : pokL [] = true := by decide
theorem asB_iff {n : Int} : asB n = true ↔ 1 ≤ n ∧ n ≤ 65535 := by unfold asB inB; simp
theorem inB_iff {n a b : Int} : inB n a b = true ↔ a ≤ n ∧ n ≤ b := by unfold inB; simp
section
variable {gs cs : List (Int × Int)} {ps ms : List Int} {kn sa ho ix pr bw er : Int}
theorem ite_f {c : Prop} [Decidable c] {b : Bool} (h : (if c then false else b) = true) : ¬ c ∧ b = true := by
 by_cases hc : c
 ·rw [if_pos hc] at h
  cases h
 ·rw [if_neg hc] at h
  exact ⟨hc, h⟩
theorem nb {b : Bool} (h : ¬ b = false) : b = true := by simpa using h
theorem mok_no (h : ¬ (1 ≤ kn ∧ kn ≤ 4)) : mokB gs cs ps ms kn sa ho ix pr bw er = false := by
 by_cases h1 : kn < 1
 ·exact if_pos h1
 ·exact (if_neg h1).trans (if_pos (by omega))
theorem mok_1 : mokB gs cs ps ms 1 sa ho ix pr bw er = true ↔ (asB sa = true ∧ inB ho 3 255 = true ∧ inB ix 1 255 = true) ∧ gs = [] ∧ cs = [] ∧ zA ps ms pr bw = true ∧ er = 0 := by
 constructor
 ·intro h
  unfold mokB at h; rw [if_neg (by omega), if_neg (by omega)] at h; obtain ⟨g1, h⟩ := ite_f h; obtain ⟨g2, h⟩ := ite_f h; rw [if_pos rfl] at h; obtain ⟨g3, h⟩ := ite_f h; obtain ⟨g4, h⟩ := ite_f h; obtain ⟨g5, h⟩ := ite_f h; obtain ⟨g6, h⟩ := ite_f h; obtain ⟨g7, h⟩ := ite_f h; obtain ⟨g8, h⟩ := ite_f h; obtain ⟨g9, h⟩ := ite_f h; obtain ⟨g10, h⟩ := ite_f h
  exact ⟨⟨nb g4, inB_iff.mpr (by omega), inB_iff.mpr (by omega)⟩, List.eq_nil_of_length_eq_zero (by omega), List.eq_nil_of_length_eq_zero (by omega), nb g10, by simpa using h⟩
 ·rintro ⟨⟨h1, h2, h3⟩, rfl, rfl, h4, rfl⟩
  have a1 := asB_iff.mp h1; have a2 := inB_iff.mp h2; have a3 := inB_iff.mp h3; unfold mokB; rw [if_neg (by omega), if_neg (by omega), if_neg (by decide), if_neg (by decide), if_pos rfl, if_neg (by omega), if_neg (by rw [h1]; decide), if_neg (by omega), if_neg (by omega), if_neg (by omega), if_neg (by omega), if_neg (by simp), if_neg (by rw [h4]; decide)]
  rfl
theorem mok_2 : mokB gs [] ps ms 2 sa ho ix pr bw er = true ↔ pokL gs = true ∧ sa = 0 ∧ ho = 0 ∧ ix = 0 ∧ zA ps ms pr bw = true ∧ er = 0 := by
 constructor
 ·intro h
  unfold mokB at h; rw [if_neg (by omega), if_neg (by omega)] at h; obtain ⟨g1, h⟩ := ite_f h; obtain ⟨g2, h⟩ := ite_f h; rw [if_neg (by omega)] at h; obtain ⟨g3, h⟩ := ite_f h; obtain ⟨g4, h⟩ := ite_f h; obtain ⟨g5, h⟩ := ite_f h; rw [if_pos rfl, if_pos (show ([] : List (Int × Int)).length = 0 from rfl)] at h; obtain ⟨g6, h⟩ := ite_f h
  exact ⟨nb g1, by omega, by omega, by omega, nb g6, by simpa using h⟩
 ·rintro ⟨h1, rfl, rfl, rfl, h4, rfl⟩
  unfold mokB; rw [if_neg (by omega), if_neg (by omega), if_neg (by rw [h1]; decide), if_neg (by decide), if_neg (by omega), if_neg (by omega), if_neg (by omega), if_neg (by omega), if_pos rfl, if_pos (show ([] : List (Int × Int)).length = 0 from rfl), if_neg (by rw [h4]; decide)]
  rfl
theorem mok_2c (hc : cs.length ≠ 0) : mokB gs cs ps ms 2 sa ho ix pr bw er = true ↔ (pokL gs = true ∧ pokL cs = true ∧ aokB ps pr ms bw = true ∧ 0 < ps.length) ∧ sa = 0 ∧ ho = 0 ∧ ix = 0 ∧ er = 0 := by
 constructor
 ·intro h
  unfold mokB at h; rw [if_neg (by omega), if_neg (by omega)] at h; obtain ⟨g1, h⟩ := ite_f h; obtain ⟨g2, h⟩ := ite_f h; rw [if_neg (by omega)] at h; obtain ⟨g3, h⟩ := ite_f h; obtain ⟨g4, h⟩ := ite_f h; obtain ⟨g5, h⟩ := ite_f h; rw [if_pos rfl, if_neg hc] at h; obtain ⟨g6, h⟩ := ite_f h; obtain ⟨g7, h⟩ := ite_f h
  exact ⟨⟨nb g1, nb g2, nb g6, by omega⟩, by omega, by omega, by omega, by simpa using h⟩
 ·rintro ⟨⟨h1, h2, h3, h4⟩, rfl, rfl, rfl, rfl⟩
  unfold mokB; rw [if_neg (by omega), if_neg (by omega), if_neg (by rw [h1]; decide), if_neg (by rw [h2]; decide), if_neg (by omega), if_neg (by omega), if_neg (by omega), if_neg (by omega), if_pos rfl, if_neg hc, if_neg (by rw [h3]; decide), if_neg (by omega)]
  rfl
theorem mok_34 (h2 : kn ≠ 1) (h3 : kn ≠ 2) (h1 : 1 ≤ kn ∧ kn ≤ 4) : mokB gs cs ps ms kn sa ho ix pr bw er = true ↔ (gs = [] ∧ cs = [] ∧ sa = 0 ∧ ho = 0 ∧ ix = 0 ∧ zA ps ms pr bw = true) ∧ (if kn = 3 then 1 ≤ er ∧ er ≤ 6 else er = 0) := by
 constructor
 ·intro h
  unfold mokB at h; rw [if_neg (by omega), if_neg (by omega)] at h; obtain ⟨g1, h⟩ := ite_f h; obtain ⟨g2, h⟩ := ite_f h; rw [if_neg (by omega)] at h; obtain ⟨g3, h⟩ := ite_f h; obtain ⟨g4, h⟩ := ite_f h; obtain ⟨g5, h⟩ := ite_f h; rw [if_neg (by omega)] at h; obtain ⟨g6, h⟩ := ite_f h; obtain ⟨g7, h⟩ := ite_f h; refine ⟨⟨List.eq_nil_of_length_eq_zero (by omega), List.eq_nil_of_length_eq_zero (by omega), by omega, by omega, by omega, nb g7⟩, ?_⟩
  by_cases g8 : kn = 3
  ·rw [if_pos g8] at h ⊢
   simpa using h
  ·rw [if_neg g8] at h ⊢
   simpa using h
 ·rintro ⟨⟨rfl, rfl, rfl, rfl, rfl, h4⟩, h5⟩
  unfold mokB; rw [if_neg (by omega), if_neg (by omega), if_neg (by decide), if_neg (by decide), if_neg (by omega), if_neg (by omega), if_neg (by omega), if_neg (by omega), if_neg (by omega), if_neg (by simp), if_neg (by rw [h4]; decide)]
  by_cases g8 : kn = 3
  ·rw [if_pos g8] at h5 ⊢
   simpa using h5
  ·rw [if_neg g8] at h5 ⊢
   simpa using h5
end
/-- two messages are the same -/
def sameB8 (gs cs gs2 cs2 : List (Int × Int)) (ps ms ps2 ms2 : List Int) (kn sa ho ix pr bw er kn2 sa2 ho2 ix2 pr2 bw2 er2 : Int) : Bool := decide (kn = kn2 ∧ sa = sa2 ∧ ho = ho2 ∧ ix = ix2 ∧ er = er2 ∧ gs = gs2 ∧ cs = cs2 ∧ ps = ps2 ∧ pr = pr2 ∧ ms = ms2 ∧ bw = bw2)
theorem isameM_t {gv cv pv mv gv2 cv2 pv2 mv2 : Value} {gs cs gs2 cs2 : List (Int × Int)} {ps ms ps2 ms2 : List Int} {kn sa ho ix pr bw er kn2 sa2 ho2 ix2 pr2 bw2 er2 : Int} {b : Bool} (w : World) (hg : RdP w gv gs) (hc : RdP w cv cs) (hp : RdI w pv ps) (hm : RdI w mv ms)
  (hg2 : RdP w gv2 gs2) (hc2 : RdP w cv2 cs2) (hp2 : RdI w pv2 ps2) (hm2 : RdI w mv2 ms2) (H : Hid (sameB8 gs cs gs2 cs2 ps ms ps2 ms2 kn sa ho ix pr bw er kn2 sa2 ho2 ix2 pr2 bw2 er2 = b)) :
  Calls Tryz.prog 255 #[.agg #[.int .i64 kn, .int .i64 sa, .int .i64 ho, .int .i64 ix, gv, cv, pv, .int .i64 pr, mv, .int .i64 bw, .int .i64 er], .agg #[.int .i64 kn2, .int .i64 sa2, .int .i64 ho2, .int .i64 ix2, gv2, cv2, pv2, .int .i64 pr2, mv2, .int .i64 bw2, .int .i64 er2]] w fun e w' => e = .returned (.bool b) ∧ Below w.heap.size w w' :=
 H.out ▸ isameM_any gv cv pv mv gv2 cv2 pv2 mv2 gs cs gs2 cs2 ps ms ps2 ms2 kn sa ho ix pr bw er kn2 sa2 ho2 ix2 pr2 bw2 er2 w hg hc hp hm hg2 hc2 hp2 hm2
theorem numok_t {n : Int} {b : Bool} (w : World) (H : Hid (asB n = b)) : Calls Tryz.prog 139 #[.int .i64 n] w fun e w' => e = .returned (.bool b) ∧ w = w' := H.out ▸ numok_any n w
theorem ipfx_t {v : Value} {l : List (Int × Int)} {b : Bool} (w : World) (h : RdP w v l) (H : Hid (pokL l = b)) :
  Calls Tryz.prog 140 #[v, .int .i64 8] w fun e w' => e = .returned (.bool b) ∧ Below w.heap.size w w' := H.out ▸ ipfx_any v l 8 w h
theorem iaokN_t {pv cv : Value} {p c : List Int} {pr bw : Int} {b : Bool} (w : World) (hp : RdI w pv p) (hc : RdI w cv c) (H : Hid (aokB p pr c bw = b)) :
  Calls Tryz.prog 202 #[.agg #[pv, .int .i64 pr, cv, .int .i64 bw]] w fun e w' => e = .returned (.bool b) ∧ Below w.heap.size w w' := H.out ▸ iaok_any pv cv p c pr bw w hp hc
/-- the tests of the kinds -/
def valO (sa ho ix : Int) : Bool := asB sa && inB ho 3 255 && inB ix 1 255
def valU (gs cs : List (Int × Int)) (ps ms : List Int) (pr bw : Int) : Bool := pokL gs && pokL cs && (decide (cs.length = 0) || aokB ps pr ms bw && decide (0 < ps.length))
theorem ivalO_any (sa ho ix : Int) (w : World) : Calls Tryz.prog 298 #[.agg #[.int .i64 sa, .int .i64 ho, .int .i64 ix]] w fun e w' => e = .returned (.bool (valO sa ho ix)) ∧ Below w.heap.size w w' := by
 obtain ⟨bA, B0, z⟩ := one w [.int .i64 sa, .int .i64 ho, .int .i64 ix] 272; clear z; cases h1 : asB sa
 ·have H1 := Lib.hid h1
  clear h1
  go_enter Tryz.func298, Tryz.ntmps298
  go_wp2_with fail; refine (numok_t _ H1).mono ?_; rintro e w1 ⟨rfl, rfl⟩; go_wp2_with fail
  go_ret
  exact ⟨ret_bool (by unfold valO; rw [H1.out]; rfl), B0⟩
 ·have H1 := Lib.hid h1
  clear h1; cases h2 : inB ho 3 255
  ·have H2 := Lib.hid h2
   clear h2
   go_enter Tryz.func298, Tryz.ntmps298
   go_wp2_with fail; refine (numok_t _ H1).mono ?_; rintro e w1 ⟨rfl, rfl⟩; go_wp2_with fail; refine (within_t _ H2).mono ?_; rintro e w1 ⟨rfl, rfl⟩; go_wp2_with fail
   go_ret
   exact ⟨ret_bool (by unfold valO; rw [H1.out, H2.out]; rfl), B0⟩
  ·have H2 := Lib.hid h2
   clear h2; cases h3 : inB ix 1 255
   ·have H3 := Lib.hid h3
    clear h3
    go_enter Tryz.func298, Tryz.ntmps298
    go_wp2_with fail; refine (numok_t _ H1).mono ?_; rintro e w1 ⟨rfl, rfl⟩; go_wp2_with fail; refine (within_t _ H2).mono ?_; rintro e w1 ⟨rfl, rfl⟩; go_wp2_with fail; refine (within_t _ H3).mono ?_; rintro e w1 ⟨rfl, rfl⟩; go_wp2_with fail
    go_ret
    exact ⟨ret_bool (by unfold valO; rw [H1.out, H2.out, H3.out]; rfl), B0⟩
   ·have H3 := Lib.hid h3
    clear h3
    go_enter Tryz.func298, Tryz.ntmps298
    go_wp2_with fail; refine (numok_t _ H1).mono ?_; rintro e w1 ⟨rfl, rfl⟩; go_wp2_with fail; refine (within_t _ H2).mono ?_; rintro e w1 ⟨rfl, rfl⟩; go_wp2_with fail; refine (within_t _ H3).mono ?_; rintro e w1 ⟨rfl, rfl⟩; go_wp2_with fail
    go_ret
    exact ⟨ret_bool (by unfold valO; rw [H1.out, H2.out, H3.out]; rfl), B0⟩
set_option maxHeartbeats 1000000 in
theorem ivalU_any (ga ca pa ma : Option Addr) (gx cx px mx : Nat) (gs cs : List (Int × Int)) (ps ms : List Int) (pr bw : Int) (w : World)
  (hg : RdP w (.slice ga gs.length gx) gs) (hc : RdP w (.slice ca cs.length cx) cs) (hp : RdI w (.slice pa ps.length px) ps) (hm : RdI w (.slice ma ms.length mx) ms) :
  Calls Tryz.prog 301 #[.agg #[.slice ga gs.length gx, .slice ca cs.length cx, .slice pa ps.length px, .int .i64 pr, .slice ma ms.length mx, .int .i64 bw]] w fun e w' => e = .returned (.bool (valU gs cs ps ms pr bw)) ∧ Below w.heap.size w w' := by
 obtain ⟨bA, B0, z⟩ := one w [.slice ga gs.length gx, .slice ca cs.length cx, .slice pa ps.length px, .int .i64 pr, .slice ma ms.length mx, .int .i64 bw] 274; replace hg := hg.keep B0; replace hc := hc.keep B0; replace hp := hp.keep B0; replace hm := hm.keep B0; clear z; cases h1 : pokL gs
 ·have HG := Lib.hid h1
  clear h1
  go_enter Tryz.func301, Tryz.ntmps301
  go_wp2_with fail; refine (ipfx_t _ hg HG).mono ?_; rintro e w1 ⟨rfl, hb⟩; replace bA := bA.keep hb; replace hg := hg.keep hb; replace hc := hc.keep hb; replace hp := hp.keep hb; replace hm := hm.keep hb; replace B0 := below_step B0 hb; clear hb; have fa0 := bA.c 0 rfl; have fa1 := bA.c 1 rfl; have fa2 := bA.c 2 rfl; have fa3 := bA.c 3 rfl; have fa4 := bA.c 4 rfl; have fa5 := bA.c 5 rfl; go_wp2_with fail
  go_ret
  exact ⟨ret_bool (by unfold valU; rw [HG.out]; rfl), B0⟩
 ·have HG := Lib.hid h1
  clear h1; cases h2 : pokL cs
  ·have HC := Lib.hid h2
   clear h2
   go_enter Tryz.func301, Tryz.ntmps301
   go_wp2_with fail; refine (ipfx_t _ hg HG).mono ?_; rintro e w1 ⟨rfl, hb⟩; replace bA := bA.keep hb; replace hg := hg.keep hb; replace hc := hc.keep hb; replace hp := hp.keep hb; replace hm := hm.keep hb; replace B0 := below_step B0 hb; clear hb; have fa0 := bA.c 0 rfl; have fa1 := bA.c 1 rfl; have fa2 := bA.c 2 rfl; have fa3 := bA.c 3 rfl; have fa4 := bA.c 4 rfl; have fa5 := bA.c 5 rfl; go_wp2_with fail; clear fa0 fa1 fa2 fa3 fa4 fa5; refine (ipfx_t _ hc HC).mono ?_; rintro e w1 ⟨rfl, hb⟩; replace bA := bA.keep hb; replace hg := hg.keep hb; replace hc := hc.keep hb; replace hp := hp.keep hb; replace hm := hm.keep hb; replace B0 := below_step B0 hb; clear hb; have fa0 := bA.c 0 rfl; have fa1 := bA.c 1 rfl; have fa2 := bA.c 2 rfl; have fa3 := bA.c 3 rfl; have fa4 := bA.c 4 rfl; have fa5 := bA.c 5 rfl; go_wp2_with fail
   go_ret
   exact ⟨ret_bool (by unfold valU; rw [HG.out, HC.out]; rfl), B0⟩
  ·have HC := Lib.hid h2
   clear h2
   by_cases c0 : cs.length = 0
   ·have c1 : ((cs.length : Int) == 0) = true := beq_iff_eq.mpr (by omega)
    have R0 := Lib.hid c0; clear c0
    go_enter Tryz.func301, Tryz.ntmps301
    go_wp2_with fail; refine (ipfx_t _ hg HG).mono ?_; rintro e w1 ⟨rfl, hb⟩; replace bA := bA.keep hb; replace hg := hg.keep hb; replace hc := hc.keep hb; replace hp := hp.keep hb; replace hm := hm.keep hb; replace B0 := below_step B0 hb; clear hb; have fa0 := bA.c 0 rfl; have fa1 := bA.c 1 rfl; have fa2 := bA.c 2 rfl; have fa3 := bA.c 3 rfl; have fa4 := bA.c 4 rfl; have fa5 := bA.c 5 rfl; go_wp2_with fail; clear fa0 fa1 fa2 fa3 fa4 fa5; refine (ipfx_t _ hc HC).mono ?_; rintro e w1 ⟨rfl, hb⟩; replace bA := bA.keep hb; replace hg := hg.keep hb; replace hc := hc.keep hb; replace hp := hp.keep hb; replace hm := hm.keep hb; replace B0 := below_step B0 hb; clear hb; have fa0 := bA.c 0 rfl; have fa1 := bA.c 1 rfl; have fa2 := bA.c 2 rfl; have fa3 := bA.c 3 rfl; have fa4 := bA.c 4 rfl; have fa5 := bA.c 5 rfl; go_wp2_with fail
    go_ret
    exact ⟨ret_bool (by unfold valU; rw [HG.out, HC.out, decide_eq_true R0.out]; rfl), B0⟩
   ·have c1 : ((cs.length : Int) == 0) = false := beq_eq_false_iff_ne.mpr (by omega)
    have R0 := Lib.hid c0; clear c0; cases h3 : aokB ps pr ms bw
    ·have HO := Lib.hid h3
     clear h3
     go_enter Tryz.func301, Tryz.ntmps301
     go_wp2_with fail; refine (ipfx_t _ hg HG).mono ?_; rintro e w1 ⟨rfl, hb⟩; replace bA := bA.keep hb; replace hg := hg.keep hb; replace hc := hc.keep hb; replace hp := hp.keep hb; replace hm := hm.keep hb; replace B0 := below_step B0 hb; clear hb; have fa0 := bA.c 0 rfl; have fa1 := bA.c 1 rfl; have fa2 := bA.c 2 rfl; have fa3 := bA.c 3 rfl; have fa4 := bA.c 4 rfl; have fa5 := bA.c 5 rfl; go_wp2_with fail; clear fa0 fa1 fa2 fa3 fa4 fa5; refine (ipfx_t _ hc HC).mono ?_; rintro e w1 ⟨rfl, hb⟩; replace bA := bA.keep hb; replace hg := hg.keep hb; replace hc := hc.keep hb; replace hp := hp.keep hb; replace hm := hm.keep hb; replace B0 := below_step B0 hb; clear hb; have fa0 := bA.c 0 rfl; have fa1 := bA.c 1 rfl; have fa2 := bA.c 2 rfl; have fa3 := bA.c 3 rfl; have fa4 := bA.c 4 rfl; have fa5 := bA.c 5 rfl; go_wp2_with fail; clear fa0 fa1 fa2 fa3 fa4 fa5; refine (iaokN_t _ hp hm HO).mono ?_; rintro e w1 ⟨rfl, hb⟩; replace bA := bA.keep hb; replace hg := hg.keep hb; replace hc := hc.keep hb; replace hp := hp.keep hb; replace hm := hm.keep hb; replace B0 := below_step B0 hb; clear hb; have fa0 := bA.c 0 rfl; have fa1 := bA.c 1 rfl; have fa2 := bA.c 2 rfl; have fa3 := bA.c 3 rfl; have fa4 := bA.c 4 rfl; have fa5 := bA.c 5 rfl; go_wp2_with fail
     go_ret
     exact ⟨ret_bool (by unfold valU; rw [HG.out, HC.out, decide_eq_false R0.out, HO.out]; rfl), B0⟩
    ·have HO := Lib.hid h3
     clear h3
     by_cases p0 : 0 < ps.length
     ·have p1 : (0 : Int) < ps.length := by omega
      have Q0 := Lib.hid p0; clear p0
      go_enter Tryz.func301, Tryz.ntmps301
      go_wp2_with fail; refine (ipfx_t _ hg HG).mono ?_; rintro e w1 ⟨rfl, hb⟩; replace bA := bA.keep hb; replace hg := hg.keep hb; replace hc := hc.keep hb; replace hp := hp.keep hb; replace hm := hm.keep hb; replace B0 := below_step B0 hb; clear hb; have fa0 := bA.c 0 rfl; have fa1 := bA.c 1 rfl; have fa2 := bA.c 2 rfl; have fa3 := bA.c 3 rfl; have fa4 := bA.c 4 rfl; have fa5 := bA.c 5 rfl; go_wp2_with fail; clear fa0 fa1 fa2 fa3 fa4 fa5; refine (ipfx_t _ hc HC).mono ?_; rintro e w1 ⟨rfl, hb⟩; replace bA := bA.keep hb; replace hg := hg.keep hb; replace hc := hc.keep hb; replace hp := hp.keep hb; replace hm := hm.keep hb; replace B0 := below_step B0 hb; clear hb; have fa0 := bA.c 0 rfl; have fa1 := bA.c 1 rfl; have fa2 := bA.c 2 rfl; have fa3 := bA.c 3 rfl; have fa4 := bA.c 4 rfl; have fa5 := bA.c 5 rfl; go_wp2_with fail; clear fa0 fa1 fa2 fa3 fa4 fa5; refine (iaokN_t _ hp hm HO).mono ?_; rintro e w1 ⟨rfl, hb⟩; replace bA := bA.keep hb; replace hg := hg.keep hb; replace hc := hc.keep hb; replace hp := hp.keep hb; replace hm := hm.keep hb; replace B0 := below_step B0 hb; clear hb; have fa0 := bA.c 0 rfl; have fa1 := bA.c 1 rfl; have fa2 := bA.c 2 rfl; have fa3 := bA.c 3 rfl; have fa4 := bA.c 4 rfl; have fa5 := bA.c 5 rfl; go_wp2_with fail
      go_ret
      exact ⟨ret_bool (by unfold valU; rw [HG.out, HC.out, decide_eq_false R0.out, HO.out, decide_eq_true Q0.out]; rfl), B0⟩
     ·have p1 : ¬ (0 : Int) < ps.length := by omega
      have Q0 := Lib.hid p0; clear p0
      go_enter Tryz.func301, Tryz.ntmps301
      go_wp2_with fail; refine (ipfx_t _ hg HG).mono ?_; rintro e w1 ⟨rfl, hb⟩; replace bA := bA.keep hb; replace hg := hg.keep hb; replace hc := hc.keep hb; replace hp := hp.keep hb; replace hm := hm.keep hb; replace B0 := below_step B0 hb; clear hb; have fa0 := bA.c 0 rfl; have fa1 := bA.c 1 rfl; have fa2 := bA.c 2 rfl; have fa3 := bA.c 3 rfl; have fa4 := bA.c 4 rfl; have fa5 := bA.c 5 rfl; go_wp2_with fail; clear fa0 fa1 fa2 fa3 fa4 fa5; refine (ipfx_t _ hc HC).mono ?_; rintro e w1 ⟨rfl, hb⟩; replace bA := bA.keep hb; replace hg := hg.keep hb; replace hc := hc.keep hb; replace hp := hp.keep hb; replace hm := hm.keep hb; replace B0 := below_step B0 hb; clear hb; have fa0 := bA.c 0 rfl; have fa1 := bA.c 1 rfl; have fa2 := bA.c 2 rfl; have fa3 := bA.c 3 rfl; have fa4 := bA.c 4 rfl; have fa5 := bA.c 5 rfl; go_wp2_with fail; clear fa0 fa1 fa2 fa3 fa4 fa5; refine (iaokN_t _ hp hm HO).mono ?_; rintro e w1 ⟨rfl, hb⟩; replace bA := bA.keep hb; replace hg := hg.keep hb; replace hc := hc.keep hb; replace hp := hp.keep hb; replace hm := hm.keep hb; replace B0 := below_step B0 hb; clear hb; have fa0 := bA.c 0 rfl; have fa1 := bA.c 1 rfl; have fa2 := bA.c 2 rfl; have fa3 := bA.c 3 rfl; have fa4 := bA.c 4 rfl; have fa5 := bA.c 5 rfl; go_wp2_with fail
      go_ret
      exact ⟨ret_bool (by unfold valU; rw [HG.out, HC.out, decide_eq_false R0.out, HO.out, decide_eq_false Q0.out]; rfl), B0⟩
theorem ivalN_any (er : Int) (w : World) : Calls Tryz.prog 304 #[.agg #[.int .i64 er]] w fun e w' => e = .returned (.bool (inB er 1 6)) ∧ Below w.heap.size w w' := by
 obtain ⟨bA, B0, z⟩ := one w [.int .i64 er] 276; clear z; cases h1 : inB er 1 6
 all_goals
  have H1 := Lib.hid h1; clear h1
  go_enter Tryz.func304, Tryz.ntmps304
  go_wp2_with fail; refine (within_t _ H1).mono ?_; rintro e w1 ⟨rfl, rfl⟩; go_wp2_with fail
  go_ret
  exact ⟨rfl, B0⟩
theorem ivalK_any (w : World) : Calls Tryz.prog 307 #[.agg #[]] w fun e w' => e = .returned (.bool true) ∧ Below w.heap.size w w' := by
 obtain ⟨bA, B0, z⟩ := one w [] 278; clear z
 go_enter Tryz.func307, Tryz.ntmps307
 go_wp2
 go_ret
 exact ⟨rfl, B0⟩
theorem ivalO_t {sa ho ix : Int} {b : Bool} (w : World) (H : Hid (valO sa ho ix = b)) : Calls Tryz.prog 298 #[.agg #[.int .i64 sa, .int .i64 ho, .int .i64 ix]] w fun e w' => e = .returned (.bool b) ∧ Below w.heap.size w w' := H.out ▸ ivalO_any sa ho ix w
theorem ivalU_t {ga ca pa ma : Option Addr} {gx cx px mx : Nat} {gs cs : List (Int × Int)} {ps ms : List Int} {pr bw : Int} {b : Bool} (w : World)
  (hg : RdP w (.slice ga gs.length gx) gs) (hc : RdP w (.slice ca cs.length cx) cs) (hp : RdI w (.slice pa ps.length px) ps) (hm : RdI w (.slice ma ms.length mx) ms) (H : Hid (valU gs cs ps ms pr bw = b)) :
  Calls Tryz.prog 301 #[.agg #[.slice ga gs.length gx, .slice ca cs.length cx, .slice pa ps.length px, .int .i64 pr, .slice ma ms.length mx, .int .i64 bw]] w fun e w' => e = .returned (.bool b) ∧ Below w.heap.size w w' := H.out ▸ ivalU_any ga ca pa ma gx cx px mx gs cs ps ms pr bw w hg hc hp hm
theorem ivalN_t {er : Int} {b : Bool} (w : World) (H : Hid (inB er 1 6 = b)) : Calls Tryz.prog 304 #[.agg #[.int .i64 er]] w fun e w' => e = .returned (.bool b) ∧ Below w.heap.size w w' := H.out ▸ ivalN_any er w
theorem inv_O_valid (n : Nat) (v : Value) (w : World) : (method (n + 1) 272 v "loop.example/g00557/impl.valid").run Tryz.prog w = .ok (298, v) w := by kernel_rfl
theorem inv_U_valid (n : Nat) (v : Value) (w : World) : (method (n + 1) 274 v "loop.example/g00557/impl.valid").run Tryz.prog w = .ok (301, v) w := by kernel_rfl
theorem inv_N_valid (n : Nat) (v : Value) (w : World) : (method (n + 1) 276 v "loop.example/g00557/impl.valid").run Tryz.prog w = .ok (304, v) w := by kernel_rfl
theorem inv_K_valid (n : Nat) (v : Value) (w : World) : (method (n + 1) 278 v "loop.example/g00557/impl.valid").run Tryz.prog w = .ok (307, v) w := by kernel_rfl
section
variable (ga ca pa ma : Option Addr) (gx cx px mx : Nat) (gs cs : List (Int × Int)) (ps ms : List Int) (kn sa ho ix pr bw er : Int)
/-- what is unpacked -/
def uvX : Value := if kn = 1 then .iface 272 (.agg #[.int .i64 sa, .int .i64 ho, .int .i64 ix]) else if kn = 2 then (if cs.length = 0 then .iface 274 (.agg #[.slice ga gs.length gx, .slice ca 0 cx, .slice none 0 0, .int .i64 0, .slice none 0 0, .int .i64 0]) else .iface 274 (.agg #[.slice ga gs.length gx, .slice ca cs.length cx, .slice pa ps.length px, .int .i64 pr, .slice ma ms.length mx, .int .i64 bw])) else if kn = 3 then .iface 276 (.agg #[.int .i64 er]) else .iface 278 (.agg #[])
def uvAns : Value := if mokB gs cs ps ms kn sa ho ix pr bw er = true then .tuple #[uvX ga ca pa ma gx cx px mx gs cs ps ms kn sa ho ix pr bw er, .bool true] else .tuple #[.nilIface, .bool false]
end
set_option maxHeartbeats 2000000 in
theorem uv_O (ga ca pa ma : Option Addr) (gx cx px mx : Nat) (gs cs : List (Int × Int)) (ps ms : List Int) (kn sa ho ix pr bw er : Int) (w : World) (hg : RdP w (.slice ga gs.length gx) gs) (hc : RdP w (.slice ca cs.length cx) cs) (hp : RdI w (.slice pa ps.length px) ps) (hm : RdI w (.slice ma ms.length mx) ms) :
  Calls Tryz.prog 216 #[.agg #[.int .i64 1, .int .i64 sa, .int .i64 ho, .int .i64 ix, .slice ga gs.length gx, .slice ca cs.length cx, .slice pa ps.length px, .int .i64 pr, .slice ma ms.length mx, .int .i64 bw, .int .i64 er]] w fun e w' => e = .returned (uvAns ga ca pa ma gx cx px mx gs cs ps ms 1 sa ho ix pr bw er) ∧ Below w.heap.size w w' := by
 obtain ⟨bA, B0, z⟩ := one w [.int .i64 1, .int .i64 sa, .int .i64 ho, .int .i64 ix, .slice ga gs.length gx, .slice ca cs.length cx, .slice pa ps.length px, .int .i64 pr, .slice ma ms.length mx, .int .i64 bw, .int .i64 er] 52; replace hg := hg.keep B0; replace hc := hc.keep B0; replace hp := hp.keep B0; replace hm := hm.keep B0; clear z; cases v0 : valO sa ho ix
 ·have HV := Lib.hid v0
  clear v0
  go_enter Tryz.func216, Tryz.ntmps216
  go_wp2_with fail; refine (unpack_O ga ca pa ma gx cx px mx _ _ _ _ kn sa ho ix pr bw er _).mono ?_; rintro e w1 ⟨rfl, hb⟩; replace bA := bA.keep hb; replace hg := hg.keep hb; replace hc := hc.keep hb; replace hp := hp.keep hb; replace hm := hm.keep hb; replace B0 := below_step B0 hb; clear hb; have fa0 := bA.c 0 rfl; have fa1 := bA.c 1 rfl; have fa2 := bA.c 2 rfl; have fa3 := bA.c 3 rfl; have fa4 := bA.c 4 rfl; have fa5 := bA.c 5 rfl; have fa6 := bA.c 6 rfl; have fa7 := bA.c 7 rfl; have fa8 := bA.c 8 rfl; have fa9 := bA.c 9 rfl; have fa10 := bA.c 10 rfl; go_wp2_with fail; clear fa0 fa1 fa2 fa3 fa4 fa5 fa6 fa7 fa8 fa9 fa10; have qi := inv_O_valid; refine wp_region_class (C := Over (w1)) (by kernel_rfl) (by kernel_rfl) (over_drew _) ?_
  repeat (first | go_big_quiet_skip | (go_big_quiet_want; go_big_quiet_op; go_big_quiet_on) | (go_big_quiet_want; go_big_quiet_op; apply Exists.intro; refine ⟨fun w' hC => ?_, ?_⟩; ((first | (go_at_call 298; refine (ivalO_t _ HV).mono ?_; rintro e w1 ⟨rfl, hb1⟩; exact ⟨rfl, over_step hC hb1⟩))); go_big_quiet_on) | (go_big_quiet_want; apply Exists.intro; refine ⟨fun w' hC => ?_, ?_⟩; (have k0 := over_cell hC bA.lt (bA.c 0 rfl); have k1 := over_cell hC bA.lt (bA.c 1 rfl); have k2 := over_cell hC bA.lt (bA.c 2 rfl); have k3 := over_cell hC bA.lt (bA.c 3 rfl); have k4 := over_cell hC bA.lt (bA.c 4 rfl); have k5 := over_cell hC bA.lt (bA.c 5 rfl); have k6 := over_cell hC bA.lt (bA.c 6 rfl); have k7 := over_cell hC bA.lt (bA.c 7 rfl); have k8 := over_cell hC bA.lt (bA.c 8 rfl); have k9 := over_cell hC bA.lt (bA.c 9 rfl); have k10 := over_cell hC bA.lt (bA.c 10 rfl); simp [Oper.quietAt, Oper.quietUpon, go_sem, k0, k1, k2, k3, k4, k5, k6, k7, k8, k9, k10]; first | done | rfl); go_big_quiet_on; simp only [Act.put, setIfInBounds_toArray, set_cons_succ, set_cons_zero]))
  refine wpQuiet_nil ?_; intro wr hC; have k0 := over_cell hC bA.lt (bA.c 0 rfl); have k1 := over_cell hC bA.lt (bA.c 1 rfl); have k2 := over_cell hC bA.lt (bA.c 2 rfl); have k3 := over_cell hC bA.lt (bA.c 3 rfl); have k4 := over_cell hC bA.lt (bA.c 4 rfl); have k5 := over_cell hC bA.lt (bA.c 5 rfl); have k6 := over_cell hC bA.lt (bA.c 6 rfl); have k7 := over_cell hC bA.lt (bA.c 7 rfl); have k8 := over_cell hC bA.lt (bA.c 8 rfl); have k9 := over_cell hC bA.lt (bA.c 9 rfl); have k10 := over_cell hC bA.lt (bA.c 10 rfl); replace B0 := below_step B0 hC; go_wp2_with fail
  exact bodyPost_ret (v := .tuple #[.nilIface, .bool false]) (by simp [results, Tryz.results216, go_sem]) rfl ⟨congrArg Ending.returned ((if_neg (fun g => by have h := mok_1.mp g; have h1 := HV.out; unfold valO at h1; rw [h.1.1, h.1.2.1, h.1.2.2] at h1; cases h1)).symm), B0⟩
 ·have HV := Lib.hid v0
  clear v0; cases s0 : sameB8 [] [] gs cs [] [] ps ms 1 sa ho ix 0 0 0 1 sa ho ix pr bw er
  ·have HS := Lib.hid s0
   clear s0
   go_enter Tryz.func216, Tryz.ntmps216
   go_wp2_with fail; refine (unpack_O ga ca pa ma gx cx px mx _ _ _ _ kn sa ho ix pr bw er _).mono ?_; rintro e w1 ⟨rfl, hb⟩; replace bA := bA.keep hb; replace hg := hg.keep hb; replace hc := hc.keep hb; replace hp := hp.keep hb; replace hm := hm.keep hb; replace B0 := below_step B0 hb; clear hb; have fa0 := bA.c 0 rfl; have fa1 := bA.c 1 rfl; have fa2 := bA.c 2 rfl; have fa3 := bA.c 3 rfl; have fa4 := bA.c 4 rfl; have fa5 := bA.c 5 rfl; have fa6 := bA.c 6 rfl; have fa7 := bA.c 7 rfl; have fa8 := bA.c 8 rfl; have fa9 := bA.c 9 rfl; have fa10 := bA.c 10 rfl; go_wp2_with fail; clear fa0 fa1 fa2 fa3 fa4 fa5 fa6 fa7 fa8 fa9 fa10; have qi := inv_O_valid; refine wp_region_class (C := Over (w1)) (by kernel_rfl) (by kernel_rfl) (over_drew _) ?_
   repeat (first | go_big_quiet_skip | (go_big_quiet_want; go_big_quiet_op; go_big_quiet_on) | (go_big_quiet_want; go_big_quiet_op; apply Exists.intro; refine ⟨fun w' hC => ?_, ?_⟩; ((first | (go_at_call 298; refine (ivalO_t _ HV).mono ?_; rintro e w1 ⟨rfl, hb1⟩; exact ⟨rfl, over_step hC hb1⟩) | (go_at_call 256; refine (pack_O sa ho ix _).mono ?_; rintro e w1 ⟨rfl, hb1⟩; exact ⟨rfl, over_step hC hb1⟩) | (go_at_call 255; refine (isameM_t _ (RdP.nil _) (RdP.nil _) (RdI.nil _) (RdI.nil _) (hg.keep hC) (hc.keep hC) (hp.keep hC) (hm.keep hC) HS).mono ?_; rintro e w1 ⟨rfl, hb1⟩; exact ⟨rfl, over_step hC hb1⟩))); go_big_quiet_on) | (go_big_quiet_want; apply Exists.intro; refine ⟨fun w' hC => ?_, ?_⟩; (have k0 := over_cell hC bA.lt (bA.c 0 rfl); have k1 := over_cell hC bA.lt (bA.c 1 rfl); have k2 := over_cell hC bA.lt (bA.c 2 rfl); have k3 := over_cell hC bA.lt (bA.c 3 rfl); have k4 := over_cell hC bA.lt (bA.c 4 rfl); have k5 := over_cell hC bA.lt (bA.c 5 rfl); have k6 := over_cell hC bA.lt (bA.c 6 rfl); have k7 := over_cell hC bA.lt (bA.c 7 rfl); have k8 := over_cell hC bA.lt (bA.c 8 rfl); have k9 := over_cell hC bA.lt (bA.c 9 rfl); have k10 := over_cell hC bA.lt (bA.c 10 rfl); simp [Oper.quietAt, Oper.quietUpon, go_sem, k0, k1, k2, k3, k4, k5, k6, k7, k8, k9, k10]; first | done | rfl); go_big_quiet_on; simp only [Act.put, setIfInBounds_toArray, set_cons_succ, set_cons_zero]))
   refine wpQuiet_nil ?_; intro wr hC; have k0 := over_cell hC bA.lt (bA.c 0 rfl); have k1 := over_cell hC bA.lt (bA.c 1 rfl); have k2 := over_cell hC bA.lt (bA.c 2 rfl); have k3 := over_cell hC bA.lt (bA.c 3 rfl); have k4 := over_cell hC bA.lt (bA.c 4 rfl); have k5 := over_cell hC bA.lt (bA.c 5 rfl); have k6 := over_cell hC bA.lt (bA.c 6 rfl); have k7 := over_cell hC bA.lt (bA.c 7 rfl); have k8 := over_cell hC bA.lt (bA.c 8 rfl); have k9 := over_cell hC bA.lt (bA.c 9 rfl); have k10 := over_cell hC bA.lt (bA.c 10 rfl); replace B0 := below_step B0 hC; go_wp2_with fail
   exact bodyPost_ret (v := .tuple #[.nilIface, .bool false]) (by simp [results, Tryz.results216, go_sem]) rfl ⟨congrArg Ending.returned ((if_neg (fun g => by have h := (mok_1.mp g).2; have h1 := HS.out; unfold sameB8 at h1; obtain ⟨rfl, rfl, hz, rfl⟩ := h; obtain ⟨rfl, rfl, rfl, rfl⟩ := zA_iff.mp hz; simp at h1)).symm), B0⟩
  ·have HS := Lib.hid s0
   clear s0
   go_enter Tryz.func216, Tryz.ntmps216
   go_wp2_with fail; refine (unpack_O ga ca pa ma gx cx px mx _ _ _ _ kn sa ho ix pr bw er _).mono ?_; rintro e w1 ⟨rfl, hb⟩; replace bA := bA.keep hb; replace hg := hg.keep hb; replace hc := hc.keep hb; replace hp := hp.keep hb; replace hm := hm.keep hb; replace B0 := below_step B0 hb; clear hb; have fa0 := bA.c 0 rfl; have fa1 := bA.c 1 rfl; have fa2 := bA.c 2 rfl; have fa3 := bA.c 3 rfl; have fa4 := bA.c 4 rfl; have fa5 := bA.c 5 rfl; have fa6 := bA.c 6 rfl; have fa7 := bA.c 7 rfl; have fa8 := bA.c 8 rfl; have fa9 := bA.c 9 rfl; have fa10 := bA.c 10 rfl; go_wp2_with fail; clear fa0 fa1 fa2 fa3 fa4 fa5 fa6 fa7 fa8 fa9 fa10; have qi := inv_O_valid; refine wp_region_class (C := Over (w1)) (by kernel_rfl) (by kernel_rfl) (over_drew _) ?_
   repeat (first | go_big_quiet_skip | (go_big_quiet_want; go_big_quiet_op; go_big_quiet_on) | (go_big_quiet_want; go_big_quiet_op; apply Exists.intro; refine ⟨fun w' hC => ?_, ?_⟩; ((first | (go_at_call 298; refine (ivalO_t _ HV).mono ?_; rintro e w1 ⟨rfl, hb1⟩; exact ⟨rfl, over_step hC hb1⟩) | (go_at_call 256; refine (pack_O sa ho ix _).mono ?_; rintro e w1 ⟨rfl, hb1⟩; exact ⟨rfl, over_step hC hb1⟩) | (go_at_call 255; refine (isameM_t _ (RdP.nil _) (RdP.nil _) (RdI.nil _) (RdI.nil _) (hg.keep hC) (hc.keep hC) (hp.keep hC) (hm.keep hC) HS).mono ?_; rintro e w1 ⟨rfl, hb1⟩; exact ⟨rfl, over_step hC hb1⟩))); go_big_quiet_on) | (go_big_quiet_want; apply Exists.intro; refine ⟨fun w' hC => ?_, ?_⟩; (have k0 := over_cell hC bA.lt (bA.c 0 rfl); have k1 := over_cell hC bA.lt (bA.c 1 rfl); have k2 := over_cell hC bA.lt (bA.c 2 rfl); have k3 := over_cell hC bA.lt (bA.c 3 rfl); have k4 := over_cell hC bA.lt (bA.c 4 rfl); have k5 := over_cell hC bA.lt (bA.c 5 rfl); have k6 := over_cell hC bA.lt (bA.c 6 rfl); have k7 := over_cell hC bA.lt (bA.c 7 rfl); have k8 := over_cell hC bA.lt (bA.c 8 rfl); have k9 := over_cell hC bA.lt (bA.c 9 rfl); have k10 := over_cell hC bA.lt (bA.c 10 rfl); simp [Oper.quietAt, Oper.quietUpon, go_sem, k0, k1, k2, k3, k4, k5, k6, k7, k8, k9, k10]; first | done | rfl); go_big_quiet_on; simp only [Act.put, setIfInBounds_toArray, set_cons_succ, set_cons_zero]))
   refine wpQuiet_nil ?_; intro wr hC; have k0 := over_cell hC bA.lt (bA.c 0 rfl); have k1 := over_cell hC bA.lt (bA.c 1 rfl); have k2 := over_cell hC bA.lt (bA.c 2 rfl); have k3 := over_cell hC bA.lt (bA.c 3 rfl); have k4 := over_cell hC bA.lt (bA.c 4 rfl); have k5 := over_cell hC bA.lt (bA.c 5 rfl); have k6 := over_cell hC bA.lt (bA.c 6 rfl); have k7 := over_cell hC bA.lt (bA.c 7 rfl); have k8 := over_cell hC bA.lt (bA.c 8 rfl); have k9 := over_cell hC bA.lt (bA.c 9 rfl); have k10 := over_cell hC bA.lt (bA.c 10 rfl); replace B0 := below_step B0 hC; go_wp2_with fail
   exact bodyPost_ret (v := .tuple #[.iface 272 (.agg #[.int .i64 sa, .int .i64 ho, .int .i64 ix]), .bool true]) (by simp [results, Tryz.results216, go_sem]) rfl ⟨congrArg Ending.returned ((by unfold uvAns uvX; rw [if_pos (mok_1.mpr (by have h1 := HV.out; have h2 := HS.out; unfold valO at h1; unfold sameB8 at h2; simp only [Bool.and_eq_true] at h1; rw [decide_eq_true_eq] at h2; obtain ⟨-, -, -, -, h3, h4, h5, h6, h7, h8, h9⟩ := h2; exact ⟨⟨h1.1.1, h1.1.2, h1.2⟩, h4.symm, h5.symm, zA_iff.mpr ⟨h7.symm, h9.symm, h6.symm, h8.symm⟩, h3.symm⟩))]; exact congrArg (fun x => Value.tuple #[x, .bool true]) (if_pos rfl).symm)), B0⟩
set_option maxHeartbeats 2000000 in
theorem uv_U0 (ga ca pa ma : Option Addr) (gx cx px mx : Nat) (gs : List (Int × Int)) (ps ms : List Int) (kn sa ho ix pr bw er : Int) (w : World) (hg : RdP w (.slice ga gs.length gx) gs) (hc : RdP w (.slice ca 0 cx) []) (hp : RdI w (.slice pa ps.length px) ps) (hm : RdI w (.slice ma ms.length mx) ms) :
  Calls Tryz.prog 216 #[.agg #[.int .i64 2, .int .i64 sa, .int .i64 ho, .int .i64 ix, .slice ga gs.length gx, .slice ca 0 cx, .slice pa ps.length px, .int .i64 pr, .slice ma ms.length mx, .int .i64 bw, .int .i64 er]] w fun e w' => e = .returned (uvAns ga ca pa ma gx cx px mx gs [] ps ms 2 sa ho ix pr bw er) ∧ Below w.heap.size w w' := by
 obtain ⟨bA, B0, z⟩ := one w [.int .i64 2, .int .i64 sa, .int .i64 ho, .int .i64 ix, .slice ga gs.length gx, .slice ca 0 cx, .slice pa ps.length px, .int .i64 pr, .slice ma ms.length mx, .int .i64 bw, .int .i64 er] 52; replace hg := hg.keep B0; replace hc := hc.keep B0; replace hp := hp.keep B0; replace hm := hm.keep B0; clear z; cases v0 : valU gs [] [] [] 0 0
 ·have HV := Lib.hid v0
  clear v0
  go_enter Tryz.func216, Tryz.ntmps216
  go_wp2_with fail; refine (unpack_U0 ga ca pa ma gx cx px mx _ 0 _ _ kn sa ho ix pr bw er _).mono ?_; rintro e w1 ⟨rfl, hb⟩; replace bA := bA.keep hb; replace hg := hg.keep hb; replace hc := hc.keep hb; replace hp := hp.keep hb; replace hm := hm.keep hb; replace B0 := below_step B0 hb; clear hb; have fa0 := bA.c 0 rfl; have fa1 := bA.c 1 rfl; have fa2 := bA.c 2 rfl; have fa3 := bA.c 3 rfl; have fa4 := bA.c 4 rfl; have fa5 := bA.c 5 rfl; have fa6 := bA.c 6 rfl; have fa7 := bA.c 7 rfl; have fa8 := bA.c 8 rfl; have fa9 := bA.c 9 rfl; have fa10 := bA.c 10 rfl; go_wp2_with fail; clear fa0 fa1 fa2 fa3 fa4 fa5 fa6 fa7 fa8 fa9 fa10; have qi := inv_U_valid; refine wp_region_class (C := Over (w1)) (by kernel_rfl) (by kernel_rfl) (over_drew _) ?_
  repeat (first | go_big_quiet_skip | (go_big_quiet_want; go_big_quiet_op; go_big_quiet_on) | (go_big_quiet_want; go_big_quiet_op; apply Exists.intro; refine ⟨fun w' hC => ?_, ?_⟩; ((first | (go_at_call 301; refine (ivalU_t (cs := []) (ps := []) (ms := []) _ (hg.keep hC) (hc.keep hC) (RdI.nil _) (RdI.nil _) HV).mono ?_; rintro e w1 ⟨rfl, hb1⟩; exact ⟨rfl, over_step hC hb1⟩))); go_big_quiet_on) | (go_big_quiet_want; apply Exists.intro; refine ⟨fun w' hC => ?_, ?_⟩; (have k0 := over_cell hC bA.lt (bA.c 0 rfl); have k1 := over_cell hC bA.lt (bA.c 1 rfl); have k2 := over_cell hC bA.lt (bA.c 2 rfl); have k3 := over_cell hC bA.lt (bA.c 3 rfl); have k4 := over_cell hC bA.lt (bA.c 4 rfl); have k5 := over_cell hC bA.lt (bA.c 5 rfl); have k6 := over_cell hC bA.lt (bA.c 6 rfl); have k7 := over_cell hC bA.lt (bA.c 7 rfl); have k8 := over_cell hC bA.lt (bA.c 8 rfl); have k9 := over_cell hC bA.lt (bA.c 9 rfl); have k10 := over_cell hC bA.lt (bA.c 10 rfl); simp [Oper.quietAt, Oper.quietUpon, go_sem, k0, k1, k2, k3, k4, k5, k6, k7, k8, k9, k10]; first | done | rfl); go_big_quiet_on; simp only [Act.put, setIfInBounds_toArray, set_cons_succ, set_cons_zero]))
  refine wpQuiet_nil ?_; intro wr hC; have k0 := over_cell hC bA.lt (bA.c 0 rfl); have k1 := over_cell hC bA.lt (bA.c 1 rfl); have k2 := over_cell hC bA.lt (bA.c 2 rfl); have k3 := over_cell hC bA.lt (bA.c 3 rfl); have k4 := over_cell hC bA.lt (bA.c 4 rfl); have k5 := over_cell hC bA.lt (bA.c 5 rfl); have k6 := over_cell hC bA.lt (bA.c 6 rfl); have k7 := over_cell hC bA.lt (bA.c 7 rfl); have k8 := over_cell hC bA.lt (bA.c 8 rfl); have k9 := over_cell hC bA.lt (bA.c 9 rfl); have k10 := over_cell hC bA.lt (bA.c 10 rfl); replace B0 := below_step B0 hC; go_wp2_with fail
  exact bodyPost_ret (v := .tuple #[.nilIface, .bool false]) (by simp [results, Tryz.results216, go_sem]) rfl ⟨congrArg Ending.returned ((if_neg (fun g => by have h := mok_2.mp g; have h1 := HV.out; unfold valU at h1; rw [h.1, pokL_nil] at h1; cases h1)).symm), B0⟩
 ·have HV := Lib.hid v0
  clear v0; cases s0 : sameB8 gs [] gs [] [] [] ps ms 2 0 0 0 0 0 0 2 sa ho ix pr bw er
  ·have HS := Lib.hid s0
   clear s0
   go_enter Tryz.func216, Tryz.ntmps216
   go_wp2_with fail; refine (unpack_U0 ga ca pa ma gx cx px mx _ 0 _ _ kn sa ho ix pr bw er _).mono ?_; rintro e w1 ⟨rfl, hb⟩; replace bA := bA.keep hb; replace hg := hg.keep hb; replace hc := hc.keep hb; replace hp := hp.keep hb; replace hm := hm.keep hb; replace B0 := below_step B0 hb; clear hb; have fa0 := bA.c 0 rfl; have fa1 := bA.c 1 rfl; have fa2 := bA.c 2 rfl; have fa3 := bA.c 3 rfl; have fa4 := bA.c 4 rfl; have fa5 := bA.c 5 rfl; have fa6 := bA.c 6 rfl; have fa7 := bA.c 7 rfl; have fa8 := bA.c 8 rfl; have fa9 := bA.c 9 rfl; have fa10 := bA.c 10 rfl; go_wp2_with fail; clear fa0 fa1 fa2 fa3 fa4 fa5 fa6 fa7 fa8 fa9 fa10; have qi := inv_U_valid; refine wp_region_class (C := Over (w1)) (by kernel_rfl) (by kernel_rfl) (over_drew _) ?_
   repeat (first | go_big_quiet_skip | (go_big_quiet_want; go_big_quiet_op; go_big_quiet_on) | (go_big_quiet_want; go_big_quiet_op; apply Exists.intro; refine ⟨fun w' hC => ?_, ?_⟩; ((first | (go_at_call 301; refine (ivalU_t (cs := []) (ps := []) (ms := []) _ (hg.keep hC) (hc.keep hC) (RdI.nil _) (RdI.nil _) HV).mono ?_; rintro e w1 ⟨rfl, hb1⟩; exact ⟨rfl, over_step hC hb1⟩) | (go_at_call 256; refine (pack_U ga ca none none gx cx 0 0 _ 0 0 0 0 0 _).mono ?_; rintro e w1 ⟨rfl, hb1⟩; exact ⟨rfl, over_step hC hb1⟩) | (go_at_call 255; refine (isameM_t _ (hg.keep hC) (hc.keep hC) (RdI.nil _) (RdI.nil _) (hg.keep hC) (hc.keep hC) (hp.keep hC) (hm.keep hC) HS).mono ?_; rintro e w1 ⟨rfl, hb1⟩; exact ⟨rfl, over_step hC hb1⟩))); go_big_quiet_on) | (go_big_quiet_want; apply Exists.intro; refine ⟨fun w' hC => ?_, ?_⟩; (have k0 := over_cell hC bA.lt (bA.c 0 rfl); have k1 := over_cell hC bA.lt (bA.c 1 rfl); have k2 := over_cell hC bA.lt (bA.c 2 rfl); have k3 := over_cell hC bA.lt (bA.c 3 rfl); have k4 := over_cell hC bA.lt (bA.c 4 rfl); have k5 := over_cell hC bA.lt (bA.c 5 rfl); have k6 := over_cell hC bA.lt (bA.c 6 rfl); have k7 := over_cell hC bA.lt (bA.c 7 rfl); have k8 := over_cell hC bA.lt (bA.c 8 rfl); have k9 := over_cell hC bA.lt (bA.c 9 rfl); have k10 := over_cell hC bA.lt (bA.c 10 rfl); simp [Oper.quietAt, Oper.quietUpon, go_sem, k0, k1, k2, k3, k4, k5, k6, k7, k8, k9, k10]; first | done | rfl); go_big_quiet_on; simp only [Act.put, setIfInBounds_toArray, set_cons_succ, set_cons_zero]))
   refine wpQuiet_nil ?_; intro wr hC; have k0 := over_cell hC bA.lt (bA.c 0 rfl); have k1 := over_cell hC bA.lt (bA.c 1 rfl); have k2 := over_cell hC bA.lt (bA.c 2 rfl); have k3 := over_cell hC bA.lt (bA.c 3 rfl); have k4 := over_cell hC bA.lt (bA.c 4 rfl); have k5 := over_cell hC bA.lt (bA.c 5 rfl); have k6 := over_cell hC bA.lt (bA.c 6 rfl); have k7 := over_cell hC bA.lt (bA.c 7 rfl); have k8 := over_cell hC bA.lt (bA.c 8 rfl); have k9 := over_cell hC bA.lt (bA.c 9 rfl); have k10 := over_cell hC bA.lt (bA.c 10 rfl); replace B0 := below_step B0 hC; go_wp2_with fail
   exact bodyPost_ret (v := .tuple #[.nilIface, .bool false]) (by simp [results, Tryz.results216, go_sem]) rfl ⟨congrArg Ending.returned ((if_neg (fun g => by have h := (mok_2.mp g).2; have h1 := HS.out; unfold sameB8 at h1; obtain ⟨rfl, rfl, rfl, hz, rfl⟩ := h; obtain ⟨rfl, rfl, rfl, rfl⟩ := zA_iff.mp hz; simp at h1)).symm), B0⟩
  ·have HS := Lib.hid s0
   clear s0
   go_enter Tryz.func216, Tryz.ntmps216
   go_wp2_with fail; refine (unpack_U0 ga ca pa ma gx cx px mx _ 0 _ _ kn sa ho ix pr bw er _).mono ?_; rintro e w1 ⟨rfl, hb⟩; replace bA := bA.keep hb; replace hg := hg.keep hb; replace hc := hc.keep hb; replace hp := hp.keep hb; replace hm := hm.keep hb; replace B0 := below_step B0 hb; clear hb; have fa0 := bA.c 0 rfl; have fa1 := bA.c 1 rfl; have fa2 := bA.c 2 rfl; have fa3 := bA.c 3 rfl; have fa4 := bA.c 4 rfl; have fa5 := bA.c 5 rfl; have fa6 := bA.c 6 rfl; have fa7 := bA.c 7 rfl; have fa8 := bA.c 8 rfl; have fa9 := bA.c 9 rfl; have fa10 := bA.c 10 rfl; go_wp2_with fail; clear fa0 fa1 fa2 fa3 fa4 fa5 fa6 fa7 fa8 fa9 fa10; have qi := inv_U_valid; refine wp_region_class (C := Over (w1)) (by kernel_rfl) (by kernel_rfl) (over_drew _) ?_
   repeat (first | go_big_quiet_skip | (go_big_quiet_want; go_big_quiet_op; go_big_quiet_on) | (go_big_quiet_want; go_big_quiet_op; apply Exists.intro; refine ⟨fun w' hC => ?_, ?_⟩; ((first | (go_at_call 301; refine (ivalU_t (cs := []) (ps := []) (ms := []) _ (hg.keep hC) (hc.keep hC) (RdI.nil _) (RdI.nil _) HV).mono ?_; rintro e w1 ⟨rfl, hb1⟩; exact ⟨rfl, over_step hC hb1⟩) | (go_at_call 256; refine (pack_U ga ca none none gx cx 0 0 _ 0 0 0 0 0 _).mono ?_; rintro e w1 ⟨rfl, hb1⟩; exact ⟨rfl, over_step hC hb1⟩) | (go_at_call 255; refine (isameM_t _ (hg.keep hC) (hc.keep hC) (RdI.nil _) (RdI.nil _) (hg.keep hC) (hc.keep hC) (hp.keep hC) (hm.keep hC) HS).mono ?_; rintro e w1 ⟨rfl, hb1⟩; exact ⟨rfl, over_step hC hb1⟩))); go_big_quiet_on) | (go_big_quiet_want; apply Exists.intro; refine ⟨fun w' hC => ?_, ?_⟩; (have k0 := over_cell hC bA.lt (bA.c 0 rfl); have k1 := over_cell hC bA.lt (bA.c 1 rfl); have k2 := over_cell hC bA.lt (bA.c 2 rfl); have k3 := over_cell hC bA.lt (bA.c 3 rfl); have k4 := over_cell hC bA.lt (bA.c 4 rfl); have k5 := over_cell hC bA.lt (bA.c 5 rfl); have k6 := over_cell hC bA.lt (bA.c 6 rfl); have k7 := over_cell hC bA.lt (bA.c 7 rfl); have k8 := over_cell hC bA.lt (bA.c 8 rfl); have k9 := over_cell hC bA.lt (bA.c 9 rfl); have k10 := over_cell hC bA.lt (bA.c 10 rfl); simp [Oper.quietAt, Oper.quietUpon, go_sem, k0, k1, k2, k3, k4, k5, k6, k7, k8, k9, k10]; first | done | rfl); go_big_quiet_on; simp only [Act.put, setIfInBounds_toArray, set_cons_succ, set_cons_zero]))
   refine wpQuiet_nil ?_; intro wr hC; have k0 := over_cell hC bA.lt (bA.c 0 rfl); have k1 := over_cell hC bA.lt (bA.c 1 rfl); have k2 := over_cell hC bA.lt (bA.c 2 rfl); have k3 := over_cell hC bA.lt (bA.c 3 rfl); have k4 := over_cell hC bA.lt (bA.c 4 rfl); have k5 := over_cell hC bA.lt (bA.c 5 rfl); have k6 := over_cell hC bA.lt (bA.c 6 rfl); have k7 := over_cell hC bA.lt (bA.c 7 rfl); have k8 := over_cell hC bA.lt (bA.c 8 rfl); have k9 := over_cell hC bA.lt (bA.c 9 rfl); have k10 := over_cell hC bA.lt (bA.c 10 rfl); replace B0 := below_step B0 hC; go_wp2_with fail
   exact bodyPost_ret (v := .tuple #[.iface 274 (.agg #[.slice ga gs.length gx, .slice ca 0 cx, .slice none 0 0, .int .i64 0, .slice none 0 0, .int .i64 0]), .bool true]) (by simp [results, Tryz.results216, go_sem]) rfl ⟨congrArg Ending.returned ((by unfold uvAns uvX; rw [if_pos (mok_2.mpr (by have h1 := HV.out; have h2 := HS.out; unfold valU at h1; unfold sameB8 at h2; simp only [Bool.and_eq_true] at h1; rw [decide_eq_true_eq] at h2; obtain ⟨-, g1, g2, g3, g4, -, -, g5, g6, g7, g8⟩ := h2; exact ⟨h1.1.1, g1.symm, g2.symm, g3.symm, zA_iff.mpr ⟨g6.symm, g8.symm, g5.symm, g7.symm⟩, g4.symm⟩))]; exact congrArg (fun x => Value.tuple #[x, .bool true]) ((if_neg (by decide)).trans ((if_pos rfl).trans (if_pos rfl))).symm)), B0⟩
set_option maxHeartbeats 2000000 in
theorem uv_U (ga ca pa ma : Option Addr) (gx cx px mx : Nat) (gs cs : List (Int × Int)) (ps ms : List Int) (kn sa ho ix pr bw er : Int) (w : World) (hg : RdP w (.slice ga gs.length gx) gs) (hc : RdP w (.slice ca cs.length cx) cs) (hp : RdI w (.slice pa ps.length px) ps) (hm : RdI w (.slice ma ms.length mx) ms) (h0 : cs.length ≠ 0) :
  Calls Tryz.prog 216 #[.agg #[.int .i64 2, .int .i64 sa, .int .i64 ho, .int .i64 ix, .slice ga gs.length gx, .slice ca cs.length cx, .slice pa ps.length px, .int .i64 pr, .slice ma ms.length mx, .int .i64 bw, .int .i64 er]] w fun e w' => e = .returned (uvAns ga ca pa ma gx cx px mx gs cs ps ms 2 sa ho ix pr bw er) ∧ Below w.heap.size w w' := by
 obtain ⟨bA, B0, z⟩ := one w [.int .i64 2, .int .i64 sa, .int .i64 ho, .int .i64 ix, .slice ga gs.length gx, .slice ca cs.length cx, .slice pa ps.length px, .int .i64 pr, .slice ma ms.length mx, .int .i64 bw, .int .i64 er] 52; replace hg := hg.keep B0; replace hc := hc.keep B0; replace hp := hp.keep B0; replace hm := hm.keep B0; clear z; have R0 := Lib.hid h0; clear h0; cases v0 : valU gs cs ps ms pr bw
 ·have HV := Lib.hid v0
  clear v0
  go_enter Tryz.func216, Tryz.ntmps216
  go_wp2_with fail; refine (unpack_U1 ga ca pa ma gx cx px mx _ _ _ _ kn sa ho ix pr bw er _ (Nat.pos_of_ne_zero R0.out)).mono ?_; rintro e w1 ⟨rfl, hb⟩; replace bA := bA.keep hb; replace hg := hg.keep hb; replace hc := hc.keep hb; replace hp := hp.keep hb; replace hm := hm.keep hb; replace B0 := below_step B0 hb; clear hb; have fa0 := bA.c 0 rfl; have fa1 := bA.c 1 rfl; have fa2 := bA.c 2 rfl; have fa3 := bA.c 3 rfl; have fa4 := bA.c 4 rfl; have fa5 := bA.c 5 rfl; have fa6 := bA.c 6 rfl; have fa7 := bA.c 7 rfl; have fa8 := bA.c 8 rfl; have fa9 := bA.c 9 rfl; have fa10 := bA.c 10 rfl; go_wp2_with fail; clear fa0 fa1 fa2 fa3 fa4 fa5 fa6 fa7 fa8 fa9 fa10; have qi := inv_U_valid; refine wp_region_class (C := Over (w1)) (by kernel_rfl) (by kernel_rfl) (over_drew _) ?_
  repeat (first | go_big_quiet_skip | (go_big_quiet_want; go_big_quiet_op; go_big_quiet_on) | (go_big_quiet_want; go_big_quiet_op; apply Exists.intro; refine ⟨fun w' hC => ?_, ?_⟩; ((first | (go_at_call 301; refine (ivalU_t _ (hg.keep hC) (hc.keep hC) (hp.keep hC) (hm.keep hC) HV).mono ?_; rintro e w1 ⟨rfl, hb1⟩; exact ⟨rfl, over_step hC hb1⟩))); go_big_quiet_on) | (go_big_quiet_want; apply Exists.intro; refine ⟨fun w' hC => ?_, ?_⟩; (have k0 := over_cell hC bA.lt (bA.c 0 rfl); have k1 := over_cell hC bA.lt (bA.c 1 rfl); have k2 := over_cell hC bA.lt (bA.c 2 rfl); have k3 := over_cell hC bA.lt (bA.c 3 rfl); have k4 := over_cell hC bA.lt (bA.c 4 rfl); have k5 := over_cell hC bA.lt (bA.c 5 rfl); have k6 := over_cell hC bA.lt (bA.c 6 rfl); have k7 := over_cell hC bA.lt (bA.c 7 rfl); have k8 := over_cell hC bA.lt (bA.c 8 rfl); have k9 := over_cell hC bA.lt (bA.c 9 rfl); have k10 := over_cell hC bA.lt (bA.c 10 rfl); simp [Oper.quietAt, Oper.quietUpon, go_sem, k0, k1, k2, k3, k4, k5, k6, k7, k8, k9, k10]; first | done | rfl); go_big_quiet_on; simp only [Act.put, setIfInBounds_toArray, set_cons_succ, set_cons_zero]))
  refine wpQuiet_nil ?_; intro wr hC; have k0 := over_cell hC bA.lt (bA.c 0 rfl); have k1 := over_cell hC bA.lt (bA.c 1 rfl); have k2 := over_cell hC bA.lt (bA.c 2 rfl); have k3 := over_cell hC bA.lt (bA.c 3 rfl); have k4 := over_cell hC bA.lt (bA.c 4 rfl); have k5 := over_cell hC bA.lt (bA.c 5 rfl); have k6 := over_cell hC bA.lt (bA.c 6 rfl); have k7 := over_cell hC bA.lt (bA.c 7 rfl); have k8 := over_cell hC bA.lt (bA.c 8 rfl); have k9 := over_cell hC bA.lt (bA.c 9 rfl); have k10 := over_cell hC bA.lt (bA.c 10 rfl); replace B0 := below_step B0 hC; go_wp2_with fail
  exact bodyPost_ret (v := .tuple #[.nilIface, .bool false]) (by simp [results, Tryz.results216, go_sem]) rfl ⟨congrArg Ending.returned ((if_neg (fun g => by have h := (mok_2c R0.out).mp g; have h1 := HV.out; unfold valU at h1; rw [h.1.1, h.1.2.1, h.1.2.2.1, decide_eq_true h.1.2.2.2, decide_eq_false R0.out] at h1; cases h1)).symm), B0⟩
 ·have HV := Lib.hid v0
  clear v0; cases s0 : sameB8 gs cs gs cs ps ms ps ms 2 0 0 0 pr bw 0 2 sa ho ix pr bw er
  ·have HS := Lib.hid s0
   clear s0
   go_enter Tryz.func216, Tryz.ntmps216
   go_wp2_with fail; refine (unpack_U1 ga ca pa ma gx cx px mx _ _ _ _ kn sa ho ix pr bw er _ (Nat.pos_of_ne_zero R0.out)).mono ?_; rintro e w1 ⟨rfl, hb⟩; replace bA := bA.keep hb; replace hg := hg.keep hb; replace hc := hc.keep hb; replace hp := hp.keep hb; replace hm := hm.keep hb; replace B0 := below_step B0 hb; clear hb; have fa0 := bA.c 0 rfl; have fa1 := bA.c 1 rfl; have fa2 := bA.c 2 rfl; have fa3 := bA.c 3 rfl; have fa4 := bA.c 4 rfl; have fa5 := bA.c 5 rfl; have fa6 := bA.c 6 rfl; have fa7 := bA.c 7 rfl; have fa8 := bA.c 8 rfl; have fa9 := bA.c 9 rfl; have fa10 := bA.c 10 rfl; go_wp2_with fail; clear fa0 fa1 fa2 fa3 fa4 fa5 fa6 fa7 fa8 fa9 fa10; have qi := inv_U_valid; refine wp_region_class (C := Over (w1)) (by kernel_rfl) (by kernel_rfl) (over_drew _) ?_
   repeat (first | go_big_quiet_skip | (go_big_quiet_want; go_big_quiet_op; go_big_quiet_on) | (go_big_quiet_want; go_big_quiet_op; apply Exists.intro; refine ⟨fun w' hC => ?_, ?_⟩; ((first | (go_at_call 301; refine (ivalU_t _ (hg.keep hC) (hc.keep hC) (hp.keep hC) (hm.keep hC) HV).mono ?_; rintro e w1 ⟨rfl, hb1⟩; exact ⟨rfl, over_step hC hb1⟩) | (go_at_call 256; refine (pack_U ga ca pa ma gx cx px mx _ _ _ _ pr bw _).mono ?_; rintro e w1 ⟨rfl, hb1⟩; exact ⟨rfl, over_step hC hb1⟩) | (go_at_call 255; refine (isameM_t _ (hg.keep hC) (hc.keep hC) (hp.keep hC) (hm.keep hC) (hg.keep hC) (hc.keep hC) (hp.keep hC) (hm.keep hC) HS).mono ?_; rintro e w1 ⟨rfl, hb1⟩; exact ⟨rfl, over_step hC hb1⟩))); go_big_quiet_on) | (go_big_quiet_want; apply Exists.intro; refine ⟨fun w' hC => ?_, ?_⟩; (have k0 := over_cell hC bA.lt (bA.c 0 rfl); have k1 := over_cell hC bA.lt (bA.c 1 rfl); have k2 := over_cell hC bA.lt (bA.c 2 rfl); have k3 := over_cell hC bA.lt (bA.c 3 rfl); have k4 := over_cell hC bA.lt (bA.c 4 rfl); have k5 := over_cell hC bA.lt (bA.c 5 rfl); have k6 := over_cell hC bA.lt (bA.c 6 rfl); have k7 := over_cell hC bA.lt (bA.c 7 rfl); have k8 := over_cell hC bA.lt (bA.c 8 rfl); have k9 := over_cell hC bA.lt (bA.c 9 rfl); have k10 := over_cell hC bA.lt (bA.c 10 rfl); simp [Oper.quietAt, Oper.quietUpon, go_sem, k0, k1, k2, k3, k4, k5, k6, k7, k8, k9, k10]; first | done | rfl); go_big_quiet_on; simp only [Act.put, setIfInBounds_toArray, set_cons_succ, set_cons_zero]))
   refine wpQuiet_nil ?_; intro wr hC; have k0 := over_cell hC bA.lt (bA.c 0 rfl); have k1 := over_cell hC bA.lt (bA.c 1 rfl); have k2 := over_cell hC bA.lt (bA.c 2 rfl); have k3 := over_cell hC bA.lt (bA.c 3 rfl); have k4 := over_cell hC bA.lt (bA.c 4 rfl); have k5 := over_cell hC bA.lt (bA.c 5 rfl); have k6 := over_cell hC bA.lt (bA.c 6 rfl); have k7 := over_cell hC bA.lt (bA.c 7 rfl); have k8 := over_cell hC bA.lt (bA.c 8 rfl); have k9 := over_cell hC bA.lt (bA.c 9 rfl); have k10 := over_cell hC bA.lt (bA.c 10 rfl); replace B0 := below_step B0 hC; go_wp2_with fail
   exact bodyPost_ret (v := .tuple #[.nilIface, .bool false]) (by simp [results, Tryz.results216, go_sem]) rfl ⟨congrArg Ending.returned ((if_neg (fun g => by have h := ((mok_2c R0.out).mp g).2; have h1 := HS.out; unfold sameB8 at h1; obtain ⟨rfl, rfl, rfl, rfl⟩ := h; simp at h1)).symm), B0⟩
  ·have HS := Lib.hid s0
   clear s0
   go_enter Tryz.func216, Tryz.ntmps216
   go_wp2_with fail; refine (unpack_U1 ga ca pa ma gx cx px mx _ _ _ _ kn sa ho ix pr bw er _ (Nat.pos_of_ne_zero R0.out)).mono ?_; rintro e w1 ⟨rfl, hb⟩; replace bA := bA.keep hb; replace hg := hg.keep hb; replace hc := hc.keep hb; replace hp := hp.keep hb; replace hm := hm.keep hb; replace B0 := below_step B0 hb; clear hb; have fa0 := bA.c 0 rfl; have fa1 := bA.c 1 rfl; have fa2 := bA.c 2 rfl; have fa3 := bA.c 3 rfl; have fa4 := bA.c 4 rfl; have fa5 := bA.c 5 rfl; have fa6 := bA.c 6 rfl; have fa7 := bA.c 7 rfl; have fa8 := bA.c 8 rfl; have fa9 := bA.c 9 rfl; have fa10 := bA.c 10 rfl; go_wp2_with fail; clear fa0 fa1 fa2 fa3 fa4 fa5 fa6 fa7 fa8 fa9 fa10; have qi := inv_U_valid; refine wp_region_class (C := Over (w1)) (by kernel_rfl) (by kernel_rfl) (over_drew _) ?_
   repeat (first | go_big_quiet_skip | (go_big_quiet_want; go_big_quiet_op; go_big_quiet_on) | (go_big_quiet_want; go_big_quiet_op; apply Exists.intro; refine ⟨fun w' hC => ?_, ?_⟩; ((first | (go_at_call 301; refine (ivalU_t _ (hg.keep hC) (hc.keep hC) (hp.keep hC) (hm.keep hC) HV).mono ?_; rintro e w1 ⟨rfl, hb1⟩; exact ⟨rfl, over_step hC hb1⟩) | (go_at_call 256; refine (pack_U ga ca pa ma gx cx px mx _ _ _ _ pr bw _).mono ?_; rintro e w1 ⟨rfl, hb1⟩; exact ⟨rfl, over_step hC hb1⟩) | (go_at_call 255; refine (isameM_t _ (hg.keep hC) (hc.keep hC) (hp.keep hC) (hm.keep hC) (hg.keep hC) (hc.keep hC) (hp.keep hC) (hm.keep hC) HS).mono ?_; rintro e w1 ⟨rfl, hb1⟩; exact ⟨rfl, over_step hC hb1⟩))); go_big_quiet_on) | (go_big_quiet_want; apply Exists.intro; refine ⟨fun w' hC => ?_, ?_⟩; (have k0 := over_cell hC bA.lt (bA.c 0 rfl); have k1 := over_cell hC bA.lt (bA.c 1 rfl); have k2 := over_cell hC bA.lt (bA.c 2 rfl); have k3 := over_cell hC bA.lt (bA.c 3 rfl); have k4 := over_cell hC bA.lt (bA.c 4 rfl); have k5 := over_cell hC bA.lt (bA.c 5 rfl); have k6 := over_cell hC bA.lt (bA.c 6 rfl); have k7 := over_cell hC bA.lt (bA.c 7 rfl); have k8 := over_cell hC bA.lt (bA.c 8 rfl); have k9 := over_cell hC bA.lt (bA.c 9 rfl); have k10 := over_cell hC bA.lt (bA.c 10 rfl); simp [Oper.quietAt, Oper.quietUpon, go_sem, k0, k1, k2, k3, k4, k5, k6, k7, k8, k9, k10]; first | done | rfl); go_big_quiet_on; simp only [Act.put, setIfInBounds_toArray, set_cons_succ, set_cons_zero]))
   refine wpQuiet_nil ?_; intro wr hC; have k0 := over_cell hC bA.lt (bA.c 0 rfl); have k1 := over_cell hC bA.lt (bA.c 1 rfl); have k2 := over_cell hC bA.lt (bA.c 2 rfl); have k3 := over_cell hC bA.lt (bA.c 3 rfl); have k4 := over_cell hC bA.lt (bA.c 4 rfl); have k5 := over_cell hC bA.lt (bA.c 5 rfl); have k6 := over_cell hC bA.lt (bA.c 6 rfl); have k7 := over_cell hC bA.lt (bA.c 7 rfl); have k8 := over_cell hC bA.lt (bA.c 8 rfl); have k9 := over_cell hC bA.lt (bA.c 9 rfl); have k10 := over_cell hC bA.lt (bA.c 10 rfl); replace B0 := below_step B0 hC; go_wp2_with fail
   exact bodyPost_ret (v := .tuple #[.iface 274 (.agg #[.slice ga gs.length gx, .slice ca cs.length cx, .slice pa ps.length px, .int .i64 pr, .slice ma ms.length mx, .int .i64 bw]), .bool true]) (by simp [results, Tryz.results216, go_sem]) rfl ⟨congrArg Ending.returned ((by unfold uvAns uvX; rw [if_pos ((mok_2c R0.out).mpr (by have h1 := HV.out; have h2 := HS.out; unfold valU at h1; unfold sameB8 at h2; rw [decide_eq_false R0.out, Bool.false_or] at h1; simp only [Bool.and_eq_true, decide_eq_true_eq] at h1; rw [decide_eq_true_eq] at h2; obtain ⟨-, g1, g2, g3, g4, -⟩ := h2; exact ⟨⟨h1.1.1, h1.1.2, h1.2.1, h1.2.2⟩, g1.symm, g2.symm, g3.symm, g4.symm⟩))]; exact congrArg (fun x => Value.tuple #[x, .bool true]) ((if_neg (by decide)).trans ((if_pos rfl).trans (if_neg R0.out))).symm)), B0⟩
set_option maxHeartbeats 2000000 in
theorem uv_N (ga ca pa ma : Option Addr) (gx cx px mx : Nat) (gs cs : List (Int × Int)) (ps ms : List Int) (kn sa ho ix pr bw er : Int) (w : World) (hg : RdP w (.slice ga gs.length gx) gs) (hc : RdP w (.slice ca cs.length cx) cs) (hp : RdI w (.slice pa ps.length px) ps) (hm : RdI w (.slice ma ms.length mx) ms) :
  Calls Tryz.prog 216 #[.agg #[.int .i64 3, .int .i64 sa, .int .i64 ho, .int .i64 ix, .slice ga gs.length gx, .slice ca cs.length cx, .slice pa ps.length px, .int .i64 pr, .slice ma ms.length mx, .int .i64 bw, .int .i64 er]] w fun e w' => e = .returned (uvAns ga ca pa ma gx cx px mx gs cs ps ms 3 sa ho ix pr bw er) ∧ Below w.heap.size w w' := by
 obtain ⟨bA, B0, z⟩ := one w [.int .i64 3, .int .i64 sa, .int .i64 ho, .int .i64 ix, .slice ga gs.length gx, .slice ca cs.length cx, .slice pa ps.length px, .int .i64 pr, .slice ma ms.length mx, .int .i64 bw, .int .i64 er] 52; replace hg := hg.keep B0; replace hc := hc.keep B0; replace hp := hp.keep B0; replace hm := hm.keep B0; clear z; cases v0 : inB er 1 6
 ·have HV := Lib.hid v0
  clear v0
  go_enter Tryz.func216, Tryz.ntmps216
  go_wp2_with fail; refine (unpack_N ga ca pa ma gx cx px mx _ _ _ _ kn sa ho ix pr bw er _).mono ?_; rintro e w1 ⟨rfl, hb⟩; replace bA := bA.keep hb; replace hg := hg.keep hb; replace hc := hc.keep hb; replace hp := hp.keep hb; replace hm := hm.keep hb; replace B0 := below_step B0 hb; clear hb; have fa0 := bA.c 0 rfl; have fa1 := bA.c 1 rfl; have fa2 := bA.c 2 rfl; have fa3 := bA.c 3 rfl; have fa4 := bA.c 4 rfl; have fa5 := bA.c 5 rfl; have fa6 := bA.c 6 rfl; have fa7 := bA.c 7 rfl; have fa8 := bA.c 8 rfl; have fa9 := bA.c 9 rfl; have fa10 := bA.c 10 rfl; go_wp2_with fail; clear fa0 fa1 fa2 fa3 fa4 fa5 fa6 fa7 fa8 fa9 fa10; have qi := inv_N_valid; refine wp_region_class (C := Over (w1)) (by kernel_rfl) (by kernel_rfl) (over_drew _) ?_
  repeat (first | go_big_quiet_skip | (go_big_quiet_want; go_big_quiet_op; go_big_quiet_on) | (go_big_quiet_want; go_big_quiet_op; apply Exists.intro; refine ⟨fun w' hC => ?_, ?_⟩; ((first | (go_at_call 304; refine (ivalN_t _ HV).mono ?_; rintro e w1 ⟨rfl, hb1⟩; exact ⟨rfl, over_step hC hb1⟩))); go_big_quiet_on) | (go_big_quiet_want; apply Exists.intro; refine ⟨fun w' hC => ?_, ?_⟩; (have k0 := over_cell hC bA.lt (bA.c 0 rfl); have k1 := over_cell hC bA.lt (bA.c 1 rfl); have k2 := over_cell hC bA.lt (bA.c 2 rfl); have k3 := over_cell hC bA.lt (bA.c 3 rfl); have k4 := over_cell hC bA.lt (bA.c 4 rfl); have k5 := over_cell hC bA.lt (bA.c 5 rfl); have k6 := over_cell hC bA.lt (bA.c 6 rfl); have k7 := over_cell hC bA.lt (bA.c 7 rfl); have k8 := over_cell hC bA.lt (bA.c 8 rfl); have k9 := over_cell hC bA.lt (bA.c 9 rfl); have k10 := over_cell hC bA.lt (bA.c 10 rfl); simp [Oper.quietAt, Oper.quietUpon, go_sem, k0, k1, k2, k3, k4, k5, k6, k7, k8, k9, k10]; first | done | rfl); go_big_quiet_on; simp only [Act.put, setIfInBounds_toArray, set_cons_succ, set_cons_zero]))
  refine wpQuiet_nil ?_; intro wr hC; have k0 := over_cell hC bA.lt (bA.c 0 rfl); have k1 := over_cell hC bA.lt (bA.c 1 rfl); have k2 := over_cell hC bA.lt (bA.c 2 rfl); have k3 := over_cell hC bA.lt (bA.c 3 rfl); have k4 := over_cell hC bA.lt (bA.c 4 rfl); have k5 := over_cell hC bA.lt (bA.c 5 rfl); have k6 := over_cell hC bA.lt (bA.c 6 rfl); have k7 := over_cell hC bA.lt (bA.c 7 rfl); have k8 := over_cell hC bA.lt (bA.c 8 rfl); have k9 := over_cell hC bA.lt (bA.c 9 rfl); have k10 := over_cell hC bA.lt (bA.c 10 rfl); replace B0 := below_step B0 hC; go_wp2_with fail
  exact bodyPost_ret (v := .tuple #[.nilIface, .bool false]) (by simp [results, Tryz.results216, go_sem]) rfl ⟨congrArg Ending.returned ((if_neg (fun g => by have h := (mok_34 (by decide) (by decide) (by decide)).mp g; have h1 := HV.out; rw [if_pos rfl] at h; rw [inB_iff.mpr h.2] at h1; cases h1)).symm), B0⟩
 ·have HV := Lib.hid v0
  clear v0; cases s0 : sameB8 [] [] gs cs [] [] ps ms 3 0 0 0 0 0 er 3 sa ho ix pr bw er
  ·have HS := Lib.hid s0
   clear s0
   go_enter Tryz.func216, Tryz.ntmps216
   go_wp2_with fail; refine (unpack_N ga ca pa ma gx cx px mx _ _ _ _ kn sa ho ix pr bw er _).mono ?_; rintro e w1 ⟨rfl, hb⟩; replace bA := bA.keep hb; replace hg := hg.keep hb; replace hc := hc.keep hb; replace hp := hp.keep hb; replace hm := hm.keep hb; replace B0 := below_step B0 hb; clear hb; have fa0 := bA.c 0 rfl; have fa1 := bA.c 1 rfl; have fa2 := bA.c 2 rfl; have fa3 := bA.c 3 rfl; have fa4 := bA.c 4 rfl; have fa5 := bA.c 5 rfl; have fa6 := bA.c 6 rfl; have fa7 := bA.c 7 rfl; have fa8 := bA.c 8 rfl; have fa9 := bA.c 9 rfl; have fa10 := bA.c 10 rfl; go_wp2_with fail; clear fa0 fa1 fa2 fa3 fa4 fa5 fa6 fa7 fa8 fa9 fa10; have qi := inv_N_valid; refine wp_region_class (C := Over (w1)) (by kernel_rfl) (by kernel_rfl) (over_drew _) ?_
   repeat (first | go_big_quiet_skip | (go_big_quiet_want; go_big_quiet_op; go_big_quiet_on) | (go_big_quiet_want; go_big_quiet_op; apply Exists.intro; refine ⟨fun w' hC => ?_, ?_⟩; ((first | (go_at_call 304; refine (ivalN_t _ HV).mono ?_; rintro e w1 ⟨rfl, hb1⟩; exact ⟨rfl, over_step hC hb1⟩) | (go_at_call 256; refine (pack_N er _).mono ?_; rintro e w1 ⟨rfl, hb1⟩; exact ⟨rfl, over_step hC hb1⟩) | (go_at_call 255; refine (isameM_t _ (RdP.nil _) (RdP.nil _) (RdI.nil _) (RdI.nil _) (hg.keep hC) (hc.keep hC) (hp.keep hC) (hm.keep hC) HS).mono ?_; rintro e w1 ⟨rfl, hb1⟩; exact ⟨rfl, over_step hC hb1⟩))); go_big_quiet_on) | (go_big_quiet_want; apply Exists.intro; refine ⟨fun w' hC => ?_, ?_⟩; (have k0 := over_cell hC bA.lt (bA.c 0 rfl); have k1 := over_cell hC bA.lt (bA.c 1 rfl); have k2 := over_cell hC bA.lt (bA.c 2 rfl); have k3 := over_cell hC bA.lt (bA.c 3 rfl); have k4 := over_cell hC bA.lt (bA.c 4 rfl); have k5 := over_cell hC bA.lt (bA.c 5 rfl); have k6 := over_cell hC bA.lt (bA.c 6 rfl); have k7 := over_cell hC bA.lt (bA.c 7 rfl); have k8 := over_cell hC bA.lt (bA.c 8 rfl); have k9 := over_cell hC bA.lt (bA.c 9 rfl); have k10 := over_cell hC bA.lt (bA.c 10 rfl); simp [Oper.quietAt, Oper.quietUpon, go_sem, k0, k1, k2, k3, k4, k5, k6, k7, k8, k9, k10]; first | done | rfl); go_big_quiet_on; simp only [Act.put, setIfInBounds_toArray, set_cons_succ, set_cons_zero]))
   refine wpQuiet_nil ?_; intro wr hC; have k0 := over_cell hC bA.lt (bA.c 0 rfl); have k1 := over_cell hC bA.lt (bA.c 1 rfl); have k2 := over_cell hC bA.lt (bA.c 2 rfl); have k3 := over_cell hC bA.lt (bA.c 3 rfl); have k4 := over_cell hC bA.lt (bA.c 4 rfl); have k5 := over_cell hC bA.lt (bA.c 5 rfl); have k6 := over_cell hC bA.lt (bA.c 6 rfl); have k7 := over_cell hC bA.lt (bA.c 7 rfl); have k8 := over_cell hC bA.lt (bA.c 8 rfl); have k9 := over_cell hC bA.lt (bA.c 9 rfl); have k10 := over_cell hC bA.lt (bA.c 10 rfl); replace B0 := below_step B0 hC; go_wp2_with fail
   exact bodyPost_ret (v := .tuple #[.nilIface, .bool false]) (by simp [results, Tryz.results216, go_sem]) rfl ⟨congrArg Ending.returned ((if_neg (fun g => by have h := (mok_34 (by decide) (by decide) (by decide)).mp g; have h1 := HS.out; unfold sameB8 at h1; rw [if_pos rfl] at h; obtain ⟨⟨rfl, rfl, rfl, rfl, rfl, hz⟩, h2⟩ := h; obtain ⟨rfl, rfl, rfl, rfl⟩ := zA_iff.mp hz; simp at h1)).symm), B0⟩
  ·have HS := Lib.hid s0
   clear s0
   go_enter Tryz.func216, Tryz.ntmps216
   go_wp2_with fail; refine (unpack_N ga ca pa ma gx cx px mx _ _ _ _ kn sa ho ix pr bw er _).mono ?_; rintro e w1 ⟨rfl, hb⟩; replace bA := bA.keep hb; replace hg := hg.keep hb; replace hc := hc.keep hb; replace hp := hp.keep hb; replace hm := hm.keep hb; replace B0 := below_step B0 hb; clear hb; have fa0 := bA.c 0 rfl; have fa1 := bA.c 1 rfl; have fa2 := bA.c 2 rfl; have fa3 := bA.c 3 rfl; have fa4 := bA.c 4 rfl; have fa5 := bA.c 5 rfl; have fa6 := bA.c 6 rfl; have fa7 := bA.c 7 rfl; have fa8 := bA.c 8 rfl; have fa9 := bA.c 9 rfl; have fa10 := bA.c 10 rfl; go_wp2_with fail; clear fa0 fa1 fa2 fa3 fa4 fa5 fa6 fa7 fa8 fa9 fa10; have qi := inv_N_valid; refine wp_region_class (C := Over (w1)) (by kernel_rfl) (by kernel_rfl) (over_drew _) ?_
   repeat (first | go_big_quiet_skip | (go_big_quiet_want; go_big_quiet_op; go_big_quiet_on) | (go_big_quiet_want; go_big_quiet_op; apply Exists.intro; refine ⟨fun w' hC => ?_, ?_⟩; ((first | (go_at_call 304; refine (ivalN_t _ HV).mono ?_; rintro e w1 ⟨rfl, hb1⟩; exact ⟨rfl, over_step hC hb1⟩) | (go_at_call 256; refine (pack_N er _).mono ?_; rintro e w1 ⟨rfl, hb1⟩; exact ⟨rfl, over_step hC hb1⟩) | (go_at_call 255; refine (isameM_t _ (RdP.nil _) (RdP.nil _) (RdI.nil _) (RdI.nil _) (hg.keep hC) (hc.keep hC) (hp.keep hC) (hm.keep hC) HS).mono ?_; rintro e w1 ⟨rfl, hb1⟩; exact ⟨rfl, over_step hC hb1⟩))); go_big_quiet_on) | (go_big_quiet_want; apply Exists.intro; refine ⟨fun w' hC => ?_, ?_⟩; (have k0 := over_cell hC bA.lt (bA.c 0 rfl); have k1 := over_cell hC bA.lt (bA.c 1 rfl); have k2 := over_cell hC bA.lt (bA.c 2 rfl); have k3 := over_cell hC bA.lt (bA.c 3 rfl); have k4 := over_cell hC bA.lt (bA.c 4 rfl); have k5 := over_cell hC bA.lt (bA.c 5 rfl); have k6 := over_cell hC bA.lt (bA.c 6 rfl); have k7 := over_cell hC bA.lt (bA.c 7 rfl); have k8 := over_cell hC bA.lt (bA.c 8 rfl); have k9 := over_cell hC bA.lt (bA.c 9 rfl); have k10 := over_cell hC bA.lt (bA.c 10 rfl); simp [Oper.quietAt, Oper.quietUpon, go_sem, k0, k1, k2, k3, k4, k5, k6, k7, k8, k9, k10]; first | done | rfl); go_big_quiet_on; simp only [Act.put, setIfInBounds_toArray, set_cons_succ, set_cons_zero]))
   refine wpQuiet_nil ?_; intro wr hC; have k0 := over_cell hC bA.lt (bA.c 0 rfl); have k1 := over_cell hC bA.lt (bA.c 1 rfl); have k2 := over_cell hC bA.lt (bA.c 2 rfl); have k3 := over_cell hC bA.lt (bA.c 3 rfl); have k4 := over_cell hC bA.lt (bA.c 4 rfl); have k5 := over_cell hC bA.lt (bA.c 5 rfl); have k6 := over_cell hC bA.lt (bA.c 6 rfl); have k7 := over_cell hC bA.lt (bA.c 7 rfl); have k8 := over_cell hC bA.lt (bA.c 8 rfl); have k9 := over_cell hC bA.lt (bA.c 9 rfl); have k10 := over_cell hC bA.lt (bA.c 10 rfl); replace B0 := below_step B0 hC; go_wp2_with fail
   exact bodyPost_ret (v := .tuple #[.iface 276 (.agg #[.int .i64 er]), .bool true]) (by simp [results, Tryz.results216, go_sem]) rfl ⟨congrArg Ending.returned ((by unfold uvAns uvX; rw [if_pos ((mok_34 (by decide) (by decide) (by decide)).mpr (by have h2 := HS.out; unfold sameB8 at h2; rw [decide_eq_true_eq] at h2; obtain ⟨-, g1, g2, g3, g4, g5, g6, g7, g8, g9, g10⟩ := h2; exact ⟨⟨g5.symm, g6.symm, g1.symm, g2.symm, g3.symm, zA_iff.mpr ⟨g8.symm, g10.symm, g7.symm, g9.symm⟩⟩, (by rw [if_pos rfl]; exact inB_iff.mp HV.out)⟩))]; exact congrArg (fun x => Value.tuple #[x, .bool true]) ((if_neg (by decide)).trans ((if_neg (by decide)).trans (if_pos rfl))).symm)), B0⟩
set_option maxHeartbeats 2000000 in
theorem uv_K (ga ca pa ma : Option Addr) (gx cx px mx : Nat) (gs cs : List (Int × Int)) (ps ms : List Int) (kn sa ho ix pr bw er : Int) (w : World) (hg : RdP w (.slice ga gs.length gx) gs) (hc : RdP w (.slice ca cs.length cx) cs) (hp : RdI w (.slice pa ps.length px) ps) (hm : RdI w (.slice ma ms.length mx) ms) :
  Calls Tryz.prog 216 #[.agg #[.int .i64 4, .int .i64 sa, .int .i64 ho, .int .i64 ix, .slice ga gs.length gx, .slice ca cs.length cx, .slice pa ps.length px, .int .i64 pr, .slice ma ms.length mx, .int .i64 bw, .int .i64 er]] w fun e w' => e = .returned (uvAns ga ca pa ma gx cx px mx gs cs ps ms 4 sa ho ix pr bw er) ∧ Below w.heap.size w w' := by
 obtain ⟨bA, B0, z⟩ := one w [.int .i64 4, .int .i64 sa, .int .i64 ho, .int .i64 ix, .slice ga gs.length gx, .slice ca cs.length cx, .slice pa ps.length px, .int .i64 pr, .slice ma ms.length mx, .int .i64 bw, .int .i64 er] 52; replace hg := hg.keep B0; replace hc := hc.keep B0; replace hp := hp.keep B0; replace hm := hm.keep B0; clear z; cases s0 : sameB8 [] [] gs cs [] [] ps ms 4 0 0 0 0 0 0 4 sa ho ix pr bw er
 ·have HS := Lib.hid s0
  clear s0
  go_enter Tryz.func216, Tryz.ntmps216
  go_wp2_with fail; refine (unpack_K ga ca pa ma gx cx px mx _ _ _ _ kn sa ho ix pr bw er _).mono ?_; rintro e w1 ⟨rfl, hb⟩; replace bA := bA.keep hb; replace hg := hg.keep hb; replace hc := hc.keep hb; replace hp := hp.keep hb; replace hm := hm.keep hb; replace B0 := below_step B0 hb; clear hb; have fa0 := bA.c 0 rfl; have fa1 := bA.c 1 rfl; have fa2 := bA.c 2 rfl; have fa3 := bA.c 3 rfl; have fa4 := bA.c 4 rfl; have fa5 := bA.c 5 rfl; have fa6 := bA.c 6 rfl; have fa7 := bA.c 7 rfl; have fa8 := bA.c 8 rfl; have fa9 := bA.c 9 rfl; have fa10 := bA.c 10 rfl; go_wp2_with fail; clear fa0 fa1 fa2 fa3 fa4 fa5 fa6 fa7 fa8 fa9 fa10; have qi := inv_K_valid; refine wp_region_class (C := Over (w1)) (by kernel_rfl) (by kernel_rfl) (over_drew _) ?_
  repeat (first | go_big_quiet_skip | (go_big_quiet_want; go_big_quiet_op; go_big_quiet_on) | (go_big_quiet_want; go_big_quiet_op; apply Exists.intro; refine ⟨fun w' hC => ?_, ?_⟩; ((first | (go_at_call 307; refine (ivalK_any _).mono ?_; rintro e w1 ⟨rfl, hb1⟩; exact ⟨rfl, over_step hC hb1⟩) | (go_at_call 256; refine (pack_K _).mono ?_; rintro e w1 ⟨rfl, hb1⟩; exact ⟨rfl, over_step hC hb1⟩) | (go_at_call 255; refine (isameM_t _ (RdP.nil _) (RdP.nil _) (RdI.nil _) (RdI.nil _) (hg.keep hC) (hc.keep hC) (hp.keep hC) (hm.keep hC) HS).mono ?_; rintro e w1 ⟨rfl, hb1⟩; exact ⟨rfl, over_step hC hb1⟩))); go_big_quiet_on) | (go_big_quiet_want; apply Exists.intro; refine ⟨fun w' hC => ?_, ?_⟩; (have k0 := over_cell hC bA.lt (bA.c 0 rfl); have k1 := over_cell hC bA.lt (bA.c 1 rfl); have k2 := over_cell hC bA.lt (bA.c 2 rfl); have k3 := over_cell hC bA.lt (bA.c 3 rfl); have k4 := over_cell hC bA.lt (bA.c 4 rfl); have k5 := over_cell hC bA.lt (bA.c 5 rfl); have k6 := over_cell hC bA.lt (bA.c 6 rfl); have k7 := over_cell hC bA.lt (bA.c 7 rfl); have k8 := over_cell hC bA.lt (bA.c 8 rfl); have k9 := over_cell hC bA.lt (bA.c 9 rfl); have k10 := over_cell hC bA.lt (bA.c 10 rfl); simp [Oper.quietAt, Oper.quietUpon, go_sem, k0, k1, k2, k3, k4, k5, k6, k7, k8, k9, k10]; first | done | rfl); go_big_quiet_on; simp only [Act.put, setIfInBounds_toArray, set_cons_succ, set_cons_zero]))
  refine wpQuiet_nil ?_; intro wr hC; have k0 := over_cell hC bA.lt (bA.c 0 rfl); have k1 := over_cell hC bA.lt (bA.c 1 rfl); have k2 := over_cell hC bA.lt (bA.c 2 rfl); have k3 := over_cell hC bA.lt (bA.c 3 rfl); have k4 := over_cell hC bA.lt (bA.c 4 rfl); have k5 := over_cell hC bA.lt (bA.c 5 rfl); have k6 := over_cell hC bA.lt (bA.c 6 rfl); have k7 := over_cell hC bA.lt (bA.c 7 rfl); have k8 := over_cell hC bA.lt (bA.c 8 rfl); have k9 := over_cell hC bA.lt (bA.c 9 rfl); have k10 := over_cell hC bA.lt (bA.c 10 rfl); replace B0 := below_step B0 hC; go_wp2_with fail
  exact bodyPost_ret (v := .tuple #[.nilIface, .bool false]) (by simp [results, Tryz.results216, go_sem]) rfl ⟨congrArg Ending.returned ((if_neg (fun g => by have h := (mok_34 (by decide) (by decide) (by decide)).mp g; have h1 := HS.out; unfold sameB8 at h1; rw [if_neg (by decide)] at h; obtain ⟨⟨rfl, rfl, rfl, rfl, rfl, hz⟩, h2⟩ := h; obtain ⟨rfl, rfl, rfl, rfl⟩ := zA_iff.mp hz; simp at h1; omega)).symm), B0⟩
 ·have HS := Lib.hid s0
  clear s0
  go_enter Tryz.func216, Tryz.ntmps216
  go_wp2_with fail; refine (unpack_K ga ca pa ma gx cx px mx _ _ _ _ kn sa ho ix pr bw er _).mono ?_; rintro e w1 ⟨rfl, hb⟩; replace bA := bA.keep hb; replace hg := hg.keep hb; replace hc := hc.keep hb; replace hp := hp.keep hb; replace hm := hm.keep hb; replace B0 := below_step B0 hb; clear hb; have fa0 := bA.c 0 rfl; have fa1 := bA.c 1 rfl; have fa2 := bA.c 2 rfl; have fa3 := bA.c 3 rfl; have fa4 := bA.c 4 rfl; have fa5 := bA.c 5 rfl; have fa6 := bA.c 6 rfl; have fa7 := bA.c 7 rfl; have fa8 := bA.c 8 rfl; have fa9 := bA.c 9 rfl; have fa10 := bA.c 10 rfl; go_wp2_with fail; clear fa0 fa1 fa2 fa3 fa4 fa5 fa6 fa7 fa8 fa9 fa10; have qi := inv_K_valid; refine wp_region_class (C := Over (w1)) (by kernel_rfl) (by kernel_rfl) (over_drew _) ?_
  repeat (first | go_big_quiet_skip | (go_big_quiet_want; go_big_quiet_op; go_big_quiet_on) | (go_big_quiet_want; go_big_quiet_op; apply Exists.intro; refine ⟨fun w' hC => ?_, ?_⟩; ((first | (go_at_call 307; refine (ivalK_any _).mono ?_; rintro e w1 ⟨rfl, hb1⟩; exact ⟨rfl, over_step hC hb1⟩) | (go_at_call 256; refine (pack_K _).mono ?_; rintro e w1 ⟨rfl, hb1⟩; exact ⟨rfl, over_step hC hb1⟩) | (go_at_call 255; refine (isameM_t _ (RdP.nil _) (RdP.nil _) (RdI.nil _) (RdI.nil _) (hg.keep hC) (hc.keep hC) (hp.keep hC) (hm.keep hC) HS).mono ?_; rintro e w1 ⟨rfl, hb1⟩; exact ⟨rfl, over_step hC hb1⟩))); go_big_quiet_on) | (go_big_quiet_want; apply Exists.intro; refine ⟨fun w' hC => ?_, ?_⟩; (have k0 := over_cell hC bA.lt (bA.c 0 rfl); have k1 := over_cell hC bA.lt (bA.c 1 rfl); have k2 := over_cell hC bA.lt (bA.c 2 rfl); have k3 := over_cell hC bA.lt (bA.c 3 rfl); have k4 := over_cell hC bA.lt (bA.c 4 rfl); have k5 := over_cell hC bA.lt (bA.c 5 rfl); have k6 := over_cell hC bA.lt (bA.c 6 rfl); have k7 := over_cell hC bA.lt (bA.c 7 rfl); have k8 := over_cell hC bA.lt (bA.c 8 rfl); have k9 := over_cell hC bA.lt (bA.c 9 rfl); have k10 := over_cell hC bA.lt (bA.c 10 rfl); simp [Oper.quietAt, Oper.quietUpon, go_sem, k0, k1, k2, k3, k4, k5, k6, k7, k8, k9, k10]; first | done | rfl); go_big_quiet_on; simp only [Act.put, setIfInBounds_toArray, set_cons_succ, set_cons_zero]))
  refine wpQuiet_nil ?_; intro wr hC; have k0 := over_cell hC bA.lt (bA.c 0 rfl); have k1 := over_cell hC bA.lt (bA.c 1 rfl); have k2 := over_cell hC bA.lt (bA.c 2 rfl); have k3 := over_cell hC bA.lt (bA.c 3 rfl); have k4 := over_cell hC bA.lt (bA.c 4 rfl); have k5 := over_cell hC bA.lt (bA.c 5 rfl); have k6 := over_cell hC bA.lt (bA.c 6 rfl); have k7 := over_cell hC bA.lt (bA.c 7 rfl); have k8 := over_cell hC bA.lt (bA.c 8 rfl); have k9 := over_cell hC bA.lt (bA.c 9 rfl); have k10 := over_cell hC bA.lt (bA.c 10 rfl); replace B0 := below_step B0 hC; go_wp2_with fail
  exact bodyPost_ret (v := .tuple #[.iface 278 (.agg #[]), .bool true]) (by simp [results, Tryz.results216, go_sem]) rfl ⟨congrArg Ending.returned ((by unfold uvAns uvX; rw [if_pos ((mok_34 (by decide) (by decide) (by decide)).mpr (by have h2 := HS.out; unfold sameB8 at h2; rw [decide_eq_true_eq] at h2; obtain ⟨-, g1, g2, g3, g4, g5, g6, g7, g8, g9, g10⟩ := h2; exact ⟨⟨g5.symm, g6.symm, g1.symm, g2.symm, g3.symm, zA_iff.mpr ⟨g8.symm, g10.symm, g7.symm, g9.symm⟩⟩, (by rw [if_neg (by decide)]; exact g4.symm)⟩))]; exact congrArg (fun x => Value.tuple #[x, .bool true]) ((if_neg (by decide)).trans ((if_neg (by decide)).trans (if_neg (by decide)))).symm)), B0⟩
theorem uv_no (ga ca pa ma : Option Addr) (gx cx px mx : Nat) (gs cs : List (Int × Int)) (ps ms : List Int) (kn sa ho ix pr bw er : Int) (w : World) (h : ¬ (1 ≤ kn ∧ kn ≤ 4)) :
  Calls Tryz.prog 216 #[.agg #[.int .i64 kn, .int .i64 sa, .int .i64 ho, .int .i64 ix, .slice ga gs.length gx, .slice ca cs.length cx, .slice pa ps.length px, .int .i64 pr, .slice ma ms.length mx, .int .i64 bw, .int .i64 er]] w fun e w' => e = .returned (uvAns ga ca pa ma gx cx px mx gs cs ps ms kn sa ho ix pr bw er) ∧ Below w.heap.size w w' := by
 obtain ⟨bA, B0, z⟩ := one w [.int .i64 kn, .int .i64 sa, .int .i64 ho, .int .i64 ix, .slice ga gs.length gx, .slice ca cs.length cx, .slice pa ps.length px, .int .i64 pr, .slice ma ms.length mx, .int .i64 bw, .int .i64 er] 52; have hu := unpack_no ga ca pa ma gx cx px mx gs.length cs.length ps.length ms.length kn sa ho ix pr bw er (h := h); have hF : mokB gs cs ps ms kn sa ho ix pr bw er = false := mok_no h; have HF := Lib.hid hF; clear h hF z
 go_enter Tryz.func216, Tryz.ntmps216
 go_wp2_with fail; refine (hu _).mono ?_; rintro e w1 ⟨rfl, hb⟩; go_wp2_with fail; replace bA := bA.keep hb; refine wp_region_class (C := Over (w1)) (by kernel_rfl) (by kernel_rfl) (over_drew _) ?_
 repeat (first | go_big_quiet_skip | (go_big_quiet_want; go_big_quiet_op; go_big_quiet_on) | (go_big_quiet_want; apply Exists.intro; refine ⟨fun w' hC => ?_, ?_⟩; (have k0 := over_cell hC bA.lt (bA.c 0 rfl); simp [Oper.quietAt, Oper.quietUpon, go_sem, k0]; first | done | rfl); go_big_quiet_on; simp only [Act.put, setIfInBounds_toArray, set_cons_succ, set_cons_zero]))
 refine wpQuiet_nil ?_; intro wr hC; have k0 := over_cell hC bA.lt (bA.c 0 rfl); go_wp2_with fail
 exact bodyPost_ret (v := .tuple #[.nilIface, .bool false]) (by simp [results, Tryz.results216, go_sem]) rfl ⟨congrArg Ending.returned (if_neg (by rw [HF.out]; decide)).symm, below_step (below_step B0 hb) hC⟩
theorem uv_any (ga ca pa ma : Option Addr) (gx cx px mx : Nat) (gs cs : List (Int × Int)) (ps ms : List Int) (kn sa ho ix pr bw er : Int) (w : World)
  (hg : RdP w (.slice ga gs.length gx) gs) (hc : RdP w (.slice ca cs.length cx) cs) (hp : RdI w (.slice pa ps.length px) ps) (hm : RdI w (.slice ma ms.length mx) ms) :
  Calls Tryz.prog 216 #[.agg #[.int .i64 kn, .int .i64 sa, .int .i64 ho, .int .i64 ix, .slice ga gs.length gx, .slice ca cs.length cx, .slice pa ps.length px, .int .i64 pr, .slice ma ms.length mx, .int .i64 bw, .int .i64 er]] w fun e w' => e = .returned (uvAns ga ca pa ma gx cx px mx gs cs ps ms kn sa ho ix pr bw er) ∧ Below w.heap.size w w' := by
 by_cases h : 1 ≤ kn ∧ kn ≤ 4
 ·obtain rfl | rfl | rfl | rfl : kn = 1 ∨ kn = 2 ∨ kn = 3 ∨ kn = 4 := by omega
  ·exact uv_O ga ca pa ma gx cx px mx gs cs ps ms 0 sa ho ix pr bw er w hg hc hp hm
  ·by_cases h0 : cs.length = 0
   ·obtain rfl := List.eq_nil_of_length_eq_zero h0
    exact uv_U0 ga ca pa ma gx cx px mx gs ps ms 0 sa ho ix pr bw er w hg hc hp hm
   ·exact uv_U ga ca pa ma gx cx px mx gs cs ps ms 0 sa ho ix pr bw er w hg hc hp hm h0
  ·exact uv_N ga ca pa ma gx cx px mx gs cs ps ms 0 sa ho ix pr bw er w hg hc hp hm
  ·exact uv_K ga ca pa ma gx cx px mx gs cs ps ms 0 sa ho ix pr bw er w hg hc hp hm
 ·exact uv_no ga ca pa ma gx cx px mx gs cs ps ms kn sa ho ix pr bw er w h
theorem imok_any (ga ca pa ma : Option Addr) (gx cx px mx : Nat) (gs cs : List (Int × Int)) (ps ms : List Int) (kn sa ho ix pr bw er : Int) (w : World)
  (hg : RdP w (.slice ga gs.length gx) gs) (hc : RdP w (.slice ca cs.length cx) cs) (hp : RdI w (.slice pa ps.length px) ps) (hm : RdI w (.slice ma ms.length mx) ms) :
  Calls Tryz.prog 146 #[.agg #[.int .i64 kn, .int .i64 sa, .int .i64 ho, .int .i64 ix, .slice ga gs.length gx, .slice ca cs.length cx, .slice pa ps.length px, .int .i64 pr, .slice ma ms.length mx, .int .i64 bw, .int .i64 er]] w fun e w' => e = .returned (.bool (mokB gs cs ps ms kn sa ho ix pr bw er)) ∧ Below w.heap.size w w' := by
 obtain ⟨bA, B0, z⟩ := one w [.int .i64 kn, .int .i64 sa, .int .i64 ho, .int .i64 ix, .slice ga gs.length gx, .slice ca cs.length cx, .slice pa ps.length px, .int .i64 pr, .slice ma ms.length mx, .int .i64 bw, .int .i64 er] 52; have hu := uv_any ga ca pa ma gx cx px mx gs cs ps ms kn sa ho ix pr bw er _ (hg.keep B0) (hc.keep B0) (hp.keep B0) (hm.keep B0); clear z; cases hm0 : mokB gs cs ps ms kn sa ho ix pr bw er
 ·have e : uvAns ga ca pa ma gx cx px mx gs cs ps ms kn sa ho ix pr bw er = .tuple #[.nilIface, .bool false] := if_neg (by rw [hm0]; decide)
  rw [e] at hu; clear e hm0
  go_enter Tryz.func146, Tryz.ntmps146
  go_wp2_with fail; refine hu.mono ?_; rintro e w1 ⟨rfl, hb⟩; go_wp2_with fail
  go_ret
  exact ⟨rfl, below_step B0 hb⟩
 ·have e : uvAns ga ca pa ma gx cx px mx gs cs ps ms kn sa ho ix pr bw er = .tuple #[uvX ga ca pa ma gx cx px mx gs cs ps ms kn sa ho ix pr bw er, .bool true] := if_pos hm0
  rw [e] at hu; obtain ⟨X, hX⟩ : ∃ X, uvX ga ca pa ma gx cx px mx gs cs ps ms kn sa ho ix pr bw er = X := ⟨_, rfl⟩; rw [hX] at hu; clear e hm0 hX
  go_enter Tryz.func146, Tryz.ntmps146
  go_wp2_with fail; refine hu.mono ?_; rintro e w1 ⟨rfl, hb⟩; go_wp2_with fail
  go_ret
  exact ⟨rfl, below_step B0 hb⟩
end Go.Proofs.YtbcmoofpgffbhabGreat
namespace Go.Proofs.YtbcmoofpgffbhabGreat
open Go.ChangeShapes Go.WideShapes Go.ChangeAt Go.RowKit Go.BigFrame Go.Joins
set_option linter.unusedVariables false
set_option maxRecDepth 100000
set_option linter.unusedSimpArgs false
set_option maxRecDepth 100000

def mokM (x : Mg) : Bool := mokB x.gs x.cs x.ps x.ms x.kn x.sa x.ho x.ix x.pr x.bw x.er
/-- a valid update -/
def updB (x : Mg) : Bool := (x.kn == 2) && mokM x
theorem imokM_any (gv cv pv mv : Value) (x : Mg) (w : World) (h : RdM w gv cv pv mv x) :
  Calls Tryz.prog 146 #[.agg #[.int .i64 x.kn, .int .i64 x.sa, .int .i64 x.ho, .int .i64 x.ix, gv, cv, pv, .int .i64 x.pr, mv, .int .i64 x.bw, .int .i64 x.er]] w fun e w' => e = .returned (.bool (mokM x)) ∧ Below w.heap.size w w' := by
 obtain ⟨hg, hc, hp, hm⟩ := h; obtain ⟨ga, gx, rfl⟩ := hg.len; obtain ⟨ca, cx, rfl⟩ := hc.len; obtain ⟨pa, px, rfl⟩ := hp.len; obtain ⟨ma, mx, rfl⟩ := hm.len
 exact imok_any ga ca pa ma gx cx px mx x.gs x.cs x.ps x.ms x.kn x.sa x.ho x.ix x.pr x.bw x.er w hg hc hp hm
theorem smokM_any (gv cv pv mv : Value) (x : Mg) (w : World) (h : RdM w gv cv pv mv x) (hw : wtM x ≤ 1048576) :
  Calls Tryz.prog 62 #[.agg #[.int .i64 x.kn, .int .i64 x.sa, .int .i64 x.ho, .int .i64 x.ix, gv, cv, pv, .int .i64 x.pr, mv, .int .i64 x.bw, .int .i64 x.er]] w fun e w' => e = .returned (.bool (mokM x)) ∧ Below w.heap.size w w' := by
 obtain ⟨hg, hc, hp, hm⟩ := h; obtain ⟨ga, gx, rfl⟩ := hg.len; obtain ⟨ca, cx, rfl⟩ := hc.len; obtain ⟨pa, px, rfl⟩ := hp.len; obtain ⟨ma, mx, rfl⟩ := hm.len; unfold wtM at hw
 exact smok_any ga ca pa ma gx cx px mx x.gs x.cs x.ps x.ms x.kn x.sa x.ho x.ix x.pr x.bw x.er w hg hc hp hm (by omega) (by omega)
theorem iupd_any (gv cv pv mv : Value) (x : Mg) (w : World) (h : RdM w gv cv pv mv x) :
  Calls Tryz.prog 264 #[.agg #[.int .i64 x.kn, .int .i64 x.sa, .int .i64 x.ho, .int .i64 x.ix, gv, cv, pv, .int .i64 x.pr, mv, .int .i64 x.bw, .int .i64 x.er]] w fun e w' => e = .returned (.bool (updB x)) ∧ Below w.heap.size w w' := by
 obtain ⟨bA, B0, z⟩ := one w [.int .i64 x.kn, .int .i64 x.sa, .int .i64 x.ho, .int .i64 x.ix, gv, cv, pv, .int .i64 x.pr, mv, .int .i64 x.bw, .int .i64 x.er] 52; replace h := h.keep B0; clear z; have a0 := bA.c 0 rfl; have a1 := bA.c 1 rfl; have a2 := bA.c 2 rfl; have a3 := bA.c 3 rfl; have a4 := bA.c 4 rfl; have a5 := bA.c 5 rfl; have a6 := bA.c 6 rfl; have a7 := bA.c 7 rfl; have a8 := bA.c 8 rfl; have a9 := bA.c 9 rfl; have a10 := bA.c 10 rfl; unfold updB; cases hk : (x.kn == 2)
 ·rw [Bool.false_and]
  go_enter Tryz.func264, Tryz.ntmps264
  go_wp2
  go_ret
  exact ⟨rfl, B0⟩
 ·rw [Bool.true_and]
  go_enter Tryz.func264, Tryz.ntmps264
  go_wp2_with fail; refine (imokM_any gv cv pv mv x _ h).mono ?_; rintro e w1 ⟨rfl, hb⟩; replace B0 := below_step B0 hb; go_wp2
  go_ret
  exact ⟨rfl, B0⟩
theorem iclN_any  (ov rv sv : Value) (x : Nd) (C : Nat) (w : World) (hr : RdN w ov rv sv x) (bC : Bl w C [.func (.func 66) #[] #[]]) :
  Calls Tryz.prog 235 #[.agg #[.int .i64 x.an, ov, .int .i64 x.bw, .bool x.dr, rv, sv], .pointer (some ⟨C, 0, none⟩)] w fun e w' => e = .returned (.bool (!ndB x)) ∧ Below w.heap.size w w' := by
 obtain ⟨bE, B0, z⟩ := one w [.int .i64 x.an, ov, .int .i64 x.bw, .bool x.dr, rv, sv] 35; replace hr := hr.keep B0; have c0 := (bC.keep B0).c 0 rfl; clear z; have x0 := bE.c 0 rfl; have x1 := bE.c 1 rfl; have x2 := bE.c 2 rfl; have x3 := bE.c 3 rfl; have x4 := bE.c 4 rfl; have x5 := bE.c 5 rfl
 go_enter Tryz.func235, Tryz.ntmps235
 go_wp2_with fail; refine (indok_any ov rv sv x _ hr).mono ?_; rintro e w1 ⟨rfl, hb⟩; replace B0 := below_step B0 hb; go_wp2
 go_ret
 exact ⟨rfl, B0⟩
set_option maxHeartbeats 1000000 in
theorem iixN_any  (v : Value) (L : List Nd) (C : Nat) (w : World) (h : RdNS w v L) (bC : Bl w C [.func (.func 66) #[] #[]]) :
  Calls Tryz.prog 262 #[v, .func (.func 235) #[] #[.pointer (some ⟨C, 0, none⟩)]] w fun e w' => ∃ r : Int, e = .returned (.int .i64 r) ∧ decide (0 ≤ r) = (!L.all fun x => ndB x) ∧ Below w.heap.size w w' := by
 have hm := h.1; obtain ⟨a, c, rfl, hc⟩ := h.el; obtain ⟨n, hn⟩ : ∃ n, n = L.length := ⟨_, rfl⟩; rw [← hn] at hc hm ⊢; have HN := Lib.hid hn; clear h hn
 go_enter Tryz.func262, Tryz.ntmps262
 go_wp2
 go_loopw [8] (fun q wr => ∃ j : Nat, j ≤ n ∧ q = .int .i64 j ∧ (∀ i, i < j → ndB (L.getD i n0) = true) ∧ Below w.heap.size w wr) (fun q _ => n - (intOf q).toNat)
 case atStart => exact ⟨0, Nat.zero_le _, rfl, fun j hj => by omega, Below.refl _ _⟩
 case round =>
  obtain ⟨j, hj, rfl, hyes, hB⟩ := hrel; have HY := Lib.hid hyes; clear hyes
  by_cases hlt : j < n
  ·have hltI : (j : Int) < (n : Int) := by omega
   obtain ⟨b, o, rfl, hE⟩ := hc j hlt; obtain ⟨x, hx⟩ : ∃ x, L.getD j n0 = x := ⟨_, rfl⟩; rw [hx] at hE; obtain ⟨ov, rv, sv, hr, g0, g1, g2, g3, g4, g5⟩ := hE.keep hB; have HX := Lib.hid hx; have HC := Lib.hid hc; clear hx hc hE; go_wp2_with fail; refine (iclN_any  ov rv sv x C wr hr (bC.keep hB)).mono ?_; rintro e w1 ⟨rfl, hb1⟩; clear g0 g1 g2 g3 g4 g5 hr; cases hbq : ndB x
   ·go_wp2
    go_ret
    refine ⟨(j : Int), rfl, ?_, below_step hB hb1⟩; rw [show decide (0 ≤ (j : Int)) = true by simp]
    symm
    rw [Bool.not_eq_true', List.all_eq_false]; refine ⟨x, ?_, by rw [hbq]; simp⟩; rw [← HX.out, List.getD_eq_getElem?_getD, List.getElem?_eq_getElem (by rw [← HN.out]; exact hlt)]
    exact List.getElem_mem _
   ·go_wp2
    go_roundw
    case rel =>
     refine ⟨j + 1, by omega, by go_num, fun i hi => ?_, below_step hB hb1⟩
     by_cases hjk : i = j
     ·subst hjk; rw [HX.out]; exact hbq
     ·exact HY.out i (by omega)
    case measure => simp [intOf]; omega
  ·have hkn : j = n := by omega
   subst hkn; clear hc; go_wp2
   go_ret
   refine ⟨-1, rfl, ?_, hB⟩
   have e : (L.all fun x => ndB x) = true := by
    rw [List.all_eq_true]; intro x hx; obtain ⟨i, hi, e⟩ := List.mem_iff_getElem.1 hx; have := HY.out i (by rw [HN.out]; exact hi); rw [List.getD_eq_getElem?_getD, List.getElem?_eq_getElem hi] at this; rw [← e]
    exact this
   rw [e]
   rfl
theorem icfN_any  (v : Value) (L : List Nd) (C : Nat) (w : World) (h : RdNS w v L) (bC : Bl w C [.func (.func 66) #[] #[]]) :
  Calls Tryz.prog 234 #[v, .func (.func 235) #[] #[.pointer (some ⟨C, 0, none⟩)]] w fun e w' => e = .returned (.bool (!L.all fun x => ndB x)) ∧ Below w.heap.size w w' := by
 obtain ⟨a, c, hv⟩ := h.len; have hcall := iixN_any  v L C w h bC; rw [hv] at hcall ⊢; have HC := Lib.hid hcall; clear hcall hv h bC
 go_enter Tryz.func234, Tryz.ntmps234
 go_wp2_with fail; refine HC.out.mono ?_; rintro e w1 ⟨r, rfl, hr, hb⟩; have HR := Lib.hid hr; clear hr; go_wp2
 go_ret
 exact ⟨ret_bool HR.out, hb⟩
theorem ievN_any  (v : Value) (L : List Nd) (w : World) (h : RdNS w v L) :
  Calls Tryz.prog 175 #[v, .func (.func 66) #[] #[]] w fun e w' => e = .returned (.bool (L.all fun x => ndB x)) ∧ Below w.heap.size w w' := by
 obtain ⟨bC, B0, z⟩ := one w [.func (.func 66) #[] #[]] 86; replace h := h.keep B0; obtain ⟨a, c, hv⟩ := h.len; have hcall := icfN_any  v L w.heap.size _ h bC; rw [hv] at hcall ⊢; have HC := Lib.hid hcall; clear hcall hv h z
 go_enter Tryz.func175, Tryz.ntmps175
 go_wp2_with fail; refine HC.out.mono ?_; rintro e w1 ⟨rfl, hb⟩; replace B0 := below_step B0 hb; go_wp2
 go_ret
 exact ⟨by simp, B0⟩
theorem ievN_t  {v : Value} {L : List Nd} {b : Bool} (w : World) (h : RdNS w v L) (H : Hid ((L.all fun x => ndB x) = b)) :
  Calls Tryz.prog 175 #[v, .func (.func 66) #[] #[]] w fun e w' => e = .returned (.bool b) ∧ Below w.heap.size w w' := H.out ▸ ievN_any  v L w h
theorem iclU_any  (gv cv pv mv : Value) (x : Mg) (C : Nat) (w : World) (hr : RdM w gv cv pv mv x) (bC : Bl w C [.func (.func 264) #[] #[]]) :
  Calls Tryz.prog 273 #[.agg #[.int .i64 x.kn, .int .i64 x.sa, .int .i64 x.ho, .int .i64 x.ix, gv, cv, pv, .int .i64 x.pr, mv, .int .i64 x.bw, .int .i64 x.er], .pointer (some ⟨C, 0, none⟩)] w fun e w' => e = .returned (.bool (!updB x)) ∧ Below w.heap.size w w' := by
 obtain ⟨bE, B0, z⟩ := one w [.int .i64 x.kn, .int .i64 x.sa, .int .i64 x.ho, .int .i64 x.ix, gv, cv, pv, .int .i64 x.pr, mv, .int .i64 x.bw, .int .i64 x.er] 52; replace hr := hr.keep B0; have c0 := (bC.keep B0).c 0 rfl; clear z; have x0 := bE.c 0 rfl; have x1 := bE.c 1 rfl; have x2 := bE.c 2 rfl; have x3 := bE.c 3 rfl; have x4 := bE.c 4 rfl; have x5 := bE.c 5 rfl; have x6 := bE.c 6 rfl; have x7 := bE.c 7 rfl; have x8 := bE.c 8 rfl; have x9 := bE.c 9 rfl; have x10 := bE.c 10 rfl
 go_enter Tryz.func273, Tryz.ntmps273
 go_wp2_with fail; refine (iupd_any gv cv pv mv x _ hr).mono ?_; rintro e w1 ⟨rfl, hb⟩; replace B0 := below_step B0 hb; go_wp2
 go_ret
 exact ⟨rfl, B0⟩
set_option maxHeartbeats 1000000 in
theorem iixU_any  (v : Value) (L : List Mg) (C : Nat) (w : World) (h : RdMS w v L) (bC : Bl w C [.func (.func 264) #[] #[]]) :
  Calls Tryz.prog 276 #[v, .func (.func 273) #[] #[.pointer (some ⟨C, 0, none⟩)]] w fun e w' => ∃ r : Int, e = .returned (.int .i64 r) ∧ decide (0 ≤ r) = (!L.all fun x => updB x) ∧ Below w.heap.size w w' := by
 have hm := h.1; obtain ⟨a, c, rfl, hc⟩ := h.el; obtain ⟨n, hn⟩ : ∃ n, n = L.length := ⟨_, rfl⟩; rw [← hn] at hc hm ⊢; have HN := Lib.hid hn; clear h hn
 go_enter Tryz.func276, Tryz.ntmps276
 go_wp2
 go_loopw [8] (fun q wr => ∃ j : Nat, j ≤ n ∧ q = .int .i64 j ∧ (∀ i, i < j → updB (L.getD i m0) = true) ∧ Below w.heap.size w wr) (fun q _ => n - (intOf q).toNat)
 case atStart => exact ⟨0, Nat.zero_le _, rfl, fun j hj => by omega, Below.refl _ _⟩
 case round =>
  obtain ⟨j, hj, rfl, hyes, hB⟩ := hrel; have HY := Lib.hid hyes; clear hyes
  by_cases hlt : j < n
  ·have hltI : (j : Int) < (n : Int) := by omega
   obtain ⟨b, o, rfl, hE⟩ := hc j hlt; obtain ⟨x, hx⟩ : ∃ x, L.getD j m0 = x := ⟨_, rfl⟩; rw [hx] at hE; obtain ⟨gv, cv, pv, mv, hr, g0, g1, g2, g3, g4, g5, g6, g7, g8, g9, g10⟩ := hE.keep hB; have HX := Lib.hid hx; have HC := Lib.hid hc; clear hx hc hE; go_wp2_with fail; refine (iclU_any  gv cv pv mv x C wr hr (bC.keep hB)).mono ?_; rintro e w1 ⟨rfl, hb1⟩; clear g0 g1 g2 g3 g4 g5 g6 g7 g8 g9 g10 hr; cases hbq : updB x
   ·go_wp2
    go_ret
    refine ⟨(j : Int), rfl, ?_, below_step hB hb1⟩; rw [show decide (0 ≤ (j : Int)) = true by simp]
    symm
    rw [Bool.not_eq_true', List.all_eq_false]; refine ⟨x, ?_, by rw [hbq]; simp⟩; rw [← HX.out, List.getD_eq_getElem?_getD, List.getElem?_eq_getElem (by rw [← HN.out]; exact hlt)]
    exact List.getElem_mem _
   ·go_wp2
    go_roundw
    case rel =>
     refine ⟨j + 1, by omega, by go_num, fun i hi => ?_, below_step hB hb1⟩
     by_cases hjk : i = j
     ·subst hjk; rw [HX.out]; exact hbq
     ·exact HY.out i (by omega)
    case measure => simp [intOf]; omega
  ·have hkn : j = n := by omega
   subst hkn; clear hc; go_wp2
   go_ret
   refine ⟨-1, rfl, ?_, hB⟩
   have e : (L.all fun x => updB x) = true := by
    rw [List.all_eq_true]; intro x hx; obtain ⟨i, hi, e⟩ := List.mem_iff_getElem.1 hx; have := HY.out i (by rw [HN.out]; exact hi); rw [List.getD_eq_getElem?_getD, List.getElem?_eq_getElem hi] at this; rw [← e]
    exact this
   rw [e]
   rfl
theorem icfU_any  (v : Value) (L : List Mg) (C : Nat) (w : World) (h : RdMS w v L) (bC : Bl w C [.func (.func 264) #[] #[]]) :
  Calls Tryz.prog 272 #[v, .func (.func 273) #[] #[.pointer (some ⟨C, 0, none⟩)]] w fun e w' => e = .returned (.bool (!L.all fun x => updB x)) ∧ Below w.heap.size w w' := by
 obtain ⟨a, c, hv⟩ := h.len; have hcall := iixU_any  v L C w h bC; rw [hv] at hcall ⊢; have HC := Lib.hid hcall; clear hcall hv h bC
 go_enter Tryz.func272, Tryz.ntmps272
 go_wp2_with fail; refine HC.out.mono ?_; rintro e w1 ⟨r, rfl, hr, hb⟩; have HR := Lib.hid hr; clear hr; go_wp2
 go_ret
 exact ⟨ret_bool HR.out, hb⟩
theorem ievU_any  (v : Value) (L : List Mg) (w : World) (h : RdMS w v L) :
  Calls Tryz.prog 263 #[v, .func (.func 264) #[] #[]] w fun e w' => e = .returned (.bool (L.all fun x => updB x)) ∧ Below w.heap.size w w' := by
 obtain ⟨bC, B0, z⟩ := one w [.func (.func 264) #[] #[]] 107; replace h := h.keep B0; obtain ⟨a, c, hv⟩ := h.len; have hcall := icfU_any  v L w.heap.size _ h bC; rw [hv] at hcall ⊢; have HC := Lib.hid hcall; clear hcall hv h z
 go_enter Tryz.func263, Tryz.ntmps263
 go_wp2_with fail; refine HC.out.mono ?_; rintro e w1 ⟨rfl, hb⟩; replace B0 := below_step B0 hb; go_wp2
 go_ret
 exact ⟨by simp, B0⟩
theorem ievU_t  {v : Value} {L : List Mg} {b : Bool} (w : World) (h : RdMS w v L) (H : Hid ((L.all fun x => updB x) = b)) :
  Calls Tryz.prog 263 #[v, .func (.func 264) #[] #[]] w fun e w' => e = .returned (.bool b) ∧ Below w.heap.size w w' := H.out ▸ ievU_any  v L w h
end Go.Proofs.YtbcmoofpgffbhabGreat
