/-
  Messages: what makes one valid, and the contract of the model's test. Conditions: those in each contract.
  Messages: how the program unpacks and packs one. Conditions: those in each contract.
-/
import Derived.Test.YtbcmoofpgffbhabGreatHPe
import Derived.Test.YtbcmoofpgffbhabGreatHPd
namespace Go.Proofs.YtbcmoofpgffbhabGreat
open Go.ChangeShapes Go.WideShapes Go.ChangeAt Go.RowKit Go.BigFrame
set_option linter.unusedVariables false
set_option maxRecDepth 100000
set_option maxRecDepth 100000
set_option linter.unusedSimpArgs false

/-- no attribute -/
def zA (ps ms : List Int) (pr bw : Int) : Bool := decide (pr = 0 ∧ bw = 0 ∧ ps.length + ms.length = 0)
def pokL (l : List (Int × Int)) : Bool := decide ((l.length : Int) ≤ 8) && pfxB l
/-- the message is valid -/
def mokB (gs cs : List (Int × Int)) (ps ms : List Int) (kn sa ho ix pr bw er : Int) : Bool :=
 if kn < 1 then false else if 4 < kn then false else if pokL gs = false then false else if pokL cs = false then false else
 if kn = 1 then
  if sa = 0 then false else if asB sa = false then false else if ho < 3 then false else if 255 < ho then false else if ix < 1 then false else if 255 < ix then false else
  if 0 < (gs.length : Int) + cs.length then false else if zA ps ms pr bw = false then false else decide (er = 0)
 else
  if ¬ sa = 0 then false else if ¬ ho = 0 then false else if ¬ ix = 0 then false else
  if kn = 2 then
   if cs.length = 0 then (if zA ps ms pr bw = false then false else decide (er = 0))
   else if aokB ps pr ms bw = false then false else if ps.length = 0 then false else decide (er = 0)
  else
   if 0 < (gs.length : Int) + cs.length then false else if zA ps ms pr bw = false then false else
   if kn = 3 then decide (1 ≤ er ∧ er ≤ 6) else decide (er = 0)
theorem pokL_le {l : List (Int × Int)} (h : pokL l = true) : l.length ≤ 8 := by
 unfold pokL at h
 simp at h
 omega
theorem snoattr_any (pa ma : Option Addr) (px mx : Nat) (ps ms : List Int) (pr bw : Int) (w : World) (h0 : ps.length ≤ 1048576) (h1 : ms.length ≤ 1048576) :
  Calls Tryz.prog 135 #[.agg #[.slice pa ps.length px, .int .i64 pr, .slice ma ms.length mx, .int .i64 bw]] w fun e w' => e = .returned (.bool (zA ps ms pr bw)) ∧ Below w.heap.size w w' := by
 obtain ⟨bA, B0, z⟩ := one w [.slice pa ps.length px, .int .i64 pr, .slice ma ms.length mx, .int .i64 bw] 50; have hsw : IntKind.i64.wrap ((ps.length : Int) + (ms.length : Int)) = (ps.length : Int) + ms.length := wrap64_in _ (by omega) (by omega); clear z; obtain ⟨t, ht⟩ : ∃ t, zA ps ms pr bw = t := ⟨_, rfl⟩; rw [ht]; have HT := Lib.hid ht; clear ht
 by_cases a0 : pr = 0
 ·subst a0
  by_cases a1 : bw = 0
  ·subst a1
   by_cases a2 : (ps.length : Int) + (ms.length : Int) = 0
   ·have a3 : (((ps.length : Int) + (ms.length : Int)) == 0) = true := by simp; omega
    have A2 := Lib.hid a2; clear h0 h1
    go_enter Tryz.func135, Tryz.ntmps135
    go_wp2
    all_goals
     go_ret
     exact ⟨ret_bool (by have h := A2.out; rw [← HT.out]; exact (decide_eq_true (by refine ⟨rfl, rfl, ?_⟩; omega)).symm), B0⟩
   ·have a3 : (((ps.length : Int) + (ms.length : Int)) == 0) = false := by simp; omega
    have A2 := Lib.hid a2; clear h0 h1
    go_enter Tryz.func135, Tryz.ntmps135
    go_wp2
    all_goals
     go_ret
     exact ⟨ret_bool (by have h := A2.out; rw [← HT.out]; exact (decide_eq_false (fun g => h (by have := g.2.2; omega))).symm), B0⟩
  ·have hb : (bw == 0) = false := by simp [a1]
   clear h0 h1
   go_enter Tryz.func135, Tryz.ntmps135
   go_wp2
   all_goals
    go_ret
    exact ⟨ret_bool (by rw [← HT.out]; unfold zA; simp; omega), B0⟩
 ·have hb : (pr == 0) = false := by simp [a0]
  clear h0 h1
  go_enter Tryz.func135, Tryz.ntmps135
  go_wp2
  all_goals
   go_ret
   exact ⟨ret_bool (by rw [← HT.out]; unfold zA; simp; omega), B0⟩
theorem snoattr_t {pa ma : Option Addr} {px mx : Nat} {ps ms : List Int} {pr bw : Int} {b : Bool} (w : World) (h0 : ps.length ≤ 1048576) (h1 : ms.length ≤ 1048576) (H : Hid (zA ps ms pr bw = b)) :
  Calls Tryz.prog 135 #[.agg #[.slice pa ps.length px, .int .i64 pr, .slice ma ms.length mx, .int .i64 bw]] w fun e w' => e = .returned (.bool b) ∧ Below w.heap.size w w' := H.out ▸ snoattr_any pa ma px mx ps ms pr bw w h0 h1
theorem saokN_t {pv cv : Value} {p c : List Int} {pr bw : Int} {b : Bool} (w : World) (hp : RdI w pv p) (hc : RdI w cv c) (H : Hid (aokB p pr c bw = b)) :
  Calls Tryz.prog 136 #[.agg #[pv, .int .i64 pr, cv, .int .i64 bw]] w fun e w' => e = .returned (.bool b) ∧ Below w.heap.size w w' := H.out ▸ saok_any pv cv p c pr bw w hp hc
theorem spfx_t {v : Value} {l : List (Int × Int)} {b : Bool} (w : World) (h : RdP w v l) (H : Hid (pokL l = b)) :
  Calls Tryz.prog 113 #[v] w fun e w' => e = .returned (.bool b) ∧ Below w.heap.size w w' := H.out ▸ spfx_any v l w h
set_option maxHeartbeats 8000000 in
theorem smok_any (ga ca pa ma : Option Addr) (gx cx px mx : Nat) (gs cs : List (Int × Int)) (ps ms : List Int) (kn sa ho ix pr bw er : Int) (w : World)
  (hg : RdP w (.slice ga gs.length gx) gs) (hc : RdP w (.slice ca cs.length cx) cs) (hp : RdI w (.slice pa ps.length px) ps) (hm : RdI w (.slice ma ms.length mx) ms) (hpl : ps.length ≤ 1048576) (hml : ms.length ≤ 1048576) :
  Calls Tryz.prog 62 #[.agg #[.int .i64 kn, .int .i64 sa, .int .i64 ho, .int .i64 ix, .slice ga gs.length gx, .slice ca cs.length cx, .slice pa ps.length px, .int .i64 pr, .slice ma ms.length mx, .int .i64 bw, .int .i64 er]] w fun e w' => e = .returned (.bool (mokB gs cs ps ms kn sa ho ix pr bw er)) ∧ Below w.heap.size w w' := by
 obtain ⟨bA, B0, z⟩ := one w [.int .i64 kn, .int .i64 sa, .int .i64 ho, .int .i64 ix, .slice ga gs.length gx, .slice ca cs.length cx, .slice pa ps.length px, .int .i64 pr, .slice ma ms.length mx, .int .i64 bw, .int .i64 er] 52; replace hg := hg.keep B0; replace hc := hc.keep B0; replace hp := hp.keep B0; replace hm := hm.keep B0; clear z
 by_cases n1 : kn < 1
 ·go_enter Tryz.func62, Tryz.ntmps62
  go_wp2_with fail
  all_goals
   go_ret
   exact ⟨ret_bool (((if_pos (by omega)).trans (rfl)).symm), B0⟩
 ·by_cases n2 : 4 < kn
  ·go_enter Tryz.func62, Tryz.ntmps62
   go_wp2_with fail
   all_goals
    go_ret
    exact ⟨ret_bool (((if_neg (by omega)).trans ((if_pos (by omega)).trans (rfl))).symm), B0⟩
  ·by_cases g0 : pokL gs = false
   ·have HG := Lib.hid g0
    clear g0
    go_enter Tryz.func62, Tryz.ntmps62
    go_wp2_with fail; refine (spfx_t _ hg HG).mono ?_; rintro e w1 ⟨rfl, hb⟩; replace bA := bA.keep hb; replace hg := hg.keep hb; replace hc := hc.keep hb; replace hp := hp.keep hb; replace hm := hm.keep hb; replace B0 := below_step B0 hb; clear hb; have fa0 := bA.c 0 rfl; have fa1 := bA.c 1 rfl; have fa2 := bA.c 2 rfl; have fa3 := bA.c 3 rfl; have fa4 := bA.c 4 rfl; have fa5 := bA.c 5 rfl; have fa6 := bA.c 6 rfl; have fa7 := bA.c 7 rfl; have fa8 := bA.c 8 rfl; have fa9 := bA.c 9 rfl; have fa10 := bA.c 10 rfl; go_wp2_with fail
    all_goals
     go_ret
     exact ⟨ret_bool (((if_neg (by omega)).trans ((if_neg (by omega)).trans ((if_pos HG.out).trans (rfl)))).symm), B0⟩
   ·have g1 := pokL_le (l := gs) (by simpa using g0)
    have HG : Hid (pokL gs = true) := Lib.hid (by simpa using g0); clear g0
    by_cases c00 : pokL cs = false
    ·have HC := Lib.hid c00
     clear c00
     go_enter Tryz.func62, Tryz.ntmps62
     go_wp2_with fail; refine (spfx_t _ hg HG).mono ?_; rintro e w1 ⟨rfl, hb⟩; replace bA := bA.keep hb; replace hg := hg.keep hb; replace hc := hc.keep hb; replace hp := hp.keep hb; replace hm := hm.keep hb; replace B0 := below_step B0 hb; clear hb; have fa0 := bA.c 0 rfl; have fa1 := bA.c 1 rfl; have fa2 := bA.c 2 rfl; have fa3 := bA.c 3 rfl; have fa4 := bA.c 4 rfl; have fa5 := bA.c 5 rfl; have fa6 := bA.c 6 rfl; have fa7 := bA.c 7 rfl; have fa8 := bA.c 8 rfl; have fa9 := bA.c 9 rfl; have fa10 := bA.c 10 rfl; go_wp2_with fail; clear fa0 fa1 fa2 fa3 fa4 fa5 fa6 fa7 fa8 fa9 fa10; refine (spfx_t _ hc HC).mono ?_; rintro e w1 ⟨rfl, hb⟩; replace bA := bA.keep hb; replace hg := hg.keep hb; replace hc := hc.keep hb; replace hp := hp.keep hb; replace hm := hm.keep hb; replace B0 := below_step B0 hb; clear hb; have fa0 := bA.c 0 rfl; have fa1 := bA.c 1 rfl; have fa2 := bA.c 2 rfl; have fa3 := bA.c 3 rfl; have fa4 := bA.c 4 rfl; have fa5 := bA.c 5 rfl; have fa6 := bA.c 6 rfl; have fa7 := bA.c 7 rfl; have fa8 := bA.c 8 rfl; have fa9 := bA.c 9 rfl; have fa10 := bA.c 10 rfl; go_wp2_with fail
     all_goals
      go_ret
      exact ⟨ret_bool (((if_neg (by omega)).trans ((if_neg (by omega)).trans ((if_neg (by rw [HG.out]; decide)).trans ((if_pos HC.out).trans (rfl))))).symm), B0⟩
    ·have c11 := pokL_le (l := cs) (by simpa using c00)
     have HC : Hid (pokL cs = true) := Lib.hid (by simpa using c00); clear c00; have hsum : IntKind.i64.wrap ((gs.length : Int) + (cs.length : Int)) = (gs.length : Int) + cs.length := wrap64_in _ (by omega) (by omega)
     by_cases k1 : kn = 1
     ·subst k1
      by_cases a0 : sa = 0
      ·subst a0
       go_enter Tryz.func62, Tryz.ntmps62
       go_wp2_with fail; refine (spfx_t _ hg HG).mono ?_; rintro e w1 ⟨rfl, hb⟩; replace bA := bA.keep hb; replace hg := hg.keep hb; replace hc := hc.keep hb; replace hp := hp.keep hb; replace hm := hm.keep hb; replace B0 := below_step B0 hb; clear hb; have fa0 := bA.c 0 rfl; have fa1 := bA.c 1 rfl; have fa2 := bA.c 2 rfl; have fa3 := bA.c 3 rfl; have fa4 := bA.c 4 rfl; have fa5 := bA.c 5 rfl; have fa6 := bA.c 6 rfl; have fa7 := bA.c 7 rfl; have fa8 := bA.c 8 rfl; have fa9 := bA.c 9 rfl; have fa10 := bA.c 10 rfl; go_wp2_with fail; clear fa0 fa1 fa2 fa3 fa4 fa5 fa6 fa7 fa8 fa9 fa10; refine (spfx_t _ hc HC).mono ?_; rintro e w1 ⟨rfl, hb⟩; replace bA := bA.keep hb; replace hg := hg.keep hb; replace hc := hc.keep hb; replace hp := hp.keep hb; replace hm := hm.keep hb; replace B0 := below_step B0 hb; clear hb; have fa0 := bA.c 0 rfl; have fa1 := bA.c 1 rfl; have fa2 := bA.c 2 rfl; have fa3 := bA.c 3 rfl; have fa4 := bA.c 4 rfl; have fa5 := bA.c 5 rfl; have fa6 := bA.c 6 rfl; have fa7 := bA.c 7 rfl; have fa8 := bA.c 8 rfl; have fa9 := bA.c 9 rfl; have fa10 := bA.c 10 rfl; go_wp2_with fail
       all_goals
        go_ret
        exact ⟨ret_bool (((if_neg (by omega)).trans ((if_neg (by omega)).trans ((if_neg (by rw [HG.out]; decide)).trans ((if_neg (by rw [HC.out]; decide)).trans ((if_pos rfl).trans ((if_pos rfl).trans (rfl))))))).symm), B0⟩
      ·have s2 : (sa != 0) = true := by simp [a0]
       by_cases a1 : asB sa = false
       ·have HA := Lib.hid a1
        clear a1
        go_enter Tryz.func62, Tryz.ntmps62
        go_wp2_with fail; refine (spfx_t _ hg HG).mono ?_; rintro e w1 ⟨rfl, hb⟩; replace bA := bA.keep hb; replace hg := hg.keep hb; replace hc := hc.keep hb; replace hp := hp.keep hb; replace hm := hm.keep hb; replace B0 := below_step B0 hb; clear hb; have fa0 := bA.c 0 rfl; have fa1 := bA.c 1 rfl; have fa2 := bA.c 2 rfl; have fa3 := bA.c 3 rfl; have fa4 := bA.c 4 rfl; have fa5 := bA.c 5 rfl; have fa6 := bA.c 6 rfl; have fa7 := bA.c 7 rfl; have fa8 := bA.c 8 rfl; have fa9 := bA.c 9 rfl; have fa10 := bA.c 10 rfl; go_wp2_with fail; clear fa0 fa1 fa2 fa3 fa4 fa5 fa6 fa7 fa8 fa9 fa10; refine (spfx_t _ hc HC).mono ?_; rintro e w1 ⟨rfl, hb⟩; replace bA := bA.keep hb; replace hg := hg.keep hb; replace hc := hc.keep hb; replace hp := hp.keep hb; replace hm := hm.keep hb; replace B0 := below_step B0 hb; clear hb; have fa0 := bA.c 0 rfl; have fa1 := bA.c 1 rfl; have fa2 := bA.c 2 rfl; have fa3 := bA.c 3 rfl; have fa4 := bA.c 4 rfl; have fa5 := bA.c 5 rfl; have fa6 := bA.c 6 rfl; have fa7 := bA.c 7 rfl; have fa8 := bA.c 8 rfl; have fa9 := bA.c 9 rfl; have fa10 := bA.c 10 rfl; go_wp2_with fail; clear fa0 fa1 fa2 fa3 fa4 fa5 fa6 fa7 fa8 fa9 fa10; refine (sas_t _ HA).mono ?_; rintro e w1 ⟨rfl, rfl⟩; have fa0 := bA.c 0 rfl; have fa1 := bA.c 1 rfl; have fa2 := bA.c 2 rfl; have fa3 := bA.c 3 rfl; have fa4 := bA.c 4 rfl; have fa5 := bA.c 5 rfl; have fa6 := bA.c 6 rfl; have fa7 := bA.c 7 rfl; have fa8 := bA.c 8 rfl; have fa9 := bA.c 9 rfl; have fa10 := bA.c 10 rfl; go_wp2_with fail
        all_goals
         go_ret
         exact ⟨ret_bool (((if_neg (by omega)).trans ((if_neg (by omega)).trans ((if_neg (by rw [HG.out]; decide)).trans ((if_neg (by rw [HC.out]; decide)).trans ((if_pos rfl).trans ((if_neg (by omega)).trans ((if_pos HA.out).trans (rfl)))))))).symm), B0⟩
       ·have HA : Hid (asB sa = true) := Lib.hid (by simpa using a1)
        clear a1
        by_cases t0 : ho < 3
        ·go_enter Tryz.func62, Tryz.ntmps62
         go_wp2_with fail; refine (spfx_t _ hg HG).mono ?_; rintro e w1 ⟨rfl, hb⟩; replace bA := bA.keep hb; replace hg := hg.keep hb; replace hc := hc.keep hb; replace hp := hp.keep hb; replace hm := hm.keep hb; replace B0 := below_step B0 hb; clear hb; have fa0 := bA.c 0 rfl; have fa1 := bA.c 1 rfl; have fa2 := bA.c 2 rfl; have fa3 := bA.c 3 rfl; have fa4 := bA.c 4 rfl; have fa5 := bA.c 5 rfl; have fa6 := bA.c 6 rfl; have fa7 := bA.c 7 rfl; have fa8 := bA.c 8 rfl; have fa9 := bA.c 9 rfl; have fa10 := bA.c 10 rfl; go_wp2_with fail; clear fa0 fa1 fa2 fa3 fa4 fa5 fa6 fa7 fa8 fa9 fa10; refine (spfx_t _ hc HC).mono ?_; rintro e w1 ⟨rfl, hb⟩; replace bA := bA.keep hb; replace hg := hg.keep hb; replace hc := hc.keep hb; replace hp := hp.keep hb; replace hm := hm.keep hb; replace B0 := below_step B0 hb; clear hb; have fa0 := bA.c 0 rfl; have fa1 := bA.c 1 rfl; have fa2 := bA.c 2 rfl; have fa3 := bA.c 3 rfl; have fa4 := bA.c 4 rfl; have fa5 := bA.c 5 rfl; have fa6 := bA.c 6 rfl; have fa7 := bA.c 7 rfl; have fa8 := bA.c 8 rfl; have fa9 := bA.c 9 rfl; have fa10 := bA.c 10 rfl; go_wp2_with fail; clear fa0 fa1 fa2 fa3 fa4 fa5 fa6 fa7 fa8 fa9 fa10; refine (sas_t _ HA).mono ?_; rintro e w1 ⟨rfl, rfl⟩; have fa0 := bA.c 0 rfl; have fa1 := bA.c 1 rfl; have fa2 := bA.c 2 rfl; have fa3 := bA.c 3 rfl; have fa4 := bA.c 4 rfl; have fa5 := bA.c 5 rfl; have fa6 := bA.c 6 rfl; have fa7 := bA.c 7 rfl; have fa8 := bA.c 8 rfl; have fa9 := bA.c 9 rfl; have fa10 := bA.c 10 rfl; go_wp2_with fail
         all_goals
          go_ret
          exact ⟨ret_bool (((if_neg (by omega)).trans ((if_neg (by omega)).trans ((if_neg (by rw [HG.out]; decide)).trans ((if_neg (by rw [HC.out]; decide)).trans ((if_pos rfl).trans ((if_neg (by omega)).trans ((if_neg (by rw [HA.out]; decide)).trans ((if_pos (by omega)).trans (rfl))))))))).symm), B0⟩
        ·by_cases t1 : 255 < ho
         ·go_enter Tryz.func62, Tryz.ntmps62
          go_wp2_with fail; refine (spfx_t _ hg HG).mono ?_; rintro e w1 ⟨rfl, hb⟩; replace bA := bA.keep hb; replace hg := hg.keep hb; replace hc := hc.keep hb; replace hp := hp.keep hb; replace hm := hm.keep hb; replace B0 := below_step B0 hb; clear hb; have fa0 := bA.c 0 rfl; have fa1 := bA.c 1 rfl; have fa2 := bA.c 2 rfl; have fa3 := bA.c 3 rfl; have fa4 := bA.c 4 rfl; have fa5 := bA.c 5 rfl; have fa6 := bA.c 6 rfl; have fa7 := bA.c 7 rfl; have fa8 := bA.c 8 rfl; have fa9 := bA.c 9 rfl; have fa10 := bA.c 10 rfl; go_wp2_with fail; clear fa0 fa1 fa2 fa3 fa4 fa5 fa6 fa7 fa8 fa9 fa10; refine (spfx_t _ hc HC).mono ?_; rintro e w1 ⟨rfl, hb⟩; replace bA := bA.keep hb; replace hg := hg.keep hb; replace hc := hc.keep hb; replace hp := hp.keep hb; replace hm := hm.keep hb; replace B0 := below_step B0 hb; clear hb; have fa0 := bA.c 0 rfl; have fa1 := bA.c 1 rfl; have fa2 := bA.c 2 rfl; have fa3 := bA.c 3 rfl; have fa4 := bA.c 4 rfl; have fa5 := bA.c 5 rfl; have fa6 := bA.c 6 rfl; have fa7 := bA.c 7 rfl; have fa8 := bA.c 8 rfl; have fa9 := bA.c 9 rfl; have fa10 := bA.c 10 rfl; go_wp2_with fail; clear fa0 fa1 fa2 fa3 fa4 fa5 fa6 fa7 fa8 fa9 fa10; refine (sas_t _ HA).mono ?_; rintro e w1 ⟨rfl, rfl⟩; have fa0 := bA.c 0 rfl; have fa1 := bA.c 1 rfl; have fa2 := bA.c 2 rfl; have fa3 := bA.c 3 rfl; have fa4 := bA.c 4 rfl; have fa5 := bA.c 5 rfl; have fa6 := bA.c 6 rfl; have fa7 := bA.c 7 rfl; have fa8 := bA.c 8 rfl; have fa9 := bA.c 9 rfl; have fa10 := bA.c 10 rfl; go_wp2_with fail
          all_goals
           go_ret
           exact ⟨ret_bool (((if_neg (by omega)).trans ((if_neg (by omega)).trans ((if_neg (by rw [HG.out]; decide)).trans ((if_neg (by rw [HC.out]; decide)).trans ((if_pos rfl).trans ((if_neg (by omega)).trans ((if_neg (by rw [HA.out]; decide)).trans ((if_neg (by omega)).trans ((if_pos (by omega)).trans (rfl)))))))))).symm), B0⟩
         ·by_cases t2 : ix < 1
          ·go_enter Tryz.func62, Tryz.ntmps62
           go_wp2_with fail; refine (spfx_t _ hg HG).mono ?_; rintro e w1 ⟨rfl, hb⟩; replace bA := bA.keep hb; replace hg := hg.keep hb; replace hc := hc.keep hb; replace hp := hp.keep hb; replace hm := hm.keep hb; replace B0 := below_step B0 hb; clear hb; have fa0 := bA.c 0 rfl; have fa1 := bA.c 1 rfl; have fa2 := bA.c 2 rfl; have fa3 := bA.c 3 rfl; have fa4 := bA.c 4 rfl; have fa5 := bA.c 5 rfl; have fa6 := bA.c 6 rfl; have fa7 := bA.c 7 rfl; have fa8 := bA.c 8 rfl; have fa9 := bA.c 9 rfl; have fa10 := bA.c 10 rfl; go_wp2_with fail; clear fa0 fa1 fa2 fa3 fa4 fa5 fa6 fa7 fa8 fa9 fa10; refine (spfx_t _ hc HC).mono ?_; rintro e w1 ⟨rfl, hb⟩; replace bA := bA.keep hb; replace hg := hg.keep hb; replace hc := hc.keep hb; replace hp := hp.keep hb; replace hm := hm.keep hb; replace B0 := below_step B0 hb; clear hb; have fa0 := bA.c 0 rfl; have fa1 := bA.c 1 rfl; have fa2 := bA.c 2 rfl; have fa3 := bA.c 3 rfl; have fa4 := bA.c 4 rfl; have fa5 := bA.c 5 rfl; have fa6 := bA.c 6 rfl; have fa7 := bA.c 7 rfl; have fa8 := bA.c 8 rfl; have fa9 := bA.c 9 rfl; have fa10 := bA.c 10 rfl; go_wp2_with fail; clear fa0 fa1 fa2 fa3 fa4 fa5 fa6 fa7 fa8 fa9 fa10; refine (sas_t _ HA).mono ?_; rintro e w1 ⟨rfl, rfl⟩; have fa0 := bA.c 0 rfl; have fa1 := bA.c 1 rfl; have fa2 := bA.c 2 rfl; have fa3 := bA.c 3 rfl; have fa4 := bA.c 4 rfl; have fa5 := bA.c 5 rfl; have fa6 := bA.c 6 rfl; have fa7 := bA.c 7 rfl; have fa8 := bA.c 8 rfl; have fa9 := bA.c 9 rfl; have fa10 := bA.c 10 rfl; go_wp2_with fail
           all_goals
            go_ret
            exact ⟨ret_bool (((if_neg (by omega)).trans ((if_neg (by omega)).trans ((if_neg (by rw [HG.out]; decide)).trans ((if_neg (by rw [HC.out]; decide)).trans ((if_pos rfl).trans ((if_neg (by omega)).trans ((if_neg (by rw [HA.out]; decide)).trans ((if_neg (by omega)).trans ((if_neg (by omega)).trans ((if_pos (by omega)).trans (rfl))))))))))).symm), B0⟩
          ·by_cases t3 : 255 < ix
           ·go_enter Tryz.func62, Tryz.ntmps62
            go_wp2_with fail; refine (spfx_t _ hg HG).mono ?_; rintro e w1 ⟨rfl, hb⟩; replace bA := bA.keep hb; replace hg := hg.keep hb; replace hc := hc.keep hb; replace hp := hp.keep hb; replace hm := hm.keep hb; replace B0 := below_step B0 hb; clear hb; have fa0 := bA.c 0 rfl; have fa1 := bA.c 1 rfl; have fa2 := bA.c 2 rfl; have fa3 := bA.c 3 rfl; have fa4 := bA.c 4 rfl; have fa5 := bA.c 5 rfl; have fa6 := bA.c 6 rfl; have fa7 := bA.c 7 rfl; have fa8 := bA.c 8 rfl; have fa9 := bA.c 9 rfl; have fa10 := bA.c 10 rfl; go_wp2_with fail; clear fa0 fa1 fa2 fa3 fa4 fa5 fa6 fa7 fa8 fa9 fa10; refine (spfx_t _ hc HC).mono ?_; rintro e w1 ⟨rfl, hb⟩; replace bA := bA.keep hb; replace hg := hg.keep hb; replace hc := hc.keep hb; replace hp := hp.keep hb; replace hm := hm.keep hb; replace B0 := below_step B0 hb; clear hb; have fa0 := bA.c 0 rfl; have fa1 := bA.c 1 rfl; have fa2 := bA.c 2 rfl; have fa3 := bA.c 3 rfl; have fa4 := bA.c 4 rfl; have fa5 := bA.c 5 rfl; have fa6 := bA.c 6 rfl; have fa7 := bA.c 7 rfl; have fa8 := bA.c 8 rfl; have fa9 := bA.c 9 rfl; have fa10 := bA.c 10 rfl; go_wp2_with fail; clear fa0 fa1 fa2 fa3 fa4 fa5 fa6 fa7 fa8 fa9 fa10; refine (sas_t _ HA).mono ?_; rintro e w1 ⟨rfl, rfl⟩; have fa0 := bA.c 0 rfl; have fa1 := bA.c 1 rfl; have fa2 := bA.c 2 rfl; have fa3 := bA.c 3 rfl; have fa4 := bA.c 4 rfl; have fa5 := bA.c 5 rfl; have fa6 := bA.c 6 rfl; have fa7 := bA.c 7 rfl; have fa8 := bA.c 8 rfl; have fa9 := bA.c 9 rfl; have fa10 := bA.c 10 rfl; go_wp2_with fail
            all_goals
             go_ret
             exact ⟨ret_bool (((if_neg (by omega)).trans ((if_neg (by omega)).trans ((if_neg (by rw [HG.out]; decide)).trans ((if_neg (by rw [HC.out]; decide)).trans ((if_pos rfl).trans ((if_neg (by omega)).trans ((if_neg (by rw [HA.out]; decide)).trans ((if_neg (by omega)).trans ((if_neg (by omega)).trans ((if_neg (by omega)).trans ((if_pos (by omega)).trans (rfl)))))))))))).symm), B0⟩
           ·by_cases s0 : 0 < (gs.length : Int) + cs.length
            ·have s1 : ¬ ((gs.length : Int) + cs.length ≤ 0) := by omega
             go_enter Tryz.func62, Tryz.ntmps62
             go_wp2_with fail; refine (spfx_t _ hg HG).mono ?_; rintro e w1 ⟨rfl, hb⟩; replace bA := bA.keep hb; replace hg := hg.keep hb; replace hc := hc.keep hb; replace hp := hp.keep hb; replace hm := hm.keep hb; replace B0 := below_step B0 hb; clear hb; have fa0 := bA.c 0 rfl; have fa1 := bA.c 1 rfl; have fa2 := bA.c 2 rfl; have fa3 := bA.c 3 rfl; have fa4 := bA.c 4 rfl; have fa5 := bA.c 5 rfl; have fa6 := bA.c 6 rfl; have fa7 := bA.c 7 rfl; have fa8 := bA.c 8 rfl; have fa9 := bA.c 9 rfl; have fa10 := bA.c 10 rfl; go_wp2_with fail; clear fa0 fa1 fa2 fa3 fa4 fa5 fa6 fa7 fa8 fa9 fa10; refine (spfx_t _ hc HC).mono ?_; rintro e w1 ⟨rfl, hb⟩; replace bA := bA.keep hb; replace hg := hg.keep hb; replace hc := hc.keep hb; replace hp := hp.keep hb; replace hm := hm.keep hb; replace B0 := below_step B0 hb; clear hb; have fa0 := bA.c 0 rfl; have fa1 := bA.c 1 rfl; have fa2 := bA.c 2 rfl; have fa3 := bA.c 3 rfl; have fa4 := bA.c 4 rfl; have fa5 := bA.c 5 rfl; have fa6 := bA.c 6 rfl; have fa7 := bA.c 7 rfl; have fa8 := bA.c 8 rfl; have fa9 := bA.c 9 rfl; have fa10 := bA.c 10 rfl; go_wp2_with fail; clear fa0 fa1 fa2 fa3 fa4 fa5 fa6 fa7 fa8 fa9 fa10; refine (sas_t _ HA).mono ?_; rintro e w1 ⟨rfl, rfl⟩; have fa0 := bA.c 0 rfl; have fa1 := bA.c 1 rfl; have fa2 := bA.c 2 rfl; have fa3 := bA.c 3 rfl; have fa4 := bA.c 4 rfl; have fa5 := bA.c 5 rfl; have fa6 := bA.c 6 rfl; have fa7 := bA.c 7 rfl; have fa8 := bA.c 8 rfl; have fa9 := bA.c 9 rfl; have fa10 := bA.c 10 rfl; go_wp2_with fail
             all_goals
              go_ret
              exact ⟨ret_bool (((if_neg (by omega)).trans ((if_neg (by omega)).trans ((if_neg (by rw [HG.out]; decide)).trans ((if_neg (by rw [HC.out]; decide)).trans ((if_pos rfl).trans ((if_neg (by omega)).trans ((if_neg (by rw [HA.out]; decide)).trans ((if_neg (by omega)).trans ((if_neg (by omega)).trans ((if_neg (by omega)).trans ((if_neg (by omega)).trans ((if_pos (by omega)).trans (rfl))))))))))))).symm), B0⟩
            ·have c1 : ((cs.length : Int) == 0) = true := beq_iff_eq.mpr (by omega)
             have c2 : ¬ (0 : Int) < cs.length := by omega
             by_cases z0 : zA ps ms pr bw = false
             ·have HZ := Lib.hid z0
              clear z0
              go_enter Tryz.func62, Tryz.ntmps62
              go_wp2_with fail; refine (spfx_t _ hg HG).mono ?_; rintro e w1 ⟨rfl, hb⟩; replace bA := bA.keep hb; replace hg := hg.keep hb; replace hc := hc.keep hb; replace hp := hp.keep hb; replace hm := hm.keep hb; replace B0 := below_step B0 hb; clear hb; have fa0 := bA.c 0 rfl; have fa1 := bA.c 1 rfl; have fa2 := bA.c 2 rfl; have fa3 := bA.c 3 rfl; have fa4 := bA.c 4 rfl; have fa5 := bA.c 5 rfl; have fa6 := bA.c 6 rfl; have fa7 := bA.c 7 rfl; have fa8 := bA.c 8 rfl; have fa9 := bA.c 9 rfl; have fa10 := bA.c 10 rfl; go_wp2_with fail; clear fa0 fa1 fa2 fa3 fa4 fa5 fa6 fa7 fa8 fa9 fa10; refine (spfx_t _ hc HC).mono ?_; rintro e w1 ⟨rfl, hb⟩; replace bA := bA.keep hb; replace hg := hg.keep hb; replace hc := hc.keep hb; replace hp := hp.keep hb; replace hm := hm.keep hb; replace B0 := below_step B0 hb; clear hb; have fa0 := bA.c 0 rfl; have fa1 := bA.c 1 rfl; have fa2 := bA.c 2 rfl; have fa3 := bA.c 3 rfl; have fa4 := bA.c 4 rfl; have fa5 := bA.c 5 rfl; have fa6 := bA.c 6 rfl; have fa7 := bA.c 7 rfl; have fa8 := bA.c 8 rfl; have fa9 := bA.c 9 rfl; have fa10 := bA.c 10 rfl; go_wp2_with fail; clear fa0 fa1 fa2 fa3 fa4 fa5 fa6 fa7 fa8 fa9 fa10; refine (sas_t _ HA).mono ?_; rintro e w1 ⟨rfl, rfl⟩; have fa0 := bA.c 0 rfl; have fa1 := bA.c 1 rfl; have fa2 := bA.c 2 rfl; have fa3 := bA.c 3 rfl; have fa4 := bA.c 4 rfl; have fa5 := bA.c 5 rfl; have fa6 := bA.c 6 rfl; have fa7 := bA.c 7 rfl; have fa8 := bA.c 8 rfl; have fa9 := bA.c 9 rfl; have fa10 := bA.c 10 rfl; go_wp2_with fail; clear fa0 fa1 fa2 fa3 fa4 fa5 fa6 fa7 fa8 fa9 fa10; refine (snoattr_t _ hpl hml HZ).mono ?_; rintro e w1 ⟨rfl, hb⟩; replace bA := bA.keep hb; replace hg := hg.keep hb; replace hc := hc.keep hb; replace hp := hp.keep hb; replace hm := hm.keep hb; replace B0 := below_step B0 hb; clear hb; have fa0 := bA.c 0 rfl; have fa1 := bA.c 1 rfl; have fa2 := bA.c 2 rfl; have fa3 := bA.c 3 rfl; have fa4 := bA.c 4 rfl; have fa5 := bA.c 5 rfl; have fa6 := bA.c 6 rfl; have fa7 := bA.c 7 rfl; have fa8 := bA.c 8 rfl; have fa9 := bA.c 9 rfl; have fa10 := bA.c 10 rfl; go_wp2_with fail
              all_goals
               go_ret
               exact ⟨ret_bool (((if_neg (by omega)).trans ((if_neg (by omega)).trans ((if_neg (by rw [HG.out]; decide)).trans ((if_neg (by rw [HC.out]; decide)).trans ((if_pos rfl).trans ((if_neg (by omega)).trans ((if_neg (by rw [HA.out]; decide)).trans ((if_neg (by omega)).trans ((if_neg (by omega)).trans ((if_neg (by omega)).trans ((if_neg (by omega)).trans ((if_neg (by omega)).trans ((if_pos HZ.out).trans (rfl)))))))))))))).symm), B0⟩
             ·have HZ : Hid (zA ps ms pr bw = true) := Lib.hid (by simpa using z0)
              clear z0
              by_cases e0 : er = 0
              ·subst e0
               go_enter Tryz.func62, Tryz.ntmps62
               go_wp2_with fail; refine (spfx_t _ hg HG).mono ?_; rintro e w1 ⟨rfl, hb⟩; replace bA := bA.keep hb; replace hg := hg.keep hb; replace hc := hc.keep hb; replace hp := hp.keep hb; replace hm := hm.keep hb; replace B0 := below_step B0 hb; clear hb; have fa0 := bA.c 0 rfl; have fa1 := bA.c 1 rfl; have fa2 := bA.c 2 rfl; have fa3 := bA.c 3 rfl; have fa4 := bA.c 4 rfl; have fa5 := bA.c 5 rfl; have fa6 := bA.c 6 rfl; have fa7 := bA.c 7 rfl; have fa8 := bA.c 8 rfl; have fa9 := bA.c 9 rfl; have fa10 := bA.c 10 rfl; go_wp2_with fail; clear fa0 fa1 fa2 fa3 fa4 fa5 fa6 fa7 fa8 fa9 fa10; refine (spfx_t _ hc HC).mono ?_; rintro e w1 ⟨rfl, hb⟩; replace bA := bA.keep hb; replace hg := hg.keep hb; replace hc := hc.keep hb; replace hp := hp.keep hb; replace hm := hm.keep hb; replace B0 := below_step B0 hb; clear hb; have fa0 := bA.c 0 rfl; have fa1 := bA.c 1 rfl; have fa2 := bA.c 2 rfl; have fa3 := bA.c 3 rfl; have fa4 := bA.c 4 rfl; have fa5 := bA.c 5 rfl; have fa6 := bA.c 6 rfl; have fa7 := bA.c 7 rfl; have fa8 := bA.c 8 rfl; have fa9 := bA.c 9 rfl; have fa10 := bA.c 10 rfl; go_wp2_with fail; clear fa0 fa1 fa2 fa3 fa4 fa5 fa6 fa7 fa8 fa9 fa10; refine (sas_t _ HA).mono ?_; rintro e w1 ⟨rfl, rfl⟩; have fa0 := bA.c 0 rfl; have fa1 := bA.c 1 rfl; have fa2 := bA.c 2 rfl; have fa3 := bA.c 3 rfl; have fa4 := bA.c 4 rfl; have fa5 := bA.c 5 rfl; have fa6 := bA.c 6 rfl; have fa7 := bA.c 7 rfl; have fa8 := bA.c 8 rfl; have fa9 := bA.c 9 rfl; have fa10 := bA.c 10 rfl; go_wp2_with fail; clear fa0 fa1 fa2 fa3 fa4 fa5 fa6 fa7 fa8 fa9 fa10; refine (snoattr_t _ hpl hml HZ).mono ?_; rintro e w1 ⟨rfl, hb⟩; replace bA := bA.keep hb; replace hg := hg.keep hb; replace hc := hc.keep hb; replace hp := hp.keep hb; replace hm := hm.keep hb; replace B0 := below_step B0 hb; clear hb; have fa0 := bA.c 0 rfl; have fa1 := bA.c 1 rfl; have fa2 := bA.c 2 rfl; have fa3 := bA.c 3 rfl; have fa4 := bA.c 4 rfl; have fa5 := bA.c 5 rfl; have fa6 := bA.c 6 rfl; have fa7 := bA.c 7 rfl; have fa8 := bA.c 8 rfl; have fa9 := bA.c 9 rfl; have fa10 := bA.c 10 rfl; go_wp2_with fail
               all_goals
                go_ret
                exact ⟨ret_bool (((if_neg (by omega)).trans ((if_neg (by omega)).trans ((if_neg (by rw [HG.out]; decide)).trans ((if_neg (by rw [HC.out]; decide)).trans ((if_pos rfl).trans ((if_neg (by omega)).trans ((if_neg (by rw [HA.out]; decide)).trans ((if_neg (by omega)).trans ((if_neg (by omega)).trans ((if_neg (by omega)).trans ((if_neg (by omega)).trans ((if_neg (by omega)).trans ((if_neg (by rw [HZ.out]; decide)).trans ((by simp))))))))))))))).symm), B0⟩
              ·have e1 : (er != 0) = true := by simp [e0]
               go_enter Tryz.func62, Tryz.ntmps62
               go_wp2_with fail; refine (spfx_t _ hg HG).mono ?_; rintro e w1 ⟨rfl, hb⟩; replace bA := bA.keep hb; replace hg := hg.keep hb; replace hc := hc.keep hb; replace hp := hp.keep hb; replace hm := hm.keep hb; replace B0 := below_step B0 hb; clear hb; have fa0 := bA.c 0 rfl; have fa1 := bA.c 1 rfl; have fa2 := bA.c 2 rfl; have fa3 := bA.c 3 rfl; have fa4 := bA.c 4 rfl; have fa5 := bA.c 5 rfl; have fa6 := bA.c 6 rfl; have fa7 := bA.c 7 rfl; have fa8 := bA.c 8 rfl; have fa9 := bA.c 9 rfl; have fa10 := bA.c 10 rfl; go_wp2_with fail; clear fa0 fa1 fa2 fa3 fa4 fa5 fa6 fa7 fa8 fa9 fa10; refine (spfx_t _ hc HC).mono ?_; rintro e w1 ⟨rfl, hb⟩; replace bA := bA.keep hb; replace hg := hg.keep hb; replace hc := hc.keep hb; replace hp := hp.keep hb; replace hm := hm.keep hb; replace B0 := below_step B0 hb; clear hb; have fa0 := bA.c 0 rfl; have fa1 := bA.c 1 rfl; have fa2 := bA.c 2 rfl; have fa3 := bA.c 3 rfl; have fa4 := bA.c 4 rfl; have fa5 := bA.c 5 rfl; have fa6 := bA.c 6 rfl; have fa7 := bA.c 7 rfl; have fa8 := bA.c 8 rfl; have fa9 := bA.c 9 rfl; have fa10 := bA.c 10 rfl; go_wp2_with fail; clear fa0 fa1 fa2 fa3 fa4 fa5 fa6 fa7 fa8 fa9 fa10; refine (sas_t _ HA).mono ?_; rintro e w1 ⟨rfl, rfl⟩; have fa0 := bA.c 0 rfl; have fa1 := bA.c 1 rfl; have fa2 := bA.c 2 rfl; have fa3 := bA.c 3 rfl; have fa4 := bA.c 4 rfl; have fa5 := bA.c 5 rfl; have fa6 := bA.c 6 rfl; have fa7 := bA.c 7 rfl; have fa8 := bA.c 8 rfl; have fa9 := bA.c 9 rfl; have fa10 := bA.c 10 rfl; go_wp2_with fail; clear fa0 fa1 fa2 fa3 fa4 fa5 fa6 fa7 fa8 fa9 fa10; refine (snoattr_t _ hpl hml HZ).mono ?_; rintro e w1 ⟨rfl, hb⟩; replace bA := bA.keep hb; replace hg := hg.keep hb; replace hc := hc.keep hb; replace hp := hp.keep hb; replace hm := hm.keep hb; replace B0 := below_step B0 hb; clear hb; have fa0 := bA.c 0 rfl; have fa1 := bA.c 1 rfl; have fa2 := bA.c 2 rfl; have fa3 := bA.c 3 rfl; have fa4 := bA.c 4 rfl; have fa5 := bA.c 5 rfl; have fa6 := bA.c 6 rfl; have fa7 := bA.c 7 rfl; have fa8 := bA.c 8 rfl; have fa9 := bA.c 9 rfl; have fa10 := bA.c 10 rfl; go_wp2_with fail
               all_goals
                go_ret
                exact ⟨ret_bool (((if_neg (by omega)).trans ((if_neg (by omega)).trans ((if_neg (by rw [HG.out]; decide)).trans ((if_neg (by rw [HC.out]; decide)).trans ((if_pos rfl).trans ((if_neg (by omega)).trans ((if_neg (by rw [HA.out]; decide)).trans ((if_neg (by omega)).trans ((if_neg (by omega)).trans ((if_neg (by omega)).trans ((if_neg (by omega)).trans ((if_neg (by omega)).trans ((if_neg (by rw [HZ.out]; decide)).trans ((by simp [e0]))))))))))))))).symm), B0⟩
     ·have kb : (kn == 1) = false := by simp [k1]
      by_cases a0 : ¬ sa = 0
      ·have s2 : (sa != 0) = true := by simp [a0]
       go_enter Tryz.func62, Tryz.ntmps62
       go_wp2_with fail; refine (spfx_t _ hg HG).mono ?_; rintro e w1 ⟨rfl, hb⟩; replace bA := bA.keep hb; replace hg := hg.keep hb; replace hc := hc.keep hb; replace hp := hp.keep hb; replace hm := hm.keep hb; replace B0 := below_step B0 hb; clear hb; have fa0 := bA.c 0 rfl; have fa1 := bA.c 1 rfl; have fa2 := bA.c 2 rfl; have fa3 := bA.c 3 rfl; have fa4 := bA.c 4 rfl; have fa5 := bA.c 5 rfl; have fa6 := bA.c 6 rfl; have fa7 := bA.c 7 rfl; have fa8 := bA.c 8 rfl; have fa9 := bA.c 9 rfl; have fa10 := bA.c 10 rfl; go_wp2_with fail; clear fa0 fa1 fa2 fa3 fa4 fa5 fa6 fa7 fa8 fa9 fa10; refine (spfx_t _ hc HC).mono ?_; rintro e w1 ⟨rfl, hb⟩; replace bA := bA.keep hb; replace hg := hg.keep hb; replace hc := hc.keep hb; replace hp := hp.keep hb; replace hm := hm.keep hb; replace B0 := below_step B0 hb; clear hb; have fa0 := bA.c 0 rfl; have fa1 := bA.c 1 rfl; have fa2 := bA.c 2 rfl; have fa3 := bA.c 3 rfl; have fa4 := bA.c 4 rfl; have fa5 := bA.c 5 rfl; have fa6 := bA.c 6 rfl; have fa7 := bA.c 7 rfl; have fa8 := bA.c 8 rfl; have fa9 := bA.c 9 rfl; have fa10 := bA.c 10 rfl; go_wp2_with fail
       all_goals
        go_ret
        exact ⟨ret_bool (((if_neg (by omega)).trans ((if_neg (by omega)).trans ((if_neg (by rw [HG.out]; decide)).trans ((if_neg (by rw [HC.out]; decide)).trans ((if_neg (by omega)).trans ((if_pos (by omega)).trans (rfl))))))).symm), B0⟩
      ·obtain rfl : sa = 0 := Classical.not_not.mp a0
       clear a0
       by_cases a1 : ¬ ho = 0
       ·have s2 : (ho != 0) = true := by simp [a1]
        go_enter Tryz.func62, Tryz.ntmps62
        go_wp2_with fail; refine (spfx_t _ hg HG).mono ?_; rintro e w1 ⟨rfl, hb⟩; replace bA := bA.keep hb; replace hg := hg.keep hb; replace hc := hc.keep hb; replace hp := hp.keep hb; replace hm := hm.keep hb; replace B0 := below_step B0 hb; clear hb; have fa0 := bA.c 0 rfl; have fa1 := bA.c 1 rfl; have fa2 := bA.c 2 rfl; have fa3 := bA.c 3 rfl; have fa4 := bA.c 4 rfl; have fa5 := bA.c 5 rfl; have fa6 := bA.c 6 rfl; have fa7 := bA.c 7 rfl; have fa8 := bA.c 8 rfl; have fa9 := bA.c 9 rfl; have fa10 := bA.c 10 rfl; go_wp2_with fail; clear fa0 fa1 fa2 fa3 fa4 fa5 fa6 fa7 fa8 fa9 fa10; refine (spfx_t _ hc HC).mono ?_; rintro e w1 ⟨rfl, hb⟩; replace bA := bA.keep hb; replace hg := hg.keep hb; replace hc := hc.keep hb; replace hp := hp.keep hb; replace hm := hm.keep hb; replace B0 := below_step B0 hb; clear hb; have fa0 := bA.c 0 rfl; have fa1 := bA.c 1 rfl; have fa2 := bA.c 2 rfl; have fa3 := bA.c 3 rfl; have fa4 := bA.c 4 rfl; have fa5 := bA.c 5 rfl; have fa6 := bA.c 6 rfl; have fa7 := bA.c 7 rfl; have fa8 := bA.c 8 rfl; have fa9 := bA.c 9 rfl; have fa10 := bA.c 10 rfl; go_wp2_with fail
        all_goals
         go_ret
         exact ⟨ret_bool (((if_neg (by omega)).trans ((if_neg (by omega)).trans ((if_neg (by rw [HG.out]; decide)).trans ((if_neg (by rw [HC.out]; decide)).trans ((if_neg (by omega)).trans ((if_neg (not_not_intro rfl)).trans ((if_pos (by omega)).trans (rfl)))))))).symm), B0⟩
       ·obtain rfl : ho = 0 := Classical.not_not.mp a1
        clear a1
        by_cases a2 : ¬ ix = 0
        ·have s2 : (ix != 0) = true := by simp [a2]
         go_enter Tryz.func62, Tryz.ntmps62
         go_wp2_with fail; refine (spfx_t _ hg HG).mono ?_; rintro e w1 ⟨rfl, hb⟩; replace bA := bA.keep hb; replace hg := hg.keep hb; replace hc := hc.keep hb; replace hp := hp.keep hb; replace hm := hm.keep hb; replace B0 := below_step B0 hb; clear hb; have fa0 := bA.c 0 rfl; have fa1 := bA.c 1 rfl; have fa2 := bA.c 2 rfl; have fa3 := bA.c 3 rfl; have fa4 := bA.c 4 rfl; have fa5 := bA.c 5 rfl; have fa6 := bA.c 6 rfl; have fa7 := bA.c 7 rfl; have fa8 := bA.c 8 rfl; have fa9 := bA.c 9 rfl; have fa10 := bA.c 10 rfl; go_wp2_with fail; clear fa0 fa1 fa2 fa3 fa4 fa5 fa6 fa7 fa8 fa9 fa10; refine (spfx_t _ hc HC).mono ?_; rintro e w1 ⟨rfl, hb⟩; replace bA := bA.keep hb; replace hg := hg.keep hb; replace hc := hc.keep hb; replace hp := hp.keep hb; replace hm := hm.keep hb; replace B0 := below_step B0 hb; clear hb; have fa0 := bA.c 0 rfl; have fa1 := bA.c 1 rfl; have fa2 := bA.c 2 rfl; have fa3 := bA.c 3 rfl; have fa4 := bA.c 4 rfl; have fa5 := bA.c 5 rfl; have fa6 := bA.c 6 rfl; have fa7 := bA.c 7 rfl; have fa8 := bA.c 8 rfl; have fa9 := bA.c 9 rfl; have fa10 := bA.c 10 rfl; go_wp2_with fail
         all_goals
          go_ret
          exact ⟨ret_bool (((if_neg (by omega)).trans ((if_neg (by omega)).trans ((if_neg (by rw [HG.out]; decide)).trans ((if_neg (by rw [HC.out]; decide)).trans ((if_neg (by omega)).trans ((if_neg (not_not_intro rfl)).trans ((if_neg (not_not_intro rfl)).trans ((if_pos (by omega)).trans (rfl))))))))).symm), B0⟩
        ·obtain rfl : ix = 0 := Classical.not_not.mp a2
         clear a2
         by_cases k2 : kn = 2
         ·subst k2
          by_cases c0 : cs.length = 0
          ·have c1 : ((cs.length : Int) == 0) = true := beq_iff_eq.mpr (by omega)
           have c2 : ¬ (0 : Int) < cs.length := by omega
           have R0 := Lib.hid c0; clear c0
           by_cases z0 : zA ps ms pr bw = false
           ·have HZ := Lib.hid z0
            clear z0
            go_enter Tryz.func62, Tryz.ntmps62
            go_wp2_with fail; refine (spfx_t _ hg HG).mono ?_; rintro e w1 ⟨rfl, hb⟩; replace bA := bA.keep hb; replace hg := hg.keep hb; replace hc := hc.keep hb; replace hp := hp.keep hb; replace hm := hm.keep hb; replace B0 := below_step B0 hb; clear hb; have fa0 := bA.c 0 rfl; have fa1 := bA.c 1 rfl; have fa2 := bA.c 2 rfl; have fa3 := bA.c 3 rfl; have fa4 := bA.c 4 rfl; have fa5 := bA.c 5 rfl; have fa6 := bA.c 6 rfl; have fa7 := bA.c 7 rfl; have fa8 := bA.c 8 rfl; have fa9 := bA.c 9 rfl; have fa10 := bA.c 10 rfl; go_wp2_with fail; clear fa0 fa1 fa2 fa3 fa4 fa5 fa6 fa7 fa8 fa9 fa10; refine (spfx_t _ hc HC).mono ?_; rintro e w1 ⟨rfl, hb⟩; replace bA := bA.keep hb; replace hg := hg.keep hb; replace hc := hc.keep hb; replace hp := hp.keep hb; replace hm := hm.keep hb; replace B0 := below_step B0 hb; clear hb; have fa0 := bA.c 0 rfl; have fa1 := bA.c 1 rfl; have fa2 := bA.c 2 rfl; have fa3 := bA.c 3 rfl; have fa4 := bA.c 4 rfl; have fa5 := bA.c 5 rfl; have fa6 := bA.c 6 rfl; have fa7 := bA.c 7 rfl; have fa8 := bA.c 8 rfl; have fa9 := bA.c 9 rfl; have fa10 := bA.c 10 rfl; go_wp2_with fail; clear fa0 fa1 fa2 fa3 fa4 fa5 fa6 fa7 fa8 fa9 fa10; refine (snoattr_t _ hpl hml HZ).mono ?_; rintro e w1 ⟨rfl, hb⟩; replace bA := bA.keep hb; replace hg := hg.keep hb; replace hc := hc.keep hb; replace hp := hp.keep hb; replace hm := hm.keep hb; replace B0 := below_step B0 hb; clear hb; have fa0 := bA.c 0 rfl; have fa1 := bA.c 1 rfl; have fa2 := bA.c 2 rfl; have fa3 := bA.c 3 rfl; have fa4 := bA.c 4 rfl; have fa5 := bA.c 5 rfl; have fa6 := bA.c 6 rfl; have fa7 := bA.c 7 rfl; have fa8 := bA.c 8 rfl; have fa9 := bA.c 9 rfl; have fa10 := bA.c 10 rfl; go_wp2_with fail
            all_goals
             go_ret
             exact ⟨ret_bool (((if_neg (by omega)).trans ((if_neg (by omega)).trans ((if_neg (by rw [HG.out]; decide)).trans ((if_neg (by rw [HC.out]; decide)).trans ((if_neg (by omega)).trans ((if_neg (not_not_intro rfl)).trans ((if_neg (not_not_intro rfl)).trans ((if_neg (not_not_intro rfl)).trans ((if_pos rfl).trans ((if_pos R0.out).trans ((if_pos HZ.out).trans (rfl)))))))))))).symm), B0⟩
           ·have HZ : Hid (zA ps ms pr bw = true) := Lib.hid (by simpa using z0)
            clear z0
            by_cases e0 : er = 0
            ·subst e0
             go_enter Tryz.func62, Tryz.ntmps62
             go_wp2_with fail; refine (spfx_t _ hg HG).mono ?_; rintro e w1 ⟨rfl, hb⟩; replace bA := bA.keep hb; replace hg := hg.keep hb; replace hc := hc.keep hb; replace hp := hp.keep hb; replace hm := hm.keep hb; replace B0 := below_step B0 hb; clear hb; have fa0 := bA.c 0 rfl; have fa1 := bA.c 1 rfl; have fa2 := bA.c 2 rfl; have fa3 := bA.c 3 rfl; have fa4 := bA.c 4 rfl; have fa5 := bA.c 5 rfl; have fa6 := bA.c 6 rfl; have fa7 := bA.c 7 rfl; have fa8 := bA.c 8 rfl; have fa9 := bA.c 9 rfl; have fa10 := bA.c 10 rfl; go_wp2_with fail; clear fa0 fa1 fa2 fa3 fa4 fa5 fa6 fa7 fa8 fa9 fa10; refine (spfx_t _ hc HC).mono ?_; rintro e w1 ⟨rfl, hb⟩; replace bA := bA.keep hb; replace hg := hg.keep hb; replace hc := hc.keep hb; replace hp := hp.keep hb; replace hm := hm.keep hb; replace B0 := below_step B0 hb; clear hb; have fa0 := bA.c 0 rfl; have fa1 := bA.c 1 rfl; have fa2 := bA.c 2 rfl; have fa3 := bA.c 3 rfl; have fa4 := bA.c 4 rfl; have fa5 := bA.c 5 rfl; have fa6 := bA.c 6 rfl; have fa7 := bA.c 7 rfl; have fa8 := bA.c 8 rfl; have fa9 := bA.c 9 rfl; have fa10 := bA.c 10 rfl; go_wp2_with fail; clear fa0 fa1 fa2 fa3 fa4 fa5 fa6 fa7 fa8 fa9 fa10; refine (snoattr_t _ hpl hml HZ).mono ?_; rintro e w1 ⟨rfl, hb⟩; replace bA := bA.keep hb; replace hg := hg.keep hb; replace hc := hc.keep hb; replace hp := hp.keep hb; replace hm := hm.keep hb; replace B0 := below_step B0 hb; clear hb; have fa0 := bA.c 0 rfl; have fa1 := bA.c 1 rfl; have fa2 := bA.c 2 rfl; have fa3 := bA.c 3 rfl; have fa4 := bA.c 4 rfl; have fa5 := bA.c 5 rfl; have fa6 := bA.c 6 rfl; have fa7 := bA.c 7 rfl; have fa8 := bA.c 8 rfl; have fa9 := bA.c 9 rfl; have fa10 := bA.c 10 rfl; go_wp2_with fail
             all_goals
              go_ret
              exact ⟨ret_bool (((if_neg (by omega)).trans ((if_neg (by omega)).trans ((if_neg (by rw [HG.out]; decide)).trans ((if_neg (by rw [HC.out]; decide)).trans ((if_neg (by omega)).trans ((if_neg (not_not_intro rfl)).trans ((if_neg (not_not_intro rfl)).trans ((if_neg (not_not_intro rfl)).trans ((if_pos rfl).trans ((if_pos R0.out).trans ((if_neg (by rw [HZ.out]; decide)).trans ((by simp))))))))))))).symm), B0⟩
            ·have e1 : (er != 0) = true := by simp [e0]
             go_enter Tryz.func62, Tryz.ntmps62
             go_wp2_with fail; refine (spfx_t _ hg HG).mono ?_; rintro e w1 ⟨rfl, hb⟩; replace bA := bA.keep hb; replace hg := hg.keep hb; replace hc := hc.keep hb; replace hp := hp.keep hb; replace hm := hm.keep hb; replace B0 := below_step B0 hb; clear hb; have fa0 := bA.c 0 rfl; have fa1 := bA.c 1 rfl; have fa2 := bA.c 2 rfl; have fa3 := bA.c 3 rfl; have fa4 := bA.c 4 rfl; have fa5 := bA.c 5 rfl; have fa6 := bA.c 6 rfl; have fa7 := bA.c 7 rfl; have fa8 := bA.c 8 rfl; have fa9 := bA.c 9 rfl; have fa10 := bA.c 10 rfl; go_wp2_with fail; clear fa0 fa1 fa2 fa3 fa4 fa5 fa6 fa7 fa8 fa9 fa10; refine (spfx_t _ hc HC).mono ?_; rintro e w1 ⟨rfl, hb⟩; replace bA := bA.keep hb; replace hg := hg.keep hb; replace hc := hc.keep hb; replace hp := hp.keep hb; replace hm := hm.keep hb; replace B0 := below_step B0 hb; clear hb; have fa0 := bA.c 0 rfl; have fa1 := bA.c 1 rfl; have fa2 := bA.c 2 rfl; have fa3 := bA.c 3 rfl; have fa4 := bA.c 4 rfl; have fa5 := bA.c 5 rfl; have fa6 := bA.c 6 rfl; have fa7 := bA.c 7 rfl; have fa8 := bA.c 8 rfl; have fa9 := bA.c 9 rfl; have fa10 := bA.c 10 rfl; go_wp2_with fail; clear fa0 fa1 fa2 fa3 fa4 fa5 fa6 fa7 fa8 fa9 fa10; refine (snoattr_t _ hpl hml HZ).mono ?_; rintro e w1 ⟨rfl, hb⟩; replace bA := bA.keep hb; replace hg := hg.keep hb; replace hc := hc.keep hb; replace hp := hp.keep hb; replace hm := hm.keep hb; replace B0 := below_step B0 hb; clear hb; have fa0 := bA.c 0 rfl; have fa1 := bA.c 1 rfl; have fa2 := bA.c 2 rfl; have fa3 := bA.c 3 rfl; have fa4 := bA.c 4 rfl; have fa5 := bA.c 5 rfl; have fa6 := bA.c 6 rfl; have fa7 := bA.c 7 rfl; have fa8 := bA.c 8 rfl; have fa9 := bA.c 9 rfl; have fa10 := bA.c 10 rfl; go_wp2_with fail
             all_goals
              go_ret
              exact ⟨ret_bool (((if_neg (by omega)).trans ((if_neg (by omega)).trans ((if_neg (by rw [HG.out]; decide)).trans ((if_neg (by rw [HC.out]; decide)).trans ((if_neg (by omega)).trans ((if_neg (not_not_intro rfl)).trans ((if_neg (not_not_intro rfl)).trans ((if_neg (not_not_intro rfl)).trans ((if_pos rfl).trans ((if_pos R0.out).trans ((if_neg (by rw [HZ.out]; decide)).trans ((by simp [e0]))))))))))))).symm), B0⟩
          ·have c1 : ((cs.length : Int) == 0) = false := beq_eq_false_iff_ne.mpr (by omega)
           have c2 : (0 : Int) < cs.length := by omega
           have R0 := Lib.hid c0; clear c0
           by_cases o0 : aokB ps pr ms bw = false
           ·have HO := Lib.hid o0
            clear o0
            go_enter Tryz.func62, Tryz.ntmps62
            go_wp2_with fail; refine (spfx_t _ hg HG).mono ?_; rintro e w1 ⟨rfl, hb⟩; replace bA := bA.keep hb; replace hg := hg.keep hb; replace hc := hc.keep hb; replace hp := hp.keep hb; replace hm := hm.keep hb; replace B0 := below_step B0 hb; clear hb; have fa0 := bA.c 0 rfl; have fa1 := bA.c 1 rfl; have fa2 := bA.c 2 rfl; have fa3 := bA.c 3 rfl; have fa4 := bA.c 4 rfl; have fa5 := bA.c 5 rfl; have fa6 := bA.c 6 rfl; have fa7 := bA.c 7 rfl; have fa8 := bA.c 8 rfl; have fa9 := bA.c 9 rfl; have fa10 := bA.c 10 rfl; go_wp2_with fail; clear fa0 fa1 fa2 fa3 fa4 fa5 fa6 fa7 fa8 fa9 fa10; refine (spfx_t _ hc HC).mono ?_; rintro e w1 ⟨rfl, hb⟩; replace bA := bA.keep hb; replace hg := hg.keep hb; replace hc := hc.keep hb; replace hp := hp.keep hb; replace hm := hm.keep hb; replace B0 := below_step B0 hb; clear hb; have fa0 := bA.c 0 rfl; have fa1 := bA.c 1 rfl; have fa2 := bA.c 2 rfl; have fa3 := bA.c 3 rfl; have fa4 := bA.c 4 rfl; have fa5 := bA.c 5 rfl; have fa6 := bA.c 6 rfl; have fa7 := bA.c 7 rfl; have fa8 := bA.c 8 rfl; have fa9 := bA.c 9 rfl; have fa10 := bA.c 10 rfl; go_wp2_with fail; clear fa0 fa1 fa2 fa3 fa4 fa5 fa6 fa7 fa8 fa9 fa10; refine (saokN_t _ hp hm HO).mono ?_; rintro e w1 ⟨rfl, hb⟩; replace bA := bA.keep hb; replace hg := hg.keep hb; replace hc := hc.keep hb; replace hp := hp.keep hb; replace hm := hm.keep hb; replace B0 := below_step B0 hb; clear hb; have fa0 := bA.c 0 rfl; have fa1 := bA.c 1 rfl; have fa2 := bA.c 2 rfl; have fa3 := bA.c 3 rfl; have fa4 := bA.c 4 rfl; have fa5 := bA.c 5 rfl; have fa6 := bA.c 6 rfl; have fa7 := bA.c 7 rfl; have fa8 := bA.c 8 rfl; have fa9 := bA.c 9 rfl; have fa10 := bA.c 10 rfl; go_wp2_with fail
            all_goals
             go_ret
             exact ⟨ret_bool (((if_neg (by omega)).trans ((if_neg (by omega)).trans ((if_neg (by rw [HG.out]; decide)).trans ((if_neg (by rw [HC.out]; decide)).trans ((if_neg (by omega)).trans ((if_neg (not_not_intro rfl)).trans ((if_neg (not_not_intro rfl)).trans ((if_neg (not_not_intro rfl)).trans ((if_pos rfl).trans ((if_neg R0.out).trans ((if_pos HO.out).trans (rfl)))))))))))).symm), B0⟩
           ·have HO : Hid (aokB ps pr ms bw = true) := Lib.hid (by simpa using o0)
            clear o0
            by_cases p0 : ps.length = 0
            ·have p1 : ((ps.length : Int) == 0) = true := beq_iff_eq.mpr (by omega)
             have Q0 := Lib.hid p0; clear p0
             go_enter Tryz.func62, Tryz.ntmps62
             go_wp2_with fail; refine (spfx_t _ hg HG).mono ?_; rintro e w1 ⟨rfl, hb⟩; replace bA := bA.keep hb; replace hg := hg.keep hb; replace hc := hc.keep hb; replace hp := hp.keep hb; replace hm := hm.keep hb; replace B0 := below_step B0 hb; clear hb; have fa0 := bA.c 0 rfl; have fa1 := bA.c 1 rfl; have fa2 := bA.c 2 rfl; have fa3 := bA.c 3 rfl; have fa4 := bA.c 4 rfl; have fa5 := bA.c 5 rfl; have fa6 := bA.c 6 rfl; have fa7 := bA.c 7 rfl; have fa8 := bA.c 8 rfl; have fa9 := bA.c 9 rfl; have fa10 := bA.c 10 rfl; go_wp2_with fail; clear fa0 fa1 fa2 fa3 fa4 fa5 fa6 fa7 fa8 fa9 fa10; refine (spfx_t _ hc HC).mono ?_; rintro e w1 ⟨rfl, hb⟩; replace bA := bA.keep hb; replace hg := hg.keep hb; replace hc := hc.keep hb; replace hp := hp.keep hb; replace hm := hm.keep hb; replace B0 := below_step B0 hb; clear hb; have fa0 := bA.c 0 rfl; have fa1 := bA.c 1 rfl; have fa2 := bA.c 2 rfl; have fa3 := bA.c 3 rfl; have fa4 := bA.c 4 rfl; have fa5 := bA.c 5 rfl; have fa6 := bA.c 6 rfl; have fa7 := bA.c 7 rfl; have fa8 := bA.c 8 rfl; have fa9 := bA.c 9 rfl; have fa10 := bA.c 10 rfl; go_wp2_with fail; clear fa0 fa1 fa2 fa3 fa4 fa5 fa6 fa7 fa8 fa9 fa10; refine (saokN_t _ hp hm HO).mono ?_; rintro e w1 ⟨rfl, hb⟩; replace bA := bA.keep hb; replace hg := hg.keep hb; replace hc := hc.keep hb; replace hp := hp.keep hb; replace hm := hm.keep hb; replace B0 := below_step B0 hb; clear hb; have fa0 := bA.c 0 rfl; have fa1 := bA.c 1 rfl; have fa2 := bA.c 2 rfl; have fa3 := bA.c 3 rfl; have fa4 := bA.c 4 rfl; have fa5 := bA.c 5 rfl; have fa6 := bA.c 6 rfl; have fa7 := bA.c 7 rfl; have fa8 := bA.c 8 rfl; have fa9 := bA.c 9 rfl; have fa10 := bA.c 10 rfl; go_wp2_with fail
             all_goals
              go_ret
              exact ⟨ret_bool (((if_neg (by omega)).trans ((if_neg (by omega)).trans ((if_neg (by rw [HG.out]; decide)).trans ((if_neg (by rw [HC.out]; decide)).trans ((if_neg (by omega)).trans ((if_neg (not_not_intro rfl)).trans ((if_neg (not_not_intro rfl)).trans ((if_neg (not_not_intro rfl)).trans ((if_pos rfl).trans ((if_neg R0.out).trans ((if_neg (by rw [HO.out]; decide)).trans ((if_pos Q0.out).trans (rfl))))))))))))).symm), B0⟩
            ·have p1 : ((ps.length : Int) == 0) = false := beq_eq_false_iff_ne.mpr (by omega)
             have Q0 := Lib.hid p0; clear p0
             by_cases e0 : er = 0
             ·subst e0
              go_enter Tryz.func62, Tryz.ntmps62
              go_wp2_with fail; refine (spfx_t _ hg HG).mono ?_; rintro e w1 ⟨rfl, hb⟩; replace bA := bA.keep hb; replace hg := hg.keep hb; replace hc := hc.keep hb; replace hp := hp.keep hb; replace hm := hm.keep hb; replace B0 := below_step B0 hb; clear hb; have fa0 := bA.c 0 rfl; have fa1 := bA.c 1 rfl; have fa2 := bA.c 2 rfl; have fa3 := bA.c 3 rfl; have fa4 := bA.c 4 rfl; have fa5 := bA.c 5 rfl; have fa6 := bA.c 6 rfl; have fa7 := bA.c 7 rfl; have fa8 := bA.c 8 rfl; have fa9 := bA.c 9 rfl; have fa10 := bA.c 10 rfl; go_wp2_with fail; clear fa0 fa1 fa2 fa3 fa4 fa5 fa6 fa7 fa8 fa9 fa10; refine (spfx_t _ hc HC).mono ?_; rintro e w1 ⟨rfl, hb⟩; replace bA := bA.keep hb; replace hg := hg.keep hb; replace hc := hc.keep hb; replace hp := hp.keep hb; replace hm := hm.keep hb; replace B0 := below_step B0 hb; clear hb; have fa0 := bA.c 0 rfl; have fa1 := bA.c 1 rfl; have fa2 := bA.c 2 rfl; have fa3 := bA.c 3 rfl; have fa4 := bA.c 4 rfl; have fa5 := bA.c 5 rfl; have fa6 := bA.c 6 rfl; have fa7 := bA.c 7 rfl; have fa8 := bA.c 8 rfl; have fa9 := bA.c 9 rfl; have fa10 := bA.c 10 rfl; go_wp2_with fail; clear fa0 fa1 fa2 fa3 fa4 fa5 fa6 fa7 fa8 fa9 fa10; refine (saokN_t _ hp hm HO).mono ?_; rintro e w1 ⟨rfl, hb⟩; replace bA := bA.keep hb; replace hg := hg.keep hb; replace hc := hc.keep hb; replace hp := hp.keep hb; replace hm := hm.keep hb; replace B0 := below_step B0 hb; clear hb; have fa0 := bA.c 0 rfl; have fa1 := bA.c 1 rfl; have fa2 := bA.c 2 rfl; have fa3 := bA.c 3 rfl; have fa4 := bA.c 4 rfl; have fa5 := bA.c 5 rfl; have fa6 := bA.c 6 rfl; have fa7 := bA.c 7 rfl; have fa8 := bA.c 8 rfl; have fa9 := bA.c 9 rfl; have fa10 := bA.c 10 rfl; go_wp2_with fail
              all_goals
               go_ret
               exact ⟨ret_bool (((if_neg (by omega)).trans ((if_neg (by omega)).trans ((if_neg (by rw [HG.out]; decide)).trans ((if_neg (by rw [HC.out]; decide)).trans ((if_neg (by omega)).trans ((if_neg (not_not_intro rfl)).trans ((if_neg (not_not_intro rfl)).trans ((if_neg (not_not_intro rfl)).trans ((if_pos rfl).trans ((if_neg R0.out).trans ((if_neg (by rw [HO.out]; decide)).trans ((if_neg Q0.out).trans ((by simp)))))))))))))).symm), B0⟩
             ·have e1 : (er != 0) = true := by simp [e0]
              go_enter Tryz.func62, Tryz.ntmps62
              go_wp2_with fail; refine (spfx_t _ hg HG).mono ?_; rintro e w1 ⟨rfl, hb⟩; replace bA := bA.keep hb; replace hg := hg.keep hb; replace hc := hc.keep hb; replace hp := hp.keep hb; replace hm := hm.keep hb; replace B0 := below_step B0 hb; clear hb; have fa0 := bA.c 0 rfl; have fa1 := bA.c 1 rfl; have fa2 := bA.c 2 rfl; have fa3 := bA.c 3 rfl; have fa4 := bA.c 4 rfl; have fa5 := bA.c 5 rfl; have fa6 := bA.c 6 rfl; have fa7 := bA.c 7 rfl; have fa8 := bA.c 8 rfl; have fa9 := bA.c 9 rfl; have fa10 := bA.c 10 rfl; go_wp2_with fail; clear fa0 fa1 fa2 fa3 fa4 fa5 fa6 fa7 fa8 fa9 fa10; refine (spfx_t _ hc HC).mono ?_; rintro e w1 ⟨rfl, hb⟩; replace bA := bA.keep hb; replace hg := hg.keep hb; replace hc := hc.keep hb; replace hp := hp.keep hb; replace hm := hm.keep hb; replace B0 := below_step B0 hb; clear hb; have fa0 := bA.c 0 rfl; have fa1 := bA.c 1 rfl; have fa2 := bA.c 2 rfl; have fa3 := bA.c 3 rfl; have fa4 := bA.c 4 rfl; have fa5 := bA.c 5 rfl; have fa6 := bA.c 6 rfl; have fa7 := bA.c 7 rfl; have fa8 := bA.c 8 rfl; have fa9 := bA.c 9 rfl; have fa10 := bA.c 10 rfl; go_wp2_with fail; clear fa0 fa1 fa2 fa3 fa4 fa5 fa6 fa7 fa8 fa9 fa10; refine (saokN_t _ hp hm HO).mono ?_; rintro e w1 ⟨rfl, hb⟩; replace bA := bA.keep hb; replace hg := hg.keep hb; replace hc := hc.keep hb; replace hp := hp.keep hb; replace hm := hm.keep hb; replace B0 := below_step B0 hb; clear hb; have fa0 := bA.c 0 rfl; have fa1 := bA.c 1 rfl; have fa2 := bA.c 2 rfl; have fa3 := bA.c 3 rfl; have fa4 := bA.c 4 rfl; have fa5 := bA.c 5 rfl; have fa6 := bA.c 6 rfl; have fa7 := bA.c 7 rfl; have fa8 := bA.c 8 rfl; have fa9 := bA.c 9 rfl; have fa10 := bA.c 10 rfl; go_wp2_with fail
              all_goals
               go_ret
               exact ⟨ret_bool (((if_neg (by omega)).trans ((if_neg (by omega)).trans ((if_neg (by rw [HG.out]; decide)).trans ((if_neg (by rw [HC.out]; decide)).trans ((if_neg (by omega)).trans ((if_neg (not_not_intro rfl)).trans ((if_neg (not_not_intro rfl)).trans ((if_neg (not_not_intro rfl)).trans ((if_pos rfl).trans ((if_neg R0.out).trans ((if_neg (by rw [HO.out]; decide)).trans ((if_neg Q0.out).trans ((by simp [e0])))))))))))))).symm), B0⟩
         ·have kc : (kn != 2) = true := by simp [k2]
          by_cases k3 : kn = 3
          ·subst k3
           by_cases s0 : 0 < (gs.length : Int) + cs.length
           ·have s1 : ¬ ((gs.length : Int) + cs.length ≤ 0) := by omega
            go_enter Tryz.func62, Tryz.ntmps62
            go_wp2_with fail; refine (spfx_t _ hg HG).mono ?_; rintro e w1 ⟨rfl, hb⟩; replace bA := bA.keep hb; replace hg := hg.keep hb; replace hc := hc.keep hb; replace hp := hp.keep hb; replace hm := hm.keep hb; replace B0 := below_step B0 hb; clear hb; have fa0 := bA.c 0 rfl; have fa1 := bA.c 1 rfl; have fa2 := bA.c 2 rfl; have fa3 := bA.c 3 rfl; have fa4 := bA.c 4 rfl; have fa5 := bA.c 5 rfl; have fa6 := bA.c 6 rfl; have fa7 := bA.c 7 rfl; have fa8 := bA.c 8 rfl; have fa9 := bA.c 9 rfl; have fa10 := bA.c 10 rfl; go_wp2_with fail; clear fa0 fa1 fa2 fa3 fa4 fa5 fa6 fa7 fa8 fa9 fa10; refine (spfx_t _ hc HC).mono ?_; rintro e w1 ⟨rfl, hb⟩; replace bA := bA.keep hb; replace hg := hg.keep hb; replace hc := hc.keep hb; replace hp := hp.keep hb; replace hm := hm.keep hb; replace B0 := below_step B0 hb; clear hb; have fa0 := bA.c 0 rfl; have fa1 := bA.c 1 rfl; have fa2 := bA.c 2 rfl; have fa3 := bA.c 3 rfl; have fa4 := bA.c 4 rfl; have fa5 := bA.c 5 rfl; have fa6 := bA.c 6 rfl; have fa7 := bA.c 7 rfl; have fa8 := bA.c 8 rfl; have fa9 := bA.c 9 rfl; have fa10 := bA.c 10 rfl; go_wp2_with fail
            all_goals
             go_ret
             exact ⟨ret_bool (((if_neg (by omega)).trans ((if_neg (by omega)).trans ((if_neg (by rw [HG.out]; decide)).trans ((if_neg (by rw [HC.out]; decide)).trans ((if_neg (by omega)).trans ((if_neg (not_not_intro rfl)).trans ((if_neg (not_not_intro rfl)).trans ((if_neg (not_not_intro rfl)).trans ((if_neg (by omega)).trans ((if_pos (by omega)).trans (rfl))))))))))).symm), B0⟩
           ·have c1 : ((cs.length : Int) == 0) = true := beq_iff_eq.mpr (by omega)
            have c2 : ¬ (0 : Int) < cs.length := by omega
            by_cases z0 : zA ps ms pr bw = false
            ·have HZ := Lib.hid z0
             clear z0
             go_enter Tryz.func62, Tryz.ntmps62
             go_wp2_with fail; refine (spfx_t _ hg HG).mono ?_; rintro e w1 ⟨rfl, hb⟩; replace bA := bA.keep hb; replace hg := hg.keep hb; replace hc := hc.keep hb; replace hp := hp.keep hb; replace hm := hm.keep hb; replace B0 := below_step B0 hb; clear hb; have fa0 := bA.c 0 rfl; have fa1 := bA.c 1 rfl; have fa2 := bA.c 2 rfl; have fa3 := bA.c 3 rfl; have fa4 := bA.c 4 rfl; have fa5 := bA.c 5 rfl; have fa6 := bA.c 6 rfl; have fa7 := bA.c 7 rfl; have fa8 := bA.c 8 rfl; have fa9 := bA.c 9 rfl; have fa10 := bA.c 10 rfl; go_wp2_with fail; clear fa0 fa1 fa2 fa3 fa4 fa5 fa6 fa7 fa8 fa9 fa10; refine (spfx_t _ hc HC).mono ?_; rintro e w1 ⟨rfl, hb⟩; replace bA := bA.keep hb; replace hg := hg.keep hb; replace hc := hc.keep hb; replace hp := hp.keep hb; replace hm := hm.keep hb; replace B0 := below_step B0 hb; clear hb; have fa0 := bA.c 0 rfl; have fa1 := bA.c 1 rfl; have fa2 := bA.c 2 rfl; have fa3 := bA.c 3 rfl; have fa4 := bA.c 4 rfl; have fa5 := bA.c 5 rfl; have fa6 := bA.c 6 rfl; have fa7 := bA.c 7 rfl; have fa8 := bA.c 8 rfl; have fa9 := bA.c 9 rfl; have fa10 := bA.c 10 rfl; go_wp2_with fail; clear fa0 fa1 fa2 fa3 fa4 fa5 fa6 fa7 fa8 fa9 fa10; refine (snoattr_t _ hpl hml HZ).mono ?_; rintro e w1 ⟨rfl, hb⟩; replace bA := bA.keep hb; replace hg := hg.keep hb; replace hc := hc.keep hb; replace hp := hp.keep hb; replace hm := hm.keep hb; replace B0 := below_step B0 hb; clear hb; have fa0 := bA.c 0 rfl; have fa1 := bA.c 1 rfl; have fa2 := bA.c 2 rfl; have fa3 := bA.c 3 rfl; have fa4 := bA.c 4 rfl; have fa5 := bA.c 5 rfl; have fa6 := bA.c 6 rfl; have fa7 := bA.c 7 rfl; have fa8 := bA.c 8 rfl; have fa9 := bA.c 9 rfl; have fa10 := bA.c 10 rfl; go_wp2_with fail
             all_goals
              go_ret
              exact ⟨ret_bool (((if_neg (by omega)).trans ((if_neg (by omega)).trans ((if_neg (by rw [HG.out]; decide)).trans ((if_neg (by rw [HC.out]; decide)).trans ((if_neg (by omega)).trans ((if_neg (not_not_intro rfl)).trans ((if_neg (not_not_intro rfl)).trans ((if_neg (not_not_intro rfl)).trans ((if_neg (by omega)).trans ((if_neg (by omega)).trans ((if_pos HZ.out).trans (rfl)))))))))))).symm), B0⟩
            ·have HZ : Hid (zA ps ms pr bw = true) := Lib.hid (by simpa using z0)
             clear z0
             by_cases e0 : er = 0
             ·subst e0
              go_enter Tryz.func62, Tryz.ntmps62
              go_wp2_with fail; refine (spfx_t _ hg HG).mono ?_; rintro e w1 ⟨rfl, hb⟩; replace bA := bA.keep hb; replace hg := hg.keep hb; replace hc := hc.keep hb; replace hp := hp.keep hb; replace hm := hm.keep hb; replace B0 := below_step B0 hb; clear hb; have fa0 := bA.c 0 rfl; have fa1 := bA.c 1 rfl; have fa2 := bA.c 2 rfl; have fa3 := bA.c 3 rfl; have fa4 := bA.c 4 rfl; have fa5 := bA.c 5 rfl; have fa6 := bA.c 6 rfl; have fa7 := bA.c 7 rfl; have fa8 := bA.c 8 rfl; have fa9 := bA.c 9 rfl; have fa10 := bA.c 10 rfl; go_wp2_with fail; clear fa0 fa1 fa2 fa3 fa4 fa5 fa6 fa7 fa8 fa9 fa10; refine (spfx_t _ hc HC).mono ?_; rintro e w1 ⟨rfl, hb⟩; replace bA := bA.keep hb; replace hg := hg.keep hb; replace hc := hc.keep hb; replace hp := hp.keep hb; replace hm := hm.keep hb; replace B0 := below_step B0 hb; clear hb; have fa0 := bA.c 0 rfl; have fa1 := bA.c 1 rfl; have fa2 := bA.c 2 rfl; have fa3 := bA.c 3 rfl; have fa4 := bA.c 4 rfl; have fa5 := bA.c 5 rfl; have fa6 := bA.c 6 rfl; have fa7 := bA.c 7 rfl; have fa8 := bA.c 8 rfl; have fa9 := bA.c 9 rfl; have fa10 := bA.c 10 rfl; go_wp2_with fail; clear fa0 fa1 fa2 fa3 fa4 fa5 fa6 fa7 fa8 fa9 fa10; refine (snoattr_t _ hpl hml HZ).mono ?_; rintro e w1 ⟨rfl, hb⟩; replace bA := bA.keep hb; replace hg := hg.keep hb; replace hc := hc.keep hb; replace hp := hp.keep hb; replace hm := hm.keep hb; replace B0 := below_step B0 hb; clear hb; have fa0 := bA.c 0 rfl; have fa1 := bA.c 1 rfl; have fa2 := bA.c 2 rfl; have fa3 := bA.c 3 rfl; have fa4 := bA.c 4 rfl; have fa5 := bA.c 5 rfl; have fa6 := bA.c 6 rfl; have fa7 := bA.c 7 rfl; have fa8 := bA.c 8 rfl; have fa9 := bA.c 9 rfl; have fa10 := bA.c 10 rfl; go_wp2_with fail
              all_goals
               go_ret
               exact ⟨ret_bool (((if_neg (by omega)).trans ((if_neg (by omega)).trans ((if_neg (by rw [HG.out]; decide)).trans ((if_neg (by rw [HC.out]; decide)).trans ((if_neg (by omega)).trans ((if_neg (not_not_intro rfl)).trans ((if_neg (not_not_intro rfl)).trans ((if_neg (not_not_intro rfl)).trans ((if_neg (by omega)).trans ((if_neg (by omega)).trans ((if_neg (by rw [HZ.out]; decide)).trans ((if_pos rfl).trans ((by simp)))))))))))))).symm), B0⟩
             ·have e1 : (er != 0) = true := by simp [e0]
              by_cases e2 : 0 ≤ er
              ·by_cases e3 : er ≤ 6
               ·go_enter Tryz.func62, Tryz.ntmps62
                go_wp2_with fail; refine (spfx_t _ hg HG).mono ?_; rintro e w1 ⟨rfl, hb⟩; replace bA := bA.keep hb; replace hg := hg.keep hb; replace hc := hc.keep hb; replace hp := hp.keep hb; replace hm := hm.keep hb; replace B0 := below_step B0 hb; clear hb; have fa0 := bA.c 0 rfl; have fa1 := bA.c 1 rfl; have fa2 := bA.c 2 rfl; have fa3 := bA.c 3 rfl; have fa4 := bA.c 4 rfl; have fa5 := bA.c 5 rfl; have fa6 := bA.c 6 rfl; have fa7 := bA.c 7 rfl; have fa8 := bA.c 8 rfl; have fa9 := bA.c 9 rfl; have fa10 := bA.c 10 rfl; go_wp2_with fail; clear fa0 fa1 fa2 fa3 fa4 fa5 fa6 fa7 fa8 fa9 fa10; refine (spfx_t _ hc HC).mono ?_; rintro e w1 ⟨rfl, hb⟩; replace bA := bA.keep hb; replace hg := hg.keep hb; replace hc := hc.keep hb; replace hp := hp.keep hb; replace hm := hm.keep hb; replace B0 := below_step B0 hb; clear hb; have fa0 := bA.c 0 rfl; have fa1 := bA.c 1 rfl; have fa2 := bA.c 2 rfl; have fa3 := bA.c 3 rfl; have fa4 := bA.c 4 rfl; have fa5 := bA.c 5 rfl; have fa6 := bA.c 6 rfl; have fa7 := bA.c 7 rfl; have fa8 := bA.c 8 rfl; have fa9 := bA.c 9 rfl; have fa10 := bA.c 10 rfl; go_wp2_with fail; clear fa0 fa1 fa2 fa3 fa4 fa5 fa6 fa7 fa8 fa9 fa10; refine (snoattr_t _ hpl hml HZ).mono ?_; rintro e w1 ⟨rfl, hb⟩; replace bA := bA.keep hb; replace hg := hg.keep hb; replace hc := hc.keep hb; replace hp := hp.keep hb; replace hm := hm.keep hb; replace B0 := below_step B0 hb; clear hb; have fa0 := bA.c 0 rfl; have fa1 := bA.c 1 rfl; have fa2 := bA.c 2 rfl; have fa3 := bA.c 3 rfl; have fa4 := bA.c 4 rfl; have fa5 := bA.c 5 rfl; have fa6 := bA.c 6 rfl; have fa7 := bA.c 7 rfl; have fa8 := bA.c 8 rfl; have fa9 := bA.c 9 rfl; have fa10 := bA.c 10 rfl; go_wp2_with fail
                all_goals
                 go_ret
                 exact ⟨ret_bool (((if_neg (by omega)).trans ((if_neg (by omega)).trans ((if_neg (by rw [HG.out]; decide)).trans ((if_neg (by rw [HC.out]; decide)).trans ((if_neg (by omega)).trans ((if_neg (not_not_intro rfl)).trans ((if_neg (not_not_intro rfl)).trans ((if_neg (not_not_intro rfl)).trans ((if_neg (by omega)).trans ((if_neg (by omega)).trans ((if_neg (by rw [HZ.out]; decide)).trans ((if_pos rfl).trans ((by rw [Bool.eq_iff_iff]; simp; omega)))))))))))))).symm), B0⟩
               ·go_enter Tryz.func62, Tryz.ntmps62
                go_wp2_with fail; refine (spfx_t _ hg HG).mono ?_; rintro e w1 ⟨rfl, hb⟩; replace bA := bA.keep hb; replace hg := hg.keep hb; replace hc := hc.keep hb; replace hp := hp.keep hb; replace hm := hm.keep hb; replace B0 := below_step B0 hb; clear hb; have fa0 := bA.c 0 rfl; have fa1 := bA.c 1 rfl; have fa2 := bA.c 2 rfl; have fa3 := bA.c 3 rfl; have fa4 := bA.c 4 rfl; have fa5 := bA.c 5 rfl; have fa6 := bA.c 6 rfl; have fa7 := bA.c 7 rfl; have fa8 := bA.c 8 rfl; have fa9 := bA.c 9 rfl; have fa10 := bA.c 10 rfl; go_wp2_with fail; clear fa0 fa1 fa2 fa3 fa4 fa5 fa6 fa7 fa8 fa9 fa10; refine (spfx_t _ hc HC).mono ?_; rintro e w1 ⟨rfl, hb⟩; replace bA := bA.keep hb; replace hg := hg.keep hb; replace hc := hc.keep hb; replace hp := hp.keep hb; replace hm := hm.keep hb; replace B0 := below_step B0 hb; clear hb; have fa0 := bA.c 0 rfl; have fa1 := bA.c 1 rfl; have fa2 := bA.c 2 rfl; have fa3 := bA.c 3 rfl; have fa4 := bA.c 4 rfl; have fa5 := bA.c 5 rfl; have fa6 := bA.c 6 rfl; have fa7 := bA.c 7 rfl; have fa8 := bA.c 8 rfl; have fa9 := bA.c 9 rfl; have fa10 := bA.c 10 rfl; go_wp2_with fail; clear fa0 fa1 fa2 fa3 fa4 fa5 fa6 fa7 fa8 fa9 fa10; refine (snoattr_t _ hpl hml HZ).mono ?_; rintro e w1 ⟨rfl, hb⟩; replace bA := bA.keep hb; replace hg := hg.keep hb; replace hc := hc.keep hb; replace hp := hp.keep hb; replace hm := hm.keep hb; replace B0 := below_step B0 hb; clear hb; have fa0 := bA.c 0 rfl; have fa1 := bA.c 1 rfl; have fa2 := bA.c 2 rfl; have fa3 := bA.c 3 rfl; have fa4 := bA.c 4 rfl; have fa5 := bA.c 5 rfl; have fa6 := bA.c 6 rfl; have fa7 := bA.c 7 rfl; have fa8 := bA.c 8 rfl; have fa9 := bA.c 9 rfl; have fa10 := bA.c 10 rfl; go_wp2_with fail
                all_goals
                 go_ret
                 exact ⟨ret_bool (((if_neg (by omega)).trans ((if_neg (by omega)).trans ((if_neg (by rw [HG.out]; decide)).trans ((if_neg (by rw [HC.out]; decide)).trans ((if_neg (by omega)).trans ((if_neg (not_not_intro rfl)).trans ((if_neg (not_not_intro rfl)).trans ((if_neg (not_not_intro rfl)).trans ((if_neg (by omega)).trans ((if_neg (by omega)).trans ((if_neg (by rw [HZ.out]; decide)).trans ((if_pos rfl).trans ((by rw [Bool.eq_iff_iff]; simp; omega)))))))))))))).symm), B0⟩
              ·go_enter Tryz.func62, Tryz.ntmps62
               go_wp2_with fail; refine (spfx_t _ hg HG).mono ?_; rintro e w1 ⟨rfl, hb⟩; replace bA := bA.keep hb; replace hg := hg.keep hb; replace hc := hc.keep hb; replace hp := hp.keep hb; replace hm := hm.keep hb; replace B0 := below_step B0 hb; clear hb; have fa0 := bA.c 0 rfl; have fa1 := bA.c 1 rfl; have fa2 := bA.c 2 rfl; have fa3 := bA.c 3 rfl; have fa4 := bA.c 4 rfl; have fa5 := bA.c 5 rfl; have fa6 := bA.c 6 rfl; have fa7 := bA.c 7 rfl; have fa8 := bA.c 8 rfl; have fa9 := bA.c 9 rfl; have fa10 := bA.c 10 rfl; go_wp2_with fail; clear fa0 fa1 fa2 fa3 fa4 fa5 fa6 fa7 fa8 fa9 fa10; refine (spfx_t _ hc HC).mono ?_; rintro e w1 ⟨rfl, hb⟩; replace bA := bA.keep hb; replace hg := hg.keep hb; replace hc := hc.keep hb; replace hp := hp.keep hb; replace hm := hm.keep hb; replace B0 := below_step B0 hb; clear hb; have fa0 := bA.c 0 rfl; have fa1 := bA.c 1 rfl; have fa2 := bA.c 2 rfl; have fa3 := bA.c 3 rfl; have fa4 := bA.c 4 rfl; have fa5 := bA.c 5 rfl; have fa6 := bA.c 6 rfl; have fa7 := bA.c 7 rfl; have fa8 := bA.c 8 rfl; have fa9 := bA.c 9 rfl; have fa10 := bA.c 10 rfl; go_wp2_with fail; clear fa0 fa1 fa2 fa3 fa4 fa5 fa6 fa7 fa8 fa9 fa10; refine (snoattr_t _ hpl hml HZ).mono ?_; rintro e w1 ⟨rfl, hb⟩; replace bA := bA.keep hb; replace hg := hg.keep hb; replace hc := hc.keep hb; replace hp := hp.keep hb; replace hm := hm.keep hb; replace B0 := below_step B0 hb; clear hb; have fa0 := bA.c 0 rfl; have fa1 := bA.c 1 rfl; have fa2 := bA.c 2 rfl; have fa3 := bA.c 3 rfl; have fa4 := bA.c 4 rfl; have fa5 := bA.c 5 rfl; have fa6 := bA.c 6 rfl; have fa7 := bA.c 7 rfl; have fa8 := bA.c 8 rfl; have fa9 := bA.c 9 rfl; have fa10 := bA.c 10 rfl; go_wp2_with fail
               all_goals
                go_ret
                exact ⟨ret_bool (((if_neg (by omega)).trans ((if_neg (by omega)).trans ((if_neg (by rw [HG.out]; decide)).trans ((if_neg (by rw [HC.out]; decide)).trans ((if_neg (by omega)).trans ((if_neg (not_not_intro rfl)).trans ((if_neg (not_not_intro rfl)).trans ((if_neg (not_not_intro rfl)).trans ((if_neg (by omega)).trans ((if_neg (by omega)).trans ((if_neg (by rw [HZ.out]; decide)).trans ((if_pos rfl).trans ((by rw [Bool.eq_iff_iff]; simp; omega)))))))))))))).symm), B0⟩
          ·have kd : (kn == 3) = false := by simp [k3]
           by_cases s0 : 0 < (gs.length : Int) + cs.length
           ·have s1 : ¬ ((gs.length : Int) + cs.length ≤ 0) := by omega
            go_enter Tryz.func62, Tryz.ntmps62
            go_wp2_with fail; refine (spfx_t _ hg HG).mono ?_; rintro e w1 ⟨rfl, hb⟩; replace bA := bA.keep hb; replace hg := hg.keep hb; replace hc := hc.keep hb; replace hp := hp.keep hb; replace hm := hm.keep hb; replace B0 := below_step B0 hb; clear hb; have fa0 := bA.c 0 rfl; have fa1 := bA.c 1 rfl; have fa2 := bA.c 2 rfl; have fa3 := bA.c 3 rfl; have fa4 := bA.c 4 rfl; have fa5 := bA.c 5 rfl; have fa6 := bA.c 6 rfl; have fa7 := bA.c 7 rfl; have fa8 := bA.c 8 rfl; have fa9 := bA.c 9 rfl; have fa10 := bA.c 10 rfl; go_wp2_with fail; clear fa0 fa1 fa2 fa3 fa4 fa5 fa6 fa7 fa8 fa9 fa10; refine (spfx_t _ hc HC).mono ?_; rintro e w1 ⟨rfl, hb⟩; replace bA := bA.keep hb; replace hg := hg.keep hb; replace hc := hc.keep hb; replace hp := hp.keep hb; replace hm := hm.keep hb; replace B0 := below_step B0 hb; clear hb; have fa0 := bA.c 0 rfl; have fa1 := bA.c 1 rfl; have fa2 := bA.c 2 rfl; have fa3 := bA.c 3 rfl; have fa4 := bA.c 4 rfl; have fa5 := bA.c 5 rfl; have fa6 := bA.c 6 rfl; have fa7 := bA.c 7 rfl; have fa8 := bA.c 8 rfl; have fa9 := bA.c 9 rfl; have fa10 := bA.c 10 rfl; go_wp2_with fail
            all_goals
             go_ret
             exact ⟨ret_bool (((if_neg (by omega)).trans ((if_neg (by omega)).trans ((if_neg (by rw [HG.out]; decide)).trans ((if_neg (by rw [HC.out]; decide)).trans ((if_neg (by omega)).trans ((if_neg (not_not_intro rfl)).trans ((if_neg (not_not_intro rfl)).trans ((if_neg (not_not_intro rfl)).trans ((if_neg (by omega)).trans ((if_pos (by omega)).trans (rfl))))))))))).symm), B0⟩
           ·have c1 : ((cs.length : Int) == 0) = true := beq_iff_eq.mpr (by omega)
            have c2 : ¬ (0 : Int) < cs.length := by omega
            by_cases z0 : zA ps ms pr bw = false
            ·have HZ := Lib.hid z0
             clear z0
             go_enter Tryz.func62, Tryz.ntmps62
             go_wp2_with fail; refine (spfx_t _ hg HG).mono ?_; rintro e w1 ⟨rfl, hb⟩; replace bA := bA.keep hb; replace hg := hg.keep hb; replace hc := hc.keep hb; replace hp := hp.keep hb; replace hm := hm.keep hb; replace B0 := below_step B0 hb; clear hb; have fa0 := bA.c 0 rfl; have fa1 := bA.c 1 rfl; have fa2 := bA.c 2 rfl; have fa3 := bA.c 3 rfl; have fa4 := bA.c 4 rfl; have fa5 := bA.c 5 rfl; have fa6 := bA.c 6 rfl; have fa7 := bA.c 7 rfl; have fa8 := bA.c 8 rfl; have fa9 := bA.c 9 rfl; have fa10 := bA.c 10 rfl; go_wp2_with fail; clear fa0 fa1 fa2 fa3 fa4 fa5 fa6 fa7 fa8 fa9 fa10; refine (spfx_t _ hc HC).mono ?_; rintro e w1 ⟨rfl, hb⟩; replace bA := bA.keep hb; replace hg := hg.keep hb; replace hc := hc.keep hb; replace hp := hp.keep hb; replace hm := hm.keep hb; replace B0 := below_step B0 hb; clear hb; have fa0 := bA.c 0 rfl; have fa1 := bA.c 1 rfl; have fa2 := bA.c 2 rfl; have fa3 := bA.c 3 rfl; have fa4 := bA.c 4 rfl; have fa5 := bA.c 5 rfl; have fa6 := bA.c 6 rfl; have fa7 := bA.c 7 rfl; have fa8 := bA.c 8 rfl; have fa9 := bA.c 9 rfl; have fa10 := bA.c 10 rfl; go_wp2_with fail; clear fa0 fa1 fa2 fa3 fa4 fa5 fa6 fa7 fa8 fa9 fa10; refine (snoattr_t _ hpl hml HZ).mono ?_; rintro e w1 ⟨rfl, hb⟩; replace bA := bA.keep hb; replace hg := hg.keep hb; replace hc := hc.keep hb; replace hp := hp.keep hb; replace hm := hm.keep hb; replace B0 := below_step B0 hb; clear hb; have fa0 := bA.c 0 rfl; have fa1 := bA.c 1 rfl; have fa2 := bA.c 2 rfl; have fa3 := bA.c 3 rfl; have fa4 := bA.c 4 rfl; have fa5 := bA.c 5 rfl; have fa6 := bA.c 6 rfl; have fa7 := bA.c 7 rfl; have fa8 := bA.c 8 rfl; have fa9 := bA.c 9 rfl; have fa10 := bA.c 10 rfl; go_wp2_with fail
             all_goals
              go_ret
              exact ⟨ret_bool (((if_neg (by omega)).trans ((if_neg (by omega)).trans ((if_neg (by rw [HG.out]; decide)).trans ((if_neg (by rw [HC.out]; decide)).trans ((if_neg (by omega)).trans ((if_neg (not_not_intro rfl)).trans ((if_neg (not_not_intro rfl)).trans ((if_neg (not_not_intro rfl)).trans ((if_neg (by omega)).trans ((if_neg (by omega)).trans ((if_pos HZ.out).trans (rfl)))))))))))).symm), B0⟩
            ·have HZ : Hid (zA ps ms pr bw = true) := Lib.hid (by simpa using z0)
             clear z0
             by_cases e0 : er = 0
             ·subst e0
              go_enter Tryz.func62, Tryz.ntmps62
              go_wp2_with fail; refine (spfx_t _ hg HG).mono ?_; rintro e w1 ⟨rfl, hb⟩; replace bA := bA.keep hb; replace hg := hg.keep hb; replace hc := hc.keep hb; replace hp := hp.keep hb; replace hm := hm.keep hb; replace B0 := below_step B0 hb; clear hb; have fa0 := bA.c 0 rfl; have fa1 := bA.c 1 rfl; have fa2 := bA.c 2 rfl; have fa3 := bA.c 3 rfl; have fa4 := bA.c 4 rfl; have fa5 := bA.c 5 rfl; have fa6 := bA.c 6 rfl; have fa7 := bA.c 7 rfl; have fa8 := bA.c 8 rfl; have fa9 := bA.c 9 rfl; have fa10 := bA.c 10 rfl; go_wp2_with fail; clear fa0 fa1 fa2 fa3 fa4 fa5 fa6 fa7 fa8 fa9 fa10; refine (spfx_t _ hc HC).mono ?_; rintro e w1 ⟨rfl, hb⟩; replace bA := bA.keep hb; replace hg := hg.keep hb; replace hc := hc.keep hb; replace hp := hp.keep hb; replace hm := hm.keep hb; replace B0 := below_step B0 hb; clear hb; have fa0 := bA.c 0 rfl; have fa1 := bA.c 1 rfl; have fa2 := bA.c 2 rfl; have fa3 := bA.c 3 rfl; have fa4 := bA.c 4 rfl; have fa5 := bA.c 5 rfl; have fa6 := bA.c 6 rfl; have fa7 := bA.c 7 rfl; have fa8 := bA.c 8 rfl; have fa9 := bA.c 9 rfl; have fa10 := bA.c 10 rfl; go_wp2_with fail; clear fa0 fa1 fa2 fa3 fa4 fa5 fa6 fa7 fa8 fa9 fa10; refine (snoattr_t _ hpl hml HZ).mono ?_; rintro e w1 ⟨rfl, hb⟩; replace bA := bA.keep hb; replace hg := hg.keep hb; replace hc := hc.keep hb; replace hp := hp.keep hb; replace hm := hm.keep hb; replace B0 := below_step B0 hb; clear hb; have fa0 := bA.c 0 rfl; have fa1 := bA.c 1 rfl; have fa2 := bA.c 2 rfl; have fa3 := bA.c 3 rfl; have fa4 := bA.c 4 rfl; have fa5 := bA.c 5 rfl; have fa6 := bA.c 6 rfl; have fa7 := bA.c 7 rfl; have fa8 := bA.c 8 rfl; have fa9 := bA.c 9 rfl; have fa10 := bA.c 10 rfl; go_wp2_with fail
              all_goals
               go_ret
               exact ⟨ret_bool (((if_neg (by omega)).trans ((if_neg (by omega)).trans ((if_neg (by rw [HG.out]; decide)).trans ((if_neg (by rw [HC.out]; decide)).trans ((if_neg (by omega)).trans ((if_neg (not_not_intro rfl)).trans ((if_neg (not_not_intro rfl)).trans ((if_neg (not_not_intro rfl)).trans ((if_neg (by omega)).trans ((if_neg (by omega)).trans ((if_neg (by rw [HZ.out]; decide)).trans ((if_neg (by omega)).trans ((by simp)))))))))))))).symm), B0⟩
             ·have e1 : (er != 0) = true := by simp [e0]
              go_enter Tryz.func62, Tryz.ntmps62
              go_wp2_with fail; refine (spfx_t _ hg HG).mono ?_; rintro e w1 ⟨rfl, hb⟩; replace bA := bA.keep hb; replace hg := hg.keep hb; replace hc := hc.keep hb; replace hp := hp.keep hb; replace hm := hm.keep hb; replace B0 := below_step B0 hb; clear hb; have fa0 := bA.c 0 rfl; have fa1 := bA.c 1 rfl; have fa2 := bA.c 2 rfl; have fa3 := bA.c 3 rfl; have fa4 := bA.c 4 rfl; have fa5 := bA.c 5 rfl; have fa6 := bA.c 6 rfl; have fa7 := bA.c 7 rfl; have fa8 := bA.c 8 rfl; have fa9 := bA.c 9 rfl; have fa10 := bA.c 10 rfl; go_wp2_with fail; clear fa0 fa1 fa2 fa3 fa4 fa5 fa6 fa7 fa8 fa9 fa10; refine (spfx_t _ hc HC).mono ?_; rintro e w1 ⟨rfl, hb⟩; replace bA := bA.keep hb; replace hg := hg.keep hb; replace hc := hc.keep hb; replace hp := hp.keep hb; replace hm := hm.keep hb; replace B0 := below_step B0 hb; clear hb; have fa0 := bA.c 0 rfl; have fa1 := bA.c 1 rfl; have fa2 := bA.c 2 rfl; have fa3 := bA.c 3 rfl; have fa4 := bA.c 4 rfl; have fa5 := bA.c 5 rfl; have fa6 := bA.c 6 rfl; have fa7 := bA.c 7 rfl; have fa8 := bA.c 8 rfl; have fa9 := bA.c 9 rfl; have fa10 := bA.c 10 rfl; go_wp2_with fail; clear fa0 fa1 fa2 fa3 fa4 fa5 fa6 fa7 fa8 fa9 fa10; refine (snoattr_t _ hpl hml HZ).mono ?_; rintro e w1 ⟨rfl, hb⟩; replace bA := bA.keep hb; replace hg := hg.keep hb; replace hc := hc.keep hb; replace hp := hp.keep hb; replace hm := hm.keep hb; replace B0 := below_step B0 hb; clear hb; have fa0 := bA.c 0 rfl; have fa1 := bA.c 1 rfl; have fa2 := bA.c 2 rfl; have fa3 := bA.c 3 rfl; have fa4 := bA.c 4 rfl; have fa5 := bA.c 5 rfl; have fa6 := bA.c 6 rfl; have fa7 := bA.c 7 rfl; have fa8 := bA.c 8 rfl; have fa9 := bA.c 9 rfl; have fa10 := bA.c 10 rfl; go_wp2_with fail
              all_goals
               go_ret
               exact ⟨ret_bool (((if_neg (by omega)).trans ((if_neg (by omega)).trans ((if_neg (by rw [HG.out]; decide)).trans ((if_neg (by rw [HC.out]; decide)).trans ((if_neg (by omega)).trans ((if_neg (not_not_intro rfl)).trans ((if_neg (not_not_intro rfl)).trans ((if_neg (not_not_intro rfl)).trans ((if_neg (by omega)).trans ((if_neg (by omega)).trans ((if_neg (by rw [HZ.out]; decide)).trans ((if_neg (by omega)).trans ((by simp [e0])))))))))))))).symm), B0⟩
end Go.Proofs.YtbcmoofpgffbhabGreat
namespace Go.Proofs.YtbcmoofpgffbhabGreat
open Go.ChangeShapes Go.WideShapes Go.ChangeAt Go.RowKit Go.BigFrame
set_option linter.unusedVariables false
set_option maxRecDepth 100000
set_option linter.unusedSimpArgs false

theorem hit_O (v : Value) (w : World) : (Instr.typeAssert (.iface 272 v) 231 272 true).run Tryz.prog w = .ok (.tuple #[v, .bool true]) w := by kernel_rfl
theorem hit_U (v : Value) (w : World) : (Instr.typeAssert (.iface 274 v) 231 274 true).run Tryz.prog w = .ok (.tuple #[v, .bool true]) w := by kernel_rfl
theorem miss_UO (v : Value) (w : World) : (Instr.typeAssert (.iface 274 v) 231 272 true).run Tryz.prog w = .ok (.tuple #[.agg #[.int .i64 0, .int .i64 0, .int .i64 0], .bool false]) w := by kernel_rfl
theorem hit_N (v : Value) (w : World) : (Instr.typeAssert (.iface 276 v) 231 276 true).run Tryz.prog w = .ok (.tuple #[v, .bool true]) w := by kernel_rfl
theorem miss_NO (v : Value) (w : World) : (Instr.typeAssert (.iface 276 v) 231 272 true).run Tryz.prog w = .ok (.tuple #[.agg #[.int .i64 0, .int .i64 0, .int .i64 0], .bool false]) w := by kernel_rfl
theorem miss_NU (v : Value) (w : World) : (Instr.typeAssert (.iface 276 v) 231 274 true).run Tryz.prog w = .ok (.tuple #[.agg #[.slice none 0 0, .slice none 0 0, .slice none 0 0, .int .i64 0, .slice none 0 0, .int .i64 0], .bool false]) w := by kernel_rfl
theorem hit_K (v : Value) (w : World) : (Instr.typeAssert (.iface 278 v) 231 278 true).run Tryz.prog w = .ok (.tuple #[v, .bool true]) w := by kernel_rfl
theorem miss_KO (v : Value) (w : World) : (Instr.typeAssert (.iface 278 v) 231 272 true).run Tryz.prog w = .ok (.tuple #[.agg #[.int .i64 0, .int .i64 0, .int .i64 0], .bool false]) w := by kernel_rfl
theorem miss_KU (v : Value) (w : World) : (Instr.typeAssert (.iface 278 v) 231 274 true).run Tryz.prog w = .ok (.tuple #[.agg #[.slice none 0 0, .slice none 0 0, .slice none 0 0, .int .i64 0, .slice none 0 0, .int .i64 0], .bool false]) w := by kernel_rfl
theorem miss_KN (v : Value) (w : World) : (Instr.typeAssert (.iface 278 v) 231 276 true).run Tryz.prog w = .ok (.tuple #[.agg #[.int .i64 0], .bool false]) w := by kernel_rfl
theorem unpack_O (ga ca pa ma : Option Addr) (gx cx px mx n m a b : Nat) (kn sa ho ix pr bw er : Int) (w : World)  :
  Calls Tryz.prog 254 #[.agg #[.int .i64 1, .int .i64 sa, .int .i64 ho, .int .i64 ix, .slice ga n gx, .slice ca m cx, .slice pa a px, .int .i64 pr, .slice ma b mx, .int .i64 bw, .int .i64 er]] w fun e w' => e = .returned (.tuple #[.iface 272 (.agg #[.int .i64 sa, .int .i64 ho, .int .i64 ix]), .bool true]) ∧ Below w.heap.size w w' := by
 go_enter Tryz.func254, Tryz.ntmps254
 go_wp2
 exact bodyPost_ret (v := .tuple #[.iface 272 (.agg #[.int .i64 sa, .int .i64 ho, .int .i64 ix]), .bool true]) (by simp [results, Tryz.results254, go_sem]) rfl ⟨rfl, by repeat' (first | exact Below.refl _ _ | (refine Below.setCell ?_ (by simp) _) | (refine Below.alloc ?_ (by simp) _) | (refine Below.drew ?_))⟩
theorem unpack_U1 (ga ca pa ma : Option Addr) (gx cx px mx n m a b : Nat) (kn sa ho ix pr bw er : Int) (w : World) (hm : 0 < m) :
  Calls Tryz.prog 254 #[.agg #[.int .i64 2, .int .i64 sa, .int .i64 ho, .int .i64 ix, .slice ga n gx, .slice ca m cx, .slice pa a px, .int .i64 pr, .slice ma b mx, .int .i64 bw, .int .i64 er]] w fun e w' => e = .returned (.tuple #[.iface 274 (.agg #[.slice ga n gx, .slice ca m cx, .slice pa a px, .int .i64 pr, .slice ma b mx, .int .i64 bw]), .bool true]) ∧ Below w.heap.size w w' := by
 have hmI : (0 : Int) < m := by omega
 go_enter Tryz.func254, Tryz.ntmps254
 go_wp2
 exact bodyPost_ret (v := .tuple #[.iface 274 (.agg #[.slice ga n gx, .slice ca m cx, .slice pa a px, .int .i64 pr, .slice ma b mx, .int .i64 bw]), .bool true]) (by simp [results, Tryz.results254, go_sem]) rfl ⟨rfl, by repeat' (first | exact Below.refl _ _ | (refine Below.setCell ?_ (by simp) _) | (refine Below.alloc ?_ (by simp) _) | (refine Below.drew ?_))⟩
theorem unpack_U0 (ga ca pa ma : Option Addr) (gx cx px mx n m a b : Nat) (kn sa ho ix pr bw er : Int) (w : World)  :
  Calls Tryz.prog 254 #[.agg #[.int .i64 2, .int .i64 sa, .int .i64 ho, .int .i64 ix, .slice ga n gx, .slice ca 0 cx, .slice pa a px, .int .i64 pr, .slice ma b mx, .int .i64 bw, .int .i64 er]] w fun e w' => e = .returned (.tuple #[.iface 274 (.agg #[.slice ga n gx, .slice ca 0 cx, .slice none 0 0, .int .i64 0, .slice none 0 0, .int .i64 0]), .bool true]) ∧ Below w.heap.size w w' := by
 go_enter Tryz.func254, Tryz.ntmps254
 go_wp2
 exact bodyPost_ret (v := .tuple #[.iface 274 (.agg #[.slice ga n gx, .slice ca 0 cx, .slice none 0 0, .int .i64 0, .slice none 0 0, .int .i64 0]), .bool true]) (by simp [results, Tryz.results254, go_sem]) rfl ⟨rfl, by repeat' (first | exact Below.refl _ _ | (refine Below.setCell ?_ (by simp) _) | (refine Below.alloc ?_ (by simp) _) | (refine Below.drew ?_))⟩
theorem unpack_N (ga ca pa ma : Option Addr) (gx cx px mx n m a b : Nat) (kn sa ho ix pr bw er : Int) (w : World)  :
  Calls Tryz.prog 254 #[.agg #[.int .i64 3, .int .i64 sa, .int .i64 ho, .int .i64 ix, .slice ga n gx, .slice ca m cx, .slice pa a px, .int .i64 pr, .slice ma b mx, .int .i64 bw, .int .i64 er]] w fun e w' => e = .returned (.tuple #[.iface 276 (.agg #[.int .i64 er]), .bool true]) ∧ Below w.heap.size w w' := by
 go_enter Tryz.func254, Tryz.ntmps254
 go_wp2
 exact bodyPost_ret (v := .tuple #[.iface 276 (.agg #[.int .i64 er]), .bool true]) (by simp [results, Tryz.results254, go_sem]) rfl ⟨rfl, by repeat' (first | exact Below.refl _ _ | (refine Below.setCell ?_ (by simp) _) | (refine Below.alloc ?_ (by simp) _) | (refine Below.drew ?_))⟩
theorem unpack_K (ga ca pa ma : Option Addr) (gx cx px mx n m a b : Nat) (kn sa ho ix pr bw er : Int) (w : World)  :
  Calls Tryz.prog 254 #[.agg #[.int .i64 4, .int .i64 sa, .int .i64 ho, .int .i64 ix, .slice ga n gx, .slice ca m cx, .slice pa a px, .int .i64 pr, .slice ma b mx, .int .i64 bw, .int .i64 er]] w fun e w' => e = .returned (.tuple #[.iface 278 (.agg #[]), .bool true]) ∧ Below w.heap.size w w' := by
 go_enter Tryz.func254, Tryz.ntmps254
 go_wp2
 exact bodyPost_ret (v := .tuple #[.iface 278 (.agg #[]), .bool true]) (by simp [results, Tryz.results254, go_sem]) rfl ⟨rfl, by repeat' (first | exact Below.refl _ _ | (refine Below.setCell ?_ (by simp) _) | (refine Below.alloc ?_ (by simp) _) | (refine Below.drew ?_))⟩
theorem unpack_no (ga ca pa ma : Option Addr) (gx cx px mx n m a b : Nat) (kn sa ho ix pr bw er : Int) (w : World) (h : ¬ (1 ≤ kn ∧ kn ≤ 4)) :
  Calls Tryz.prog 254 #[.agg #[.int .i64 kn, .int .i64 sa, .int .i64 ho, .int .i64 ix, .slice ga n gx, .slice ca m cx, .slice pa a px, .int .i64 pr, .slice ma b mx, .int .i64 bw, .int .i64 er]] w fun e w' => e = .returned (.tuple #[.nilIface, .bool false]) ∧ Below w.heap.size w w' := by
 have h1 : (kn == 1) = false := beq_eq_false_iff_ne.mpr (by omega); have h2 : (kn == 2) = false := beq_eq_false_iff_ne.mpr (by omega); have h3 : (kn == 3) = false := beq_eq_false_iff_ne.mpr (by omega); have h4 : (kn == 4) = false := beq_eq_false_iff_ne.mpr (by omega); clear h
 go_enter Tryz.func254, Tryz.ntmps254
 go_wp2
 exact bodyPost_ret (v := .tuple #[.nilIface, .bool false]) (by simp [results, Tryz.results254, go_sem]) rfl ⟨rfl, by repeat' (first | exact Below.refl _ _ | (refine Below.setCell ?_ (by simp) _) | (refine Below.alloc ?_ (by simp) _) | (refine Below.drew ?_))⟩
theorem pack_O (sa ho ix : Int) (w : World) :
  Calls Tryz.prog 256 #[.iface 272 (.agg #[.int .i64 sa, .int .i64 ho, .int .i64 ix])] w fun e w' => e = .returned (.agg #[.int .i64 1, .int .i64 sa, .int .i64 ho, .int .i64 ix, .slice none 0 0, .slice none 0 0, .slice none 0 0, .int .i64 0, .slice none 0 0, .int .i64 0, .int .i64 0]) ∧ Below w.heap.size w w' := by
 have q0 := hit_O
 go_enter Tryz.func256, Tryz.ntmps256
 go_wp2
 exact bodyPost_ret (v := .agg #[.int .i64 1, .int .i64 sa, .int .i64 ho, .int .i64 ix, .slice none 0 0, .slice none 0 0, .slice none 0 0, .int .i64 0, .slice none 0 0, .int .i64 0, .int .i64 0]) (by simp [results, Tryz.results256, go_sem]) rfl ⟨rfl, by repeat' (first | exact Below.refl _ _ | (refine Below.setCell ?_ (by simp) _) | (refine Below.alloc ?_ (by simp) _) | (refine Below.drew ?_))⟩
theorem pack_U (ga ca pa ma : Option Addr) (gx cx px mx n m a b : Nat) (pr bw : Int) (w : World) :
  Calls Tryz.prog 256 #[.iface 274 (.agg #[.slice ga n gx, .slice ca m cx, .slice pa a px, .int .i64 pr, .slice ma b mx, .int .i64 bw])] w fun e w' => e = .returned (.agg #[.int .i64 2, .int .i64 0, .int .i64 0, .int .i64 0, .slice ga n gx, .slice ca m cx, .slice pa a px, .int .i64 pr, .slice ma b mx, .int .i64 bw, .int .i64 0]) ∧ Below w.heap.size w w' := by
 have q0 := miss_UO; have q1 := hit_U
 go_enter Tryz.func256, Tryz.ntmps256
 go_wp2
 exact bodyPost_ret (v := .agg #[.int .i64 2, .int .i64 0, .int .i64 0, .int .i64 0, .slice ga n gx, .slice ca m cx, .slice pa a px, .int .i64 pr, .slice ma b mx, .int .i64 bw, .int .i64 0]) (by simp [results, Tryz.results256, go_sem]) rfl ⟨rfl, by repeat' (first | exact Below.refl _ _ | (refine Below.setCell ?_ (by simp) _) | (refine Below.alloc ?_ (by simp) _) | (refine Below.drew ?_))⟩
theorem pack_N (er : Int) (w : World) :
  Calls Tryz.prog 256 #[.iface 276 (.agg #[.int .i64 er])] w fun e w' => e = .returned (.agg #[.int .i64 3, .int .i64 0, .int .i64 0, .int .i64 0, .slice none 0 0, .slice none 0 0, .slice none 0 0, .int .i64 0, .slice none 0 0, .int .i64 0, .int .i64 er]) ∧ Below w.heap.size w w' := by
 have q0 := miss_NO; have q1 := miss_NU; have q2 := hit_N
 go_enter Tryz.func256, Tryz.ntmps256
 go_wp2
 exact bodyPost_ret (v := .agg #[.int .i64 3, .int .i64 0, .int .i64 0, .int .i64 0, .slice none 0 0, .slice none 0 0, .slice none 0 0, .int .i64 0, .slice none 0 0, .int .i64 0, .int .i64 er]) (by simp [results, Tryz.results256, go_sem]) rfl ⟨rfl, by repeat' (first | exact Below.refl _ _ | (refine Below.setCell ?_ (by simp) _) | (refine Below.alloc ?_ (by simp) _) | (refine Below.drew ?_))⟩
theorem pack_K  (w : World) :
  Calls Tryz.prog 256 #[.iface 278 (.agg #[])] w fun e w' => e = .returned (.agg #[.int .i64 4, .int .i64 0, .int .i64 0, .int .i64 0, .slice none 0 0, .slice none 0 0, .slice none 0 0, .int .i64 0, .slice none 0 0, .int .i64 0, .int .i64 0]) ∧ Below w.heap.size w w' := by
 have q0 := miss_KO; have q1 := miss_KU; have q2 := miss_KN; have q3 := hit_K
 go_enter Tryz.func256, Tryz.ntmps256
 go_wp2
 exact bodyPost_ret (v := .agg #[.int .i64 4, .int .i64 0, .int .i64 0, .int .i64 0, .slice none 0 0, .slice none 0 0, .slice none 0 0, .int .i64 0, .slice none 0 0, .int .i64 0, .int .i64 0]) (by simp [results, Tryz.results256, go_sem]) rfl ⟨rfl, by repeat' (first | exact Below.refl _ _ | (refine Below.setCell ?_ (by simp) _) | (refine Below.alloc ?_ (by simp) _) | (refine Below.drew ?_))⟩
end Go.Proofs.YtbcmoofpgffbhabGreat
