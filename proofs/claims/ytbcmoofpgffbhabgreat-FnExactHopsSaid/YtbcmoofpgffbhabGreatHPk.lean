/-
  FabricOk of the model. Conditions: those in each contract.
  Mark, of the model and of the program. Conditions: those in each contract.
  The longest prefix that any switch has and that covers an address, of the program. Conditions: those in each contract.
  Contains of prefixes; reachedOwner of the program. Conditions: those in each contract.
  The ways of a fabric that are up, of the program. Conditions: those in each contract.
  The ways that are up, and what is reached one step farther, of the program. Conditions: those in each contract.
  Hops of the program. Conditions: those in each contract.
  Layers of a graph. Conditions: those in each contract.
  How far each switch is, level by level, in place. Conditions: those in each contract.
-/
import Derived.Test.YtbcmoofpgffbhabGreatHPj
import Derived.Test.YtbcmoofpgffbhabGreatHPg
import Derived.Test.YtbcmoofpgffbhabGreatHPa
import Derived.Test.YtbcmoofpgffbhabGreatHPb
namespace Go.Proofs.YtbcmoofpgffbhabGreat
open Go.ChangeShapes Go.WideShapes Go.ChangeAt Go.RowKit Go.BigFrame Go.Joins
set_option linter.unusedVariables false
set_option maxRecDepth 100000
set_option maxRecDepth 100000
set_option linter.unusedSimpArgs false
set_option maxRecDepth 100000

theorem endsL_eq (L : List Lk) : endsL L = endsY (waysL L) := by
 induction L with
 | nil => rfl
 | cons x L ih => simp only [endsL, endsY, waysL, List.flatMap_cons, List.map_append] at ih ⊢; rw [ih]; rfl
def lmsB (x : Lk) : Bool := msB x.ab && (msB x.ba && (x.up || decide (x.ab.length + x.ba.length = 0)))
def fsB (F : Fb) : Bool := inB F.nodes.length 1 8 && (decide (F.links.length ≤ 12) && (inB F.width 1 4 && (lendB F.nodes.length F.links && ((F.nodes.all fun x => ndB x) && F.links.all fun x => lmsB x))))
theorem link_way (n : Nat) (x : Lk) : (wayB n ⟨x.a, x.ai, x.b, x.bi, x.up, x.ab⟩ = true ∧ wayB n ⟨x.b, x.bi, x.a, x.ai, x.up, x.ba⟩ = true) ↔ (linkB n x = true ∧ lmsB x = true) := by
 unfold wayB endB trB linkB lmsB msB inB; simp only [Bool.and_eq_true, Bool.or_eq_true, decide_eq_true_iff, bne_iff_ne]
 constructor
 ·rintro ⟨⟨⟨⟨⟨a1, a2⟩, a3, a4⟩, a5⟩, ⟨a6, a7⟩, a8⟩, ⟨⟨⟨b1, b2⟩, b3, b4⟩, b5⟩, ⟨b6, b7⟩, b8⟩
  refine ⟨⟨⟨a1, by omega, b1, by omega, a5⟩, ⟨a3, a4⟩, b3, b4⟩, ⟨a7, a6⟩, ⟨b7, b6⟩, ?_⟩
  rcases a8 with a8 | a8
  ·exact .inl a8
  ·rcases b8 with b8 | b8
   ·exact .inl b8
   ·exact .inr (by omega)
 ·rintro ⟨⟨⟨a1, a2, a3, a4, a5⟩, ⟨a6, a7⟩, a8, a9⟩, ⟨b1, b2⟩, ⟨b3, b4⟩, b5⟩
  refine ⟨⟨⟨⟨⟨a1, by omega⟩, a6, a7⟩, a5⟩, ⟨b2, b1⟩, ?_⟩, ⟨⟨⟨a3, by omega⟩, a8, a9⟩, Ne.symm a5⟩, ⟨b4, b3⟩, ?_⟩
  ·rcases b5 with b5 | b5
   ·exact .inl b5
   ·exact .inr (by omega)
  ·rcases b5 with b5 | b5
   ·exact .inl b5
   ·exact .inr (by omega)
theorem ways_all (n : Nat) (L : List Lk) : (∀ y ∈ waysL L, wayB n y = true) ↔ ∀ x ∈ L, linkB n x = true ∧ lmsB x = true := by
 constructor
 ·intro h x hx
  exact (link_way n x).1 ⟨h _ (List.mem_flatMap.2 ⟨x, hx, by simp [waysOf]⟩), h _ (List.mem_flatMap.2 ⟨x, hx, by simp [waysOf]⟩)⟩
 ·intro h y hy
  obtain ⟨x, hx, hy⟩ := List.mem_flatMap.1 hy; have := (link_way n x).2 (h x hx); simp only [waysOf, List.mem_cons, List.not_mem_nil, or_false] at hy
  rcases hy with rfl | rfl
  ·exact this.1
  ·exact this.2
theorem fsB_eq (F : Fb) : fsB F = fbB F := by
 rw [Bool.eq_iff_iff]; unfold fsB fbB lendB; simp only [Bool.and_eq_true, List.all_eq_true, decide_eq_true_iff, endsL_eq, ways_all]
 constructor
 ·rintro ⟨h1, h2, h3, ⟨h4, h5⟩, h6, h7⟩
  exact ⟨h1, h6, h3, h2, fun x hx => ⟨h4 x hx, h7 x hx⟩, h5⟩
 ·rintro ⟨h1, h6, h3, h2, h4, h5⟩
  exact ⟨h1, h2, h3, ⟨fun x hx => (h4 x hx).1, h5⟩, h6, fun x hx => (h4 x hx).2⟩
theorem smsgs_t {v : Value} {l : List Mg} {b : Bool} (w : World) (h : RdMS w v l) (hw : ∀ m ∈ l, wtM m ≤ 1048576) (H : Hid (msB l = b)) :
  Calls Tryz.prog 162 #[v] w fun e w' => e = .returned (.bool b) ∧ Below w.heap.size w w' := H.out ▸ smsgs_any v l w h hw
theorem sends_t (nv lv : Value) (F : Fb) {b : Bool} (w : World) (hN : RdNS w nv F.nodes) (h : RdLS w lv F.links) (hn8 : F.nodes.length ≤ 8) (H : Hid (lendB F.nodes.length F.links = b)) :
  Calls Tryz.prog 161 #[.agg #[nv, lv, .int .i64 F.width]] w fun e w' => e = .returned (.bool b) ∧ Below w.heap.size w w' := H.out ▸ sends_any nv lv F w hN h hn8
theorem wtS_mem {l : List Mg} {m : Mg} (h : m ∈ l) : wtM m ≤ wtMS l := by
 obtain ⟨i, hi, e⟩ := List.mem_iff_getElem.1 h; have := wtM_at hi
 rwa [List.getD_eq_getElem?_getD, List.getElem?_eq_getElem hi, show (some l[i]).getD m0 = l[i] from rfl, e] at this
theorem wtL_mem {l : List Lk} {m : Lk} (h : m ∈ l) : wtL m ≤ wtLS l := by
 obtain ⟨i, hi, e⟩ := List.mem_iff_getElem.1 h; have := wtL_at hi
 rwa [List.getD_eq_getElem?_getD, List.getElem?_eq_getElem hi, show (some l[i]).getD l0 = l[i] from rfl, e] at this
set_option maxHeartbeats 4000000 in
theorem sfok_any (nv lv : Value) (F : Fb) (w : World) (h : RdF w nv lv F) (hw : wtF F ≤ 1048576) :
  Calls Tryz.prog 87 #[.agg #[nv, lv, .int .i64 F.width]] w fun e w' => e = .returned (.bool (fsB F)) ∧ Below w.heap.size w w' := by
 have hm1 := h.1.1; have hm2 := h.2.1; obtain ⟨na, nx, rfl⟩ := h.1.len; obtain ⟨la, lx, rfl⟩ := h.2.len; obtain ⟨bF, B0, z⟩ := one w [.slice na F.nodes.length nx, .slice la F.links.length lx, .int .i64 F.width] 60; obtain ⟨hN, hL⟩ := h.keep B0; have HW := Lib.hid hw; clear z h hw; have f0 := bF.c 0 rfl; have f1 := bF.c 1 rfl; have f2 := bF.c 2 rfl; cases hA : inB (F.nodes.length : Int) 1 8
 ·rw [show fsB F = false by unfold fsB; rw [hA, Bool.false_and]]
  have hh : (F.nodes.length : Int) < 1 ∨ (8 : Int) < (F.nodes.length : Int) := by unfold inB at hA; simp at hA; omega
  clear hA; obtain ⟨n, hn⟩ : ∃ n, n = F.nodes.length := ⟨_, rfl⟩; rw [← hn] at hh f0 B0 ⊢; clear hn
  by_cases hx : (n : Int) < 1
  ·go_enter Tryz.func87, Tryz.ntmps87
   go_wp2
   go_ret
   exact ⟨rfl, B0⟩
  ·have hy : (8 : Int) < (n : Int) := by omega
   go_enter Tryz.func87, Tryz.ntmps87
   go_wp2
   go_ret
   exact ⟨rfl, B0⟩
 ·have hn8 : F.nodes.length ≤ 8 := by unfold inB at hA; simp at hA; omega
  have hn1 : ¬ (F.nodes.length : Int) < 1 := by unfold inB at hA; simp at hA; omega
  have hnb : ¬ (8 : Int) < (F.nodes.length : Int) := by omega
  by_cases hD : F.links.length ≤ 12
  ·have hly : ¬ (12 : Int) < (F.links.length : Int) := by omega
   cases hC : inB F.width 1 4
   ·rw [show fsB F = false by unfold fsB; rw [hC, Bool.false_and, Bool.and_false, Bool.and_false]]
    have hh : F.width < 1 ∨ 4 < F.width := by unfold inB at hC; simp at hC; omega
    clear hA hC
    by_cases hx : F.width < 1
    ·go_enter Tryz.func87, Tryz.ntmps87
     go_wp2
     go_ret
     exact ⟨rfl, B0⟩
    ·have hy : 4 < F.width := by omega
     go_enter Tryz.func87, Tryz.ntmps87
     go_wp2
     go_ret
     exact ⟨rfl, B0⟩
   ·have hw1 : ¬ F.width < 1 := by unfold inB at hC; simp at hC; omega
    have hw4 : ¬ 4 < F.width := by unfold inB at hC; simp at hC; omega
    cases hE : lendB F.nodes.length F.links
    ·rw [show fsB F = false by unfold fsB; rw [hE, Bool.false_and, Bool.and_false, Bool.and_false, Bool.and_false]]
     have HE := Lib.hid hE; clear hA hC hE hD
     go_enter Tryz.func87, Tryz.ntmps87
     go_wp2_with fail; refine (sends_t _ _ F _ hN hL hn8 HE).mono ?_; rintro e w1 ⟨rfl, hb⟩; replace B0 := below_step B0 hb; go_wp2
     go_ret
     exact ⟨rfl, B0⟩
    ·have e0 : fsB F = ((F.nodes.all fun x => ndB x) && F.links.all fun x => lmsB x) := by unfold fsB; rw [hA, hC, hE, decide_eq_true hD]; simp
     rw [e0]; have HE := Lib.hid hE; clear hA hC hE hD e0
     go_enter Tryz.func87, Tryz.ntmps87
     go_wp2_with fail; refine (sends_t _ _ F _ hN hL hn8 HE).mono ?_; rintro e W1 ⟨rfl, hb⟩; replace B0 := below_step B0 hb; replace bF := bF.keep hb; replace hN := hN.keep hb; replace hL := hL.keep hb; obtain ⟨na, nx, hnv⟩ := hN.el; obtain ⟨hnv, hcn⟩ := hnv; obtain ⟨la, lx, hlv⟩ := hL.el; obtain ⟨hlv, hcl⟩ := hlv; simp only [Value.slice.injEq, true_and] at hnv hlv; obtain ⟨rfl, rfl⟩ := hnv; obtain ⟨rfl, rfl⟩ := hlv; obtain ⟨n, hn⟩ : ∃ n, n = F.nodes.length := ⟨_, rfl⟩; obtain ⟨m, hm⟩ : ∃ m, m = F.links.length := ⟨_, rfl⟩; rw [← hn] at bF hcn hm1; rw [← hm] at bF hcl hm2
     try rw [← hn]
     try rw [← hm]
     have HN := Lib.hid hn; have HM := Lib.hid hm; clear hb hn hm hN hL f0 f1 f2 HE hn8 hn1 hnb hly hw1 hw4; go_wp2
     go_loopw [3] (fun q wr => ∃ j : Nat, j ≤ n ∧ q = .int .i64 j ∧ (∀ i, i < j → ndB (F.nodes.getD i n0) = true) ∧ Over W1 wr) (fun q _ => n - (intOf q).toNat)
     case atStart => exact ⟨0, Nat.zero_le _, rfl, fun i hi => by omega, over_refl _⟩
     case round =>
      obtain ⟨j, hj, rfl, hyes, hB⟩ := hrel; have HY := Lib.hid hyes; clear hyes; have f0 := (bF.keep hB).c 0 rfl
      by_cases hlt : j < n
      ·have hltI : (j : Int) < (n : Int) := by omega
       obtain ⟨b, o, rfl, hE⟩ := hcn j hlt; obtain ⟨x, hx⟩ : ∃ x, F.nodes.getD j n0 = x := ⟨_, rfl⟩; rw [hx] at hE; obtain ⟨ov, rv, sv, hr, g0, g1, g2, g3, g4, g5⟩ := hE.keep hB
       have HXM : Hid (x ∈ F.nodes) := Lib.hid (by
        rw [← hx, List.getD_eq_getElem?_getD, List.getElem?_eq_getElem (by rw [← HN.out]; exact hlt)]
        exact List.getElem_mem _)
       have HX := Lib.hid hx; have HC := Lib.hid hcn; have HC2 := Lib.hid hcl; clear hx hcn hE hcl; cases hk : ndB x
       ·have hno : (F.nodes.all fun x => ndB x) = false := List.all_eq_false.2 ⟨x, HXM.out, by rw [hk]; simp⟩
        have HNO := Lib.hid hno; have HK := Lib.hid hk; clear hno hk; go_wp2_with fail; refine (sndok_t _ hr HK).mono ?_; rintro e w1 ⟨rfl, hb1⟩; go_wp2
        go_ret
        exact ⟨ret_bool (by rw [HNO.out]; rfl), below_step B0 (over_step hB hb1)⟩
       ·have HK := Lib.hid hk
        clear hk; go_wp2_with fail; refine (sndok_t _ hr HK).mono ?_; rintro e w1 ⟨rfl, hb1⟩; go_wp2
        go_roundw
        case rel =>
         refine ⟨j + 1, by omega, by go_num, fun i hi => ?_, over_step hB hb1⟩
         by_cases hij : i = j
         ·subst hij; rw [HX.out]; exact HK.out
         ·exact HY.out i (by omega)
        case measure => simp [intOf]; omega
      ·have hkn : j = n := by omega
       subst hkn
       have e1 : (F.nodes.all fun x => ndB x) = true := List.all_eq_true.2 fun x hx => by
        obtain ⟨i, hi, e⟩ := List.mem_iff_getElem.1 hx; have := HY.out i (by rw [HN.out]; exact hi); rw [List.getD_eq_getElem?_getD, List.getElem?_eq_getElem hi] at this; rw [← e]
        exact this
       have HE1 := Lib.hid e1; replace bF := bF.keep hB
       have hcl2 : ∀ i, i < m → ∃ b o, la = some ⟨b, o, none⟩ ∧ AtL wr b (o + i * 7) (F.links.getD i l0) := fun i hi => by
        obtain ⟨b, o, e, h⟩ := hcl i hi
        exact ⟨b, o, e, h.keep hB⟩
       replace B0 := below_step B0 hB; obtain ⟨W2, rfl⟩ : ∃ x : World, x = wr := ⟨_, rfl⟩; clear e1 hcn hcl hB HY hj hlt; go_wp2; clear f0
       go_loopw [4] (fun q wr => ∃ j : Nat, j ≤ m ∧ q = .int .i64 j ∧ (∀ i, i < j → lmsB (F.links.getD i l0) = true) ∧ Over W2 wr) (fun q _ => m - (intOf q).toNat)
       case atStart => exact ⟨0, Nat.zero_le _, rfl, fun i hi => by omega, over_refl _⟩
       case round =>
        obtain ⟨i, hi, rfl, hyes, hB⟩ := hrel; have HY := Lib.hid hyes; clear hyes; have f1 := (bF.keep hB).c 1 rfl
        by_cases hlt : i < m
        ·have hltI : (i : Int) < (m : Int) := by omega
         obtain ⟨b, o, rfl, hE⟩ := hcl2 i hlt; obtain ⟨x, hx⟩ : ∃ x, F.links.getD i l0 = x := ⟨_, rfl⟩; rw [hx] at hE; obtain ⟨sv, tv, hr, k0, k1, k2, k3, k4, k5, k6⟩ := hE.keep hB; obtain ⟨av, ax, rfl⟩ := hr.1.len; obtain ⟨bv, bx, rfl⟩ := hr.2.len
         have HXM : Hid (x ∈ F.links) := Lib.hid (by
          rw [← hx, List.getD_eq_getElem?_getD, List.getElem?_eq_getElem (by rw [← HM.out]; exact hlt)]
          exact List.getElem_mem _)
         have hwx := wtL_mem HXM.out
         have HWA : Hid ((∀ m ∈ x.ab, wtM m ≤ 1048576) ∧ ∀ m ∈ x.ba, wtM m ≤ 1048576) := Lib.hid (by
          have hw := HW.out; unfold wtF at hw; unfold wtL at hwx
          exact ⟨fun m hm => by have := wtS_mem hm; omega, fun m hm => by have := wtS_mem hm; omega⟩)
         have no : lmsB x = false → ((F.nodes.all fun x => ndB x) && F.links.all fun x => lmsB x) = false := fun q => by
          rw [show (F.links.all fun x => lmsB x) = false from List.all_eq_false.2 ⟨x, HXM.out, by rw [q]; simp⟩, Bool.and_false]
         have NO := Lib.hid no; have HX := Lib.hid hx; have HC := Lib.hid hcl2; have A1 : Below wr.heap.size wr (wr.alloc (.cells #[.int .i64 x.a, .int .i64 x.ai, .int .i64 x.b, .int .i64 x.bi, .bool x.up, .slice av x.ab.length ax, .slice bv x.ba.length bx] 142)) := (Below.refl _ _).alloc (Nat.le_refl _) _; have bP := Bl.new wr [.int .i64 x.a, .int .i64 x.ai, .int .i64 x.b, .int .i64 x.bi, .bool x.up, .slice av x.ab.length ax, .slice bv x.ba.length bx] 142 wr.heap.size rfl; have hr1 := hr.keep A1; have p4 := bP.c 4 rfl; have p5 := bP.c 5 rfl; have p6 := bP.c 6 rfl; clear hx hcl2 hE hr no hwx; cases hma : msB x.ab
         ·have hnn : lmsB x = false := by unfold lmsB; rw [hma, Bool.false_and]
          have HN2 := Lib.hid hnn; have HMA := Lib.hid hma; clear hnn hma; go_wp2_with fail; refine (smsgs_t _ hr1.1 HWA.out.1 HMA).mono ?_; rintro e w1 ⟨rfl, hb1⟩; have bP1 := bP.keep hb1; have hr2 := hr1.keep hb1; have hB1 := below_step (below_step B0 (over_step hB A1)) hb1; have hO1 := over_step (over_step hB A1) hb1; clear p4 p5 p6; have p4 := bP1.c 4 rfl; have p5 := bP1.c 5 rfl; have p6 := bP1.c 6 rfl; go_wp2
          go_ret
          exact ⟨ret_bool (NO.out HN2.out).symm, hB1⟩
         ·have HMA := Lib.hid hma
          cases hmb : msB x.ba
          ·have hnn : lmsB x = false := by unfold lmsB; rw [hmb, Bool.false_and, Bool.and_false]
           have HN2 := Lib.hid hnn; have HMB := Lib.hid hmb; clear hnn hma hmb; go_wp2_with fail; refine (smsgs_t _ hr1.1 HWA.out.1 HMA).mono ?_; rintro e w1 ⟨rfl, hb1⟩; have bP1 := bP.keep hb1; have hr2 := hr1.keep hb1; have hB1 := below_step (below_step B0 (over_step hB A1)) hb1; have hO1 := over_step (over_step hB A1) hb1; clear p4 p5 p6; have p4 := bP1.c 4 rfl; have p5 := bP1.c 5 rfl; have p6 := bP1.c 6 rfl; go_wp2_with fail; refine (smsgs_t _ hr2.2 HWA.out.2 HMB).mono ?_; rintro e w2 ⟨rfl, hb2⟩; have bP2 := bP1.keep hb2; have hB2 := below_step hB1 hb2; have hO2 := over_step hO1 hb2; clear p4 p5 p6; have p4 := bP2.c 4 rfl; have p5 := bP2.c 5 rfl; have p6 := bP2.c 6 rfl; go_wp2
           go_ret
           exact ⟨ret_bool (NO.out HN2.out).symm, hB2⟩
          ·have HMB := Lib.hid hmb
           have hla : x.ab.length ≤ 500 := by unfold msB at hma; simp at hma; exact hma.2
           have hlb : x.ba.length ≤ 500 := by unfold msB at hmb; simp at hmb; exact hmb.2
           have hwr : IntKind.i64.wrap ((x.ab.length : Int) + (x.ba.length : Int)) = (x.ab.length : Int) + (x.ba.length : Int) := wrap64_in _ (by omega) (by omega); cases hup : x.up
           ·rw [hup] at bP A1 hr1 p4 p5 p6 k4
            by_cases hz : x.ab.length + x.ba.length = 0
            ·have hnn : lmsB x = true := by unfold lmsB; rw [hma, hmb, decide_eq_true hz]; simp
             have hzi : ¬ 0 < (x.ab.length : Int) + (x.ba.length : Int) := by omega
             have HN2 := Lib.hid hnn; have HUP := Lib.hid hup; have HZ := Lib.hid hz; clear hnn hma hmb hla hlb hup hz; go_wp2_with fail; refine (smsgs_t _ hr1.1 HWA.out.1 HMA).mono ?_; rintro e w1 ⟨rfl, hb1⟩; have bP1 := bP.keep hb1; have hr2 := hr1.keep hb1; have hB1 := below_step (below_step B0 (over_step hB A1)) hb1; have hO1 := over_step (over_step hB A1) hb1; clear p4 p5 p6; have p4 := bP1.c 4 rfl; have p5 := bP1.c 5 rfl; have p6 := bP1.c 6 rfl; go_wp2_with fail; refine (smsgs_t _ hr2.2 HWA.out.2 HMB).mono ?_; rintro e w2 ⟨rfl, hb2⟩; have bP2 := bP1.keep hb2; have hB2 := below_step hB1 hb2; have hO2 := over_step hO1 hb2; clear p4 p5 p6; have p4 := bP2.c 4 rfl; have p5 := bP2.c 5 rfl; have p6 := bP2.c 6 rfl; go_wp2
             go_roundw
             case rel =>
              refine ⟨i + 1, by omega, by go_num, fun q hq => ?_, hO2⟩
              by_cases hij : q = i
              ·subst hij; rw [HX.out]; exact HN2.out
              ·exact HY.out q (by omega)
             case measure => simp [intOf]; omega
            ·have hnn : lmsB x = false := by unfold lmsB; rw [hma, hmb, hup, decide_eq_false hz]; rfl
             have hzi : 0 < (x.ab.length : Int) + (x.ba.length : Int) := by omega
             have HN2 := Lib.hid hnn; have HUP := Lib.hid hup; have HZ := Lib.hid hz; clear hnn hma hmb hla hlb hup hz; go_wp2_with fail; refine (smsgs_t _ hr1.1 HWA.out.1 HMA).mono ?_; rintro e w1 ⟨rfl, hb1⟩; have bP1 := bP.keep hb1; have hr2 := hr1.keep hb1; have hB1 := below_step (below_step B0 (over_step hB A1)) hb1; have hO1 := over_step (over_step hB A1) hb1; clear p4 p5 p6; have p4 := bP1.c 4 rfl; have p5 := bP1.c 5 rfl; have p6 := bP1.c 6 rfl; go_wp2_with fail; refine (smsgs_t _ hr2.2 HWA.out.2 HMB).mono ?_; rintro e w2 ⟨rfl, hb2⟩; have bP2 := bP1.keep hb2; have hB2 := below_step hB1 hb2; have hO2 := over_step hO1 hb2; clear p4 p5 p6; have p4 := bP2.c 4 rfl; have p5 := bP2.c 5 rfl; have p6 := bP2.c 6 rfl; go_wp2
             go_ret
             exact ⟨ret_bool (NO.out HN2.out).symm, hB2⟩
           ·rw [hup] at bP A1 hr1 p4 p5 p6 k4
            have hnn : lmsB x = true := by unfold lmsB; rw [hma, hmb, hup]; rfl
            have HN2 := Lib.hid hnn; have HUP := Lib.hid hup; clear hnn hma hmb hla hlb hup; go_wp2_with fail; refine (smsgs_t _ hr1.1 HWA.out.1 HMA).mono ?_; rintro e w1 ⟨rfl, hb1⟩; have bP1 := bP.keep hb1; have hr2 := hr1.keep hb1; have hB1 := below_step (below_step B0 (over_step hB A1)) hb1; have hO1 := over_step (over_step hB A1) hb1; clear p4 p5 p6; have p4 := bP1.c 4 rfl; have p5 := bP1.c 5 rfl; have p6 := bP1.c 6 rfl; go_wp2_with fail; refine (smsgs_t _ hr2.2 HWA.out.2 HMB).mono ?_; rintro e w2 ⟨rfl, hb2⟩; have bP2 := bP1.keep hb2; have hB2 := below_step hB1 hb2; have hO2 := over_step hO1 hb2; clear p4 p5 p6; have p4 := bP2.c 4 rfl; have p5 := bP2.c 5 rfl; have p6 := bP2.c 6 rfl; go_wp2
            go_roundw
            case rel =>
             refine ⟨i + 1, by omega, by go_num, fun q hq => ?_, hO2⟩
             by_cases hij : q = i
             ·subst hij; rw [HX.out]; exact HN2.out
             ·exact HY.out q (by omega)
            case measure => simp [intOf]; omega
        ·have hkn : i = m := by omega
         subst hkn
         have e1 : (F.links.all fun x => lmsB x) = true := List.all_eq_true.2 fun x hx => by
          obtain ⟨q, hq, e⟩ := List.mem_iff_getElem.1 hx; have := HY.out q (by rw [HM.out]; exact hq); rw [List.getD_eq_getElem?_getD, List.getElem?_eq_getElem hq] at this; rw [← e]
          exact this
         have HE2 := Lib.hid e1; clear e1 hcl2; go_wp2
         go_ret
         exact ⟨ret_bool (by rw [HE1.out, HE2.out]; rfl), below_step B0 hB⟩
  ·rw [show fsB F = false by unfold fsB; rw [decide_eq_false hD, Bool.false_and, Bool.and_false]]
   have hy : (12 : Int) < (F.links.length : Int) := by omega
   clear hA hD
   go_enter Tryz.func87, Tryz.ntmps87
   go_wp2
   go_ret
   exact ⟨rfl, B0⟩

end Go.Proofs.YtbcmoofpgffbhabGreat
namespace Go.Proofs.YtbcmoofpgffbhabGreat
open Go.ChangeShapes Go.WideShapes Go.ChangeAt Go.RowKit Go.BigFrame Go.Joins
set_option linter.unusedVariables false
set_option maxRecDepth 100000
set_option linter.unusedSimpArgs false
set_option maxRecDepth 100000

def fb0 : Fb := ⟨[], [], 0⟩
def okM (x : Fb) (node : Int) : Bool := fbB x && inB node 0 ((x.nodes.length : Int) - 1)
theorem ihasF_any (nv lv : Value) (x : Fb) (node : Int) (w : World) (h : RdF w nv lv x) (hw : wtF x ≤ 1048576) :
  Calls Tryz.prog 91 #[.agg #[nv, lv, .int .i64 x.width], .int .i64 node] w fun e w' => e = .returned (.bool (okM x node)) ∧ Below w.heap.size w w' := by
 have hn1 : x.nodes.length ≤ 1048576 ∧ x.links.length ≤ 1048576 := by unfold wtF at hw; omega
 obtain ⟨na, nc, rfl⟩ := h.1.len; obtain ⟨la, lc, rfl⟩ := h.2.len; obtain ⟨bA, B1, z⟩ := one w [.slice na x.nodes.length nc, .slice la x.links.length lc, .int .i64 x.width] 60; have hR := h.keep B1; have a0 := bA.c 0 rfl; have a1 := bA.c 1 rfl; have a2 := bA.c 2 rfl; obtain ⟨ok, hO⟩ : ∃ b, b = okM x node := ⟨_, rfl⟩; rw [← hO]
 go_enter Tryz.func91, Tryz.ntmps91
 go_wp2_with fail; clear a0 a1 a2 z; refine (ifok_any _ _ x _ hR hn1.1 hn1.2).mono ?_; rintro e w1 ⟨rfl, hb⟩; replace bA := bA.keep hb; replace B1 := below_step B1 hb; clear hb hR h; unfold okM at hO; cases hf : fbB x
 ·rw [hf, Bool.false_and] at hO
  subst hO; go_wp2_with fail
  go_ret
  exact ⟨rfl, B1⟩
 ·rw [hf, Bool.true_and] at hO
  have a0 := bA.c 0 rfl; have hw1 : IntKind.i64.wrap ((x.nodes.length : Int) - 1) = (x.nodes.length : Int) - 1 := wrap64_in _ (by omega) (by omega); go_wp2_with fail; refine (within_any node 0 ((x.nodes.length : Int) - 1) w1).mono ?_; rintro e w2 ⟨rfl, rfl⟩; subst hO; go_wp2_with fail
  go_ret
  exact ⟨rfl, B1⟩
end Go.Proofs.YtbcmoofpgffbhabGreat
namespace Go.Proofs.YtbcmoofpgffbhabGreat
open Go.ChangeShapes Go.WideShapes Go.ChangeAt Go.RowKit Go.BigFrame Go.Joins
set_option linter.unusedVariables false
set_option maxRecDepth 100000
set_option linter.unusedSimpArgs false
set_option maxRecDepth 100000

theorem icovO_t {a n x : Int} {v : Bool} (w : World) (h : Hid (covB a n x = v)) : Calls Tryz.prog 170 #[.agg #[.int .i64 a, .int .i64 n], .int .i64 x] w fun e w' => e = .returned (.bool v) ∧ Below w.heap.size w w' := h.out ▸ icov_any a n x w
/-- one prefix more looked at -/
def bstepO (x : Int) (s : (Int × Int) × Bool) (q : Int × Int) : (Int × Int) × Bool := if (covB q.1 q.2 x && (!s.2 || decide (s.1.2 < q.2))) = true then (q, true) else s
def bestO (x : Int) (l : List (Int × Int)) (s : (Int × Int) × Bool) : (Int × Int) × Bool := l.foldl (bstepO x) s
def ownsK (L : List Nd) (k : Nat) : List (Int × Int) := (L.take k).flatMap (·.own)
def bestF (F : Fb) (x : Int) : (Int × Int) × Bool := bestO x (F.nodes.flatMap (·.own)) ((0, 0), false)
theorem bestO_succ {x : Int} {l : List (Int × Int)} {k : Nat} {q : Int × Int} {s s0 : (Int × Int) × Bool} (hk : k < l.length) (hq : l.getD k (0, 0) = q) (h : bestO x (l.take k) s0 = s) : bestO x (l.take (k + 1)) s0 = bstepO x s q := by
 have e : l[k] = q := by simpa [List.getD, hk] using hq
 unfold bestO at h ⊢; rw [List.take_succ_eq_append_getElem hk, List.foldl_append, e, h]
 rfl
theorem bestO_node {x : Int} {L : List Nd} {k : Nat} {N : Nd} {s s0 s1 : (Int × Int) × Bool} (hk : k < L.length) (hN : L.getD k n0 = N) (h : bestO x (ownsK L k) s0 = s) (h1 : bestO x N.own s = s1) : bestO x (ownsK L (k + 1)) s0 = s1 := by
 have e : L[k] = N := by simpa [List.getD, hk] using hN
 unfold ownsK at h ⊢; rw [List.take_succ_eq_append_getElem hk, List.flatMap_append, e]; unfold bestO at h h1 ⊢; rw [List.foldl_append, h]
 simpa using h1
set_option maxHeartbeats 8000000 in
theorem ilong_any (nv lv : Value) (F : Fb) (x : Int) (w : World) (h : RdF w nv lv F) (hw : wtF F ≤ 1048576) :
  Calls Tryz.prog 99 #[.agg #[nv, lv, .int .i64 F.width], .int .i64 x] w fun e w' => e = .returned (.tuple #[.agg #[.int .i64 (bestF F x).1.1, .int .i64 (bestF F x).1.2], .bool (bestF F x).2]) ∧ Below w.heap.size w w' := by
 have hn1 : F.nodes.length ≤ 1048576 := by unfold wtF at hw; omega
 obtain ⟨na, nc, rfl, hc⟩ := h.1.el; obtain ⟨la, lc, rfl⟩ := h.2.len; obtain ⟨n, hn⟩ : ∃ n, n = F.nodes.length := ⟨_, rfl⟩; rw [← hn] at hc hn1 ⊢; have HN := Lib.hid hn; obtain ⟨nl, hnl⟩ : ∃ n, n = F.links.length := ⟨_, rfl⟩; rw [← hnl]; clear h hw hn hnl; obtain ⟨bA, bR, bG, B0, z⟩ := three w [.slice na n nc, .slice la nl lc, .int .i64 F.width] [.int .i64 0, .int .i64 0] [.int .i64 0, .int .i64 0] 60 PT PT; have a0 := bA.c 0 rfl
 go_enter Tryz.func99, Tryz.ntmps99
 go_wp2; obtain ⟨A, hA⟩ : ∃ A, A = w.heap.size := ⟨_, rfl⟩; obtain ⟨R, hR⟩ : ∃ A, A = w.heap.size + 1 := ⟨_, rfl⟩; obtain ⟨G, hG⟩ : ∃ A, A = w.heap.size + 1 + 1 := ⟨_, rfl⟩; obtain ⟨W1, hW⟩ : ∃ W1, W1 = ((w.alloc (.cells #[.slice na n nc, .slice la nl lc, .int .i64 F.width] 60)).alloc (.cells #[.int .i64 0, .int .i64 0] PT)).alloc (.cells #[.int .i64 0, .int .i64 0] PT) := ⟨_, rfl⟩; rw [← hW] at bA bR bG B0 z a0 ⊢; rw [← hR] at bR; rw [← hG] at bG
 try rw [show w.heap.size + 2 = G by omega]
 try rw [← hG]
 try rw [← hR]
 try rw [← hA]
 have hL : w.heap.size ≤ R ∧ w.heap.size ≤ G ∧ R ≠ G ∧ G < W1.heap.size := by omega
 clear hA hR hG hW z a0 bA
 go_loopw [7, 15] (fun fv q wr => ∃ k : Nat, k ≤ n ∧ q = .int .i64 k ∧ ∃ pa pn f, bestO x (ownsK F.nodes k) ((0, 0), false) = ((pa, pn), f) ∧ fv = .bool f ∧ Bl wr G [.int .i64 pa, .int .i64 pn] ∧ Bl wr R [.int .i64 0, .int .i64 0] ∧ Below w.heap.size w wr ∧ G < wr.heap.size) (fun _ q _ => n - (intOf q).toNat)
 case atStart => exact ⟨0, Nat.zero_le _, rfl, 0, 0, false, rfl, rfl, bG, bR, B0, hL.2.2.2⟩
 case round =>
  clear bG bR B0; obtain ⟨k, hk, rfl, pa, pn, f, hb0, rfl, bG, bR, hB, hGs⟩ := hrel
  by_cases hlt : k < n
  ·have hltI : (k : Int) < (n : Int) := by omega
   obtain ⟨b, o, rfl, hE⟩ := hc k hlt; obtain ⟨N, hx⟩ : ∃ N, F.nodes.getD k n0 = N := ⟨_, rfl⟩; rw [hx] at hE; obtain ⟨ov, rv, sv, hr, G0, G1, G2, G3, G4, G5⟩ := hE; obtain ⟨oa, oc, rfl, hp⟩ := hr.1.el; have hpl := hr.1.1; obtain ⟨ra, rc, rfl⟩ := hr.2.1.len; obtain ⟨sa, sc, rfl⟩ := hr.2.2.len; have g0 := cell_keep hB (World.block_lt_of_cell? w _ G0) G0; have g1 := cell_keep hB (World.block_lt_of_cell? w _ G1) G1; have g2 := cell_keep hB (World.block_lt_of_cell? w _ G2) G2; have g3 := cell_keep hB (World.block_lt_of_cell? w _ G3) G3; have g4 := cell_keep hB (World.block_lt_of_cell? w _ G4) G4; have g5 := cell_keep hB (World.block_lt_of_cell? w _ G5) G5; have bP := Bl.new wr [.int .i64 N.an, .slice oa N.own.length oc, .int .i64 N.bw, .bool N.dr, .slice ra N.rib.length rc, .slice sa N.sent.length sc] 35 wr.heap.size rfl; have A1 : Below wr.heap.size wr (wr.alloc (.cells #[.int .i64 N.an, .slice oa N.own.length oc, .int .i64 N.bw, .bool N.dr, .slice ra N.rib.length rc, .slice sa N.sent.length sc] 35)) := (Below.refl _ _).alloc (Nat.le_refl _) _; have p1 := bP.c 1 rfl; have HX := Lib.hid (fun s1 (q : bestO x N.own ((pa, pn), f) = s1) => bestO_node (by rw [← HN.out]; exact hlt) hx hb0 q); have HC := Lib.hid hc; obtain ⟨m, hm⟩ : ∃ m, m = N.own.length := ⟨_, rfl⟩; rw [← hm] at hp hpl
   try rw [← hm]
   have HM := Lib.hid hm; rw [← hm] at bP A1 p1 g1; clear hx hc hr hb0 hm G0 G1 G2 G3 G4 G5; go_wp2; clear p1 g0 g1 g2 g3 g4 g5; obtain ⟨V, hV⟩ : ∃ V, V = wr.alloc (.cells #[.int .i64 N.an, .slice oa m oc, .int .i64 N.bw, .bool N.dr, .slice ra N.rib.length rc, .slice sa N.sent.length sc] 35) := ⟨_, rfl⟩; rw [← hV] at A1 ⊢; have hB1 := below_step hB A1; have bG1 := bG.keep A1; have bR1 := bR.keep A1; have HP := Lib.hid hp; clear bP hV A1 hB bG bR hp
   go_loopw [7, 22] (fun fv q ws => ∃ j : Nat, j ≤ m ∧ q = .int .i64 j ∧ ∃ qa qn g, bestO x (N.own.take j) ((pa, pn), f) = ((qa, qn), g) ∧ fv = .bool g ∧ Bl ws G [.int .i64 qa, .int .i64 qn] ∧ Bl ws R [.int .i64 0, .int .i64 0] ∧ Below w.heap.size w ws) (fun _ q _ => m - (intOf q).toNat)
   case atStart => exact ⟨0, Nat.zero_le _, rfl, pa, pn, f, rfl, rfl, bG1, bR1, hB1⟩
   case round =>
    clear bG1 bR1 hB1; obtain ⟨j, hj, rfl, qa, qn, g, hb1, rfl, bG, bR, hB⟩ := hrel
    by_cases hlj : j < m
    ·have hljI : (j : Int) < (m : Int) := by omega
     obtain ⟨b2, o2, hoa, d0, d1⟩ := HP.out j hlj; subst hoa; obtain ⟨⟨u, t⟩, hx⟩ : ∃ q, N.own.getD j (0, 0) = q := ⟨_, rfl⟩; rw [hx] at d0 d1
     dsimp only at d0 d1
     have c0 := cell_keep hB (World.block_lt_of_cell? w _ d0) d0; have c1 := cell_keep hB (World.block_lt_of_cell? w _ d1) d1; have HST := Lib.hid (bestO_succ (by rw [← HM.out]; exact hlj) hx hb1); obtain ⟨cv, hcv⟩ : ∃ c, covB u t x = c := ⟨_, rfl⟩; have HCV := Lib.hid hcv; obtain ⟨bQ, N2, z2⟩ := one wr [.int .i64 u, .int .i64 t] PT; have q0 := bQ.c 0 rfl; have q1 := bQ.c 1 rfl; clear hx hb1 hcv d0 d1 z2; go_wp2_with fail; refine (icovO_t _ HCV).mono ?_; rintro e w2 ⟨rfl, hb⟩; have D2 := below_step N2 hb; replace bQ := bQ.keep hb; replace bG := bG.keep D2; replace bR := bR.keep D2; replace hB := below_step hB D2; clear hb D2 N2 q0 q1 c0 c1; have q0 := bQ.c 0 rfl; have q1 := bQ.c 1 rfl; have e0 := bG.c 0 rfl; have e1 := bG.c 1 rfl; have f0 := bG.f 0 rfl; have f1 := bG.f 1 rfl; have bS := (bG.set 0 (.int .i64 u)).set 1 (.int .i64 t); have bT := (bR.far (o := 0) (u := .int .i64 u) hL.2.2.1).far (o := 1) (u := .int .i64 t) hL.2.2.1; have hBS := (hB.setCell (p := ⟨G, 0, none⟩) hL.2.1 (.int .i64 u)).setCell (p := ⟨G, 1, none⟩) hL.2.1 (.int .i64 t); have HSS := Lib.hid (And.intro bS (And.intro bT hBS)); clear bS bT hBS bQ; cases cv
     ·have HB : Hid (bestO x (N.own.take (j + 1)) ((pa, pn), f) = ((qa, qn), g)) := Lib.hid (by rw [HST.out]; unfold bstepO; rw [HCV.out]; rfl)
      go_wp2
      go_roundw
      case rel => exact ⟨j + 1, by omega, by go_num, qa, qn, g, HB.out, rfl, bG, bR, hB⟩
      case measure => simp [intOf]; omega
     ·cases g
      ·have HB : Hid (bestO x (N.own.take (j + 1)) ((pa, pn), f) = ((u, t), true)) := Lib.hid (by rw [HST.out]; unfold bstepO; rw [HCV.out]; rfl)
       go_wp2
       go_roundw
       case rel => exact ⟨j + 1, by omega, by go_num, u, t, true, HB.out, rfl, HSS.out.1, HSS.out.2.1, HSS.out.2.2⟩
       case measure => simp [intOf]; omega
      ·by_cases hlen : qn < t
       ·have HB : Hid (bestO x (N.own.take (j + 1)) ((pa, pn), f) = ((u, t), true)) := Lib.hid (by rw [HST.out]; unfold bstepO; dsimp only; rw [HCV.out, decide_eq_true hlen]; rfl)
        go_wp2
        go_roundw
        case rel => exact ⟨j + 1, by omega, by go_num, u, t, true, HB.out, rfl, HSS.out.1, HSS.out.2.1, HSS.out.2.2⟩
        case measure => simp [intOf]; omega
       ·have HB : Hid (bestO x (N.own.take (j + 1)) ((pa, pn), f) = ((qa, qn), true)) := Lib.hid (by rw [HST.out]; unfold bstepO; dsimp only; rw [HCV.out, decide_eq_false hlen]; rfl)
        go_wp2
        go_roundw
        case rel => exact ⟨j + 1, by omega, by go_num, qa, qn, true, HB.out, rfl, bG, bR, hB⟩
        case measure => simp [intOf]; omega
    ·have hjm : j = m := by omega
     subst hjm; have HB := Lib.hid (HX.out ((qa, qn), g) (by rw [show N.own = N.own.take j by rw [HM.out, List.take_length]]; exact hb1)); have hGl := bG.lt; clear hb1; go_wp2
     go_roundw
     case rel => exact ⟨k + 1, by omega, by go_num, qa, qn, g, HB.out, rfl, bG, bR, hB, hGl⟩
     case measure => simp [intOf]; omega
  ·have hkn : k = n := by omega
   subst hkn; have HF : Hid (bestF F x = ((pa, pn), f)) := Lib.hid (by rw [← hb0]; unfold bestF ownsK; rw [List.take_of_length_le (by rw [← HN.out]; exact Nat.le_refl _)]); clear hb0 hc; have e0 := bG.c 0 rfl; have e1 := bG.c 1 rfl; have f0 := bR.f 0 rfl; have f1 := bR.f 1 rfl; have r0 := bR.c 0 rfl; have r1 := bR.c 1 rfl; have bS := (bR.set 0 (.int .i64 pa)).set 1 (.int .i64 pn); have hBS := (hB.setCell (p := ⟨R, 0, none⟩) hL.1 (.int .i64 pa)).setCell (p := ⟨R, 1, none⟩) hL.1 (.int .i64 pn); have s0 := bS.c 0 rfl; have s1 := bS.c 1 rfl; have HS := Lib.hid (And.intro s0 (And.intro s1 hBS)); clear s0 s1 bS hBS; go_wp2
   exact bodyPost_ret (v := .tuple #[.agg #[.int .i64 pa, .int .i64 pn], .bool f]) (by simp [results, Tryz.results99, go_sem, HS.out.1, HS.out.2.1]) rfl ⟨by rw [HF.out], HS.out.2.2⟩
end Go.Proofs.YtbcmoofpgffbhabGreat
namespace Go.Proofs.YtbcmoofpgffbhabGreat
open Go.ChangeShapes Go.WideShapes Go.ChangeAt Go.RowKit Go.BigFrame Go.Joins
set_option linter.unusedVariables false
set_option maxRecDepth 100000
set_option linter.unusedSimpArgs false
set_option maxRecDepth 100000

def samePO (p q : Int × Int) : Bool := decide (p.1 = q.1 ∧ p.2 = q.2)
set_option maxHeartbeats 1000000 in
theorem iixO_any (v : Value) (P : List (Int × Int)) (p : Int × Int) (w : World) (h : RdP w v P) (hn1 : P.length ≤ 9223372036854775807) :
  Calls Tryz.prog 232 #[v, .agg #[.int .i64 p.1, .int .i64 p.2]] w fun e w' => ∃ r : Int, e = .returned (.int .i64 r) ∧ decide (0 ≤ r) = (P.any fun q => samePO p q) ∧ Below w.heap.size w w' := by
 obtain ⟨a, c, rfl, hc⟩ := h.el; obtain ⟨n, hn⟩ : ∃ n, n = P.length := ⟨_, rfl⟩; rw [← hn] at hc hn1 ⊢; have HN := Lib.hid hn; clear h hn; obtain ⟨x, y⟩ := p; obtain ⟨bZ, B0, z⟩ := one w [.int .i64 x, .int .i64 y] 93; obtain ⟨V, hV⟩ : ∃ V, V = w.alloc (.cells #[.int .i64 x, .int .i64 y] 93) := ⟨_, rfl⟩; rw [← hV] at bZ B0; have lZ := bZ.lt; clear z
 dsimp only
 go_enter Tryz.func232, Tryz.ntmps232
 go_wp2; rw [← hV]; clear hV
 go_loopw [8] (fun q wr => ∃ k : Nat, k ≤ n ∧ q = .int .i64 k ∧ (∀ j, j < k → samePO (x, y) (P.getD j (0, 0)) = false) ∧ Over V wr) (fun q _ => n - (intOf q).toNat)
 case atStart => exact ⟨0, Nat.zero_le _, rfl, fun j hj => by omega, over_refl V⟩
 case round =>
  obtain ⟨k, hk, rfl, hno, hB⟩ := hrel
  by_cases hlt : k < n
  ·have hltI : (k : Int) < (n : Int) := by omega
   have hwi : IntKind.i64.wrap (k : Int) = (k : Int) := wrap64_in _ (by omega) (by omega); obtain ⟨b, o, rfl, d0, d1⟩ := hc k hlt; obtain ⟨⟨u, t⟩, hx⟩ : ∃ q, P.getD k (0, 0) = q := ⟨_, rfl⟩; rw [hx] at d0 d1
   dsimp only at d0 d1
   have d0 := cell_keep B0 (World.block_lt_of_cell? w _ d0) d0; have d1 := cell_keep B0 (World.block_lt_of_cell? w _ d1) d1; have g0 := over_cell hB (World.block_lt_of_cell? _ _ d0) d0; have g1 := over_cell hB (World.block_lt_of_cell? _ _ d1) d1; have z0 := over_cell hB lZ (bZ.c 0 rfl); have z1 := over_cell hB lZ (bZ.c 1 rfl); have HX := Lib.hid hx; have HO := Lib.hid hno; have HC := Lib.hid hc; clear hx hno hc d0 d1
   by_cases he : x = u ∧ y = t
   ·obtain ⟨rfl, rfl⟩ := he
    go_wp2
    go_region
    go_wp2
    go_ret
    refine ⟨(k : Int), rfl, ?_, below_step B0 (Below.drew hB)⟩; rw [decide_eq_true (by omega)]; refine (List.any_eq_true.2 ⟨P.getD k (0, 0), ?_, ?_⟩).symm
    ·have hk' : k < P.length := by rw [← HN.out]; exact hlt
     simp [List.getD, hk']
    ·rw [HX.out]; exact decide_eq_true ⟨rfl, rfl⟩
   ·have HE2 : Hid (samePO (x, y) (u, t) = false) := Lib.hid (decide_eq_false he)
    by_cases hx : x = u
    ·have hy : ¬ y = t := fun e => he ⟨hx, e⟩
     subst hx; clear he; go_wp2
     go_region
     go_wp2
     go_roundw
     case rel =>
      refine ⟨k + 1, by omega, by go_num, fun j hj => ?_, Below.drew hB⟩
      by_cases q : j = k
      ·subst q; rw [HX.out]; exact HE2.out
      ·exact HO.out j (by omega)
     case measure => simp [intOf]; omega
    ·clear he
     go_wp2
     go_region
     go_wp2
     go_roundw
     case rel =>
      refine ⟨k + 1, by omega, by go_num, fun j hj => ?_, Below.drew hB⟩
      by_cases q : j = k
      ·subst q; rw [HX.out]; exact HE2.out
      ·exact HO.out j (by omega)
     case measure => simp [intOf]; omega
  ·have hkn : k = n := by omega
   subst hkn; have HO := Lib.hid hno; clear hno hc; go_wp2
   go_ret
   refine ⟨-1, rfl, ?_, below_step B0 hB⟩; refine (List.any_eq_false.2 fun q hq => ?_).symm; obtain ⟨j, hj, rfl⟩ := List.mem_iff_getElem.1 hq; have := HO.out j (by rw [HN.out]; exact hj); rw [show P.getD j (0, 0) = P[j] by simp [List.getD, hj]] at this; rw [this]
   simp
theorem iconO_any (v : Value) (P : List (Int × Int)) (p : Int × Int) (w : World) (h : RdP w v P) (hn1 : P.length ≤ 9223372036854775807) :
  Calls Tryz.prog 171 #[v, .agg #[.int .i64 p.1, .int .i64 p.2]] w fun e w' => e = .returned (.bool (P.any fun q => samePO p q)) ∧ Below w.heap.size w w' := by
 obtain ⟨x, y⟩ := p; obtain ⟨a, c, rfl⟩ := h.len; obtain ⟨bZ, B0, z⟩ := one w [.int .i64 x, .int .i64 y] 93; have z0 := bZ.c 0 rfl; have z1 := bZ.c 1 rfl
 dsimp only
 go_enter Tryz.func171, Tryz.ntmps171
 go_wp2_with fail; clear z0 z1 z; refine (iixO_any _ P (x, y) _ (h.keep B0) hn1).mono ?_; rintro e w1 ⟨r, rfl, hr, hb⟩; replace B0 := below_step B0 hb; have HR := Lib.hid hr; clear hr hb bZ; go_wp2
 go_ret
 exact ⟨by rw [← HR.out]; first | rfl | simp, B0⟩
/-- an array of eight -/
def arr8 (r : Nat → Bool) : Value := .agg #[.bool (r 0), .bool (r 1), .bool (r 2), .bool (r 3), .bool (r 4), .bool (r 5), .bool (r 6), .bool (r 7)]
abbrev cells8 (r : Nat → Bool) : List Value := [.bool (r 0), .bool (r 1), .bool (r 2), .bool (r 3), .bool (r 4), .bool (r 5), .bool (r 6), .bool (r 7)]
theorem cells8_at (r : Nat → Bool) {k : Nat} (hk : k < 8) : (cells8 r)[k]? = some (.bool (r k)) := by
 rcases k with _ | _ | _ | _ | _ | _ | _ | _ | k
 iterate 8 rfl
 omega
def ownsP (F : Fb) (p : Int × Int) (i : Nat) : Bool := (F.nodes.getD i n0).own.any fun q => samePO p q
def reachB (F : Fb) (r : Nat → Bool) (p : Int × Int) : Bool := (List.range F.nodes.length).any fun i => r i && ownsP F p i
theorem iconO_t {v : Value} {P : List (Int × Int)} {a n : Int} {b : Bool} (w : World) (H : Hid ((P.any fun q => samePO (a, n) q) = b)) (h : RdP w v P) (hn1 : P.length ≤ 9223372036854775807) :
  Calls Tryz.prog 171 #[v, .agg #[.int .i64 a, .int .i64 n]] w fun e w' => e = .returned (.bool b) ∧ Below w.heap.size w w' := H.out ▸ iconO_any v P (a, n) w h hn1
set_option maxHeartbeats 4000000 in
theorem ireach_any (nv lv : Value) (F : Fb) (r : Nat → Bool) (pa pn : Int) (w : World) (h : RdF w nv lv F) (h8 : F.nodes.length ≤ 8) :
  Calls Tryz.prog 100 #[.agg #[nv, lv, .int .i64 F.width], arr8 r, .agg #[.int .i64 pa, .int .i64 pn]] w fun e w' => e = .returned (.bool (reachB F r (pa, pn))) ∧ Below w.heap.size w w' := by
 obtain ⟨na, nc, rfl, hc⟩ := h.1.el; obtain ⟨la, lc, rfl⟩ := h.2.len; obtain ⟨n, hn⟩ : ∃ n, n = F.nodes.length := ⟨_, rfl⟩; rw [← hn] at hc h8 ⊢; have HN := Lib.hid hn; obtain ⟨nl, hnl⟩ : ∃ n, n = F.links.length := ⟨_, rfl⟩; rw [← hnl]; clear h hn hnl; unfold arr8; obtain ⟨bA, bX, bP, B0, z⟩ := three w [.slice na n nc, .slice la nl lc, .int .i64 F.width] (cells8 r) [.int .i64 pa, .int .i64 pn] 60 136 PT; have a0 := bA.c 0 rfl
 go_enter Tryz.func100, Tryz.ntmps100
 go_wp2; obtain ⟨A, hA⟩ : ∃ A, A = w.heap.size := ⟨_, rfl⟩; obtain ⟨X, hX⟩ : ∃ A, A = w.heap.size + 1 := ⟨_, rfl⟩; obtain ⟨G, hG⟩ : ∃ A, A = w.heap.size + 1 + 1 := ⟨_, rfl⟩
 dsimp only [cells8] at bA bX bP B0 z
 obtain ⟨W1, hW⟩ : ∃ W1, W1 = ((w.alloc (.cells #[.slice na n nc, .slice la nl lc, .int .i64 F.width] 60)).alloc (.cells #[.bool (r 0), .bool (r 1), .bool (r 2), .bool (r 3), .bool (r 4), .bool (r 5), .bool (r 6), .bool (r 7)] 136)).alloc (.cells #[.int .i64 pa, .int .i64 pn] PT) := ⟨_, rfl⟩; rw [← hW] at bA bX bP B0 z a0 ⊢; rw [← hX] at bX; rw [← hG] at bP
 try rw [show w.heap.size + 2 = G by omega]
 try rw [← hG]
 try rw [← hX]
 try rw [← hA]
 clear hA hX hG hW z a0 bA
 go_loopw [12] (fun q wr => ∃ k : Nat, k ≤ n ∧ q = .int .i64 k ∧ (∀ i, i < k → (r i && ownsP F (pa, pn) i) = false) ∧ Bl wr X (cells8 r) ∧ Bl wr G [.int .i64 pa, .int .i64 pn] ∧ Below w.heap.size w wr) (fun q _ => n - (intOf q).toNat)
 case atStart => exact ⟨0, Nat.zero_le _, rfl, fun i hi => by omega, bX, bP, B0⟩
 case round =>
  clear bX bP B0; obtain ⟨k, hk, rfl, hno, bX, bP, hB⟩ := hrel
  by_cases hlt : k < n
  ·have hltI : (k : Int) < (n : Int) := by omega
   have hk8 : (k : Int) < 8 := by omega
   have hk8n : k < 8 := by omega
   obtain ⟨b, o, rfl, hE⟩ := hc k hlt; obtain ⟨N, hx⟩ : ∃ N, F.nodes.getD k n0 = N := ⟨_, rfl⟩; rw [hx] at hE; obtain ⟨ov, rv, sv, hr, G0, G1, G2, G3, G4, G5⟩ := hE; obtain ⟨oa, oc, rfl⟩ := hr.1.len; have hro := hr.1; have hpl := hr.1.1; obtain ⟨ra, rc, rfl⟩ := hr.2.1.len; obtain ⟨sa, sc, rfl⟩ := hr.2.2.len; have g0 := cell_keep hB (World.block_lt_of_cell? w _ G0) G0; have g1 := cell_keep hB (World.block_lt_of_cell? w _ G1) G1; have g2 := cell_keep hB (World.block_lt_of_cell? w _ G2) G2; have g3 := cell_keep hB (World.block_lt_of_cell? w _ G3) G3; have g4 := cell_keep hB (World.block_lt_of_cell? w _ G4) G4; have g5 := cell_keep hB (World.block_lt_of_cell? w _ G5) G5; obtain ⟨d, hd⟩ : ∃ d, ownsP F (pa, pn) k = d := ⟨_, rfl⟩; have HD : Hid ((N.own.any fun q => samePO (pa, pn) q) = d) := Lib.hid (by rw [← hd]; unfold ownsP; rw [hx]); obtain ⟨m, hm⟩ : ∃ m, m = N.own.length := ⟨_, rfl⟩; rw [← hm] at hpl hro g1; obtain ⟨bN, N2, z2⟩ := one wr [.int .i64 N.an, .slice oa m oc, .int .i64 N.bw, .bool N.dr, .slice ra N.rib.length rc, .slice sa N.sent.length sc] 35; have n1 := bN.c 1 rfl; obtain ⟨rk, hrk⟩ : ∃ b, r k = b := ⟨_, rfl⟩; have xk := (bX.keep N2).c k (cells8_at r hk8n); rw [hrk] at xk; have y0 := (bP.keep N2).c 0 rfl; have y1 := (bP.keep N2).c 1 rfl; have HRO := Lib.hid hro; have HR := Lib.hid (And.intro hrk hd); have HNO := Lib.hid hno; have HC := Lib.hid hc; have HM := Lib.hid hm; clear hx hc hr hno hrk hd hm z2 hro G0 G1 G2 G3 G4 G5; cases rk
   ·have HNX : Hid (∀ i, i < k + 1 → (r i && ownsP F (pa, pn) i) = false) := Lib.hid fun i hi => by
     by_cases q : i = k
     ·subst q; rw [HR.out.1]; rfl
     ·exact HNO.out i (by omega)
    go_wp2
    go_roundw
    case rel => exact ⟨k + 1, by omega, by go_num, HNX.out, bX.keep N2, bP.keep N2, below_step hB N2⟩
    case measure => simp [intOf]; omega
   ·go_wp2_with fail
    have hcall := iconO_t (v := .slice oa m oc) (wr.alloc (.cells #[.int .i64 N.an, .slice oa m oc, .int .i64 N.bw, .bool N.dr, .slice ra N.rib.length rc, .slice sa N.sent.length sc] 35)) HD (HRO.out.keep (below_step hB N2)) (by rw [← HM.out]; exact hpl); refine hcall.mono ?_; rintro e w2 ⟨rfl, hb⟩; have D2 := below_step N2 hb; replace bX := bX.keep D2; replace bP := bP.keep D2; replace hB := below_step hB D2; clear hb D2 N2 bN n1 xk y0 y1 g0 g1 g2 g3 g4 g5 hcall; cases d
    ·have HNX : Hid (∀ i, i < k + 1 → (r i && ownsP F (pa, pn) i) = false) := Lib.hid fun i hi => by
      by_cases q : i = k
      ·subst q; rw [HR.out.2, Bool.and_false]
      ·exact HNO.out i (by omega)
     go_wp2
     go_roundw
     case rel => exact ⟨k + 1, by omega, by go_num, HNX.out, bX, bP, hB⟩
     case measure => simp [intOf]; omega
    ·have HF : Hid (reachB F r (pa, pn) = true) := Lib.hid (List.any_eq_true.2 ⟨k, List.mem_range.2 (by rw [← HN.out]; exact hlt), by rw [HR.out.1, HR.out.2]; rfl⟩)
     go_wp2
     go_ret
     exact ⟨ret_bool HF.out.symm, hB⟩
  ·have hkn : k = n := by omega
   subst hkn
   have HF : Hid (reachB F r (pa, pn) = false) := Lib.hid (List.any_eq_false.2 fun i hi => by
    rw [hno i (by rw [HN.out]; exact List.mem_range.1 hi)]
    simp)
   clear hno hc; go_wp2
   go_ret
   exact ⟨ret_bool HF.out.symm, hB⟩
end Go.Proofs.YtbcmoofpgffbhabGreat
namespace Go.Proofs.YtbcmoofpgffbhabGreat
open Go.ChangeShapes Go.WideShapes Go.ChangeAt Go.RowKit Go.BigFrame Go.Joins
set_option linter.unusedVariables false
set_option maxRecDepth 100000
set_option linter.unusedSimpArgs false
set_option maxRecDepth 100000

theorem flatW_cons (s : WT) (S : List WT) : flatW (s :: S) = cellsW s ++ flatW S := by simp [flatW]
theorem flatW_set (t : WT) : ∀ (S : List WT) (K : Nat), K < S.length → ((((((flatW S).set (K * 6) (.int .i64 t.x.fn)).set (K * 6 + 1) (.int .i64 t.x.fi)).set (K * 6 + 2) (.int .i64 t.x.tn)).set (K * 6 + 3) (.int .i64 t.x.ti)).set (K * 6 + 4) (.bool t.x.up)).set (K * 6 + 5) t.p = flatW (S.set K t)
 | [], K, h => by simp at h
 | s :: S, 0, h => by simp [flatW, cellsW]
 | s :: S, K + 1, h => by
  have e : ∀ (j : Nat) (x : Value) (X : List Value), (cellsW s ++ X).set ((K + 1) * 6 + j) x = cellsW s ++ X.set (K * 6 + j) x := fun j x X => by
   have hl : (cellsW s).length = 6 := rfl; rw [List.set_append_right _ _ (by rw [hl]; omega), hl, show (K + 1) * 6 + j - 6 = K * 6 + j by omega]
  have e0 : ∀ (x : Value) (X : List Value), (cellsW s ++ X).set ((K + 1) * 6) x = cellsW s ++ X.set (K * 6) x := fun x X => e 0 x X
  rw [flatW_cons, e0, e, e, e, e, e, List.set_cons_succ, flatW_cons, flatW_set t S K (by simpa using h)]
theorem flatW_take : ∀ (S : List WT) (K : Nat), (flatW S).take (K * 6) = flatW (S.take K)
 | [], K => by simp [flatW]
 | s :: S, 0 => by simp [flatW]
 | s :: S, K + 1 => by
  rw [flatW_cons, List.take_succ_cons, flatW_cons, ← flatW_take S K, List.take_append, show (K + 1) * 6 - (cellsW s).length = K * 6 by simp [cellsW]; omega, List.take_of_length_le (by simp [cellsW]; omega)]
theorem ownW_setCells {base g n cap : Nat} : ∀ (vs : List Value) (o : Nat) (w : World) (xs : List Value), w.ownsRow base 151 6 (.slice (some ⟨g, 0, none⟩) n cap) n xs → ∃ xs', (w.setCells g o vs).ownsRow base 151 6 (.slice (some ⟨g, 0, none⟩) n cap) n xs' ∧ xs'.take o = xs.take o
 | [], o, w, xs, h => ⟨xs, h, rfl⟩
 | u :: r, o, w, xs, h => by
  obtain ⟨xs', h', e⟩ := ownW_setCells r (o + 1) (w.setCell ⟨g, o, none⟩ u) (xs.set o u) (h.stored o u).1; refine ⟨xs', by simpa [World.setCells] using h', ?_⟩; have e2 := congrArg (List.take o) e; rw [List.take_take, List.take_take] at e2; simp only [show min o (o + 1) = o by omega] at e2; rw [e2, List.take_set_of_le (Nat.le_refl _)]
theorem grownWs_setCells {g : Nat} : ∀ (vs : List Value) (o : Nat) (w : World), w.grownBy (w.setCells g o vs) (some g)
 | [], o, w => World.grownBy.refl _ _
 | u :: r, o, w => grown_trans (grown_set w g o u) (grownWs_setCells r (o + 1) _)
theorem ownW_cut {w : World} {base g n cap K : Nat} {xs : List Value} (h : w.ownsRow base 151 6 (.slice (some ⟨g, 0, none⟩) n cap) n xs) (hK : K ≤ n) : w.ownsRow base 151 6 (.slice (some ⟨g, 0, none⟩) K cap) K (xs.take (K * 6)) := by
 rcases h.2 with ⟨h', _⟩ | ⟨g', cap', cur, h', hb, hg, hnc, hcm, hcs, htake⟩
 ·simp at h'
 ·simp only [Value.slice.injEq, Option.some.injEq, Addr.mk.injEq, and_true, true_and] at h'
  obtain ⟨rfl, rfl⟩ := h'; refine ⟨by simp [h.1]; omega, .inr ⟨g, cap, cur, rfl, hb, hg, by omega, hcm, hcs, ?_⟩⟩; rw [← htake, List.take_take, show min (K * 6) (n * 6) = K * 6 by omega]
theorem rowW_form {w : World} {base n : Nat} {v : Value} {xs : List Value} (h : w.ownsRow base 151 6 v n xs) (hn : 0 < n) : ∃ g c, v = .slice (some ⟨g, 0, none⟩) n c ∧ n ≤ c ∧ base ≤ g ∧ g < w.heap.size ∧ c ≤ 9223372036854775807 := by
 have h0 := h
 rcases h0.2 with ⟨-, e⟩ | ⟨g, c, cur, rfl, hb, hg, hnc, hcm, -, -⟩
 ·omega
 ·exact ⟨g, c, rfl, hnc, hb, (World.ownsRow.lt h g rfl).2, by unfold maxLen at hcm; omega⟩
abbrev zW6 : Array Value := #[.int .i64 0, .int .i64 0, .int .i64 0, .int .i64 0, .bool false, .pointer none]
theorem zeroW6 (w : World) : (zeroValue 151).run Tryz.prog w = .ok (.agg zW6) w := by
 kernel_rfl
theorem madeW_one (n : Nat) : ∀ v ∈ (madeCells zW6 (n * 6)).toList, v.oneCell' = true := by
 intro v hv; have hv2 : v ∈ (Array.range (n * 6)).toList.map (fun x => zW6[x % zW6.size]!) := by simpa [madeCells] using hv
 obtain ⟨i, -, rfl⟩ := List.mem_map.1 hv2
 have : ∀ j : Nat, j < 6 → (zW6[j]!).oneCell' = true := fun j hj => by
  rcases j with _ | _ | _ | _ | _ | _ | q
  iterate 6 rfl
  omega
 exact this _ (Nat.mod_lt _ (by decide))
theorem clear_W (w : World) (ty : TypeId) (b o n c : Nat) (hn : 0 < n) (hc : ∀ j, j < n * 6 → (w.cell? ⟨b, o + j, none⟩).isSome = true) (hf : ∀ j, j < n * 6 → w.frozen? ⟨b, o + j, none⟩ = false) :
  (Builtin.clear_ #[152] ty #[.slice (some ⟨b, o, none⟩) n c]).run Tryz.prog w = .ok (.tuple #[]) (w.setCells b o (madeCells zW6 (n * 6)).toList) := by
 have hzc : Builtin.zeroCells zW6 n = madeCells zW6 (n * 6) := rfl; have hl : (madeCells zW6 (n * 6)).toList.length = n * 6 := by simp [madeCells]
 have hst := run_storeCells_cells (P := Tryz.prog) b o (madeCells zW6 (n * 6)).toList 0 w (by rw [hl]; simpa using hc) (by rw [hl]; simpa using hf) (madeW_one n); simp only [Nat.add_zero] at hst; obtain ⟨m, rfl⟩ : ∃ m, n = m + 1 := ⟨n - 1, by omega⟩
 simp [Builtin.clear_, run_underlying Tryz.underlying152, zeroW6, Value.cells, hzc, hst]
theorem rowWEl {w : World} {base n c : Nat} {a : Option Addr} {S : List WT} (h : w.ownsRow base 151 6 (.slice a n c) n (flatW S)) (hS : S.length = n) (i : Nat) (hi : i < n) (t : WT) (ht : S[i]? = some t) :
  ∃ g, a = some ⟨g, 0, none⟩ ∧ w.cell? ⟨g, i * 6, none⟩ = some (.int .i64 t.x.fn) ∧ w.cell? ⟨g, i * 6 + 1, none⟩ = some (.int .i64 t.x.fi) ∧ w.cell? ⟨g, i * 6 + 2, none⟩ = some (.int .i64 t.x.tn) ∧ w.cell? ⟨g, i * 6 + 3, none⟩ = some (.int .i64 t.x.ti) ∧ w.cell? ⟨g, i * 6 + 4, none⟩ = some (.bool t.x.up) ∧ w.cell? ⟨g, i * 6 + 5, none⟩ = some t.p := by
 have hrow := h
 rcases h.2 with ⟨h', e⟩ | ⟨g, cap, cur, h', hb, hg, hnc, hcm, hcs, htake⟩
 ·omega
 ·simp only [Value.slice.injEq, true_and] at h'
  obtain ⟨rfl, rfl⟩ := h'; have hiS : i < S.length := by omega
  have e : S[i] = t := by rw [List.getElem?_eq_getElem hiS] at ht; exact Option.some.inj ht
  have hc : ∀ j, j < 6 → w.cell? ⟨g, i * 6 + j, none⟩ = (cellsW t)[j]? := fun j hj => by
   rw [hrow.cellAt (i * 6 + j) (by omega), flatW_get S i j hiS hj, e]
  exact ⟨g, rfl, hc 0 (by omega), hc 1 (by omega), hc 2 (by omega), hc 3 (by omega), hc 4 (by omega), hc 5 (by omega)⟩
theorem row_sliceW {w : World} {base : Nat} {v : Value} {n : Nat} {xs : List Value} (h : w.ownsRow base 151 6 v n xs) : ∃ a c, v = .slice a n c := by
 rcases h.2 with ⟨hv, hn⟩ | ⟨g, cap, cur, hv, _⟩
 ·exact ⟨none, 0, by rw [hv, hn]⟩
 ·exact ⟨_, cap, hv⟩
theorem rowW_mono {w : World} {base b2 n : Nat} {v : Value} {xs : List Value} (h : w.ownsRow base 151 6 v n xs) (hb : b2 ≤ base) : w.ownsRow b2 151 6 v n xs := ⟨h.1, h.2.imp id fun ⟨g, cap, cur, h1, h2, r⟩ => ⟨g, cap, cur, h1, Nat.le_trans hb h2, r⟩⟩
set_option maxHeartbeats 2000000 in
theorem fways_o (nv lv : Value) (F : Fb) (w : World) (h : RdLS w lv F.links) (hn1 : F.links.length ≤ 1048576) :
  Calls Tryz.prog 176 #[.agg #[nv, lv, .int .i64 F.width]] w fun e w' => ∃ u T, e = .returned u ∧ w'.ownsRow w.heap.size 151 6 u T.length (flatW T) ∧ wysT T = waysL F.links ∧ (∀ t ∈ T, RdPt w t.p t.x.tr) ∧ Below w.heap.size w w' := by
 obtain ⟨a, c, rfl, hc⟩ := h.el; obtain ⟨n, hn⟩ : ∃ n, n = F.links.length := ⟨_, rfl⟩; rw [← hn] at hc hn1 ⊢; have HN := Lib.hid hn; clear h hn; obtain ⟨bF, B0, z⟩ := one w [nv, .slice a n c, .int .i64 F.width] 60; have f1 := bF.c 1 rfl
 go_enter Tryz.func176, Tryz.ntmps176
 go_wp2; obtain ⟨W1, hW⟩ : ∃ W1, W1 = w.alloc (.cells #[nv, .slice a n c, .int .i64 F.width] 60) := ⟨_, rfl⟩; rw [← hW] at bF B0 z ⊢; have hRW : w.heap.size ≤ W1.heap.size := by omega
 clear hW z f1
 go_loopw [3, 9] (fun sv q wr => ∃ j : Nat, j ≤ n ∧ q = .int .i64 j ∧ ∃ T : List WT, wr.ownsRow W1.heap.size 151 6 sv T.length (flatW T) ∧ wysT T = waysL (F.links.take j) ∧ (∀ t ∈ T, RdPt w t.p t.x.tr) ∧ Over W1 wr) (fun _ q _ => n - (intOf q).toNat)
 case atStart => exact ⟨0, Nat.zero_le _, rfl, [], World.ownsRow_nil _ _ _ _, rfl, (fun t ht => by cases ht), over_refl _⟩
 case round =>
  obtain ⟨j, hj, rfl, T, hok, hTE, hRd, hB⟩ := hrel
  by_cases hlt : j < n
  ·have hltI : (j : Int) < (n : Int) := by omega
   obtain ⟨b, o, rfl, hE⟩ := hc j hlt; obtain ⟨x, hx⟩ : ∃ x, F.links.getD j l0 = x := ⟨_, rfl⟩; rw [hx] at hE; have hE2 := hE.keep (below_step B0 hB); obtain ⟨av, bv, hr, q0, q1, q2, q3, q4, q5, q6⟩ := hE; have HRR : Hid (RdPt w (.pointer (some ⟨b, o + j * 7 + 5, none⟩)) x.ab ∧ RdPt w (.pointer (some ⟨b, o + j * 7 + 6, none⟩)) x.ba) := Lib.hid ⟨⟨b, o + j * 7 + 5, av, rfl, q5, hr.1⟩, ⟨b, o + j * 7 + 6, bv, rfl, q6, hr.2⟩⟩; have HF : Hid (waysL (F.links.take (j + 1)) = waysL (F.links.take j) ++ waysOf x) := Lib.hid (by rw [← hx]; exact waysL_take (by rw [← HN.out]; exact hlt)); have HCC := Lib.hid hc; have HRD := Lib.hid hRd
   have HLN : Hid (T.length + 2 ≤ 4294967296) := Lib.hid (by
    rw [← wysT_len, hTE, waysL_len, List.length_take]
    omega)
   have HTE := Lib.hid hTE; clear hx hc hRd hTE q0 q1 q2 q3 q4 q5 q6 hr; have f1 := (bF.keep hB).c 1 rfl; go_wp2_with fail; refine (lways_any b (o + j * 7) x wr hE2).mono ?_; rintro e w1 ⟨rfl, hb⟩; clear f1 hE2; replace hok := rowW_keep hok hb; replace hB := over_step hB hb; have A1 : Below w1.heap.size w1 (w1.alloc (.cells #[.int .i64 x.a, .int .i64 x.ai, .int .i64 x.b, .int .i64 x.bi, .bool x.up, .pointer (some ⟨b, o + j * 7 + 5, none⟩), .int .i64 x.b, .int .i64 x.bi, .int .i64 x.a, .int .i64 x.ai, .bool x.up, .pointer (some ⟨b, o + j * 7 + 6, none⟩)] 248)) := (Below.refl _ _).alloc (Nat.le_refl _) _; have bQ := Bl.new w1 [.int .i64 x.a, .int .i64 x.ai, .int .i64 x.b, .int .i64 x.bi, .bool x.up, .pointer (some ⟨b, o + j * 7 + 5, none⟩), .int .i64 x.b, .int .i64 x.bi, .int .i64 x.a, .int .i64 x.ai, .bool x.up, .pointer (some ⟨b, o + j * 7 + 6, none⟩)] 248 w1.heap.size rfl; replace hok := rowW_keep hok A1; replace hB := over_step hB A1; clear hb A1; go_wp2_with (at_builtin; refine Hid.out ?_); refine Lib.hid ?_; refine wp_appW rfl _ _ rfl W1.heap.size w1.heap.size 2 _ T.length (flatW T) [.int .i64 x.a, .int .i64 x.ai, .int .i64 x.b, .int .i64 x.bi, .bool x.up, .pointer (some ⟨b, o + j * 7 + 5, none⟩), .int .i64 x.b, .int .i64 x.bi, .int .i64 x.a, .int .i64 x.ai, .bool x.up, .pointer (some ⟨b, o + j * 7 + 6, none⟩)] rfl rfl hok bQ rfl (by simp [Value.oneCell']) HLN.out hB.size ?_; intro v3 w3 o3 g3; have O3 : Over W1 w3 := below_growW hB hok (Nat.le_refl _) g3; clear g3 bQ hok hB; go_wp2
   go_roundw
   case rel =>
    refine ⟨j + 1, by omega, by go_num, T ++ [⟨⟨x.a, x.ai, x.b, x.bi, x.up, x.ab⟩, .pointer (some ⟨b, o + j * 7 + 5, none⟩)⟩, ⟨⟨x.b, x.bi, x.a, x.ai, x.up, x.ba⟩, .pointer (some ⟨b, o + j * 7 + 6, none⟩)⟩], ?_, ?_, ?_, O3⟩
    ·rw [List.length_append, flatW_append]
     exact o3
    ·rw [HF.out, ← HTE.out]
     simp [wysT, waysOf]
    ·intro t ht
     rcases List.mem_append.1 ht with q | q
     ·exact HRD.out t q
     ·simp only [List.mem_cons, List.not_mem_nil, or_false] at q
      rcases q with rfl | rfl
      ·exact HRR.out.1
      ·exact HRR.out.2
   case measure => simp [intOf]; omega
  ·have hkn : j = n := by omega
   subst hkn; have HT : Hid (F.links.take j = F.links) := Lib.hid (List.take_of_length_le (by rw [HN.out]; exact Nat.le_refl _)); clear hc; go_wp2
   go_ret
   have BB := below_step B0 hB
   exact ⟨_, T, rfl, rowW_mono hok hRW, by rw [hTE, HT.out], hRd, BB⟩
theorem iclUp9_any (y : Wy) (pb po : Nat) (w : World) :
  Calls Tryz.prog 185 #[.agg #[.int .i64 y.fn, .int .i64 y.fi, .int .i64 y.tn, .int .i64 y.ti, .bool y.up, .pointer (some ⟨pb, po, none⟩)]] w fun e w' => e = .returned (.bool (!y.up)) ∧ Below w.heap.size w w' := by
 obtain ⟨bA, B0, z⟩ := one w [.int .i64 y.fn, .int .i64 y.fi, .int .i64 y.tn, .int .i64 y.ti, .bool y.up, .pointer (some ⟨pb, po, none⟩)] 151; have a4 := bA.c 4 rfl; clear z
 go_enter Tryz.func185, Tryz.ntmps185
 go_wp2
 go_ret
 exact ⟨by first | rfl | simp, B0⟩
theorem keepItW {T : List WT} {f : Wy → Bool} {k : Nat} {t : WT} (ht : T[k]? = some t) (hb : f t.x = false) : (T.take (k + 1)).filter (fun t : WT => !(f t.x)) = (T.take k).filter (fun t : WT => !(f t.x)) ++ [t] := by
 rw [List.take_add_one, ht, List.filter_append]
 simp [hb]
theorem dropItW {T : List WT} {f : Wy → Bool} {k : Nat} {t : WT} (ht : T[k]? = some t) (hb : f t.x = true) : (T.take (k + 1)).filter (fun t : WT => !(f t.x)) = (T.take k).filter (fun t : WT => !(f t.x)) := by
 rw [List.take_add_one, ht, List.filter_append]
 simp [hb]
theorem allItW {T : List WT} {f : Wy → Bool} {k : Nat} (h : ∀ j, j < k → ∀ t, T[j]? = some t → f t.x = false) : (T.take k).filter (fun t : WT => !(f t.x)) = T.take k := by
 rw [List.filter_eq_self]; intro t ht; obtain ⟨j, hj, e⟩ := List.mem_iff_getElem.1 ht; rw [List.length_take] at hj; have := h j (by omega) t (by rw [List.getElem?_eq_getElem (by omega)]; rw [List.getElem_take] at e; rw [e])
 simp [this]
/-- the place of the first that is dropped, or none -/
def FirstU (T : List WT) (r : Int) : Prop :=
 (r = -1 ∧ ∀ (j : Nat) (t : WT), T[j]? = some t → (!t.x.up) = false) ∨ ∃ i : Nat, i < T.length ∧ r = i ∧ (∀ j, j < i → ∀ t : WT, T[j]? = some t → (!t.x.up) = false) ∧ ∀ t : WT, T[i]? = some t → (!t.x.up) = true
set_option maxHeartbeats 1000000 in
theorem iixUp9_any (v : Value) (T : List WT) (base : Nat) (w : World) (h : w.ownsRow base 151 6 v T.length (flatW T)) (hp : ∀ t ∈ T, ∃ b o, t.p = .pointer (some ⟨b, o, none⟩)) (hn1 : T.length ≤ 1048576) :
  Calls Tryz.prog 240 #[v, .func (.func 185) #[] #[]] w fun e w' => ∃ r : Int, e = .returned (.int .i64 r) ∧ FirstU T r ∧ Below w.heap.size w w' := by
 obtain ⟨a, c, rfl⟩ := row_sliceW h; obtain ⟨n, hn⟩ : ∃ n, n = T.length := ⟨_, rfl⟩; rw [← hn] at h hn1 ⊢; have hEl := rowWEl h hn.symm; have HN := Lib.hid hn; have HPT := Lib.hid hp; clear h hn hp
 go_enter Tryz.func240, Tryz.ntmps240
 go_wp2
 go_loopw [8] (fun q wr => ∃ k : Nat, k ≤ n ∧ q = .int .i64 k ∧ (∀ j, j < k → ∀ t, T[j]? = some t → (!t.x.up) = false) ∧ Below w.heap.size w wr) (fun q _ => n - (intOf q).toNat)
 case atStart => exact ⟨0, Nat.zero_le _, rfl, fun j hj => by omega, Below.refl _ _⟩
 case round =>
  obtain ⟨k, hk, rfl, hno, hB⟩ := hrel
  by_cases hlt : k < n
  ·have hltI : (k : Int) < (n : Int) := by omega
   have hkT : k < T.length := by rw [← HN.out]; exact hlt
   obtain ⟨t, ht⟩ : ∃ t, T[k]? = some t := ⟨T[k], List.getElem?_eq_getElem hkT⟩; obtain ⟨g, rfl, G0, G1, G2, G3, G4, G5⟩ := hEl k hlt t ht; obtain ⟨pb, po, hpp⟩ := HPT.out t (List.mem_of_getElem? ht); obtain ⟨y, p⟩ := t
   dsimp only at G0 G1 G2 G3 G4 G5 hpp
   subst hpp; have g0 := over_cell hB (World.block_lt_of_cell? _ _ G0) G0; have g1 := over_cell hB (World.block_lt_of_cell? _ _ G1) G1; have g2 := over_cell hB (World.block_lt_of_cell? _ _ G2) G2; have g3 := over_cell hB (World.block_lt_of_cell? _ _ G3) G3; have g4 := over_cell hB (World.block_lt_of_cell? _ _ G4) G4; have g5 := over_cell hB (World.block_lt_of_cell? _ _ G5) G5; have HT := Lib.hid ht; have HO := Lib.hid hno; have HE := Lib.hid hEl; clear ht hno hEl hkT G0 G1 G2 G3 G4 G5; go_wp2_with fail; refine (iclUp9_any y pb po wr).mono ?_; rintro e w1 ⟨rfl, hb1⟩; cases hbq : y.up
   ·go_wp2
    go_ret
    exact ⟨(k : Int), rfl, .inr ⟨k, by rw [← HN.out]; exact hlt, rfl, HO.out, fun t ht => by
     rw [HT.out] at ht
     injection ht with ht
     subst ht
     simp [hbq]⟩, below_step hB hb1⟩
   ·go_wp2
    go_roundw
    case rel =>
     refine ⟨k + 1, by omega, by go_num, fun j hj t ht => ?_, below_step hB hb1⟩
     by_cases hjk : j = k
     ·subst hjk
      rw [HT.out] at ht
      injection ht with ht
      subst ht
      simp [hbq]
     ·exact HO.out j (by omega) t ht
    case measure => simp [intOf]; omega
  ·have hkn : k = n := by omega
   subst hkn; have HO := Lib.hid hno; clear hno hEl; go_wp2
   go_ret
   exact ⟨-1, rfl, .inl ⟨rfl, fun j t ht => HO.out j (by
    have := (List.getElem?_eq_some_iff.1 ht).1; rw [HN.out]
    exact this) t ht⟩, hB⟩
set_option maxHeartbeats 4000000 in
theorem idfUp9_any (v : Value) (T : List WT) (base : Nat) (w : World) (hrow : w.ownsRow base 151 6 v T.length (flatW T)) (hp : ∀ t ∈ T, ∃ b o, t.p = .pointer (some ⟨b, o, none⟩)) (hn1 : T.length ≤ 1048576) :
  Calls Tryz.prog 184 #[v, .func (.func 185) #[] #[]] w fun e w' => ∃ r, e = .returned r ∧ w'.ownsRow base 151 6 r (T.filter (fun t : WT => !(!t.x.up))).length (flatW (T.filter (fun t : WT => !(!t.x.up)))) ∧ w.grownBy w' v.ownBlock := by
 obtain ⟨a, c, rfl⟩ := row_sliceW hrow; obtain ⟨n, hn⟩ : ∃ n, n = T.length := ⟨_, rfl⟩; have hcall := iixUp9_any _ T base w hrow hp hn1; rw [← hn] at hrow hn1 hcall ⊢; have HN := Lib.hid hn; have HCA := Lib.hid hcall; have HL := Lib.hid hp; clear hn hcall hp
 go_enter Tryz.func184, Tryz.ntmps184
 go_wp2_with fail; refine HCA.out.mono ?_; rintro e w1 ⟨r, rfl, hF, hb1⟩; have hrow1 := rowW_keep hrow hb1
 rcases hF with ⟨rfl, hno⟩ | ⟨i0, hi0, rfl, hno, hyes⟩
 ·have HO := Lib.hid hno
  have HR1 := Lib.hid hrow1; clear hno hrow1 hrow; go_wp2
  go_ret
  refine ⟨_, rfl, ?_, grown_below hb1 _⟩
  have e : T.filter (fun t : WT => !(!t.x.up)) = T := by
   have := allItW (T := T) (f := fun y => !y.up) (k := T.length) (fun j _ t ht => HO.out j t ht)
   rwa [List.take_length] at this
  rw [e, ← HN.out]
  exact HR1.out
 ·rw [← HN.out] at hi0
  obtain ⟨g, cap, hv, hc, hb, hg, hcm⟩ := rowW_form hrow (by omega); simp only [Value.slice.injEq, true_and] at hv; obtain ⟨rfl, rfl⟩ := hv; have hg1 : w.grownBy w1 (some g) := grown_below hb1 _
  have hne1 : ((i0 : Int) == -1) = false := by
   rw [beq_eq_false_iff_ne]
   omega
  have HO := Lib.hid hno; have HY := Lib.hid hyes; clear hno hyes hrow; go_wp2
  go_loopw [5, 6] (fun p q wr => ∃ (K k : Nat) (S : List WT), p = .int .i64 K ∧ q = .int .i64 k ∧ K < k ∧ k ≤ n ∧ S.length = n ∧ S.take K = (T.take k).filter (fun t : WT => !(!t.x.up)) ∧ (∀ i, k ≤ i → S[i]? = T[i]?) ∧ wr.ownsRow base 151 6 (.slice (some ⟨g, 0, none⟩) n c) n (flatW S) ∧ w.grownBy wr (some g)) (fun _ q _ => n - (intOf q).toNat)
  case atStart =>
   have e0 : T[i0]? = some (T[i0]'(by rw [← HN.out]; exact hi0)) := List.getElem?_eq_getElem _
   exact ⟨i0, i0 + 1, T, rfl, by go_num, by omega, by omega, HN.out.symm, by rw [dropItW (f := fun y => !y.up) e0 (HY.out _ e0), allItW (f := fun y => !y.up) HO.out], fun _ _ => rfl, hrow1, hg1⟩
  case round =>
   obtain ⟨K, k, S, rfl, rfl, hKk, hk, hS, hM, hR, hrow2, hgr⟩ := hrel; have hKn : K < n := by omega
   have HS := Lib.hid hS
   by_cases hlt : k < n
   ·have hltI : (k : Int) < (n : Int) := by omega
    have hkT : k < T.length := by rw [← HN.out]; exact hlt
    obtain ⟨t, ht⟩ : ∃ t, T[k]? = some t := ⟨T[k], List.getElem?_eq_getElem hkT⟩; obtain ⟨g', hg', g0, g1, g2, g3, g4, g5⟩ := rowWEl hrow2 hS k hlt t ((hR k (Nat.le_refl _)).trans ht)
    injection hg' with hg'
    injection hg' with hg'
    subst hg'; obtain ⟨pb, po, hu⟩ := HL.out t (List.mem_of_getElem? ht); obtain ⟨y, p⟩ := t
    dsimp only at g0 g1 g2 g3 g4 g5 hu
    subst hu; have bP := Bl.new wr [.int .i64 y.fn, .int .i64 y.fi, .int .i64 y.tn, .int .i64 y.ti, .bool y.up, .pointer (some ⟨pb, po, none⟩)] 151 wr.heap.size rfl; have A1 : Below wr.heap.size wr (wr.alloc (.cells #[.int .i64 y.fn, .int .i64 y.fi, .int .i64 y.tn, .int .i64 y.ti, .bool y.up, .pointer (some ⟨pb, po, none⟩)] 151)) := (Below.refl _ _).alloc (Nat.le_refl _) _; have p0 := bP.c 0 rfl; have p1 := bP.c 1 rfl; have p2 := bP.c 2 rfl; have p3 := bP.c 3 rfl; have p4 := bP.c 4 rfl; have p5 := bP.c 5 rfl; have HT := Lib.hid ht; have HM := Lib.hid hM; have HR := Lib.hid hR; clear ht hM hR hkT hS; go_wp2_with fail; clear p0 p1 p2 p3 p4 p5 g0 g1 g2 g3 g4 g5; refine (iclUp9_any y pb po _).mono ?_; rintro e w3 ⟨rfl, hb3⟩; have D1 := below_step A1 hb3; have hrow3 := rowW_keep hrow2 D1; have hgr3 := grown_trans hgr (grown_below D1 (some g)); replace bP := bP.keep hb3; cases hbq : y.up
    ·clear hrow1 hg1 hrow2 hgr
     go_wp2
     go_roundw
     case rel => exact ⟨K, k + 1, S, rfl, by go_num, by omega, by omega, HS.out, by rw [dropItW (f := fun y => !y.up) HT.out (by simp [hbq])]; exact HM.out, fun i hi => HR.out i (by omega), hrow3, hgr3⟩
     case measure => simp [intOf]; omega
    ·obtain ⟨s0, hs0⟩ : ∃ s, S[K]? = some s := ⟨S[K]'(by rw [HS.out]; exact hKn), List.getElem?_eq_getElem _⟩
     obtain ⟨g', hg', e0, e1, e2, e3, e4, e5⟩ := rowWEl hrow3 HS.out K hKn s0 hs0
     injection hg' with hg'
     injection hg' with hg'
     subst hg'; clear hs0; have p0 := bP.c 0 rfl; have p1 := bP.c 1 rfl; have p2 := bP.c 2 rfl; have p3 := bP.c 3 rfl; have p4 := bP.c 4 rfl; have p5 := bP.c 5 rfl; have f0 := hrow3.frozenAt (K * 6); have f1 := hrow3.frozenAt (K * 6 + 1); have f2 := hrow3.frozenAt (K * 6 + 2); have f3 := hrow3.frozenAt (K * 6 + 3); have f4 := hrow3.frozenAt (K * 6 + 4); have f5 := hrow3.frozenAt (K * 6 + 5); have hKI : (K : Int) < (n : Int) := by omega
     obtain ⟨S2, hS2⟩ : ∃ S2, S2 = S.set K ⟨y, .pointer (some ⟨pb, po, none⟩)⟩ := ⟨_, rfl⟩; have hst := ((((((hrow3.stored (K * 6) (.int .i64 y.fn)).1.stored (K * 6 + 1) (.int .i64 y.fi)).1.stored (K * 6 + 2) (.int .i64 y.tn)).1.stored (K * 6 + 3) (.int .i64 y.ti)).1.stored (K * 6 + 4) (.bool y.up)).1.stored (K * 6 + 5) (.pointer (some ⟨pb, po, none⟩))).1; have eset := flatW_set ⟨y, .pointer (some ⟨pb, po, none⟩)⟩ S K (by rw [HS.out]; exact hKn)
     dsimp only at eset
     rw [eset, ← hS2] at hst; have hgs := (grown_trans (grown_trans (grown_trans (grown_trans (grown_trans (grown_trans hgr3 (grown_set w3 g (K * 6) (.int .i64 y.fn))) (grown_set _ g (K * 6 + 1) (.int .i64 y.fi))) (grown_set _ g (K * 6 + 2) (.int .i64 y.tn))) (grown_set _ g (K * 6 + 3) (.int .i64 y.ti))) (grown_set _ g (K * 6 + 4) (.bool y.up))) (grown_set _ g (K * 6 + 5) (.pointer (some ⟨pb, po, none⟩)))); have hst2 := hst; rw [hbq] at hst2 hgs; have HST := Lib.hid (And.intro hst2 hgs); have HS2 := Lib.hid hS2; clear hst hst2 hgs eset hS2 hrow2 hrow3 hgr hgr3 hrow1 hg1; rw [hbq] at p4; go_wp2
     go_roundw
     case rel =>
      refine ⟨K + 1, k + 1, S2, by go_num, by go_num, by omega, by omega, by rw [HS2.out, List.length_set]; exact HS.out, ?_, fun i hi => ?_, HST.out.1, HST.out.2⟩
      ·rw [keepItW (f := fun y => !y.up) HT.out (by simp [hbq]), ← HM.out, HS2.out, List.take_add_one, List.take_set_of_le (Nat.le_refl _), List.getElem?_set_self (by rw [HS.out]; exact hKn)]
       rfl
      ·rw [HS2.out, List.getElem?_set_ne (by omega)]
       exact HR.out i (by omega)
     case measure => simp [intOf]; omega
   ·have hkn : k = n := by omega
    subst hkn
    have hcl : ∀ ty, (Builtin.clear_ #[152] ty #[.slice (some ⟨g, K * 6, none⟩) (k - K) (c - K)]).run Tryz.prog wr = .ok (.tuple #[]) (wr.setCells g (K * 6) (madeCells zW6 ((k - K) * 6)).toList) := fun ty => clear_W wr ty g (K * 6) (k - K) (c - K) (by omega) (fun q hq => by
     rw [hrow2.cellAt (K * 6 + q) (by omega), List.getElem?_eq_getElem (by rw [flatW_len, HS.out]; omega)]; rfl) (fun q hq => hrow2.frozenAt _)
    have hKI : (K : Int) ≤ (k : Int) := by omega
    have hKc : (k : Int) ≤ (c : Int) := by omega
    have HO2 := Lib.hid hrow2; have HM := Lib.hid hM; have HG := Lib.hid hgr; clear hM hR hrow2 hrow1 hg1 hgr hS; go_wp2
    go_ret
    obtain ⟨xs', h', e'⟩ := ownW_setCells (madeCells zW6 ((k - K) * 6)).toList (K * 6) wr _ HO2.out; have h3 := ownW_cut h' (Nat.le_of_lt hKn); have eT : T.take k = T := by rw [HN.out, List.take_length]
    rw [e', flatW_take, HM.out, eT] at h3; have eM := HM.out; rw [eT] at eM; have eL : (T.filter (fun t : WT => !(!t.x.up))).length = K := by rw [← eM, List.length_take, HS.out]; omega
    exact ⟨_, rfl, by rw [eL]; exact h3, grown_trans HG.out (grownWs_setCells _ _ _)⟩
end Go.Proofs.YtbcmoofpgffbhabGreat
namespace Go.Proofs.YtbcmoofpgffbhabGreat
open Go.ChangeShapes Go.WideShapes Go.ChangeAt Go.RowKit Go.BigFrame Go.Joins
set_option linter.unusedVariables false
set_option maxRecDepth 100000
set_option linter.unusedSimpArgs false
set_option maxRecDepth 100000

def upsF (F : Fb) : List Wy := (waysL F.links).filter fun y => y.up
theorem iupw_any (nv lv : Value) (F : Fb) (w : World) (h : RdF w nv lv F) (hn1 : F.links.length ≤ 500000) :
  Calls Tryz.prog 109 #[.agg #[nv, lv, .int .i64 F.width]] w fun e w' => ∃ u T, e = .returned u ∧ w'.ownsRow w.heap.size 151 6 u T.length (flatW T) ∧ wysT T = upsF F ∧ (∀ t ∈ T, ∃ b o, t.p = .pointer (some ⟨b, o, none⟩)) ∧ Below w.heap.size w w' := by
 obtain ⟨na, nc, rfl⟩ := h.1.len; obtain ⟨la, lc, rfl⟩ := h.2.len; obtain ⟨bA, B0, z⟩ := one w [.slice na F.nodes.length nc, .slice la F.links.length lc, .int .i64 F.width] 60; have a0 := bA.c 0 rfl; have a1 := bA.c 1 rfl; have a2 := bA.c 2 rfl
 go_enter Tryz.func109, Tryz.ntmps109
 go_wp2_with fail; clear a0 a1 a2 z; refine (fways_o _ _ F _ (h.2.keep B0) (by omega)).mono ?_; rintro e w1 ⟨u, T, rfl, hrow, hT, hRd, hb⟩; have B1 := below_step B0 hb; have hTl : T.length ≤ 1048576 := by rw [← wysT_len, hT, waysL_len]; omega
 have hp : ∀ t ∈ T, ∃ b o, t.p = .pointer (some ⟨b, o, none⟩) := fun t ht => by
  obtain ⟨b, o, v, e, -⟩ := hRd t ht
  exact ⟨b, o, e⟩
 have HX := Lib.hid (And.intro hrow (And.intro hT hRd)); have hs0 := B0.size; clear hb hT bA; go_wp2_with fail; refine (idfUp9_any _ T _ w1 hrow hp hTl).mono ?_; rintro e w2 ⟨r, rfl, hr, hg⟩; have hlt := World.ownsRow.lt HX.out.1; have B2 : Below w.heap.size w w2 := Below.grown B1 hg B1.size (fun k hk => by have := (hlt k hk).1; omega)
 have e : wysT (T.filter fun t : WT => !(!t.x.up)) = upsF F := by
  unfold upsF; rw [← HX.out.2.1]
  simp [wysT, List.filter_map, Function.comp_def]
 have HF := Lib.hid (And.intro (rowW_mono hr hs0) (And.intro e (And.intro (fun t (ht : t ∈ T.filter fun t : WT => !(!t.x.up)) => hp t (List.mem_filter.1 ht).1) B2))); clear B2 hr hg hlt e hp; go_wp2
 go_ret
 exact ⟨_, _, rfl, HF.out.1, HF.out.2.1, HF.out.2.2.1, HF.out.2.2.2⟩
/-- one more reached -/
def upd8 (s : Nat → Bool) (k : Nat) : Nat → Bool := fun v => s v || decide (v = k)
theorem cells8_set (s : Nat → Bool) {k : Nat} (hk : k < 8) : (cells8 s).set k (.bool true) = cells8 (upd8 s k) := by
 rcases k with _ | _ | _ | _ | _ | _ | _ | _ | k
 iterate 8 simp [upd8]
 omega
def sprN (r : Nat → Bool) (U : List Wy) : Nat → Nat → Bool
 | 0 => r
 | j + 1 => if r (U.getD j y0).fn.toNat = true then upd8 (sprN r U j) (U.getD j y0).tn.toNat else sprN r U j
def sprF (F : Fb) (r : Nat → Bool) : Nat → Bool := sprN r (upsF F) (upsF F).length
set_option maxHeartbeats 4000000 in
theorem ispread_any (nv lv : Value) (F : Fb) (r : Nat → Bool) (w : World) (h : RdF w nv lv F) (hn1 : F.links.length ≤ 500000) (he : ∀ y ∈ upsF F, 0 ≤ y.fn ∧ y.fn < 8 ∧ 0 ≤ y.tn ∧ y.tn < 8) :
  Calls Tryz.prog 101 #[.agg #[nv, lv, .int .i64 F.width], arr8 r] w fun e w' => e = .returned (arr8 (sprF F r)) ∧ Below w.heap.size w w' := by
 obtain ⟨na, nc, rfl⟩ := h.1.len; obtain ⟨la, lc, rfl⟩ := h.2.len; have HRF := Lib.hid h; obtain ⟨nn, hnn⟩ : ∃ n, n = F.nodes.length := ⟨_, rfl⟩; obtain ⟨nl, hnl⟩ : ∃ n, n = F.links.length := ⟨_, rfl⟩; have HNN := Lib.hid (And.intro hnn hnl); rw [← hnn, ← hnl] at HRF ⊢; clear h hnn hnl; unfold arr8; obtain ⟨bA, bX, bR, B0, z0⟩ := three w [.slice na nn nc, .slice la nl lc, .int .i64 F.width] (cells8 r) [.bool false, .bool false, .bool false, .bool false, .bool false, .bool false, .bool false, .bool false] 60 136 136; obtain ⟨bO, N1, z⟩ := one (((w.alloc (.cells #[.slice na nn nc, .slice la nl lc, .int .i64 F.width] 60)).alloc (.cells (cells8 r).toArray 136)).alloc (.cells #[.bool false, .bool false, .bool false, .bool false, .bool false, .bool false, .bool false, .bool false] 136)) (cells8 r) 136; rw [z0] at bO z
 dsimp only [cells8] at bA bX bR bO B0 N1 z
 replace bA := bA.keep N1; replace bX := bX.keep N1; replace bR := bR.keep N1; replace B0 := below_step B0 N1; have a0 := bA.c 0 rfl; have a1 := bA.c 1 rfl; have a2 := bA.c 2 rfl; have x0 := bX.c 0 rfl; have x1 := bX.c 1 rfl; have x2 := bX.c 2 rfl; have x3 := bX.c 3 rfl; have x4 := bX.c 4 rfl; have x5 := bX.c 5 rfl; have x6 := bX.c 6 rfl; have x7 := bX.c 7 rfl
 go_enter Tryz.func101, Tryz.ntmps101
 go_wp2_with fail; obtain ⟨W1, hW⟩ : ∃ W1, W1 = (((w.alloc (.cells #[.slice na nn nc, .slice la nl lc, .int .i64 F.width] 60)).alloc (.cells #[.bool (r 0), .bool (r 1), .bool (r 2), .bool (r 3), .bool (r 4), .bool (r 5), .bool (r 6), .bool (r 7)] 136)).alloc (.cells #[.bool false, .bool false, .bool false, .bool false, .bool false, .bool false, .bool false, .bool false] 136)).alloc (.cells #[.bool (r 0), .bool (r 1), .bool (r 2), .bool (r 3), .bool (r 4), .bool (r 5), .bool (r 6), .bool (r 7)] 136) := ⟨_, rfl⟩; rw [← hW] at bA bX bR bO B0 z a0 a1 a2 ⊢; obtain ⟨A, hA⟩ : ∃ A, A = w.heap.size := ⟨_, rfl⟩; obtain ⟨X, hX⟩ : ∃ A, A = w.heap.size + 1 := ⟨_, rfl⟩; obtain ⟨R, hR⟩ : ∃ A, A = w.heap.size + 1 + 1 := ⟨_, rfl⟩; obtain ⟨O, hO⟩ : ∃ A, A = w.heap.size + 3 := ⟨_, rfl⟩; rw [← hX] at bX; rw [← hR] at bR; rw [← hO] at bO
 try rw [show w.heap.size + 2 = R by omega]
 try rw [show w.heap.size + 1 + 1 + 1 = O by omega]
 try rw [← hO]
 try rw [← hR]
 try rw [← hX]
 try rw [← hA]
 have hL : w.heap.size ≤ R ∧ w.heap.size ≤ O ∧ R ≠ O ∧ X ≠ O := by omega
 have hOW : O < W1.heap.size := by omega
 clear hA hX hR hO hW z z0 N1 a0 a1 a2 bA x0 x1 x2 x3 x4 x5 x6 x7; refine (iupw_any _ _ F W1 (HRF.out.keep B0) hn1).mono ?_; rintro e w1 ⟨u, T, rfl, hrow, hTU, hp, hb⟩; replace bX := bX.keep hb; replace bR := bR.keep hb; replace bO := bO.keep hb; replace B0 := below_step B0 hb; clear hb; obtain ⟨ua, uc, rfl⟩ := row_sliceW hrow; obtain ⟨m, hm⟩ : ∃ m, m = T.length := ⟨_, rfl⟩
 have hm1 : m ≤ 1048576 := by
  have h1 := List.length_filter_le (fun y : Wy => y.up) (waysL F.links); have h2 : T.length = (upsF F).length := by rw [← hTU, wysT_len]
  rw [waysL_len] at h1; unfold upsF at h2
  omega
 rw [← hm] at hrow
 try rw [← hm]
 have HM := Lib.hid hm; have HE := Lib.hid he; have HT := Lib.hid hTU; have HPT := Lib.hid hp; clear hm he hTU hp; go_wp2
 go_loopw [12] (fun q wr => ∃ j : Nat, j ≤ m ∧ q = .int .i64 j ∧ Bl wr O (cells8 (sprN r (upsF F) j)) ∧ Bl wr X (cells8 r) ∧ Bl wr R [.bool false, .bool false, .bool false, .bool false, .bool false, .bool false, .bool false, .bool false] ∧ Below w.heap.size w wr ∧ wr.ownsRow W1.heap.size 151 6 (.slice ua m uc) m (flatW T)) (fun q _ => m - (intOf q).toNat)
 case atStart => exact ⟨0, Nat.zero_le _, rfl, bO, bX, bR, B0, hrow⟩
 case round =>
  clear bO bX bR B0 hrow; obtain ⟨j, hj, rfl, bO, bX, bR, hB, hrow⟩ := hrel
  by_cases hlt : j < m
  ·have hltI : (j : Int) < (m : Int) := by omega
   have hjT : j < T.length := by rw [← HM.out]; exact hlt
   obtain ⟨t, ht⟩ : ∃ t, T[j]? = some t := ⟨T[j], List.getElem?_eq_getElem hjT⟩
   have hxU : (upsF F).getD j y0 = t.x := by
    rw [← HT.out, wysT_get hjT]; rw [List.getElem?_eq_getElem hjT] at ht; rw [Option.some.inj ht]
   have hmem := HE.out t.x (by
    rw [← HT.out]
    exact List.mem_map.2 ⟨t, List.mem_of_getElem? ht, rfl⟩)
   obtain ⟨g, rfl, G0, G1, G2, G3, G4, G5⟩ := rowWEl hrow HM.out.symm j hlt t ht; obtain ⟨pb, po, hpp⟩ := HPT.out t (List.mem_of_getElem? ht); obtain ⟨⟨fn, fi, tn, ti, up, tr⟩, p⟩ := t
   dsimp only at hmem G0 G1 G2 G3 G4 G5 hxU hpp
   subst hpp; obtain ⟨kf, hkf⟩ := Int.eq_ofNat_of_zero_le hmem.1; obtain ⟨kt, hkt⟩ := Int.eq_ofNat_of_zero_le hmem.2.2.1; subst hkf hkt; have hf8 : (kf : Int) < 8 := hmem.2.1; have ht8 : (kt : Int) < 8 := hmem.2.2.2; have hf8n : kf < 8 := by omega
   have ht8n : kt < 8 := by omega
   obtain ⟨bQ, N2, z2⟩ := one wr [.int .i64 (kf : Nat), .int .i64 fi, .int .i64 (kt : Nat), .int .i64 ti, .bool up, .pointer (some ⟨pb, po, none⟩)] 151; have y0 := bQ.c 0 rfl; have y1 := bQ.c 1 rfl; have y2 := bQ.c 2 rfl; have y3 := bQ.c 3 rfl; have y4 := bQ.c 4 rfl; have y5 := bQ.c 5 rfl; obtain ⟨rk, hrk⟩ : ∃ b, r kf = b := ⟨_, rfl⟩; have xk := (bX.keep N2).c kf (cells8_at r hf8n); rw [hrk] at xk; have HSP : Hid (sprN r (upsF F) (j + 1) = if rk = true then upd8 (sprN r (upsF F) j) kt else sprN r (upsF F) j) := Lib.hid (by rw [sprN, hxU, ← hrk]; rfl); have hrow2 := rowW_keep hrow N2; have bO2 := bO.keep N2; have bX2 := bX.keep N2; have bR2 := bR.keep N2; have hB2 := below_step hB N2; clear hrk hxU ht hmem hjT z2 hrow bO bX bR hB N2; cases rk
   ·go_wp2
    go_roundw
    case rel => exact ⟨j + 1, by omega, by go_num, by rw [HSP.out, if_neg (by simp)]; exact bO2, bX2, bR2, hB2, hrow2⟩
    case measure => simp [intOf]; omega
   ·have ok := bO2.c kt (cells8_at _ ht8n)
    have of := bO2.f kt (cells8_at _ ht8n); have bS := bO2.set kt (.bool true); rw [cells8_set _ ht8n] at bS; have bX3 := bX2.far (o := kt) (u := .bool true) hL.2.2.2; have bR3 := bR2.far (o := kt) (u := .bool true) hL.2.2.1; have hB3 := hB2.setCell (p := ⟨O, kt, none⟩) hL.2.1 (.bool true); have hrow3 := row_agrS hrow2 (S := fun b => W1.heap.size ≤ b) (fun k hk => (World.ownsRow.lt hrow2 k hk).1) (agr_setS (g := O) (o := kt) (u := .bool true) _ (by omega)); have HSS := Lib.hid (And.intro bS (And.intro bX3 (And.intro bR3 (And.intro hB3 hrow3)))); clear bS bX3 bR3 hB3 hrow3 hrow2; go_wp2
    go_roundw
    case rel => exact ⟨j + 1, by omega, by go_num, by rw [HSP.out, if_pos rfl]; exact HSS.out.1, HSS.out.2.1, HSS.out.2.2.1, HSS.out.2.2.2.1, HSS.out.2.2.2.2⟩
    case measure => simp [intOf]; omega
  ·have hjm : j = m := by omega
   subst hjm; have HF : Hid (sprF F r = sprN r (upsF F) j) := Lib.hid (by unfold sprF; rw [HM.out, ← wysT_len, HT.out]); obtain ⟨s, hs⟩ : ∃ s, s = sprN r (upsF F) j := ⟨_, rfl⟩; rw [← hs] at bO HF; clear hs hrow; have hRW := hB; have o0 := bO.c 0 rfl; have r0 := bR.c 0 rfl; have f0 := bR.f 0 rfl; have o1 := bO.c 1 rfl; have r1 := bR.c 1 rfl; have f1 := bR.f 1 rfl; have o2 := bO.c 2 rfl; have r2 := bR.c 2 rfl; have f2 := bR.f 2 rfl; have o3 := bO.c 3 rfl; have r3 := bR.c 3 rfl; have f3 := bR.f 3 rfl; have o4 := bO.c 4 rfl; have r4 := bR.c 4 rfl; have f4 := bR.f 4 rfl; have o5 := bO.c 5 rfl; have r5 := bR.c 5 rfl; have f5 := bR.f 5 rfl; have o6 := bO.c 6 rfl; have r6 := bR.c 6 rfl; have f6 := bR.f 6 rfl; have o7 := bO.c 7 rfl; have r7 := bR.c 7 rfl; have f7 := bR.f 7 rfl; have bS := ((((((((bR.set 0 (.bool (s 0))).set 1 (.bool (s 1))).set 2 (.bool (s 2))).set 3 (.bool (s 3))).set 4 (.bool (s 4))).set 5 (.bool (s 5))).set 6 (.bool (s 6))).set 7 (.bool (s 7))); have hBS := ((((((((hB.setCell (p := ⟨R, 0, none⟩) hL.1 (.bool (s 0))).setCell (p := ⟨R, 1, none⟩) hL.1 (.bool (s 1))).setCell (p := ⟨R, 2, none⟩) hL.1 (.bool (s 2))).setCell (p := ⟨R, 3, none⟩) hL.1 (.bool (s 3))).setCell (p := ⟨R, 4, none⟩) hL.1 (.bool (s 4))).setCell (p := ⟨R, 5, none⟩) hL.1 (.bool (s 5))).setCell (p := ⟨R, 6, none⟩) hL.1 (.bool (s 6))).setCell (p := ⟨R, 7, none⟩) hL.1 (.bool (s 7))); have s0 := bS.c 0 rfl; have s1 := bS.c 1 rfl; have s2 := bS.c 2 rfl; have s3 := bS.c 3 rfl; have s4 := bS.c 4 rfl; have s5 := bS.c 5 rfl; have s6 := bS.c 6 rfl; have s7 := bS.c 7 rfl; have HS := Lib.hid (And.intro s0 (And.intro s1 (And.intro s2 (And.intro s3 (And.intro s4 (And.intro s5 (And.intro s6 (And.intro s7 (hBS))))))))); clear s0 s1 s2 s3 s4 s5 s6 s7 bS hBS; go_wp2
   exact bodyPost_ret (v := .agg #[.bool (s 0), .bool (s 1), .bool (s 2), .bool (s 3), .bool (s 4), .bool (s 5), .bool (s 6), .bool (s 7)]) (by simp [results, Tryz.results101, go_sem, HS.out.1, HS.out.2.1, HS.out.2.2.1, HS.out.2.2.2.1, HS.out.2.2.2.2.1, HS.out.2.2.2.2.2.1, HS.out.2.2.2.2.2.2.1, HS.out.2.2.2.2.2.2.2.1]) rfl ⟨by rw [HF.out], HS.out.2.2.2.2.2.2.2.2⟩
end Go.Proofs.YtbcmoofpgffbhabGreat
namespace Go.Proofs.YtbcmoofpgffbhabGreat
open Go.ChangeShapes Go.WideShapes Go.ChangeAt Go.RowKit Go.BigFrame Go.Joins
set_option linter.unusedVariables false
set_option maxRecDepth 100000
set_option linter.unusedSimpArgs false
set_option maxRecDepth 100000

def itrF (F : Fb) (r : Nat → Bool) : Nat → Nat → Bool
 | 0 => r
 | k + 1 => sprF F (itrF F r k)
/-- the first of k steps at which one that has it is reached -/
def hopK (F : Fb) (r : Nat → Bool) (p : Int × Int) : Nat → Option Nat
 | 0 => none
 | k + 1 => match hopK F r p k with
  | some j => some j
  | none => if reachB F (itrF F r k) p = true then some k else none
def hopsI (F : Fb) (node x : Int) : Int := if okM F node = true then (if (bestF F x).2 = true then (match hopK F (fun v => decide (v = node.toNat)) (bestF F x).1 8 with | some j => (j : Int) | none => -1) else -1) else -1
theorem hopK_none {F : Fb} {r : Nat → Bool} {p : Int × Int} : ∀ {k}, (∀ i, i < k → reachB F (itrF F r i) p = false) → hopK F r p k = none
 | 0, _ => rfl
 | k + 1, h => by
  unfold hopK; rw [hopK_none fun i hi => h i (by omega), h k (by omega)]
  rfl
theorem hopK_keep {F : Fb} {r : Nat → Bool} {p : Int × Int} {j : Nat} : ∀ k m, k ≤ m → hopK F r p k = some j → hopK F r p m = some j
 | k, 0, h, hj => by rw [Nat.le_zero.1 h] at hj; exact hj
 | k, m + 1, h, hj => by
  by_cases e : k = m + 1
  ·rw [← e]; exact hj
  ·have h1 := hopK_keep k m (by omega) hj
   unfold hopK; rw [h1]
theorem hopK_at {F : Fb} {r : Nat → Bool} {p : Int × Int} {k m : Nat} (hk : k < m) (h : ∀ i, i < k → reachB F (itrF F r i) p = false) (hn : reachB F (itrF F r k) p = true) : hopK F r p m = some k := by
 refine hopK_keep (k + 1) m hk ?_; unfold hopK; rw [hopK_none h, hn]
 rfl
set_option maxHeartbeats 8000000 in
theorem ihops_any (nv lv : Value) (F : Fb) (node x : Int) (w : World) (h : RdF w nv lv F) (hw : wtF F ≤ 1048576)
  (hval : okM F node = true → F.nodes.length ≤ 8 ∧ F.links.length ≤ 500000 ∧ 0 ≤ node ∧ node < 8 ∧ ∀ y ∈ upsF F, 0 ≤ y.fn ∧ y.fn < 8 ∧ 0 ≤ y.tn ∧ y.tn < 8) :
  Calls Tryz.prog 38 #[.agg #[nv, lv, .int .i64 F.width], .int .i64 node, .int .i64 x] w fun e w' => e = .returned (.int .i64 (hopsI F node x)) ∧ Below w.heap.size w w' := by
 obtain ⟨na, nc, rfl⟩ := h.1.len; obtain ⟨la, lc, rfl⟩ := h.2.len; obtain ⟨nn, hnn⟩ : ∃ n, n = F.nodes.length := ⟨_, rfl⟩; obtain ⟨nl, hnl⟩ : ∃ n, n = F.links.length := ⟨_, rfl⟩; rw [← hnn, ← hnl] at h ⊢; have HRF := Lib.hid h; have HVAL := Lib.hid hval; obtain ⟨g, hg⟩ : ∃ g, okM F node = g := ⟨_, rfl⟩; have HG := Lib.hid hg; obtain ⟨⟨⟨pa, pn⟩, f⟩, hbf⟩ : ∃ q, bestF F x = q := ⟨_, rfl⟩; have HBF := Lib.hid hbf; clear h hval hnn hnl hg hbf; obtain ⟨bA, B0, z⟩ := one w [.slice na nn nc, .slice la nl lc, .int .i64 F.width] 60; have a0 := bA.c 0 rfl; have a1 := bA.c 1 rfl; have a2 := bA.c 2 rfl
 go_enter Tryz.func38, Tryz.ntmps38
 go_wp2_with fail; clear a0 a1 a2; obtain ⟨A, hA⟩ : ∃ A, A = w.heap.size := ⟨_, rfl⟩; rw [← hA] at bA
 try rw [← hA]
 clear hA z; refine (ihasF_any _ _ F node _ (HRF.out.keep B0) hw).mono ?_; rw [HG.out]; rintro e w1 ⟨rfl, hb⟩; replace bA := bA.keep hb; replace B0 := below_step B0 hb; clear hb; cases g
 ·have HF : Hid (hopsI F node x = -1) := Lib.hid (by unfold hopsI; rw [HG.out]; rfl)
  go_wp2
  go_ret
  exact ⟨ret_int HF.out.symm, B0⟩
 ·obtain ⟨hn8, hl5, h0, h8, hup⟩ := HVAL.out HG.out
  have HUP := Lib.hid hup; clear hup; have a0 := bA.c 0 rfl; have a1 := bA.c 1 rfl; have a2 := bA.c 2 rfl; go_wp2_with fail; clear a0 a1 a2; refine (ilong_any _ _ F x _ (HRF.out.keep B0) hw).mono ?_; rw [HBF.out]; rintro e w2 ⟨rfl, hb⟩; replace bA := bA.keep hb; replace B0 := below_step B0 hb; clear hb
  dsimp only
  cases f
  ·have HF : Hid (hopsI F node x = -1) := Lib.hid (by unfold hopsI; rw [HG.out, HBF.out]; rfl)
   go_wp2
   go_ret
   exact ⟨ret_int HF.out.symm, B0.alloc B0.size _⟩
  ·obtain ⟨kn, hkn⟩ := Int.eq_ofNat_of_zero_le h0
   subst hkn; have hk8n : kn < 8 := by omega
   go_wp2; obtain ⟨bP, bT, N2, z2⟩ := two w2 [.int .i64 pa, .int .i64 pn] (([.bool false, .bool false, .bool false, .bool false, .bool false, .bool false, .bool false, .bool false] : List Value).set kn (.bool true)) 93 136; obtain ⟨W3, hW3⟩ : ∃ W3, W3 = (w2.alloc (.cells #[.int .i64 pa, .int .i64 pn] 93)).alloc (.cells (([.bool false, .bool false, .bool false, .bool false, .bool false, .bool false, .bool false, .bool false] : List Value).set kn (.bool true)).toArray 136) := ⟨_, rfl⟩; rw [← hW3] at bP bT N2 z2 ⊢; have hst := bT; rw [show ([.bool false, .bool false, .bool false, .bool false, .bool false, .bool false, .bool false, .bool false] : List Value) = cells8 (fun _ => false) from rfl, cells8_set _ hk8n] at hst; obtain ⟨P, hP⟩ : ∃ P, P = w2.heap.size := ⟨_, rfl⟩; obtain ⟨T, hT⟩ : ∃ T, T = w2.heap.size + 1 := ⟨_, rfl⟩; have hs2 := B0.size; have hAP : A ≠ T := by have := bA.lt; omega
   have hPT : P ≠ T := by omega
   have hwT : w.heap.size ≤ T := by omega
   rw [← hT] at hst; rw [← hP] at bP; have bA3 := bA.keep N2; have bP3 := bP; have hB3 := below_step B0 N2
   try rw [← hT]
   try rw [← hP]
   clear hW3 hP hT bA bP bT N2 z2 B0; have HR0 : Hid (upd8 (fun _ => false) kn = fun v => decide (v = ((kn : Nat) : Int).toNat)) := Lib.hid (by funext v; simp [upd8]); rw [HR0.out] at hst; obtain ⟨r0, hr0⟩ : ∃ r : Nat → Bool, r = fun v => decide (v = ((kn : Nat) : Int).toNat) := ⟨_, rfl⟩
   rw [← hr0] at hst; have HHI : Hid (hopsI F ((kn : Nat) : Int) x = match hopK F r0 (pa, pn) 8 with | some j => (j : Int) | none => -1) := Lib.hid (by unfold hopsI; rw [HG.out, HBF.out, hr0]; rfl); clear hr0 HR0
   go_loopw [25] (fun q wr => ∃ k : Nat, k ≤ 8 ∧ q = .int .i64 k ∧ (∀ i, i < k → reachB F (itrF F r0 i) (pa, pn) = false) ∧ Bl wr T (cells8 (itrF F r0 k)) ∧ Bl wr A [.slice na nn nc, .slice la nl lc, .int .i64 F.width] ∧ Bl wr P [.int .i64 pa, .int .i64 pn] ∧ Below w.heap.size w wr) (fun q _ => 8 - (intOf q).toNat)
   case atStart => exact ⟨0, Nat.zero_le _, rfl, fun i hi => by omega, hst, bA3, bP3, hB3⟩
   case round =>
    clear hst bA3 bP3 hB3; obtain ⟨k, hk, rfl, hno, bT, bA, bP, hB⟩ := hrel
    by_cases hlt : k < 8
    ·have hltI : (k : Int) < 8 := by omega
     obtain ⟨rr, hrr⟩ : ∃ r : Nat → Bool, r = itrF F r0 k := ⟨_, rfl⟩; rw [← hrr] at bT; obtain ⟨d, hd⟩ : ∃ d, reachB F rr (pa, pn) = d := ⟨_, rfl⟩; have HD := Lib.hid (And.intro hrr hd); have HNO := Lib.hid hno; clear hrr hd hno; have a0 := bA.c 0 rfl; have a1 := bA.c 1 rfl; have a2 := bA.c 2 rfl; have p0 := bP.c 0 rfl; have p1 := bP.c 1 rfl; have t0 := bT.c 0 rfl; have t1 := bT.c 1 rfl; have t2 := bT.c 2 rfl; have t3 := bT.c 3 rfl; have t4 := bT.c 4 rfl; have t5 := bT.c 5 rfl; have t6 := bT.c 6 rfl; have t7 := bT.c 7 rfl; go_wp2_with fail; clear a0 a1 a2 p0 p1 t0 t1 t2 t3 t4 t5 t6 t7; refine (ireach_any _ _ F rr pa pn wr (HRF.out.keep hB) hn8).mono ?_; rw [HD.out.2]; rintro e w4 ⟨rfl, hb⟩; replace bA := bA.keep hb; replace bP := bP.keep hb; replace bT := bT.keep hb; replace hB := below_step hB hb; clear hb; cases d
     ·have HNX : Hid (∀ i, i < k + 1 → reachB F (itrF F r0 i) (pa, pn) = false) := Lib.hid fun i hi => by
       by_cases q : i = k
       ·subst q; rw [← HD.out.1]; exact HD.out.2
       ·exact HNO.out i (by omega)
      have a0 := bA.c 0 rfl; have a1 := bA.c 1 rfl; have a2 := bA.c 2 rfl; have t0 := bT.c 0 rfl; have t1 := bT.c 1 rfl; have t2 := bT.c 2 rfl; have t3 := bT.c 3 rfl; have t4 := bT.c 4 rfl; have t5 := bT.c 5 rfl; have t6 := bT.c 6 rfl; have t7 := bT.c 7 rfl; go_wp2_with fail; clear a0 a1 a2 t0 t1 t2 t3 t4 t5 t6 t7; refine (ispread_any _ _ F rr w4 (HRF.out.keep hB) hl5 HUP.out).mono ?_; rintro e w5 ⟨rfl, hb⟩; replace bA := bA.keep hb; replace bP := bP.keep hb; replace bT := bT.keep hb; replace hB := below_step hB hb; clear hb; obtain ⟨s, hs⟩ : ∃ s : Nat → Bool, s = sprF F rr := ⟨_, rfl⟩; rw [← hs]; have HS : Hid (itrF F r0 (k + 1) = s) := Lib.hid (by rw [hs, HD.out.1]; rfl); clear hs; unfold arr8; have t0 := bT.c 0 rfl; have f0 := bT.f 0 rfl; have t1 := bT.c 1 rfl; have f1 := bT.f 1 rfl; have t2 := bT.c 2 rfl; have f2 := bT.f 2 rfl; have t3 := bT.c 3 rfl; have f3 := bT.f 3 rfl; have t4 := bT.c 4 rfl; have f4 := bT.f 4 rfl; have t5 := bT.c 5 rfl; have f5 := bT.f 5 rfl; have t6 := bT.c 6 rfl; have f6 := bT.f 6 rfl; have t7 := bT.c 7 rfl; have f7 := bT.f 7 rfl; have bS := ((((((((bT.set 0 (.bool (s 0))).set 1 (.bool (s 1))).set 2 (.bool (s 2))).set 3 (.bool (s 3))).set 4 (.bool (s 4))).set 5 (.bool (s 5))).set 6 (.bool (s 6))).set 7 (.bool (s 7))); have bA9 := ((((((((bA.far (o := 0) (u := .bool (s 0)) hAP).far (o := 1) (u := .bool (s 1)) hAP).far (o := 2) (u := .bool (s 2)) hAP).far (o := 3) (u := .bool (s 3)) hAP).far (o := 4) (u := .bool (s 4)) hAP).far (o := 5) (u := .bool (s 5)) hAP).far (o := 6) (u := .bool (s 6)) hAP).far (o := 7) (u := .bool (s 7)) hAP); have bP9 := ((((((((bP.far (o := 0) (u := .bool (s 0)) hPT).far (o := 1) (u := .bool (s 1)) hPT).far (o := 2) (u := .bool (s 2)) hPT).far (o := 3) (u := .bool (s 3)) hPT).far (o := 4) (u := .bool (s 4)) hPT).far (o := 5) (u := .bool (s 5)) hPT).far (o := 6) (u := .bool (s 6)) hPT).far (o := 7) (u := .bool (s 7)) hPT); have hB9 := ((((((((hB.setCell (p := ⟨T, 0, none⟩) hwT (.bool (s 0))).setCell (p := ⟨T, 1, none⟩) hwT (.bool (s 1))).setCell (p := ⟨T, 2, none⟩) hwT (.bool (s 2))).setCell (p := ⟨T, 3, none⟩) hwT (.bool (s 3))).setCell (p := ⟨T, 4, none⟩) hwT (.bool (s 4))).setCell (p := ⟨T, 5, none⟩) hwT (.bool (s 5))).setCell (p := ⟨T, 6, none⟩) hwT (.bool (s 6))).setCell (p := ⟨T, 7, none⟩) hwT (.bool (s 7))); have HSS := Lib.hid (And.intro bS (And.intro bA9 (And.intro bP9 hB9))); clear bS bA9 bP9 hB9 bA bP bT; go_wp2
      go_roundw
      case rel => exact ⟨k + 1, by omega, by go_num, HNX.out, by rw [HS.out]; exact HSS.out.1, HSS.out.2.1, HSS.out.2.2.1, HSS.out.2.2.2⟩
      case measure => simp [intOf]; omega
     ·have HF : Hid (hopsI F ((kn : Nat) : Int) x = (k : Int)) := Lib.hid (by
       rw [HHI.out, hopK_at hlt HNO.out (by rw [← HD.out.1]; exact HD.out.2)])
      go_wp2
      go_ret
      exact ⟨ret_int HF.out.symm, hB⟩
    ·have hk8 : k = 8 := by omega
     subst hk8; have HF : Hid (hopsI F ((kn : Nat) : Int) x = -1) := Lib.hid (by rw [HHI.out, hopK_none hno]); clear hno; go_wp2
     go_ret
     exact ⟨ret_int HF.out.symm, hB⟩
end Go.Proofs.YtbcmoofpgffbhabGreat
namespace Go.Proofs.YtbcmoofpgffbhabGreat
open Go.ChangeShapes Go.WideShapes Go.ChangeAt Go.RowKit Go.BigFrame Go.Joins
set_option linter.unusedVariables false
set_option maxRecDepth 100000
set_option linter.unusedSimpArgs false
set_option maxRecDepth 100000

/-- within k edges of S; E: the edges, both ways -/
def Lay (E : List (Nat × Nat)) (S : Nat → Prop) : Nat → Nat → Prop
 | 0, v => S v
 | k + 1, v => Lay E S k v ∨ ∃ u, ((u, v) ∈ E ∨ (v, u) ∈ E) ∧ Lay E S k u
theorem Lay.up {E : List (Nat × Nat)} {S : Nat → Prop} {k v : Nat} (h : Lay E S k v) : Lay E S (k + 1) v := .inl h
theorem Lay.mono {E : List (Nat × Nat)} {S : Nat → Prop} {k j v : Nat} (h : Lay E S k v) (hj : k ≤ j) : Lay E S j v := by
 induction j with
 | zero => rwa [Nat.le_zero.1 hj] at h
 | succ j ih =>
  by_cases e : k = j + 1
  ·rw [← e]; exact h
  ·exact (ih (by omega)).up
/-- in pieces: k + 1 edges of S are k edges of what is one edge of S -/
theorem Lay.front {E : List (Nat × Nat)} {S : Nat → Prop} : ∀ {k v : Nat}, Lay E S (k + 1) v ↔ Lay E (Lay E S 1) k v
 | 0, v => Iff.rfl
 | k + 1, v => by
  constructor
  ·rintro (h | ⟨u, hu, h⟩)
   ·exact .inl (Lay.front.1 h)
   ·exact .inr ⟨u, hu, Lay.front.1 h⟩
  ·rintro (h | ⟨u, hu, h⟩)
   ·exact .inl (Lay.front.2 h)
   ·exact .inr ⟨u, hu, Lay.front.2 h⟩
theorem Lay.sub {E : List (Nat × Nat)} {S T : Nat → Prop} (h : ∀ v, S v → T v) : ∀ {k v : Nat}, Lay E S k v → Lay E T k v
 | 0, v, q => h v q
 | k + 1, v, q => by
  rcases q with q | ⟨u, hu, q⟩
  ·exact .inl (Lay.sub h q)
  ·exact .inr ⟨u, hu, Lay.sub h q⟩
/-- a union of sources -/
theorem Lay.some {E : List (Nat × Nat)} {S : Nat → Prop} : ∀ {k v : Nat}, Lay E S k v ↔ ∃ s, S s ∧ Lay E (fun x => x = s) k v
 | 0, v => ⟨fun h => ⟨v, h, rfl⟩, fun ⟨s, h, e⟩ => by cases e; exact h⟩
 | k + 1, v => by
  constructor
  ·rintro (h | ⟨u, hu, h⟩)
   ·obtain ⟨s, h1, h2⟩ := Lay.some.1 h
    exact ⟨s, h1, .inl h2⟩
   ·obtain ⟨s, h1, h2⟩ := Lay.some.1 h
    exact ⟨s, h1, .inr ⟨u, hu, h2⟩⟩
  ·rintro ⟨s, h1, h | ⟨u, hu, h⟩⟩
   ·exact .inl (Lay.some.2 ⟨s, h1, h⟩)
   ·exact .inr ⟨u, hu, Lay.some.2 ⟨s, h1, h⟩⟩
/-- as far there as back -/
theorem Lay.symm {E : List (Nat × Nat)} : ∀ {k a b : Nat}, Lay E (fun x => x = a) k b → Lay E (fun x => x = b) k a
 | 0, a, b, h => Eq.symm h
 | k + 1, a, b, h => by
  rcases h with h | ⟨u, hu, h⟩
  ·exact .inl (Lay.symm h)
  ·have h1 := Lay.symm h
   rw [Lay.front]; refine Lay.sub (fun v hv => ?_) h1; subst hv
   exact .inr ⟨b, hu.symm, rfl⟩
/-- a set of switches is within k of b iff b is within k of one of them -/
theorem Lay.back {E : List (Nat × Nat)} {S : Nat → Prop} {k b : Nat} : Lay E S k b ↔ ∃ s, S s ∧ Lay E (fun x => x = b) k s := by
 rw [Lay.some]
 exact ⟨fun ⟨s, h1, h2⟩ => ⟨s, h1, h2.symm⟩, fun ⟨s, h1, h2⟩ => ⟨s, h1, h2.symm⟩⟩
/-- where a layer adds nothing, none behind it does -/
theorem Lay.still {E : List (Nat × Nat)} {S : Nat → Prop} {k : Nat} (h : ∀ v, Lay E S (k + 1) v → Lay E S k v) : ∀ {j v : Nat}, Lay E S (k + j) v → Lay E S k v
 | 0, v, q => q
 | j + 1, v, q => by
  rcases q with q | ⟨u, hu, q⟩
  ·exact Lay.still h q
  ·exact h v (.inr ⟨u, hu, Lay.still h q⟩)
/-- more of them -/
theorem countP_more {l : List Nat} {p q : Nat → Bool} (h : ∀ x ∈ l, p x = true → q x = true) : l.countP p ≤ l.countP q := by
 induction l with
 | nil => simp
 | cons x l ih =>
  have := ih fun y hy => h y (List.mem_cons_of_mem _ hy)
  have hx := h x List.mem_cons_self; rw [List.countP_cons, List.countP_cons]; cases hp : p x <;> cases hq : q x <;> simp_all <;> omega
theorem countP_lt {l : List Nat} {p q : Nat → Bool} (h : ∀ x ∈ l, p x = true → q x = true) {a : Nat} (ha : a ∈ l) (hp : p a = false) (hq : q a = true) : l.countP p < l.countP q := by
 induction l with
 | nil => cases ha
 | cons x l ih =>
  have hm := countP_more (l := l) fun y hy => h y (List.mem_cons_of_mem _ hy)
  have hx := h x List.mem_cons_self; rw [List.countP_cons, List.countP_cons]
  rcases List.mem_cons.1 ha with rfl | ha
  ·rw [hp, hq]
   simp
   omega
  ·have := ih (fun y hy => h y (List.mem_cons_of_mem _ hy)) ha
   cases hp : p x <;> cases hq : q x <;> simp_all <;> omega
theorem Lay.lt {E : List (Nat × Nat)} {S : Nat → Prop} {N : Nat} (hE : ∀ u v, (u, v) ∈ E → u < N ∧ v < N) (hS : ∀ v, S v → v < N) : ∀ {k v : Nat}, Lay E S k v → v < N
 | 0, v, h => hS v h
 | k + 1, v, h => by
  rcases h with h | ⟨u, hu | hu, -⟩
  ·exact Lay.lt hE hS h
  ·exact (hE _ _ hu).2
  ·exact (hE _ _ hu).1
/-- N switches: nobody is farther than N - 1 -/
theorem Lay.most {E : List (Nat × Nat)} {S : Nat → Prop} {N : Nat} (hE : ∀ u v, (u, v) ∈ E → u < N ∧ v < N) (hS : ∀ v, S v → v < N) {k v : Nat} (h : Lay E S k v) : Lay E S (N - 1) v := by
 classical
 by_cases hst : ∃ j, j ≤ N - 1 ∧ ∀ v, Lay E S (j + 1) v → Lay E S j v
 ·obtain ⟨j, hj, hs⟩ := hst
  exact (Lay.still hs (h.mono (Nat.le_add_left k j))).mono hj
 ·exfalso
  have hnew : ∀ j, j ≤ N - 1 → ∃ x, Lay E S (j + 1) x ∧ ¬ Lay E S j x := fun j hj => by
   refine Classical.byContradiction fun q => hst ⟨j, hj, fun x hx => ?_⟩
   exact Classical.byContradiction fun r => q ⟨x, hx, r⟩
  obtain ⟨s, hs, -⟩ := Lay.some.1 h; have hN := hS s hs
  have hc : ∀ j, j ≤ N → j + 1 ≤ (List.range N).countP fun x => decide (Lay E S j x) := by
   intro j
   induction j with
   | zero =>
    intro _; have := countP_lt (l := List.range N) (p := fun _ => false) (q := fun x => decide (Lay E S 0 x)) (fun x _ q => by cases q) (List.mem_range.2 hN) rfl (decide_eq_true (show Lay E S 0 s from hs))
    omega
   | succ j ih =>
    intro hj; have h1 := ih (by omega); obtain ⟨x, hx, hnx⟩ := hnew j (by omega); have := countP_lt (l := List.range N) (p := fun x => decide (Lay E S j x)) (q := fun x => decide (Lay E S (j + 1) x)) (fun y _ q => decide_eq_true (Lay.up (of_decide_eq_true q))) (List.mem_range.2 (Lay.lt hE hS hx)) (decide_eq_false hnx) (decide_eq_true hx)
    omega
  have h1 := hc N (Nat.le_refl _); have h2 := List.countP_le_length (p := fun x => decide (Lay E S N x)) (l := List.range N); rw [List.length_range] at h2
  omega
end Go.Proofs.YtbcmoofpgffbhabGreat
namespace Go.Proofs.YtbcmoofpgffbhabGreat
open Go.ChangeShapes Go.WideShapes Go.ChangeAt Go.RowKit Go.BigFrame Go.Joins
set_option linter.unusedVariables false
set_option maxRecDepth 100000
set_option linter.unusedSimpArgs false
set_option maxRecDepth 100000

/-- v is just k edges from S -/
def Dst (E : List (Nat × Nat)) (S : Nat → Prop) (k v : Nat) : Prop := Lay E S k v ∧ ∀ i, i < k → ¬ Lay E S i v
theorem Dst.of_lay {E : List (Nat × Nat)} {S : Nat → Prop} {v : Nat} : ∀ {j : Nat}, Lay E S j v → ∃ k, k ≤ j ∧ Dst E S k v
 | 0, h => ⟨0, Nat.le_refl _, h, fun i hi => absurd hi (by omega)⟩
 | j + 1, h => by
  classical
  by_cases q : Lay E S j v
  ·obtain ⟨k, hk, hd⟩ := Dst.of_lay q
   exact ⟨k, by omega, hd⟩
  ·exact ⟨j + 1, Nat.le_refl _, h, fun i hi r => q (r.mono (by omega))⟩
theorem Dst.next {E : List (Nat × Nat)} {S : Nat → Prop} {k v : Nat} : Dst E S (k + 1) v ↔ ¬ Lay E S k v ∧ ∃ u, ((u, v) ∈ E ∨ (v, u) ∈ E) ∧ Dst E S k u := by
 constructor
 ·rintro ⟨h | ⟨u, hu, h⟩, q⟩
  ·exact absurd h (q k (by omega))
  ·exact ⟨q k (by omega), u, hu, h, fun i hi r => q (i + 1) (by omega) (.inr ⟨u, hu, r⟩)⟩
 ·rintro ⟨q, u, hu, h⟩
  exact ⟨.inr ⟨u, hu, h.1⟩, fun i hi r => q (r.mono (by omega))⟩
/-- what the numbers say while level j is gone through: A: the edges that have been looked at -/
def FarOk (E : List (Nat × Nat)) (S : Nat → Prop) (N j : Nat) (A : Nat → Nat → Prop) (far : Nat → Int) : Prop :=
 ∀ v, v < N → (∀ k : Nat, k ≤ j → (far v = k ↔ Dst E S k v)) ∧ (far v = (j : Int) + 1 ↔ ¬ Lay E S j v ∧ ∃ u, A u v ∧ Dst E S j u) ∧ (far v < 0 ↔ ¬ Lay E S j v ∧ ¬ ∃ u, A u v ∧ Dst E S j u)
/-- one edge, in one direction -/
def hstep (j : Nat) (far : Nat → Int) (a b : Nat) : Nat → Int := fun v => if v = b ∧ far a = j ∧ far b < 0 then (j : Int) + 1 else far v
theorem FarOk.step {E : List (Nat × Nat)} {S : Nat → Prop} {N j a b : Nat} {A : Nat → Nat → Prop} {far : Nat → Int} (h : FarOk E S N j A far) (ha : a < N) (hb : b < N) : FarOk E S N j (fun u v => A u v ∨ (u = a ∧ v = b)) (hstep j far a b) := by
 classical
 intro v hv; obtain ⟨h1, h2, h3⟩ := h v hv; obtain ⟨a1, a2, a3⟩ := h a ha; have haj := a1 j (Nat.le_refl _)
 by_cases e : v = b
 ·subst e
  by_cases hc : far a = j ∧ far v < 0
  ·have hd := haj.1 hc.1
   have hn := h3.1 hc.2; have hval : hstep j far a v v = (j : Int) + 1 := by unfold hstep; rw [if_pos ⟨rfl, hc⟩]
   rw [hval]; refine ⟨fun k hk => ⟨fun q => absurd q (by omega), fun q => absurd (q.1.mono hk) hn.1⟩, ⟨fun _ => ⟨hn.1, a, .inr ⟨rfl, rfl⟩, hd⟩, fun _ => rfl⟩, ⟨fun q => absurd q (by omega), fun q => absurd ⟨a, .inr ⟨rfl, rfl⟩, hd⟩ q.2⟩⟩
  ·have hval : hstep j far a v v = far v := by unfold hstep; rw [if_neg (fun q => hc q.2)]
   rw [hval]
   have hex : ¬ Lay E S j v → ((∃ u, (A u v ∨ (u = a ∧ v = v)) ∧ Dst E S j u) ↔ ∃ u, A u v ∧ Dst E S j u) := by
    intro hl
    constructor
    ·rintro ⟨u, hu | ⟨rfl, -⟩, hd⟩
     ·exact ⟨u, hu, hd⟩
     ·have hfa := haj.2 hd
      have hfv : ¬ far v < 0 := fun q => hc ⟨hfa, q⟩
      exact Classical.byContradiction fun q => hfv (h3.2 ⟨hl, q⟩)
    ·rintro ⟨u, hu, hd⟩
     exact ⟨u, .inl hu, hd⟩
   refine ⟨h1, h2.trans ⟨fun q => ⟨q.1, (hex q.1).2 q.2⟩, fun q => ⟨q.1, (hex q.1).1 q.2⟩⟩, h3.trans ⟨fun q => ⟨q.1, fun r => q.2 ((hex q.1).1 r)⟩, fun q => ⟨q.1, fun r => q.2 ((hex q.1).2 r)⟩⟩⟩
 ·have hval : hstep j far a b v = far v := by unfold hstep; rw [if_neg (fun q => e q.1)]
  rw [hval]
  have hex : (∃ u, (A u v ∨ (u = a ∧ v = b)) ∧ Dst E S j u) ↔ ∃ u, A u v ∧ Dst E S j u :=
   ⟨fun ⟨u, hu, hd⟩ => ⟨u, hu.resolve_right (fun q => e q.2), hd⟩, fun ⟨u, hu, hd⟩ => ⟨u, .inl hu, hd⟩⟩
  rw [hex]
  exact ⟨h1, h2, h3⟩
/-- all edges have been looked at: the next level begins -/
theorem FarOk.level {E : List (Nat × Nat)} {S : Nat → Prop} {N j : Nat} {far : Nat → Int} (h : FarOk E S N j (fun u v => (u, v) ∈ E ∨ (v, u) ∈ E) far) : FarOk E S N (j + 1) (fun _ _ => False) far := by
 classical
 intro v hv; obtain ⟨h1, h2, h3⟩ := h v hv; have hn : (∃ u, False ∧ Dst E S (j + 1) u) ↔ False := ⟨fun ⟨_, q, _⟩ => q, False.elim⟩
 have hx : Lay E S (j + 1) v ↔ Lay E S j v ∨ ∃ u, ((u, v) ∈ E ∨ (v, u) ∈ E) ∧ Dst E S j u := by
  constructor
  ·intro q
   by_cases r : Lay E S j v
   ·exact .inl r
   ·obtain ⟨k, hk, hd⟩ := Dst.of_lay q
    by_cases hkj : k = j + 1
    ·subst hkj
     exact .inr (Dst.next.1 hd).2
    ·exact absurd (hd.1.mono (by omega)) r
  ·rintro (q | ⟨u, hu, hd⟩)
   ·exact q.up
   ·exact .inr ⟨u, hu, hd.1⟩
 refine ⟨fun k hk => ?_, ?_, ?_⟩
 ·by_cases e : k = j + 1
  ·subst e
   rw [Dst.next, ← h2]
   exact ⟨fun q => by rw [q]; push_cast; rfl, fun q => by rw [q]; push_cast; rfl⟩
  ·exact h1 k (by omega)
 ·rw [hn]
  constructor
  ·intro q
   exfalso
   by_cases r : Lay E S j v
   ·obtain ⟨k, hk, hd⟩ := Dst.of_lay r
    have := (h1 k hk).2 hd
    push_cast at q
    omega
   ·by_cases t : ∃ u, ((u, v) ∈ E ∨ (v, u) ∈ E) ∧ Dst E S j u
    ·have := h2.2 ⟨r, t⟩
     push_cast at q
     omega
    ·have := h3.2 ⟨r, t⟩
     push_cast at q
     omega
  ·rintro ⟨-, q⟩
   exact q.elim
 ·rw [hn, h3, hx]
  exact ⟨fun q => ⟨fun r => r.elim q.1 q.2, id⟩, fun q => ⟨fun r => q.1 (.inl r), fun r => q.1 (.inr r)⟩⟩
/-- at the start: 0 where S is, -1 elsewhere -/
theorem FarOk.start {E : List (Nat × Nat)} {S : Nat → Prop} {N : Nat} {far : Nat → Int} (h : ∀ v, v < N → (S v → far v = 0) ∧ (¬ S v → far v = -1)) : FarOk E S N 0 (fun _ _ => False) far := by
 classical
 intro v hv; obtain ⟨h1, h2⟩ := h v hv; have hn : (∃ u, False ∧ Dst E S 0 u) ↔ False := ⟨fun ⟨_, q, _⟩ => q, False.elim⟩; rw [hn]
 have hd : ∀ k : Nat, k ≤ 0 → (Dst E S k v ↔ S v) := fun k hk => by
  obtain rfl : k = 0 := by omega
  exact ⟨fun q => q.1, fun q => ⟨q, fun i hi => absurd hi (by omega)⟩⟩
 by_cases hs : S v
 ·have e := h1 hs
  rw [e]; refine ⟨fun k hk => ?_, ⟨fun q => absurd q (by omega), fun q => q.2.elim⟩, ⟨fun q => absurd q (by omega), fun q => absurd hs q.1⟩⟩; rw [hd k hk]
  exact ⟨fun _ => hs, fun _ => by omega⟩
 ·have e := h2 hs
  rw [e]; refine ⟨fun k hk => ?_, ⟨fun q => absurd q (by omega), fun q => q.2.elim⟩, ⟨fun _ => ⟨hs, id⟩, fun _ => by omega⟩⟩; rw [hd k hk]
  exact ⟨fun q => absurd q (by omega), fun q => absurd q hs⟩
end Go.Proofs.YtbcmoofpgffbhabGreat
