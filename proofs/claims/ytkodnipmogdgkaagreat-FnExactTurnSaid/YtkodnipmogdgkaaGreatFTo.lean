/-
  FabricOk of the model. Conditions: those in each contract.
  Mark, of the model and of the program. Conditions: those in each contract.
  Mark of the program. Conditions: those in each contract.
  How many marks a fabric bears. Conditions: those in each contract.
  NodeLost of the program and of the model. Conditions: those in each contract.
  What l8lost answers lies in the switch's own memory, or is new. Conditions: those in each contract.
  Words for Turn. Conditions: those in each contract.
  lose, of the program. Conditions: those in each contract.
-/
import Derived.Test.YtkodnipmogdgkaaGreatFTn
import Derived.Test.YtkodnipmogdgkaaGreatFTk
import Derived.Test.YtkodnipmogdgkaaGreatFTj
import Derived.Test.YtkodnipmogdgkaaGreatFTg
namespace Go.Proofs.YtkodnipmogdgkaaGreat
open Go.ChangeShapes Go.WideShapes Go.ChangeAt Go.RowKit Go.BigFrame Go.Joins
set_option linter.unusedVariables false
set_option maxRecDepth 100000
set_option maxRecDepth 100000
set_option linter.unusedSimpArgs false
set_option maxRecDepth 100000

theorem endsL_eq (L : List Lk) : endsL L = endsY (waysL L) := by
 induction L with
 | nil => rfl
 | cons x L ih => simp only [endsL, endsY, waysL, List.flatMap_cons, List.map_append] at ih ⊢; rw [ih]; rfl
def lmsB (x : Lk) : Bool := msB x.ab && (msB x.ba && (x.up || decide (x.ab.length + x.ba.length = 0)))
def fsB (F : Fb) : Bool := inB F.nodes.length 1 8 && (decide (F.links.length ≤ 12) && (inB F.width 1 4 && (lendB F.nodes.length F.links && ((F.nodes.all fun x => ndB x) && F.links.all fun x => lmsB x))))
theorem link_way (n : Nat) (x : Lk) : (wayB n ⟨x.a, x.ai, x.b, x.bi, x.up, x.ab⟩ = true ∧ wayB n ⟨x.b, x.bi, x.a, x.ai, x.up, x.ba⟩ = true) ↔ (linkB n x = true ∧ lmsB x = true) := by
 unfold wayB endB trB linkB lmsB msB inB; simp only [Bool.and_eq_true, Bool.or_eq_true, decide_eq_true_iff, bne_iff_ne]
 constructor
 ·rintro ⟨⟨⟨⟨⟨a1, a2⟩, a3, a4⟩, a5⟩, ⟨a6, a7⟩, a8⟩, ⟨⟨⟨b1, b2⟩, b3, b4⟩, b5⟩, ⟨b6, b7⟩, b8⟩
  refine ⟨⟨⟨a1, by omega, b1, by omega, a5⟩, ⟨a3, a4⟩, b3, b4⟩, ⟨a7, a6⟩, ⟨b7, b6⟩, ?_⟩
  rcases a8 with a8 | a8
  ·exact .inl a8
  ·rcases b8 with b8 | b8
   ·exact .inl b8
   ·exact .inr (by omega)
 ·rintro ⟨⟨⟨a1, a2, a3, a4, a5⟩, ⟨a6, a7⟩, a8, a9⟩, ⟨b1, b2⟩, ⟨b3, b4⟩, b5⟩
  refine ⟨⟨⟨⟨⟨a1, by omega⟩, a6, a7⟩, a5⟩, ⟨b2, b1⟩, ?_⟩, ⟨⟨⟨a3, by omega⟩, a8, a9⟩, Ne.symm a5⟩, ⟨b4, b3⟩, ?_⟩
  ·rcases b5 with b5 | b5
   ·exact .inl b5
   ·exact .inr (by omega)
  ·rcases b5 with b5 | b5
   ·exact .inl b5
   ·exact .inr (by omega)
theorem ways_all (n : Nat) (L : List Lk) : (∀ y ∈ waysL L, wayB n y = true) ↔ ∀ x ∈ L, linkB n x = true ∧ lmsB x = true := by
 constructor
 ·intro h x hx
  exact (link_way n x).1 ⟨h _ (List.mem_flatMap.2 ⟨x, hx, by simp [waysOf]⟩), h _ (List.mem_flatMap.2 ⟨x, hx, by simp [waysOf]⟩)⟩
 ·intro h y hy
  obtain ⟨x, hx, hy⟩ := List.mem_flatMap.1 hy; have := (link_way n x).2 (h x hx); simp only [waysOf, List.mem_cons, List.not_mem_nil, or_false] at hy
  rcases hy with rfl | rfl
  ·exact this.1
  ·exact this.2
theorem fsB_eq (F : Fb) : fsB F = fbB F := by
 rw [Bool.eq_iff_iff]; unfold fsB fbB lendB; simp only [Bool.and_eq_true, List.all_eq_true, decide_eq_true_iff, endsL_eq, ways_all]
 constructor
 ·rintro ⟨h1, h2, h3, ⟨h4, h5⟩, h6, h7⟩
  exact ⟨h1, h6, h3, h2, fun x hx => ⟨h4 x hx, h7 x hx⟩, h5⟩
 ·rintro ⟨h1, h6, h3, h2, h4, h5⟩
  exact ⟨h1, h2, h3, ⟨fun x hx => (h4 x hx).1, h5⟩, h6, fun x hx => (h4 x hx).2⟩
theorem smsgs_t {v : Value} {l : List Mg} {b : Bool} (w : World) (h : RdMS w v l) (hw : ∀ m ∈ l, wtM m ≤ 1048576) (H : Hid (msB l = b)) :
  Calls Tryz.prog 75 #[v] w fun e w' => e = .returned (.bool b) ∧ Below w.heap.size w w' := H.out ▸ smsgs_any v l w h hw
theorem sends_t (nv lv : Value) (F : Fb) {b : Bool} (w : World) (hN : RdNS w nv F.nodes) (h : RdLS w lv F.links) (hn8 : F.nodes.length ≤ 8) (H : Hid (lendB F.nodes.length F.links = b)) :
  Calls Tryz.prog 73 #[.agg #[nv, lv, .int .i64 F.width]] w fun e w' => e = .returned (.bool b) ∧ Below w.heap.size w w' := H.out ▸ sends_any nv lv F w hN h hn8
theorem wtS_mem {l : List Mg} {m : Mg} (h : m ∈ l) : wtM m ≤ wtMS l := by
 obtain ⟨i, hi, e⟩ := List.mem_iff_getElem.1 h; have := wtM_at hi
 rwa [List.getD_eq_getElem?_getD, List.getElem?_eq_getElem hi, show (some l[i]).getD m0 = l[i] from rfl, e] at this
theorem wtL_mem {l : List Lk} {m : Lk} (h : m ∈ l) : wtL m ≤ wtLS l := by
 obtain ⟨i, hi, e⟩ := List.mem_iff_getElem.1 h; have := wtL_at hi
 rwa [List.getD_eq_getElem?_getD, List.getElem?_eq_getElem hi, show (some l[i]).getD l0 = l[i] from rfl, e] at this
set_option maxHeartbeats 4000000 in
theorem sfok_any (nv lv : Value) (F : Fb) (w : World) (h : RdF w nv lv F) (hw : wtF F ≤ 1048576) :
  Calls Tryz.prog 32 #[.agg #[nv, lv, .int .i64 F.width]] w fun e w' => e = .returned (.bool (fsB F)) ∧ Below w.heap.size w w' := by
 have hm1 := h.1.1; have hm2 := h.2.1; obtain ⟨na, nx, rfl⟩ := h.1.len; obtain ⟨la, lx, rfl⟩ := h.2.len; obtain ⟨bF, B0, z⟩ := one w [.slice na F.nodes.length nx, .slice la F.links.length lx, .int .i64 F.width] 30; obtain ⟨hN, hL⟩ := h.keep B0; have HW := Lib.hid hw; clear z h hw; have f0 := bF.c 0 rfl; have f1 := bF.c 1 rfl; have f2 := bF.c 2 rfl; cases hA : inB (F.nodes.length : Int) 1 8
 ·rw [show fsB F = false by unfold fsB; rw [hA, Bool.false_and]]
  have hh : (F.nodes.length : Int) < 1 ∨ (8 : Int) < (F.nodes.length : Int) := by unfold inB at hA; simp at hA; omega
  clear hA; obtain ⟨n, hn⟩ : ∃ n, n = F.nodes.length := ⟨_, rfl⟩; rw [← hn] at hh f0 B0 ⊢; clear hn
  by_cases hx : (n : Int) < 1
  ·go_enter Tryz.func32, Tryz.ntmps32
   go_wp2
   go_ret
   exact ⟨rfl, B0⟩
  ·have hy : (8 : Int) < (n : Int) := by omega
   go_enter Tryz.func32, Tryz.ntmps32
   go_wp2
   go_ret
   exact ⟨rfl, B0⟩
 ·have hn8 : F.nodes.length ≤ 8 := by unfold inB at hA; simp at hA; omega
  have hn1 : ¬ (F.nodes.length : Int) < 1 := by unfold inB at hA; simp at hA; omega
  have hnb : ¬ (8 : Int) < (F.nodes.length : Int) := by omega
  by_cases hD : F.links.length ≤ 12
  ·have hly : ¬ (12 : Int) < (F.links.length : Int) := by omega
   cases hC : inB F.width 1 4
   ·rw [show fsB F = false by unfold fsB; rw [hC, Bool.false_and, Bool.and_false, Bool.and_false]]
    have hh : F.width < 1 ∨ 4 < F.width := by unfold inB at hC; simp at hC; omega
    clear hA hC
    by_cases hx : F.width < 1
    ·go_enter Tryz.func32, Tryz.ntmps32
     go_wp2
     go_ret
     exact ⟨rfl, B0⟩
    ·have hy : 4 < F.width := by omega
     go_enter Tryz.func32, Tryz.ntmps32
     go_wp2
     go_ret
     exact ⟨rfl, B0⟩
   ·have hw1 : ¬ F.width < 1 := by unfold inB at hC; simp at hC; omega
    have hw4 : ¬ 4 < F.width := by unfold inB at hC; simp at hC; omega
    cases hE : lendB F.nodes.length F.links
    ·rw [show fsB F = false by unfold fsB; rw [hE, Bool.false_and, Bool.and_false, Bool.and_false, Bool.and_false]]
     have HE := Lib.hid hE; clear hA hC hE hD
     go_enter Tryz.func32, Tryz.ntmps32
     go_wp2_with fail; refine (sends_t _ _ F _ hN hL hn8 HE).mono ?_; rintro e w1 ⟨rfl, hb⟩; replace B0 := below_step B0 hb; go_wp2
     go_ret
     exact ⟨rfl, B0⟩
    ·have e0 : fsB F = ((F.nodes.all fun x => ndB x) && F.links.all fun x => lmsB x) := by unfold fsB; rw [hA, hC, hE, decide_eq_true hD]; simp
     rw [e0]; have HE := Lib.hid hE; clear hA hC hE hD e0
     go_enter Tryz.func32, Tryz.ntmps32
     go_wp2_with fail; refine (sends_t _ _ F _ hN hL hn8 HE).mono ?_; rintro e W1 ⟨rfl, hb⟩; replace B0 := below_step B0 hb; replace bF := bF.keep hb; replace hN := hN.keep hb; replace hL := hL.keep hb; obtain ⟨na, nx, hnv⟩ := hN.el; obtain ⟨hnv, hcn⟩ := hnv; obtain ⟨la, lx, hlv⟩ := hL.el; obtain ⟨hlv, hcl⟩ := hlv; simp only [Value.slice.injEq, true_and] at hnv hlv; obtain ⟨rfl, rfl⟩ := hnv; obtain ⟨rfl, rfl⟩ := hlv; obtain ⟨n, hn⟩ : ∃ n, n = F.nodes.length := ⟨_, rfl⟩; obtain ⟨m, hm⟩ : ∃ m, m = F.links.length := ⟨_, rfl⟩; rw [← hn] at bF hcn hm1; rw [← hm] at bF hcl hm2
     try rw [← hn]
     try rw [← hm]
     have HN := Lib.hid hn; have HM := Lib.hid hm; clear hb hn hm hN hL f0 f1 f2 HE hn8 hn1 hnb hly hw1 hw4; go_wp2
     go_loopw [3] (fun q wr => ∃ j : Nat, j ≤ n ∧ q = .int .i64 j ∧ (∀ i, i < j → ndB (F.nodes.getD i n0) = true) ∧ Over W1 wr) (fun q _ => n - (intOf q).toNat)
     case atStart => exact ⟨0, Nat.zero_le _, rfl, fun i hi => by omega, over_refl _⟩
     case round =>
      obtain ⟨j, hj, rfl, hyes, hB⟩ := hrel; have HY := Lib.hid hyes; clear hyes; have f0 := (bF.keep hB).c 0 rfl
      by_cases hlt : j < n
      ·have hltI : (j : Int) < (n : Int) := by omega
       obtain ⟨b, o, rfl, hE⟩ := hcn j hlt; obtain ⟨x, hx⟩ : ∃ x, F.nodes.getD j n0 = x := ⟨_, rfl⟩; rw [hx] at hE; obtain ⟨ov, rv, sv, hr, g0, g1, g2, g3, g4, g5⟩ := hE.keep hB
       have HXM : Hid (x ∈ F.nodes) := Lib.hid (by
        rw [← hx, List.getD_eq_getElem?_getD, List.getElem?_eq_getElem (by rw [← HN.out]; exact hlt)]
        exact List.getElem_mem _)
       have HX := Lib.hid hx; have HC := Lib.hid hcn; have HC2 := Lib.hid hcl; clear hx hcn hE hcl; cases hk : ndB x
       ·have hno : (F.nodes.all fun x => ndB x) = false := List.all_eq_false.2 ⟨x, HXM.out, by rw [hk]; simp⟩
        have HNO := Lib.hid hno; have HK := Lib.hid hk; clear hno hk; go_wp2_with fail; refine (sndok_t _ hr HK).mono ?_; rintro e w1 ⟨rfl, hb1⟩; go_wp2
        go_ret
        exact ⟨ret_bool (by rw [HNO.out]; rfl), below_step B0 (over_step hB hb1)⟩
       ·have HK := Lib.hid hk
        clear hk; go_wp2_with fail; refine (sndok_t _ hr HK).mono ?_; rintro e w1 ⟨rfl, hb1⟩; go_wp2
        go_roundw
        case rel =>
         refine ⟨j + 1, by omega, by go_num, fun i hi => ?_, over_step hB hb1⟩
         by_cases hij : i = j
         ·subst hij; rw [HX.out]; exact HK.out
         ·exact HY.out i (by omega)
        case measure => simp [intOf]; omega
      ·have hkn : j = n := by omega
       subst hkn
       have e1 : (F.nodes.all fun x => ndB x) = true := List.all_eq_true.2 fun x hx => by
        obtain ⟨i, hi, e⟩ := List.mem_iff_getElem.1 hx; have := HY.out i (by rw [HN.out]; exact hi); rw [List.getD_eq_getElem?_getD, List.getElem?_eq_getElem hi] at this; rw [← e]
        exact this
       have HE1 := Lib.hid e1; replace bF := bF.keep hB
       have hcl2 : ∀ i, i < m → ∃ b o, la = some ⟨b, o, none⟩ ∧ AtL wr b (o + i * 7) (F.links.getD i l0) := fun i hi => by
        obtain ⟨b, o, e, h⟩ := hcl i hi
        exact ⟨b, o, e, h.keep hB⟩
       replace B0 := below_step B0 hB; obtain ⟨W2, rfl⟩ : ∃ x : World, x = wr := ⟨_, rfl⟩; clear e1 hcn hcl hB HY hj hlt; go_wp2; clear f0
       go_loopw [4] (fun q wr => ∃ j : Nat, j ≤ m ∧ q = .int .i64 j ∧ (∀ i, i < j → lmsB (F.links.getD i l0) = true) ∧ Over W2 wr) (fun q _ => m - (intOf q).toNat)
       case atStart => exact ⟨0, Nat.zero_le _, rfl, fun i hi => by omega, over_refl _⟩
       case round =>
        obtain ⟨i, hi, rfl, hyes, hB⟩ := hrel; have HY := Lib.hid hyes; clear hyes; have f1 := (bF.keep hB).c 1 rfl
        by_cases hlt : i < m
        ·have hltI : (i : Int) < (m : Int) := by omega
         obtain ⟨b, o, rfl, hE⟩ := hcl2 i hlt; obtain ⟨x, hx⟩ : ∃ x, F.links.getD i l0 = x := ⟨_, rfl⟩; rw [hx] at hE; obtain ⟨sv, tv, hr, k0, k1, k2, k3, k4, k5, k6⟩ := hE.keep hB; obtain ⟨av, ax, rfl⟩ := hr.1.len; obtain ⟨bv, bx, rfl⟩ := hr.2.len
         have HXM : Hid (x ∈ F.links) := Lib.hid (by
          rw [← hx, List.getD_eq_getElem?_getD, List.getElem?_eq_getElem (by rw [← HM.out]; exact hlt)]
          exact List.getElem_mem _)
         have hwx := wtL_mem HXM.out
         have HWA : Hid ((∀ m ∈ x.ab, wtM m ≤ 1048576) ∧ ∀ m ∈ x.ba, wtM m ≤ 1048576) := Lib.hid (by
          have hw := HW.out; unfold wtF at hw; unfold wtL at hwx
          exact ⟨fun m hm => by have := wtS_mem hm; omega, fun m hm => by have := wtS_mem hm; omega⟩)
         have no : lmsB x = false → ((F.nodes.all fun x => ndB x) && F.links.all fun x => lmsB x) = false := fun q => by
          rw [show (F.links.all fun x => lmsB x) = false from List.all_eq_false.2 ⟨x, HXM.out, by rw [q]; simp⟩, Bool.and_false]
         have NO := Lib.hid no; have HX := Lib.hid hx; have HC := Lib.hid hcl2; have A1 : Below wr.heap.size wr (wr.alloc (.cells #[.int .i64 x.a, .int .i64 x.ai, .int .i64 x.b, .int .i64 x.bi, .bool x.up, .slice av x.ab.length ax, .slice bv x.ba.length bx] 70)) := (Below.refl _ _).alloc (Nat.le_refl _) _; have bP := Bl.new wr [.int .i64 x.a, .int .i64 x.ai, .int .i64 x.b, .int .i64 x.bi, .bool x.up, .slice av x.ab.length ax, .slice bv x.ba.length bx] 70 wr.heap.size rfl; have hr1 := hr.keep A1; have p4 := bP.c 4 rfl; have p5 := bP.c 5 rfl; have p6 := bP.c 6 rfl; clear hx hcl2 hE hr no hwx; cases hma : msB x.ab
         ·have hnn : lmsB x = false := by unfold lmsB; rw [hma, Bool.false_and]
          have HN2 := Lib.hid hnn; have HMA := Lib.hid hma; clear hnn hma; go_wp2_with fail; refine (smsgs_t _ hr1.1 HWA.out.1 HMA).mono ?_; rintro e w1 ⟨rfl, hb1⟩; have bP1 := bP.keep hb1; have hr2 := hr1.keep hb1; have hB1 := below_step (below_step B0 (over_step hB A1)) hb1; have hO1 := over_step (over_step hB A1) hb1; clear p4 p5 p6; have p4 := bP1.c 4 rfl; have p5 := bP1.c 5 rfl; have p6 := bP1.c 6 rfl; go_wp2
          go_ret
          exact ⟨ret_bool (NO.out HN2.out).symm, hB1⟩
         ·have HMA := Lib.hid hma
          cases hmb : msB x.ba
          ·have hnn : lmsB x = false := by unfold lmsB; rw [hmb, Bool.false_and, Bool.and_false]
           have HN2 := Lib.hid hnn; have HMB := Lib.hid hmb; clear hnn hma hmb; go_wp2_with fail; refine (smsgs_t _ hr1.1 HWA.out.1 HMA).mono ?_; rintro e w1 ⟨rfl, hb1⟩; have bP1 := bP.keep hb1; have hr2 := hr1.keep hb1; have hB1 := below_step (below_step B0 (over_step hB A1)) hb1; have hO1 := over_step (over_step hB A1) hb1; clear p4 p5 p6; have p4 := bP1.c 4 rfl; have p5 := bP1.c 5 rfl; have p6 := bP1.c 6 rfl; go_wp2_with fail; refine (smsgs_t _ hr2.2 HWA.out.2 HMB).mono ?_; rintro e w2 ⟨rfl, hb2⟩; have bP2 := bP1.keep hb2; have hB2 := below_step hB1 hb2; have hO2 := over_step hO1 hb2; clear p4 p5 p6; have p4 := bP2.c 4 rfl; have p5 := bP2.c 5 rfl; have p6 := bP2.c 6 rfl; go_wp2
           go_ret
           exact ⟨ret_bool (NO.out HN2.out).symm, hB2⟩
          ·have HMB := Lib.hid hmb
           have hla : x.ab.length ≤ 500 := by unfold msB at hma; simp at hma; exact hma.2
           have hlb : x.ba.length ≤ 500 := by unfold msB at hmb; simp at hmb; exact hmb.2
           have hwr : IntKind.i64.wrap ((x.ab.length : Int) + (x.ba.length : Int)) = (x.ab.length : Int) + (x.ba.length : Int) := wrap64_in _ (by omega) (by omega); cases hup : x.up
           ·rw [hup] at bP A1 hr1 p4 p5 p6 k4
            by_cases hz : x.ab.length + x.ba.length = 0
            ·have hnn : lmsB x = true := by unfold lmsB; rw [hma, hmb, decide_eq_true hz]; simp
             have hzi : ¬ 0 < (x.ab.length : Int) + (x.ba.length : Int) := by omega
             have HN2 := Lib.hid hnn; have HUP := Lib.hid hup; have HZ := Lib.hid hz; clear hnn hma hmb hla hlb hup hz; go_wp2_with fail; refine (smsgs_t _ hr1.1 HWA.out.1 HMA).mono ?_; rintro e w1 ⟨rfl, hb1⟩; have bP1 := bP.keep hb1; have hr2 := hr1.keep hb1; have hB1 := below_step (below_step B0 (over_step hB A1)) hb1; have hO1 := over_step (over_step hB A1) hb1; clear p4 p5 p6; have p4 := bP1.c 4 rfl; have p5 := bP1.c 5 rfl; have p6 := bP1.c 6 rfl; go_wp2_with fail; refine (smsgs_t _ hr2.2 HWA.out.2 HMB).mono ?_; rintro e w2 ⟨rfl, hb2⟩; have bP2 := bP1.keep hb2; have hB2 := below_step hB1 hb2; have hO2 := over_step hO1 hb2; clear p4 p5 p6; have p4 := bP2.c 4 rfl; have p5 := bP2.c 5 rfl; have p6 := bP2.c 6 rfl; go_wp2
             go_roundw
             case rel =>
              refine ⟨i + 1, by omega, by go_num, fun q hq => ?_, hO2⟩
              by_cases hij : q = i
              ·subst hij; rw [HX.out]; exact HN2.out
              ·exact HY.out q (by omega)
             case measure => simp [intOf]; omega
            ·have hnn : lmsB x = false := by unfold lmsB; rw [hma, hmb, hup, decide_eq_false hz]; rfl
             have hzi : 0 < (x.ab.length : Int) + (x.ba.length : Int) := by omega
             have HN2 := Lib.hid hnn; have HUP := Lib.hid hup; have HZ := Lib.hid hz; clear hnn hma hmb hla hlb hup hz; go_wp2_with fail; refine (smsgs_t _ hr1.1 HWA.out.1 HMA).mono ?_; rintro e w1 ⟨rfl, hb1⟩; have bP1 := bP.keep hb1; have hr2 := hr1.keep hb1; have hB1 := below_step (below_step B0 (over_step hB A1)) hb1; have hO1 := over_step (over_step hB A1) hb1; clear p4 p5 p6; have p4 := bP1.c 4 rfl; have p5 := bP1.c 5 rfl; have p6 := bP1.c 6 rfl; go_wp2_with fail; refine (smsgs_t _ hr2.2 HWA.out.2 HMB).mono ?_; rintro e w2 ⟨rfl, hb2⟩; have bP2 := bP1.keep hb2; have hB2 := below_step hB1 hb2; have hO2 := over_step hO1 hb2; clear p4 p5 p6; have p4 := bP2.c 4 rfl; have p5 := bP2.c 5 rfl; have p6 := bP2.c 6 rfl; go_wp2
             go_ret
             exact ⟨ret_bool (NO.out HN2.out).symm, hB2⟩
           ·rw [hup] at bP A1 hr1 p4 p5 p6 k4
            have hnn : lmsB x = true := by unfold lmsB; rw [hma, hmb, hup]; rfl
            have HN2 := Lib.hid hnn; have HUP := Lib.hid hup; clear hnn hma hmb hla hlb hup; go_wp2_with fail; refine (smsgs_t _ hr1.1 HWA.out.1 HMA).mono ?_; rintro e w1 ⟨rfl, hb1⟩; have bP1 := bP.keep hb1; have hr2 := hr1.keep hb1; have hB1 := below_step (below_step B0 (over_step hB A1)) hb1; have hO1 := over_step (over_step hB A1) hb1; clear p4 p5 p6; have p4 := bP1.c 4 rfl; have p5 := bP1.c 5 rfl; have p6 := bP1.c 6 rfl; go_wp2_with fail; refine (smsgs_t _ hr2.2 HWA.out.2 HMB).mono ?_; rintro e w2 ⟨rfl, hb2⟩; have bP2 := bP1.keep hb2; have hB2 := below_step hB1 hb2; have hO2 := over_step hO1 hb2; clear p4 p5 p6; have p4 := bP2.c 4 rfl; have p5 := bP2.c 5 rfl; have p6 := bP2.c 6 rfl; go_wp2
            go_roundw
            case rel =>
             refine ⟨i + 1, by omega, by go_num, fun q hq => ?_, hO2⟩
             by_cases hij : q = i
             ·subst hij; rw [HX.out]; exact HN2.out
             ·exact HY.out q (by omega)
            case measure => simp [intOf]; omega
        ·have hkn : i = m := by omega
         subst hkn
         have e1 : (F.links.all fun x => lmsB x) = true := List.all_eq_true.2 fun x hx => by
          obtain ⟨q, hq, e⟩ := List.mem_iff_getElem.1 hx; have := HY.out q (by rw [HM.out]; exact hq); rw [List.getD_eq_getElem?_getD, List.getElem?_eq_getElem hq] at this; rw [← e]
          exact this
         have HE2 := Lib.hid e1; clear e1 hcl2; go_wp2
         go_ret
         exact ⟨ret_bool (by rw [HE1.out, HE2.out]; rfl), below_step B0 hB⟩
  ·rw [show fsB F = false by unfold fsB; rw [decide_eq_false hD, Bool.false_and, Bool.and_false]]
   have hy : (12 : Int) < (F.links.length : Int) := by omega
   clear hA hD
   go_enter Tryz.func32, Tryz.ntmps32
   go_wp2
   go_ret
   exact ⟨rfl, B0⟩

end Go.Proofs.YtkodnipmogdgkaaGreat
namespace Go.Proofs.YtkodnipmogdgkaaGreat
open Go.ChangeShapes Go.WideShapes Go.ChangeAt Go.RowKit Go.BigFrame Go.Joins
set_option linter.unusedVariables false
set_option maxRecDepth 100000
set_option linter.unusedSimpArgs false
set_option maxRecDepth 100000

def fb0 : Fb := ⟨[], [], 0⟩
theorem owF0 (w : World) (S : Nat → Prop) : OwF w S (.slice none 0 0) (.slice none 0 0) fb0 := ⟨fun _ => False, fun _ => False, fun _ q => q.elim, fun _ q => q.elim, fun _ q _ => q.elim, ⟨by simp [fb0], .inl ⟨rfl, rfl⟩⟩, ⟨by simp [fb0], .inl ⟨rfl, rfl⟩⟩⟩
end Go.Proofs.YtkodnipmogdgkaaGreat
namespace Go.Proofs.YtkodnipmogdgkaaGreat
open Go.ChangeShapes Go.WideShapes Go.ChangeAt Go.RowKit Go.BigFrame Go.Joins
set_option linter.unusedVariables false
set_option maxRecDepth 100000
set_option linter.unusedSimpArgs false
set_option maxRecDepth 100000

theorem OwNS.put {w w' : World} {S S' : Nat → Prop} {g cap j : Nat} {xs xs' : List Value} {E : Nat → Nat → Prop} {L : List Nd} {x' : Nd} (hl : L.length ≤ 1048576) (h1 : S g) (hB : Bl w' g xs') (hx : xs'.length = L.length * 6)
  (hE : ∀ i, i < L.length → (∀ b, E i b → S b) ∧ ¬ E i g ∧ ElN xs w (E i) i (L.getD i n0)) (hd : ∀ i j, i < L.length → j < L.length → i ≠ j → Dj (E i) (E j)) (hj : j < L.length)
  (hsame : ∀ i, i < L.length → i ≠ j → ∀ f, f < 6 → xs'[i * 6 + f]? = xs[i * 6 + f]?) (ha : ∀ i, i < L.length → AgrS (E i) w w') (hS : Dj S S') (hn : ElN xs' w' S' j x') : OwNS w' (fun b => S b ∨ S' b) (.slice (some ⟨g, 0, none⟩) L.length cap) (L.set j x') := by
 refine ⟨by rw [List.length_set]; exact hl, .inr ⟨g, cap, xs', fun i => if i = j then S' else E i, by rw [List.length_set], .inl h1, hB, by rw [List.length_set]; exact hx, fun i hi => ?_, fun i i' hi hi' hij => ?_⟩⟩
 ·rw [List.length_set] at hi
  dsimp only
  by_cases e : i = j
  ·subst e
   rw [if_pos rfl, show (L.set i x').getD i n0 = x' by simp [List.getD, hi]]
   exact ⟨fun b q => .inr q, fun q => hS g h1 q, hn⟩
  ·rw [if_neg e, show (L.set j x').getD i n0 = L.getD i n0 by simp [List.getD, List.getElem?_set, Ne.symm e]]
   obtain ⟨e1, e2, ov, rv, sv, ho, f0, f1, f2, f3, f4, f5⟩ := hE i hi; refine ⟨fun b q => .inl (e1 b q), e2, ov, rv, sv, ho.agr (ha i hi), ?_, ?_, ?_, ?_, ?_, ?_⟩
   ·rw [show i * 6 = i * 6 + 0 from rfl, hsame i hi e 0 (by omega)]; exact f0
   ·rw [hsame i hi e 1 (by omega)]; exact f1
   ·rw [hsame i hi e 2 (by omega)]; exact f2
   ·rw [hsame i hi e 3 (by omega)]; exact f3
   ·rw [hsame i hi e 4 (by omega)]; exact f4
   ·rw [hsame i hi e 5 (by omega)]; exact f5
 ·rw [List.length_set] at hi hi'
  dsimp only
  by_cases e : i = j
  ·rw [if_pos e, if_neg (by omega)]
   exact fun b q r => hS b ((hE i' hi').1 b r) q
  ·by_cases e' : i' = j
   ·rw [if_neg e, if_pos e']
    exact fun b q r => hS b ((hE i hi).1 b q) r
   ·rw [if_neg e, if_neg e']
    exact hd i i' hi hi' hij
end Go.Proofs.YtkodnipmogdgkaaGreat
namespace Go.Proofs.YtkodnipmogdgkaaGreat
open Go.ChangeShapes Go.WideShapes Go.ChangeAt Go.RowKit Go.BigFrame Go.Joins
set_option linter.unusedVariables false
set_option maxRecDepth 100000
set_option linter.unusedSimpArgs false
set_option maxRecDepth 100000

theorem cntQEw_le (L : List Ent) : cntQE L ≤ 11 * (L.length + wtE L) := by
 induction L with
 | nil => simp [cntQE, cntQS]
 | cons x L ih =>
  simp only [cntQE, cntQS, wtE, List.map_cons, List.sum_cons, List.length_cons] at ih ⊢; have : cntQ x ≤ 11 + 11 * (x.p.length + x.c.length) := by unfold cntQ cntI; omega
  omega
theorem cntMSw_le (L : List Mg) : cntMS L ≤ 11 * (L.length + wtMS L) := by
 induction L with
 | nil => simp [cntMS]
 | cons x L ih =>
  simp only [cntMS, wtMS, List.map_cons, List.sum_cons, List.length_cons] at ih ⊢; have : cntM x ≤ 11 + 11 * wtM x := by unfold cntM cntI cntP wtM; omega
  omega
theorem cntNSw_le (L : List Nd) : cntNS L ≤ 11 * (L.length + wtNS L) := by
 induction L with
 | nil => simp [cntNS]
 | cons x L ih =>
  simp only [cntNS, wtNS, List.map_cons, List.sum_cons, List.length_cons] at ih ⊢
  have : cntN x ≤ 11 + 11 * wtN x := by
   have h1 := cntQEw_le x.rib; have h2 := cntQEw_le x.sent; unfold cntN cntP wtN; omega
  omega
theorem cntLSw_le (L : List Lk) : cntLS L ≤ 11 * (L.length + wtLS L) := by
 induction L with
 | nil => simp [cntLS]
 | cons x L ih =>
  simp only [cntLS, wtLS, List.map_cons, List.sum_cons, List.length_cons] at ih ⊢
  have : cntL x ≤ 11 + 11 * wtL x := by
   have h1 := cntMSw_le x.ab; have h2 := cntMSw_le x.ba; unfold cntL wtL; omega
  omega
theorem cntF_le (x : Fb) (h : wtF x ≤ 1048576) : cntF x ≤ 12000000 := by
 have h1 := cntNSw_le x.nodes; have h2 := cntLSw_le x.links; unfold cntF; unfold wtF at h
 omega
end Go.Proofs.YtkodnipmogdgkaaGreat
namespace Go.Proofs.YtkodnipmogdgkaaGreat
open Go.ChangeShapes Go.WideShapes Go.ChangeAt Go.RowKit Go.BigFrame Go.Joins
set_option linter.unusedVariables false
set_option maxRecDepth 100000
set_option linter.unusedSimpArgs false
set_option maxRecDepth 100000

theorem neOf {v : Value} {B : Nat} (h : ∀ k, v.ownBlock = some k → k ≠ B) : v.ownBlock = none ∨ v.ownBlock ≠ some B := by
 cases hv : v.ownBlock with
 | none => exact .inl rfl
 | some k => exact .inr (fun q => by injection q with q; exact h k hv q)
theorem within07 {n : Int} {b : Bool} (w : World) (H : Hid (inB n 0 7 = b)) : Calls Tryz.prog 51 #[.int .i64 n, .int .i64 0, .int .i64 7] w fun e w' => e = .returned (.bool b) ∧ w = w' := within_t w H
theorem ihas_any (ov rv sv : Value) (N : Nd) (i : Int) (w : World) (h : RdN w ov rv sv N) :
  Calls Tryz.prog 142 #[.agg #[.int .i64 N.an, ov, .int .i64 N.bw, .bool N.dr, rv, sv], .int .i64 i] w fun e w' => e = .returned (.bool (ndB N && inB i 0 7)) ∧ Below w.heap.size w w' := by
 obtain ⟨oa, oc, hov⟩ := h.1.len; obtain ⟨ra, rc, hrv⟩ := h.2.1.len; obtain ⟨sa, sc, hsv⟩ := h.2.2.len; subst hov hrv hsv; obtain ⟨bA, B0, z⟩ := one w [.int .i64 N.an, .slice oa N.own.length oc, .int .i64 N.bw, .bool N.dr, .slice ra N.rib.length rc, .slice sa N.sent.length sc] 58; replace h := h.keep B0; have a0 := bA.c 0 rfl; have a1 := bA.c 1 rfl; have a2 := bA.c 2 rfl; have a3 := bA.c 3 rfl; have a4 := bA.c 4 rfl; have a5 := bA.c 5 rfl; clear z; cases hb : ndB N
 ·rw [Bool.false_and]
  have HB := Lib.hid hb; clear hb
  go_enter Tryz.func142, Tryz.ntmps142
  go_wp2_with fail; refine (indok_t _ h HB).mono ?_; rintro e w1 ⟨rfl, hb⟩; replace B0 := below_step B0 hb; clear hb; go_wp2
  go_ret
  exact ⟨rfl, B0⟩
 ·rw [Bool.true_and]
  have HB := Lib.hid hb; clear hb; obtain ⟨g, hg⟩ : ∃ g, inB i 0 7 = g := ⟨_, rfl⟩; rw [hg]; have HG := Lib.hid hg; clear hg
  go_enter Tryz.func142, Tryz.ntmps142
  go_wp2_with fail; refine (indok_t _ h HB).mono ?_; rintro e w1 ⟨rfl, hb⟩; replace B0 := below_step B0 hb; clear hb; go_wp2_with fail; refine (within07 _ HG).mono ?_; rintro e w2 ⟨rfl, rfl⟩; go_wp2
  go_ret
  exact ⟨rfl, B0⟩
theorem ihas_t {ov rv sv : Value} {N : Nd} {i : Int} {b : Bool} (w : World) (h : RdN w ov rv sv N) (H : Hid ((ndB N && inB i 0 7) = b)) :
  Calls Tryz.prog 142 #[.agg #[.int .i64 N.an, ov, .int .i64 N.bw, .bool N.dr, rv, sv], .int .i64 i] w fun e w' => e = .returned (.bool b) ∧ Below w.heap.size w w' := H.out ▸ ihas_any ov rv sv N i w h
/-- what NodeLost answers -/
def lostN (N : Nd) (i : Int) : Nd := if (ndB N && inB i 0 7) = true then { N with rib := dropP N.rib i, sent := dropP N.sent i } else nd0
theorem nd_ribs {N : Nd} (h : ndB N = true) : ribB N.rib = true ∧ ribB N.sent = true := by
 unfold ndB at h; simp only [Bool.and_eq_true] at h
 exact ⟨h.2.2.2.1, h.2.2.2.2.1⟩
theorem wtE_filter (f : Ent → Bool) : ∀ L : List Ent, (L.filter f).length + wtE (L.filter f) ≤ L.length + wtE L
 | [] => by simp [wtE]
 | E :: L => by
  have ih := wtE_filter f L; rw [List.filter_cons]; have e : wtE (E :: L) = E.p.length + E.c.length + wtE L := by simp [wtE]
  split
  ·have e2 : wtE (E :: L.filter f) = E.p.length + E.c.length + wtE (L.filter f) := by simp [wtE]
   rw [e, e2, List.length_cons, List.length_cons]
   omega
  ·rw [e, List.length_cons]
   omega
theorem lost_bd {N : Nd} (i : Int) (h : BdN N) : BdN (lostN N i) := by
 unfold lostN
 split
 ·refine ⟨fun j hj => ?_, fun j hj => ?_⟩
  ·exact bd_mem (L := N.rib) h.1 (dropP_sub (pe := i) (getD_mem hj))
  ·exact bd_mem (L := N.sent) h.2 (dropP_sub (pe := i) (getD_mem hj))
 ·exact bdN0
theorem dropP_wt (L : List Ent) (i : Int) : (dropP L i).length + wtE (dropP L i) ≤ L.length + wtE L := by
 unfold dropP
 split
 ·exact wtE_filter _ L
 ·simp [wtE]
theorem lost_wt {N : Nd} (i : Int) (h : wtN N ≤ 1048576) : wtN (lostN N i) ≤ 1048576 := by
 unfold lostN
 split
 ·have h1 := dropP_wt N.rib i
  have h2 := dropP_wt N.sent i; unfold wtN at h ⊢
  dsimp only
  omega
 ·exact wtN0
set_option maxHeartbeats 2000000 in
theorem ilost_any (ov rv sv : Value) (N : Nd) (i : Int) (w : World) (h : RdN w ov rv sv N) (hn : wtN N ≤ 1048576) :
  Calls Tryz.prog 88 #[.agg #[.int .i64 N.an, ov, .int .i64 N.bw, .bool N.dr, rv, sv], .int .i64 i] w (NewNdT w (lostN N i)) := by
 obtain ⟨oa, oc, hov⟩ := h.1.len; obtain ⟨ra, rc, hrv⟩ := h.2.1.len; obtain ⟨sa, sc, hsv⟩ := h.2.2.len; subst hov hrv hsv; obtain ⟨bA, bR, B1, z⟩ := two w [.int .i64 N.an, .slice oa N.own.length oc, .int .i64 N.bw, .bool N.dr, .slice ra N.rib.length rc, .slice sa N.sent.length sc] [.int .i64 0, .slice none 0 0, .int .i64 0, .bool false, .slice none 0 0, .slice none 0 0] 58 58; obtain ⟨A, hA⟩ : ∃ A, A = w.heap.size := ⟨_, rfl⟩; obtain ⟨R, hR⟩ : ∃ R, R = w.heap.size + 1 := ⟨_, rfl⟩; have hwR : w.heap.size ≤ R := by omega
 have hwA : w.heap.size ≤ A := by omega
 have a0 := bA.c 0 rfl; have a1 := bA.c 1 rfl; have a2 := bA.c 2 rfl; have a3 := bA.c 3 rfl; have a4 := bA.c 4 rfl; have a5 := bA.c 5 rfl; have HND := Lib.hid hn; have hl2 : N.rib.length + wtE N.rib ≤ 1048576 := by unfold wtN at hn; omega
 have hl3 : N.sent.length + wtE N.sent ≤ 1048576 := by unfold wtN at hn; omega
 clear hn; cases hb : (ndB N && inB i 0 7)
 ·have e : lostN N i = nd0 := by simp [lostN, hb]
  rw [e]; have HB := Lib.hid hb; clear hb e
  go_enter Tryz.func88, Tryz.ntmps88
  go_wp2_with fail; clear a0 a1 a2 a3 a4 a5; refine (ihas_t _ (h.keep B1) HB).mono ?_; rintro e w1 ⟨rfl, hb1⟩; have hs1 := hb1.size; replace bR := bR.keep hb1; replace B1 := below_step B1 hb1; rw [← hR] at bR
  try rw [← hR]
  have hRb : R < w1.heap.size := by omega
  clear hR hb1; have r0 := bR.c 0 rfl; have rf0 := bR.f 0 rfl; have r1 := bR.c 1 rfl; have rf1 := bR.f 1 rfl; have r2 := bR.c 2 rfl; have rf2 := bR.f 2 rfl; have r3 := bR.c 3 rfl; have rf3 := bR.f 3 rfl; have r4 := bR.c 4 rfl; have rf4 := bR.f 4 rfl; have r5 := bR.c 5 rfl; have rf5 := bR.f 5 rfl; go_wp2_with fail; have bE := ((((((bR.set 0 (.int .i64 0)).set 1 (.slice none 0 0)).set 2 (.int .i64 0)).set 3 (.bool false)).set 4 (.slice none 0 0)).set 5 (.slice none 0 0)); have e0 := bE.c 0 rfl; have e1 := bE.c 1 rfl; have e2 := bE.c 2 rfl; have e3 := bE.c 3 rfl; have e4 := bE.c 4 rfl; have e5 := bE.c 5 rfl
  exact bodyPost_ret (v := .agg #[.int .i64 0, .slice none 0 0, .int .i64 0, .bool false, .slice none 0 0, .slice none 0 0]) (by simp [results, Tryz.results88, go_sem, e0, e1, e2, e3, e4, e5]) rfl
   ⟨_, _, _, [], [], _, _, _, rfl, ndT_nil _, rfl, rfl, by have := ((((((B1.setCell (p := ⟨R, 0, none⟩) hwR (.int .i64 0)).setCell (p := ⟨R, 1, none⟩) hwR (.slice none 0 0)).setCell (p := ⟨R, 2, none⟩) hwR (.int .i64 0)).setCell (p := ⟨R, 3, none⟩) hwR (.bool false)).setCell (p := ⟨R, 4, none⟩) hwR (.slice none 0 0)).setCell (p := ⟨R, 5, none⟩) hwR (.slice none 0 0)).size; simpa using this, ((((((B1.setCell (p := ⟨R, 0, none⟩) hwR (.int .i64 0)).setCell (p := ⟨R, 1, none⟩) hwR (.slice none 0 0)).setCell (p := ⟨R, 2, none⟩) hwR (.int .i64 0)).setCell (p := ⟨R, 3, none⟩) hwR (.bool false)).setCell (p := ⟨R, 4, none⟩) hwR (.slice none 0 0)).setCell (p := ⟨R, 5, none⟩) hwR (.slice none 0 0))⟩
 ·have e : lostN N i = { N with rib := dropP N.rib i, sent := dropP N.sent i } := by simp [lostN, hb]
  rw [e]; have HB := Lib.hid hb; clear hb e
  go_enter Tryz.func88, Tryz.ntmps88
  go_wp2_with fail; clear a0 a1 a2 a3 a4 a5; refine (ihas_t _ (h.keep B1) HB).mono ?_; rintro e w1 ⟨rfl, hb1⟩; have hs1 := hb1.size; replace bA := bA.keep hb1; replace bR := bR.keep hb1; replace B1 := below_step B1 hb1; rw [← hR] at bR; rw [← hA] at bA
  try rw [← hR]
  try rw [← hA]
  have hRb1 : R < w1.heap.size := by omega
  have hAb1 : A < w1.heap.size := by omega
  clear hR hA hb1; have a0 := bA.c 0 rfl; have a1 := bA.c 1 rfl; have a2 := bA.c 2 rfl; have a3 := bA.c 3 rfl; have a4 := bA.c 4 rfl; have a5 := bA.c 5 rfl; go_wp2_with fail; clear a0 a1 a2 a3 a4 a5; refine (icopy8_any _ _ _ N w1 (h.keep B1) HND.out).mono ?_; rintro e w2 ⟨ov2, ru2, su2, T1, T2, b0, h1, h2, rfl, hN, -, -, hb0, hb2⟩; have hRb : R < b0 := Nat.lt_of_lt_of_le hRb1 hb0; have hwb : w.heap.size ≤ b0 := by omega
  have hs2 := hb2.size; replace bR := bR.keep hb2; replace bA := bA.keep hb2; replace B1 := below_step B1 hb2; obtain ⟨⟨x1, y1, q1⟩, ⟨x2, y2, q2⟩, x3, y3, q3⟩ := hN.lens; subst q1 q2 q3; have ho := hN.o; have hoh := hN.oh; have hb01 := hN.q1; have hb12 := Nat.le_trans hN.q2 hN.q3; have HOH := Lib.hid hoh; clear hN hoh; have bO := Bl.new w2 [.int .i64 N.an, .slice x1 N.own.length y1, .int .i64 N.bw, .bool N.dr, .slice x2 T1.length y2, .slice x3 T2.length y3] 58 w2.heap.size rfl; have N1 : Below w2.heap.size w2 (w2.alloc (.cells #[.int .i64 N.an, .slice x1 N.own.length y1, .int .i64 N.bw, .bool N.dr, .slice x2 T1.length y2, .slice x3 T2.length y3] 58)) := (Below.refl _ _).alloc (Nat.le_refl _) _; have a4 := (bA.keep N1).c 4 rfl; go_wp2_with fail; clear a4; obtain ⟨O, hO⟩ : ∃ O, O = w2.heap.size := ⟨_, rfl⟩; obtain ⟨V, hV⟩ : ∃ V, V = w2.alloc (.cells #[.int .i64 N.an, .slice x1 N.own.length y1, .int .i64 N.bw, .bool N.dr, .slice x2 T1.length y2, .slice x3 T2.length y3] 58) := ⟨_, rfl⟩; have hOV : O < V.heap.size := by rw [hV, hO]; simp
  have hh1V : h1 ≤ V.heap.size := by rw [hV]; simp; omega
  rw [← hV] at bO N1 ⊢; rw [← hO] at bO
  try rw [← hO]
  have hOR : O ≠ R := by have := bR.lt; omega
  have hOA : O ≠ A := by have := bA.lt; omega
  have hwO : w.heap.size ≤ O := by omega
  have hRV : R < V.heap.size := by have := bR.lt; omega
  replace bR := bR.keep N1; replace bA := bA.keep N1; replace ho := ho.keep N1; replace B1 := below_step B1 N1
  have hoO : ∀ k, (Value.slice x1 N.own.length y1).ownBlock = some k → k ≠ O := fun k hk => by
   have := HOH.out k hk
   omega
  have HOO := Lib.hid hoO; clear hV hO N1 hoO; refine (irdp_any _ N.rib i V (h.keep B1).2.1 (lens_of hl2)).mono ?_; rintro e w3 ⟨u3, S1, rfl, hS1, hE1, hb⟩; obtain ⟨x4, y4, rfl⟩ := hS1.lenV; have HE1 := Lib.hid hE1; have HI1 := Lib.hid hS1.inH; have hs3 := hb.size; replace bO := bO.keep hb; replace bR := bR.keep hb; replace bA := bA.keep hb; replace ho := ho.keep hb; replace B1 := below_step B1 hb; clear hb hE1; have o4 := bO.c 4 rfl; have of4 := bO.f 4 rfl; have a5 := bA.c 5 rfl; go_wp2_with fail; clear o4 of4 a5; have bO2 := bO.set 4 (.slice x4 S1.length y4); have bR2 := bR.far (o := 4) (u := .slice x4 S1.length y4) hOR.symm; have ho2 : OwnP (w3.setCell ⟨O, 4, none⟩ (.slice x4 S1.length y4)) b0 (.slice x1 N.own.length y1) N.own := ho.kept (grown_set w3 O 4 _) (neOf HOO.out); have hS12 := hS1.far (o := 4) (u := .slice x4 S1.length y4) hOV; have B2 := B1.setCell (p := ⟨O, 4, none⟩) hwO (.slice x4 S1.length y4); obtain ⟨W4, hW4⟩ : ∃ W, W = w3.setCell ⟨O, 4, none⟩ (.slice x4 S1.length y4) := ⟨_, rfl⟩; have hs4 : w3.heap.size = W4.heap.size := by rw [hW4]; simp
  rw [← hW4] at bO2 bR2 ho2 hS12 B2 ⊢; rw [hs4] at HI1 hs3; clear hW4 bO bR ho hS1 B1 hs4 bA; simp only [List.set_cons_zero, List.set_cons_succ] at bO2; refine (irdp_any _ N.sent i W4 (h.keep B2).2.2 (lens_of hl3)).mono ?_; rintro e w5 ⟨u5, S2, rfl, hS2, hE2, hb⟩; obtain ⟨x5, y5, rfl⟩ := hS2.lenV; have HE2 := Lib.hid hE2; have HI2 := Lib.hid hS2.inH; have hs5 := hb.size; replace bO2 := bO2.keep hb; replace bR2 := bR2.keep hb; replace ho2 := ho2.keep hb; replace hS12 := hS12.keep hb; replace B2 := below_step B2 hb; clear hb hE2 h; have o5 := bO2.c 5 rfl; have of5 := bO2.f 5 rfl; have bO3 := bO2.set 5 (.slice x5 S2.length y5); have bR3 := bR2.far (o := 5) (u := .slice x5 S2.length y5) hOR.symm; have ho3 : OwnP (w5.setCell ⟨O, 5, none⟩ (.slice x5 S2.length y5)) b0 (.slice x1 N.own.length y1) N.own := ho2.kept (grown_set w5 O 5 _) (neOf HOO.out); have hS13 := hS12.far (o := 5) (u := .slice x5 S2.length y5) hOV; have hOW : O < W4.heap.size := by omega
  have hS23 := hS2.far (o := 5) (u := .slice x5 S2.length y5) hOW; have B3 := B2.setCell (p := ⟨O, 5, none⟩) hwO (.slice x5 S2.length y5)
  have hN : NdT (w5.setCell ⟨O, 5, none⟩ (.slice x5 S2.length y5)) b0 V.heap.size W4.heap.size w5.heap.size (.slice x1 N.own.length y1) (.slice x4 S1.length y4) (.slice x5 S2.length y5) N.own S1 S2 :=
   ⟨ho3, fun k hk => Nat.lt_of_lt_of_le (HOH.out k hk) hh1V, hS13, HI1.out, hS23, HI2.out, by omega, hs3, hs5⟩
  clear ho3 hS13 hS23 ho2 hS12 hS2; have k0 := bO3.c 0 rfl; have k1 := bO3.c 1 rfl; have k2 := bO3.c 2 rfl; have k3 := bO3.c 3 rfl; have k4 := bO3.c 4 rfl; have k5 := bO3.c 5 rfl; have r0 := bR3.c 0 rfl; have rf0 := bR3.f 0 rfl; have r1 := bR3.c 1 rfl; have rf1 := bR3.f 1 rfl; have r2 := bR3.c 2 rfl; have rf2 := bR3.f 2 rfl; have r3 := bR3.c 3 rfl; have rf3 := bR3.f 3 rfl; have r4 := bR3.c 4 rfl; have rf4 := bR3.f 4 rfl; have r5 := bR3.c 5 rfl; have rf5 := bR3.f 5 rfl; go_wp2_with fail; have bE := ((((((bR3.set 0 (.int .i64 N.an)).set 1 (.slice x1 N.own.length y1)).set 2 (.int .i64 N.bw)).set 3 (.bool N.dr)).set 4 (.slice x4 S1.length y4)).set 5 (.slice x5 S2.length y5)); have e0 := bE.c 0 rfl; have e1 := bE.c 1 rfl; have e2 := bE.c 2 rfl; have e3 := bE.c 3 rfl; have e4 := bE.c 4 rfl; have e5 := bE.c 5 rfl
  exact bodyPost_ret (v := .agg #[.int .i64 N.an, .slice x1 N.own.length y1, .int .i64 N.bw, .bool N.dr, .slice x4 S1.length y4, .slice x5 S2.length y5]) (by simp [results, Tryz.results88, go_sem, e0, e1, e2, e3, e4, e5]) rfl
   ⟨_, _, _, S1, S2, b0, V.heap.size, W4.heap.size, rfl, by simpa using ((((((hN.far (C := R) (o := 0) (u := .int .i64 N.an) hRb).far (C := R) (o := 1) (u := .slice x1 N.own.length y1) hRb).far (C := R) (o := 2) (u := .int .i64 N.bw) hRb).far (C := R) (o := 3) (u := .bool N.dr) hRb).far (C := R) (o := 4) (u := .slice x4 S1.length y4) hRb).far (C := R) (o := 5) (u := .slice x5 S2.length y5) hRb), HE1.out, HE2.out, hwb, ((((((B3.setCell (p := ⟨R, 0, none⟩) hwR (.int .i64 N.an)).setCell (p := ⟨R, 1, none⟩) hwR (.slice x1 N.own.length y1)).setCell (p := ⟨R, 2, none⟩) hwR (.int .i64 N.bw)).setCell (p := ⟨R, 3, none⟩) hwR (.bool N.dr)).setCell (p := ⟨R, 4, none⟩) hwR (.slice x4 S1.length y4)).setCell (p := ⟨R, 5, none⟩) hwR (.slice x5 S2.length y5))⟩
theorem rowMono {w : World} {base base' n : Nat} {v : Value} {xs : List Value} (h : w.ownsRow base EI 7 v n xs) (hb : base' ≤ base) : w.ownsRow base' EI 7 v n xs := by
 refine ⟨h.1, ?_⟩
 rcases h.2 with hn | ⟨g, cap, cur, hv, hg, rest⟩
 ·exact .inl hn
 ·exact .inr ⟨g, cap, cur, hv, Nat.le_trans hb hg, rest⟩
end Go.Proofs.YtkodnipmogdgkaaGreat
namespace Go.Proofs.YtkodnipmogdgkaaGreat
open Go.ChangeShapes Go.WideShapes Go.ChangeAt Go.RowKit Go.BigFrame Go.Joins
open List (setIfInBounds_toArray set_cons_succ set_cons_zero)
set_option linter.unusedVariables false
set_option maxRecDepth 100000
set_option linter.unusedSimpArgs false
set_option maxRecDepth 100000

/-- it reads so, as long as nothing of S turns -/
def RdsI (S : Nat → Prop) (w : World) (v : Value) (l : List Int) : Prop := ∀ w2, AgrS S w w2 → RdI w2 v l
def EntQ (Q : Value → List Int → Prop) (w : World) (b o : Nat) (E : Ent) : Prop :=
 ∃ pv cv, RdI w pv E.p ∧ RdI w cv E.c ∧ Q pv E.p ∧ Q cv E.c ∧ w.cell? ⟨b, o, none⟩ = some (.int .i64 E.a) ∧ w.cell? ⟨b, o + 1, none⟩ = some (.int .i64 E.n) ∧ w.cell? ⟨b, o + 2, none⟩ = some (.int .i64 E.pe) ∧ w.cell? ⟨b, o + 3, none⟩ = some (pv) ∧ w.cell? ⟨b, o + 4, none⟩ = some (.int .i64 E.pr) ∧ w.cell? ⟨b, o + 5, none⟩ = some (cv) ∧ w.cell? ⟨b, o + 6, none⟩ = some (.int .i64 E.bw)
def RdEQ (Q : Value → List Int → Prop) (w : World) (v : Value) (L : List Ent) : Prop := ∃ a c, v = .slice a L.length c ∧ ∀ i, i < L.length → ∃ b o, a = some ⟨b, o, none⟩ ∧ EntQ Q w b (o + i * 7) (L.getD i e0)
theorem owQ_eq {w : World} {S S' : Nat → Prop} {v : Value} {L : List Ent} (h : OwQE w S v L) (hs : ∀ b, S b → S' b) : RdEQ (RdsI S' w) w v L := by
 obtain ⟨hl, ⟨rfl, rfl⟩ | ⟨g, cap, xs, E, rfl, h1, hB, hx, hE, hd⟩⟩ := h
 ·exact ⟨none, 0, rfl, fun i hi => absurd hi (by simp)⟩
 ·refine ⟨_, cap, rfl, fun i hi => ⟨g, 0, rfl, ?_⟩⟩
  obtain ⟨e1, -, pv, cv, ⟨T0, T1, t0, t1, -, op, oc⟩, f0, f1, f2, f3, f4, f5, f6⟩ := hE i hi; simp only [Nat.zero_add]
  exact ⟨pv, cv, op.rd, oc.rd, fun w2 ag => (op.agr (ag.sub fun b q => hs b (e1 b (t0 b q)))).rd, fun w2 ag => (oc.agr (ag.sub fun b q => hs b (e1 b (t1 b q)))).rd, hB.c _ f0, hB.c _ f1, hB.c _ f2, hB.c _ f3, hB.c _ f4, hB.c _ f5, hB.c _ f6⟩
theorem owN_o {w : World} {S : Nat → Prop} {ov rv sv : Value} {N : Nd} (h : OwN w S ov rv sv N) : RdP w ov N.own ∧ ∀ w2, AgrS S w w2 → RdP w2 ov N.own := by
 obtain ⟨S0, S1, S2, sb0, sb1, sb2, dj01, dj02, dj12, h0, h1, h2⟩ := h
 exact ⟨h0.rd, fun w2 ag => (h0.agr (ag.sub sb0)).rd⟩
theorem owN_r {w : World} {S : Nat → Prop} {ov rv sv : Value} {N : Nd} (h : OwN w S ov rv sv N) : RdEQ (RdsI S w) w rv N.rib := by
 obtain ⟨S0, S1, S2, sb0, sb1, sb2, dj01, dj02, dj12, h0, h1, h2⟩ := h
 exact owQ_eq h1 sb1
theorem owN_s {w : World} {S : Nat → Prop} {ov rv sv : Value} {N : Nd} (h : OwN w S ov rv sv N) : RdEQ (RdsI S w) w sv N.sent := by
 obtain ⟨S0, S1, S2, sb0, sb1, sb2, dj01, dj02, dj12, h0, h1, h2⟩ := h
 exact owQ_eq h2 sb2
theorem row_ob {w : World} {p e s n k : Nat} {v : Value} {xs : List Value} (h : w.ownsRow p e s v n xs) (q : v.ownBlock = some k) : p ≤ k := by
 rcases h.2 with hn | ⟨g, cap, cur, hv, hb, hg, rest⟩
 ·rw [hn.1] at q; cases q
 ·rw [hv] at q
  cases q
  exact hb
set_option maxHeartbeats 4000000 in
theorem sdp_s (Q : Value → List Int → Prop) (v : Value) (L : List Ent) (pe : Int) (w0 w : World) (h0 : RdEQ Q w0 v L) (hb0 : Below w0.heap.size w0 w) (hn1 : L.length ≤ 1048576) :
  Calls Tryz.prog 141 #[.agg #[v], .int .i64 pe] w fun e w' => ∃ u T, e = .returned (.agg #[u]) ∧ w'.ownsRow w.heap.size EI 7 u T.length (flatT T) ∧ (∀ t ∈ T, Q t.u t.E.p ∧ Q t.v t.E.c) ∧ entT T = L.filter (fun E => !(E.pe == pe)) ∧ Below w.heap.size w w' := by
 obtain ⟨a, c, rfl, hc⟩ := h0; have hlen := hn1; obtain ⟨n, hn⟩ : ∃ n, n = L.length := ⟨_, rfl⟩; rw [← hn] at hc hlen; rw [← hn]; have HN := Lib.hid hn; clear hn; obtain ⟨bA, bR, bO, B0, z⟩ := three w [.slice a n c] [.slice none 0 0] [.slice none 0 0] 56 56 56; have a0 := bA.c 0 rfl
 go_enter Tryz.func141, Tryz.ntmps141
 go_wp2; clear a0; obtain ⟨W1, hW⟩ : ∃ W1, W1 = ((w.alloc (.cells #[.slice a n c] 56)).alloc (.cells #[.slice none 0 0] 56)).alloc (.cells #[.slice none 0 0] 56) := ⟨_, rfl⟩; rw [← hW] at bA bR bO B0 z ⊢; obtain ⟨A, hA⟩ : ∃ A, A = w.heap.size := ⟨_, rfl⟩; obtain ⟨R, hR⟩ : ∃ R, R = w.heap.size + 1 := ⟨_, rfl⟩; obtain ⟨O, hO⟩ : ∃ O, O = w.heap.size + 1 + 1 := ⟨_, rfl⟩; rw [← hA] at bA; rw [← hR] at bR; rw [← hO] at bO
 try rw [← hO]
 try rw [← hR]
 try rw [← hA]
 have hwA : w.heap.size ≤ A := by omega
 have hwR : w.heap.size ≤ R := by omega
 have hwO : w.heap.size ≤ O := by omega
 have hAO : A ≠ O := by omega
 have hRO : R ≠ O := by omega
 have hAR : A ≠ R := by omega
 have hAW : A < W1.heap.size := by rw [z]; omega
 have hRW : R < W1.heap.size := by rw [z]; omega
 have hOW : O < W1.heap.size := by rw [z]; omega
 have hwW : w.heap.size ≤ W1.heap.size := B0.size; clear hA hR hO hW z
 go_loopw [6] (fun q wr => ∃ k : Nat, k ≤ n ∧ q = .int .i64 k ∧ ∃ (v2 : Value) (T : List ET), wr.ownsRow W1.heap.size EI 7 v2 T.length (flatT T) ∧ (∀ t ∈ T, Q t.u t.E.p ∧ Q t.v t.E.c) ∧ entT T = (L.take k).filter (fun E => !(E.pe == pe)) ∧ Bl wr O [v2] ∧ Bl wr R [.slice none 0 0] ∧ Bl wr A [.slice a n c] ∧ Below w.heap.size w wr ∧ W1.heap.size ≤ wr.heap.size) (fun q _ => n - (intOf q).toNat)
 case atStart => exact ⟨0, Nat.zero_le _, rfl, _, [], World.ownsRow_nil _ _ _ _, by simp, rfl, bO, bR, bA, B0, Nat.le_refl _⟩
 case round =>
  obtain ⟨k, hk, rfl, v2, T, hT, hTR, hTE, bO1, bR1, bA1, hB, hsz⟩ := hrel; have r0 := bA1.c 0 rfl
  by_cases hlt : k < n
  ·have hltI : (k : Int) < (n : Int) := by omega
   obtain ⟨b, o, rfl, hE⟩ := hc k hlt; obtain ⟨E, hx⟩ : ∃ E, L.getD k e0 = E := ⟨_, rfl⟩; rw [hx] at hE; obtain ⟨pv, cv, hp, hq, hp9, hq9, G0, G1, G2, G3, G4, G5, G6⟩ := hE; replace G0 := cell_keep hb0 (World.block_lt_of_cell? w0 _ G0) G0; replace G1 := cell_keep hb0 (World.block_lt_of_cell? w0 _ G1) G1; replace G2 := cell_keep hb0 (World.block_lt_of_cell? w0 _ G2) G2; replace G3 := cell_keep hb0 (World.block_lt_of_cell? w0 _ G3) G3; replace G4 := cell_keep hb0 (World.block_lt_of_cell? w0 _ G4) G4; replace G5 := cell_keep hb0 (World.block_lt_of_cell? w0 _ G5) G5; replace G6 := cell_keep hb0 (World.block_lt_of_cell? w0 _ G6) G6; obtain ⟨pa, px, rfl⟩ := hp.len; obtain ⟨qa, qx, rfl⟩ := hq.len; have g0 := over_cell hB (World.block_lt_of_cell? _ _ G0) G0; have g1 := over_cell hB (World.block_lt_of_cell? _ _ G1) G1; have g2 := over_cell hB (World.block_lt_of_cell? _ _ G2) G2; have g3 := over_cell hB (World.block_lt_of_cell? _ _ G3) G3; have g4 := over_cell hB (World.block_lt_of_cell? _ _ G4) G4; have g5 := over_cell hB (World.block_lt_of_cell? _ _ G5) G5; have g6 := over_cell hB (World.block_lt_of_cell? _ _ G6) G6
   have HL : Hid (T.length + 1 ≤ 4294967296) := Lib.hid (by
    have e := congrArg List.length hTE; have e2 := List.length_filter_le (fun E => !(E.pe == pe)) (L.take k); rw [entT_len] at e; rw [List.length_take] at e2; have e3 := HN.out
    omega)
   by_cases hpe : E.pe = pe
   ·have HX : Hid (entT T = (L.take (k + 1)).filter (fun E => !(E.pe == pe))) := Lib.hid (filt_no hTE (by rw [← HN.out]; exact hlt) hx (by simp [hpe]))
    have HC := Lib.hid hc; rw [hpe] at g2; clear hx hc hTE hpe; go_wp2
    go_roundw
    case rel => exact ⟨k + 1, by omega, by go_num, v2, T, hT, hTR, HX.out, bO1, bR1, bA1, hB, hsz⟩
    case measure => simp [intOf]; omega
   ·have HTE : Hid (∀ t : ET, t.E = E → entT (T ++ [t]) = (L.take (k + 1)).filter (fun E => !(E.pe == pe))) := Lib.hid fun t ht => filt_yes hTE (by rw [← HN.out]; exact hlt) (by rw [hx, ht]) (by simp [ht, hpe])
    have HC := Lib.hid hc; have hfb : (E.pe == pe) = false := by simp [hpe]
    clear hx hc hTE hpe; go_wp2_with fail; refine wp_region_held_drew (S := fun w' => Bl w' A [.slice (some ⟨b, o, none⟩) n c] ∧ Below w.heap.size w w') (by kernel_rfl) ⟨bA1.keep (over_drew _), below_step hB (over_drew _)⟩ (fun hHeld => ?_); clear hHeld; obtain ⟨D, hD⟩ : ∃ D, D = wr.drew := ⟨_, rfl⟩; have OD : Over wr D := by rw [hD]; exact over_drew _
    rw [← hD]; clear hD; have hSD : KpA w A [.slice (some ⟨b, o, none⟩) n c] D := ⟨bA1.keep OD, below_step hB OD⟩; have hWD : W1.heap.size ≤ D.heap.size := Nat.le_trans hsz OD.size; clear g0 g1 g2 g3 g4 g5 g6; refine tk 0 22 (v := ?_) hSD ?_ ?_; rotate_left
    ·intro wq hSq
     go_simp
     try rfl
    simp only [Act.put, setIfInBounds_toArray, set_cons_succ, set_cons_zero]; refine tk 2 24 (v := ?_) hSD ?_ ?_; rotate_left
    ·intro wq hSq
     go_simp
     try rfl
    simp only [Act.put, setIfInBounds_toArray, set_cons_succ, set_cons_zero]; refine tk 3 25 (v := ?_) hSD ?_ ?_; rotate_left
    ·intro wq hSq
     have q0 := hSq.1.c 0 rfl
     go_simp
     try rfl
    simp only [Act.put, setIfInBounds_toArray, set_cons_succ, set_cons_zero]; refine tk 4 26 (v := ?_) hSD ?_ ?_; rotate_left
    ·intro wq hSq
     go_simp
     try rfl
    simp only [Act.put, setIfInBounds_toArray, set_cons_succ, set_cons_zero]; refine tk 5 27 (v := ?_) hSD ?_ ?_; rotate_left
    ·intro wq hSq
     go_simp
     try rfl
    simp only [Act.put, setIfInBounds_toArray, set_cons_succ, set_cons_zero]; refine tk 6 28 (v := ?_) hSD ?_ ?_; rotate_left
    ·intro wq hSq
     have q0 := over_cell hSq.2 (World.block_lt_of_cell? _ _ G0) G0; have q1 := over_cell hSq.2 (World.block_lt_of_cell? _ _ G1) G1; have q2 := over_cell hSq.2 (World.block_lt_of_cell? _ _ G2) G2; have q3 := over_cell hSq.2 (World.block_lt_of_cell? _ _ G3) G3; have q4 := over_cell hSq.2 (World.block_lt_of_cell? _ _ G4) G4; have q5 := over_cell hSq.2 (World.block_lt_of_cell? _ _ G5) G5; have q6 := over_cell hSq.2 (World.block_lt_of_cell? _ _ G6) G6
     go_simp
     try rfl
    simp only [Act.put, setIfInBounds_toArray, set_cons_succ, set_cons_zero]; refine wpAnyH_ready (rs := [1, 7]) (by kernel_rfl) (by simp) ?_; refine (AllReadyH.cons rfl (fun K hK => ?_) (AllReadyH.cons rfl (fun K hK => ?_) AllReadyH.nil))
    ·have q := (bO1.keep OD).c 0 rfl
     go_simp
     refine hK.out _ _ hSD (fun hHeld => ?_); clear hK K hHeld q
     try simp only [Act.put, setIfInBounds_toArray, set_cons_succ, set_cons_zero]
     refine rd1 7 fun K hK => ?_
     go_simp
     have bN := Bl.new D [.int .i64 E.a, .int .i64 E.n, .int .i64 E.pe, .slice pa E.p.length px, .int .i64 E.pr, .slice qa E.c.length qx, .int .i64 E.bw] EI D.heap.size rfl; have N1 : Below D.heap.size D (D.alloc (.cells #[.int .i64 E.a, .int .i64 E.n, .int .i64 E.pe, .slice pa E.p.length px, .int .i64 E.pr, .slice qa E.c.length qx, .int .i64 E.bw] EI)) := (Below.refl _ _).alloc (Nat.le_refl _) _; refine hK.out _ _ (hSD.next N1) (fun hHeld => ?_); clear hK K hHeld
     try simp only [Act.put, setIfInBounds_toArray, set_cons_succ, set_cons_zero]
     refine rd1 8 fun K hK => ?_
     refine step_appE rfl (.tmp 23) (.tmp 29) rfl W1.heap.size D.heap.size 1 v2 T.length (flatT T) [.int .i64 E.a, .int .i64 E.n, .int .i64 E.pe, .slice pa E.p.length px, .int .i64 E.pr, .slice qa E.c.length qx, .int .i64 E.bw] rfl rfl (rowK (rowK hT OD) N1) bN rfl (by simp [Value.oneCell']) HL.out (Nat.le_trans hWD N1.size) ?_; intro v3 w3 hrow hg hor; have hB3 : Below w.heap.size w w3 := below_growT (below_step (below_step hB OD) N1) (rowK (rowK hT OD) N1) hwW hg; have bO3 := ((bO1.keep OD).keep N1).grown hg (neRow (rowK (rowK hT OD) N1) hOW); have bR3 := ((bR1.keep OD).keep N1).grown hg (neRow (rowK (rowK hT OD) N1) hRW); have bA3 := ((bA1.keep OD).keep N1).grown hg (neRow (rowK (rowK hT OD) N1) hAW); have hs3 := Nat.le_trans hWD (Nat.le_trans N1.size hg.size); clear hg hor; refine hK.out _ _ ⟨bA3, hB3⟩ (fun hHeld => ?_); clear hK K hHeld; obtain ⟨x3, y3, rfl⟩ := row_slice hrow
     try simp only [Act.put, setIfInBounds_toArray, set_cons_succ, set_cons_zero]
     refine rd1 9 fun K hK => ?_
     go_simp
     refine hK.out _ _ ⟨bA3, hB3⟩ (fun hHeld => ?_); clear hK K hHeld
     try simp only [Act.put, setIfInBounds_toArray, set_cons_succ, set_cons_zero]
     refine rd1 10 fun K hK => ?_
     have o0 := bO3.c 0 rfl; have of0 := bO3.f 0 rfl
     go_simp
     refine hK.out _ _ ⟨bA3.far hAO, hB3.setCell (p := ⟨O, 0, none⟩) hwO _⟩ (fun hHeld => ?_); clear hK K hHeld o0 of0
     try simp only [Act.put, setIfInBounds_toArray, set_cons_succ, set_cons_zero]
     refine wpAnyH_done (by kernel_rfl) ?_ _; go_wp2
     go_roundw
     case rel =>
      refine ⟨k + 1, by omega, by go_num, .slice x3 (T.length + 1) y3, T ++ [⟨E, .slice pa E.p.length px, .slice qa E.c.length qx⟩], ?_, ?_, HTE.out _ rfl, bO3.set 0 _, bR3.far hRO, bA3.far hAO, hB3.setCell (p := ⟨O, 0, none⟩) hwO _, by simpa using hs3⟩
      ·rw [List.length_append, flatT_append, show flatT [(⟨E, .slice pa E.p.length px, .slice qa E.c.length qx⟩ : ET)] = cellsT ⟨E, .slice pa E.p.length px, .slice qa E.c.length qx⟩ by simp [flatT]]
       exact rowFar hrow hOW
      ·intro t ht
       rcases List.mem_append.1 ht with q | q
       ·exact hTR t q
       ·rw [List.mem_singleton.1 q]; exact ⟨hp9, hq9⟩
     case measure => simp [intOf]; omega
    ·go_simp
     have bN := Bl.new D [.int .i64 E.a, .int .i64 E.n, .int .i64 E.pe, .slice pa E.p.length px, .int .i64 E.pr, .slice qa E.c.length qx, .int .i64 E.bw] EI D.heap.size rfl; have N1 : Below D.heap.size D (D.alloc (.cells #[.int .i64 E.a, .int .i64 E.n, .int .i64 E.pe, .slice pa E.p.length px, .int .i64 E.pr, .slice qa E.c.length qx, .int .i64 E.bw] EI)) := (Below.refl _ _).alloc (Nat.le_refl _) _; refine hK.out _ _ (hSD.next N1) (fun hHeld => ?_); clear hK K hHeld
     try simp only [Act.put, setIfInBounds_toArray, set_cons_succ, set_cons_zero]
     refine rd1 1 fun K hK => ?_
     have q := ((bO1.keep OD).keep N1).c 0 rfl
     go_simp
     refine hK.out _ _ (hSD.next N1) (fun hHeld => ?_); clear hK K hHeld q
     try simp only [Act.put, setIfInBounds_toArray, set_cons_succ, set_cons_zero]
     refine rd1 8 fun K hK => ?_
     refine step_appE rfl (.tmp 23) (.tmp 29) rfl W1.heap.size D.heap.size 1 v2 T.length (flatT T) [.int .i64 E.a, .int .i64 E.n, .int .i64 E.pe, .slice pa E.p.length px, .int .i64 E.pr, .slice qa E.c.length qx, .int .i64 E.bw] rfl rfl (rowK (rowK hT OD) N1) bN rfl (by simp [Value.oneCell']) HL.out (Nat.le_trans hWD N1.size) ?_; intro v3 w3 hrow hg hor; have hB3 : Below w.heap.size w w3 := below_growT (below_step (below_step hB OD) N1) (rowK (rowK hT OD) N1) hwW hg; have bO3 := ((bO1.keep OD).keep N1).grown hg (neRow (rowK (rowK hT OD) N1) hOW); have bR3 := ((bR1.keep OD).keep N1).grown hg (neRow (rowK (rowK hT OD) N1) hRW); have bA3 := ((bA1.keep OD).keep N1).grown hg (neRow (rowK (rowK hT OD) N1) hAW); have hs3 := Nat.le_trans hWD (Nat.le_trans N1.size hg.size); clear hg hor; refine hK.out _ _ ⟨bA3, hB3⟩ (fun hHeld => ?_); clear hK K hHeld; obtain ⟨x3, y3, rfl⟩ := row_slice hrow
     try simp only [Act.put, setIfInBounds_toArray, set_cons_succ, set_cons_zero]
     refine rd1 9 fun K hK => ?_
     go_simp
     refine hK.out _ _ ⟨bA3, hB3⟩ (fun hHeld => ?_); clear hK K hHeld
     try simp only [Act.put, setIfInBounds_toArray, set_cons_succ, set_cons_zero]
     refine rd1 10 fun K hK => ?_
     have o0 := bO3.c 0 rfl; have of0 := bO3.f 0 rfl
     go_simp
     refine hK.out _ _ ⟨bA3.far hAO, hB3.setCell (p := ⟨O, 0, none⟩) hwO _⟩ (fun hHeld => ?_); clear hK K hHeld o0 of0
     try simp only [Act.put, setIfInBounds_toArray, set_cons_succ, set_cons_zero]
     refine wpAnyH_done (by kernel_rfl) ?_ _; go_wp2
     go_roundw
     case rel =>
      refine ⟨k + 1, by omega, by go_num, .slice x3 (T.length + 1) y3, T ++ [⟨E, .slice pa E.p.length px, .slice qa E.c.length qx⟩], ?_, ?_, HTE.out _ rfl, bO3.set 0 _, bR3.far hRO, bA3.far hAO, hB3.setCell (p := ⟨O, 0, none⟩) hwO _, by simpa using hs3⟩
      ·rw [List.length_append, flatT_append, show flatT [(⟨E, .slice pa E.p.length px, .slice qa E.c.length qx⟩ : ET)] = cellsT ⟨E, .slice pa E.p.length px, .slice qa E.c.length qx⟩ by simp [flatT]]
       exact rowFar hrow hOW
      ·intro t ht
       rcases List.mem_append.1 ht with q | q
       ·exact hTR t q
       ·rw [List.mem_singleton.1 q]; exact ⟨hp9, hq9⟩
     case measure => simp [intOf]; omega
  ·have hkn : k = n := by omega
   subst hkn; clear hc; obtain ⟨x2, y2, rfl⟩ := row_slice hT; have o0 := bO1.c 0 rfl; have q0 := bR1.c 0 rfl; have qf0 := bR1.f 0 rfl; go_wp2; have bE := bR1.set 0 (.slice x2 T.length y2); have e0 := bE.c 0 rfl; have hBe := hB.setCell (p := ⟨R, 0, none⟩) hwR (.slice x2 T.length y2)
   exact bodyPost_ret (v := .agg #[.slice x2 T.length y2]) (by simp [results, Tryz.results141, go_sem, e0]) rfl
    ⟨_, T, rfl, rowMono (rowFar hT hRW) B0.size, hTR, by rw [hTE, HN.out, List.take_length], hBe⟩
set_option maxHeartbeats 4000000 in
theorem sl8lost_s (S : Nat → Prop) (ov rv sv : Value) (N : Nd) (i : Int) (w : World) (ho : OwN w S ov rv sv N) (hn2 : N.rib.length ≤ 1048576) (hn3 : N.sent.length ≤ 1048576) :
  Calls Tryz.prog 87 #[.agg #[.int .i64 N.an, ov, .int .i64 N.bw, .bool N.dr, rv, sv], .int .i64 i] w fun e w' => ∃ o r s, e = .returned (.agg #[.int .i64 N.an, o, .int .i64 N.bw, .bool N.dr, r, s]) ∧ (∀ w2, AgrS (fun b => S b ∨ w.heap.size ≤ b) w' w2 → RdN w2 o r s { N with rib := (N.rib.filter fun E => !(E.pe == i)), sent := (N.sent.filter fun E => !(E.pe == i)) }) ∧ Below w.heap.size w w' := by
 have h := ho.rd; obtain ⟨oa, oc, hov⟩ := h.1.len; obtain ⟨ra, rc, hrv⟩ := h.2.1.len; obtain ⟨sa, sc, hsv⟩ := h.2.2.len; subst hov hrv hsv; obtain ⟨bA, bR, B1, z⟩ := two w [.int .i64 N.an, .slice oa N.own.length oc, .int .i64 N.bw, .bool N.dr, .slice ra N.rib.length rc, .slice sa N.sent.length sc] [.int .i64 0, .slice none 0 0, .int .i64 0, .bool false, .slice none 0 0, .slice none 0 0] 58 58; have a4 := bA.c 4 rfl
 go_enter Tryz.func87, Tryz.ntmps87
 go_wp2_with fail; refine (sdp_s (RdsI S w) _ N.rib i w _ (owN_r ho) B1 hn2).mono ?_; rintro e w1 ⟨u1, T1, rfl, hT1, hTR1, hE1, hb⟩; have hs1 := hb.size; rw [z] at hs1 hT1; obtain ⟨x4, y4, rfl⟩ := row_slice hT1; have HE1 := Lib.hid hE1; have HR1 := Lib.hid hTR1; replace bA := bA.keep hb; replace bR := bR.keep hb; replace B1 := below_step B1 hb; obtain ⟨A, hA⟩ : ∃ A, A = w.heap.size := ⟨_, rfl⟩; obtain ⟨R, hR⟩ : ∃ R, R = w.heap.size + 1 := ⟨_, rfl⟩; rw [← hR] at bR; rw [← hA] at bA
 try rw [← hR]
 try rw [← hA]
 have hwR : w.heap.size ≤ R := by omega
 have hwA : w.heap.size ≤ A := by omega
 have hAR : A ≠ R := by omega
 obtain ⟨X, hX⟩ : ∃ X, X = w.heap.size + 2 := ⟨_, rfl⟩; rw [← hX] at hT1 hs1; have hAX : A < X := by omega
 have hRX : R < X := by omega
 clear hR hA hb a4 z hX hE1 hTR1; have a4 := bA.c 4 rfl; have af4 := bA.f 4 rfl; have a5 := bA.c 5 rfl; go_wp2_with fail; clear a4 af4 a5; have bA2 := bA.set 4 (.slice x4 T1.length y4); have bR2 := bR.far (o := 4) (u := .slice x4 T1.length y4) hAR.symm; have B2 := B1.setCell (p := ⟨A, 4, none⟩) hwA (.slice x4 T1.length y4); have hT2 := rowFar (o := 4) (u := .slice x4 T1.length y4) hT1 hAX; obtain ⟨W2, hW2⟩ : ∃ W, W = w1.setCell ⟨A, 4, none⟩ (.slice x4 T1.length y4) := ⟨_, rfl⟩; have hs2 : X ≤ W2.heap.size := by rw [hW2]; simpa using hs1
 rw [← hW2] at bA2 bR2 B2 hT2 ⊢; clear hW2 hT1 bA bR B1 hs1; simp only [List.set_cons_zero, List.set_cons_succ] at bA2; refine (sdp_s (RdsI S w) _ N.sent i w W2 (owN_s ho) B2 hn3).mono ?_; rintro e w3 ⟨u2, T2, rfl, hT3, hTR2, hE2, hb⟩; obtain ⟨x5, y5, rfl⟩ := row_slice hT3; have HE2 := Lib.hid hE2; have HR2 := Lib.hid hTR2; replace bA2 := bA2.keep hb; replace bR2 := bR2.keep hb; replace hT2 := rowK hT2 hb; replace B2 := below_step B2 hb; clear hb hE2 hTR2; have hAW : A < W2.heap.size := by omega
 have hRW : R < W2.heap.size := by omega
 have a5 := bA2.c 5 rfl; have af5 := bA2.f 5 rfl; have bA3 := bA2.set 5 (.slice x5 T2.length y5); have bR3 := bR2.far (o := 5) (u := .slice x5 T2.length y5) hAR.symm; have B3 := B2.setCell (p := ⟨A, 5, none⟩) hwA (.slice x5 T2.length y5); have hT4 := rowFar (o := 5) (u := .slice x5 T2.length y5) hT2 hAX; have hT5 := rowFar (o := 5) (u := .slice x5 T2.length y5) hT3 hAW; have k0 := bA3.c 0 rfl; have k1 := bA3.c 1 rfl; have k2 := bA3.c 2 rfl; have k3 := bA3.c 3 rfl; have k4 := bA3.c 4 rfl; have k5 := bA3.c 5 rfl; have r0 := bR3.c 0 rfl; have rf0 := bR3.f 0 rfl; have r1 := bR3.c 1 rfl; have rf1 := bR3.f 1 rfl; have r2 := bR3.c 2 rfl; have rf2 := bR3.f 2 rfl; have r3 := bR3.c 3 rfl; have rf3 := bR3.f 3 rfl; have r4 := bR3.c 4 rfl; have rf4 := bR3.f 4 rfl; have r5 := bR3.c 5 rfl; have rf5 := bR3.f 5 rfl; go_wp2_with fail; have bE := ((((((bR3.set 0 (.int .i64 N.an)).set 1 (.slice oa N.own.length oc)).set 2 (.int .i64 N.bw)).set 3 (.bool N.dr)).set 4 (.slice x4 T1.length y4)).set 5 (.slice x5 T2.length y5)); have e0 := bE.c 0 rfl; have e1 := bE.c 1 rfl; have e2 := bE.c 2 rfl; have e3 := bE.c 3 rfl; have e4 := bE.c 4 rfl; have e5 := bE.c 5 rfl; have Be := ((((((B3.setCell (p := ⟨R, 0, none⟩) hwR (.int .i64 N.an)).setCell (p := ⟨R, 1, none⟩) hwR (.slice oa N.own.length oc)).setCell (p := ⟨R, 2, none⟩) hwR (.int .i64 N.bw)).setCell (p := ⟨R, 3, none⟩) hwR (.bool N.dr)).setCell (p := ⟨R, 4, none⟩) hwR (.slice x4 T1.length y4)).setCell (p := ⟨R, 5, none⟩) hwR (.slice x5 T2.length y5)); have t1 := rowFar (B := R) (o := 5) (u := .slice x5 T2.length y5) (rowFar (B := R) (o := 4) (u := .slice x4 T1.length y4) (rowFar (B := R) (o := 3) (u := .bool N.dr) (rowFar (B := R) (o := 2) (u := .int .i64 N.bw) (rowFar (B := R) (o := 1) (u := .slice oa N.own.length oc) (rowFar (B := R) (o := 0) (u := .int .i64 N.an) hT4 hRX) hRX) hRX) hRX) hRX) hRX; have t2 := rowFar (B := R) (o := 5) (u := .slice x5 T2.length y5) (rowFar (B := R) (o := 4) (u := .slice x4 T1.length y4) (rowFar (B := R) (o := 3) (u := .bool N.dr) (rowFar (B := R) (o := 2) (u := .int .i64 N.bw) (rowFar (B := R) (o := 1) (u := .slice oa N.own.length oc) (rowFar (B := R) (o := 0) (u := .int .i64 N.an) hT5 hRW) hRW) hRW) hRW) hRW) hRW; have hwW : w.heap.size ≤ W2.heap.size := by omega
 have hwX : w.heap.size ≤ X := by omega
 exact bodyPost_ret (v := .agg #[.int .i64 N.an, .slice oa N.own.length oc, .int .i64 N.bw, .bool N.dr, .slice x4 T1.length y4, .slice x5 T2.length y5]) (by simp [results, Tryz.results87, go_sem, e0, e1, e2, e3, e4, e5]) rfl
  ⟨_, _, _, rfl, fun w2 ag => ⟨(owN_o ho).2 w2 ((AgrS.of_below Be).trans (ag.sub fun b q => .inl q)), by
   have d := row_rd (row_agrS t1 (fun k q => .inr (Nat.le_trans hwX (row_ob t1 q))) ag) (fun t ht => ⟨(HR1.out t ht).1 w2 ((AgrS.of_below Be).trans (ag.sub fun b q => .inl q)), (HR1.out t ht).2 w2 ((AgrS.of_below Be).trans (ag.sub fun b q => .inl q))⟩); rw [HE1.out] at d
   exact d, by
   have d := row_rd (row_agrS t2 (fun k q => .inr (Nat.le_trans hwW (row_ob t2 q))) ag) (fun t ht => ⟨(HR2.out t ht).1 w2 ((AgrS.of_below Be).trans (ag.sub fun b q => .inl q)), (HR2.out t ht).2 w2 ((AgrS.of_below Be).trans (ag.sub fun b q => .inl q))⟩); rw [HE2.out] at d
   exact d⟩, Be⟩
end Go.Proofs.YtkodnipmogdgkaaGreat
namespace Go.Proofs.YtkodnipmogdgkaaGreat
open Go.ChangeShapes Go.WideShapes Go.ChangeAt Go.RowKit Go.BigFrame Go.Joins
set_option linter.unusedVariables false
set_option maxRecDepth 100000
set_option linter.unusedSimpArgs false
set_option maxRecDepth 100000

theorem bl_low {w w' : World} {N B : Nat} {xs : List Value} (h : Bl w B xs) (b : Below N w w') (hB : B < N) : Bl w' B xs := ⟨Nat.lt_of_lt_of_le h.lt b.size, fun i x e => (World.cell?_of_block (b.block B hB)).trans (h.cs i x e), fun i hi => (World.frozen?_of_block (b.block B hB)).trans (h.fz i hi)⟩
theorem below_low {w w' : World} {N M : Nat} (b : Below N w w') (h : M ≤ N) : Below M w w' := ⟨b.os, b.tape, b.output, b.size, fun k hk => b.block k (by omega)⟩
theorem below_up {b : Nat} {w V D : World} (h : Below b w V) (k : Below V.heap.size V D) (hb : b ≤ V.heap.size) : Below b w D := h.trans (below_low k hb)
def okL (x : Fb) (j : Int) : Bool := fbB x && inB j 0 ((x.links.length : Int) - 1)
/-- the switch a loses what it has of its interface -/
def ndLost (L : List Nd) (a i : Int) : List Nd := L.set a.toNat (lostN (L.getD a.toNat n0) i)
theorem ndLost_len (L : List Nd) (a i : Int) : (ndLost L a i).length = L.length := by simp [ndLost]
def turnF (x : Fb) (j : Int) (up : Bool) : Fb :=
 if okL x j = true then (if (x.links.getD j.toNat l0).up = up then x else ⟨ndLost (ndLost x.nodes (x.links.getD j.toNat l0).a (x.links.getD j.toNat l0).ai) (x.links.getD j.toNat l0).b (x.links.getD j.toNat l0).bi, x.links.set j.toNat ⟨(x.links.getD j.toNat l0).a, (x.links.getD j.toNat l0).ai, (x.links.getD j.toNat l0).b, (x.links.getD j.toNat l0).bi, up, [], []⟩, x.width⟩) else fb0
/-- what is known of a link of a valid fabric -/
structure LkOk (n : Nat) (y : Lk) (a b : Nat) : Prop where
 ha : y.a = a
 hb : y.b = b
 an : a < n
 bn : b < n
 ne : a ≠ b
 ai : inB y.ai 0 7 = true
 bi : inB y.bi 0 7 = true
theorem lk_ok {x : Fb} {k : Nat} (h : fbB x = true) (hk : k < x.links.length) : ∃ a b, LkOk x.nodes.length (x.links.getD k l0) a b := by
 unfold fbB at h; simp only [Bool.and_eq_true] at h; have hw := (ways_all x.nodes.length x.links).mp (List.all_eq_true.mp h.2.2.2.2.1) (x.links.getD k l0) (by simp [List.getD, hk]); have hl := hw.1; unfold linkB at hl; unfold inB at hl; simp only [Bool.and_eq_true, decide_eq_true_eq, bne_iff_ne, ne_eq] at hl; refine ⟨(x.links.getD k l0).a.toNat, (x.links.getD k l0).b.toNat, ?_⟩
 constructor <;> (try unfold inB) <;> (try simp only [Bool.and_eq_true, decide_eq_true_eq]) <;> omega
theorem nd_ok {x : Fb} {k : Nat} (h : fbB x = true) (hk : k < x.nodes.length) : ndB (x.nodes.getD k n0) = true := by
 unfold fbB at h; simp only [Bool.and_eq_true, List.all_eq_true] at h
 exact h.2.1 _ (by simp [List.getD, hk])
theorem lost_eq {N : Nd} {i : Int} (h : ndB N = true) (hi : inB i 0 7 = true) : lostN N i = { N with rib := (N.rib.filter fun E => !(E.pe == i)), sent := (N.sent.filter fun E => !(E.pe == i)) } := by
 simp [lostN, h, hi, dropP_yes (nd_ribs h).1, dropP_yes (nd_ribs h).2]
theorem set_wtNS (L : List Nd) (k : Nat) (y : Nd) (h : wtN y ≤ wtN (L.getD k n0)) : wtNS (L.set k y) ≤ wtNS L := by
 induction L generalizing k with
 | nil => simp
 | cons x L ih =>
  cases k with
  | zero => simp only [wtNS, List.set_cons_zero, List.map_cons, List.sum_cons] at h ⊢; simp at h; omega
  | succ k =>
   have := ih k (by simpa using h); simp only [wtNS, List.set_cons_succ, List.map_cons, List.sum_cons] at this ⊢
   omega
theorem set_wtLS (L : List Lk) (k : Nat) (y : Lk) (h : wtL y ≤ wtL (L.getD k l0)) : wtLS (L.set k y) ≤ wtLS L := by
 induction L generalizing k with
 | nil => simp
 | cons x L ih =>
  cases k with
  | zero => simp only [wtLS, List.set_cons_zero, List.map_cons, List.sum_cons] at h ⊢; simp at h; omega
  | succ k =>
   have := ih k (by simpa using h); simp only [wtLS, List.set_cons_succ, List.map_cons, List.sum_cons] at this ⊢
   omega
theorem lost_le (N : Nd) (i : Int) : wtN (lostN N i) ≤ wtN N := by
 unfold lostN
 split
 ·have h1 := dropP_wt N.rib i
  have h2 := dropP_wt N.sent i; unfold wtN
  dsimp only
  omega
 ·have h : wtN nd0 = 0 := by simp [nd0, wtN, wtE]
  omega
theorem ndLost_wt (L : List Nd) (a i : Int) : wtNS (ndLost L a i) ≤ wtNS L := set_wtNS L _ _ (lost_le _ _)
theorem turn_wt (x : Fb) (j : Int) (up : Bool) : wtF (turnF x j up) ≤ wtF x := by
 unfold turnF
 split
 ·split
  ·exact Nat.le_refl _
  ·have h1 := ndLost_wt (ndLost x.nodes (x.links.getD j.toNat l0).a (x.links.getD j.toNat l0).ai) (x.links.getD j.toNat l0).b (x.links.getD j.toNat l0).bi
   have h2 := ndLost_wt x.nodes (x.links.getD j.toNat l0).a (x.links.getD j.toNat l0).ai; have h3 := set_wtLS x.links j.toNat ⟨(x.links.getD j.toNat l0).a, (x.links.getD j.toNat l0).ai, (x.links.getD j.toNat l0).b, (x.links.getD j.toNat l0).bi, up, [], []⟩ (by simp [wtL, wtMS]); unfold wtF; simp only [ndLost_len, List.length_set]
   omega
 ·simp [wtF, fb0, wtNS, wtLS]
/-- the switches in block g, read as long as nothing but g turns -/
def PN (w : World) (g : Nat) (xs : List Value) (L : List Nd) : Prop := Bl w g xs ∧ xs.length = L.length * 6 ∧ ∀ i, i < L.length → ∃ ov rv sv, (∀ w2, AgrS (fun b => b ≠ g) w w2 → RdN w2 ov rv sv (L.getD i n0)) ∧ xs[i * 6]? = some (.int .i64 (L.getD i n0).an) ∧ xs[i * 6 + 1]? = some (ov) ∧ xs[i * 6 + 2]? = some (.int .i64 (L.getD i n0).bw) ∧ xs[i * 6 + 3]? = some (.bool (L.getD i n0).dr) ∧ xs[i * 6 + 4]? = some (rv) ∧ xs[i * 6 + 5]? = some (sv)
theorem PN.agr {w w' : World} {g : Nat} {xs : List Value} {L : List Nd} (h : PN w g xs L) (hb : Bl w' g xs) (a : AgrS (fun b => b ≠ g) w w') : PN w' g xs L := by
 refine ⟨hb, h.2.1, fun i hi => ?_⟩; obtain ⟨ov, rv, sv, hr, f⟩ := h.2.2 i hi
 exact ⟨ov, rv, sv, fun w2 a2 => hr w2 (a.trans a2), f⟩
theorem PN.keep {w w' : World} {g : Nat} {xs : List Value} {L : List Nd} (h : PN w g xs L) (b : Below w.heap.size w w') : PN w' g xs L := h.agr (h.1.keep b) (.of_below b)
theorem PN.rd {w : World} {g cap : Nat} {xs : List Value} {L : List Nd} (h : PN w g xs L) (hl : L.length ≤ 1048576) : RdNS w (.slice (some ⟨g, 0, none⟩) L.length cap) L := by
 refine ⟨by omega, ?_⟩
 by_cases h0 : L.length = 0
 ·exact .inl ⟨some ⟨g, 0, none⟩, cap, by rw [h0], List.eq_nil_of_length_eq_zero h0, fun h => by cases h⟩
 ·refine .inr ⟨g, 0, cap, rfl, by omega, fun i hi => ?_⟩
  obtain ⟨ov, rv, sv, hr, f0, f1, f2, f3, f4, f5⟩ := h.2.2 i hi; refine ⟨ov, rv, sv, hr w ⟨Nat.le_refl _, fun _ _ _ => rfl⟩, ?_⟩; simp only [Nat.zero_add]
  exact ⟨h.1.c _ f0, h.1.c _ f1, h.1.c _ f2, h.1.c _ f3, h.1.c _ f4, h.1.c _ f5⟩
theorem PN.put {w w' : World} {g k : Nat} {xs xs' : List Value} {L : List Nd} {ov rv sv : Value} {x : Nd} (h : PN w g xs L) (a : AgrS (fun b => b ≠ g) w w') (hB : Bl w' g xs') (hx : xs'.length = L.length * 6) (hk : k < L.length)
  (hr : ∀ w2, AgrS (fun b => b ≠ g) w' w2 → RdN w2 ov rv sv x)
  (hsame : ∀ i, i < L.length → i ≠ k → ∀ f, f < 6 → xs'[i * 6 + f]? = xs[i * 6 + f]?)
  (f : xs'[k * 6]? = some (.int .i64 x.an) ∧ xs'[k * 6 + 1]? = some (ov) ∧ xs'[k * 6 + 2]? = some (.int .i64 x.bw) ∧ xs'[k * 6 + 3]? = some (.bool x.dr) ∧ xs'[k * 6 + 4]? = some (rv) ∧ xs'[k * 6 + 5]? = some (sv)) : PN w' g xs' (L.set k x) := by
 refine ⟨hB, by rw [List.length_set]; exact hx, fun i hi => ?_⟩; rw [List.length_set] at hi
 by_cases e : i = k
 ·subst e
  rw [show (L.set i x).getD i n0 = x by simp [List.getD, hi]]
  exact ⟨ov, rv, sv, hr, f⟩
 ·rw [show (L.set k x).getD i n0 = L.getD i n0 by simp [List.getD, List.getElem?_set, Ne.symm e]]
  obtain ⟨ov, rv, sv, hr, f0, f1, f2, f3, f4, f5⟩ := h.2.2 i hi; refine ⟨ov, rv, sv, fun w2 a2 => hr w2 (a.trans a2), ?_, ?_, ?_, ?_, ?_, ?_⟩
  ·rw [show i * 6 = i * 6 + 0 from rfl, hsame i hi e 0 (by omega)]; exact f0
  ·rw [hsame i hi e 1 (by omega)]; exact f1
  ·rw [hsame i hi e 2 (by omega)]; exact f2
  ·rw [hsame i hi e 3 (by omega)]; exact f3
  ·rw [hsame i hi e 4 (by omega)]; exact f4
  ·rw [hsame i hi e 5 (by omega)]; exact f5
/-- element j of the links is another now, its rows lie where they lay -/
theorem OwLS.put {w w' : World} {S : Nat → Prop} {g cap j : Nat} {xs xs' : List Value} {E : Nat → Nat → Prop} {L : List Lk} {x' : Lk} (hl : L.length ≤ 1048576) (h1 : S g) (hB : Bl w' g xs') (hx : xs'.length = L.length * 7)
  (hE : ∀ i, i < L.length → (∀ b, E i b → S b) ∧ ¬ E i g ∧ ElL xs w (E i) i (L.getD i l0)) (hd : ∀ i j, i < L.length → j < L.length → i ≠ j → Dj (E i) (E j)) (hj : j < L.length)
  (hsame : ∀ i, i < L.length → i ≠ j → ∀ f, f < 7 → xs'[i * 7 + f]? = xs[i * 7 + f]?) (ha : ∀ i, i < L.length → AgrS (E i) w w') (hn : ElL xs' w' (E j) j x') : OwLS w' S (.slice (some ⟨g, 0, none⟩) L.length cap) (L.set j x') := by
 refine ⟨by rw [List.length_set]; exact hl, .inr ⟨g, cap, xs', E, by rw [List.length_set], h1, hB, by rw [List.length_set]; exact hx, fun i hi => ?_, fun i j hi hj' hij => hd i j (by rwa [List.length_set] at hi) (by rwa [List.length_set] at hj') hij⟩⟩; rw [List.length_set] at hi; obtain ⟨e1, e2, e5⟩ := hE i hi; refine ⟨e1, e2, ?_⟩
 by_cases e : i = j
 ·subst e
  rw [show (L.set i x').getD i l0 = x' by simp [List.getD, hi]]
  exact hn
 ·rw [show (L.set j x').getD i l0 = L.getD i l0 by simp [List.getD, List.getElem?_set, Ne.symm e]]
  obtain ⟨av, bv, ho, f0, f1, f2, f3, f4, f5, f6⟩ := e5; refine ⟨av, bv, ho.agr (ha i hi), ?_, ?_, ?_, ?_, ?_, ?_, ?_⟩
  ·rw [show i * 7 = i * 7 + 0 from rfl, hsame i hi e 0 (by omega)]; exact f0
  ·rw [hsame i hi e 1 (by omega)]; exact f1
  ·rw [hsame i hi e 2 (by omega)]; exact f2
  ·rw [hsame i hi e 3 (by omega)]; exact f3
  ·rw [hsame i hi e 4 (by omega)]; exact f4
  ·rw [hsame i hi e 5 (by omega)]; exact f5
  ·rw [hsame i hi e 6 (by omega)]; exact f6
end Go.Proofs.YtkodnipmogdgkaaGreat
namespace Go.Proofs.YtkodnipmogdgkaaGreat
open Go.ChangeShapes Go.WideShapes Go.ChangeAt Go.RowKit Go.BigFrame Go.Joins
open List (setIfInBounds_toArray set_cons_succ set_cons_zero)
set_option linter.unusedVariables false
set_option maxRecDepth 100000
set_option linter.unusedSimpArgs false
set_option maxRecDepth 100000

theorem midS_set {S : Nat → Prop} {g o : Nat} (w : World) {u : Value} (h : S g) : MidS S w (w.setCell ⟨g, o, none⟩ u) := .of_grown (grown_set w g o u) (fun k e => by cases e; exact h)
/-- the blocks g and p -/
def GP (g p : Nat) (b : Nat) : Prop := b = g ∨ b = p
set_option maxHeartbeats 4000000 in
theorem ilose_any (g cap n p q a : Nat) (lv : Value) (wd ai tn ti : Int) (up : Bool) (xp : List Value) (sv : Value) (S : Nat → Prop) (L : List Nd) (w : World) (hn : L.length = n) (hO : OwNS w S (.slice (some ⟨g, 0, none⟩) n cap) L) (hgS : ¬ S p) (hSw : ∀ b, S b → b < w.heap.size)
  (hk : a < n) (hwt : wtNS L ≤ 1048576) (bP : Bl w p xp) (hq : xp[q]? = some sv) :
  Calls Tryz.prog 45 #[.agg #[.slice (some ⟨g, 0, none⟩) n cap, lv, .int .i64 wd], .agg #[.int .i64 a, .int .i64 ai, .int .i64 tn, .int .i64 ti, .bool up, .pointer (some ⟨p, q, none⟩)]] w fun e w' => e = .returned (.tuple #[]) ∧ OwNS w' (fun b => S b ∨ Rg w.heap.size w'.heap.size b) (.slice (some ⟨g, 0, none⟩) n cap) (ndLost L a ai) ∧ Bl w' p (xp.set q (.slice none 0 0)) ∧ MidS (GP g p) w w' := by
 subst hn; obtain ⟨hl, ⟨hv, hnil⟩ | ⟨g', cap', xs, E, hv, gS, bG, hxl, hE, hd⟩⟩ := hO
 ·cases hv
 simp only [Value.slice.injEq, Option.some.injEq, Addr.mk.injEq, and_true] at hv; obtain ⟨rfl, -, rfl⟩ := hv; have hgw := hSw _ gS; have hpg : p ≠ g := fun e => hgS (e ▸ gS)
 have hpl := bP.lt; have p0 := bP.c q hq; have pf := bP.f q hq
 go_enter Tryz.func45, Tryz.ntmps45
 go_wp2_with fail; clear p0 pf; obtain ⟨w1, hw1⟩ : ∃ w1, w1 = w.setCell ⟨p, q, none⟩ (.slice none 0 0) := ⟨_, rfl⟩; have hz1 : w1.heap.size = w.heap.size := by rw [hw1]; simp
 have M1 : MidS (GP g p) w w1 := by rw [hw1]; exact midS_set _ (.inr rfl)
 have bP1 := bP.set q (.slice none 0 0); have bG1 := bG.far (o := q) (u := .slice none 0 0) hpg.symm; have hE1 : ∀ i, i < L.length → (∀ b, E i b → S b) ∧ ¬ E i g ∧ ElN xs w1 (E i) i (L.getD i n0) := fun i hi => ⟨(hE i hi).1, (hE i hi).2.1, by rw [hw1]; exact (hE i hi).2.2.agr (agr_setS _ fun h => hgS ((hE i hi).1 _ h))⟩
 rw [← hw1] at bP1 bG1 ⊢; clear hw1; obtain ⟨bF, bK, B1, z⟩ := two w1 [.slice (some ⟨g, 0, none⟩) L.length cap, lv, .int .i64 wd] [.int .i64 a, .int .i64 ai, .int .i64 tn, .int .i64 ti, .bool up, .pointer (some ⟨p, q, none⟩)] 30 75; obtain ⟨V2, hV2⟩ : ∃ V2, V2 = (w1.alloc (.cells #[.slice (some ⟨g, 0, none⟩) L.length cap, lv, .int .i64 wd] 30)).alloc (.cells #[.int .i64 a, .int .i64 ai, .int .i64 tn, .int .i64 ti, .bool up, .pointer (some ⟨p, q, none⟩)] 75) := ⟨_, rfl⟩; rw [← hV2] at bF bK B1 z ⊢; rw [hz1] at bF bK z; obtain ⟨F, hF⟩ : ∃ F, F = w.heap.size := ⟨_, rfl⟩; obtain ⟨K0, hK0⟩ : ∃ K0, K0 = w.heap.size + 1 := ⟨_, rfl⟩; rw [← hF] at bF; rw [← hK0] at bK
 try rw [← hK0]
 try rw [← hF]
 have M0 := M1.trans (MidS.of_below B1); replace bP := bP1.keep B1; replace bG := bG1.keep B1; have hE2 : ∀ i, i < L.length → (∀ b, E i b → S b) ∧ ¬ E i g ∧ ElN xs V2 (E i) i (L.getD i n0) := fun i hi => ⟨(hE1 i hi).1, (hE1 i hi).2.1, (hE1 i hi).2.2.agr (.of_below B1)⟩
 have hgF : g ≠ F := by omega
 have hgK : g ≠ K0 := by omega
 have hwV : w.heap.size ≤ V2.heap.size := by omega
 have hS0 : ∀ b, S b → b < V2.heap.size := fun b h => by have := hSw b h; omega
 clear hV2 hE hE1 M1 bP1 bG1 B1 z hF hK0; have hE := hE2; clear hE2; obtain ⟨y, hy⟩ : ∃ y, y = L.getD a n0 := ⟨_, rfl⟩; have HY := Lib.hid hy; have hEk := (hE a hk).2.2; rw [← hy] at hEk
 have hwy : wtN y ≤ 1048576 := by
  have h1 := wtN_at (L := L) (j := a) hk; rw [← hy] at h1
  omega
 clear hy; obtain ⟨ov, rv, sv9, hon, f0, f1, f2, f3, f4, f5⟩ := hEk; have hry : RdN V2 ov rv sv9 y := hon.rd; have HBD : Hid (BdN (lostN y ai)) := Lib.hid (lost_bd ai hry.bd); have HWD : Hid (wtN (lostN y ai) ≤ 1048576) := Lib.hid (lost_wt ai hwy); obtain ⟨i1, j1, rfl⟩ := hry.1.len; obtain ⟨i2, j2, rfl⟩ := hry.2.1.len; obtain ⟨i3, j3, rfl⟩ := hry.2.2.len; have HE := Lib.hid hE; have hkI : (a : Int) < (L.length : Int) := by omega
 clear hE; refine wp_region_held_drew (S := fun w' => Bl w' F [.slice (some ⟨g, 0, none⟩) L.length cap, lv, .int .i64 wd] ∧ Bl w' K0 [.int .i64 a, .int .i64 ai, .int .i64 tn, .int .i64 ti, .bool up, .pointer (some ⟨p, q, none⟩)]) (by kernel_rfl) ⟨bF.keep (over_drew _), bK.keep (over_drew _)⟩ (fun hHeld => ?_); clear hHeld; obtain ⟨D, hD⟩ : ∃ D, D = V2.drew := ⟨_, rfl⟩; have OD : Over V2 D := by rw [hD]; exact over_drew _
 rw [← hD]; clear hD; have bPD := And.intro (bF.keep OD) (bK.keep OD); have hSD := bPD; refine tk 0 7 (v := ?_) hSD ?_ ?_; rotate_left
 ·intro wq hSq
  go_simp
  try rfl
 simp only [Act.put, setIfInBounds_toArray, set_cons_succ, set_cons_zero]; refine tk 1 8 (v := ?_) hSD ?_ ?_; rotate_left
 ·intro wq hSq
  have q0 := hSq.1.c 0 rfl
  go_simp
  try rfl
 simp only [Act.put, setIfInBounds_toArray, set_cons_succ, set_cons_zero]; refine tk 2 9 (v := ?_) hSD ?_ ?_; rotate_left
 ·intro wq hSq
  go_simp
  try rfl
 simp only [Act.put, setIfInBounds_toArray, set_cons_succ, set_cons_zero]; refine tk 3 10 (v := ?_) hSD ?_ ?_; rotate_left
 ·intro wq hSq
  go_simp
  try rfl
 simp only [Act.put, setIfInBounds_toArray, set_cons_succ, set_cons_zero]; refine tk 4 11 (v := ?_) hSD ?_ ?_; rotate_left
 ·intro wq hSq
  have q0 := hSq.2.c 0 rfl
  go_simp
  try rfl
 simp only [Act.put, setIfInBounds_toArray, set_cons_succ, set_cons_zero]; refine tk 5 12 (v := ?_) hSD ?_ ?_; rotate_left
 ·intro wq hSq
  go_simp
  try rfl
 simp only [Act.put, setIfInBounds_toArray, set_cons_succ, set_cons_zero]; refine tk 6 13 (v := ?_) hSD ?_ ?_; rotate_left
 ·intro wq hSq
  have q0 := hSq.1.c 0 rfl
  go_simp
  try rfl
 simp only [Act.put, setIfInBounds_toArray, set_cons_succ, set_cons_zero]; refine tk 7 14 (v := ?_) hSD ?_ ?_; rotate_left
 ·intro wq hSq
  go_simp
  try rfl
 simp only [Act.put, setIfInBounds_toArray, set_cons_succ, set_cons_zero]; refine tk 8 15 (v := ?_) hSD ?_ ?_; rotate_left
 ·intro wq hSq
  go_simp
  try rfl
 simp only [Act.put, setIfInBounds_toArray, set_cons_succ, set_cons_zero]; refine tk 9 16 (v := ?_) hSD ?_ ?_; rotate_left
 ·intro wq hSq
  have q0 := hSq.2.c 0 rfl
  go_simp
  try rfl
 simp only [Act.put, setIfInBounds_toArray, set_cons_succ, set_cons_zero]; refine tk 10 17 (v := ?_) hSD ?_ ?_; rotate_left
 ·intro wq hSq
  go_simp
  try rfl
 simp only [Act.put, setIfInBounds_toArray, set_cons_succ, set_cons_zero]; refine tk 12 19 (v := ?_) hSD ?_ ?_; rotate_left
 ·intro wq hSq
  go_simp
  try rfl
 simp only [Act.put, setIfInBounds_toArray, set_cons_succ, set_cons_zero]; refine tk 13 20 (v := ?_) hSD ?_ ?_; rotate_left
 ·intro wq hSq
  go_simp
  try rfl
 simp only [Act.put, setIfInBounds_toArray, set_cons_succ, set_cons_zero]; refine tk 14 21 (v := ?_) hSD ?_ ?_; rotate_left
 ·intro wq hSq
  have q0 := hSq.2.c 1 rfl
  go_simp
  try rfl
 simp only [Act.put, setIfInBounds_toArray, set_cons_succ, set_cons_zero]; clear hSD; refine rd1 11 fun K hK => ?_
 have q0 := (bG.keep OD).c (a * 6) f0; have q1 := (bG.keep OD).c (a * 6 + 1) f1; have q2 := (bG.keep OD).c (a * 6 + 2) f2; have q3 := (bG.keep OD).c (a * 6 + 3) f3; have q4 := (bG.keep OD).c (a * 6 + 4) f4; have q5 := (bG.keep OD).c (a * 6 + 5) f5
 go_simp
 refine hK.out _ _ bPD (fun hHeld => ?_); clear hK K hHeld q0 q1 q2 q3 q4 q5
 try simp only [Act.put, setIfInBounds_toArray, set_cons_succ, set_cons_zero]
 refine rd1 15 fun K hK => ?_
 go_simp
 refine (ilost_any _ _ _ y ai D (hry.keep OD) hwy).mono ?_; rintro e w3 ⟨v1, v2, v3, T1, T2, b0, h1, h2, rfl, hT, eT1, eT2, hb0, B2⟩; have oNew := ndT_own hT eT1 eT2 HBD.out HWD.out; obtain ⟨⟨n1, m1, rfl⟩, ⟨n2, m2, rfl⟩, ⟨n3, m3, rfl⟩⟩ := hT.lens; clear hT eT1 eT2; refine hK.out _ _ ⟨bPD.1.keep B2, bPD.2.keep B2⟩ (fun hHeld => ?_); clear hK K hHeld
 try simp only [Act.put, setIfInBounds_toArray, set_cons_succ, set_cons_zero]
 refine rd1 16 fun K hK => ?_
 go_simp
 refine hK.out _ _ ⟨bPD.1.keep B2, bPD.2.keep B2⟩ (fun hHeld => ?_); clear hK K hHeld
 try simp only [Act.put, setIfInBounds_toArray, set_cons_succ, set_cons_zero]
 refine rd1 17 fun K hK => ?_
 have q0 := ((bG.keep OD).keep B2).c (a * 6) f0; have p0 := ((bG.keep OD).keep B2).f (a * 6) f0; have q1 := ((bG.keep OD).keep B2).c (a * 6 + 1) f1; have p1 := ((bG.keep OD).keep B2).f (a * 6 + 1) f1; have q2 := ((bG.keep OD).keep B2).c (a * 6 + 2) f2; have p2 := ((bG.keep OD).keep B2).f (a * 6 + 2) f2; have q3 := ((bG.keep OD).keep B2).c (a * 6 + 3) f3; have p3 := ((bG.keep OD).keep B2).f (a * 6 + 3) f3; have q4 := ((bG.keep OD).keep B2).c (a * 6 + 4) f4; have p4 := ((bG.keep OD).keep B2).f (a * 6 + 4) f4; have q5 := ((bG.keep OD).keep B2).c (a * 6 + 5) f5; have p5 := ((bG.keep OD).keep B2).f (a * 6 + 5) f5
 go_simp
 refine hK.out _ _ ⟨((((((bPD.1.keep B2).far (o := a * 6) hgF.symm).far (o := a * 6 + 1) hgF.symm).far (o := a * 6 + 2) hgF.symm).far (o := a * 6 + 3) hgF.symm).far (o := a * 6 + 4) hgF.symm).far (o := a * 6 + 5) hgF.symm, ((((((bPD.2.keep B2).far (o := a * 6) hgK.symm).far (o := a * 6 + 1) hgK.symm).far (o := a * 6 + 2) hgK.symm).far (o := a * 6 + 3) hgK.symm).far (o := a * 6 + 4) hgK.symm).far (o := a * 6 + 5) hgK.symm⟩ (fun hHeld => ?_); clear hK K hHeld q0 q1 q2 q3 q4 q5 p0 p1 p2 p3 p4 p5
 try simp only [Act.put, setIfInBounds_toArray, set_cons_succ, set_cons_zero]
 refine wpAnyH_done (by kernel_rfl) ?_ _; obtain ⟨W7, hW7⟩ : ∃ W, W = ((((((w3).setCell ⟨g, a * 6, none⟩ (.int .i64 (lostN y ai).an)).setCell ⟨g, a * 6 + 1, none⟩ (.slice n1 (lostN y ai).own.length m1)).setCell ⟨g, a * 6 + 2, none⟩ (.int .i64 (lostN y ai).bw)).setCell ⟨g, a * 6 + 3, none⟩ (.bool (lostN y ai).dr)).setCell ⟨g, a * 6 + 4, none⟩ (.slice n2 T1.length m2)).setCell ⟨g, a * 6 + 5, none⟩ (.slice n3 T2.length m3) := ⟨_, rfl⟩; have hz7 : w3.heap.size = W7.heap.size := by rw [hW7]; simp
 have hD := OD.size; have hD3 := B2.size; have ng : ¬ Rg b0 w3.heap.size g := fun q => by have := q.1; omega
 have ag : ∀ S : Nat → Prop, ¬ S g → AgrS S V2 W7 := fun S hg => by rw [hW7]; exact ((((((AgrS.of_below (below_step OD B2)).trans (agr_setS (o := a * 6) (u := .int .i64 (lostN y ai).an) _ hg)).trans (agr_setS (o := a * 6 + 1) (u := .slice n1 (lostN y ai).own.length m1) _ hg)).trans (agr_setS (o := a * 6 + 2) (u := .int .i64 (lostN y ai).bw) _ hg)).trans (agr_setS (o := a * 6 + 3) (u := .bool (lostN y ai).dr) _ hg)).trans (agr_setS (o := a * 6 + 4) (u := .slice n2 T1.length m2) _ hg)).trans (agr_setS (o := a * 6 + 5) (u := .slice n3 T2.length m3) _ hg)
 have oN7 := ((((((oNew).agr (agr_setS (o := a * 6) (u := .int .i64 (lostN y ai).an) _ ng)).agr (agr_setS (o := a * 6 + 1) (u := .slice n1 (lostN y ai).own.length m1) _ ng)).agr (agr_setS (o := a * 6 + 2) (u := .int .i64 (lostN y ai).bw) _ ng)).agr (agr_setS (o := a * 6 + 3) (u := .bool (lostN y ai).dr) _ ng)).agr (agr_setS (o := a * 6 + 4) (u := .slice n2 T1.length m2) _ ng)).agr (agr_setS (o := a * 6 + 5) (u := .slice n3 T2.length m3) _ ng); have bG7 := (((((((bG.keep OD).keep B2).set (a * 6) (.int .i64 (lostN y ai).an)).set (a * 6 + 1) (.slice n1 (lostN y ai).own.length m1)).set (a * 6 + 2) (.int .i64 (lostN y ai).bw)).set (a * 6 + 3) (.bool (lostN y ai).dr)).set (a * 6 + 4) (.slice n2 T1.length m2)).set (a * 6 + 5) (.slice n3 T2.length m3); have bP7 := (((((((bP.keep OD).keep B2).far (o := a * 6) (u := .int .i64 (lostN y ai).an) hpg).far (o := a * 6 + 1) (u := .slice n1 (lostN y ai).own.length m1) hpg).far (o := a * 6 + 2) (u := .int .i64 (lostN y ai).bw) hpg).far (o := a * 6 + 3) (u := .bool (lostN y ai).dr) hpg).far (o := a * 6 + 4) (u := .slice n2 T1.length m2) hpg).far (o := a * 6 + 5) (u := .slice n3 T2.length m3) hpg; have M7 := (((((((MidS.of_below (S := GP g p) (below_step OD B2))).trans (midS_set (o := a * 6) (u := .int .i64 (lostN y ai).an) _ (.inl rfl))).trans (midS_set (o := a * 6 + 1) (u := .slice n1 (lostN y ai).own.length m1) _ (.inl rfl))).trans (midS_set (o := a * 6 + 2) (u := .int .i64 (lostN y ai).bw) _ (.inl rfl))).trans (midS_set (o := a * 6 + 3) (u := .bool (lostN y ai).dr) _ (.inl rfl))).trans (midS_set (o := a * 6 + 4) (u := .slice n2 T1.length m2) _ (.inl rfl))).trans (midS_set (o := a * 6 + 5) (u := .slice n3 T2.length m3) _ (.inl rfl)); rw [← hW7] at oN7 bG7 bP7 M7 ⊢; clear hW7
 have hPut := OwNS.put (cap := cap) (S' := Rg b0 w3.heap.size) (x' := lostN y ai) hl gS bG7 (by simpa using hxl) HE.out hd hk
  (fun i hi hij f hf => by rw [List.getElem?_set_ne (by omega)]; rw [List.getElem?_set_ne (by omega)]; rw [List.getElem?_set_ne (by omega)]; rw [List.getElem?_set_ne (by omega)]; rw [List.getElem?_set_ne (by omega)]; rw [List.getElem?_set_ne (by omega)])
  (fun i hi => ag _ (HE.out i hi).2.1) (fun b q r => by have := hS0 b q; have := r.1; omega)
  ⟨_, _, _, oN7, by rw [List.getElem?_set_ne (by omega)]; rw [List.getElem?_set_ne (by omega)]; rw [List.getElem?_set_ne (by omega)]; rw [List.getElem?_set_ne (by omega)]; rw [List.getElem?_set_ne (by omega)]; rw [List.getElem?_set_self (by first | (rw [hxl]; omega) | (simp only [List.length_set]; rw [hxl]; omega))], by rw [List.getElem?_set_ne (by omega)]; rw [List.getElem?_set_ne (by omega)]; rw [List.getElem?_set_ne (by omega)]; rw [List.getElem?_set_ne (by omega)]; rw [List.getElem?_set_self (by first | (rw [hxl]; omega) | (simp only [List.length_set]; rw [hxl]; omega))], by rw [List.getElem?_set_ne (by omega)]; rw [List.getElem?_set_ne (by omega)]; rw [List.getElem?_set_ne (by omega)]; rw [List.getElem?_set_self (by first | (rw [hxl]; omega) | (simp only [List.length_set]; rw [hxl]; omega))], by rw [List.getElem?_set_ne (by omega)]; rw [List.getElem?_set_ne (by omega)]; rw [List.getElem?_set_self (by first | (rw [hxl]; omega) | (simp only [List.length_set]; rw [hxl]; omega))], by rw [List.getElem?_set_ne (by omega)]; rw [List.getElem?_set_self (by first | (rw [hxl]; omega) | (simp only [List.length_set]; rw [hxl]; omega))], by  rw [List.getElem?_set_self (by first | (rw [hxl]; omega) | (simp only [List.length_set]; rw [hxl]; omega))]⟩
 have hN9 : OwNS W7 (fun b => S b ∨ Rg w.heap.size W7.heap.size b) (.slice (some ⟨g, 0, none⟩) L.length cap) (ndLost L a ai) := by
  unfold ndLost; rw [Int.toNat_natCast, ← HY.out]
  exact hPut.mono fun b q => q.imp id fun q => ⟨by have := q.1; omega, by have := q.2; omega⟩
 clear hPut bG7 oN7 ag hd bG; go_wp2
 first | go_end0 | refine bodyPost_ret (results_none rfl _ _ _) rfl ?_
 exact ⟨rfl, hN9, bP7, M0.trans M7⟩
end Go.Proofs.YtkodnipmogdgkaaGreat
