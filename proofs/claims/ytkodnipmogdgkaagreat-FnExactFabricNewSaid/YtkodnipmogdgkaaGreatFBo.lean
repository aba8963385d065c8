/-
  FabricOk of the model. Conditions: those in each contract.
  Mark, of the model and of the program. Conditions: those in each contract.
  Mark of the program. Conditions: those in each contract.
  NodeLost of the program and of the model. Conditions: those in each contract.
  What l8lost answers lies in the switch's own memory, or is new. Conditions: those in each contract.
  Words for Turn. Conditions: those in each contract.
  l9turn, of the model. Conditions: those in each contract.
  The links that pairs of numbers ask for. Conditions: those in each contract.
  Turn, of the model. Conditions: those in each contract.
  FabricNew, of the model and of the program. Conditions: those in each contract.
  FabricNew, of the model. Conditions: those in each contract.
  FabricNew, of the program. Conditions: those in each contract.
  How many marks a fabric bears. Conditions: those in each contract.
  What the law on FabricNew asks of its arguments. Conditions: those in each contract.
-/
import Derived.Test.YtkodnipmogdgkaaGreatFBn
import Derived.Test.YtkodnipmogdgkaaGreatFBj
import Derived.Test.YtkodnipmogdgkaaGreatFBi
import Derived.Test.YtkodnipmogdgkaaGreatFBf
namespace Go.Proofs.YtkodnipmogdgkaaGreat
open Go.ChangeShapes Go.WideShapes Go.ChangeAt Go.RowKit Go.BigFrame Go.Joins
set_option linter.unusedVariables false
set_option maxRecDepth 100000
set_option maxRecDepth 100000
set_option linter.unusedSimpArgs false
set_option maxRecDepth 100000

theorem endsL_eq (L : List Lk) : endsL L = endsY (waysL L) := by
 induction L with
 | nil => rfl
 | cons x L ih => simp only [endsL, endsY, waysL, List.flatMap_cons, List.map_append] at ih ⊢; rw [ih]; rfl
def lmsB (x : Lk) : Bool := msB x.ab && (msB x.ba && (x.up || decide (x.ab.length + x.ba.length = 0)))
def fsB (F : Fb) : Bool := inB F.nodes.length 1 8 && (decide (F.links.length ≤ 12) && (inB F.width 1 4 && (lendB F.nodes.length F.links && ((F.nodes.all fun x => ndB x) && F.links.all fun x => lmsB x))))
theorem link_way (n : Nat) (x : Lk) : (wayB n ⟨x.a, x.ai, x.b, x.bi, x.up, x.ab⟩ = true ∧ wayB n ⟨x.b, x.bi, x.a, x.ai, x.up, x.ba⟩ = true) ↔ (linkB n x = true ∧ lmsB x = true) := by
 unfold wayB endB trB linkB lmsB msB inB; simp only [Bool.and_eq_true, Bool.or_eq_true, decide_eq_true_iff, bne_iff_ne]
 constructor
 ·rintro ⟨⟨⟨⟨⟨a1, a2⟩, a3, a4⟩, a5⟩, ⟨a6, a7⟩, a8⟩, ⟨⟨⟨b1, b2⟩, b3, b4⟩, b5⟩, ⟨b6, b7⟩, b8⟩
  refine ⟨⟨⟨a1, by omega, b1, by omega, a5⟩, ⟨a3, a4⟩, b3, b4⟩, ⟨a7, a6⟩, ⟨b7, b6⟩, ?_⟩
  rcases a8 with a8 | a8
  ·exact .inl a8
  ·rcases b8 with b8 | b8
   ·exact .inl b8
   ·exact .inr (by omega)
 ·rintro ⟨⟨⟨a1, a2, a3, a4, a5⟩, ⟨a6, a7⟩, a8, a9⟩, ⟨b1, b2⟩, ⟨b3, b4⟩, b5⟩
  refine ⟨⟨⟨⟨⟨a1, by omega⟩, a6, a7⟩, a5⟩, ⟨b2, b1⟩, ?_⟩, ⟨⟨⟨a3, by omega⟩, a8, a9⟩, Ne.symm a5⟩, ⟨b4, b3⟩, ?_⟩
  ·rcases b5 with b5 | b5
   ·exact .inl b5
   ·exact .inr (by omega)
  ·rcases b5 with b5 | b5
   ·exact .inl b5
   ·exact .inr (by omega)
theorem ways_all (n : Nat) (L : List Lk) : (∀ y ∈ waysL L, wayB n y = true) ↔ ∀ x ∈ L, linkB n x = true ∧ lmsB x = true := by
 constructor
 ·intro h x hx
  exact (link_way n x).1 ⟨h _ (List.mem_flatMap.2 ⟨x, hx, by simp [waysOf]⟩), h _ (List.mem_flatMap.2 ⟨x, hx, by simp [waysOf]⟩)⟩
 ·intro h y hy
  obtain ⟨x, hx, hy⟩ := List.mem_flatMap.1 hy; have := (link_way n x).2 (h x hx); simp only [waysOf, List.mem_cons, List.not_mem_nil, or_false] at hy
  rcases hy with rfl | rfl
  ·exact this.1
  ·exact this.2
theorem fsB_eq (F : Fb) : fsB F = fbB F := by
 rw [Bool.eq_iff_iff]; unfold fsB fbB lendB; simp only [Bool.and_eq_true, List.all_eq_true, decide_eq_true_iff, endsL_eq, ways_all]
 constructor
 ·rintro ⟨h1, h2, h3, ⟨h4, h5⟩, h6, h7⟩
  exact ⟨h1, h6, h3, h2, fun x hx => ⟨h4 x hx, h7 x hx⟩, h5⟩
 ·rintro ⟨h1, h6, h3, h2, h4, h5⟩
  exact ⟨h1, h2, h3, ⟨fun x hx => (h4 x hx).1, h5⟩, h6, fun x hx => (h4 x hx).2⟩
theorem smsgs_t {v : Value} {l : List Mg} {b : Bool} (w : World) (h : RdMS w v l) (hw : ∀ m ∈ l, wtM m ≤ 1048576) (H : Hid (msB l = b)) :
  Calls Tryz.prog 75 #[v] w fun e w' => e = .returned (.bool b) ∧ Below w.heap.size w w' := H.out ▸ smsgs_any v l w h hw
theorem sends_t (nv lv : Value) (F : Fb) {b : Bool} (w : World) (hN : RdNS w nv F.nodes) (h : RdLS w lv F.links) (hn8 : F.nodes.length ≤ 8) (H : Hid (lendB F.nodes.length F.links = b)) :
  Calls Tryz.prog 73 #[.agg #[nv, lv, .int .i64 F.width]] w fun e w' => e = .returned (.bool b) ∧ Below w.heap.size w w' := H.out ▸ sends_any nv lv F w hN h hn8
theorem wtS_mem {l : List Mg} {m : Mg} (h : m ∈ l) : wtM m ≤ wtMS l := by
 obtain ⟨i, hi, e⟩ := List.mem_iff_getElem.1 h; have := wtM_at hi
 rwa [List.getD_eq_getElem?_getD, List.getElem?_eq_getElem hi, show (some l[i]).getD m0 = l[i] from rfl, e] at this
theorem wtL_mem {l : List Lk} {m : Lk} (h : m ∈ l) : wtL m ≤ wtLS l := by
 obtain ⟨i, hi, e⟩ := List.mem_iff_getElem.1 h; have := wtL_at hi
 rwa [List.getD_eq_getElem?_getD, List.getElem?_eq_getElem hi, show (some l[i]).getD l0 = l[i] from rfl, e] at this
set_option maxHeartbeats 4000000 in
theorem sfok_any (nv lv : Value) (F : Fb) (w : World) (h : RdF w nv lv F) (hw : wtF F ≤ 1048576) :
  Calls Tryz.prog 32 #[.agg #[nv, lv, .int .i64 F.width]] w fun e w' => e = .returned (.bool (fsB F)) ∧ Below w.heap.size w w' := by
 have hm1 := h.1.1; have hm2 := h.2.1; obtain ⟨na, nx, rfl⟩ := h.1.len; obtain ⟨la, lx, rfl⟩ := h.2.len; obtain ⟨bF, B0, z⟩ := one w [.slice na F.nodes.length nx, .slice la F.links.length lx, .int .i64 F.width] 30; obtain ⟨hN, hL⟩ := h.keep B0; have HW := Lib.hid hw; clear z h hw; have f0 := bF.c 0 rfl; have f1 := bF.c 1 rfl; have f2 := bF.c 2 rfl; cases hA : inB (F.nodes.length : Int) 1 8
 ·rw [show fsB F = false by unfold fsB; rw [hA, Bool.false_and]]
  have hh : (F.nodes.length : Int) < 1 ∨ (8 : Int) < (F.nodes.length : Int) := by unfold inB at hA; simp at hA; omega
  clear hA; obtain ⟨n, hn⟩ : ∃ n, n = F.nodes.length := ⟨_, rfl⟩; rw [← hn] at hh f0 B0 ⊢; clear hn
  by_cases hx : (n : Int) < 1
  ·go_enter Tryz.func32, Tryz.ntmps32
   go_wp2
   go_ret
   exact ⟨rfl, B0⟩
  ·have hy : (8 : Int) < (n : Int) := by omega
   go_enter Tryz.func32, Tryz.ntmps32
   go_wp2
   go_ret
   exact ⟨rfl, B0⟩
 ·have hn8 : F.nodes.length ≤ 8 := by unfold inB at hA; simp at hA; omega
  have hn1 : ¬ (F.nodes.length : Int) < 1 := by unfold inB at hA; simp at hA; omega
  have hnb : ¬ (8 : Int) < (F.nodes.length : Int) := by omega
  by_cases hD : F.links.length ≤ 12
  ·have hly : ¬ (12 : Int) < (F.links.length : Int) := by omega
   cases hC : inB F.width 1 4
   ·rw [show fsB F = false by unfold fsB; rw [hC, Bool.false_and, Bool.and_false, Bool.and_false]]
    have hh : F.width < 1 ∨ 4 < F.width := by unfold inB at hC; simp at hC; omega
    clear hA hC
    by_cases hx : F.width < 1
    ·go_enter Tryz.func32, Tryz.ntmps32
     go_wp2
     go_ret
     exact ⟨rfl, B0⟩
    ·have hy : 4 < F.width := by omega
     go_enter Tryz.func32, Tryz.ntmps32
     go_wp2
     go_ret
     exact ⟨rfl, B0⟩
   ·have hw1 : ¬ F.width < 1 := by unfold inB at hC; simp at hC; omega
    have hw4 : ¬ 4 < F.width := by unfold inB at hC; simp at hC; omega
    cases hE : lendB F.nodes.length F.links
    ·rw [show fsB F = false by unfold fsB; rw [hE, Bool.false_and, Bool.and_false, Bool.and_false, Bool.and_false]]
     have HE := Lib.hid hE; clear hA hC hE hD
     go_enter Tryz.func32, Tryz.ntmps32
     go_wp2_with fail; refine (sends_t _ _ F _ hN hL hn8 HE).mono ?_; rintro e w1 ⟨rfl, hb⟩; replace B0 := below_step B0 hb; go_wp2
     go_ret
     exact ⟨rfl, B0⟩
    ·have e0 : fsB F = ((F.nodes.all fun x => ndB x) && F.links.all fun x => lmsB x) := by unfold fsB; rw [hA, hC, hE, decide_eq_true hD]; simp
     rw [e0]; have HE := Lib.hid hE; clear hA hC hE hD e0
     go_enter Tryz.func32, Tryz.ntmps32
     go_wp2_with fail; refine (sends_t _ _ F _ hN hL hn8 HE).mono ?_; rintro e W1 ⟨rfl, hb⟩; replace B0 := below_step B0 hb; replace bF := bF.keep hb; replace hN := hN.keep hb; replace hL := hL.keep hb; obtain ⟨na, nx, hnv⟩ := hN.el; obtain ⟨hnv, hcn⟩ := hnv; obtain ⟨la, lx, hlv⟩ := hL.el; obtain ⟨hlv, hcl⟩ := hlv; simp only [Value.slice.injEq, true_and] at hnv hlv; obtain ⟨rfl, rfl⟩ := hnv; obtain ⟨rfl, rfl⟩ := hlv; obtain ⟨n, hn⟩ : ∃ n, n = F.nodes.length := ⟨_, rfl⟩; obtain ⟨m, hm⟩ : ∃ m, m = F.links.length := ⟨_, rfl⟩; rw [← hn] at bF hcn hm1; rw [← hm] at bF hcl hm2
     try rw [← hn]
     try rw [← hm]
     have HN := Lib.hid hn; have HM := Lib.hid hm; clear hb hn hm hN hL f0 f1 f2 HE hn8 hn1 hnb hly hw1 hw4; go_wp2
     go_loopw [3] (fun q wr => ∃ j : Nat, j ≤ n ∧ q = .int .i64 j ∧ (∀ i, i < j → ndB (F.nodes.getD i n0) = true) ∧ Over W1 wr) (fun q _ => n - (intOf q).toNat)
     case atStart => exact ⟨0, Nat.zero_le _, rfl, fun i hi => by omega, over_refl _⟩
     case round =>
      obtain ⟨j, hj, rfl, hyes, hB⟩ := hrel; have HY := Lib.hid hyes; clear hyes; have f0 := (bF.keep hB).c 0 rfl
      by_cases hlt : j < n
      ·have hltI : (j : Int) < (n : Int) := by omega
       obtain ⟨b, o, rfl, hE⟩ := hcn j hlt; obtain ⟨x, hx⟩ : ∃ x, F.nodes.getD j n0 = x := ⟨_, rfl⟩; rw [hx] at hE; obtain ⟨ov, rv, sv, hr, g0, g1, g2, g3, g4, g5⟩ := hE.keep hB
       have HXM : Hid (x ∈ F.nodes) := Lib.hid (by
        rw [← hx, List.getD_eq_getElem?_getD, List.getElem?_eq_getElem (by rw [← HN.out]; exact hlt)]
        exact List.getElem_mem _)
       have HX := Lib.hid hx; have HC := Lib.hid hcn; have HC2 := Lib.hid hcl; clear hx hcn hE hcl; cases hk : ndB x
       ·have hno : (F.nodes.all fun x => ndB x) = false := List.all_eq_false.2 ⟨x, HXM.out, by rw [hk]; simp⟩
        have HNO := Lib.hid hno; have HK := Lib.hid hk; clear hno hk; go_wp2_with fail; refine (sndok_t _ hr HK).mono ?_; rintro e w1 ⟨rfl, hb1⟩; go_wp2
        go_ret
        exact ⟨ret_bool (by rw [HNO.out]; rfl), below_step B0 (over_step hB hb1)⟩
       ·have HK := Lib.hid hk
        clear hk; go_wp2_with fail; refine (sndok_t _ hr HK).mono ?_; rintro e w1 ⟨rfl, hb1⟩; go_wp2
        go_roundw
        case rel =>
         refine ⟨j + 1, by omega, by go_num, fun i hi => ?_, over_step hB hb1⟩
         by_cases hij : i = j
         ·subst hij; rw [HX.out]; exact HK.out
         ·exact HY.out i (by omega)
        case measure => simp [intOf]; omega
      ·have hkn : j = n := by omega
       subst hkn
       have e1 : (F.nodes.all fun x => ndB x) = true := List.all_eq_true.2 fun x hx => by
        obtain ⟨i, hi, e⟩ := List.mem_iff_getElem.1 hx; have := HY.out i (by rw [HN.out]; exact hi); rw [List.getD_eq_getElem?_getD, List.getElem?_eq_getElem hi] at this; rw [← e]
        exact this
       have HE1 := Lib.hid e1; replace bF := bF.keep hB
       have hcl2 : ∀ i, i < m → ∃ b o, la = some ⟨b, o, none⟩ ∧ AtL wr b (o + i * 7) (F.links.getD i l0) := fun i hi => by
        obtain ⟨b, o, e, h⟩ := hcl i hi
        exact ⟨b, o, e, h.keep hB⟩
       replace B0 := below_step B0 hB; obtain ⟨W2, rfl⟩ : ∃ x : World, x = wr := ⟨_, rfl⟩; clear e1 hcn hcl hB HY hj hlt; go_wp2; clear f0
       go_loopw [4] (fun q wr => ∃ j : Nat, j ≤ m ∧ q = .int .i64 j ∧ (∀ i, i < j → lmsB (F.links.getD i l0) = true) ∧ Over W2 wr) (fun q _ => m - (intOf q).toNat)
       case atStart => exact ⟨0, Nat.zero_le _, rfl, fun i hi => by omega, over_refl _⟩
       case round =>
        obtain ⟨i, hi, rfl, hyes, hB⟩ := hrel; have HY := Lib.hid hyes; clear hyes; have f1 := (bF.keep hB).c 1 rfl
        by_cases hlt : i < m
        ·have hltI : (i : Int) < (m : Int) := by omega
         obtain ⟨b, o, rfl, hE⟩ := hcl2 i hlt; obtain ⟨x, hx⟩ : ∃ x, F.links.getD i l0 = x := ⟨_, rfl⟩; rw [hx] at hE; obtain ⟨sv, tv, hr, k0, k1, k2, k3, k4, k5, k6⟩ := hE.keep hB; obtain ⟨av, ax, rfl⟩ := hr.1.len; obtain ⟨bv, bx, rfl⟩ := hr.2.len
         have HXM : Hid (x ∈ F.links) := Lib.hid (by
          rw [← hx, List.getD_eq_getElem?_getD, List.getElem?_eq_getElem (by rw [← HM.out]; exact hlt)]
          exact List.getElem_mem _)
         have hwx := wtL_mem HXM.out
         have HWA : Hid ((∀ m ∈ x.ab, wtM m ≤ 1048576) ∧ ∀ m ∈ x.ba, wtM m ≤ 1048576) := Lib.hid (by
          have hw := HW.out; unfold wtF at hw; unfold wtL at hwx
          exact ⟨fun m hm => by have := wtS_mem hm; omega, fun m hm => by have := wtS_mem hm; omega⟩)
         have no : lmsB x = false → ((F.nodes.all fun x => ndB x) && F.links.all fun x => lmsB x) = false := fun q => by
          rw [show (F.links.all fun x => lmsB x) = false from List.all_eq_false.2 ⟨x, HXM.out, by rw [q]; simp⟩, Bool.and_false]
         have NO := Lib.hid no; have HX := Lib.hid hx; have HC := Lib.hid hcl2; have A1 : Below wr.heap.size wr (wr.alloc (.cells #[.int .i64 x.a, .int .i64 x.ai, .int .i64 x.b, .int .i64 x.bi, .bool x.up, .slice av x.ab.length ax, .slice bv x.ba.length bx] 70)) := (Below.refl _ _).alloc (Nat.le_refl _) _; have bP := Bl.new wr [.int .i64 x.a, .int .i64 x.ai, .int .i64 x.b, .int .i64 x.bi, .bool x.up, .slice av x.ab.length ax, .slice bv x.ba.length bx] 70 wr.heap.size rfl; have hr1 := hr.keep A1; have p4 := bP.c 4 rfl; have p5 := bP.c 5 rfl; have p6 := bP.c 6 rfl; clear hx hcl2 hE hr no hwx; cases hma : msB x.ab
         ·have hnn : lmsB x = false := by unfold lmsB; rw [hma, Bool.false_and]
          have HN2 := Lib.hid hnn; have HMA := Lib.hid hma; clear hnn hma; go_wp2_with fail; refine (smsgs_t _ hr1.1 HWA.out.1 HMA).mono ?_; rintro e w1 ⟨rfl, hb1⟩; have bP1 := bP.keep hb1; have hr2 := hr1.keep hb1; have hB1 := below_step (below_step B0 (over_step hB A1)) hb1; have hO1 := over_step (over_step hB A1) hb1; clear p4 p5 p6; have p4 := bP1.c 4 rfl; have p5 := bP1.c 5 rfl; have p6 := bP1.c 6 rfl; go_wp2
          go_ret
          exact ⟨ret_bool (NO.out HN2.out).symm, hB1⟩
         ·have HMA := Lib.hid hma
          cases hmb : msB x.ba
          ·have hnn : lmsB x = false := by unfold lmsB; rw [hmb, Bool.false_and, Bool.and_false]
           have HN2 := Lib.hid hnn; have HMB := Lib.hid hmb; clear hnn hma hmb; go_wp2_with fail; refine (smsgs_t _ hr1.1 HWA.out.1 HMA).mono ?_; rintro e w1 ⟨rfl, hb1⟩; have bP1 := bP.keep hb1; have hr2 := hr1.keep hb1; have hB1 := below_step (below_step B0 (over_step hB A1)) hb1; have hO1 := over_step (over_step hB A1) hb1; clear p4 p5 p6; have p4 := bP1.c 4 rfl; have p5 := bP1.c 5 rfl; have p6 := bP1.c 6 rfl; go_wp2_with fail; refine (smsgs_t _ hr2.2 HWA.out.2 HMB).mono ?_; rintro e w2 ⟨rfl, hb2⟩; have bP2 := bP1.keep hb2; have hB2 := below_step hB1 hb2; have hO2 := over_step hO1 hb2; clear p4 p5 p6; have p4 := bP2.c 4 rfl; have p5 := bP2.c 5 rfl; have p6 := bP2.c 6 rfl; go_wp2
           go_ret
           exact ⟨ret_bool (NO.out HN2.out).symm, hB2⟩
          ·have HMB := Lib.hid hmb
           have hla : x.ab.length ≤ 500 := by unfold msB at hma; simp at hma; exact hma.2
           have hlb : x.ba.length ≤ 500 := by unfold msB at hmb; simp at hmb; exact hmb.2
           have hwr : IntKind.i64.wrap ((x.ab.length : Int) + (x.ba.length : Int)) = (x.ab.length : Int) + (x.ba.length : Int) := wrap64_in _ (by omega) (by omega); cases hup : x.up
           ·rw [hup] at bP A1 hr1 p4 p5 p6 k4
            by_cases hz : x.ab.length + x.ba.length = 0
            ·have hnn : lmsB x = true := by unfold lmsB; rw [hma, hmb, decide_eq_true hz]; simp
             have hzi : ¬ 0 < (x.ab.length : Int) + (x.ba.length : Int) := by omega
             have HN2 := Lib.hid hnn; have HUP := Lib.hid hup; have HZ := Lib.hid hz; clear hnn hma hmb hla hlb hup hz; go_wp2_with fail; refine (smsgs_t _ hr1.1 HWA.out.1 HMA).mono ?_; rintro e w1 ⟨rfl, hb1⟩; have bP1 := bP.keep hb1; have hr2 := hr1.keep hb1; have hB1 := below_step (below_step B0 (over_step hB A1)) hb1; have hO1 := over_step (over_step hB A1) hb1; clear p4 p5 p6; have p4 := bP1.c 4 rfl; have p5 := bP1.c 5 rfl; have p6 := bP1.c 6 rfl; go_wp2_with fail; refine (smsgs_t _ hr2.2 HWA.out.2 HMB).mono ?_; rintro e w2 ⟨rfl, hb2⟩; have bP2 := bP1.keep hb2; have hB2 := below_step hB1 hb2; have hO2 := over_step hO1 hb2; clear p4 p5 p6; have p4 := bP2.c 4 rfl; have p5 := bP2.c 5 rfl; have p6 := bP2.c 6 rfl; go_wp2
             go_roundw
             case rel =>
              refine ⟨i + 1, by omega, by go_num, fun q hq => ?_, hO2⟩
              by_cases hij : q = i
              ·subst hij; rw [HX.out]; exact HN2.out
              ·exact HY.out q (by omega)
             case measure => simp [intOf]; omega
            ·have hnn : lmsB x = false := by unfold lmsB; rw [hma, hmb, hup, decide_eq_false hz]; rfl
             have hzi : 0 < (x.ab.length : Int) + (x.ba.length : Int) := by omega
             have HN2 := Lib.hid hnn; have HUP := Lib.hid hup; have HZ := Lib.hid hz; clear hnn hma hmb hla hlb hup hz; go_wp2_with fail; refine (smsgs_t _ hr1.1 HWA.out.1 HMA).mono ?_; rintro e w1 ⟨rfl, hb1⟩; have bP1 := bP.keep hb1; have hr2 := hr1.keep hb1; have hB1 := below_step (below_step B0 (over_step hB A1)) hb1; have hO1 := over_step (over_step hB A1) hb1; clear p4 p5 p6; have p4 := bP1.c 4 rfl; have p5 := bP1.c 5 rfl; have p6 := bP1.c 6 rfl; go_wp2_with fail; refine (smsgs_t _ hr2.2 HWA.out.2 HMB).mono ?_; rintro e w2 ⟨rfl, hb2⟩; have bP2 := bP1.keep hb2; have hB2 := below_step hB1 hb2; have hO2 := over_step hO1 hb2; clear p4 p5 p6; have p4 := bP2.c 4 rfl; have p5 := bP2.c 5 rfl; have p6 := bP2.c 6 rfl; go_wp2
             go_ret
             exact ⟨ret_bool (NO.out HN2.out).symm, hB2⟩
           ·rw [hup] at bP A1 hr1 p4 p5 p6 k4
            have hnn : lmsB x = true := by unfold lmsB; rw [hma, hmb, hup]; rfl
            have HN2 := Lib.hid hnn; have HUP := Lib.hid hup; clear hnn hma hmb hla hlb hup; go_wp2_with fail; refine (smsgs_t _ hr1.1 HWA.out.1 HMA).mono ?_; rintro e w1 ⟨rfl, hb1⟩; have bP1 := bP.keep hb1; have hr2 := hr1.keep hb1; have hB1 := below_step (below_step B0 (over_step hB A1)) hb1; have hO1 := over_step (over_step hB A1) hb1; clear p4 p5 p6; have p4 := bP1.c 4 rfl; have p5 := bP1.c 5 rfl; have p6 := bP1.c 6 rfl; go_wp2_with fail; refine (smsgs_t _ hr2.2 HWA.out.2 HMB).mono ?_; rintro e w2 ⟨rfl, hb2⟩; have bP2 := bP1.keep hb2; have hB2 := below_step hB1 hb2; have hO2 := over_step hO1 hb2; clear p4 p5 p6; have p4 := bP2.c 4 rfl; have p5 := bP2.c 5 rfl; have p6 := bP2.c 6 rfl; go_wp2
            go_roundw
            case rel =>
             refine ⟨i + 1, by omega, by go_num, fun q hq => ?_, hO2⟩
             by_cases hij : q = i
             ·subst hij; rw [HX.out]; exact HN2.out
             ·exact HY.out q (by omega)
            case measure => simp [intOf]; omega
        ·have hkn : i = m := by omega
         subst hkn
         have e1 : (F.links.all fun x => lmsB x) = true := List.all_eq_true.2 fun x hx => by
          obtain ⟨q, hq, e⟩ := List.mem_iff_getElem.1 hx; have := HY.out q (by rw [HM.out]; exact hq); rw [List.getD_eq_getElem?_getD, List.getElem?_eq_getElem hq] at this; rw [← e]
          exact this
         have HE2 := Lib.hid e1; clear e1 hcl2; go_wp2
         go_ret
         exact ⟨ret_bool (by rw [HE1.out, HE2.out]; rfl), below_step B0 hB⟩
  ·rw [show fsB F = false by unfold fsB; rw [decide_eq_false hD, Bool.false_and, Bool.and_false]]
   have hy : (12 : Int) < (F.links.length : Int) := by omega
   clear hA hD
   go_enter Tryz.func32, Tryz.ntmps32
   go_wp2
   go_ret
   exact ⟨rfl, B0⟩

end Go.Proofs.YtkodnipmogdgkaaGreat
namespace Go.Proofs.YtkodnipmogdgkaaGreat
open Go.ChangeShapes Go.WideShapes Go.ChangeAt Go.RowKit Go.BigFrame Go.Joins
set_option linter.unusedVariables false
set_option maxRecDepth 100000
set_option linter.unusedSimpArgs false
set_option maxRecDepth 100000

def fb0 : Fb := ⟨[], [], 0⟩
theorem owF0 (w : World) (S : Nat → Prop) : OwF w S (.slice none 0 0) (.slice none 0 0) fb0 := ⟨fun _ => False, fun _ => False, fun _ q => q.elim, fun _ q => q.elim, fun _ q _ => q.elim, ⟨by simp [fb0], .inl ⟨rfl, rfl⟩⟩, ⟨by simp [fb0], .inl ⟨rfl, rfl⟩⟩⟩
end Go.Proofs.YtkodnipmogdgkaaGreat
namespace Go.Proofs.YtkodnipmogdgkaaGreat
open Go.ChangeShapes Go.WideShapes Go.ChangeAt Go.RowKit Go.BigFrame Go.Joins
set_option linter.unusedVariables false
set_option maxRecDepth 100000
set_option linter.unusedSimpArgs false
set_option maxRecDepth 100000

theorem OwNS.put {w w' : World} {S S' : Nat → Prop} {g cap j : Nat} {xs xs' : List Value} {E : Nat → Nat → Prop} {L : List Nd} {x' : Nd} (hl : L.length ≤ 1048576) (h1 : S g) (hB : Bl w' g xs') (hx : xs'.length = L.length * 6)
  (hE : ∀ i, i < L.length → (∀ b, E i b → S b) ∧ ¬ E i g ∧ ElN xs w (E i) i (L.getD i n0)) (hd : ∀ i j, i < L.length → j < L.length → i ≠ j → Dj (E i) (E j)) (hj : j < L.length)
  (hsame : ∀ i, i < L.length → i ≠ j → ∀ f, f < 6 → xs'[i * 6 + f]? = xs[i * 6 + f]?) (ha : ∀ i, i < L.length → AgrS (E i) w w') (hS : Dj S S') (hn : ElN xs' w' S' j x') : OwNS w' (fun b => S b ∨ S' b) (.slice (some ⟨g, 0, none⟩) L.length cap) (L.set j x') := by
 refine ⟨by rw [List.length_set]; exact hl, .inr ⟨g, cap, xs', fun i => if i = j then S' else E i, by rw [List.length_set], .inl h1, hB, by rw [List.length_set]; exact hx, fun i hi => ?_, fun i i' hi hi' hij => ?_⟩⟩
 ·rw [List.length_set] at hi
  dsimp only
  by_cases e : i = j
  ·subst e
   rw [if_pos rfl, show (L.set i x').getD i n0 = x' by simp [List.getD, hi]]
   exact ⟨fun b q => .inr q, fun q => hS g h1 q, hn⟩
  ·rw [if_neg e, show (L.set j x').getD i n0 = L.getD i n0 by simp [List.getD, List.getElem?_set, Ne.symm e]]
   obtain ⟨e1, e2, ov, rv, sv, ho, f0, f1, f2, f3, f4, f5⟩ := hE i hi; refine ⟨fun b q => .inl (e1 b q), e2, ov, rv, sv, ho.agr (ha i hi), ?_, ?_, ?_, ?_, ?_, ?_⟩
   ·rw [show i * 6 = i * 6 + 0 from rfl, hsame i hi e 0 (by omega)]; exact f0
   ·rw [hsame i hi e 1 (by omega)]; exact f1
   ·rw [hsame i hi e 2 (by omega)]; exact f2
   ·rw [hsame i hi e 3 (by omega)]; exact f3
   ·rw [hsame i hi e 4 (by omega)]; exact f4
   ·rw [hsame i hi e 5 (by omega)]; exact f5
 ·rw [List.length_set] at hi hi'
  dsimp only
  by_cases e : i = j
  ·rw [if_pos e, if_neg (by omega)]
   exact fun b q r => hS b ((hE i' hi').1 b r) q
  ·by_cases e' : i' = j
   ·rw [if_neg e, if_pos e']
    exact fun b q r => hS b ((hE i hi).1 b q) r
   ·rw [if_neg e, if_neg e']
    exact hd i i' hi hi' hij
end Go.Proofs.YtkodnipmogdgkaaGreat
namespace Go.Proofs.YtkodnipmogdgkaaGreat
open Go.ChangeShapes Go.WideShapes Go.ChangeAt Go.RowKit Go.BigFrame Go.Joins
set_option linter.unusedVariables false
set_option maxRecDepth 100000
set_option linter.unusedSimpArgs false
set_option maxRecDepth 100000

end Go.Proofs.YtkodnipmogdgkaaGreat
namespace Go.Proofs.YtkodnipmogdgkaaGreat
open Go.ChangeShapes Go.WideShapes Go.ChangeAt Go.RowKit Go.BigFrame Go.Joins
set_option linter.unusedVariables false
set_option maxRecDepth 100000
set_option linter.unusedSimpArgs false
set_option maxRecDepth 100000

end Go.Proofs.YtkodnipmogdgkaaGreat
namespace Go.Proofs.YtkodnipmogdgkaaGreat
open Go.ChangeShapes Go.WideShapes Go.ChangeAt Go.RowKit Go.BigFrame Go.Joins
set_option linter.unusedVariables false
set_option maxRecDepth 100000
set_option linter.unusedSimpArgs false
set_option maxRecDepth 100000

/-- the switches in block g, read as long as nothing but g turns -/
def PN (w : World) (g : Nat) (xs : List Value) (L : List Nd) : Prop := Bl w g xs ∧ xs.length = L.length * 6 ∧ ∀ i, i < L.length → ∃ ov rv sv, (∀ w2, AgrS (fun b => b ≠ g) w w2 → RdN w2 ov rv sv (L.getD i n0)) ∧ xs[i * 6]? = some (.int .i64 (L.getD i n0).an) ∧ xs[i * 6 + 1]? = some (ov) ∧ xs[i * 6 + 2]? = some (.int .i64 (L.getD i n0).bw) ∧ xs[i * 6 + 3]? = some (.bool (L.getD i n0).dr) ∧ xs[i * 6 + 4]? = some (rv) ∧ xs[i * 6 + 5]? = some (sv)
theorem PN.agr {w w' : World} {g : Nat} {xs : List Value} {L : List Nd} (h : PN w g xs L) (hb : Bl w' g xs) (a : AgrS (fun b => b ≠ g) w w') : PN w' g xs L := by
 refine ⟨hb, h.2.1, fun i hi => ?_⟩; obtain ⟨ov, rv, sv, hr, f⟩ := h.2.2 i hi
 exact ⟨ov, rv, sv, fun w2 a2 => hr w2 (a.trans a2), f⟩
theorem PN.keep {w w' : World} {g : Nat} {xs : List Value} {L : List Nd} (h : PN w g xs L) (b : Below w.heap.size w w') : PN w' g xs L := h.agr (h.1.keep b) (.of_below b)
theorem PN.rd {w : World} {g cap : Nat} {xs : List Value} {L : List Nd} (h : PN w g xs L) (hl : L.length ≤ 1048576) : RdNS w (.slice (some ⟨g, 0, none⟩) L.length cap) L := by
 refine ⟨by omega, ?_⟩
 by_cases h0 : L.length = 0
 ·exact .inl ⟨some ⟨g, 0, none⟩, cap, by rw [h0], List.eq_nil_of_length_eq_zero h0, fun h => by cases h⟩
 ·refine .inr ⟨g, 0, cap, rfl, by omega, fun i hi => ?_⟩
  obtain ⟨ov, rv, sv, hr, f0, f1, f2, f3, f4, f5⟩ := h.2.2 i hi; refine ⟨ov, rv, sv, hr w ⟨Nat.le_refl _, fun _ _ _ => rfl⟩, ?_⟩; simp only [Nat.zero_add]
  exact ⟨h.1.c _ f0, h.1.c _ f1, h.1.c _ f2, h.1.c _ f3, h.1.c _ f4, h.1.c _ f5⟩
theorem PN.put {w w' : World} {g k : Nat} {xs xs' : List Value} {L : List Nd} {ov rv sv : Value} {x : Nd} (h : PN w g xs L) (a : AgrS (fun b => b ≠ g) w w') (hB : Bl w' g xs') (hx : xs'.length = L.length * 6) (hk : k < L.length)
  (hr : ∀ w2, AgrS (fun b => b ≠ g) w' w2 → RdN w2 ov rv sv x)
  (hsame : ∀ i, i < L.length → i ≠ k → ∀ f, f < 6 → xs'[i * 6 + f]? = xs[i * 6 + f]?)
  (f : xs'[k * 6]? = some (.int .i64 x.an) ∧ xs'[k * 6 + 1]? = some (ov) ∧ xs'[k * 6 + 2]? = some (.int .i64 x.bw) ∧ xs'[k * 6 + 3]? = some (.bool x.dr) ∧ xs'[k * 6 + 4]? = some (rv) ∧ xs'[k * 6 + 5]? = some (sv)) : PN w' g xs' (L.set k x) := by
 refine ⟨hB, by rw [List.length_set]; exact hx, fun i hi => ?_⟩; rw [List.length_set] at hi
 by_cases e : i = k
 ·subst e
  rw [show (L.set i x).getD i n0 = x by simp [List.getD, hi]]
  exact ⟨ov, rv, sv, hr, f⟩
 ·rw [show (L.set k x).getD i n0 = L.getD i n0 by simp [List.getD, List.getElem?_set, Ne.symm e]]
  obtain ⟨ov, rv, sv, hr, f0, f1, f2, f3, f4, f5⟩ := h.2.2 i hi; refine ⟨ov, rv, sv, fun w2 a2 => hr w2 (a.trans a2), ?_, ?_, ?_, ?_, ?_, ?_⟩
  ·rw [show i * 6 = i * 6 + 0 from rfl, hsame i hi e 0 (by omega)]; exact f0
  ·rw [hsame i hi e 1 (by omega)]; exact f1
  ·rw [hsame i hi e 2 (by omega)]; exact f2
  ·rw [hsame i hi e 3 (by omega)]; exact f3
  ·rw [hsame i hi e 4 (by omega)]; exact f4
  ·rw [hsame i hi e 5 (by omega)]; exact f5
/-- element j of the links is another now, its rows lie where they lay -/
theorem OwLS.put {w w' : World} {S : Nat → Prop} {g cap j : Nat} {xs xs' : List Value} {E : Nat → Nat → Prop} {L : List Lk} {x' : Lk} (hl : L.length ≤ 1048576) (h1 : S g) (hB : Bl w' g xs') (hx : xs'.length = L.length * 7)
  (hE : ∀ i, i < L.length → (∀ b, E i b → S b) ∧ ¬ E i g ∧ ElL xs w (E i) i (L.getD i l0)) (hd : ∀ i j, i < L.length → j < L.length → i ≠ j → Dj (E i) (E j)) (hj : j < L.length)
  (hsame : ∀ i, i < L.length → i ≠ j → ∀ f, f < 7 → xs'[i * 7 + f]? = xs[i * 7 + f]?) (ha : ∀ i, i < L.length → AgrS (E i) w w') (hn : ElL xs' w' (E j) j x') : OwLS w' S (.slice (some ⟨g, 0, none⟩) L.length cap) (L.set j x') := by
 refine ⟨by rw [List.length_set]; exact hl, .inr ⟨g, cap, xs', E, by rw [List.length_set], h1, hB, by rw [List.length_set]; exact hx, fun i hi => ?_, fun i j hi hj' hij => hd i j (by rwa [List.length_set] at hi) (by rwa [List.length_set] at hj') hij⟩⟩; rw [List.length_set] at hi; obtain ⟨e1, e2, e5⟩ := hE i hi; refine ⟨e1, e2, ?_⟩
 by_cases e : i = j
 ·subst e
  rw [show (L.set i x').getD i l0 = x' by simp [List.getD, hi]]
  exact hn
 ·rw [show (L.set j x').getD i l0 = L.getD i l0 by simp [List.getD, List.getElem?_set, Ne.symm e]]
  obtain ⟨av, bv, ho, f0, f1, f2, f3, f4, f5, f6⟩ := e5; refine ⟨av, bv, ho.agr (ha i hi), ?_, ?_, ?_, ?_, ?_, ?_, ?_⟩
  ·rw [show i * 7 = i * 7 + 0 from rfl, hsame i hi e 0 (by omega)]; exact f0
  ·rw [hsame i hi e 1 (by omega)]; exact f1
  ·rw [hsame i hi e 2 (by omega)]; exact f2
  ·rw [hsame i hi e 3 (by omega)]; exact f3
  ·rw [hsame i hi e 4 (by omega)]; exact f4
  ·rw [hsame i hi e 5 (by omega)]; exact f5
  ·rw [hsame i hi e 6 (by omega)]; exact f6
end Go.Proofs.YtkodnipmogdgkaaGreat
namespace Go.Proofs.YtkodnipmogdgkaaGreat
open Go.ChangeShapes Go.WideShapes Go.ChangeAt Go.RowKit Go.BigFrame Go.Joins
set_option linter.unusedVariables false
set_option maxRecDepth 100000
set_option linter.unusedSimpArgs false
set_option maxRecDepth 100000

theorem owMS0 (w : World) (S : Nat → Prop) : OwMS w S (.slice none 0 0) [] := ⟨by simp, .inl ⟨rfl, rfl⟩⟩
end Go.Proofs.YtkodnipmogdgkaaGreat
namespace Go.Proofs.YtkodnipmogdgkaaGreat
open Go.ChangeShapes Go.WideShapes Go.ChangeAt Go.RowKit Go.BigFrame Go.Joins
open List (setIfInBounds_toArray set_cons_succ set_cons_zero)
set_option linter.unusedVariables false
set_option maxRecDepth 100000
set_option linter.unusedSimpArgs false
set_option maxRecDepth 100000

def bump (N : List Int) (a : Nat) : List Int := N.set a (N.getD a 0 + 1)
def prA (x : Pr) : Nat := (x.l.getD 0 0).toNat
def prB (x : Pr) : Nat := (x.l.getD 1 0).toNat
/-- a pair of two switches -/
def prOk (n : Nat) (x : Pr) : Bool := decide (x.l.length = 2) && (inB (x.l.getD 0 0) 0 ((n : Int) - 1) && inB (x.l.getD 1 0) 0 ((n : Int) - 1))
/-- the next interfaces behind k pairs -/
def nextL (n : Nat) (L : List Pr) : Nat → List Int
 | 0 => List.replicate n 0
 | k + 1 => bump (bump (nextL n L k) (prA (L.getD k u0))) (prB (L.getD k u0))
def lnkAt (n : Nat) (L : List Pr) (k : Nat) : Lk := ⟨prA (L.getD k u0), (nextL n L k).getD (prA (L.getD k u0)) 0, prB (L.getD k u0), (nextL n L k).getD (prB (L.getD k u0)) 0, true, [], []⟩
def lnks (n : Nat) (L : List Pr) : Nat → List Lk
 | 0 => []
 | k + 1 => lnks n L k ++ [lnkAt n L k]
theorem lnks_len (n : Nat) (L : List Pr) : ∀ k, (lnks n L k).length = k
 | 0 => rfl
 | k + 1 => by simp [lnks, lnks_len n L k]
theorem bump_len (N : List Int) (a : Nat) : (bump N a).length = N.length := by simp [bump]
theorem nextL_len (n : Nat) (L : List Pr) : ∀ k, (nextL n L k).length = n
 | 0 => by simp [nextL]
 | k + 1 => by simp only [nextL, bump_len]; exact nextL_len n L k
theorem bump_bd {N : List Int} {a : Nat} {q : Int} (h : ∀ i, 0 ≤ N.getD i 0 ∧ N.getD i 0 ≤ q) : ∀ i, 0 ≤ (bump N a).getD i 0 ∧ (bump N a).getD i 0 ≤ q + 1 := by
 intro i; have h1 := h i; have h2 := h a; unfold bump
 by_cases e : i = a
 ·subst e
  by_cases hl : i < N.length
  ·rw [show (N.set i (N.getD i 0 + 1)).getD i 0 = N.getD i 0 + 1 by simp [List.getD, hl]]
   omega
  ·rw [show (N.set i (N.getD i 0 + 1)).getD i 0 = 0 by simp [List.getD, hl]]
   omega
 ·rw [show (N.set a (N.getD a 0 + 1)).getD i 0 = N.getD i 0 by simp [List.getD, List.getElem?_set, Ne.symm e]]
  omega
theorem nextL_bd2 (n : Nat) (L : List Pr) : ∀ (k : Nat) (i : Nat), 0 ≤ (nextL n L k).getD i 0 ∧ (nextL n L k).getD i 0 ≤ 2 * (k : Int)
 | 0, i => by
  have e : (nextL n L 0).getD i 0 = 0 := by simp [nextL, List.getD, List.getElem?_replicate]; split <;> rfl
  rw [e]
  omega
 | k + 1, i => by
  have h := bump_bd (a := prB (L.getD k u0)) (bump_bd (a := prA (L.getD k u0)) (nextL_bd2 n L k)) i; simp only [nextL]
  omega
theorem nextL_succ {n k a c : Nat} {L : List Pr} {x : Pr} (hx : L.getD k u0 = x) (ha : x.l.getD 0 0 = a) (hc : x.l.getD 1 0 = c) : nextL n L (k + 1) = bump (bump (nextL n L k) a) c := by
 simp only [nextL, hx, prA, prB, ha, hc, Int.toNat_natCast]
theorem lnkAt_eq {n k a c : Nat} {L : List Pr} {x : Pr} (hx : L.getD k u0 = x) (ha : x.l.getD 0 0 = a) (hc : x.l.getD 1 0 = c) : lnkAt n L k = ⟨a, (nextL n L k).getD a 0, c, (nextL n L k).getD c 0, true, [], []⟩ := by
 simp only [lnkAt, hx, prA, prB, ha, hc, Int.toNat_natCast]
theorem bump_same {N : List Int} {a : Nat} (h : a < N.length) : (bump (bump N a) a).map (Value.int .i64) = ((N.map (Value.int .i64)).set a (.int .i64 (N.getD a 0 + 1))).set a (.int .i64 (N.getD a 0 + 1 + 1)) := by
 have e : (N.set a (N.getD a 0 + 1)).getD a 0 = N.getD a 0 + 1 := by simp [List.getD, h]
 unfold bump; rw [e, List.map_set, List.map_set]
theorem bump_two {N : List Int} {a c : Nat} (h : ¬ a = c) : (bump (bump N a) c).map (Value.int .i64) = ((N.map (Value.int .i64)).set a (.int .i64 (N.getD a 0 + 1))).set c (.int .i64 (N.getD c 0 + 1)) := by
 have e : (N.set a (N.getD a 0 + 1)).getD c 0 = N.getD c 0 := by simp [List.getD, List.getElem?_set, h]
 unfold bump; rw [e, List.map_set, List.map_set]
theorem prOk_of {n : Nat} {x : Pr} (h : prOk n x = true) : x.l.length = 2 ∧ ∃ a c : Nat, x.l.getD 0 0 = a ∧ x.l.getD 1 0 = c ∧ a < n ∧ c < n := by
 unfold prOk inB at h; simp only [Bool.and_eq_true, decide_eq_true_eq] at h
 exact ⟨h.1, (x.l.getD 0 0).toNat, (x.l.getD 1 0).toNat, by omega, by omega, by omega, by omega⟩
theorem rdU_two {w : World} {jv : Value} {x : Pr} (h : RdU w jv x) (h2 : x.l.length = 2) : ∃ rb ro rc, jv = .slice (some ⟨rb, ro, none⟩) 2 rc ∧ w.cell? ⟨rb, ro, none⟩ = some (.int .i64 (x.l.getD 0 0)) ∧ w.cell? ⟨rb, ro + 1, none⟩ = some (.int .i64 (x.l.getD 1 0)) := by
 obtain ⟨-, -, ⟨a, c, rfl, e, -⟩ | ⟨b, o, c, rfl, hp, hcs⟩⟩ := h
 ·rw [e] at h2; simp at h2
 ·exact ⟨b, o, c, by rw [h2], hcs 0 (by omega), hcs 1 (by omega)⟩
theorem infoInt : (Tryz.prog.info? 3).map (fun i => (i.zero, i.size, i.bytes)) = some (some (.int .i64 0), 1, 8) := by kernel_rfl
theorem makeInts (n : Nat) (hn : n ≤ 1048576) (w : World) :
  (Instr.makeSlice 87 (.int .i64 (n : Int)) (.int .i64 (n : Int))).run Tryz.prog w = .ok (.slice (some ⟨w.heap.size, 0, none⟩) n n) (w.alloc (.cells (madeCells #[Value.int .i64 0] n) 3)) := by
 obtain ⟨i, hi, hzz⟩ := Option.map_eq_some_iff.1 infoInt; simp only [Prod.mk.injEq] at hzz; obtain ⟨hz, hs, hb⟩ := hzz; have hr := run_make (P := Tryz.prog) w 87 3 i _ Tryz.underlying87 hi hz .i64 .i64 n n (by omega) (Int.le_refl _) (by rw [hb]; omega) (by omega)
 simpa only [Int.toNat_natCast, hs, Value.cells, Nat.mul_one] using hr
set_option maxHeartbeats 4000000 in
theorem sl9new_any (na : Option Addr) (nc n : Nat) (uv : Value) (L : List Pr) (wd : Int) (w : World) (hn : n ≤ 1048576) (hm1 : L.length ≤ 1048576) (h : RdUS w uv L) (hok : ∀ i, i < L.length → prOk n (L.getD i u0) = true) :
  Calls Tryz.prog 48 #[.slice na n nc, uv, .int .i64 wd] w fun e w' => ∃ lv, e = .returned (.agg #[.slice na n nc, lv, .int .i64 wd]) ∧ OwLS w' (Rg w.heap.size w'.heap.size) lv (lnks n L L.length) ∧ Below w.heap.size w w' := by
 obtain ⟨ua, uc, rfl, hc⟩ := h.el; obtain ⟨m, hm⟩ : ∃ m, m = L.length := ⟨_, rfl⟩; rw [← hm] at hc hok hm1 ⊢; clear h hm; have hmk := fun W => makeInts n hn W
 obtain ⟨bR, bO, B0, z⟩ := two w [.slice none 0 0, .slice none 0 0, .int .i64 0] [.slice na n nc, .slice none 0 0, .int .i64 wd] 30 30
 go_enter Tryz.func48, Tryz.ntmps48
 go_wp2; obtain ⟨W0, hW0⟩ : ∃ W0, W0 = (w.alloc (.cells #[.slice none 0 0, .slice none 0 0, .int .i64 0] 30)).alloc (.cells #[.slice na n nc, .slice none 0 0, .int .i64 wd] 30) := ⟨_, rfl⟩; rw [← hW0] at bR bO B0 z ⊢; clear hW0 hmk; obtain ⟨W1, hW1⟩ : ∃ W1, W1 = W0.alloc (.cells (madeCells #[Value.int .i64 0] n) 3) := ⟨_, rfl⟩; have A1 : Below W0.heap.size W0 W1 := by rw [hW1]; exact (Below.refl _ _).alloc (Nat.le_refl _) _
 have bNx : Bl W1 W0.heap.size ((nextL n L 0).map (Value.int .i64)) := by
  have := Bl.new W0 (madeCells #[Value.int .i64 0] n).toList 3 W0.heap.size rfl; rw [hW1]; simp only [nextL]; rw [← toList_madeB_I]
  simpa using this
 have hz1 : W1.heap.size = W0.heap.size + 1 := by rw [hW1]; simp
 rw [← hW1]; obtain ⟨R, hR⟩ : ∃ R, R = w.heap.size := ⟨_, rfl⟩; obtain ⟨O, hO⟩ : ∃ O, O = w.heap.size + 1 := ⟨_, rfl⟩; obtain ⟨NB, hNB⟩ : ∃ NB, NB = w.heap.size + 2 := ⟨_, rfl⟩; rw [show W0.heap.size = NB by omega] at bNx; replace bR := bR.keep A1; replace bO := bO.keep A1; replace B0 := below_step B0 A1; rw [← hR] at bR; rw [← hO] at bO
 try rw [show W0.heap.size = NB by omega]
 try rw [← hNB]
 try rw [← hO]
 try rw [← hR]
 have hwR : w.heap.size ≤ R := by omega
 have hwO : w.heap.size ≤ O := by omega
 have hwN : w.heap.size ≤ NB := by omega
 have hRO : R ≠ O := by omega
 have hNO : NB ≠ O := by omega
 have hNR : NB ≠ R := by omega
 have hRW : R < W1.heap.size := by omega
 have hOW : O < W1.heap.size := by omega
 have hNW : NB < W1.heap.size := by omega
 have hwW : w.heap.size ≤ W1.heap.size := by omega
 clear hR hO hNB hW1 hz1 z A1
 go_loopw [9] (fun q wr => ∃ k : Nat, k ≤ m ∧ q = .int .i64 k ∧ ∃ (v2 : Value) (xs : List Value), GrLS wr W1.heap.size v2 (lnks n L k) xs ∧ Bl wr O [.slice na n nc, v2, .int .i64 wd] ∧ Bl wr R [.slice none 0 0, .slice none 0 0, .int .i64 0] ∧ Bl wr NB ((nextL n L k).map (Value.int .i64)) ∧ Below w.heap.size w wr ∧ W1.heap.size ≤ wr.heap.size) (fun q _ => m - (intOf q).toNat)
 case atStart => exact ⟨0, Nat.zero_le _, rfl, _, [], GrLS.nil _ _, bO, bR, bNx, B0, Nat.le_refl _⟩
 case round =>
  obtain ⟨k, hk, rfl, v2, xs, hG, bO1, bR1, bNx, hB, hsz⟩ := hrel
  by_cases hlt : k < m
  ·have hltI : (k : Int) < (m : Int) := by omega
   obtain ⟨b0, o0, rfl, hE⟩ := hc k hlt; obtain ⟨x, hx⟩ : ∃ x, L.getD k u0 = x := ⟨_, rfl⟩; rw [hx] at hE; obtain ⟨jv, hr, g0⟩ := hE; have hpo := hok k hlt; rw [hx] at hpo; obtain ⟨h2, a, c, ha, hc9, han, hcn⟩ := prOk_of hpo; obtain ⟨rb, ro, rc, rfl, y0, y1⟩ := rdU_two hr h2; rw [ha] at y0; rw [hc9] at y1; have l0 := cell_keep hB (World.block_lt_of_cell? w _ g0) g0; have l1 := cell_keep hB (World.block_lt_of_cell? w _ y0) y0; have l2 := cell_keep hB (World.block_lt_of_cell? w _ y1) y1; have haI : (a : Int) < (n : Int) := by omega
   have hcI : (c : Int) < (n : Int) := by omega
   obtain ⟨N, hN⟩ : ∃ N, N = nextL n L k := ⟨_, rfl⟩; rw [← hN] at bNx; have hNl : N.length = n := by rw [hN]; exact nextL_len n L k
   obtain ⟨va, hva⟩ : ∃ v, v = N.getD a 0 := ⟨_, rfl⟩; obtain ⟨vc, hvc⟩ : ∃ v, v = N.getD c 0 := ⟨_, rfl⟩; have HNA : Hid ((N.map (Value.int .i64))[a]? = some (.int .i64 va)) := Lib.hid (by rw [List.getElem?_map, List.getElem?_eq_getElem (by omega), hva]; simp [List.getD, hNl, han]); have HNC : Hid ((N.map (Value.int .i64))[c]? = some (.int .i64 vc)) := Lib.hid (by rw [List.getElem?_map, List.getElem?_eq_getElem (by omega), hvc]; simp [List.getD, hNl, hcn])
   have HNB : Hid ((0 ≤ va ∧ va ≤ 2 * 1048576) ∧ (0 ≤ vc ∧ vc ≤ 2 * 1048576)) := Lib.hid (by
    have h1 := nextL_bd2 n L k a; have h2 := nextL_bd2 n L k c; rw [← hN] at h1 h2
    omega)
   have HNX : Hid (nextL n L (k + 1) = bump (bump N a) c) := Lib.hid (by rw [hN]; exact nextL_succ hx ha hc9); have HLA : Hid ((lnkAt n L k = ⟨a, va, c, vc, true, [], []⟩) ∧ N.length = n) := Lib.hid ⟨by rw [hva, hvc, hN]; exact lnkAt_eq hx ha hc9, hNl⟩; have HVV : Hid (va = N.getD a 0 ∧ vc = N.getD c 0) := Lib.hid ⟨hva, hvc⟩; clear hva hvc; have HCC := Lib.hid hc; have HOK := Lib.hid hok; clear hc hok hx hN hNl ha hc9 hpo hr g0 y0 y1 h2; go_wp2_with fail
   go_region_held3 (fun w' => Over wr w' ∧ w'.cell? ⟨b0, o0 + k, none⟩ = some (.slice (some ⟨rb, ro, none⟩) 2 rc) ∧ w'.cell? ⟨rb, ro, none⟩ = some (.int .i64 a) ∧ w'.cell? ⟨rb, ro + 1, none⟩ = some (.int .i64 c))
    ((first | exact ⟨over_drew _, l0, l1, l2⟩ | exact (fun o => ⟨o, over_cell o (World.block_lt_of_cell? _ _ l0) l0, over_cell o (World.block_lt_of_cell? _ _ l1) l1, over_cell o (World.block_lt_of_cell? _ _ l2) l2⟩) (over_step (‹Over wr _ ∧ _›).1 (by assumption))))
    (fail)
   obtain ⟨wv, hwv⟩ : ∃ wv, wv = wr.drew := ⟨_, rfl⟩; have Ov : Over wr wv := by rw [hwv]; exact over_drew _
   rw [← hwv]; clear hwv; replace hG := hG.keep Ov; replace bO1 := bO1.keep Ov; replace bR1 := bR1.keep Ov; replace bNx := bNx.keep Ov; replace hB := below_step hB Ov; replace hsz := Nat.le_trans hsz Ov.size; clear l0 l1 l2 Ov; go_wp2_with fail; refine wp_region_held_drew (S := fun w' => Bl w' NB (N.map (Value.int .i64))) (by kernel_rfl) (bNx.keep (over_drew _)) (fun hHeld => ?_); clear hHeld; obtain ⟨D, hD⟩ : ∃ D, D = wv.drew := ⟨_, rfl⟩; have OD : Over wv D := by rw [hD]; exact over_drew _
   rw [← hD]; clear hD; have bPD := bNx.keep OD; have hSD := bPD; refine tk 0 36 (v := ?_) hSD ?_ ?_; rotate_left
   ·intro wq hSq
    go_simp
    try rfl
   simp only [Act.put, setIfInBounds_toArray, set_cons_succ, set_cons_zero]; refine tk 2 38 (v := ?_) hSD ?_ ?_; rotate_left
   ·intro wq hSq
    go_simp
    try rfl
   simp only [Act.put, setIfInBounds_toArray, set_cons_succ, set_cons_zero]; refine tk 3 39 (v := ?_) hSD ?_ ?_; rotate_left
   ·intro wq hSq
    go_simp
    try rfl
   simp only [Act.put, setIfInBounds_toArray, set_cons_succ, set_cons_zero]; refine tk 4 40 (v := ?_) hSD ?_ ?_; rotate_left
   ·intro wq hSq
    go_simp
    try rfl
   simp only [Act.put, setIfInBounds_toArray, set_cons_succ, set_cons_zero]; refine tk 5 41 (v := ?_) hSD ?_ ?_; rotate_left
   ·intro wq hSq
    go_simp
    try rfl
   simp only [Act.put, setIfInBounds_toArray, set_cons_succ, set_cons_zero]; refine tk 6 42 (v := ?_) hSD ?_ ?_; rotate_left
   ·intro wq hSq
    have q0 := hSq.c a HNA.out
    go_simp
    try rfl
   simp only [Act.put, setIfInBounds_toArray, set_cons_succ, set_cons_zero]; refine tk 7 43 (v := ?_) hSD ?_ ?_; rotate_left
   ·intro wq hSq
    go_simp
    try rfl
   simp only [Act.put, setIfInBounds_toArray, set_cons_succ, set_cons_zero]; refine tk 8 44 (v := ?_) hSD ?_ ?_; rotate_left
   ·intro wq hSq
    go_simp
    try rfl
   simp only [Act.put, setIfInBounds_toArray, set_cons_succ, set_cons_zero]; refine tk 9 45 (v := ?_) hSD ?_ ?_; rotate_left
   ·intro wq hSq
    go_simp
    try rfl
   simp only [Act.put, setIfInBounds_toArray, set_cons_succ, set_cons_zero]; refine tk 10 46 (v := ?_) hSD ?_ ?_; rotate_left
   ·intro wq hSq
    go_simp
    try rfl
   simp only [Act.put, setIfInBounds_toArray, set_cons_succ, set_cons_zero]; refine tk 11 47 (v := ?_) hSD ?_ ?_; rotate_left
   ·intro wq hSq
    have q0 := hSq.c c HNC.out
    go_simp
    try rfl
   simp only [Act.put, setIfInBounds_toArray, set_cons_succ, set_cons_zero]; refine tk 12 48 (v := ?_) hSD ?_ ?_; rotate_left
   ·intro wq hSq
    go_simp
    try rfl
   simp only [Act.put, setIfInBounds_toArray, set_cons_succ, set_cons_zero]; clear hSD; refine wpAnyH_ready (rs := [1, 13]) (by kernel_rfl) (by simp) ?_; refine (AllReadyH.cons rfl (fun K hK => ?_) (AllReadyH.cons rfl (fun K hK => ?_) AllReadyH.nil))
   ·have q := (bO1.keep OD).c 1 rfl
    go_simp
    refine hK.out _ _ bPD (fun hHeld => ?_); clear hK K hHeld q
    try simp only [Act.put, setIfInBounds_toArray, set_cons_succ, set_cons_zero]
    refine rd1 13 fun K hK => ?_
    go_simp
    have bN := Bl.new D [.int .i64 a, .int .i64 va, .int .i64 c, .int .i64 vc, .bool true, .slice none 0 0, .slice none 0 0] 70 D.heap.size rfl; have N1 : Below D.heap.size D (D.alloc (.cells #[.int .i64 a, .int .i64 va, .int .i64 c, .int .i64 vc, .bool true, .slice none 0 0, .slice none 0 0] 70)) := (Below.refl _ _).alloc (Nat.le_refl _) _; have zN : D.heap.size < (D.alloc (.cells #[.int .i64 a, .int .i64 va, .int .i64 c, .int .i64 vc, .bool true, .slice none 0 0, .slice none 0 0] 70)).heap.size := by simp
    have B3 : Below D.heap.size D (D.alloc (.cells #[.int .i64 a, .int .i64 va, .int .i64 c, .int .i64 vc, .bool true, .slice none 0 0, .slice none 0 0] 70)) := (Below.refl _ _).alloc (Nat.le_refl _) _; refine hK.out _ _ (bPD.keep B3) (fun hHeld => ?_); clear hK K hHeld
    try simp only [Act.put, setIfInBounds_toArray, set_cons_succ, set_cons_zero]
    refine rd1 14 fun K hK => ?_
    have hG2 := hG.keep OD; have hWD : W1.heap.size ≤ D.heap.size := Nat.le_trans hsz OD.size; have hG3 := hG2.keep B3; refine step_apL rfl (.tmp 37) (.tmp 49) rfl W1.heap.size D.heap.size 1 v2 (lnks n L k).length xs [.int .i64 a, .int .i64 va, .int .i64 c, .int .i64 vc, .bool true, .slice none 0 0, .slice none 0 0] rfl rfl hG3.row bN rfl (by simp [Value.oneCell']) (by rw [lnks_len]; omega) (Nat.le_trans hWD B3.size) ?_; intro v3 w3 hrow hg hor; have hGn := hG2.step hWD B3 (x := ⟨a, va, c, vc, true, [], []⟩) (S := fun _ => False) ⟨fun _ => False, fun _ => False, fun _ q => q.elim, fun _ q => q.elim, fun _ q _ => q.elim, owMS0 _ _, owMS0 _ _⟩ (fun b q => q.elim) hrow hg hor; have hB3 : Below w.heap.size w w3 := below_grL (below_step (below_step hB OD) B3) hG3 hwW hg; have bO3 := ((bO1.keep OD).keep B3).grown hg (ne_grL hG3 hOW); have bP3 := (bPD.keep B3).grown hg (ne_grL hG3 hNW); have bR3 := ((bR1.keep OD).keep B3).grown hg (ne_grL hG3 hRW); have hs3 := Nat.le_trans hWD (Nat.le_trans B3.size hg.size); clear hg hrow hor hG2 hG3
    obtain ⟨x3, y3, rfl⟩ : ∃ x3 y3, v3 = .slice x3 (k + 1) y3 := by
     obtain ⟨x3, y3, e3⟩ := hGn.lenV
     exact ⟨x3, y3, by rw [e3]; simp [lnks_len]⟩
    refine hK.out _ _ bP3 (fun hHeld => ?_); clear hK K hHeld
    try simp only [Act.put, setIfInBounds_toArray, set_cons_succ, set_cons_zero]
    refine rd1 15 fun K hK => ?_
    go_simp
    refine hK.out _ _ bP3 (fun hHeld => ?_); clear hK K hHeld
    try simp only [Act.put, setIfInBounds_toArray, set_cons_succ, set_cons_zero]
    refine rd1 16 fun K hK => ?_
    have of0 := bO3.f 1 rfl; have o0 := bO3.c 1 rfl
    go_simp
    refine hK.out _ _ (bP3.far hNO) (fun hHeld => ?_); clear hK K hHeld o0 of0
    try simp only [Act.put, setIfInBounds_toArray, set_cons_succ, set_cons_zero]
    refine wpAnyH_done (by kernel_rfl) ?_ _; have hGf := hGn.far (B := O) (o := 1) (u := .slice x3 (k + 1) y3) hOW; have bOf := bO3.set 1 (.slice x3 (k + 1) y3); have bRf := bR3.far (o := 1) (u := .slice x3 (k + 1) y3) hRO; have bNf := bP3.far (o := 1) (u := .slice x3 (k + 1) y3) hNO; have hBf := hB3.setCell (p := ⟨O, 1, none⟩) hwO (.slice x3 (k + 1) y3); obtain ⟨W8, hW8⟩ : ∃ W8, W8 = w3.setCell ⟨O, 1, none⟩ (.slice x3 (k + 1) y3) := ⟨_, rfl⟩; have hs8 : W1.heap.size ≤ W8.heap.size := by rw [hW8]; simpa using hs3
    rw [← hW8] at hGf bOf bRf bNf hBf ⊢; clear hW8 hGn bO3 bR3 bP3 hB3 bPD bN N1 zN B3 hs3; have hw1 : IntKind.i64.wrap (va + 1) = va + 1 := wrap64_in _ (by have := HNB.out.1; omega) (by have := HNB.out.1; omega)
    by_cases hac : a = c
    ·subst hac
     have hvv : vc = va := HVV.out.2.trans HVV.out.1.symm; have q0 := bNf.c a HNA.out; have f0 := bNf.f a HNA.out; have hw2 : IntKind.i64.wrap (va + 1 + 1) = va + 1 + 1 := wrap64_in _ (by have := HNB.out.1; omega) (by have := HNB.out.1; omega); have bNe := (bNf.set a (.int .i64 (va + 1))).set a (.int .i64 (va + 1 + 1)); have hBe := (hBf.setCell (p := ⟨NB, a, none⟩) hwN (.int .i64 (va + 1))).setCell (p := ⟨NB, a, none⟩) hwN (.int .i64 (va + 1 + 1)); have hGe := (hGf.far (B := NB) (o := a) (u := .int .i64 (va + 1)) hNW).far (B := NB) (o := a) (u := .int .i64 (va + 1 + 1)) hNW; have bOe := (bOf.far (o := a) (u := .int .i64 (va + 1)) hNO.symm).far (o := a) (u := .int .i64 (va + 1 + 1)) hNO.symm; have bRe := (bRf.far (o := a) (u := .int .i64 (va + 1)) hNR.symm).far (o := a) (u := .int .i64 (va + 1 + 1)) hNR.symm; have HNE := Lib.hid bNe; clear bNe bNf bOf bRf hGf hBf; go_wp2
     go_roundw
     case rel => exact ⟨k + 1, by omega, by go_num, _, _, (by rw [show lnks n L (k + 1) = lnks n L k ++ [⟨a, va, a, vc, true, [], []⟩] from by rw [← HLA.out.1]; rfl]; exact hGe), bOe, bRe, by have := HNE.out; rw [show nextL n L (k + 1) = _ from HNX.out]; rw [bump_same (a := a) (by rw [HLA.out.2]; omega), ← HVV.out.1]; exact this, hBe, by simpa using hs8⟩
     case measure => simp [intOf]; omega
    ·have q0 := bNf.c a HNA.out
     have f0 := bNf.f a HNA.out; have q1 := bNf.c c HNC.out; have f1 := bNf.f c HNC.out; have hw2 : IntKind.i64.wrap (vc + 1) = vc + 1 := wrap64_in _ (by have := HNB.out.2; omega) (by have := HNB.out.2; omega); have bNe := (bNf.set a (.int .i64 (va + 1))).set c (.int .i64 (vc + 1)); have hBe := (hBf.setCell (p := ⟨NB, a, none⟩) hwN (.int .i64 (va + 1))).setCell (p := ⟨NB, c, none⟩) hwN (.int .i64 (vc + 1)); have hGe := (hGf.far (B := NB) (o := a) (u := .int .i64 (va + 1)) hNW).far (B := NB) (o := c) (u := .int .i64 (vc + 1)) hNW; have bOe := (bOf.far (o := a) (u := .int .i64 (va + 1)) hNO.symm).far (o := c) (u := .int .i64 (vc + 1)) hNO.symm; have bRe := (bRf.far (o := a) (u := .int .i64 (va + 1)) hNR.symm).far (o := c) (u := .int .i64 (vc + 1)) hNR.symm; have HNE := Lib.hid bNe; clear bNe bNf bOf bRf hGf hBf; go_wp2
     go_roundw
     case rel => exact ⟨k + 1, by omega, by go_num, _, _, (by rw [show lnks n L (k + 1) = lnks n L k ++ [⟨a, va, c, vc, true, [], []⟩] from by rw [← HLA.out.1]; rfl]; exact hGe), bOe, bRe, by have := HNE.out; rw [show nextL n L (k + 1) = _ from HNX.out]; rw [bump_two hac, ← HVV.out.1, ← HVV.out.2]; exact this, hBe, by simpa using hs8⟩
     case measure => simp [intOf]; omega
   ·go_simp
    have bN := Bl.new D [.int .i64 a, .int .i64 va, .int .i64 c, .int .i64 vc, .bool true, .slice none 0 0, .slice none 0 0] 70 D.heap.size rfl; have N1 : Below D.heap.size D (D.alloc (.cells #[.int .i64 a, .int .i64 va, .int .i64 c, .int .i64 vc, .bool true, .slice none 0 0, .slice none 0 0] 70)) := (Below.refl _ _).alloc (Nat.le_refl _) _; have zN : D.heap.size < (D.alloc (.cells #[.int .i64 a, .int .i64 va, .int .i64 c, .int .i64 vc, .bool true, .slice none 0 0, .slice none 0 0] 70)).heap.size := by simp
    have B3 : Below D.heap.size D (D.alloc (.cells #[.int .i64 a, .int .i64 va, .int .i64 c, .int .i64 vc, .bool true, .slice none 0 0, .slice none 0 0] 70)) := (Below.refl _ _).alloc (Nat.le_refl _) _; refine hK.out _ _ (bPD.keep B3) (fun hHeld => ?_); clear hK K hHeld
    try simp only [Act.put, setIfInBounds_toArray, set_cons_succ, set_cons_zero]
    refine rd1 1 fun K hK => ?_
    have q := ((bO1.keep OD).keep B3).c 1 rfl
    go_simp
    refine hK.out _ _ (bPD.keep B3) (fun hHeld => ?_); clear hK K hHeld q
    try simp only [Act.put, setIfInBounds_toArray, set_cons_succ, set_cons_zero]
    refine rd1 14 fun K hK => ?_
    have hG2 := hG.keep OD; have hWD : W1.heap.size ≤ D.heap.size := Nat.le_trans hsz OD.size; have hG3 := hG2.keep B3; refine step_apL rfl (.tmp 37) (.tmp 49) rfl W1.heap.size D.heap.size 1 v2 (lnks n L k).length xs [.int .i64 a, .int .i64 va, .int .i64 c, .int .i64 vc, .bool true, .slice none 0 0, .slice none 0 0] rfl rfl hG3.row bN rfl (by simp [Value.oneCell']) (by rw [lnks_len]; omega) (Nat.le_trans hWD B3.size) ?_; intro v3 w3 hrow hg hor; have hGn := hG2.step hWD B3 (x := ⟨a, va, c, vc, true, [], []⟩) (S := fun _ => False) ⟨fun _ => False, fun _ => False, fun _ q => q.elim, fun _ q => q.elim, fun _ q _ => q.elim, owMS0 _ _, owMS0 _ _⟩ (fun b q => q.elim) hrow hg hor; have hB3 : Below w.heap.size w w3 := below_grL (below_step (below_step hB OD) B3) hG3 hwW hg; have bO3 := ((bO1.keep OD).keep B3).grown hg (ne_grL hG3 hOW); have bP3 := (bPD.keep B3).grown hg (ne_grL hG3 hNW); have bR3 := ((bR1.keep OD).keep B3).grown hg (ne_grL hG3 hRW); have hs3 := Nat.le_trans hWD (Nat.le_trans B3.size hg.size); clear hg hrow hor hG2 hG3
    obtain ⟨x3, y3, rfl⟩ : ∃ x3 y3, v3 = .slice x3 (k + 1) y3 := by
     obtain ⟨x3, y3, e3⟩ := hGn.lenV
     exact ⟨x3, y3, by rw [e3]; simp [lnks_len]⟩
    refine hK.out _ _ bP3 (fun hHeld => ?_); clear hK K hHeld
    try simp only [Act.put, setIfInBounds_toArray, set_cons_succ, set_cons_zero]
    refine rd1 15 fun K hK => ?_
    go_simp
    refine hK.out _ _ bP3 (fun hHeld => ?_); clear hK K hHeld
    try simp only [Act.put, setIfInBounds_toArray, set_cons_succ, set_cons_zero]
    refine rd1 16 fun K hK => ?_
    have of0 := bO3.f 1 rfl; have o0 := bO3.c 1 rfl
    go_simp
    refine hK.out _ _ (bP3.far hNO) (fun hHeld => ?_); clear hK K hHeld o0 of0
    try simp only [Act.put, setIfInBounds_toArray, set_cons_succ, set_cons_zero]
    refine wpAnyH_done (by kernel_rfl) ?_ _; have hGf := hGn.far (B := O) (o := 1) (u := .slice x3 (k + 1) y3) hOW; have bOf := bO3.set 1 (.slice x3 (k + 1) y3); have bRf := bR3.far (o := 1) (u := .slice x3 (k + 1) y3) hRO; have bNf := bP3.far (o := 1) (u := .slice x3 (k + 1) y3) hNO; have hBf := hB3.setCell (p := ⟨O, 1, none⟩) hwO (.slice x3 (k + 1) y3); obtain ⟨W8, hW8⟩ : ∃ W8, W8 = w3.setCell ⟨O, 1, none⟩ (.slice x3 (k + 1) y3) := ⟨_, rfl⟩; have hs8 : W1.heap.size ≤ W8.heap.size := by rw [hW8]; simpa using hs3
    rw [← hW8] at hGf bOf bRf bNf hBf ⊢; clear hW8 hGn bO3 bR3 bP3 hB3 bPD bN N1 zN B3 hs3; have hw1 : IntKind.i64.wrap (va + 1) = va + 1 := wrap64_in _ (by have := HNB.out.1; omega) (by have := HNB.out.1; omega)
    by_cases hac : a = c
    ·subst hac
     have hvv : vc = va := HVV.out.2.trans HVV.out.1.symm; have q0 := bNf.c a HNA.out; have f0 := bNf.f a HNA.out; have hw2 : IntKind.i64.wrap (va + 1 + 1) = va + 1 + 1 := wrap64_in _ (by have := HNB.out.1; omega) (by have := HNB.out.1; omega); have bNe := (bNf.set a (.int .i64 (va + 1))).set a (.int .i64 (va + 1 + 1)); have hBe := (hBf.setCell (p := ⟨NB, a, none⟩) hwN (.int .i64 (va + 1))).setCell (p := ⟨NB, a, none⟩) hwN (.int .i64 (va + 1 + 1)); have hGe := (hGf.far (B := NB) (o := a) (u := .int .i64 (va + 1)) hNW).far (B := NB) (o := a) (u := .int .i64 (va + 1 + 1)) hNW; have bOe := (bOf.far (o := a) (u := .int .i64 (va + 1)) hNO.symm).far (o := a) (u := .int .i64 (va + 1 + 1)) hNO.symm; have bRe := (bRf.far (o := a) (u := .int .i64 (va + 1)) hNR.symm).far (o := a) (u := .int .i64 (va + 1 + 1)) hNR.symm; have HNE := Lib.hid bNe; clear bNe bNf bOf bRf hGf hBf; go_wp2
     go_roundw
     case rel => exact ⟨k + 1, by omega, by go_num, _, _, (by rw [show lnks n L (k + 1) = lnks n L k ++ [⟨a, va, a, vc, true, [], []⟩] from by rw [← HLA.out.1]; rfl]; exact hGe), bOe, bRe, by have := HNE.out; rw [show nextL n L (k + 1) = _ from HNX.out]; rw [bump_same (a := a) (by rw [HLA.out.2]; omega), ← HVV.out.1]; exact this, hBe, by simpa using hs8⟩
     case measure => simp [intOf]; omega
    ·have q0 := bNf.c a HNA.out
     have f0 := bNf.f a HNA.out; have q1 := bNf.c c HNC.out; have f1 := bNf.f c HNC.out; have hw2 : IntKind.i64.wrap (vc + 1) = vc + 1 := wrap64_in _ (by have := HNB.out.2; omega) (by have := HNB.out.2; omega); have bNe := (bNf.set a (.int .i64 (va + 1))).set c (.int .i64 (vc + 1)); have hBe := (hBf.setCell (p := ⟨NB, a, none⟩) hwN (.int .i64 (va + 1))).setCell (p := ⟨NB, c, none⟩) hwN (.int .i64 (vc + 1)); have hGe := (hGf.far (B := NB) (o := a) (u := .int .i64 (va + 1)) hNW).far (B := NB) (o := c) (u := .int .i64 (vc + 1)) hNW; have bOe := (bOf.far (o := a) (u := .int .i64 (va + 1)) hNO.symm).far (o := c) (u := .int .i64 (vc + 1)) hNO.symm; have bRe := (bRf.far (o := a) (u := .int .i64 (va + 1)) hNR.symm).far (o := c) (u := .int .i64 (vc + 1)) hNR.symm; have HNE := Lib.hid bNe; clear bNe bNf bOf bRf hGf hBf; go_wp2
     go_roundw
     case rel => exact ⟨k + 1, by omega, by go_num, _, _, (by rw [show lnks n L (k + 1) = lnks n L k ++ [⟨a, va, c, vc, true, [], []⟩] from by rw [← HLA.out.1]; rfl]; exact hGe), bOe, bRe, by have := HNE.out; rw [show nextL n L (k + 1) = _ from HNX.out]; rw [bump_two hac, ← HVV.out.1, ← HVV.out.2]; exact this, hBe, by simpa using hs8⟩
     case measure => simp [intOf]; omega
  ·obtain rfl : k = m := by omega
   have oL := hG.own (by rw [lnks_len]; omega); obtain ⟨i1, j1, rfl⟩ := hG.lenV.imp fun _ q => q
   have o0 := bO1.c 0 rfl; have o1 := bO1.c 1 rfl; have o2 := bO1.c 2 rfl; have r0 := bR1.c 0 rfl; have r1 := bR1.c 1 rfl; have r2 := bR1.c 2 rfl; have f0 := bR1.f 0 rfl; have f1 := bR1.f 1 rfl; have f2 := bR1.f 2 rfl; clear hG; go_wp2; have bE := ((bR1.set 0 (.slice na n nc)).set 1 (.slice i1 (lnks n L k).length j1)).set 2 (.int .i64 wd); have e0 := bE.c 0 rfl; have e1 := bE.c 1 rfl; have e2 := bE.c 2 rfl; have nR : ¬ Rg W1.heap.size wr.heap.size R := fun q => by have := q.1; omega
   exact bodyPost_ret (v := .agg #[.slice na n nc, .slice i1 (lnks n L k).length j1, .int .i64 wd]) (by simp [results, Tryz.results48, go_sem, e0, e1, e2]) rfl
    ⟨_, rfl, (((oL.agr (agr_setS _ nR)).agr (agr_setS _ nR)).agr (agr_setS _ nR)).mono (fun b q => ⟨by have := q.1; omega, by have := q.2; simp; omega⟩), ((hB.setCell (p := ⟨R, 0, none⟩) hwR _).setCell (p := ⟨R, 1, none⟩) hwR _).setCell (p := ⟨R, 2, none⟩) hwR _⟩
end Go.Proofs.YtkodnipmogdgkaaGreat
namespace Go.Proofs.YtkodnipmogdgkaaGreat
open Go.ChangeShapes Go.WideShapes Go.ChangeAt Go.RowKit Go.BigFrame Go.Joins
set_option linter.unusedVariables false
set_option maxRecDepth 100000
set_option linter.unusedSimpArgs false
set_option maxRecDepth 100000

theorem owF_mono {w : World} {S S' : Nat → Prop} {nv lv : Value} {x : Fb} (h : OwF w S nv lv x) (hs : ∀ b, S b → S' b) : OwF w S' nv lv x := by
 obtain ⟨S0, S1, s0, s1, h⟩ := h
 exact ⟨S0, S1, fun b q => hs b (s0 b q), fun b q => hs b (s1 b q), h⟩
end Go.Proofs.YtkodnipmogdgkaaGreat
namespace Go.Proofs.YtkodnipmogdgkaaGreat
open Go.ChangeShapes Go.WideShapes Go.ChangeAt Go.RowKit Go.BigFrame Go.Joins
set_option linter.unusedVariables false
set_option maxRecDepth 100000
set_option linter.unusedSimpArgs false
set_option maxRecDepth 100000

def okPs (n : Nat) (L : List Pr) : Bool := L.all fun x => prOk n x
def newF (N9 : List Nd) (L : List Pr) (wd : Int) : Fb := ⟨N9, lnks N9.length L L.length, wd⟩
def okNew (N9 : List Nd) (L : List Pr) (wd : Int) : Bool := okPs N9.length L && fbB (newF N9 L wd)
def fabNewF (N9 : List Nd) (L : List Pr) (wd : Int) : Fb := if okNew N9 L wd = true then newF N9 L wd else fb0
theorem newF_no {N9 : List Nd} {L : List Pr} {wd : Int} (h : okNew N9 L wd = false) : fabNewF N9 L wd = fb0 ∧ okNew N9 L wd = false := ⟨by unfold fabNewF; rw [if_neg (by rw [h]; simp)], h⟩
theorem newF_yes {N9 : List Nd} {L : List Pr} {wd : Int} (h : okNew N9 L wd = true) : fabNewF N9 L wd = newF N9 L wd ∧ okNew N9 L wd = true := ⟨by unfold fabNewF; rw [if_pos h], h⟩
theorem okNew_pr {N9 : List Nd} {L : List Pr} {wd : Int} {k : Nat} (hk : k < L.length) (h : prOk N9.length (L.getD k u0) = false) : okNew N9 L wd = false := by
 unfold okNew okPs; rw [Bool.and_eq_false_iff]
 left
 rw [List.all_eq_false]
 exact ⟨L.getD k u0, by simp [List.getD, hk], by rw [h]; simp⟩
theorem okNew_fb {N9 : List Nd} {L : List Pr} {wd : Int} (h : fbB (newF N9 L wd) = false) : okNew N9 L wd = false := by unfold okNew; rw [h, Bool.and_false]
theorem okNew_all {N9 : List Nd} {L : List Pr} {wd : Int} (h : ∀ i, i < L.length → prOk N9.length (L.getD i u0) = true) (hf : fbB (newF N9 L wd) = true) : okNew N9 L wd = true := by
 unfold okNew okPs; rw [hf, Bool.and_true, List.all_eq_true]; intro x hx; obtain ⟨i, hi, rfl⟩ := List.mem_iff_getElem.mp hx; have := h i hi
 simpa [List.getD, hi] using this
theorem prOk_no {n : Nat} {x : Pr} (h : ¬ x.l.length = 2 ∨ x.l.getD 0 0 < 0 ∨ (n : Int) ≤ x.l.getD 0 0 ∨ x.l.getD 1 0 < 0 ∨ (n : Int) ≤ x.l.getD 1 0) : prOk n x = false := by
 unfold prOk inB; simp only [Bool.and_eq_false_iff, decide_eq_false_iff_not]
 omega
theorem prOk_yes {n : Nat} {x : Pr} (h : x.l.length = 2) (h0 : 0 ≤ x.l.getD 0 0) (h1 : x.l.getD 0 0 < n) (h2 : 0 ≤ x.l.getD 1 0) (h3 : x.l.getD 1 0 < n) : prOk n x = true := by
 unfold prOk inB; simp only [Bool.and_eq_true, decide_eq_true_eq]
 omega
theorem lnks_wt (n : Nat) (L : List Pr) : ∀ k, wtLS (lnks n L k) = 0
 | 0 => by simp [lnks, wtLS]
 | k + 1 => by
  have h := lnks_wt n L k; unfold wtLS at h ⊢; simp only [lnks, List.map_append, List.sum_append, h]
  simp [lnkAt, wtL, wtMS]
theorem newF_wt {N9 : List Nd} {L : List Pr} {wd : Int} (h : (N9.length + wtNS N9) + L.length ≤ 1048576) : wtF (newF N9 L wd) ≤ 1048576 := by
 unfold wtF newF; simp only [lnks_len, lnks_wt]
 omega
theorem inB_of {v a b : Int} (h : inB v a b = true) : a ≤ v ∧ v ≤ b := by unfold inB at h; simpa using h
theorem inB_no {v a b : Int} (h : inB v a b = false) : v < a ∨ b < v := by
 unfold inB at h; simp only [Bool.and_eq_false_iff, decide_eq_false_iff_not] at h
 omega
end Go.Proofs.YtkodnipmogdgkaaGreat
namespace Go.Proofs.YtkodnipmogdgkaaGreat
open Go.ChangeShapes Go.WideShapes Go.ChangeAt Go.RowKit Go.BigFrame Go.Joins
set_option linter.unusedVariables false
set_option maxRecDepth 100000
set_option linter.unusedSimpArgs false
set_option maxRecDepth 100000

set_option maxHeartbeats 24000000 in
theorem snew_any (nv uv : Value) (N9 : List Nd) (L : List Pr) (wd : Int) (w : World) (hN9 : RdNS w nv N9) (hU : RdUS w uv L) (hw : (N9.length + wtNS N9) + L.length ≤ 1048576) :
  Calls Tryz.prog 19 #[nv, uv, .int .i64 wd] w fun e w' => ∃ nv lv, e = .returned (.tuple #[.agg #[nv, lv, .int .i64 (fabNewF N9 L wd).width], .bool (okNew N9 L wd)]) ∧ OwF w' (Rg w.heap.size w'.heap.size) nv lv (fabNewF N9 L wd) ∧ Below w.heap.size w w' := by
 obtain ⟨na, nc, rfl⟩ := hN9.len; obtain ⟨ua, uc, rfl, hc⟩ := hU.el; have hwX := newF_wt (wd := wd) hw; obtain ⟨n, hn⟩ : ∃ n, n = N9.length := ⟨_, rfl⟩; obtain ⟨m, hm⟩ : ∃ m, m = L.length := ⟨_, rfl⟩; have hnn : n ≤ 1048576 := by omega
 have hmm : m ≤ 1048576 := by omega
 have HN := Lib.hid hn; have HM := Lib.hid hm; have HU := Lib.hid hU; have HN9 := Lib.hid hN9; have HWX := Lib.hid hwX; rw [← hm] at hc
 try rw [← hn, ← hm]
 clear hn hm hU hN9 hwX hw; obtain ⟨bR, B1, z⟩ := one w [.slice none 0 0, .slice none 0 0, .int .i64 0] 30
 go_enter Tryz.func19, Tryz.ntmps19
 go_wp2; obtain ⟨W1, hW1⟩ : ∃ W1, W1 = w.alloc (.cells #[.slice none 0 0, .slice none 0 0, .int .i64 0] 30) := ⟨_, rfl⟩; rw [← hW1] at bR B1 z ⊢; obtain ⟨R, hR⟩ : ∃ R, R = w.heap.size := ⟨_, rfl⟩; rw [← hR] at bR
 try rw [← hR]
 have hwR : w.heap.size ≤ R := by omega
 have hRW : R < W1.heap.size := by omega
 clear hW1 hR z
 go_loopw [8] (fun q wr => ∃ k : Nat, k ≤ m ∧ q = .int .i64 k ∧ (∀ i, i < k → prOk n (L.getD i u0) = true) ∧ Bl wr R [.slice none 0 0, .slice none 0 0, .int .i64 0] ∧ Below w.heap.size w wr ∧ R < wr.heap.size) (fun q _ => m - (intOf q).toNat)
 case atStart => exact ⟨0, Nat.zero_le _, rfl, fun i hi => absurd hi (by omega), bR, B1, hRW⟩
 case round =>
  obtain ⟨k, hk, rfl, hall, bR, B1, hRr⟩ := hrel
  by_cases hlt : k < m
  ·have hltI : (k : Int) < (m : Int) := by omega
   obtain ⟨b0, o0, rfl, hE⟩ := hc k hlt; obtain ⟨x, hx⟩ : ∃ x, L.getD k u0 = x := ⟨_, rfl⟩; rw [hx] at hE; obtain ⟨jv, hr, g0⟩ := hE; have l0 := cell_keep B1 (World.block_lt_of_cell? w _ g0) g0
   by_cases h2 : x.l.length = 2
   ·obtain ⟨rb, ro, rc, rfl, y0, y1⟩ := rdU_two hr h2
    obtain ⟨v0, hv0⟩ : ∃ v, v = x.l.getD 0 0 := ⟨_, rfl⟩; obtain ⟨v1, hv1⟩ : ∃ v, v = x.l.getD 1 0 := ⟨_, rfl⟩; rw [← hv0] at y0; rw [← hv1] at y1; have k0 := cell_keep B1 (World.block_lt_of_cell? w _ y0) y0; have k1 := cell_keep B1 (World.block_lt_of_cell? w _ y1) y1; clear y0 y1
    by_cases c0 : v0 < 0
    ·have hpo : prOk n x = false := prOk_no (by omega)
     rw [HN.out] at hpo; have HNO : Hid (fabNewF N9 L wd = fb0 ∧ okNew N9 L wd = false) := Lib.hid (newF_no (okNew_pr (k := k) (by rw [← HM.out]; exact hlt) (by rw [hx]; exact hpo))); clear hx hpo hc hr g0 hv0 hv1; have r0 := bR.c 0 rfl; have r1 := bR.c 1 rfl; have r2 := bR.c 2 rfl; have rf0 := bR.f 0 rfl; have rf1 := bR.f 1 rfl; have rf2 := bR.f 2 rfl; go_wp2_with fail; have bE := ((bR.set 0 (.slice none 0 0)).set 1 (.slice none 0 0)).set 2 (.int .i64 0); have e0 := bE.c 0 rfl; have e1 := bE.c 1 rfl; have e2 := bE.c 2 rfl
     exact bodyPost_ret (v := .tuple #[.agg #[.slice none 0 0, .slice none 0 0, .int .i64 0], .bool false]) (by simp [results, Tryz.results19, go_sem, e0, e1, e2]) rfl
      ⟨.slice none 0 0, .slice none 0 0, by rw [HNO.out.1, HNO.out.2]; rfl, by rw [HNO.out.1]; exact owF0 _ _, ((B1.setCell (p := ⟨R, 0, none⟩) hwR _).setCell (p := ⟨R, 1, none⟩) hwR _).setCell (p := ⟨R, 2, none⟩) hwR _⟩
    ·by_cases c1 : v0 ≥ (n : Int)
     ·have hpo : prOk n x = false := prOk_no (by omega)
      rw [HN.out] at hpo; have HNO : Hid (fabNewF N9 L wd = fb0 ∧ okNew N9 L wd = false) := Lib.hid (newF_no (okNew_pr (k := k) (by rw [← HM.out]; exact hlt) (by rw [hx]; exact hpo))); clear hx hpo hc hr g0 hv0 hv1; have r0 := bR.c 0 rfl; have r1 := bR.c 1 rfl; have r2 := bR.c 2 rfl; have rf0 := bR.f 0 rfl; have rf1 := bR.f 1 rfl; have rf2 := bR.f 2 rfl; go_wp2_with fail; have bE := ((bR.set 0 (.slice none 0 0)).set 1 (.slice none 0 0)).set 2 (.int .i64 0); have e0 := bE.c 0 rfl; have e1 := bE.c 1 rfl; have e2 := bE.c 2 rfl
      exact bodyPost_ret (v := .tuple #[.agg #[.slice none 0 0, .slice none 0 0, .int .i64 0], .bool false]) (by simp [results, Tryz.results19, go_sem, e0, e1, e2]) rfl
       ⟨.slice none 0 0, .slice none 0 0, by rw [HNO.out.1, HNO.out.2]; rfl, by rw [HNO.out.1]; exact owF0 _ _, ((B1.setCell (p := ⟨R, 0, none⟩) hwR _).setCell (p := ⟨R, 1, none⟩) hwR _).setCell (p := ⟨R, 2, none⟩) hwR _⟩
     ·by_cases c2 : v1 < 0
      ·have hpo : prOk n x = false := prOk_no (by omega)
       rw [HN.out] at hpo; have HNO : Hid (fabNewF N9 L wd = fb0 ∧ okNew N9 L wd = false) := Lib.hid (newF_no (okNew_pr (k := k) (by rw [← HM.out]; exact hlt) (by rw [hx]; exact hpo))); clear hx hpo hc hr g0 hv0 hv1; have r0 := bR.c 0 rfl; have r1 := bR.c 1 rfl; have r2 := bR.c 2 rfl; have rf0 := bR.f 0 rfl; have rf1 := bR.f 1 rfl; have rf2 := bR.f 2 rfl; go_wp2_with fail; have bE := ((bR.set 0 (.slice none 0 0)).set 1 (.slice none 0 0)).set 2 (.int .i64 0); have e0 := bE.c 0 rfl; have e1 := bE.c 1 rfl; have e2 := bE.c 2 rfl
       exact bodyPost_ret (v := .tuple #[.agg #[.slice none 0 0, .slice none 0 0, .int .i64 0], .bool false]) (by simp [results, Tryz.results19, go_sem, e0, e1, e2]) rfl
        ⟨.slice none 0 0, .slice none 0 0, by rw [HNO.out.1, HNO.out.2]; rfl, by rw [HNO.out.1]; exact owF0 _ _, ((B1.setCell (p := ⟨R, 0, none⟩) hwR _).setCell (p := ⟨R, 1, none⟩) hwR _).setCell (p := ⟨R, 2, none⟩) hwR _⟩
      ·by_cases c3 : v1 ≥ (n : Int)
       ·have hpo : prOk n x = false := prOk_no (by omega)
        rw [HN.out] at hpo; have HNO : Hid (fabNewF N9 L wd = fb0 ∧ okNew N9 L wd = false) := Lib.hid (newF_no (okNew_pr (k := k) (by rw [← HM.out]; exact hlt) (by rw [hx]; exact hpo))); clear hx hpo hc hr g0 hv0 hv1; have r0 := bR.c 0 rfl; have r1 := bR.c 1 rfl; have r2 := bR.c 2 rfl; have rf0 := bR.f 0 rfl; have rf1 := bR.f 1 rfl; have rf2 := bR.f 2 rfl; go_wp2_with fail; have bE := ((bR.set 0 (.slice none 0 0)).set 1 (.slice none 0 0)).set 2 (.int .i64 0); have e0 := bE.c 0 rfl; have e1 := bE.c 1 rfl; have e2 := bE.c 2 rfl
        exact bodyPost_ret (v := .tuple #[.agg #[.slice none 0 0, .slice none 0 0, .int .i64 0], .bool false]) (by simp [results, Tryz.results19, go_sem, e0, e1, e2]) rfl
         ⟨.slice none 0 0, .slice none 0 0, by rw [HNO.out.1, HNO.out.2]; rfl, by rw [HNO.out.1]; exact owF0 _ _, ((B1.setCell (p := ⟨R, 0, none⟩) hwR _).setCell (p := ⟨R, 1, none⟩) hwR _).setCell (p := ⟨R, 2, none⟩) hwR _⟩
       ·have hpo : prOk n x = true := prOk_yes h2 (by omega) (by omega) (by omega) (by omega)
        have HALL : Hid (∀ i, i < k + 1 → prOk n (L.getD i u0) = true) := Lib.hid fun i hi => by
         by_cases e : i = k
         ·subst e; rw [hx]; exact hpo
         ·exact hall i (by omega)
        have HCC := Lib.hid hc; have BB := Lib.hid B1; clear hx hpo hc hall hv0 hv1 hr g0; go_wp2_with fail
        go_roundw
        case rel => exact ⟨k + 1, by omega, by go_num, HALL.out, bR, BB.out, hRr⟩
        case measure => simp [intOf]; omega
   ·obtain ⟨ja, jx, rfl⟩ := RdI.len hr
    obtain ⟨q9, hq9⟩ : ∃ q, q = x.l.length := ⟨_, rfl⟩; have hb1 : ((q9 : Int) == 2) = false := by simp; omega
    have hb2 : ((q9 : Int) != 2) = true := by simp; omega
    rw [← hq9] at l0; have hpo : prOk n x = false := prOk_no (by omega); rw [HN.out] at hpo; have HNO : Hid (fabNewF N9 L wd = fb0 ∧ okNew N9 L wd = false) := Lib.hid (newF_no (okNew_pr (k := k) (by rw [← HM.out]; exact hlt) (by rw [hx]; exact hpo))); clear hx hpo hc hr g0 hq9 h2; have r0 := bR.c 0 rfl; have r1 := bR.c 1 rfl; have r2 := bR.c 2 rfl; have rf0 := bR.f 0 rfl; have rf1 := bR.f 1 rfl; have rf2 := bR.f 2 rfl; go_wp2_with fail; have bE := ((bR.set 0 (.slice none 0 0)).set 1 (.slice none 0 0)).set 2 (.int .i64 0); have e0 := bE.c 0 rfl; have e1 := bE.c 1 rfl; have e2 := bE.c 2 rfl
    exact bodyPost_ret (v := .tuple #[.agg #[.slice none 0 0, .slice none 0 0, .int .i64 0], .bool false]) (by simp [results, Tryz.results19, go_sem, e0, e1, e2]) rfl
     ⟨.slice none 0 0, .slice none 0 0, by rw [HNO.out.1, HNO.out.2]; rfl, by rw [HNO.out.1]; exact owF0 _ _, ((B1.setCell (p := ⟨R, 0, none⟩) hwR _).setCell (p := ⟨R, 1, none⟩) hwR _).setCell (p := ⟨R, 2, none⟩) hwR _⟩
  ·obtain rfl : k = m := by omega
   clear hc hlt hk; go_wp2_with fail; have hall2 : ∀ i, i < L.length → prOk N9.length (L.getD i u0) = true := by rw [← HN.out, ← HM.out]; exact hall
   have hUk : RdUS wr (.slice ua k uc) L := by have q := HU.out.keep B1; rw [← HM.out] at q; exact q
   have hal : ∀ i, i < L.length → prOk n (L.getD i u0) = true := by rw [← HM.out]; exact hall
   have hLm : L.length ≤ 1048576 := by rw [← HM.out]; exact hmm
   refine (sl9new_any na nc n _ L wd wr hnn hLm hUk hal).mono ?_; clear hUk hal hLm; rintro e w2 ⟨lv, rfl, oL, hb⟩; rw [← HM.out] at oL; obtain ⟨l1, l2, rfl⟩ := oL.rd.len; replace bR := bR.keep hb; have B2 := below_step B1 hb; have hs2 := hb.size; clear hb hall; obtain ⟨bT, N1, z3⟩ := one w2 [.slice na n nc, .slice l1 (lnks n L k).length l2, .int .i64 wd] 30; go_wp2_with fail; obtain ⟨T, hT⟩ : ∃ T, T = w2.heap.size := ⟨_, rfl⟩; obtain ⟨w3, hw3⟩ : ∃ w3, w3 = w2.alloc (.cells #[.slice na n nc, .slice l1 (lnks n L k).length l2, .int .i64 wd] 30) := ⟨_, rfl⟩; rw [← hw3] at bT N1 z3 ⊢; rw [← hT] at bT
   try rw [← hT]
   have HX9 : Hid (newF N9 L wd = ⟨N9, lnks n L k, wd⟩) := Lib.hid (by unfold newF; rw [← HN.out, ← HM.out]); have hNk : RdNS w3 (.slice na n nc) N9 := by have q := HN9.out.keep (below_step B2 N1); rw [← HN.out] at q; exact q
   have hR3 : RdF w3 (.slice na n nc) (.slice l1 (lnks n L k).length l2) ⟨N9, lnks n L k, wd⟩ := ⟨hNk, oL.rd.keep N1⟩; have HW9 : Hid (wtF ⟨N9, lnks n L k, wd⟩ ≤ 1048576) := Lib.hid (by rw [← HX9.out]; exact HWX.out); clear hNk; replace bR := bR.keep N1; have B3 := below_step B2 N1; clear hw3 hT oL; refine (sfok_any _ _ (⟨N9, lnks n L k, wd⟩ : Fb) w3 hR3 HW9.out).mono ?_; rintro e w4 ⟨rfl, hb⟩; replace bT := bT.keep hb; replace bR := bR.keep hb; have hR4 := hR3.keep hb; have B4 := below_step B3 hb; have hs4 := hb.size; clear hb hR3 B1 B2 B3 N1; cases hfs : fsB (⟨N9, lnks n L k, wd⟩ : Fb)
   ·have hfb : fbB (newF N9 L wd) = false := by rw [HX9.out]; exact (fsB_eq _) ▸ hfs
    have HNO : Hid (fabNewF N9 L wd = fb0 ∧ okNew N9 L wd = false) := Lib.hid (newF_no (okNew_fb hfb)); clear hfb hfs; have r0 := bR.c 0 rfl; have r1 := bR.c 1 rfl; have r2 := bR.c 2 rfl; have rf0 := bR.f 0 rfl; have rf1 := bR.f 1 rfl; have rf2 := bR.f 2 rfl; go_wp2_with fail; have bE := ((bR.set 0 (.slice none 0 0)).set 1 (.slice none 0 0)).set 2 (.int .i64 0); have e0 := bE.c 0 rfl; have e1 := bE.c 1 rfl; have e2 := bE.c 2 rfl
    exact bodyPost_ret (v := .tuple #[.agg #[.slice none 0 0, .slice none 0 0, .int .i64 0], .bool false]) (by simp [results, Tryz.results19, go_sem, e0, e1, e2]) rfl
     ⟨.slice none 0 0, .slice none 0 0, by rw [HNO.out.1, HNO.out.2]; rfl, by rw [HNO.out.1]; exact owF0 _ _, ((B4.setCell (p := ⟨R, 0, none⟩) hwR _).setCell (p := ⟨R, 1, none⟩) hwR _).setCell (p := ⟨R, 2, none⟩) hwR _⟩

   ·have hfb : fbB (newF N9 L wd) = true := by rw [HX9.out]; exact (fsB_eq _) ▸ hfs
    have HYES := Lib.hid (newF_yes (okNew_all hall2 hfb)); rw [HX9.out] at HYES; have t0 := bT.c 0 rfl; have t1 := bT.c 1 rfl; have t2 := bT.c 2 rfl; clear hfb hfs; go_wp2_with fail; clear t0 t1 t2; refine (sfcopy_any _ _ (⟨N9, lnks n L k, wd⟩ : Fb) w4 hR4 HW9.out).mono ?_; rintro e w5 ⟨nv5, lv5, rfl, hF5, hb⟩; obtain ⟨n1, n2, rfl⟩ := hF5.rd.1.len; obtain ⟨m1, m2, rfl⟩ := hF5.rd.2.len; replace bR := bR.keep hb; have B5 := below_step B4 hb; have hs5 := hb.size; clear hb; have r0 := bR.c 0 rfl; have r1 := bR.c 1 rfl; have r2 := bR.c 2 rfl; have rf0 := bR.f 0 rfl; have rf1 := bR.f 1 rfl; have rf2 := bR.f 2 rfl; go_wp2_with fail; have bE := ((bR.set 0 (.slice n1 (⟨N9, lnks n L k, wd⟩ : Fb).nodes.length n2)).set 1 (.slice m1 (⟨N9, lnks n L k, wd⟩ : Fb).links.length m2)).set 2 (.int .i64 (⟨N9, lnks n L k, wd⟩ : Fb).width); have e0 := bE.c 0 rfl; have e1 := bE.c 1 rfl; have e2 := bE.c 2 rfl; have nR : ¬ Rg w4.heap.size w5.heap.size R := fun q => by have := q.1; omega
    have hF6 := ((hF5.agr (agr_setS (g := R) (o := 0) (u := .slice n1 (⟨N9, lnks n L k, wd⟩ : Fb).nodes.length n2) _ nR)).agr (agr_setS (g := R) (o := 1) (u := .slice m1 (⟨N9, lnks n L k, wd⟩ : Fb).links.length m2) _ nR)).agr (agr_setS (g := R) (o := 2) (u := .int .i64 (⟨N9, lnks n L k, wd⟩ : Fb).width) _ nR)
    exact bodyPost_ret (v := .tuple #[.agg #[.slice n1 (⟨N9, lnks n L k, wd⟩ : Fb).nodes.length n2, .slice m1 (⟨N9, lnks n L k, wd⟩ : Fb).links.length m2, .int .i64 (⟨N9, lnks n L k, wd⟩ : Fb).width], .bool true]) (by simp [results, Tryz.results19, go_sem, e0, e1, e2]) rfl
     ⟨.slice n1 (⟨N9, lnks n L k, wd⟩ : Fb).nodes.length n2, .slice m1 (⟨N9, lnks n L k, wd⟩ : Fb).links.length m2, by rw [HYES.out.1, HYES.out.2], by rw [HYES.out.1]; exact owF_mono hF6 (fun b q => ⟨by have := q.1; omega, by have := q.2; simp; omega⟩), ((B5.setCell (p := ⟨R, 0, none⟩) hwR _).setCell (p := ⟨R, 1, none⟩) hwR _).setCell (p := ⟨R, 2, none⟩) hwR _⟩

end Go.Proofs.YtkodnipmogdgkaaGreat
namespace Go.Proofs.YtkodnipmogdgkaaGreat
open Go.ChangeShapes Go.WideShapes Go.ChangeAt Go.RowKit Go.BigFrame Go.Joins
open List (setIfInBounds_toArray set_cons_succ set_cons_zero)
set_option linter.unusedVariables false
set_option maxRecDepth 100000
set_option linter.unusedSimpArgs false
set_option maxRecDepth 100000

set_option maxHeartbeats 24000000 in
theorem inew_any (nv uv : Value) (N9 : List Nd) (L : List Pr) (wd : Int) (w : World) (hN9 : RdNS w nv N9) (hU : RdUS w uv L) (hw : (N9.length + wtNS N9) + L.length ≤ 1048576) :
  Calls Tryz.prog 22 #[nv, uv, .int .i64 wd] w fun e w' => ∃ nv lv, e = .returned (.tuple #[.agg #[nv, lv, .int .i64 (fabNewF N9 L wd).width], .bool (okNew N9 L wd)]) ∧ OwF w' (Rg w.heap.size w'.heap.size) nv lv (fabNewF N9 L wd) ∧ Below w.heap.size w w' := by
 obtain ⟨na, nc, rfl⟩ := hN9.len; obtain ⟨ua, uc, rfl, hc⟩ := hU.el; have hwX := newF_wt (wd := wd) hw; obtain ⟨n, hn⟩ : ∃ n, n = N9.length := ⟨_, rfl⟩; obtain ⟨m, hm⟩ : ∃ m, m = L.length := ⟨_, rfl⟩; have hnn : n ≤ 1048576 := by omega
 have hmm : m ≤ 1048576 := by omega
 have HN := Lib.hid hn; have HM := Lib.hid hm; have HU := Lib.hid hU; have HN9 := Lib.hid hN9; have HWX := Lib.hid hwX; rw [← hm] at hc
 try rw [← hn, ← hm]
 clear hn hm hU hN9 hwX hw; have hmk := fun W => makeInts n hnn W
 obtain ⟨bR, bO, B0, z⟩ := two w [.slice none 0 0, .slice none 0 0, .int .i64 0] [.slice na n nc, .slice none 0 0, .int .i64 wd] 30 30
 go_enter Tryz.func22, Tryz.ntmps22
 go_wp2; obtain ⟨W0, hW0⟩ : ∃ W0, W0 = (w.alloc (.cells #[.slice none 0 0, .slice none 0 0, .int .i64 0] 30)).alloc (.cells #[.slice na n nc, .slice none 0 0, .int .i64 wd] 30) := ⟨_, rfl⟩; rw [← hW0] at bR bO B0 z ⊢; clear hW0 hmk; obtain ⟨W1, hW1⟩ : ∃ W1, W1 = W0.alloc (.cells (madeCells #[Value.int .i64 0] n) 3) := ⟨_, rfl⟩; have A1 : Below W0.heap.size W0 W1 := by rw [hW1]; exact (Below.refl _ _).alloc (Nat.le_refl _) _
 have bNx : Bl W1 W0.heap.size ((nextL n L 0).map (Value.int .i64)) := by
  have := Bl.new W0 (madeCells #[Value.int .i64 0] n).toList 3 W0.heap.size rfl; rw [hW1]; simp only [nextL]; rw [← toList_madeB_I]
  simpa using this
 have hz1 : W1.heap.size = W0.heap.size + 1 := by rw [hW1]; simp
 rw [← hW1]; obtain ⟨R, hR⟩ : ∃ R, R = w.heap.size := ⟨_, rfl⟩; obtain ⟨O, hO⟩ : ∃ O, O = w.heap.size + 1 := ⟨_, rfl⟩; obtain ⟨NB, hNB⟩ : ∃ NB, NB = w.heap.size + 2 := ⟨_, rfl⟩; rw [show W0.heap.size = NB by omega] at bNx; replace bR := bR.keep A1; replace bO := bO.keep A1; replace B0 := below_step B0 A1; rw [← hR] at bR; rw [← hO] at bO
 try rw [show W0.heap.size = NB by omega]
 try rw [← hNB]
 try rw [← hO]
 try rw [← hR]
 have hwR : w.heap.size ≤ R := by omega
 have hwO : w.heap.size ≤ O := by omega
 have hwN : w.heap.size ≤ NB := by omega
 have hRO : R ≠ O := by omega
 have hNO : NB ≠ O := by omega
 have hNR : NB ≠ R := by omega
 have hRW : R < W1.heap.size := by omega
 have hOW : O < W1.heap.size := by omega
 have hNW : NB < W1.heap.size := by omega
 have hwW : w.heap.size ≤ W1.heap.size := by omega
 clear hR hO hNB hW1 hz1 z A1
 go_loopw [22] (fun q wr => ∃ k : Nat, k ≤ m ∧ q = .int .i64 k ∧ ∃ (v2 : Value) (xs : List Value), (∀ i, i < k → prOk n (L.getD i u0) = true) ∧ GrLS wr W1.heap.size v2 (lnks n L k) xs ∧ Bl wr O [.slice na n nc, v2, .int .i64 wd] ∧ Bl wr R [.slice none 0 0, .slice none 0 0, .int .i64 0] ∧ Bl wr NB ((nextL n L k).map (Value.int .i64)) ∧ Below w.heap.size w wr ∧ W1.heap.size ≤ wr.heap.size) (fun q _ => m - (intOf q).toNat)
 case atStart => exact ⟨0, Nat.zero_le _, rfl, _, [], fun i hi => absurd hi (by omega), GrLS.nil _ _, bO, bR, bNx, B0, Nat.le_refl _⟩
 case round =>
  obtain ⟨k, hk, rfl, v2, xs, hall, hG, bO1, bR1, bNx, hB, hsz⟩ := hrel; have hwn : IntKind.i64.wrap ((n : Int) - 1) = (n : Int) - 1 := wrap64_in _ (by omega) (by omega)
  by_cases hlt : k < m
  ·have hltI : (k : Int) < (m : Int) := by omega
   obtain ⟨b0, o0, rfl, hE⟩ := hc k hlt; obtain ⟨x, hx⟩ : ∃ x, L.getD k u0 = x := ⟨_, rfl⟩; rw [hx] at hE; obtain ⟨jv, hr, g0⟩ := hE; have l0 := cell_keep hB (World.block_lt_of_cell? w _ g0) g0
   by_cases h2 : x.l.length = 2
   ·obtain ⟨rb, ro, rc, rfl, y0, y1⟩ := rdU_two hr h2
    obtain ⟨v0, hv0⟩ : ∃ v, v = x.l.getD 0 0 := ⟨_, rfl⟩; obtain ⟨v1, hv1⟩ : ∃ v, v = x.l.getD 1 0 := ⟨_, rfl⟩; have k0 := cell_keep hB (World.block_lt_of_cell? w _ y0) y0; have k1 := cell_keep hB (World.block_lt_of_cell? w _ y1) y1; rw [← hv0] at k0; rw [← hv1] at k1; cases hi0 : inB v0 0 ((n : Int) - 1)
    ·have HI0 := Lib.hid hi0
     have HI1 := HI0; have hpo : prOk n x = false := prOk_no (by have := inB_no hi0; omega); rw [HN.out] at hpo; have HNO : Hid (fabNewF N9 L wd = fb0 ∧ okNew N9 L wd = false) := Lib.hid (newF_no (okNew_pr (k := k) (by rw [← HM.out]; exact hlt) (by rw [hx]; exact hpo))); clear hx hpo hc hG bNx bO1 hr g0 hv0 hv1 y0 y1; have bR := bR1; clear bR1; have r0 := bR.c 0 rfl; have r1 := bR.c 1 rfl; have r2 := bR.c 2 rfl; have rf0 := bR.f 0 rfl; have rf1 := bR.f 1 rfl; have rf2 := bR.f 2 rfl; go_wp2_with (first | (go_at_call_of 51 (Value.int IntKind.i64 v0); refine (within_t _ HI0).mono ?_; rintro e w9 ⟨rfl, rfl⟩) | (go_at_call 51; refine (within_t _ HI1).mono ?_; rintro e w9 ⟨rfl, rfl⟩)); have bE := ((bR.set 0 (.slice none 0 0)).set 1 (.slice none 0 0)).set 2 (.int .i64 0); have e0 := bE.c 0 rfl; have e1 := bE.c 1 rfl; have e2 := bE.c 2 rfl
     exact bodyPost_ret (v := .tuple #[.agg #[.slice none 0 0, .slice none 0 0, .int .i64 0], .bool false]) (by simp [results, Tryz.results22, go_sem, e0, e1, e2]) rfl
      ⟨.slice none 0 0, .slice none 0 0, by rw [HNO.out.1, HNO.out.2]; rfl, by rw [HNO.out.1]; exact owF0 _ _, ((hB.setCell (p := ⟨R, 0, none⟩) hwR _).setCell (p := ⟨R, 1, none⟩) hwR _).setCell (p := ⟨R, 2, none⟩) hwR _⟩
    ·have HI0 := Lib.hid hi0
     clear hi0; cases hi1 : inB v1 0 ((n : Int) - 1)
     ·have HI1 := Lib.hid hi1
      have hpo : prOk n x = false := prOk_no (by have := inB_no hi1; omega); rw [HN.out] at hpo; have HNO : Hid (fabNewF N9 L wd = fb0 ∧ okNew N9 L wd = false) := Lib.hid (newF_no (okNew_pr (k := k) (by rw [← HM.out]; exact hlt) (by rw [hx]; exact hpo))); clear hx hpo hc hG bNx bO1 hr g0 hv0 hv1 y0 y1; have bR := bR1; clear bR1; have r0 := bR.c 0 rfl; have r1 := bR.c 1 rfl; have r2 := bR.c 2 rfl; have rf0 := bR.f 0 rfl; have rf1 := bR.f 1 rfl; have rf2 := bR.f 2 rfl; go_wp2_with (first | (go_at_call_of 51 (Value.int IntKind.i64 v0); refine (within_t _ HI0).mono ?_; rintro e w9 ⟨rfl, rfl⟩) | (go_at_call 51; refine (within_t _ HI1).mono ?_; rintro e w9 ⟨rfl, rfl⟩)); have bE := ((bR.set 0 (.slice none 0 0)).set 1 (.slice none 0 0)).set 2 (.int .i64 0); have e0 := bE.c 0 rfl; have e1 := bE.c 1 rfl; have e2 := bE.c 2 rfl
      exact bodyPost_ret (v := .tuple #[.agg #[.slice none 0 0, .slice none 0 0, .int .i64 0], .bool false]) (by simp [results, Tryz.results22, go_sem, e0, e1, e2]) rfl
       ⟨.slice none 0 0, .slice none 0 0, by rw [HNO.out.1, HNO.out.2]; rfl, by rw [HNO.out.1]; exact owF0 _ _, ((hB.setCell (p := ⟨R, 0, none⟩) hwR _).setCell (p := ⟨R, 1, none⟩) hwR _).setCell (p := ⟨R, 2, none⟩) hwR _⟩
     ·have HI1 := Lib.hid hi1
      clear hi1; have hpo : prOk n x = true := prOk_yes h2 (by have := inB_of HI0.out; omega) (by have := inB_of HI0.out; omega) (by have := inB_of HI1.out; omega) (by have := inB_of HI1.out; omega)
      have HALL : Hid (∀ i, i < k + 1 → prOk n (L.getD i u0) = true) := Lib.hid fun i hi => by
       by_cases e : i = k
       ·subst e; rw [hx]; exact hpo
       ·exact hall i (by omega)
      obtain ⟨-, a, c, ha, hc9, han, hcn⟩ := prOk_of hpo; rw [ha] at y0; rw [hc9] at y1; have l1 := cell_keep hB (World.block_lt_of_cell? w _ y0) y0; have l2 := cell_keep hB (World.block_lt_of_cell? w _ y1) y1; have haI : (a : Int) < (n : Int) := by omega
      have hcI : (c : Int) < (n : Int) := by omega
      obtain ⟨N, hN⟩ : ∃ N, N = nextL n L k := ⟨_, rfl⟩; rw [← hN] at bNx; have hNl : N.length = n := by rw [hN]; exact nextL_len n L k
      obtain ⟨va, hva⟩ : ∃ v, v = N.getD a 0 := ⟨_, rfl⟩; obtain ⟨vc, hvc⟩ : ∃ v, v = N.getD c 0 := ⟨_, rfl⟩; have HNA : Hid ((N.map (Value.int .i64))[a]? = some (.int .i64 va)) := Lib.hid (by rw [List.getElem?_map, List.getElem?_eq_getElem (by omega), hva]; simp [List.getD, hNl, han]); have HNC : Hid ((N.map (Value.int .i64))[c]? = some (.int .i64 vc)) := Lib.hid (by rw [List.getElem?_map, List.getElem?_eq_getElem (by omega), hvc]; simp [List.getD, hNl, hcn])
      have HNB : Hid ((0 ≤ va ∧ va ≤ 2 * 1048576) ∧ (0 ≤ vc ∧ vc ≤ 2 * 1048576)) := Lib.hid (by
       have h1 := nextL_bd2 n L k a; have h2 := nextL_bd2 n L k c; rw [← hN] at h1 h2
       omega)
      have HNX : Hid (nextL n L (k + 1) = bump (bump N a) c) := Lib.hid (by rw [hN]; exact nextL_succ hx ha hc9); have HLA : Hid ((lnkAt n L k = ⟨a, va, c, vc, true, [], []⟩) ∧ N.length = n) := Lib.hid ⟨by rw [hva, hvc, hN]; exact lnkAt_eq hx ha hc9, hNl⟩; have HVV : Hid (va = N.getD a 0 ∧ vc = N.getD c 0) := Lib.hid ⟨hva, hvc⟩; clear hva hvc; have HCC := Lib.hid hc; rw [hv0, ha] at HI0; rw [hv1, hc9] at HI1; clear hc hx hN hNl ha hc9 hpo hr g0 y0 y1 h2 hall hv0 hv1 k0 k1; go_wp2_with (first | (go_at_call_of 51 (Value.int IntKind.i64 (a : Int)); refine (within_t _ HI0).mono ?_; rintro e w9 ⟨rfl, rfl⟩) | (go_at_call 51; refine (within_t _ HI1).mono ?_; rintro e w9 ⟨rfl, rfl⟩))
      go_region_held3 (fun w' => Over wr w' ∧ w'.cell? ⟨rb, ro, none⟩ = some (.int .i64 a) ∧ w'.cell? ⟨rb, ro + 1, none⟩ = some (.int .i64 c))
       ((first | exact ⟨over_drew _, l1, l2⟩ | exact (fun o => ⟨o, over_cell o (World.block_lt_of_cell? _ _ l1) l1, over_cell o (World.block_lt_of_cell? _ _ l2) l2⟩) (over_step (‹Over wr _ ∧ _›).1 (by assumption))))
       (fail)
      obtain ⟨wv, hwv⟩ : ∃ wv, wv = wr.drew := ⟨_, rfl⟩; have Ov : Over wr wv := by rw [hwv]; exact over_drew _
      rw [← hwv]; clear hwv; replace hG := hG.keep Ov; replace bO1 := bO1.keep Ov; replace bR1 := bR1.keep Ov; replace bNx := bNx.keep Ov; replace hB := below_step hB Ov; replace hsz := Nat.le_trans hsz Ov.size; clear l0 l1 l2 Ov; go_wp2_with fail; refine wp_region_held_drew (S := fun w' => Bl w' NB (N.map (Value.int .i64))) (by kernel_rfl) (bNx.keep (over_drew _)) (fun hHeld => ?_); clear hHeld; obtain ⟨D, hD⟩ : ∃ D, D = wv.drew := ⟨_, rfl⟩; have OD : Over wv D := by rw [hD]; exact over_drew _
      rw [← hD]; clear hD; have bPD := bNx.keep OD; have hSD := bPD; refine tk 0 56 (v := ?_) hSD ?_ ?_; rotate_left
      ·intro wq hSq
       go_simp
       try rfl
      simp only [Act.put, setIfInBounds_toArray, set_cons_succ, set_cons_zero]; refine tk 2 58 (v := ?_) hSD ?_ ?_; rotate_left
      ·intro wq hSq
       go_simp
       try rfl
      simp only [Act.put, setIfInBounds_toArray, set_cons_succ, set_cons_zero]; refine tk 3 59 (v := ?_) hSD ?_ ?_; rotate_left
      ·intro wq hSq
       go_simp
       try rfl
      simp only [Act.put, setIfInBounds_toArray, set_cons_succ, set_cons_zero]; refine tk 4 60 (v := ?_) hSD ?_ ?_; rotate_left
      ·intro wq hSq
       go_simp
       try rfl
      simp only [Act.put, setIfInBounds_toArray, set_cons_succ, set_cons_zero]; refine tk 5 61 (v := ?_) hSD ?_ ?_; rotate_left
      ·intro wq hSq
       go_simp
       try rfl
      simp only [Act.put, setIfInBounds_toArray, set_cons_succ, set_cons_zero]; refine tk 6 62 (v := ?_) hSD ?_ ?_; rotate_left
      ·intro wq hSq
       have q0 := hSq.c a HNA.out
       go_simp
       try rfl
      simp only [Act.put, setIfInBounds_toArray, set_cons_succ, set_cons_zero]; refine tk 7 63 (v := ?_) hSD ?_ ?_; rotate_left
      ·intro wq hSq
       go_simp
       try rfl
      simp only [Act.put, setIfInBounds_toArray, set_cons_succ, set_cons_zero]; refine tk 8 64 (v := ?_) hSD ?_ ?_; rotate_left
      ·intro wq hSq
       go_simp
       try rfl
      simp only [Act.put, setIfInBounds_toArray, set_cons_succ, set_cons_zero]; refine tk 9 65 (v := ?_) hSD ?_ ?_; rotate_left
      ·intro wq hSq
       go_simp
       try rfl
      simp only [Act.put, setIfInBounds_toArray, set_cons_succ, set_cons_zero]; refine tk 10 66 (v := ?_) hSD ?_ ?_; rotate_left
      ·intro wq hSq
       go_simp
       try rfl
      simp only [Act.put, setIfInBounds_toArray, set_cons_succ, set_cons_zero]; refine tk 11 67 (v := ?_) hSD ?_ ?_; rotate_left
      ·intro wq hSq
       have q0 := hSq.c c HNC.out
       go_simp
       try rfl
      simp only [Act.put, setIfInBounds_toArray, set_cons_succ, set_cons_zero]; refine tk 12 68 (v := ?_) hSD ?_ ?_; rotate_left
      ·intro wq hSq
       go_simp
       try rfl
      simp only [Act.put, setIfInBounds_toArray, set_cons_succ, set_cons_zero]; clear hSD; refine wpAnyH_ready (rs := [1, 13]) (by kernel_rfl) (by simp) ?_; refine (AllReadyH.cons rfl (fun K hK => ?_) (AllReadyH.cons rfl (fun K hK => ?_) AllReadyH.nil))
      ·have q := (bO1.keep OD).c 1 rfl
       go_simp
       refine hK.out _ _ bPD (fun hHeld => ?_); clear hK K hHeld q
       try simp only [Act.put, setIfInBounds_toArray, set_cons_succ, set_cons_zero]
       refine rd1 13 fun K hK => ?_
       go_simp
       have bN := Bl.new D [.int .i64 a, .int .i64 va, .int .i64 c, .int .i64 vc, .bool true, .slice none 0 0, .slice none 0 0] 70 D.heap.size rfl; have N1 : Below D.heap.size D (D.alloc (.cells #[.int .i64 a, .int .i64 va, .int .i64 c, .int .i64 vc, .bool true, .slice none 0 0, .slice none 0 0] 70)) := (Below.refl _ _).alloc (Nat.le_refl _) _; have zN : D.heap.size < (D.alloc (.cells #[.int .i64 a, .int .i64 va, .int .i64 c, .int .i64 vc, .bool true, .slice none 0 0, .slice none 0 0] 70)).heap.size := by simp
       have B3 : Below D.heap.size D (D.alloc (.cells #[.int .i64 a, .int .i64 va, .int .i64 c, .int .i64 vc, .bool true, .slice none 0 0, .slice none 0 0] 70)) := (Below.refl _ _).alloc (Nat.le_refl _) _; refine hK.out _ _ (bPD.keep B3) (fun hHeld => ?_); clear hK K hHeld
       try simp only [Act.put, setIfInBounds_toArray, set_cons_succ, set_cons_zero]
       refine rd1 14 fun K hK => ?_
       have hG2 := hG.keep OD; have hWD : W1.heap.size ≤ D.heap.size := Nat.le_trans hsz OD.size; have hG3 := hG2.keep B3; refine step_apL rfl (.tmp 57) (.tmp 69) rfl W1.heap.size D.heap.size 1 v2 (lnks n L k).length xs [.int .i64 a, .int .i64 va, .int .i64 c, .int .i64 vc, .bool true, .slice none 0 0, .slice none 0 0] rfl rfl hG3.row bN rfl (by simp [Value.oneCell']) (by rw [lnks_len]; omega) (Nat.le_trans hWD B3.size) ?_; intro v3 w3 hrow hg hor; have hGn := hG2.step hWD B3 (x := ⟨a, va, c, vc, true, [], []⟩) (S := fun _ => False) ⟨fun _ => False, fun _ => False, fun _ q => q.elim, fun _ q => q.elim, fun _ q _ => q.elim, owMS0 _ _, owMS0 _ _⟩ (fun b q => q.elim) hrow hg hor; have hB3 : Below w.heap.size w w3 := below_grL (below_step (below_step hB OD) B3) hG3 hwW hg; have bO3 := ((bO1.keep OD).keep B3).grown hg (ne_grL hG3 hOW); have bP3 := (bPD.keep B3).grown hg (ne_grL hG3 hNW); have bR3 := ((bR1.keep OD).keep B3).grown hg (ne_grL hG3 hRW); have hs3 := Nat.le_trans hWD (Nat.le_trans B3.size hg.size); clear hg hrow hor hG2 hG3
       obtain ⟨x3, y3, rfl⟩ : ∃ x3 y3, v3 = .slice x3 (k + 1) y3 := by
        obtain ⟨x3, y3, e3⟩ := hGn.lenV
        exact ⟨x3, y3, by rw [e3]; simp [lnks_len]⟩
       refine hK.out _ _ bP3 (fun hHeld => ?_); clear hK K hHeld
       try simp only [Act.put, setIfInBounds_toArray, set_cons_succ, set_cons_zero]
       refine rd1 15 fun K hK => ?_
       go_simp
       refine hK.out _ _ bP3 (fun hHeld => ?_); clear hK K hHeld
       try simp only [Act.put, setIfInBounds_toArray, set_cons_succ, set_cons_zero]
       refine rd1 16 fun K hK => ?_
       have of0 := bO3.f 1 rfl; have o0 := bO3.c 1 rfl
       go_simp
       refine hK.out _ _ (bP3.far hNO) (fun hHeld => ?_); clear hK K hHeld o0 of0
       try simp only [Act.put, setIfInBounds_toArray, set_cons_succ, set_cons_zero]
       refine wpAnyH_done (by kernel_rfl) ?_ _; have hGf := hGn.far (B := O) (o := 1) (u := .slice x3 (k + 1) y3) hOW; have bOf := bO3.set 1 (.slice x3 (k + 1) y3); have bRf := bR3.far (o := 1) (u := .slice x3 (k + 1) y3) hRO; have bNf := bP3.far (o := 1) (u := .slice x3 (k + 1) y3) hNO; have hBf := hB3.setCell (p := ⟨O, 1, none⟩) hwO (.slice x3 (k + 1) y3); obtain ⟨W8, hW8⟩ : ∃ W8, W8 = w3.setCell ⟨O, 1, none⟩ (.slice x3 (k + 1) y3) := ⟨_, rfl⟩; have hs8 : W1.heap.size ≤ W8.heap.size := by rw [hW8]; simpa using hs3
       rw [← hW8] at hGf bOf bRf bNf hBf ⊢; clear hW8 hGn bO3 bR3 bP3 hB3 bPD bN N1 zN B3 hs3; have hw1 : IntKind.i64.wrap (va + 1) = va + 1 := wrap64_in _ (by have := HNB.out.1; omega) (by have := HNB.out.1; omega)
       by_cases hac : a = c
       ·subst hac
        have hvv : vc = va := HVV.out.2.trans HVV.out.1.symm; have q0 := bNf.c a HNA.out; have f0 := bNf.f a HNA.out; have hw2 : IntKind.i64.wrap (va + 1 + 1) = va + 1 + 1 := wrap64_in _ (by have := HNB.out.1; omega) (by have := HNB.out.1; omega); have bNe := (bNf.set a (.int .i64 (va + 1))).set a (.int .i64 (va + 1 + 1)); have hBe := (hBf.setCell (p := ⟨NB, a, none⟩) hwN (.int .i64 (va + 1))).setCell (p := ⟨NB, a, none⟩) hwN (.int .i64 (va + 1 + 1)); have hGe := (hGf.far (B := NB) (o := a) (u := .int .i64 (va + 1)) hNW).far (B := NB) (o := a) (u := .int .i64 (va + 1 + 1)) hNW; have bOe := (bOf.far (o := a) (u := .int .i64 (va + 1)) hNO.symm).far (o := a) (u := .int .i64 (va + 1 + 1)) hNO.symm; have bRe := (bRf.far (o := a) (u := .int .i64 (va + 1)) hNR.symm).far (o := a) (u := .int .i64 (va + 1 + 1)) hNR.symm; have HNE := Lib.hid bNe; clear bNe bNf bOf bRf hGf hBf; go_wp2
        go_roundw
        case rel => exact ⟨k + 1, by omega, by go_num, _, _, HALL.out, (by rw [show lnks n L (k + 1) = lnks n L k ++ [⟨a, va, a, vc, true, [], []⟩] from by rw [← HLA.out.1]; rfl]; exact hGe), bOe, bRe, by have := HNE.out; rw [show nextL n L (k + 1) = _ from HNX.out]; rw [bump_same (a := a) (by rw [HLA.out.2]; omega), ← HVV.out.1]; exact this, hBe, by simpa using hs8⟩
        case measure => simp [intOf]; omega
       ·have q0 := bNf.c a HNA.out
        have f0 := bNf.f a HNA.out; have q1 := bNf.c c HNC.out; have f1 := bNf.f c HNC.out; have hw2 : IntKind.i64.wrap (vc + 1) = vc + 1 := wrap64_in _ (by have := HNB.out.2; omega) (by have := HNB.out.2; omega); have bNe := (bNf.set a (.int .i64 (va + 1))).set c (.int .i64 (vc + 1)); have hBe := (hBf.setCell (p := ⟨NB, a, none⟩) hwN (.int .i64 (va + 1))).setCell (p := ⟨NB, c, none⟩) hwN (.int .i64 (vc + 1)); have hGe := (hGf.far (B := NB) (o := a) (u := .int .i64 (va + 1)) hNW).far (B := NB) (o := c) (u := .int .i64 (vc + 1)) hNW; have bOe := (bOf.far (o := a) (u := .int .i64 (va + 1)) hNO.symm).far (o := c) (u := .int .i64 (vc + 1)) hNO.symm; have bRe := (bRf.far (o := a) (u := .int .i64 (va + 1)) hNR.symm).far (o := c) (u := .int .i64 (vc + 1)) hNR.symm; have HNE := Lib.hid bNe; clear bNe bNf bOf bRf hGf hBf; go_wp2
        go_roundw
        case rel => exact ⟨k + 1, by omega, by go_num, _, _, HALL.out, (by rw [show lnks n L (k + 1) = lnks n L k ++ [⟨a, va, c, vc, true, [], []⟩] from by rw [← HLA.out.1]; rfl]; exact hGe), bOe, bRe, by have := HNE.out; rw [show nextL n L (k + 1) = _ from HNX.out]; rw [bump_two hac, ← HVV.out.1, ← HVV.out.2]; exact this, hBe, by simpa using hs8⟩
        case measure => simp [intOf]; omega
      ·go_simp
       have bN := Bl.new D [.int .i64 a, .int .i64 va, .int .i64 c, .int .i64 vc, .bool true, .slice none 0 0, .slice none 0 0] 70 D.heap.size rfl; have N1 : Below D.heap.size D (D.alloc (.cells #[.int .i64 a, .int .i64 va, .int .i64 c, .int .i64 vc, .bool true, .slice none 0 0, .slice none 0 0] 70)) := (Below.refl _ _).alloc (Nat.le_refl _) _; have zN : D.heap.size < (D.alloc (.cells #[.int .i64 a, .int .i64 va, .int .i64 c, .int .i64 vc, .bool true, .slice none 0 0, .slice none 0 0] 70)).heap.size := by simp
       have B3 : Below D.heap.size D (D.alloc (.cells #[.int .i64 a, .int .i64 va, .int .i64 c, .int .i64 vc, .bool true, .slice none 0 0, .slice none 0 0] 70)) := (Below.refl _ _).alloc (Nat.le_refl _) _; refine hK.out _ _ (bPD.keep B3) (fun hHeld => ?_); clear hK K hHeld
       try simp only [Act.put, setIfInBounds_toArray, set_cons_succ, set_cons_zero]
       refine rd1 1 fun K hK => ?_
       have q := ((bO1.keep OD).keep B3).c 1 rfl
       go_simp
       refine hK.out _ _ (bPD.keep B3) (fun hHeld => ?_); clear hK K hHeld q
       try simp only [Act.put, setIfInBounds_toArray, set_cons_succ, set_cons_zero]
       refine rd1 14 fun K hK => ?_
       have hG2 := hG.keep OD; have hWD : W1.heap.size ≤ D.heap.size := Nat.le_trans hsz OD.size; have hG3 := hG2.keep B3; refine step_apL rfl (.tmp 57) (.tmp 69) rfl W1.heap.size D.heap.size 1 v2 (lnks n L k).length xs [.int .i64 a, .int .i64 va, .int .i64 c, .int .i64 vc, .bool true, .slice none 0 0, .slice none 0 0] rfl rfl hG3.row bN rfl (by simp [Value.oneCell']) (by rw [lnks_len]; omega) (Nat.le_trans hWD B3.size) ?_; intro v3 w3 hrow hg hor; have hGn := hG2.step hWD B3 (x := ⟨a, va, c, vc, true, [], []⟩) (S := fun _ => False) ⟨fun _ => False, fun _ => False, fun _ q => q.elim, fun _ q => q.elim, fun _ q _ => q.elim, owMS0 _ _, owMS0 _ _⟩ (fun b q => q.elim) hrow hg hor; have hB3 : Below w.heap.size w w3 := below_grL (below_step (below_step hB OD) B3) hG3 hwW hg; have bO3 := ((bO1.keep OD).keep B3).grown hg (ne_grL hG3 hOW); have bP3 := (bPD.keep B3).grown hg (ne_grL hG3 hNW); have bR3 := ((bR1.keep OD).keep B3).grown hg (ne_grL hG3 hRW); have hs3 := Nat.le_trans hWD (Nat.le_trans B3.size hg.size); clear hg hrow hor hG2 hG3
       obtain ⟨x3, y3, rfl⟩ : ∃ x3 y3, v3 = .slice x3 (k + 1) y3 := by
        obtain ⟨x3, y3, e3⟩ := hGn.lenV
        exact ⟨x3, y3, by rw [e3]; simp [lnks_len]⟩
       refine hK.out _ _ bP3 (fun hHeld => ?_); clear hK K hHeld
       try simp only [Act.put, setIfInBounds_toArray, set_cons_succ, set_cons_zero]
       refine rd1 15 fun K hK => ?_
       go_simp
       refine hK.out _ _ bP3 (fun hHeld => ?_); clear hK K hHeld
       try simp only [Act.put, setIfInBounds_toArray, set_cons_succ, set_cons_zero]
       refine rd1 16 fun K hK => ?_
       have of0 := bO3.f 1 rfl; have o0 := bO3.c 1 rfl
       go_simp
       refine hK.out _ _ (bP3.far hNO) (fun hHeld => ?_); clear hK K hHeld o0 of0
       try simp only [Act.put, setIfInBounds_toArray, set_cons_succ, set_cons_zero]
       refine wpAnyH_done (by kernel_rfl) ?_ _; have hGf := hGn.far (B := O) (o := 1) (u := .slice x3 (k + 1) y3) hOW; have bOf := bO3.set 1 (.slice x3 (k + 1) y3); have bRf := bR3.far (o := 1) (u := .slice x3 (k + 1) y3) hRO; have bNf := bP3.far (o := 1) (u := .slice x3 (k + 1) y3) hNO; have hBf := hB3.setCell (p := ⟨O, 1, none⟩) hwO (.slice x3 (k + 1) y3); obtain ⟨W8, hW8⟩ : ∃ W8, W8 = w3.setCell ⟨O, 1, none⟩ (.slice x3 (k + 1) y3) := ⟨_, rfl⟩; have hs8 : W1.heap.size ≤ W8.heap.size := by rw [hW8]; simpa using hs3
       rw [← hW8] at hGf bOf bRf bNf hBf ⊢; clear hW8 hGn bO3 bR3 bP3 hB3 bPD bN N1 zN B3 hs3; have hw1 : IntKind.i64.wrap (va + 1) = va + 1 := wrap64_in _ (by have := HNB.out.1; omega) (by have := HNB.out.1; omega)
       by_cases hac : a = c
       ·subst hac
        have hvv : vc = va := HVV.out.2.trans HVV.out.1.symm; have q0 := bNf.c a HNA.out; have f0 := bNf.f a HNA.out; have hw2 : IntKind.i64.wrap (va + 1 + 1) = va + 1 + 1 := wrap64_in _ (by have := HNB.out.1; omega) (by have := HNB.out.1; omega); have bNe := (bNf.set a (.int .i64 (va + 1))).set a (.int .i64 (va + 1 + 1)); have hBe := (hBf.setCell (p := ⟨NB, a, none⟩) hwN (.int .i64 (va + 1))).setCell (p := ⟨NB, a, none⟩) hwN (.int .i64 (va + 1 + 1)); have hGe := (hGf.far (B := NB) (o := a) (u := .int .i64 (va + 1)) hNW).far (B := NB) (o := a) (u := .int .i64 (va + 1 + 1)) hNW; have bOe := (bOf.far (o := a) (u := .int .i64 (va + 1)) hNO.symm).far (o := a) (u := .int .i64 (va + 1 + 1)) hNO.symm; have bRe := (bRf.far (o := a) (u := .int .i64 (va + 1)) hNR.symm).far (o := a) (u := .int .i64 (va + 1 + 1)) hNR.symm; have HNE := Lib.hid bNe; clear bNe bNf bOf bRf hGf hBf; go_wp2
        go_roundw
        case rel => exact ⟨k + 1, by omega, by go_num, _, _, HALL.out, (by rw [show lnks n L (k + 1) = lnks n L k ++ [⟨a, va, a, vc, true, [], []⟩] from by rw [← HLA.out.1]; rfl]; exact hGe), bOe, bRe, by have := HNE.out; rw [show nextL n L (k + 1) = _ from HNX.out]; rw [bump_same (a := a) (by rw [HLA.out.2]; omega), ← HVV.out.1]; exact this, hBe, by simpa using hs8⟩
        case measure => simp [intOf]; omega
       ·have q0 := bNf.c a HNA.out
        have f0 := bNf.f a HNA.out; have q1 := bNf.c c HNC.out; have f1 := bNf.f c HNC.out; have hw2 : IntKind.i64.wrap (vc + 1) = vc + 1 := wrap64_in _ (by have := HNB.out.2; omega) (by have := HNB.out.2; omega); have bNe := (bNf.set a (.int .i64 (va + 1))).set c (.int .i64 (vc + 1)); have hBe := (hBf.setCell (p := ⟨NB, a, none⟩) hwN (.int .i64 (va + 1))).setCell (p := ⟨NB, c, none⟩) hwN (.int .i64 (vc + 1)); have hGe := (hGf.far (B := NB) (o := a) (u := .int .i64 (va + 1)) hNW).far (B := NB) (o := c) (u := .int .i64 (vc + 1)) hNW; have bOe := (bOf.far (o := a) (u := .int .i64 (va + 1)) hNO.symm).far (o := c) (u := .int .i64 (vc + 1)) hNO.symm; have bRe := (bRf.far (o := a) (u := .int .i64 (va + 1)) hNR.symm).far (o := c) (u := .int .i64 (vc + 1)) hNR.symm; have HNE := Lib.hid bNe; clear bNe bNf bOf bRf hGf hBf; go_wp2
        go_roundw
        case rel => exact ⟨k + 1, by omega, by go_num, _, _, HALL.out, (by rw [show lnks n L (k + 1) = lnks n L k ++ [⟨a, va, c, vc, true, [], []⟩] from by rw [← HLA.out.1]; rfl]; exact hGe), bOe, bRe, by have := HNE.out; rw [show nextL n L (k + 1) = _ from HNX.out]; rw [bump_two hac, ← HVV.out.1, ← HVV.out.2]; exact this, hBe, by simpa using hs8⟩
        case measure => simp [intOf]; omega
   ·obtain ⟨ja, jx, rfl⟩ := RdI.len hr
    obtain ⟨q9, hq9⟩ : ∃ q, q = x.l.length := ⟨_, rfl⟩; have hb1 : ((q9 : Int) == 2) = false := by simp; omega
    have hb2 : ((q9 : Int) != 2) = true := by simp; omega
    rw [← hq9] at l0; have hpo : prOk n x = false := prOk_no (by omega); rw [HN.out] at hpo; have HNO : Hid (fabNewF N9 L wd = fb0 ∧ okNew N9 L wd = false) := Lib.hid (newF_no (okNew_pr (k := k) (by rw [← HM.out]; exact hlt) (by rw [hx]; exact hpo))); clear hx hpo hc hG bNx bO1 hr g0 hq9 h2; have bR := bR1; clear bR1; have r0 := bR.c 0 rfl; have r1 := bR.c 1 rfl; have r2 := bR.c 2 rfl; have rf0 := bR.f 0 rfl; have rf1 := bR.f 1 rfl; have rf2 := bR.f 2 rfl; go_wp2_with fail; have bE := ((bR.set 0 (.slice none 0 0)).set 1 (.slice none 0 0)).set 2 (.int .i64 0); have e0 := bE.c 0 rfl; have e1 := bE.c 1 rfl; have e2 := bE.c 2 rfl
    exact bodyPost_ret (v := .tuple #[.agg #[.slice none 0 0, .slice none 0 0, .int .i64 0], .bool false]) (by simp [results, Tryz.results22, go_sem, e0, e1, e2]) rfl
     ⟨.slice none 0 0, .slice none 0 0, by rw [HNO.out.1, HNO.out.2]; rfl, by rw [HNO.out.1]; exact owF0 _ _, ((hB.setCell (p := ⟨R, 0, none⟩) hwR _).setCell (p := ⟨R, 1, none⟩) hwR _).setCell (p := ⟨R, 2, none⟩) hwR _⟩
  ·obtain rfl : k = m := by omega
   clear hc hlt hk; have oL := hG.own (by rw [lnks_len]; omega); obtain ⟨l1, l2, rfl⟩ : ∃ l1 l2, v2 = .slice l1 (lnks n L k).length l2 := hG.lenV; have hall2 : ∀ i, i < L.length → prOk N9.length (L.getD i u0) = true := by rw [← HN.out, ← HM.out]; exact hall
   have o0 := bO1.c 0 rfl; have o1 := bO1.c 1 rfl; have o2 := bO1.c 2 rfl; clear hG hall bNx; go_wp2_with fail; clear o0 o1 o2; have HX9 : Hid (newF N9 L wd = ⟨N9, lnks n L k, wd⟩) := Lib.hid (by unfold newF; rw [← HN.out, ← HM.out]); have hNk : RdNS wr (.slice na n nc) N9 := by have q := HN9.out.keep hB; rw [← HN.out] at q; exact q
   have hR3 : RdF wr (.slice na n nc) (.slice l1 (lnks n L k).length l2) ⟨N9, lnks n L k, wd⟩ := ⟨hNk, oL.rd⟩; have HW9 : Hid (wtF ⟨N9, lnks n L k, wd⟩ ≤ 1048576) := Lib.hid (by rw [← HX9.out]; exact HWX.out); clear hNk; clear oL; have hwX2 : N9.length ≤ 1048576 ∧ (lnks n L k).length ≤ 1048576 := by have := HW9.out; unfold wtF at this; dsimp only at this; omega
   refine (ifok_any _ _ (⟨N9, lnks n L k, wd⟩ : Fb) wr hR3 hwX2.1 hwX2.2).mono ?_; rintro e w4 ⟨rfl, hb⟩; have bT := bO1.keep hb; have bR := bR1.keep hb; have hR4 := hR3.keep hb; have B4 := below_step hB hb; have hs4 := hb.size; clear hb hR3 hB bO1 bR1 hwX2; cases hfs : fbB (⟨N9, lnks n L k, wd⟩ : Fb)
   ·have hfb : fbB (newF N9 L wd) = false := by rw [HX9.out]; exact hfs
    have HNO : Hid (fabNewF N9 L wd = fb0 ∧ okNew N9 L wd = false) := Lib.hid (newF_no (okNew_fb hfb)); clear hfb hfs; have r0 := bR.c 0 rfl; have r1 := bR.c 1 rfl; have r2 := bR.c 2 rfl; have rf0 := bR.f 0 rfl; have rf1 := bR.f 1 rfl; have rf2 := bR.f 2 rfl; go_wp2_with fail; have bE := ((bR.set 0 (.slice none 0 0)).set 1 (.slice none 0 0)).set 2 (.int .i64 0); have e0 := bE.c 0 rfl; have e1 := bE.c 1 rfl; have e2 := bE.c 2 rfl
    exact bodyPost_ret (v := .tuple #[.agg #[.slice none 0 0, .slice none 0 0, .int .i64 0], .bool false]) (by simp [results, Tryz.results22, go_sem, e0, e1, e2]) rfl
     ⟨.slice none 0 0, .slice none 0 0, by rw [HNO.out.1, HNO.out.2]; rfl, by rw [HNO.out.1]; exact owF0 _ _, ((B4.setCell (p := ⟨R, 0, none⟩) hwR _).setCell (p := ⟨R, 1, none⟩) hwR _).setCell (p := ⟨R, 2, none⟩) hwR _⟩

   ·have hfb : fbB (newF N9 L wd) = true := by rw [HX9.out]; exact hfs
    have HYES := Lib.hid (newF_yes (okNew_all hall2 hfb)); rw [HX9.out] at HYES; have t0 := bT.c 0 rfl; have t1 := bT.c 1 rfl; have t2 := bT.c 2 rfl; clear hfb hfs; go_wp2_with fail; clear t0 t1 t2; refine (ifcopy_any _ _ (⟨N9, lnks n L k, wd⟩ : Fb) w4 hR4 HW9.out).mono ?_; rintro e w5 ⟨nv5, lv5, rfl, hF5, hb⟩; obtain ⟨n1, n2, rfl⟩ := hF5.rd.1.len; obtain ⟨m1, m2, rfl⟩ := hF5.rd.2.len; replace bR := bR.keep hb; have B5 := below_step B4 hb; have hs5 := hb.size; clear hb; have r0 := bR.c 0 rfl; have r1 := bR.c 1 rfl; have r2 := bR.c 2 rfl; have rf0 := bR.f 0 rfl; have rf1 := bR.f 1 rfl; have rf2 := bR.f 2 rfl; go_wp2_with fail; have bE := ((bR.set 0 (.slice n1 (⟨N9, lnks n L k, wd⟩ : Fb).nodes.length n2)).set 1 (.slice m1 (⟨N9, lnks n L k, wd⟩ : Fb).links.length m2)).set 2 (.int .i64 (⟨N9, lnks n L k, wd⟩ : Fb).width); have e0 := bE.c 0 rfl; have e1 := bE.c 1 rfl; have e2 := bE.c 2 rfl; have nR : ¬ Rg w4.heap.size w5.heap.size R := fun q => by have := q.1; omega
    have hF6 := ((hF5.agr (agr_setS (g := R) (o := 0) (u := .slice n1 (⟨N9, lnks n L k, wd⟩ : Fb).nodes.length n2) _ nR)).agr (agr_setS (g := R) (o := 1) (u := .slice m1 (⟨N9, lnks n L k, wd⟩ : Fb).links.length m2) _ nR)).agr (agr_setS (g := R) (o := 2) (u := .int .i64 (⟨N9, lnks n L k, wd⟩ : Fb).width) _ nR)
    exact bodyPost_ret (v := .tuple #[.agg #[.slice n1 (⟨N9, lnks n L k, wd⟩ : Fb).nodes.length n2, .slice m1 (⟨N9, lnks n L k, wd⟩ : Fb).links.length m2, .int .i64 (⟨N9, lnks n L k, wd⟩ : Fb).width], .bool true]) (by simp [results, Tryz.results22, go_sem, e0, e1, e2]) rfl
     ⟨.slice n1 (⟨N9, lnks n L k, wd⟩ : Fb).nodes.length n2, .slice m1 (⟨N9, lnks n L k, wd⟩ : Fb).links.length m2, by rw [HYES.out.1, HYES.out.2], by rw [HYES.out.1]; exact owF_mono hF6 (fun b q => ⟨by have := q.1; omega, by have := q.2; simp; omega⟩), ((B5.setCell (p := ⟨R, 0, none⟩) hwR _).setCell (p := ⟨R, 1, none⟩) hwR _).setCell (p := ⟨R, 2, none⟩) hwR _⟩
   
end Go.Proofs.YtkodnipmogdgkaaGreat
namespace Go.Proofs.YtkodnipmogdgkaaGreat
open Go.ChangeShapes Go.WideShapes Go.ChangeAt Go.RowKit Go.BigFrame Go.Joins
set_option linter.unusedVariables false
set_option maxRecDepth 100000
set_option linter.unusedSimpArgs false
set_option maxRecDepth 100000

theorem cntQEw_le (L : List Ent) : cntQE L ≤ 11 * (L.length + wtE L) := by
 induction L with
 | nil => simp [cntQE, cntQS]
 | cons x L ih =>
  simp only [cntQE, cntQS, wtE, List.map_cons, List.sum_cons, List.length_cons] at ih ⊢; have : cntQ x ≤ 11 + 11 * (x.p.length + x.c.length) := by unfold cntQ cntI; omega
  omega
theorem cntMSw_le (L : List Mg) : cntMS L ≤ 11 * (L.length + wtMS L) := by
 induction L with
 | nil => simp [cntMS]
 | cons x L ih =>
  simp only [cntMS, wtMS, List.map_cons, List.sum_cons, List.length_cons] at ih ⊢; have : cntM x ≤ 11 + 11 * wtM x := by unfold cntM cntI cntP wtM; omega
  omega
theorem cntNSw_le (L : List Nd) : cntNS L ≤ 11 * (L.length + wtNS L) := by
 induction L with
 | nil => simp [cntNS]
 | cons x L ih =>
  simp only [cntNS, wtNS, List.map_cons, List.sum_cons, List.length_cons] at ih ⊢
  have : cntN x ≤ 11 + 11 * wtN x := by
   have h1 := cntQEw_le x.rib; have h2 := cntQEw_le x.sent; unfold cntN cntP wtN; omega
  omega
theorem cntLSw_le (L : List Lk) : cntLS L ≤ 11 * (L.length + wtLS L) := by
 induction L with
 | nil => simp [cntLS]
 | cons x L ih =>
  simp only [cntLS, wtLS, List.map_cons, List.sum_cons, List.length_cons] at ih ⊢
  have : cntL x ≤ 11 + 11 * wtL x := by
   have h1 := cntMSw_le x.ab; have h2 := cntMSw_le x.ba; unfold cntL wtL; omega
  omega
theorem cntF_le (x : Fb) (h : wtF x ≤ 1048576) : cntF x ≤ 12000000 := by
 have h1 := cntNSw_le x.nodes; have h2 := cntLSw_le x.links; unfold cntF; unfold wtF at h
 omega
end Go.Proofs.YtkodnipmogdgkaaGreat
namespace Go.Proofs.YtkodnipmogdgkaaGreat
open Go.ChangeShapes Go.WideShapes Go.ChangeAt Go.RowKit Go.BigFrame Go.Joins
set_option linter.unusedVariables false
set_option maxRecDepth 100000
set_option linter.unusedSimpArgs false
set_option maxRecDepth 100000

theorem new_cnt (N9 : List Nd) (L : List Pr) (wd : Int) (h : (N9.length + wtNS N9) + L.length ≤ 1048576) : cntF (fabNewF N9 L wd) ≤ 12000000 := by
 unfold fabNewF
 split
 ·exact cntF_le _ (newF_wt h)
 ·simp [cntF, fb0, cntNS, cntLS]
theorem cntUSw_le (L : List Pr) : cntUS L ≤ wtUS L := by
 induction L with
 | nil => simp [cntUS, wtUS]
 | cons x L ih =>
  simp only [cntUS, wtUS, List.map_cons, List.sum_cons] at ih ⊢; unfold cntU wtU at *
  omega
def Is_NodeS (W : World) (v : Value) : Prop := ∃ L, RdNS W v L
def Is_IntSS (W : World) (v : Value) : Prop := ∃ L, RdUS W v L
section
variable {H : Type} {enc : TypeId × Value → H} {W : World} {base : Nat} {d : DataW H} {p : List MemPlace} {v : Value}
theorem is_NodeS (hv : Value.okWide Tryz.prog W .any base 22 v) (h : DataW.Trod enc Tryz.prog W 0 (fun _ => true) true 22 v d p) : Is_NodeS W v := by
 obtain ⟨a0, len0, cap0, rfl⟩ := okWide_slice Tryz.underlying22 hv; obtain ⟨fuel, hf⟩ := h
 exact rdNS_trod (W := W) (fuel := fuel) (y := (d, p)) (by simpa [Value.cells] using hf)
end
end Go.Proofs.YtkodnipmogdgkaaGreat
