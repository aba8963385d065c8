/-
  The directions of all links of a fabric, and whether one is valid: of the program. Conditions: those in each contract.
  No interface of a switch is used twice: of the program. Conditions: those in each contract.
  FabricOk of the program. Conditions: those in each contract.
  Messages and ends of links are as they should be: of the model. Conditions: those in each contract.
-/
import Derived.Test.YtbcmoofpgffbhabGreatHPg
import Derived.Test.YtbcmoofpgffbhabGreatHPi
import Derived.Maps.OwnSet
import Derived.DeepKeys4
namespace Go.Proofs.YtbcmoofpgffbhabGreat
open Go.ChangeShapes Go.WideShapes Go.ChangeAt Go.RowKit Go.BigFrame Go.Joins
set_option linter.unusedVariables false
set_option maxRecDepth 100000
set_option maxRecDepth 100000
set_option linter.unusedSimpArgs false
set_option maxRecDepth 100000

set_option maxHeartbeats 2000000 in
theorem fways_any (nv lv : Value) (F : Fb) (w : World) (h : RdLS w lv F.links) (hn1 : F.links.length ≤ 1048576) :
  Calls Tryz.prog 176 #[.agg #[nv, lv, .int .i64 F.width]] w fun e w' => ∃ u, e = .returned u ∧ RdWS w' u (waysL F.links) ∧ Below w.heap.size w w' := by
 obtain ⟨a, c, rfl, hc⟩ := h.el; obtain ⟨n, hn⟩ : ∃ n, n = F.links.length := ⟨_, rfl⟩; rw [← hn] at hc hn1 ⊢; have HN := Lib.hid hn; clear h hn; obtain ⟨bF, B0, z⟩ := one w [nv, .slice a n c, .int .i64 F.width] 60; have f1 := bF.c 1 rfl
 go_enter Tryz.func176, Tryz.ntmps176
 go_wp2; obtain ⟨W1, hW⟩ : ∃ W1, W1 = w.alloc (.cells #[nv, .slice a n c, .int .i64 F.width] 60) := ⟨_, rfl⟩; rw [← hW] at bF B0 z ⊢; have hRW : w.heap.size ≤ W1.heap.size := by omega
 clear hW z f1
 go_loopw [3, 9] (fun sv q wr => ∃ j : Nat, j ≤ n ∧ q = .int .i64 j ∧ ∃ T : List WT, wr.ownsRow W1.heap.size 151 6 sv T.length (flatW T) ∧ wysT T = waysL (F.links.take j) ∧ (∀ t ∈ T, RdPt w t.p t.x.tr) ∧ Over W1 wr) (fun _ q _ => n - (intOf q).toNat)
 case atStart => exact ⟨0, Nat.zero_le _, rfl, [], World.ownsRow_nil _ _ _ _, rfl, (fun t ht => by cases ht), over_refl _⟩
 case round =>
  obtain ⟨j, hj, rfl, T, hok, hTE, hRd, hB⟩ := hrel
  by_cases hlt : j < n
  ·have hltI : (j : Int) < (n : Int) := by omega
   obtain ⟨b, o, rfl, hE⟩ := hc j hlt; obtain ⟨x, hx⟩ : ∃ x, F.links.getD j l0 = x := ⟨_, rfl⟩; rw [hx] at hE; have hE2 := hE.keep (below_step B0 hB); obtain ⟨av, bv, hr, q0, q1, q2, q3, q4, q5, q6⟩ := hE; have HRR : Hid (RdPt w (.pointer (some ⟨b, o + j * 7 + 5, none⟩)) x.ab ∧ RdPt w (.pointer (some ⟨b, o + j * 7 + 6, none⟩)) x.ba) := Lib.hid ⟨⟨b, o + j * 7 + 5, av, rfl, q5, hr.1⟩, ⟨b, o + j * 7 + 6, bv, rfl, q6, hr.2⟩⟩; have HF : Hid (waysL (F.links.take (j + 1)) = waysL (F.links.take j) ++ waysOf x) := Lib.hid (by rw [← hx]; exact waysL_take (by rw [← HN.out]; exact hlt)); have HCC := Lib.hid hc; have HRD := Lib.hid hRd
   have HLN : Hid (T.length + 2 ≤ 4294967296) := Lib.hid (by
    rw [← wysT_len, hTE, waysL_len, List.length_take]
    omega)
   have HTE := Lib.hid hTE; clear hx hc hRd hTE q0 q1 q2 q3 q4 q5 q6 hr; have f1 := (bF.keep hB).c 1 rfl; go_wp2_with fail; refine (lways_any b (o + j * 7) x wr hE2).mono ?_; rintro e w1 ⟨rfl, hb⟩; clear f1 hE2; replace hok := rowW_keep hok hb; replace hB := over_step hB hb; have A1 : Below w1.heap.size w1 (w1.alloc (.cells #[.int .i64 x.a, .int .i64 x.ai, .int .i64 x.b, .int .i64 x.bi, .bool x.up, .pointer (some ⟨b, o + j * 7 + 5, none⟩), .int .i64 x.b, .int .i64 x.bi, .int .i64 x.a, .int .i64 x.ai, .bool x.up, .pointer (some ⟨b, o + j * 7 + 6, none⟩)] 248)) := (Below.refl _ _).alloc (Nat.le_refl _) _; have bQ := Bl.new w1 [.int .i64 x.a, .int .i64 x.ai, .int .i64 x.b, .int .i64 x.bi, .bool x.up, .pointer (some ⟨b, o + j * 7 + 5, none⟩), .int .i64 x.b, .int .i64 x.bi, .int .i64 x.a, .int .i64 x.ai, .bool x.up, .pointer (some ⟨b, o + j * 7 + 6, none⟩)] 248 w1.heap.size rfl; replace hok := rowW_keep hok A1; replace hB := over_step hB A1; clear hb A1; go_wp2_with (at_builtin; refine Hid.out ?_); refine Lib.hid ?_; refine wp_appW rfl _ _ rfl W1.heap.size w1.heap.size 2 _ T.length (flatW T) [.int .i64 x.a, .int .i64 x.ai, .int .i64 x.b, .int .i64 x.bi, .bool x.up, .pointer (some ⟨b, o + j * 7 + 5, none⟩), .int .i64 x.b, .int .i64 x.bi, .int .i64 x.a, .int .i64 x.ai, .bool x.up, .pointer (some ⟨b, o + j * 7 + 6, none⟩)] rfl rfl hok bQ rfl (by simp [Value.oneCell']) HLN.out hB.size ?_; intro v3 w3 o3 g3; have O3 : Over W1 w3 := below_growW hB hok (Nat.le_refl _) g3; clear g3 bQ hok hB; go_wp2
   go_roundw
   case rel =>
    refine ⟨j + 1, by omega, by go_num, T ++ [⟨⟨x.a, x.ai, x.b, x.bi, x.up, x.ab⟩, .pointer (some ⟨b, o + j * 7 + 5, none⟩)⟩, ⟨⟨x.b, x.bi, x.a, x.ai, x.up, x.ba⟩, .pointer (some ⟨b, o + j * 7 + 6, none⟩)⟩], ?_, ?_, ?_, O3⟩
    ·rw [List.length_append, flatW_append]
     exact o3
    ·rw [HF.out, ← HTE.out]
     simp [wysT, waysOf]
    ·intro t ht
     rcases List.mem_append.1 ht with q | q
     ·exact HRD.out t q
     ·simp only [List.mem_cons, List.not_mem_nil, or_false] at q
      rcases q with rfl | rfl
      ·exact HRR.out.1
      ·exact HRR.out.2
   case measure => simp [intOf]; omega
  ·have hkn : j = n := by omega
   subst hkn; have HT : Hid (F.links.take j = F.links) := Lib.hid (List.take_of_length_le (by rw [HN.out]; exact Nat.le_refl _)); clear hc; go_wp2
   go_ret
   have BB := below_step B0 hB
   exact ⟨_, rfl, by rw [← HT.out, ← hTE]; exact rowW_rd hok (fun t ht => (hRd t ht).keep BB), BB⟩
/-- the messages of one direction are as they should be -/
def trB (x : Wy) : Bool := decide (x.tr.length ≤ 500) && (x.tr.all fun m => updB m) && (x.up || decide (x.tr.length = 0))
def endB (n : Nat) (a i : Int) : Bool := inB a 0 ((n : Int) - 1) && inB i 0 7
def wayB (n : Nat) (x : Wy) : Bool := endB n x.fn x.fi && (x.fn != x.tn) && trB x
theorem iidle_any (pv : Value) (x : Wy) (w : World) (h : RdW w pv x) :
  Calls Tryz.prog 179 #[.agg #[.int .i64 x.fn, .int .i64 x.fi, .int .i64 x.tn, .int .i64 x.ti, .bool x.up, pv]] w fun e w' => e = .returned (.bool (decide (x.tr.length = 0))) ∧ Below w.heap.size w w' := by
 obtain ⟨bA, B0, z⟩ := one w [.int .i64 x.fn, .int .i64 x.fi, .int .i64 x.tn, .int .i64 x.ti, .bool x.up, pv] 151; have h1 : RdPt _ pv x.tr := RdPt.keep h B0; obtain ⟨b, o, v, rfl, hc, hm⟩ := h1; obtain ⟨va, vx, rfl⟩ := hm.len; clear z hm; have a5 := bA.c 5 rfl; obtain ⟨n, hn⟩ : ∃ n, n = x.tr.length := ⟨_, rfl⟩; rw [← hn] at hc ⊢; clear hn
 have hd : ((n : Int) == 0) = decide (n = 0) := by
  by_cases h : n = 0
  ·simp [h]
  ·rw [decide_eq_false h]; simp; omega
 have HD := Lib.hid hd; clear hd
 go_enter Tryz.func179, Tryz.ntmps179
 go_wp2_with fail
 go_ret
 exact ⟨ret_bool HD.out, B0⟩
theorem itr_any (pv : Value) (x : Wy) (w : World) (h : RdW w pv x) :
  Calls Tryz.prog 238 #[.agg #[.int .i64 x.fn, .int .i64 x.fi, .int .i64 x.tn, .int .i64 x.ti, .bool x.up, pv]] w fun e w' => e = .returned (.bool (trB x)) ∧ Below w.heap.size w w' := by
 obtain ⟨bA, B0, z⟩ := one w [.int .i64 x.fn, .int .i64 x.fi, .int .i64 x.tn, .int .i64 x.ti, .bool x.up, pv] 151; have hRW : RdW _ pv x := RdPt.keep h B0; have h1 : RdPt _ pv x.tr := hRW; obtain ⟨b, o, v, rfl, hc, hm⟩ := h1; obtain ⟨va, vx, rfl⟩ := hm.len; clear z; have a0 := bA.c 0 rfl; have a1 := bA.c 1 rfl; have a2 := bA.c 2 rfl; have a3 := bA.c 3 rfl; have a4 := bA.c 4 rfl; have a5 := bA.c 5 rfl; obtain ⟨p, hp⟩ : ∃ p, (x.tr.all fun m => updB m) = p := ⟨_, rfl⟩; obtain ⟨n, hn⟩ : ∃ n, n = x.tr.length := ⟨_, rfl⟩; unfold trB; rw [hp, ← hn]; have HP := Lib.hid hp
 by_cases hle : n ≤ 500
 ·have hleI : (n : Int) ≤ 500 := by omega
  rw [decide_eq_true hle, Bool.true_and]; rw [← hn] at hc hm; have HN := Lib.hid hn; clear hp hn hle; cases p
  ·rw [Bool.false_and]
   go_enter Tryz.func238, Tryz.ntmps238
   go_wp2_with fail; refine (ievU_t _ hm HP).mono ?_; rintro e w1 ⟨rfl, hb⟩; replace bA := bA.keep hb; replace hRW : RdW w1 (.pointer (some ⟨b, o, none⟩)) x := RdPt.keep hRW hb; replace B0 := below_step B0 hb; clear hb a0 a1 a2 a3 a4 a5; have a0 := bA.c 0 rfl; have a1 := bA.c 1 rfl; have a2 := bA.c 2 rfl; have a3 := bA.c 3 rfl; have a4 := bA.c 4 rfl; have a5 := bA.c 5 rfl; go_wp2
   go_ret
   exact ⟨rfl, B0⟩
  ·rw [Bool.true_and]
   cases hu : x.up
   ·rw [Bool.false_or]
    have hix := fun (W : World) (q : RdW W (.pointer (some ⟨b, o, none⟩)) x) => iidle_any (.pointer (some ⟨b, o, none⟩)) x W q
    rw [hu, ← HN.out] at hix; rw [hu] at a4 bA B0 hRW hc hm a0 a1 a2 a3 a5; have HIX := Lib.hid hix; clear hix
    go_enter Tryz.func238, Tryz.ntmps238
    go_wp2_with fail; refine (ievU_t _ hm HP).mono ?_; rintro e w1 ⟨rfl, hb⟩; replace bA := bA.keep hb; replace hRW : RdW w1 (.pointer (some ⟨b, o, none⟩)) x := RdPt.keep hRW hb; replace B0 := below_step B0 hb; clear hb a0 a1 a2 a3 a4 a5; have a0 := bA.c 0 rfl; have a1 := bA.c 1 rfl; have a2 := bA.c 2 rfl; have a3 := bA.c 3 rfl; have a4 := bA.c 4 rfl; have a5 := bA.c 5 rfl; go_wp2_with fail; refine (HIX.out _ hRW).mono ?_; rintro e w2 ⟨rfl, hb⟩; replace B0 := below_step B0 hb; go_wp2
    go_ret
    exact ⟨rfl, B0⟩
   ·rw [Bool.true_or]
    rw [hu] at a4 bA B0 hRW hc hm a0 a1 a2 a3 a5
    go_enter Tryz.func238, Tryz.ntmps238
    go_wp2_with fail; refine (ievU_t _ hm HP).mono ?_; rintro e w1 ⟨rfl, hb⟩; replace bA := bA.keep hb; replace hRW : RdW w1 (.pointer (some ⟨b, o, none⟩)) x := RdPt.keep hRW hb; replace B0 := below_step B0 hb; clear hb a0 a1 a2 a3 a4 a5; have a0 := bA.c 0 rfl; have a1 := bA.c 1 rfl; have a2 := bA.c 2 rfl; have a3 := bA.c 3 rfl; have a4 := bA.c 4 rfl; have a5 := bA.c 5 rfl; go_wp2
    go_ret
    exact ⟨rfl, B0⟩
 ·have hleI : ¬ (n : Int) ≤ 500 := by omega
  rw [decide_eq_false hle, Bool.false_and, Bool.false_and]; rw [← hn] at hc; clear hp hn hle hm
  go_enter Tryz.func238, Tryz.ntmps238
  go_wp2
  go_ret
  exact ⟨rfl, B0⟩
theorem ihend_any (nv lv : Value) (F : Fb) (a i : Int) (w : World) (h : RdNS w nv F.nodes) :
  Calls Tryz.prog 237 #[.agg #[nv, lv, .int .i64 F.width], .agg #[.int .i64 a, .int .i64 i]] w fun e w' => e = .returned (.bool (endB F.nodes.length a i)) ∧ Below w.heap.size w w' := by
 have hm := h.1; obtain ⟨na, nx, rfl⟩ := h.len; obtain ⟨n, hn⟩ : ∃ n, n = F.nodes.length := ⟨_, rfl⟩; rw [← hn] at hm ⊢; clear h hn; obtain ⟨bF, bE, B0, z⟩ := two w [.slice na n nx, lv, .int .i64 F.width] [.int .i64 a, .int .i64 i] 60 148; clear z; have f0 := bF.c 0 rfl; have e0 := bE.c 0 rfl; have e1 := bE.c 1 rfl; have hw1 : IntKind.i64.wrap ((n : Int) - 1) = (n : Int) - 1 := wrap64_in _ (by omega) (by omega); unfold endB; obtain ⟨p, hp⟩ : ∃ p, inB a 0 ((n : Int) - 1) = p := ⟨_, rfl⟩; obtain ⟨q, hq⟩ : ∃ q, inB i 0 7 = q := ⟨_, rfl⟩; rw [hp, hq]; have HP := Lib.hid hp; have HQ := Lib.hid hq; clear hp hq; cases p
 ·rw [Bool.false_and]
  go_enter Tryz.func237, Tryz.ntmps237
  go_wp2_with fail; refine (within_t _ HP).mono ?_; rintro e w1 ⟨rfl, rfl⟩; go_wp2
  go_ret
  exact ⟨rfl, B0⟩
 ·rw [Bool.true_and]
  go_enter Tryz.func237, Tryz.ntmps237
  go_wp2_with fail; refine (within_t _ HP).mono ?_; rintro e w1 ⟨rfl, rfl⟩; go_wp2_with fail; refine (within_t _ HQ).mono ?_; rintro e w1 ⟨rfl, rfl⟩; go_wp2
  go_ret
  exact ⟨rfl, B0⟩
theorem iway_any (nv lv pv : Value) (F : Fb) (x : Wy) (w : World) (h : RdNS w nv F.nodes) (hr : RdW w pv x) :
  Calls Tryz.prog 177 #[.agg #[nv, lv, .int .i64 F.width], .agg #[.int .i64 x.fn, .int .i64 x.fi, .int .i64 x.tn, .int .i64 x.ti, .bool x.up, pv]] w fun e w' => e = .returned (.bool (wayB F.nodes.length x)) ∧ Below w.heap.size w w' := by
 obtain ⟨bF, bA, B0, z⟩ := two w [nv, lv, .int .i64 F.width] [.int .i64 x.fn, .int .i64 x.fi, .int .i64 x.tn, .int .i64 x.ti, .bool x.up, pv] 60 151; have h1 := h.keep B0; clear z; have f0 := bF.c 0 rfl; have f1 := bF.c 1 rfl; have f2 := bF.c 2 rfl; have a0 := bA.c 0 rfl; have a1 := bA.c 1 rfl; have a2 := bA.c 2 rfl; have a3 := bA.c 3 rfl; have a4 := bA.c 4 rfl; have a5 := bA.c 5 rfl; unfold wayB; obtain ⟨p, hp⟩ : ∃ p, endB F.nodes.length x.fn x.fi = p := ⟨_, rfl⟩; obtain ⟨q, hq⟩ : ∃ q, trB x = q := ⟨_, rfl⟩; have H1 : Hid (∀ W : World, RdNS W nv F.nodes → Calls Tryz.prog 237 #[.agg #[nv, lv, .int .i64 F.width], .agg #[.int .i64 x.fn, .int .i64 x.fi]] W fun e w' => e = .returned (.bool p) ∧ Below W.heap.size W w') := Lib.hid fun W q => hp ▸ ihend_any nv lv F x.fn x.fi W q
 have H2 : Hid (∀ W : World, RdW W pv x → Calls Tryz.prog 238 #[.agg #[.int .i64 x.fn, .int .i64 x.fi, .int .i64 x.tn, .int .i64 x.ti, .bool x.up, pv]] W fun e w' => e = .returned (.bool q) ∧ Below W.heap.size W w') := Lib.hid fun W s => hq ▸ itr_any pv x W s
 rw [hp, hq]; clear hp hq; cases p
 ·rw [Bool.false_and, Bool.false_and]
  go_enter Tryz.func177, Tryz.ntmps177
  go_wp2_with fail; refine (H1.out _ h1).mono ?_; rintro e w1 ⟨rfl, hb⟩; replace bA := bA.keep hb; replace B0 := below_step B0 hb; clear hb a0 a1 a2 a3 a4 a5 f0 f1 f2 h1; have a0 := bA.c 0 rfl; have a1 := bA.c 1 rfl; have a2 := bA.c 2 rfl; have a3 := bA.c 3 rfl; have a4 := bA.c 4 rfl; have a5 := bA.c 5 rfl; go_wp2
  go_ret
  exact ⟨rfl, B0⟩
 ·rw [Bool.true_and]
  cases hne : (x.fn != x.tn)
  ·rw [Bool.false_and]
   go_enter Tryz.func177, Tryz.ntmps177
   go_wp2_with fail; refine (H1.out _ h1).mono ?_; rintro e w1 ⟨rfl, hb⟩; replace bA := bA.keep hb; replace B0 := below_step B0 hb; clear hb a0 a1 a2 a3 a4 a5 f0 f1 f2 h1; have a0 := bA.c 0 rfl; have a1 := bA.c 1 rfl; have a2 := bA.c 2 rfl; have a3 := bA.c 3 rfl; have a4 := bA.c 4 rfl; have a5 := bA.c 5 rfl; go_wp2
   go_ret
   exact ⟨rfl, B0⟩
  ·rw [Bool.true_and]
   go_enter Tryz.func177, Tryz.ntmps177
   go_wp2_with fail; refine (H1.out _ h1).mono ?_; rintro e w1 ⟨rfl, hb⟩; replace bA := bA.keep hb; replace B0 := below_step B0 hb; clear hb a0 a1 a2 a3 a4 a5 f0 f1 f2 h1; have a0 := bA.c 0 rfl; have a1 := bA.c 1 rfl; have a2 := bA.c 2 rfl; have a3 := bA.c 3 rfl; have a4 := bA.c 4 rfl; have a5 := bA.c 5 rfl; have hR2 : RdW w1 pv x := RdPt.keep hr B0; go_wp2_with fail; refine (H2.out _ hR2).mono ?_; rintro e w2 ⟨rfl, hb⟩; replace B0 := below_step B0 hb; go_wp2
   go_ret
   exact ⟨rfl, B0⟩
end Go.Proofs.YtbcmoofpgffbhabGreat
namespace Go.Proofs.YtbcmoofpgffbhabGreat
open Go.ChangeShapes Go.WideShapes Go.ChangeAt Go.RowKit Go.BigFrame Go.Joins Go.Maps
set_option linter.unusedVariables false
set_option maxRecDepth 100000
set_option linter.unusedSimpArgs false
set_option maxRecDepth 100000

theorem lawE : Keyed Tryz.prog 148 := Keyed.of_law (deep_law_laid laidOut (m := 2) (by omega) (by decide +kernel) (by kernel_rfl) (by kernel_rfl))
theorem keyE (a n : Int) (ha : (Lit.int .i64 a).wf = true) (hn : (Lit.int .i64 n).wf = true) : ∃ kl, keyOf Tryz.prog 148 (.agg #[.int .i64 a, .int .i64 n]) = some kl := by
 have h1 : Tryz.prog.keyType 148 = true := by kernel_rfl
 have hc : Tryz.prog.cellsOf 148 = 2 := by kernel_rfl
 have hi : Tryz.prog.cellsOf 3 = 1 := by kernel_rfl
 have hs : (2 ≤ Tryz.prog.types.size : Prop) := of_decide_eq_true (by kernel_rfl)
 have h2 : Value.formed Tryz.prog 148 (.agg #[.int .i64 a, .int .i64 n]) = true := by
  unfold Value.formed; rw [Tryz.underlying148, hc]
  rfl
 obtain ⟨d, hd⟩ : ∃ d, Tryz.prog.types.size + 1 = d + 2 := ⟨Tryz.prog.types.size - 1, by omega⟩
 have k2 : ∀ x : Int, (Lit.int .i64 x).wf = true → Tryz.prog.keyLits (d + 1) 3 [.int .i64 x] = some [.int .i64 x] := by
  intro x hx; unfold Program.keyLits; rw [Tryz.underlying3]
  simp [hx]
 have k1 : Tryz.prog.keyLits (d + 2) 148 [.int .i64 a, .int .i64 n] = some [.int .i64 a, .int .i64 n] := by
  unfold Program.keyLits; rw [Tryz.underlying148]
  simp [hc, hi, k2 a ha, k2 n hn]
 unfold keyOf; rw [Tryz.underlying148, hd]; simp only [h1, h2, Bool.and_self, if_true]
 exact ⟨_, by rw [show (Value.agg #[Value.int .i64 a, Value.int .i64 n]).cells.toList = [.int .i64 a, .int .i64 n] from rfl, k1]; rfl⟩
/-- what an end reads as, as a key -/
noncomputable def ke (a n : Int) : Lit := (keyOf Tryz.prog 148 (.agg #[.int .i64 a, .int .i64 n])).getD .nil
def fitsE (x : Int) : Prop := -9223372036854775808 ≤ x ∧ x ≤ 9223372036854775807
theorem ke_is {a n : Int} (ha : fitsE a) (hn : fitsE n) : keyOf Tryz.prog 148 (.agg #[.int .i64 a, .int .i64 n]) = some (ke a n) := by
 obtain ⟨k, hk⟩ := keyE a n (WalkArith.wf_i64 ha) (WalkArith.wf_i64 hn); unfold ke; rw [hk]
 rfl
theorem ke_inj {a n b m : Int} (ha : fitsE a) (hn : fitsE n) (hb : fitsE b) (hm : fitsE m) (h : ke a n = ke b m) : a = b ∧ n = m := by
 have h1 := ke_is ha hn; have h2 := ke_is hb hm; rw [← h] at h2; have h3 := lawE.inj h1 h2
 simpa using h3
theorem run_makeMap_none {P : Program} (t k e : TypeId) (ht : P.underlying t = some (.map k e)) (w : World) :
  (Instr.makeMap t none).run P w = .ok (.map (some w.heap.size)) (w.alloc (.map #[] 0)) := by
 simp [Instr.makeMap, run_underlying ht]
/-- the map of the ends that occurred -/
noncomputable def De : List (Int × Int) → DataW Unit
 | [] => .map []
 | p :: l => (De l).put (ke p.1 p.2) (.lit (.bool true))
theorem De_map : ∀ l, IsMap (De l)
 | [] => isMap_empty
 | p :: l => (De_map l).put _ _
theorem De_at (a i : Int) (ha : fitsE a) (hi : fitsE i) : ∀ l : List (Int × Int), (∀ p ∈ l, fitsE p.1 ∧ fitsE p.2) → (De l).atKey (ke a i) (.lit (.bool false)) = .lit (.bool (decide ((a, i) ∈ l)))
 | [], _ => rfl
 | p :: l, hl => by
  have ih := De_at a i ha hi l fun q hq => hl q (List.mem_cons_of_mem _ hq)
  obtain ⟨f1, f2⟩ := hl p (List.mem_cons_self ..)
  by_cases e : ke p.1 p.2 = ke a i
  ·obtain ⟨e1, e2⟩ := ke_inj f1 f2 ha hi e
   show ((De l).put (ke p.1 p.2) (.lit (.bool true))).atKey (ke a i) _ = _
   rw [← e, atKey_put_same (De_map l) (lawE.key (ke_is f1 f2))]; have : decide ((a, i) ∈ p :: l) = true := decide_eq_true (List.mem_cons.2 (.inl (by rw [← e1, ← e2]))); rw [this]
  ·show ((De l).put (ke p.1 p.2) (.lit (.bool true))).atKey (ke a i) _ = _
   rw [atKey_put_other (Ne.symm e), ih]
   congr 2
   simp only [decide_eq_decide, List.mem_cons]
   constructor
   ·exact .inr
   ·rintro (q | q)
    ·exact absurd (by rw [← q]) e
    ·exact q
theorem lookE (a i : Int) (l : List (Int × Int)) (m g : Nat) (w : World) (ha : fitsE a) (hi : fitsE i) (hl : ∀ p ∈ l, fitsE p.1 ∧ fitsE p.2) (h : w.ownsMap Tryz.prog 148 (plainElem Tryz.prog 4) g m (De l)) :
  (Instr.lookup 251 (.map (some g)) (.agg #[.int .i64 a, .int .i64 i]) false).run Tryz.prog w = .ok (.bool (decide ((a, i) ∈ l))) w := by
 have hz : (zeroValue 4).run Tryz.prog w = .ok (.bool false) w := by kernel_rfl
 obtain ⟨v, ps, hrun, hv⟩ := h.lookup lawE Tryz.underlying251 hz (plainElem_bool Tryz.underlying4 false) (ke_is ha hi); rw [De_at a i ha hi l hl] at hv; rw [hrun]; cases v <;> simp [plainElem, Tryz.underlying4] at hv
 rw [hv.1]
def endsY (Y : List Wy) : List (Int × Int) := Y.map fun x => (x.fn, x.fi)
theorem endsY_take {Y : List Wy} {j : Nat} {x : Wy} (hj : j < Y.length) (hx : Y.getD j y0 = x) : endsY (Y.take (j + 1)) = endsY (Y.take j) ++ [(x.fn, x.fi)] := by
 have hg : Y[j] = x := by simpa [List.getD, hj] using hx
 rw [List.take_add_one, List.getElem?_eq_getElem hj, hg]
 simp [endsY]
/-- all blocks but g lie as they lay -/
def But (g : Nat) (w w' : World) : Prop := w.heap.size ≤ w'.heap.size ∧ ∀ i, i < w.heap.size → i ≠ g → w'.heap[i]? = w.heap[i]?
theorem But.refl (g : Nat) (w : World) : But g w w := ⟨Nat.le_refl _, fun _ _ _ => rfl⟩
theorem But.trans {g : Nat} {a b c : World} (h : But g a b) (k : But g b c) : But g a c := ⟨Nat.le_trans h.1 k.1, fun i hi hg => (k.2 i (Nat.lt_of_lt_of_le hi h.1) hg).trans (h.2 i hi hg)⟩
theorem But.of_below {g : Nat} {w w' : World} (h : Below w.heap.size w w') : But g w w' := ⟨h.size, fun i hi _ => h.block i hi⟩
theorem But.of_grown {g : Nat} {w w' : World} (h : w.grownBy w' (some g)) : But g w w' := ⟨h.size, fun i hi hg => h.block i hi (by intro e; cases e; exact hg rfl)⟩
theorem But.cell {g b o : Nat} {w w' : World} {v : Value} (h : But g w w') (hg : ∃ es c, w.heap[g]? = some (.map es c)) (hc : w.cell? ⟨b, o, none⟩ = some v) : w'.cell? ⟨b, o, none⟩ = some v := by
 have hl := World.block_lt_of_cell? w _ hc
 have hne : b ≠ g := by
  rintro rfl; obtain ⟨es, c, e⟩ := hg
  simp [World.cell?, e] at hc
 rw [World.cell?_of_block (h.2 b hl hne)]
 exact hc
theorem not_nodup_take {α : Type} {l : List α} {j : Nat} {a : α} (h : l.take (j + 1) = l.take j ++ [a]) (ha : a ∈ l.take j) : ¬ l.Nodup := by
 intro hn; have h1 : (l.take (j + 1)).Nodup := hn.sublist (List.take_sublist _ _); rw [h, List.nodup_append] at h1
 exact h1.2.2 a ha a (List.mem_singleton.2 rfl) rfl
set_option maxHeartbeats 2000000 in
theorem iends_any (nv lv : Value) (F : Fb) (w : World) (h : RdLS w lv F.links) (hn1 : F.links.length ≤ 1048576) (hf : ∀ x ∈ waysL F.links, fitsE x.fn ∧ fitsE x.fi) :
  Calls Tryz.prog 178 #[.agg #[nv, lv, .int .i64 F.width]] w fun e w' => e = .returned (.bool (decide (endsY (waysL F.links)).Nodup)) ∧ Below w.heap.size w w' := by
 have hmm := fun (w : World) => run_makeMap_none (P := Tryz.prog) 251 148 4 Tryz.underlying251 w
 obtain ⟨bF, B0, z⟩ := one w [nv, lv, .int .i64 F.width] 60; have B1 : Below w.heap.size w ((w.alloc (.cells #[nv, lv, .int .i64 F.width] 60)).alloc (.map #[] 0)) := below_step B0 ((Below.refl _ _).alloc (Nat.le_refl _) _); have hM0 := World.ownsMap_made (H := Unit) (w.alloc (.cells #[nv, lv, .int .i64 F.width] 60)) Tryz.prog 148 (plainElem Tryz.prog 4); rw [z] at hM0; have f0 := (bF.keep ((Below.refl _ _).alloc (Nat.le_refl _) (.map #[] 0))).c 0 rfl; have f1 := (bF.keep ((Below.refl _ _).alloc (Nat.le_refl _) (.map #[] 0))).c 1 rfl; have f2 := (bF.keep ((Below.refl _ _).alloc (Nat.le_refl _) (.map #[] 0))).c 2 rfl
 go_enter Tryz.func178, Tryz.ntmps178
 go_wp2_with fail; obtain ⟨V, hV⟩ : ∃ V, V = (w.alloc (.cells #[nv, lv, .int .i64 F.width] 60)).alloc (.map #[] 0) := ⟨_, rfl⟩; obtain ⟨g, hg⟩ : ∃ g, g = w.heap.size + 1 := ⟨_, rfl⟩; rw [← hV] at B1 hM0 f0 f1 f2 ⊢; rw [← hg] at hM0 ⊢; have hwg : w.heap.size ≤ g := by omega
 clear hV hg hmm bF B0 z; refine (fways_any nv lv F V (h.keep B1) hn1).mono ?_; rintro e W1 ⟨u, rfl, hY, hb⟩; have hM1 : W1.ownsMap Tryz.prog 148 (plainElem Tryz.prog 4) g 0 (De []) := World.ownsMap.kept (row := none) hM0 ⟨hb.os, hb.tape, hb.output, hb.size, fun k hk _ => hb.block k hk⟩ (by simp); replace B1 := below_step B1 hb; clear hb hM0 f0 f1 f2; obtain ⟨Y, hYd⟩ : ∃ Y, Y = waysL F.links := ⟨_, rfl⟩; have hYl : Y.length ≤ 2097152 := by rw [hYd, waysL_len]; omega
 rw [← hYd] at hY hf; have HYD := Lib.hid hYd; clear hYd h; obtain ⟨a, c, rfl, hc⟩ := hY.el; obtain ⟨n, hn⟩ : ∃ n, n = Y.length := ⟨_, rfl⟩; rw [← hn] at hc hYl ⊢; have HN := Lib.hid hn; have HFI := Lib.hid hf; have HMX : Hid (∃ es c, W1.heap[g]? = some (.map es c)) := Lib.hid (by obtain ⟨es, cl, hbk, -⟩ := hM1; exact ⟨es, cl, hbk⟩); clear hY hn hf; go_wp2
 go_loopw [10] (fun q wr => ∃ j : Nat, j ≤ n ∧ q = .int .i64 j ∧ wr.ownsMap Tryz.prog 148 (plainElem Tryz.prog 4) g j (De (endsY (Y.take j)).reverse) ∧ (endsY (Y.take j)).Nodup ∧ But g W1 wr ∧ Below w.heap.size w wr) (fun q _ => n - (intOf q).toNat)
 case atStart => exact ⟨0, Nat.zero_le _, rfl, hM1, by simp [endsY], But.refl _ _, B1⟩
 case round =>
  obtain ⟨j, hj, rfl, hM, hnd, hBut, hB⟩ := hrel
  by_cases hlt : j < n
  ·have hltI : (j : Int) < (n : Int) := by omega
   obtain ⟨b, o, rfl, hE⟩ := hc j hlt; obtain ⟨x, hx⟩ : ∃ x, Y.getD j y0 = x := ⟨_, rfl⟩; rw [hx] at hE; obtain ⟨pv, hr, d0, d1, d2, d3, d4, d5⟩ := hE; obtain ⟨pb, po, pw, rfl, -, -⟩ := hr; have g0 := hBut.cell HMX.out d0; have g1 := hBut.cell HMX.out d1; have g2 := hBut.cell HMX.out d2; have g3 := hBut.cell HMX.out d3; have g4 := hBut.cell HMX.out d4; have g5 := hBut.cell HMX.out d5
   have hxm : x ∈ Y := by
    rw [← hx, List.getD_eq_getElem?_getD, List.getElem?_eq_getElem (by rw [← HN.out]; exact hlt)]
    exact List.getElem_mem _
   have HT := Lib.hid (endsY_take (by rw [← HN.out]; exact hlt) hx); have HND := Lib.hid hnd; obtain ⟨hfx1, hfx2⟩ := HFI.out x hxm; have HKY := Lib.hid (ke_is hfx1 hfx2); have HCC := Lib.hid hc
   have hfl : ∀ p ∈ (endsY (Y.take j)).reverse, fitsE p.1 ∧ fitsE p.2 := fun p hp => by
    rw [List.mem_reverse] at hp; obtain ⟨y, hy, rfl⟩ := List.mem_map.1 hp
    exact HFI.out y (List.mem_of_mem_take hy)
   have A1 : Below wr.heap.size wr (wr.alloc (.cells #[.int .i64 x.fn, .int .i64 x.fi, .int .i64 x.tn, .int .i64 x.ti, .bool x.up, .pointer (some ⟨pb, po, none⟩)] 151)) := (Below.refl _ _).alloc (Nat.le_refl _) _; have bP := Bl.new wr [.int .i64 x.fn, .int .i64 x.fi, .int .i64 x.tn, .int .i64 x.ti, .bool x.up, .pointer (some ⟨pb, po, none⟩)] 151 wr.heap.size rfl; have hM2 := hM.alloc (.cells #[.int .i64 x.fn, .int .i64 x.fi, .int .i64 x.tn, .int .i64 x.ti, .bool x.up, .pointer (some ⟨pb, po, none⟩)] 151); have hlk := lookE x.fn x.fi _ j g _ hfx1 hfx2 hfl hM2; have p0 := bP.c 0 rfl; have p1 := bP.c 1 rfl; clear d0 d1 d2 d3 d4 d5 hx hxm hnd hc hfl bP; cases hmem : decide ((x.fn, x.fi) ∈ (endsY (Y.take j)).reverse)
   ·rw [hmem] at hlk
    have HMEM := Lib.hid hmem; have HMI := Lib.hid (And.intro hfx1 hfx2); clear hmem hfx1 hfx2; have hj1 : j < maxLen := by unfold maxLen; omega
    go_wp2_with (at_mapUpdate; refine wpList_mapUpdate_own _ rfl _ _ _ 251 rfl 148 4 lawE Tryz.underlying251 _ g j _ rfl hM2 hj1 _ _ _ rfl rfl HKY.out _ [] (plainElem_bool Tryz.underlying4 true) ?_; intro w1 hown1 hgrow1); have hB1 := below_step hB A1; have hBut2 := (hBut.trans (.of_below A1)).trans (.of_grown hgrow1); have hB2 : Below w.heap.size w w1 := Below.grown hB1 hgrow1 hB1.size (fun k hk => by cases hk; exact hwg); clear hlk hM hM2 A1 hB hB1 hBut p0 p1 g0 g1 g2 g3 g4 g5
    go_roundw
    case rel =>
     refine ⟨j + 1, by omega, by go_num, ?_, ?_, hBut2, hB2⟩
     ·rw [HT.out, List.reverse_append]
      exact hown1
     ·rw [HT.out, List.nodup_append]
      refine ⟨HND.out, by simp, fun p hp q hq => ?_⟩; rw [List.mem_singleton.1 hq]; rintro rfl; have := HMEM.out; rw [decide_eq_false_iff_not, List.mem_reverse] at this
      exact this hp
    case measure => simp [intOf]; omega
   ·rw [hmem] at hlk
    have HMEM := Lib.hid hmem; clear hmem hfx1 hfx2; go_wp2
    go_ret
    refine ⟨ret_bool ?_, below_step hB A1⟩; rw [← HYD.out]
    symm
    rw [decide_eq_false_iff_not]; have hm := HMEM.out; rw [decide_eq_true_iff, List.mem_reverse] at hm
    have ht : (endsY Y).take (j + 1) = (endsY Y).take j ++ [(x.fn, x.fi)] := by
     have := HT.out; simp only [endsY, List.map_take] at this ⊢
     exact this
    refine not_nodup_take ht ?_; simp only [endsY, List.map_take] at hm ⊢
    exact hm
  ·have hkn : j = n := by omega
   subst hkn; have HT : Hid (Y.take j = Y) := Lib.hid (List.take_of_length_le (by rw [HN.out]; exact Nat.le_refl _)); have HND := Lib.hid hnd; clear hc hnd; go_wp2
   go_ret
   refine ⟨ret_bool ?_, hB⟩; rw [← HYD.out]
   symm
   rw [decide_eq_true_iff]; have := HND.out
   rwa [HT.out] at this
end Go.Proofs.YtbcmoofpgffbhabGreat
namespace Go.Proofs.YtbcmoofpgffbhabGreat
open Go.ChangeShapes Go.WideShapes Go.ChangeAt Go.RowKit Go.BigFrame Go.Joins
open List (setIfInBounds_toArray set_cons_succ set_cons_zero)
set_option linter.unusedVariables false
set_option maxRecDepth 100000
set_option linter.unusedSimpArgs false
set_option maxRecDepth 100000

theorem iclW_any (nv lv : Value) (F : Fb) (pv : Value) (x : Wy) (C : Nat) (w : World) (hN : RdNS w nv F.nodes) (hr : RdW w pv x) (bC : Bl w C [.func (.func 177) #[.agg #[nv, lv, .int .i64 F.width]] #[]]) :
  Calls Tryz.prog 183 #[.agg #[.int .i64 x.fn, .int .i64 x.fi, .int .i64 x.tn, .int .i64 x.ti, .bool x.up, pv], .pointer (some ⟨C, 0, none⟩)] w fun e w' => e = .returned (.bool (!wayB F.nodes.length x)) ∧ Below w.heap.size w w' := by
 obtain ⟨bE, B0, z⟩ := one w [.int .i64 x.fn, .int .i64 x.fi, .int .i64 x.tn, .int .i64 x.ti, .bool x.up, pv] 151; replace hr := hr.keep B0; replace hN := hN.keep B0; have c0 := (bC.keep B0).c 0 rfl; clear z; have x0 := bE.c 0 rfl; have x1 := bE.c 1 rfl; have x2 := bE.c 2 rfl; have x3 := bE.c 3 rfl; have x4 := bE.c 4 rfl; have x5 := bE.c 5 rfl
 go_enter Tryz.func183, Tryz.ntmps183
 go_wp2_with fail; refine (iway_any nv lv pv F x _ hN hr).mono ?_; rintro e w1 ⟨rfl, hb⟩; replace B0 := below_step B0 hb; go_wp2
 go_ret
 exact ⟨rfl, B0⟩
set_option maxHeartbeats 1000000 in
theorem iixW_any (nv lv : Value) (F : Fb) (v : Value) (L : List Wy) (C : Nat) (w : World) (hN : RdNS w nv F.nodes) (h : RdWS w v L) (bC : Bl w C [.func (.func 177) #[.agg #[nv, lv, .int .i64 F.width]] #[]]) :
  Calls Tryz.prog 240 #[v, .func (.func 183) #[] #[.pointer (some ⟨C, 0, none⟩)]] w fun e w' => ∃ r : Int, e = .returned (.int .i64 r) ∧ decide (0 ≤ r) = (!L.all fun x => wayB F.nodes.length x) ∧ Below w.heap.size w w' := by
 have hm := h.1; obtain ⟨a, c, rfl, hc⟩ := h.el; obtain ⟨n, hn⟩ : ∃ n, n = L.length := ⟨_, rfl⟩; rw [← hn] at hc hm ⊢; have HN := Lib.hid hn; clear h hn
 go_enter Tryz.func240, Tryz.ntmps240
 go_wp2
 go_loopw [8] (fun q wr => ∃ j : Nat, j ≤ n ∧ q = .int .i64 j ∧ (∀ i, i < j → wayB F.nodes.length (L.getD i y0) = true) ∧ Below w.heap.size w wr) (fun q _ => n - (intOf q).toNat)
 case atStart => exact ⟨0, Nat.zero_le _, rfl, fun j hj => by omega, Below.refl _ _⟩
 case round =>
  obtain ⟨j, hj, rfl, hyes, hB⟩ := hrel; have HY := Lib.hid hyes; clear hyes
  by_cases hlt : j < n
  ·have hltI : (j : Int) < (n : Int) := by omega
   obtain ⟨b, o, rfl, hE⟩ := hc j hlt; obtain ⟨x, hx⟩ : ∃ x, L.getD j y0 = x := ⟨_, rfl⟩; rw [hx] at hE; obtain ⟨pv, hr, g0, g1, g2, g3, g4, g5⟩ := hE.keep hB; have HX := Lib.hid hx; have HC := Lib.hid hc; clear hx hc hE; go_wp2_with fail; refine (iclW_any nv lv F pv x C wr (hN.keep hB) hr (bC.keep hB)).mono ?_; rintro e w1 ⟨rfl, hb1⟩; clear g0 g1 g2 g3 g4 g5 hr; cases hbq : wayB F.nodes.length x
   ·go_wp2
    go_ret
    refine ⟨(j : Int), rfl, ?_, below_step hB hb1⟩; rw [show decide (0 ≤ (j : Int)) = true by simp]
    symm
    rw [Bool.not_eq_true', List.all_eq_false]; refine ⟨x, ?_, by rw [hbq]; simp⟩; rw [← HX.out, List.getD_eq_getElem?_getD, List.getElem?_eq_getElem (by rw [← HN.out]; exact hlt)]
    exact List.getElem_mem _
   ·go_wp2
    go_roundw
    case rel =>
     refine ⟨j + 1, by omega, by go_num, fun i hi => ?_, below_step hB hb1⟩
     by_cases hjk : i = j
     ·subst hjk; rw [HX.out]; exact hbq
     ·exact HY.out i (by omega)
    case measure => simp [intOf]; omega
  ·have hkn : j = n := by omega
   subst hkn; clear hc; go_wp2
   go_ret
   refine ⟨-1, rfl, ?_, hB⟩
   have e : (L.all fun x => wayB F.nodes.length x) = true := by
    rw [List.all_eq_true]; intro x hx; obtain ⟨i, hi, e⟩ := List.mem_iff_getElem.1 hx; have := HY.out i (by rw [HN.out]; exact hi); rw [List.getD_eq_getElem?_getD, List.getElem?_eq_getElem hi] at this; rw [← e]
    exact this
   rw [e]
   rfl
theorem icfW_any (nv lv : Value) (F : Fb) (v : Value) (L : List Wy) (C : Nat) (w : World) (hN : RdNS w nv F.nodes) (h : RdWS w v L) (bC : Bl w C [.func (.func 177) #[.agg #[nv, lv, .int .i64 F.width]] #[]]) :
  Calls Tryz.prog 182 #[v, .func (.func 183) #[] #[.pointer (some ⟨C, 0, none⟩)]] w fun e w' => e = .returned (.bool (!L.all fun x => wayB F.nodes.length x)) ∧ Below w.heap.size w w' := by
 obtain ⟨a, c, hv⟩ := h.len; have hcall := iixW_any nv lv F v L C w hN h bC; rw [hv] at hcall ⊢; have HC := Lib.hid hcall; clear hcall hv h bC
 go_enter Tryz.func182, Tryz.ntmps182
 go_wp2_with fail; refine HC.out.mono ?_; rintro e w1 ⟨r, rfl, hr, hb⟩; have HR := Lib.hid hr; clear hr; go_wp2
 go_ret
 exact ⟨ret_bool HR.out, hb⟩
theorem ievW_any (nv lv : Value) (F : Fb) (v : Value) (L : List Wy) (w : World) (hN : RdNS w nv F.nodes) (h : RdWS w v L) :
  Calls Tryz.prog 108 #[v, .func (.func 177) #[.agg #[nv, lv, .int .i64 F.width]] #[]] w fun e w' => e = .returned (.bool (L.all fun x => wayB F.nodes.length x)) ∧ Below w.heap.size w w' := by
 obtain ⟨bC, B0, z⟩ := one w [.func (.func 177) #[.agg #[nv, lv, .int .i64 F.width]] #[]] 154; replace h := h.keep B0; replace hN := hN.keep B0; obtain ⟨a, c, hv⟩ := h.len; have hcall := icfW_any nv lv F v L w.heap.size _ hN h bC; rw [hv] at hcall ⊢; have HC := Lib.hid hcall; clear hcall hv h z
 go_enter Tryz.func108, Tryz.ntmps108
 go_wp2_with fail; refine HC.out.mono ?_; rintro e w1 ⟨rfl, hb⟩; replace B0 := below_step B0 hb; go_wp2
 go_ret
 exact ⟨by simp, B0⟩
theorem ievW_t (nv lv : Value) (F : Fb) {v : Value} {L : List Wy} {b : Bool} (w : World) (hN : RdNS w nv F.nodes) (h : RdWS w v L) (H : Hid ((L.all fun x => wayB F.nodes.length x) = b)) :
  Calls Tryz.prog 108 #[v, .func (.func 177) #[.agg #[nv, lv, .int .i64 F.width]] #[]] w fun e w' => e = .returned (.bool b) ∧ Below w.heap.size w w' := H.out ▸ ievW_any nv lv F v L w hN h
def fbB (F : Fb) : Bool := inB F.nodes.length 1 8 && ((F.nodes.all fun x => ndB x) && (inB F.width 1 4 && (decide (F.links.length ≤ 12) && (((waysL F.links).all fun x => wayB F.nodes.length x) && decide (endsY (waysL F.links)).Nodup))))
theorem endB_fits {n : Nat} {a i : Int} (hn : n ≤ 8) (h : endB n a i = true) : fitsE a ∧ fitsE i := by
 unfold endB inB at h; unfold fitsE
 simp at h
 omega
theorem way_fits {n : Nat} {x : Wy} (hn : n ≤ 8) (h : wayB n x = true) : fitsE x.fn ∧ fitsE x.fi := by
 unfold wayB at h; rw [Bool.and_eq_true, Bool.and_eq_true] at h
 exact endB_fits hn h.1.1
theorem iends_t (nv lv : Value) (F : Fb) {b : Bool} (w : World) (h : RdLS w lv F.links) (hn1 : F.links.length ≤ 1048576) (hf : ∀ x ∈ waysL F.links, fitsE x.fn ∧ fitsE x.fi) (H : Hid (decide (endsY (waysL F.links)).Nodup = b)) :
  Calls Tryz.prog 178 #[.agg #[nv, lv, .int .i64 F.width]] w fun e w' => e = .returned (.bool b) ∧ Below w.heap.size w w' := H.out ▸ iends_any nv lv F w h hn1 hf
set_option maxHeartbeats 8000000 in
theorem ifok_any (nv lv : Value) (F : Fb) (w : World) (h : RdF w nv lv F) (hn1 : F.nodes.length ≤ 1048576) (hl1 : F.links.length ≤ 1048576) :
  Calls Tryz.prog 104 #[.agg #[nv, lv, .int .i64 F.width]] w fun e w' => e = .returned (.bool (fbB F)) ∧ Below w.heap.size w w' := by
 obtain ⟨na, nx, rfl⟩ := h.1.len; obtain ⟨la, lx, rfl⟩ := h.2.len; obtain ⟨bA, B0, z⟩ := one w [.slice na F.nodes.length nx, .slice la F.links.length lx, .int .i64 F.width] 60; obtain ⟨hN, hL⟩ := h.keep B0; obtain ⟨V, hV⟩ : ∃ V, V = w.alloc (.cells #[.slice na F.nodes.length nx, .slice la F.links.length lx, .int .i64 F.width] 60) := ⟨_, rfl⟩; rw [← hV] at bA B0 hN hL; have HLN := Lib.hid hl1; clear z h hl1 hn1; unfold fbB; cases hA : inB (F.nodes.length : Int) 1 8
 ·rw [Bool.false_and]
  have HA := Lib.hid hA; clear hA
  go_enter Tryz.func104, Tryz.ntmps104
  go_wp2_with fail; rw [← hV]; clear hV; refine wp_region_held_drew (S := fun w' => Over V w') (by kernel_rfl) (over_drew V) (fun hHeld => ?_); obtain ⟨u0, e0'⟩ : ∃ u, u = V.drew := ⟨_, rfl⟩; have O : Over V u0 := by rw [e0']; exact over_drew V
  rw [← e0']; clear e0' hHeld; refine tk 0 3 (v := ?_) O ?_ ?_; rotate_left
  ·intro wq hSq
   go_simp
   try rfl
  simp only [Act.put, setIfInBounds_toArray, set_cons_succ, set_cons_zero]; refine tk 1 4 (v := ?_) O ?_ ?_; rotate_left
  ·intro wq hSq
   have q0 := over_cell hSq bA.lt (bA.c 0 rfl)
   go_simp
   try rfl
  simp only [Act.put, setIfInBounds_toArray, set_cons_succ, set_cons_zero]; refine tk 2 5 (v := ?_) O ?_ ?_; rotate_left
  ·intro wq hSq
   go_simp
   try rfl
  simp only [Act.put, setIfInBounds_toArray, set_cons_succ, set_cons_zero]; refine rd1 3 fun K hK => ?_
  go_simp
  refine (within_t _ HA).mono ?_; rintro e wn ⟨rfl, rfl⟩; refine hK.out _ _ O (fun _ => ?_); clear hK K
  try simp only [Act.put, setIfInBounds_toArray, set_cons_succ, set_cons_zero]
  refine tk 4 7 (v := ?_) O ?_ ?_; rotate_left
  ·intro wq hSq
   go_simp
   try rfl
  simp only [Act.put, setIfInBounds_toArray, set_cons_succ, set_cons_zero]; refine wpAnyH_take (i := 5) (v := undef) rfl (by kernel_rfl) (by kernel_rfl) (by kernel_rfl) (fun _ _ _ h => h) (Or.inr ⟨by rfl, by rfl⟩) O ?_
  change wpAnyH _ _ _ _ _ _ _ (Act.put _ (some 8) _) _
  simp only [Act.put, setIfInBounds_toArray, set_cons_succ, set_cons_zero]; refine wpAnyH_take (i := 6) (v := undef) rfl (by kernel_rfl) (by kernel_rfl) (by kernel_rfl) (fun _ _ _ h => h) (Or.inr ⟨by rfl, by rfl⟩) O ?_
  change wpAnyH _ _ _ _ _ _ _ (Act.put _ (some 9) _) _
  simp only [Act.put, setIfInBounds_toArray, set_cons_succ, set_cons_zero]; refine wpAnyH_take (i := 7) (v := undef) rfl (by kernel_rfl) (by kernel_rfl) (by kernel_rfl) (fun _ _ _ h => h) (Or.inr ⟨by rfl, by rfl⟩) O ?_
  change wpAnyH _ _ _ _ _ _ _ (Act.put _ (some 10) _) _
  simp only [Act.put, setIfInBounds_toArray, set_cons_succ, set_cons_zero]; refine tk 8 11 (v := ?_) O ?_ ?_; rotate_left
  ·intro wq hSq
   go_simp
   try rfl
  simp only [Act.put, setIfInBounds_toArray, set_cons_succ, set_cons_zero]; refine tk 9 12 (v := ?_) O ?_ ?_; rotate_left
  ·intro wq hSq
   go_simp
   try rfl
  simp only [Act.put, setIfInBounds_toArray, set_cons_succ, set_cons_zero]; refine wpAnyH_take (i := 10) (v := undef) rfl (by kernel_rfl) (by kernel_rfl) (by kernel_rfl) (fun _ _ _ h => h) (Or.inr ⟨by rfl, by rfl⟩) O ?_
  change wpAnyH _ _ _ _ _ _ _ (Act.put _ (some 13) _) _
  simp only [Act.put, setIfInBounds_toArray, set_cons_succ, set_cons_zero]; refine wpAnyH_take (i := 11) (v := undef) rfl (by kernel_rfl) (by kernel_rfl) (by kernel_rfl) (fun _ _ _ h => h) (Or.inr ⟨by rfl, by rfl⟩) O ?_
  change wpAnyH _ _ _ _ _ _ _ (Act.put _ (some 14) _) _
  simp only [Act.put, setIfInBounds_toArray, set_cons_succ, set_cons_zero]; refine wpAnyH_take (i := 12) (v := undef) rfl (by kernel_rfl) (by kernel_rfl) (by kernel_rfl) (fun _ _ _ h => h) (Or.inr ⟨by rfl, by rfl⟩) O ?_
  change wpAnyH _ _ _ _ _ _ _ (Act.put _ (some 15) _) _
  simp only [Act.put, setIfInBounds_toArray, set_cons_succ, set_cons_zero]; refine tk 13 16 (v := ?_) O ?_ ?_; rotate_left
  ·intro wq hSq
   go_simp
   try rfl
  simp only [Act.put, setIfInBounds_toArray, set_cons_succ, set_cons_zero]; refine tk 14 17 (v := ?_) O ?_ ?_; rotate_left
  ·intro wq hSq
   go_simp
   try rfl
  simp only [Act.put, setIfInBounds_toArray, set_cons_succ, set_cons_zero]; refine wpAnyH_take (i := 15) (v := undef) rfl (by kernel_rfl) (by kernel_rfl) (by kernel_rfl) (fun _ _ _ h => h) (Or.inr ⟨by rfl, by rfl⟩) O ?_
  change wpAnyH _ _ _ _ _ _ _ (Act.put _ (some 18) _) _
  simp only [Act.put, setIfInBounds_toArray, set_cons_succ, set_cons_zero]; refine wpAnyH_take (i := 16) (v := undef) rfl (by kernel_rfl) (by kernel_rfl) (by kernel_rfl) (fun _ _ _ h => h) (Or.inr ⟨by rfl, by rfl⟩) O ?_
  change wpAnyH _ _ _ _ _ _ _ (Act.put _ (some 19) _) _
  simp only [Act.put, setIfInBounds_toArray, set_cons_succ, set_cons_zero]; refine wpAnyH_take (i := 17) (v := undef) rfl (by kernel_rfl) (by kernel_rfl) (by kernel_rfl) (fun _ _ _ h => h) (Or.inr ⟨by rfl, by rfl⟩) O ?_
  change wpAnyH _ _ _ _ _ _ _ (Act.put _ (some 20) _) _
  simp only [Act.put, setIfInBounds_toArray, set_cons_succ, set_cons_zero]; refine wpAnyH_take (i := 18) (v := undef) rfl (by kernel_rfl) (by kernel_rfl) (by kernel_rfl) (fun _ _ _ h => h) (Or.inr ⟨by rfl, by rfl⟩) O ?_
  change wpAnyH _ _ _ _ _ _ _ (Act.put _ (some 21) _) _
  simp only [Act.put, setIfInBounds_toArray, set_cons_succ, set_cons_zero]; refine tk 19 22 (v := ?_) O ?_ ?_; rotate_left
  ·intro wq hSq
   go_simp
   try rfl
  simp only [Act.put, setIfInBounds_toArray, set_cons_succ, set_cons_zero]; refine tk 20 23 (v := ?_) O ?_ ?_; rotate_left
  ·intro wq hSq
   go_simp
   try rfl
  simp only [Act.put, setIfInBounds_toArray, set_cons_succ, set_cons_zero]; refine wpAnyH_take (i := 21) (v := undef) rfl (by kernel_rfl) (by kernel_rfl) (by kernel_rfl) (fun _ _ _ h => h) (Or.inr ⟨by rfl, by rfl⟩) O ?_
  change wpAnyH _ _ _ _ _ _ _ (Act.put _ (some 24) _) _
  simp only [Act.put, setIfInBounds_toArray, set_cons_succ, set_cons_zero]; refine wpAnyH_take (i := 22) (v := undef) rfl (by kernel_rfl) (by kernel_rfl) (by kernel_rfl) (fun _ _ _ h => h) (Or.inr ⟨by rfl, by rfl⟩) O ?_
  change wpAnyH _ _ _ _ _ _ _ (Act.put _ (some 25) _) _
  simp only [Act.put, setIfInBounds_toArray, set_cons_succ, set_cons_zero]; refine wpAnyH_take (i := 23) (v := undef) rfl (by kernel_rfl) (by kernel_rfl) (by kernel_rfl) (fun _ _ _ h => h) (Or.inr ⟨by rfl, by rfl⟩) O ?_
  change wpAnyH _ _ _ _ _ _ _ (Act.put _ (some 26) _) _
  simp only [Act.put, setIfInBounds_toArray, set_cons_succ, set_cons_zero]; refine wpAnyH_take (i := 24) (v := undef) rfl (by kernel_rfl) (by kernel_rfl) (by kernel_rfl) (fun _ _ _ h => h) (Or.inr ⟨by rfl, by rfl⟩) O ?_
  change wpAnyH _ _ _ _ _ _ _ (Act.put _ (some 27) _) _
  simp only [Act.put, setIfInBounds_toArray, set_cons_succ, set_cons_zero]; refine wpAnyH_take (i := 25) (v := undef) rfl (by kernel_rfl) (by kernel_rfl) (by kernel_rfl) (fun _ _ _ h => h) (Or.inr ⟨by rfl, by rfl⟩) O ?_
  change wpAnyH _ _ _ _ _ _ _ (Act.put _ (some 28) _) _
  simp only [Act.put, setIfInBounds_toArray, set_cons_succ, set_cons_zero]; refine tk 26 29 (v := ?_) O ?_ ?_; rotate_left
  ·intro wq hSq
   go_simp
   try rfl
  simp only [Act.put, setIfInBounds_toArray, set_cons_succ, set_cons_zero]; refine tk 27 30 (v := ?_) O ?_ ?_; rotate_left
  ·intro wq hSq
   go_simp
   try rfl
  simp only [Act.put, setIfInBounds_toArray, set_cons_succ, set_cons_zero]; refine wpAnyH_take (i := 28) (v := undef) rfl (by kernel_rfl) (by kernel_rfl) (by kernel_rfl) (fun _ _ _ h => h) (Or.inr ⟨by rfl, by rfl⟩) O ?_
  change wpAnyH _ _ _ _ _ _ _ (Act.put _ (some 31) _) _
  simp only [Act.put, setIfInBounds_toArray, set_cons_succ, set_cons_zero]; refine wpAnyH_take (i := 29) (v := undef) rfl (by kernel_rfl) (by kernel_rfl) (by kernel_rfl) (fun _ _ _ h => h) (Or.inr ⟨by rfl, by rfl⟩) O ?_
  change wpAnyH _ _ _ _ _ _ _ (Act.put _ (some 32) _) _
  simp only [Act.put, setIfInBounds_toArray, set_cons_succ, set_cons_zero]; refine tk 30 33 (v := ?_) O ?_ ?_; rotate_left
  ·intro wq hSq
   go_simp
   try rfl
  simp only [Act.put, setIfInBounds_toArray, set_cons_succ, set_cons_zero]; refine rd1 31 fun K hK => ?_
  go_simp
  refine hK.out _ _ O (fun _ => ?_); clear hK K
  try simp only [Act.put, setIfInBounds_toArray, set_cons_succ, set_cons_zero]
  refine wpAnyH_done (by kernel_rfl) ?_ _; go_wp2
  go_ret
  exact ⟨rfl, over_step B0 O⟩
 ·rw [Bool.true_and]
  have HA := Lib.hid hA; clear hA; cases hB : (F.nodes.all fun x => ndB x)
  ·rw [Bool.false_and]
   have HB := Lib.hid hB; clear hB
   go_enter Tryz.func104, Tryz.ntmps104
   go_wp2_with fail; rw [← hV]; clear hV; refine wp_region_held_drew (S := fun w' => Over V w') (by kernel_rfl) (over_drew V) (fun hHeld => ?_); obtain ⟨u0, e0'⟩ : ∃ u, u = V.drew := ⟨_, rfl⟩; have O : Over V u0 := by rw [e0']; exact over_drew V
   rw [← e0']; clear e0' hHeld; refine tk 0 3 (v := ?_) O ?_ ?_; rotate_left
   ·intro wq hSq
    go_simp
    try rfl
   simp only [Act.put, setIfInBounds_toArray, set_cons_succ, set_cons_zero]; refine tk 1 4 (v := ?_) O ?_ ?_; rotate_left
   ·intro wq hSq
    have q0 := over_cell hSq bA.lt (bA.c 0 rfl)
    go_simp
    try rfl
   simp only [Act.put, setIfInBounds_toArray, set_cons_succ, set_cons_zero]; refine tk 2 5 (v := ?_) O ?_ ?_; rotate_left
   ·intro wq hSq
    go_simp
    try rfl
   simp only [Act.put, setIfInBounds_toArray, set_cons_succ, set_cons_zero]; refine rd1 3 fun K hK => ?_
   go_simp
   refine (within_t _ HA).mono ?_; rintro e wn ⟨rfl, rfl⟩; refine hK.out _ _ O (fun _ => ?_); clear hK K
   try simp only [Act.put, setIfInBounds_toArray, set_cons_succ, set_cons_zero]
   refine tk 4 7 (v := ?_) O ?_ ?_; rotate_left
   ·intro wq hSq
    go_simp
    try rfl
   simp only [Act.put, setIfInBounds_toArray, set_cons_succ, set_cons_zero]; refine tk 5 8 (v := ?_) O ?_ ?_; rotate_left
   ·intro wq hSq
    go_simp
    try rfl
   simp only [Act.put, setIfInBounds_toArray, set_cons_succ, set_cons_zero]; refine tk 6 9 (v := ?_) O ?_ ?_; rotate_left
   ·intro wq hSq
    have q0 := over_cell hSq bA.lt (bA.c 0 rfl)
    go_simp
    try rfl
   simp only [Act.put, setIfInBounds_toArray, set_cons_succ, set_cons_zero]; refine rd1 7 fun K hK => ?_
   go_simp
   refine (ievN_t _ (hN.keep O) HB).mono ?_; rintro e wn ⟨rfl, hb⟩; replace O := over_step O hb; clear hb; refine hK.out _ _ O (fun _ => ?_); clear hK K
   try simp only [Act.put, setIfInBounds_toArray, set_cons_succ, set_cons_zero]
   refine tk 8 11 (v := ?_) O ?_ ?_; rotate_left
   ·intro wq hSq
    go_simp
    try rfl
   simp only [Act.put, setIfInBounds_toArray, set_cons_succ, set_cons_zero]; refine tk 9 12 (v := ?_) O ?_ ?_; rotate_left
   ·intro wq hSq
    go_simp
    try rfl
   simp only [Act.put, setIfInBounds_toArray, set_cons_succ, set_cons_zero]; refine wpAnyH_take (i := 10) (v := undef) rfl (by kernel_rfl) (by kernel_rfl) (by kernel_rfl) (fun _ _ _ h => h) (Or.inr ⟨by rfl, by rfl⟩) O ?_
   change wpAnyH _ _ _ _ _ _ _ (Act.put _ (some 13) _) _
   simp only [Act.put, setIfInBounds_toArray, set_cons_succ, set_cons_zero]; refine wpAnyH_take (i := 11) (v := undef) rfl (by kernel_rfl) (by kernel_rfl) (by kernel_rfl) (fun _ _ _ h => h) (Or.inr ⟨by rfl, by rfl⟩) O ?_
   change wpAnyH _ _ _ _ _ _ _ (Act.put _ (some 14) _) _
   simp only [Act.put, setIfInBounds_toArray, set_cons_succ, set_cons_zero]; refine wpAnyH_take (i := 12) (v := undef) rfl (by kernel_rfl) (by kernel_rfl) (by kernel_rfl) (fun _ _ _ h => h) (Or.inr ⟨by rfl, by rfl⟩) O ?_
   change wpAnyH _ _ _ _ _ _ _ (Act.put _ (some 15) _) _
   simp only [Act.put, setIfInBounds_toArray, set_cons_succ, set_cons_zero]; refine tk 13 16 (v := ?_) O ?_ ?_; rotate_left
   ·intro wq hSq
    go_simp
    try rfl
   simp only [Act.put, setIfInBounds_toArray, set_cons_succ, set_cons_zero]; refine tk 14 17 (v := ?_) O ?_ ?_; rotate_left
   ·intro wq hSq
    go_simp
    try rfl
   simp only [Act.put, setIfInBounds_toArray, set_cons_succ, set_cons_zero]; refine wpAnyH_take (i := 15) (v := undef) rfl (by kernel_rfl) (by kernel_rfl) (by kernel_rfl) (fun _ _ _ h => h) (Or.inr ⟨by rfl, by rfl⟩) O ?_
   change wpAnyH _ _ _ _ _ _ _ (Act.put _ (some 18) _) _
   simp only [Act.put, setIfInBounds_toArray, set_cons_succ, set_cons_zero]; refine wpAnyH_take (i := 16) (v := undef) rfl (by kernel_rfl) (by kernel_rfl) (by kernel_rfl) (fun _ _ _ h => h) (Or.inr ⟨by rfl, by rfl⟩) O ?_
   change wpAnyH _ _ _ _ _ _ _ (Act.put _ (some 19) _) _
   simp only [Act.put, setIfInBounds_toArray, set_cons_succ, set_cons_zero]; refine wpAnyH_take (i := 17) (v := undef) rfl (by kernel_rfl) (by kernel_rfl) (by kernel_rfl) (fun _ _ _ h => h) (Or.inr ⟨by rfl, by rfl⟩) O ?_
   change wpAnyH _ _ _ _ _ _ _ (Act.put _ (some 20) _) _
   simp only [Act.put, setIfInBounds_toArray, set_cons_succ, set_cons_zero]; refine wpAnyH_take (i := 18) (v := undef) rfl (by kernel_rfl) (by kernel_rfl) (by kernel_rfl) (fun _ _ _ h => h) (Or.inr ⟨by rfl, by rfl⟩) O ?_
   change wpAnyH _ _ _ _ _ _ _ (Act.put _ (some 21) _) _
   simp only [Act.put, setIfInBounds_toArray, set_cons_succ, set_cons_zero]; refine tk 19 22 (v := ?_) O ?_ ?_; rotate_left
   ·intro wq hSq
    go_simp
    try rfl
   simp only [Act.put, setIfInBounds_toArray, set_cons_succ, set_cons_zero]; refine tk 20 23 (v := ?_) O ?_ ?_; rotate_left
   ·intro wq hSq
    go_simp
    try rfl
   simp only [Act.put, setIfInBounds_toArray, set_cons_succ, set_cons_zero]; refine wpAnyH_take (i := 21) (v := undef) rfl (by kernel_rfl) (by kernel_rfl) (by kernel_rfl) (fun _ _ _ h => h) (Or.inr ⟨by rfl, by rfl⟩) O ?_
   change wpAnyH _ _ _ _ _ _ _ (Act.put _ (some 24) _) _
   simp only [Act.put, setIfInBounds_toArray, set_cons_succ, set_cons_zero]; refine wpAnyH_take (i := 22) (v := undef) rfl (by kernel_rfl) (by kernel_rfl) (by kernel_rfl) (fun _ _ _ h => h) (Or.inr ⟨by rfl, by rfl⟩) O ?_
   change wpAnyH _ _ _ _ _ _ _ (Act.put _ (some 25) _) _
   simp only [Act.put, setIfInBounds_toArray, set_cons_succ, set_cons_zero]; refine wpAnyH_take (i := 23) (v := undef) rfl (by kernel_rfl) (by kernel_rfl) (by kernel_rfl) (fun _ _ _ h => h) (Or.inr ⟨by rfl, by rfl⟩) O ?_
   change wpAnyH _ _ _ _ _ _ _ (Act.put _ (some 26) _) _
   simp only [Act.put, setIfInBounds_toArray, set_cons_succ, set_cons_zero]; refine wpAnyH_take (i := 24) (v := undef) rfl (by kernel_rfl) (by kernel_rfl) (by kernel_rfl) (fun _ _ _ h => h) (Or.inr ⟨by rfl, by rfl⟩) O ?_
   change wpAnyH _ _ _ _ _ _ _ (Act.put _ (some 27) _) _
   simp only [Act.put, setIfInBounds_toArray, set_cons_succ, set_cons_zero]; refine wpAnyH_take (i := 25) (v := undef) rfl (by kernel_rfl) (by kernel_rfl) (by kernel_rfl) (fun _ _ _ h => h) (Or.inr ⟨by rfl, by rfl⟩) O ?_
   change wpAnyH _ _ _ _ _ _ _ (Act.put _ (some 28) _) _
   simp only [Act.put, setIfInBounds_toArray, set_cons_succ, set_cons_zero]; refine tk 26 29 (v := ?_) O ?_ ?_; rotate_left
   ·intro wq hSq
    go_simp
    try rfl
   simp only [Act.put, setIfInBounds_toArray, set_cons_succ, set_cons_zero]; refine tk 27 30 (v := ?_) O ?_ ?_; rotate_left
   ·intro wq hSq
    go_simp
    try rfl
   simp only [Act.put, setIfInBounds_toArray, set_cons_succ, set_cons_zero]; refine wpAnyH_take (i := 28) (v := undef) rfl (by kernel_rfl) (by kernel_rfl) (by kernel_rfl) (fun _ _ _ h => h) (Or.inr ⟨by rfl, by rfl⟩) O ?_
   change wpAnyH _ _ _ _ _ _ _ (Act.put _ (some 31) _) _
   simp only [Act.put, setIfInBounds_toArray, set_cons_succ, set_cons_zero]; refine wpAnyH_take (i := 29) (v := undef) rfl (by kernel_rfl) (by kernel_rfl) (by kernel_rfl) (fun _ _ _ h => h) (Or.inr ⟨by rfl, by rfl⟩) O ?_
   change wpAnyH _ _ _ _ _ _ _ (Act.put _ (some 32) _) _
   simp only [Act.put, setIfInBounds_toArray, set_cons_succ, set_cons_zero]; refine tk 30 33 (v := ?_) O ?_ ?_; rotate_left
   ·intro wq hSq
    go_simp
    try rfl
   simp only [Act.put, setIfInBounds_toArray, set_cons_succ, set_cons_zero]; refine rd1 31 fun K hK => ?_
   go_simp
   refine hK.out _ _ O (fun _ => ?_); clear hK K
   try simp only [Act.put, setIfInBounds_toArray, set_cons_succ, set_cons_zero]
   refine wpAnyH_done (by kernel_rfl) ?_ _; go_wp2
   go_ret
   exact ⟨rfl, over_step B0 O⟩
  ·rw [Bool.true_and]
   have HB := Lib.hid hB; clear hB; cases hC : inB F.width 1 4
   ·rw [Bool.false_and]
    have HC := Lib.hid hC; clear hC
    go_enter Tryz.func104, Tryz.ntmps104
    go_wp2_with fail; rw [← hV]; clear hV; refine wp_region_held_drew (S := fun w' => Over V w') (by kernel_rfl) (over_drew V) (fun hHeld => ?_); obtain ⟨u0, e0'⟩ : ∃ u, u = V.drew := ⟨_, rfl⟩; have O : Over V u0 := by rw [e0']; exact over_drew V
    rw [← e0']; clear e0' hHeld; refine tk 0 3 (v := ?_) O ?_ ?_; rotate_left
    ·intro wq hSq
     go_simp
     try rfl
    simp only [Act.put, setIfInBounds_toArray, set_cons_succ, set_cons_zero]; refine tk 1 4 (v := ?_) O ?_ ?_; rotate_left
    ·intro wq hSq
     have q0 := over_cell hSq bA.lt (bA.c 0 rfl)
     go_simp
     try rfl
    simp only [Act.put, setIfInBounds_toArray, set_cons_succ, set_cons_zero]; refine tk 2 5 (v := ?_) O ?_ ?_; rotate_left
    ·intro wq hSq
     go_simp
     try rfl
    simp only [Act.put, setIfInBounds_toArray, set_cons_succ, set_cons_zero]; refine rd1 3 fun K hK => ?_
    go_simp
    refine (within_t _ HA).mono ?_; rintro e wn ⟨rfl, rfl⟩; refine hK.out _ _ O (fun _ => ?_); clear hK K
    try simp only [Act.put, setIfInBounds_toArray, set_cons_succ, set_cons_zero]
    refine tk 4 7 (v := ?_) O ?_ ?_; rotate_left
    ·intro wq hSq
     go_simp
     try rfl
    simp only [Act.put, setIfInBounds_toArray, set_cons_succ, set_cons_zero]; refine tk 5 8 (v := ?_) O ?_ ?_; rotate_left
    ·intro wq hSq
     go_simp
     try rfl
    simp only [Act.put, setIfInBounds_toArray, set_cons_succ, set_cons_zero]; refine tk 6 9 (v := ?_) O ?_ ?_; rotate_left
    ·intro wq hSq
     have q0 := over_cell hSq bA.lt (bA.c 0 rfl)
     go_simp
     try rfl
    simp only [Act.put, setIfInBounds_toArray, set_cons_succ, set_cons_zero]; refine rd1 7 fun K hK => ?_
    go_simp
    refine (ievN_t _ (hN.keep O) HB).mono ?_; rintro e wn ⟨rfl, hb⟩; replace O := over_step O hb; clear hb; refine hK.out _ _ O (fun _ => ?_); clear hK K
    try simp only [Act.put, setIfInBounds_toArray, set_cons_succ, set_cons_zero]
    refine tk 8 11 (v := ?_) O ?_ ?_; rotate_left
    ·intro wq hSq
     go_simp
     try rfl
    simp only [Act.put, setIfInBounds_toArray, set_cons_succ, set_cons_zero]; refine tk 9 12 (v := ?_) O ?_ ?_; rotate_left
    ·intro wq hSq
     go_simp
     try rfl
    simp only [Act.put, setIfInBounds_toArray, set_cons_succ, set_cons_zero]; refine tk 10 13 (v := ?_) O ?_ ?_; rotate_left
    ·intro wq hSq
     go_simp
     try rfl
    simp only [Act.put, setIfInBounds_toArray, set_cons_succ, set_cons_zero]; refine tk 11 14 (v := ?_) O ?_ ?_; rotate_left
    ·intro wq hSq
     have q2 := over_cell hSq bA.lt (bA.c 2 rfl)
     go_simp
     try rfl
    simp only [Act.put, setIfInBounds_toArray, set_cons_succ, set_cons_zero]; refine rd1 12 fun K hK => ?_
    go_simp
    refine (within_t _ HC).mono ?_; rintro e wn ⟨rfl, rfl⟩; refine hK.out _ _ O (fun _ => ?_); clear hK K
    try simp only [Act.put, setIfInBounds_toArray, set_cons_succ, set_cons_zero]
    refine tk 13 16 (v := ?_) O ?_ ?_; rotate_left
    ·intro wq hSq
     go_simp
     try rfl
    simp only [Act.put, setIfInBounds_toArray, set_cons_succ, set_cons_zero]; refine tk 14 17 (v := ?_) O ?_ ?_; rotate_left
    ·intro wq hSq
     go_simp
     try rfl
    simp only [Act.put, setIfInBounds_toArray, set_cons_succ, set_cons_zero]; refine wpAnyH_take (i := 15) (v := undef) rfl (by kernel_rfl) (by kernel_rfl) (by kernel_rfl) (fun _ _ _ h => h) (Or.inr ⟨by rfl, by rfl⟩) O ?_
    change wpAnyH _ _ _ _ _ _ _ (Act.put _ (some 18) _) _
    simp only [Act.put, setIfInBounds_toArray, set_cons_succ, set_cons_zero]; refine wpAnyH_take (i := 16) (v := undef) rfl (by kernel_rfl) (by kernel_rfl) (by kernel_rfl) (fun _ _ _ h => h) (Or.inr ⟨by rfl, by rfl⟩) O ?_
    change wpAnyH _ _ _ _ _ _ _ (Act.put _ (some 19) _) _
    simp only [Act.put, setIfInBounds_toArray, set_cons_succ, set_cons_zero]; refine wpAnyH_take (i := 17) (v := undef) rfl (by kernel_rfl) (by kernel_rfl) (by kernel_rfl) (fun _ _ _ h => h) (Or.inr ⟨by rfl, by rfl⟩) O ?_
    change wpAnyH _ _ _ _ _ _ _ (Act.put _ (some 20) _) _
    simp only [Act.put, setIfInBounds_toArray, set_cons_succ, set_cons_zero]; refine wpAnyH_take (i := 18) (v := undef) rfl (by kernel_rfl) (by kernel_rfl) (by kernel_rfl) (fun _ _ _ h => h) (Or.inr ⟨by rfl, by rfl⟩) O ?_
    change wpAnyH _ _ _ _ _ _ _ (Act.put _ (some 21) _) _
    simp only [Act.put, setIfInBounds_toArray, set_cons_succ, set_cons_zero]; refine tk 19 22 (v := ?_) O ?_ ?_; rotate_left
    ·intro wq hSq
     go_simp
     try rfl
    simp only [Act.put, setIfInBounds_toArray, set_cons_succ, set_cons_zero]; refine tk 20 23 (v := ?_) O ?_ ?_; rotate_left
    ·intro wq hSq
     go_simp
     try rfl
    simp only [Act.put, setIfInBounds_toArray, set_cons_succ, set_cons_zero]; refine wpAnyH_take (i := 21) (v := undef) rfl (by kernel_rfl) (by kernel_rfl) (by kernel_rfl) (fun _ _ _ h => h) (Or.inr ⟨by rfl, by rfl⟩) O ?_
    change wpAnyH _ _ _ _ _ _ _ (Act.put _ (some 24) _) _
    simp only [Act.put, setIfInBounds_toArray, set_cons_succ, set_cons_zero]; refine wpAnyH_take (i := 22) (v := undef) rfl (by kernel_rfl) (by kernel_rfl) (by kernel_rfl) (fun _ _ _ h => h) (Or.inr ⟨by rfl, by rfl⟩) O ?_
    change wpAnyH _ _ _ _ _ _ _ (Act.put _ (some 25) _) _
    simp only [Act.put, setIfInBounds_toArray, set_cons_succ, set_cons_zero]; refine wpAnyH_take (i := 23) (v := undef) rfl (by kernel_rfl) (by kernel_rfl) (by kernel_rfl) (fun _ _ _ h => h) (Or.inr ⟨by rfl, by rfl⟩) O ?_
    change wpAnyH _ _ _ _ _ _ _ (Act.put _ (some 26) _) _
    simp only [Act.put, setIfInBounds_toArray, set_cons_succ, set_cons_zero]; refine wpAnyH_take (i := 24) (v := undef) rfl (by kernel_rfl) (by kernel_rfl) (by kernel_rfl) (fun _ _ _ h => h) (Or.inr ⟨by rfl, by rfl⟩) O ?_
    change wpAnyH _ _ _ _ _ _ _ (Act.put _ (some 27) _) _
    simp only [Act.put, setIfInBounds_toArray, set_cons_succ, set_cons_zero]; refine wpAnyH_take (i := 25) (v := undef) rfl (by kernel_rfl) (by kernel_rfl) (by kernel_rfl) (fun _ _ _ h => h) (Or.inr ⟨by rfl, by rfl⟩) O ?_
    change wpAnyH _ _ _ _ _ _ _ (Act.put _ (some 28) _) _
    simp only [Act.put, setIfInBounds_toArray, set_cons_succ, set_cons_zero]; refine tk 26 29 (v := ?_) O ?_ ?_; rotate_left
    ·intro wq hSq
     go_simp
     try rfl
    simp only [Act.put, setIfInBounds_toArray, set_cons_succ, set_cons_zero]; refine tk 27 30 (v := ?_) O ?_ ?_; rotate_left
    ·intro wq hSq
     go_simp
     try rfl
    simp only [Act.put, setIfInBounds_toArray, set_cons_succ, set_cons_zero]; refine wpAnyH_take (i := 28) (v := undef) rfl (by kernel_rfl) (by kernel_rfl) (by kernel_rfl) (fun _ _ _ h => h) (Or.inr ⟨by rfl, by rfl⟩) O ?_
    change wpAnyH _ _ _ _ _ _ _ (Act.put _ (some 31) _) _
    simp only [Act.put, setIfInBounds_toArray, set_cons_succ, set_cons_zero]; refine wpAnyH_take (i := 29) (v := undef) rfl (by kernel_rfl) (by kernel_rfl) (by kernel_rfl) (fun _ _ _ h => h) (Or.inr ⟨by rfl, by rfl⟩) O ?_
    change wpAnyH _ _ _ _ _ _ _ (Act.put _ (some 32) _) _
    simp only [Act.put, setIfInBounds_toArray, set_cons_succ, set_cons_zero]; refine tk 30 33 (v := ?_) O ?_ ?_; rotate_left
    ·intro wq hSq
     go_simp
     try rfl
    simp only [Act.put, setIfInBounds_toArray, set_cons_succ, set_cons_zero]; refine rd1 31 fun K hK => ?_
    go_simp
    refine hK.out _ _ O (fun _ => ?_); clear hK K
    try simp only [Act.put, setIfInBounds_toArray, set_cons_succ, set_cons_zero]
    refine wpAnyH_done (by kernel_rfl) ?_ _; go_wp2
    go_ret
    exact ⟨rfl, over_step B0 O⟩
   ·rw [Bool.true_and]
    have HC := Lib.hid hC; clear hC
    by_cases hD : F.links.length ≤ 12
    ·rw [decide_eq_true hD, Bool.true_and]
     have hDI : (F.links.length : Int) ≤ 12 := by omega
     have hDB : decide ((F.links.length : Int) ≤ 12) = true := decide_eq_true hDI; clear hD; cases hW : ((waysL F.links).all fun x => wayB F.nodes.length x)
     ·rw [Bool.false_and]
      have HW := Lib.hid hW; clear hW
      go_enter Tryz.func104, Tryz.ntmps104
      go_wp2_with fail; rw [← hV]; clear hV; refine wp_region_held_drew (S := fun w' => Over V w') (by kernel_rfl) (over_drew V) (fun hHeld => ?_); obtain ⟨u0, e0'⟩ : ∃ u, u = V.drew := ⟨_, rfl⟩; have O : Over V u0 := by rw [e0']; exact over_drew V
      rw [← e0']; clear e0' hHeld; refine tk 0 3 (v := ?_) O ?_ ?_; rotate_left
      ·intro wq hSq
       go_simp
       try rfl
      simp only [Act.put, setIfInBounds_toArray, set_cons_succ, set_cons_zero]; refine tk 1 4 (v := ?_) O ?_ ?_; rotate_left
      ·intro wq hSq
       have q0 := over_cell hSq bA.lt (bA.c 0 rfl)
       go_simp
       try rfl
      simp only [Act.put, setIfInBounds_toArray, set_cons_succ, set_cons_zero]; refine tk 2 5 (v := ?_) O ?_ ?_; rotate_left
      ·intro wq hSq
       go_simp
       try rfl
      simp only [Act.put, setIfInBounds_toArray, set_cons_succ, set_cons_zero]; refine rd1 3 fun K hK => ?_
      go_simp
      refine (within_t _ HA).mono ?_; rintro e wn ⟨rfl, rfl⟩; refine hK.out _ _ O (fun _ => ?_); clear hK K
      try simp only [Act.put, setIfInBounds_toArray, set_cons_succ, set_cons_zero]
      refine tk 4 7 (v := ?_) O ?_ ?_; rotate_left
      ·intro wq hSq
       go_simp
       try rfl
      simp only [Act.put, setIfInBounds_toArray, set_cons_succ, set_cons_zero]; refine tk 5 8 (v := ?_) O ?_ ?_; rotate_left
      ·intro wq hSq
       go_simp
       try rfl
      simp only [Act.put, setIfInBounds_toArray, set_cons_succ, set_cons_zero]; refine tk 6 9 (v := ?_) O ?_ ?_; rotate_left
      ·intro wq hSq
       have q0 := over_cell hSq bA.lt (bA.c 0 rfl)
       go_simp
       try rfl
      simp only [Act.put, setIfInBounds_toArray, set_cons_succ, set_cons_zero]; refine rd1 7 fun K hK => ?_
      go_simp
      refine (ievN_t _ (hN.keep O) HB).mono ?_; rintro e wn ⟨rfl, hb⟩; replace O := over_step O hb; clear hb; refine hK.out _ _ O (fun _ => ?_); clear hK K
      try simp only [Act.put, setIfInBounds_toArray, set_cons_succ, set_cons_zero]
      refine tk 8 11 (v := ?_) O ?_ ?_; rotate_left
      ·intro wq hSq
       go_simp
       try rfl
      simp only [Act.put, setIfInBounds_toArray, set_cons_succ, set_cons_zero]; refine tk 9 12 (v := ?_) O ?_ ?_; rotate_left
      ·intro wq hSq
       go_simp
       try rfl
      simp only [Act.put, setIfInBounds_toArray, set_cons_succ, set_cons_zero]; refine tk 10 13 (v := ?_) O ?_ ?_; rotate_left
      ·intro wq hSq
       go_simp
       try rfl
      simp only [Act.put, setIfInBounds_toArray, set_cons_succ, set_cons_zero]; refine tk 11 14 (v := ?_) O ?_ ?_; rotate_left
      ·intro wq hSq
       have q2 := over_cell hSq bA.lt (bA.c 2 rfl)
       go_simp
       try rfl
      simp only [Act.put, setIfInBounds_toArray, set_cons_succ, set_cons_zero]; refine rd1 12 fun K hK => ?_
      go_simp
      refine (within_t _ HC).mono ?_; rintro e wn ⟨rfl, rfl⟩; refine hK.out _ _ O (fun _ => ?_); clear hK K
      try simp only [Act.put, setIfInBounds_toArray, set_cons_succ, set_cons_zero]
      refine tk 13 16 (v := ?_) O ?_ ?_; rotate_left
      ·intro wq hSq
       go_simp
       try rfl
      simp only [Act.put, setIfInBounds_toArray, set_cons_succ, set_cons_zero]; refine tk 14 17 (v := ?_) O ?_ ?_; rotate_left
      ·intro wq hSq
       go_simp
       try rfl
      simp only [Act.put, setIfInBounds_toArray, set_cons_succ, set_cons_zero]; refine tk 15 18 (v := ?_) O ?_ ?_; rotate_left
      ·intro wq hSq
       go_simp
       try rfl
      simp only [Act.put, setIfInBounds_toArray, set_cons_succ, set_cons_zero]; refine tk 16 19 (v := ?_) O ?_ ?_; rotate_left
      ·intro wq hSq
       have q1 := over_cell hSq bA.lt (bA.c 1 rfl)
       go_simp
       try rfl
      simp only [Act.put, setIfInBounds_toArray, set_cons_succ, set_cons_zero]; refine tk 17 20 (v := ?_) O ?_ ?_; rotate_left
      ·intro wq hSq
       go_simp
       try rfl
      simp only [Act.put, setIfInBounds_toArray, set_cons_succ, set_cons_zero]; refine tk 18 21 (v := ?_) O ?_ ?_; rotate_left
      ·intro wq hSq
       go_simp
       try rfl
      simp only [Act.put, setIfInBounds_toArray, set_cons_succ, set_cons_zero]; refine tk 19 22 (v := ?_) O ?_ ?_; rotate_left
      ·intro wq hSq
       go_simp
       try rfl
      simp only [Act.put, setIfInBounds_toArray, set_cons_succ, set_cons_zero]; refine tk 20 23 (v := ?_) O ?_ ?_; rotate_left
      ·intro wq hSq
       go_simp
       try rfl
      simp only [Act.put, setIfInBounds_toArray, set_cons_succ, set_cons_zero]; refine tk 21 24 (v := ?_) O ?_ ?_; rotate_left
      ·intro wq hSq
       have q0 := over_cell hSq bA.lt (bA.c 0 rfl); have q1 := over_cell hSq bA.lt (bA.c 1 rfl); have q2 := over_cell hSq bA.lt (bA.c 2 rfl)
       go_simp
       try rfl
      simp only [Act.put, setIfInBounds_toArray, set_cons_succ, set_cons_zero]; refine tk 23 26 (v := ?_) O ?_ ?_; rotate_left
      ·intro wq hSq
       have q0 := over_cell hSq bA.lt (bA.c 0 rfl); have q1 := over_cell hSq bA.lt (bA.c 1 rfl); have q2 := over_cell hSq bA.lt (bA.c 2 rfl)
       go_simp
       try rfl
      simp only [Act.put, setIfInBounds_toArray, set_cons_succ, set_cons_zero]; refine tk 24 27 (v := ?_) O ?_ ?_; rotate_left
      ·intro wq hSq
       go_simp
       try rfl
      simp only [Act.put, setIfInBounds_toArray, set_cons_succ, set_cons_zero]; refine rd1 22 fun K hK => ?_
      go_simp
      refine (fways_any _ _ F _ (hL.keep O) HLN.out).mono ?_; rintro e wn ⟨u, rfl, hu, hb⟩; replace O := over_step O hb; obtain ⟨ua, uc, rfl⟩ := hu.len; clear hb; refine hK.out _ _ O (fun _ => ?_); clear hK K
      try simp only [Act.put, setIfInBounds_toArray, set_cons_succ, set_cons_zero]
      refine rd1 25 fun K hK => ?_
      go_simp
      refine (ievW_t _ _ F _ (hN.keep O) (hu.keep (Below.refl _ _)) HW).mono ?_; rintro e wn ⟨rfl, hb⟩; replace O := over_step O hb; clear hb; refine hK.out _ _ O (fun _ => ?_); clear hK K
      try simp only [Act.put, setIfInBounds_toArray, set_cons_succ, set_cons_zero]
      refine tk 26 29 (v := ?_) O ?_ ?_; rotate_left
      ·intro wq hSq
       go_simp
       try rfl
      simp only [Act.put, setIfInBounds_toArray, set_cons_succ, set_cons_zero]; refine tk 27 30 (v := ?_) O ?_ ?_; rotate_left
      ·intro wq hSq
       go_simp
       try rfl
      simp only [Act.put, setIfInBounds_toArray, set_cons_succ, set_cons_zero]; refine wpAnyH_take (i := 28) (v := undef) rfl (by kernel_rfl) (by kernel_rfl) (by kernel_rfl) (fun _ _ _ h => h) (Or.inr ⟨by rfl, by rfl⟩) O ?_
      change wpAnyH _ _ _ _ _ _ _ (Act.put _ (some 31) _) _
      simp only [Act.put, setIfInBounds_toArray, set_cons_succ, set_cons_zero]; refine wpAnyH_take (i := 29) (v := undef) rfl (by kernel_rfl) (by kernel_rfl) (by kernel_rfl) (fun _ _ _ h => h) (Or.inr ⟨by rfl, by rfl⟩) O ?_
      change wpAnyH _ _ _ _ _ _ _ (Act.put _ (some 32) _) _
      simp only [Act.put, setIfInBounds_toArray, set_cons_succ, set_cons_zero]; refine tk 30 33 (v := ?_) O ?_ ?_; rotate_left
      ·intro wq hSq
       go_simp
       try rfl
      simp only [Act.put, setIfInBounds_toArray, set_cons_succ, set_cons_zero]; refine rd1 31 fun K hK => ?_
      go_simp
      refine hK.out _ _ O (fun _ => ?_); clear hK K
      try simp only [Act.put, setIfInBounds_toArray, set_cons_succ, set_cons_zero]
      refine wpAnyH_done (by kernel_rfl) ?_ _; go_wp2
      go_ret
      exact ⟨rfl, over_step B0 O⟩
     ·rw [Bool.true_and]
      have HFI : Hid (∀ x ∈ waysL F.links, fitsE x.fn ∧ fitsE x.fi) := Lib.hid fun x hx => way_fits (n := F.nodes.length) (by have := HA.out; unfold inB at this; simp at this; omega) (List.all_eq_true.1 hW x hx)
      have HW := Lib.hid hW; clear hW; obtain ⟨b, hb⟩ : ∃ b, decide (endsY (waysL F.links)).Nodup = b := ⟨_, rfl⟩; rw [hb]; have HE := Lib.hid hb; clear hb
      go_enter Tryz.func104, Tryz.ntmps104
      go_wp2_with fail; rw [← hV]; clear hV; refine wp_region_held_drew (S := fun w' => Over V w') (by kernel_rfl) (over_drew V) (fun hHeld => ?_); obtain ⟨u0, e0'⟩ : ∃ u, u = V.drew := ⟨_, rfl⟩; have O : Over V u0 := by rw [e0']; exact over_drew V
      rw [← e0']; clear e0' hHeld; refine tk 0 3 (v := ?_) O ?_ ?_; rotate_left
      ·intro wq hSq
       go_simp
       try rfl
      simp only [Act.put, setIfInBounds_toArray, set_cons_succ, set_cons_zero]; refine tk 1 4 (v := ?_) O ?_ ?_; rotate_left
      ·intro wq hSq
       have q0 := over_cell hSq bA.lt (bA.c 0 rfl)
       go_simp
       try rfl
      simp only [Act.put, setIfInBounds_toArray, set_cons_succ, set_cons_zero]; refine tk 2 5 (v := ?_) O ?_ ?_; rotate_left
      ·intro wq hSq
       go_simp
       try rfl
      simp only [Act.put, setIfInBounds_toArray, set_cons_succ, set_cons_zero]; refine rd1 3 fun K hK => ?_
      go_simp
      refine (within_t _ HA).mono ?_; rintro e wn ⟨rfl, rfl⟩; refine hK.out _ _ O (fun _ => ?_); clear hK K
      try simp only [Act.put, setIfInBounds_toArray, set_cons_succ, set_cons_zero]
      refine tk 4 7 (v := ?_) O ?_ ?_; rotate_left
      ·intro wq hSq
       go_simp
       try rfl
      simp only [Act.put, setIfInBounds_toArray, set_cons_succ, set_cons_zero]; refine tk 5 8 (v := ?_) O ?_ ?_; rotate_left
      ·intro wq hSq
       go_simp
       try rfl
      simp only [Act.put, setIfInBounds_toArray, set_cons_succ, set_cons_zero]; refine tk 6 9 (v := ?_) O ?_ ?_; rotate_left
      ·intro wq hSq
       have q0 := over_cell hSq bA.lt (bA.c 0 rfl)
       go_simp
       try rfl
      simp only [Act.put, setIfInBounds_toArray, set_cons_succ, set_cons_zero]; refine rd1 7 fun K hK => ?_
      go_simp
      refine (ievN_t _ (hN.keep O) HB).mono ?_; rintro e wn ⟨rfl, hb⟩; replace O := over_step O hb; clear hb; refine hK.out _ _ O (fun _ => ?_); clear hK K
      try simp only [Act.put, setIfInBounds_toArray, set_cons_succ, set_cons_zero]
      refine tk 8 11 (v := ?_) O ?_ ?_; rotate_left
      ·intro wq hSq
       go_simp
       try rfl
      simp only [Act.put, setIfInBounds_toArray, set_cons_succ, set_cons_zero]; refine tk 9 12 (v := ?_) O ?_ ?_; rotate_left
      ·intro wq hSq
       go_simp
       try rfl
      simp only [Act.put, setIfInBounds_toArray, set_cons_succ, set_cons_zero]; refine tk 10 13 (v := ?_) O ?_ ?_; rotate_left
      ·intro wq hSq
       go_simp
       try rfl
      simp only [Act.put, setIfInBounds_toArray, set_cons_succ, set_cons_zero]; refine tk 11 14 (v := ?_) O ?_ ?_; rotate_left
      ·intro wq hSq
       have q2 := over_cell hSq bA.lt (bA.c 2 rfl)
       go_simp
       try rfl
      simp only [Act.put, setIfInBounds_toArray, set_cons_succ, set_cons_zero]; refine rd1 12 fun K hK => ?_
      go_simp
      refine (within_t _ HC).mono ?_; rintro e wn ⟨rfl, rfl⟩; refine hK.out _ _ O (fun _ => ?_); clear hK K
      try simp only [Act.put, setIfInBounds_toArray, set_cons_succ, set_cons_zero]
      refine tk 13 16 (v := ?_) O ?_ ?_; rotate_left
      ·intro wq hSq
       go_simp
       try rfl
      simp only [Act.put, setIfInBounds_toArray, set_cons_succ, set_cons_zero]; refine tk 14 17 (v := ?_) O ?_ ?_; rotate_left
      ·intro wq hSq
       go_simp
       try rfl
      simp only [Act.put, setIfInBounds_toArray, set_cons_succ, set_cons_zero]; refine tk 15 18 (v := ?_) O ?_ ?_; rotate_left
      ·intro wq hSq
       go_simp
       try rfl
      simp only [Act.put, setIfInBounds_toArray, set_cons_succ, set_cons_zero]; refine tk 16 19 (v := ?_) O ?_ ?_; rotate_left
      ·intro wq hSq
       have q1 := over_cell hSq bA.lt (bA.c 1 rfl)
       go_simp
       try rfl
      simp only [Act.put, setIfInBounds_toArray, set_cons_succ, set_cons_zero]; refine tk 17 20 (v := ?_) O ?_ ?_; rotate_left
      ·intro wq hSq
       go_simp
       try rfl
      simp only [Act.put, setIfInBounds_toArray, set_cons_succ, set_cons_zero]; refine tk 18 21 (v := ?_) O ?_ ?_; rotate_left
      ·intro wq hSq
       go_simp
       try rfl
      simp only [Act.put, setIfInBounds_toArray, set_cons_succ, set_cons_zero]; refine tk 19 22 (v := ?_) O ?_ ?_; rotate_left
      ·intro wq hSq
       go_simp
       try rfl
      simp only [Act.put, setIfInBounds_toArray, set_cons_succ, set_cons_zero]; refine tk 20 23 (v := ?_) O ?_ ?_; rotate_left
      ·intro wq hSq
       go_simp
       try rfl
      simp only [Act.put, setIfInBounds_toArray, set_cons_succ, set_cons_zero]; refine tk 21 24 (v := ?_) O ?_ ?_; rotate_left
      ·intro wq hSq
       have q0 := over_cell hSq bA.lt (bA.c 0 rfl); have q1 := over_cell hSq bA.lt (bA.c 1 rfl); have q2 := over_cell hSq bA.lt (bA.c 2 rfl)
       go_simp
       try rfl
      simp only [Act.put, setIfInBounds_toArray, set_cons_succ, set_cons_zero]; refine tk 23 26 (v := ?_) O ?_ ?_; rotate_left
      ·intro wq hSq
       have q0 := over_cell hSq bA.lt (bA.c 0 rfl); have q1 := over_cell hSq bA.lt (bA.c 1 rfl); have q2 := over_cell hSq bA.lt (bA.c 2 rfl)
       go_simp
       try rfl
      simp only [Act.put, setIfInBounds_toArray, set_cons_succ, set_cons_zero]; refine tk 24 27 (v := ?_) O ?_ ?_; rotate_left
      ·intro wq hSq
       go_simp
       try rfl
      simp only [Act.put, setIfInBounds_toArray, set_cons_succ, set_cons_zero]; refine rd1 22 fun K hK => ?_
      go_simp
      refine (fways_any _ _ F _ (hL.keep O) HLN.out).mono ?_; rintro e wn ⟨u, rfl, hu, hb⟩; replace O := over_step O hb; obtain ⟨ua, uc, rfl⟩ := hu.len; clear hb; refine hK.out _ _ O (fun _ => ?_); clear hK K
      try simp only [Act.put, setIfInBounds_toArray, set_cons_succ, set_cons_zero]
      refine rd1 25 fun K hK => ?_
      go_simp
      refine (ievW_t _ _ F _ (hN.keep O) (hu.keep (Below.refl _ _)) HW).mono ?_; rintro e wn ⟨rfl, hb⟩; replace O := over_step O hb; clear hb; refine hK.out _ _ O (fun _ => ?_); clear hK K
      try simp only [Act.put, setIfInBounds_toArray, set_cons_succ, set_cons_zero]
      refine tk 26 29 (v := ?_) O ?_ ?_; rotate_left
      ·intro wq hSq
       go_simp
       try rfl
      simp only [Act.put, setIfInBounds_toArray, set_cons_succ, set_cons_zero]; refine tk 27 30 (v := ?_) O ?_ ?_; rotate_left
      ·intro wq hSq
       go_simp
       try rfl
      simp only [Act.put, setIfInBounds_toArray, set_cons_succ, set_cons_zero]; refine tk 28 31 (v := ?_) O ?_ ?_; rotate_left
      ·intro wq hSq
       have q0 := over_cell hSq bA.lt (bA.c 0 rfl); have q1 := over_cell hSq bA.lt (bA.c 1 rfl); have q2 := over_cell hSq bA.lt (bA.c 2 rfl)
       go_simp
       try rfl
      simp only [Act.put, setIfInBounds_toArray, set_cons_succ, set_cons_zero]; refine rd1 29 fun K hK => ?_
      go_simp
      refine (iends_t _ _ F _ (hL.keep O) HLN.out HFI.out HE).mono ?_; rintro e wn ⟨rfl, hb⟩; replace O := over_step O hb; clear hb; refine hK.out _ _ O (fun _ => ?_); clear hK K
      try simp only [Act.put, setIfInBounds_toArray, set_cons_succ, set_cons_zero]
      refine tk 30 33 (v := ?_) O ?_ ?_; rotate_left
      ·intro wq hSq
       go_simp
       try rfl
      simp only [Act.put, setIfInBounds_toArray, set_cons_succ, set_cons_zero]; refine rd1 31 fun K hK => ?_
      go_simp
      refine hK.out _ _ O (fun _ => ?_); clear hK K
      try simp only [Act.put, setIfInBounds_toArray, set_cons_succ, set_cons_zero]
      refine wpAnyH_done (by kernel_rfl) ?_ _; go_wp2
      go_ret
      exact ⟨rfl, over_step B0 O⟩
    ·rw [decide_eq_false hD, Bool.false_and]
     have hDI : ¬ (F.links.length : Int) ≤ 12 := by omega
     have hDB : decide ((F.links.length : Int) ≤ 12) = false := decide_eq_false hDI; clear hD
     go_enter Tryz.func104, Tryz.ntmps104
     go_wp2_with fail; rw [← hV]; clear hV; refine wp_region_held_drew (S := fun w' => Over V w') (by kernel_rfl) (over_drew V) (fun hHeld => ?_); obtain ⟨u0, e0'⟩ : ∃ u, u = V.drew := ⟨_, rfl⟩; have O : Over V u0 := by rw [e0']; exact over_drew V
     rw [← e0']; clear e0' hHeld; refine tk 0 3 (v := ?_) O ?_ ?_; rotate_left
     ·intro wq hSq
      go_simp
      try rfl
     simp only [Act.put, setIfInBounds_toArray, set_cons_succ, set_cons_zero]; refine tk 1 4 (v := ?_) O ?_ ?_; rotate_left
     ·intro wq hSq
      have q0 := over_cell hSq bA.lt (bA.c 0 rfl)
      go_simp
      try rfl
     simp only [Act.put, setIfInBounds_toArray, set_cons_succ, set_cons_zero]; refine tk 2 5 (v := ?_) O ?_ ?_; rotate_left
     ·intro wq hSq
      go_simp
      try rfl
     simp only [Act.put, setIfInBounds_toArray, set_cons_succ, set_cons_zero]; refine rd1 3 fun K hK => ?_
     go_simp
     refine (within_t _ HA).mono ?_; rintro e wn ⟨rfl, rfl⟩; refine hK.out _ _ O (fun _ => ?_); clear hK K
     try simp only [Act.put, setIfInBounds_toArray, set_cons_succ, set_cons_zero]
     refine tk 4 7 (v := ?_) O ?_ ?_; rotate_left
     ·intro wq hSq
      go_simp
      try rfl
     simp only [Act.put, setIfInBounds_toArray, set_cons_succ, set_cons_zero]; refine tk 5 8 (v := ?_) O ?_ ?_; rotate_left
     ·intro wq hSq
      go_simp
      try rfl
     simp only [Act.put, setIfInBounds_toArray, set_cons_succ, set_cons_zero]; refine tk 6 9 (v := ?_) O ?_ ?_; rotate_left
     ·intro wq hSq
      have q0 := over_cell hSq bA.lt (bA.c 0 rfl)
      go_simp
      try rfl
     simp only [Act.put, setIfInBounds_toArray, set_cons_succ, set_cons_zero]; refine rd1 7 fun K hK => ?_
     go_simp
     refine (ievN_t _ (hN.keep O) HB).mono ?_; rintro e wn ⟨rfl, hb⟩; replace O := over_step O hb; clear hb; refine hK.out _ _ O (fun _ => ?_); clear hK K
     try simp only [Act.put, setIfInBounds_toArray, set_cons_succ, set_cons_zero]
     refine tk 8 11 (v := ?_) O ?_ ?_; rotate_left
     ·intro wq hSq
      go_simp
      try rfl
     simp only [Act.put, setIfInBounds_toArray, set_cons_succ, set_cons_zero]; refine tk 9 12 (v := ?_) O ?_ ?_; rotate_left
     ·intro wq hSq
      go_simp
      try rfl
     simp only [Act.put, setIfInBounds_toArray, set_cons_succ, set_cons_zero]; refine tk 10 13 (v := ?_) O ?_ ?_; rotate_left
     ·intro wq hSq
      go_simp
      try rfl
     simp only [Act.put, setIfInBounds_toArray, set_cons_succ, set_cons_zero]; refine tk 11 14 (v := ?_) O ?_ ?_; rotate_left
     ·intro wq hSq
      have q2 := over_cell hSq bA.lt (bA.c 2 rfl)
      go_simp
      try rfl
     simp only [Act.put, setIfInBounds_toArray, set_cons_succ, set_cons_zero]; refine rd1 12 fun K hK => ?_
     go_simp
     refine (within_t _ HC).mono ?_; rintro e wn ⟨rfl, rfl⟩; refine hK.out _ _ O (fun _ => ?_); clear hK K
     try simp only [Act.put, setIfInBounds_toArray, set_cons_succ, set_cons_zero]
     refine tk 13 16 (v := ?_) O ?_ ?_; rotate_left
     ·intro wq hSq
      go_simp
      try rfl
     simp only [Act.put, setIfInBounds_toArray, set_cons_succ, set_cons_zero]; refine tk 14 17 (v := ?_) O ?_ ?_; rotate_left
     ·intro wq hSq
      go_simp
      try rfl
     simp only [Act.put, setIfInBounds_toArray, set_cons_succ, set_cons_zero]; refine tk 15 18 (v := ?_) O ?_ ?_; rotate_left
     ·intro wq hSq
      go_simp
      try rfl
     simp only [Act.put, setIfInBounds_toArray, set_cons_succ, set_cons_zero]; refine tk 16 19 (v := ?_) O ?_ ?_; rotate_left
     ·intro wq hSq
      have q1 := over_cell hSq bA.lt (bA.c 1 rfl)
      go_simp
      try rfl
     simp only [Act.put, setIfInBounds_toArray, set_cons_succ, set_cons_zero]; refine tk 17 20 (v := ?_) O ?_ ?_; rotate_left
     ·intro wq hSq
      go_simp
      try rfl
     simp only [Act.put, setIfInBounds_toArray, set_cons_succ, set_cons_zero]; refine tk 18 21 (v := ?_) O ?_ ?_; rotate_left
     ·intro wq hSq
      go_simp
      try rfl
     simp only [Act.put, setIfInBounds_toArray, set_cons_succ, set_cons_zero]; refine tk 19 22 (v := ?_) O ?_ ?_; rotate_left
     ·intro wq hSq
      go_simp
      try rfl
     simp only [Act.put, setIfInBounds_toArray, set_cons_succ, set_cons_zero]; refine tk 20 23 (v := ?_) O ?_ ?_; rotate_left
     ·intro wq hSq
      go_simp
      try rfl
     simp only [Act.put, setIfInBounds_toArray, set_cons_succ, set_cons_zero]; refine wpAnyH_take (i := 21) (v := undef) rfl (by kernel_rfl) (by kernel_rfl) (by kernel_rfl) (fun _ _ _ h => h) (Or.inr ⟨by rfl, by rfl⟩) O ?_
     change wpAnyH _ _ _ _ _ _ _ (Act.put _ (some 24) _) _
     simp only [Act.put, setIfInBounds_toArray, set_cons_succ, set_cons_zero]; refine wpAnyH_take (i := 22) (v := undef) rfl (by kernel_rfl) (by kernel_rfl) (by kernel_rfl) (fun _ _ _ h => h) (Or.inr ⟨by rfl, by rfl⟩) O ?_
     change wpAnyH _ _ _ _ _ _ _ (Act.put _ (some 25) _) _
     simp only [Act.put, setIfInBounds_toArray, set_cons_succ, set_cons_zero]; refine wpAnyH_take (i := 23) (v := undef) rfl (by kernel_rfl) (by kernel_rfl) (by kernel_rfl) (fun _ _ _ h => h) (Or.inr ⟨by rfl, by rfl⟩) O ?_
     change wpAnyH _ _ _ _ _ _ _ (Act.put _ (some 26) _) _
     simp only [Act.put, setIfInBounds_toArray, set_cons_succ, set_cons_zero]; refine wpAnyH_take (i := 24) (v := undef) rfl (by kernel_rfl) (by kernel_rfl) (by kernel_rfl) (fun _ _ _ h => h) (Or.inr ⟨by rfl, by rfl⟩) O ?_
     change wpAnyH _ _ _ _ _ _ _ (Act.put _ (some 27) _) _
     simp only [Act.put, setIfInBounds_toArray, set_cons_succ, set_cons_zero]; refine wpAnyH_take (i := 25) (v := undef) rfl (by kernel_rfl) (by kernel_rfl) (by kernel_rfl) (fun _ _ _ h => h) (Or.inr ⟨by rfl, by rfl⟩) O ?_
     change wpAnyH _ _ _ _ _ _ _ (Act.put _ (some 28) _) _
     simp only [Act.put, setIfInBounds_toArray, set_cons_succ, set_cons_zero]; refine tk 26 29 (v := ?_) O ?_ ?_; rotate_left
     ·intro wq hSq
      go_simp
      try rfl
     simp only [Act.put, setIfInBounds_toArray, set_cons_succ, set_cons_zero]; refine tk 27 30 (v := ?_) O ?_ ?_; rotate_left
     ·intro wq hSq
      go_simp
      try rfl
     simp only [Act.put, setIfInBounds_toArray, set_cons_succ, set_cons_zero]; refine wpAnyH_take (i := 28) (v := undef) rfl (by kernel_rfl) (by kernel_rfl) (by kernel_rfl) (fun _ _ _ h => h) (Or.inr ⟨by rfl, by rfl⟩) O ?_
     change wpAnyH _ _ _ _ _ _ _ (Act.put _ (some 31) _) _
     simp only [Act.put, setIfInBounds_toArray, set_cons_succ, set_cons_zero]; refine wpAnyH_take (i := 29) (v := undef) rfl (by kernel_rfl) (by kernel_rfl) (by kernel_rfl) (fun _ _ _ h => h) (Or.inr ⟨by rfl, by rfl⟩) O ?_
     change wpAnyH _ _ _ _ _ _ _ (Act.put _ (some 32) _) _
     simp only [Act.put, setIfInBounds_toArray, set_cons_succ, set_cons_zero]; refine tk 30 33 (v := ?_) O ?_ ?_; rotate_left
     ·intro wq hSq
      go_simp
      try rfl
     simp only [Act.put, setIfInBounds_toArray, set_cons_succ, set_cons_zero]; refine rd1 31 fun K hK => ?_
     go_simp
     refine hK.out _ _ O (fun _ => ?_); clear hK K
     try simp only [Act.put, setIfInBounds_toArray, set_cons_succ, set_cons_zero]
     refine wpAnyH_done (by kernel_rfl) ?_ _; go_wp2
     go_ret
     exact ⟨rfl, over_step B0 O⟩
end Go.Proofs.YtbcmoofpgffbhabGreat
namespace Go.Proofs.YtbcmoofpgffbhabGreat
open Go.ChangeShapes Go.WideShapes Go.ChangeAt Go.RowKit Go.BigFrame Go.Joins
set_option linter.unusedVariables false
set_option maxRecDepth 100000
set_option linter.unusedSimpArgs false
set_option maxRecDepth 100000

def msB (l : List Mg) : Bool := (l.all fun m => updB m) && decide (l.length ≤ 500)
theorem smokM_t (gv cv pv mv : Value) (x : Mg) {b : Bool} (w : World) (h : RdM w gv cv pv mv x) (hw : wtM x ≤ 1048576) (H : Hid (mokM x = b)) :
  Calls Tryz.prog 62 #[.agg #[.int .i64 x.kn, .int .i64 x.sa, .int .i64 x.ho, .int .i64 x.ix, gv, cv, pv, .int .i64 x.pr, mv, .int .i64 x.bw, .int .i64 x.er]] w fun e w' => e = .returned (.bool b) ∧ Below w.heap.size w w' := H.out ▸ smokM_any gv cv pv mv x w h hw
set_option maxHeartbeats 1000000 in
theorem smsgs_any (v : Value) (l : List Mg) (w : World) (h : RdMS w v l) (hw : ∀ m ∈ l, wtM m ≤ 1048576) :
  Calls Tryz.prog 162 #[v] w fun e w' => e = .returned (.bool (msB l)) ∧ Below w.heap.size w w' := by
 have hm := h.1; obtain ⟨a, c, rfl, hc⟩ := h.el; obtain ⟨n, hn⟩ : ∃ n, n = l.length := ⟨_, rfl⟩; rw [← hn] at hc hm ⊢; have HN := Lib.hid hn; have HW := Lib.hid hw; clear h hn hw
 go_enter Tryz.func162, Tryz.ntmps162
 go_wp2
 go_loopw [3] (fun q wr => ∃ j : Nat, j ≤ n ∧ q = .int .i64 j ∧ (∀ i, i < j → updB (l.getD i m0) = true) ∧ Below w.heap.size w wr) (fun q _ => n - (intOf q).toNat)
 case atStart => exact ⟨0, Nat.zero_le _, rfl, fun i hi => by omega, Below.refl _ _⟩
 case round =>
  obtain ⟨j, hj, rfl, hyes, hB⟩ := hrel; have HY := Lib.hid hyes; clear hyes
  by_cases hlt : j < n
  ·have hltI : (j : Int) < (n : Int) := by omega
   obtain ⟨b, o, rfl, hE⟩ := hc j hlt; obtain ⟨x, hx⟩ : ∃ x, l.getD j m0 = x := ⟨_, rfl⟩; rw [hx] at hE; obtain ⟨gv, cv, pv, mv, hr, g0, g1, g2, g3, g4, g5, g6, g7, g8, g9, g10⟩ := hE.keep hB
   have HXM : Hid (x ∈ l) := Lib.hid (by
    rw [← hx, List.getD_eq_getElem?_getD, List.getElem?_eq_getElem (by rw [← HN.out]; exact hlt)]
    exact List.getElem_mem _)
   have HX := Lib.hid hx; have HC := Lib.hid hc; clear hx hc hE
   have no : updB x = false → msB l = false := fun q => by
    unfold msB; rw [show (l.all fun m => updB m) = false from List.all_eq_false.2 ⟨x, HXM.out, by rw [q]; simp⟩]
    rfl
   have NO := Lib.hid no; clear no; cases hk : mokM x
   ·have hu : updB x = false := by unfold updB; rw [hk, Bool.and_false]
    have HU := Lib.hid hu; have HK := Lib.hid hk; clear hu hk; go_wp2_with fail; refine (smokM_t gv cv pv mv x wr hr (HW.out x HXM.out) HK).mono ?_; rintro e w1 ⟨rfl, hb1⟩; go_wp2
    go_ret
    exact ⟨ret_bool (NO.out HU.out).symm, below_step hB hb1⟩
   ·cases hkn : (x.kn == 2)
    ·have hu : updB x = false := by unfold updB; rw [hkn, Bool.false_and]
     have hne : (x.kn != 2) = true := by simp [bne, hkn]
     have HU := Lib.hid hu; have HK := Lib.hid hk; have HKN := Lib.hid hkn; clear hu hk hkn; go_wp2_with fail; refine (smokM_t gv cv pv mv x wr hr (HW.out x HXM.out) HK).mono ?_; rintro e w1 ⟨rfl, hb1⟩; replace g0 := cell_keep hb1 (World.block_lt_of_cell? wr _ g0) g0; go_wp2
     go_ret
     exact ⟨ret_bool (NO.out HU.out).symm, below_step hB hb1⟩
    ·have hu : updB x = true := by unfold updB; rw [hkn, hk]; rfl
     have hne : (x.kn != 2) = false := by simp [bne, hkn]
     have HU := Lib.hid hu; have HK := Lib.hid hk; have HKN := Lib.hid hkn; clear hu hk hkn; go_wp2_with fail; refine (smokM_t gv cv pv mv x wr hr (HW.out x HXM.out) HK).mono ?_; rintro e w1 ⟨rfl, hb1⟩; replace g0 := cell_keep hb1 (World.block_lt_of_cell? wr _ g0) g0; go_wp2
     go_roundw
     case rel =>
      refine ⟨j + 1, by omega, by go_num, fun i hi => ?_, below_step hB hb1⟩
      by_cases hij : i = j
      ·subst hij; rw [HX.out]; exact HU.out
      ·exact HY.out i (by omega)
     case measure => simp [intOf]; omega
  ·have hkn : j = n := by omega
   subst hkn; clear hc
   have e : (l.all fun m => updB m) = true := by
    rw [List.all_eq_true]; intro x hx; obtain ⟨i, hi, e⟩ := List.mem_iff_getElem.1 hx; have := HY.out i (by rw [HN.out]; exact hi); rw [List.getD_eq_getElem?_getD, List.getElem?_eq_getElem hi] at this; rw [← e]
    exact this
   have e2 : msB l = decide (j ≤ 500) := by unfold msB; rw [e, Bool.true_and, HN.out]
   have hd : decide ((j : Int) ≤ 500) = decide (j ≤ 500) := by simp only [decide_eq_decide]; omega
   have E2 := Lib.hid (hd.trans e2.symm); clear e e2 hd; go_wp2
   go_ret
   exact ⟨ret_bool E2.out, hB⟩
/-- the ends of a link are there and differ -/
def linkB (n : Nat) (x : Lk) : Bool := decide (0 ≤ x.a ∧ x.a < n ∧ 0 ≤ x.b ∧ x.b < n ∧ x.a ≠ x.b) && (inB x.ai 0 7 && inB x.bi 0 7)
def endsL (L : List Lk) : List (Int × Int) := L.flatMap fun x => [(x.a, x.ai), (x.b, x.bi)]
theorem endsL_take {L : List Lk} {j : Nat} {x : Lk} (hj : j < L.length) (hx : L.getD j l0 = x) : endsL (L.take (j + 1)) = endsL (L.take j) ++ [(x.a, x.ai), (x.b, x.bi)] := by
 have hg : L[j] = x := by simpa [List.getD, hj] using hx
 rw [List.take_add_one, List.getElem?_eq_getElem hj, hg]
 simp [endsL]
/-- the place of an end -/
def idx (p : Int × Int) : Nat := (p.1 * 8 + p.2).toNat
def usedC (l : List (Int × Int)) : List Value := (List.range 64).map fun i => .bool (l.any fun p => decide (idx p = i))
theorem usedC_get (l : List (Int × Int)) {i : Nat} (h : i < 64) : (usedC l)[i]? = some (.bool (l.any fun p => decide (idx p = i))) := by
 simp [usedC, List.getElem?_map, List.getElem?_range h]
theorem usedC_set (l : List (Int × Int)) (p : Int × Int) : (usedC l).set (idx p) (.bool true) = usedC (l ++ [p]) := by
 apply List.ext_getElem?
 intro i
 by_cases hi : i < 64
 ·rw [usedC_get _ hi, List.getElem?_set, usedC_get _ hi]
  by_cases e : idx p = i
  ·simp [e, usedC, hi]
  ·rw [if_neg e]
   simp [e]
 ·have h1 : (usedC (l ++ [p])).length = 64 := by simp [usedC]
  have h2 : ((usedC l).set (idx p) (.bool true)).length = 64 := by simp [usedC]
  rw [List.getElem?_eq_none (by omega), List.getElem?_eq_none (by omega)]
/-- ends in range lie at their own places -/
def okP9 (p : Int × Int) : Prop := 0 ≤ p.1 ∧ p.1 < 8 ∧ 0 ≤ p.2 ∧ p.2 < 8
theorem idx_inj {p q : Int × Int} (hp : okP9 p) (hq : okP9 q) (h : idx p = idx q) : p = q := by
 obtain ⟨a1, a2, a3, a4⟩ := hp; obtain ⟨b1, b2, b3, b4⟩ := hq; unfold idx at h
 apply Prod.ext <;> omega
theorem idx_any {l : List (Int × Int)} {p : Int × Int} (hl : ∀ q ∈ l, okP9 q) (hp : okP9 p) : (l.any fun q => decide (idx q = idx p)) = decide (p ∈ l) := by
 by_cases h : p ∈ l
 ·rw [decide_eq_true h, List.any_eq_true]
  exact ⟨p, h, by simp⟩
 ·rw [decide_eq_false h, List.any_eq_false]
  intro q hq e
  exact h (idx_inj (hl q hq) hp (of_decide_eq_true e) ▸ hq)
theorem siface8 {n : Int} {b : Bool} (w : World) (H : Hid (inB n 0 7 = b)) : Calls Tryz.prog 44 #[.int .i64 n] w fun e w' => e = .returned (.bool b) ∧ w = w' := by
 have h := H.out; unfold inB at h
 by_cases h0 : 0 ≤ n
 ·by_cases h7 : n < 8
  ·have hb : Hid (b = true) := Lib.hid (by rw [← h]; simp; omega)
   clear h
   go_enter Tryz.func44, Tryz.ntmps44
   go_wp2
   go_ret
   exact ⟨ret_bool hb.out.symm, rfl⟩
  ·have hb : Hid (b = false) := Lib.hid (by rw [← h]; simp; omega)
   clear h
   go_enter Tryz.func44, Tryz.ntmps44
   go_wp2
   go_ret
   exact ⟨ret_bool hb.out.symm, rfl⟩
 ·have hb : Hid (b = false) := Lib.hid (by rw [← h]; simp; omega)
  clear h
  go_enter Tryz.func44, Tryz.ntmps44
  go_wp2
  go_ret
  exact ⟨ret_bool hb.out.symm, rfl⟩
theorem make_64 (w : World) : (Instr.makeSlice 242 (.int .i64 64) (.int .i64 64)).run Tryz.prog w = .ok (.slice (some ⟨w.heap.size, 0, none⟩) 64 64) (w.alloc (.cells (madeCells #[Value.bool false] 64) 4)) := by
 obtain ⟨i, hi, hzz⟩ := Option.map_eq_some_iff.1 (show (Tryz.prog.info? 4).map (fun i => (i.zero, i.size, i.bytes)) = some (some (.bool false), 1, 1) by kernel_rfl); simp only [Prod.mk.injEq] at hzz; obtain ⟨hz, hs, hb⟩ := hzz; have hr := run_make (P := Tryz.prog) w 242 4 i _ Tryz.underlying242 hi hz .i64 .i64 64 64 (by omega) (Int.le_refl _) (by rw [hb]; omega) (by omega)
 simpa [hs, Value.cells] using hr
theorem used_0 : (madeCells #[Value.bool false] 64).toList = usedC [] := by
 first
 | kernel_rfl
 | simp [madeCells, usedC, Nat.mod_one]
def lendB (n : Nat) (L : List Lk) : Bool := (L.all fun x => linkB n x) && decide (endsL L).Nodup
theorem lend_no {n : Nat} {L : List Lk} {x : Lk} (hx : x ∈ L) (h : linkB n x = false) : lendB n L = false := by
 unfold lendB; rw [show (L.all fun x => linkB n x) = false from List.all_eq_false.2 ⟨x, hx, by rw [h]; simp⟩]
 rfl
theorem lend_dup {n j : Nat} {L : List Lk} {x : Lk} (h : endsL (L.take (j + 1)) = endsL (L.take j) ++ [(x.a, x.ai), (x.b, x.bi)]) (hd : (x.a, x.ai) ∈ endsL (L.take j) ∨ (x.b, x.bi) ∈ endsL (L.take j)) : lendB n L = false := by
 have hn : ¬ (endsL L).Nodup := by
  intro q
  have h1 : (endsL (L.take (j + 1))).Nodup := by
   have : endsL L = endsL (L.take (j + 1)) ++ endsL (L.drop (j + 1)) := by
    unfold endsL; rw [← List.flatMap_append, List.take_append_drop]
   rw [this, List.nodup_append] at q
   exact q.1
  rw [h, List.nodup_append] at h1
  rcases hd with hd | hd
  ·exact h1.2.2 _ hd _ (by simp) rfl
  ·exact h1.2.2 _ hd _ (by simp) rfl
 unfold lendB; rw [decide_eq_false hn, Bool.and_false]
set_option maxHeartbeats 4000000 in
theorem sends_any (nv lv : Value) (F : Fb) (w : World) (hN : RdNS w nv F.nodes) (h : RdLS w lv F.links) (hn8 : F.nodes.length ≤ 8) :
  Calls Tryz.prog 161 #[.agg #[nv, lv, .int .i64 F.width]] w fun e w' => e = .returned (.bool (lendB F.nodes.length F.links)) ∧ Below w.heap.size w w' := by
 have hml := h.1; obtain ⟨na, nx, rfl⟩ := hN.len; obtain ⟨a, c, rfl, hc⟩ := h.el; obtain ⟨n, hn⟩ : ∃ n, n = F.nodes.length := ⟨_, rfl⟩; obtain ⟨m, hm⟩ : ∃ m, m = F.links.length := ⟨_, rfl⟩; rw [← hn] at hn8 ⊢; rw [← hm] at hc hml ⊢; have HM := Lib.hid hm; clear h hm hn hN; have hmk := make_64; obtain ⟨bF, B0, z⟩ := one w [.slice na n nx, .slice a m c, .int .i64 F.width] 60; have B1 : Below w.heap.size w ((w.alloc (.cells #[.slice na n nx, .slice a m c, .int .i64 F.width] 60)).alloc (.cells (madeCells #[Value.bool false] 64) 4)) := below_step B0 ((Below.refl _ _).alloc (Nat.le_refl _) _); have bU0 := Bl.new (w.alloc (.cells #[.slice na n nx, .slice a m c, .int .i64 F.width] 60)) (madeCells #[Value.bool false] 64).toList 4 (w.heap.size + 1) z.symm; rw [used_0] at bU0; rw [show (usedC []).toArray = madeCells #[Value.bool false] 64 by rw [← used_0]] at bU0; replace bF := bF.keep ((Below.refl _ _).alloc (Nat.le_refl _) (.cells (madeCells #[Value.bool false] 64) 4))
 go_enter Tryz.func161, Tryz.ntmps161
 go_wp2; obtain ⟨W1, hW⟩ : ∃ W, W = (w.alloc (.cells #[.slice na n nx, .slice a m c, .int .i64 F.width] 60)).alloc (.cells (madeCells #[Value.bool false] 64) 4) := ⟨_, rfl⟩; obtain ⟨U, hU⟩ : ∃ U, U = w.heap.size + 1 := ⟨_, rfl⟩; rw [← hW] at B1 bU0 bF ⊢; rw [← hU] at bU0 ⊢; have hwU : w.heap.size ≤ U := by omega
 have hFU : w.heap.size ≠ U := by omega
 clear hW hU hmk B0 z
 go_loopw [4] (fun q wr => ∃ j : Nat, j ≤ m ∧ q = .int .i64 j ∧ (∀ i, i < j → linkB n (F.links.getD i l0) = true) ∧ (endsL (F.links.take j)).Nodup ∧ Bl wr U (usedC (endsL (F.links.take j))) ∧ Bl wr w.heap.size [.slice na n nx, .slice a m c, .int .i64 F.width] ∧ Below w.heap.size w wr) (fun q _ => m - (intOf q).toNat)
 case atStart => exact ⟨0, Nat.zero_le _, rfl, fun i hi => by omega, by simp [endsL], bU0, bF, B1⟩
 case round =>
  obtain ⟨j, hj, rfl, hyes, hnd, bU, bF1, hB⟩ := hrel; have HY := Lib.hid hyes; have HND := Lib.hid hnd; clear hyes hnd bU0 bF; have f0 := bF1.c 0 rfl; have f1 := bF1.c 1 rfl
  by_cases hlt : j < m
  ·have hltI : (j : Int) < (m : Int) := by omega
   obtain ⟨b, o, rfl, hE⟩ := hc j hlt; obtain ⟨x, hx⟩ : ∃ x, F.links.getD j l0 = x := ⟨_, rfl⟩; rw [hx] at hE; obtain ⟨sv, tv, hr, k0, k1, k2, k3, k4, k5, k6⟩ := hE.keep hB; obtain ⟨av, ax, rfl⟩ := hr.1.len; obtain ⟨bv, bx, rfl⟩ := hr.2.len
   have HXM : Hid (x ∈ F.links) := Lib.hid (by
    rw [← hx, List.getD_eq_getElem?_getD, List.getElem?_eq_getElem (by rw [← HM.out]; exact hlt)]
    exact List.getElem_mem _)
   have HT := Lib.hid (endsL_take (by rw [← HM.out]; exact hlt) hx); have HX := Lib.hid hx; have HC := Lib.hid hc
   have HOKL : Hid (∀ q ∈ endsL (F.links.take j), okP9 q) := Lib.hid (fun q hq => by
    obtain ⟨y, hy, hq⟩ := List.mem_flatMap.1 hq; obtain ⟨i, hi, e⟩ := List.mem_iff_getElem.1 hy; have hi2 : i < j := by rw [List.length_take] at hi; omega
    have hl := HY.out i hi2; have hi3 : i < F.links.length := by rw [List.length_take] at hi; omega
    rw [List.getElem_take] at e; rw [List.getD_eq_getElem?_getD, List.getElem?_eq_getElem hi3, show (some (F.links[i]'hi3)).getD l0 = F.links[i]'hi3 from rfl, e] at hl; unfold linkB inB at hl
    simp at hl
    simp only [List.mem_cons, List.not_mem_nil, or_false] at hq; unfold okP9
    rcases hq with rfl | rfl <;> dsimp only <;> omega)
   have no : linkB n x = false → lendB n F.links = false := lend_no HXM.out; have NO := Lib.hid no; have A1 : Below wr.heap.size wr (wr.alloc (.cells #[.int .i64 x.a, .int .i64 x.ai, .int .i64 x.b, .int .i64 x.bi, .bool x.up, .slice av x.ab.length ax, .slice bv x.ba.length bx] 142)) := (Below.refl _ _).alloc (Nat.le_refl _) _; have bP := Bl.new wr [.int .i64 x.a, .int .i64 x.ai, .int .i64 x.b, .int .i64 x.bi, .bool x.up, .slice av x.ab.length ax, .slice bv x.ba.length bx] 142 wr.heap.size rfl; have bU2 := bU.keep A1; have bF2 := bF1.keep A1; have p0 := bP.c 0 rfl; have p1 := bP.c 1 rfl; have p2 := bP.c 2 rfl; have p3 := bP.c 3 rfl; clear hx hc hE hr no; have q0 := bF2.c 0 rfl
   by_cases c1 : x.a < 0
   ·have hnk : linkB n x = false := by
     unfold linkB; rw [decide_eq_false (by omega), Bool.false_and]
    have HNK := Lib.hid hnk; clear hnk; go_wp2
    go_ret
    exact ⟨ret_bool (NO.out HNK.out).symm, below_step hB A1⟩
   ·by_cases c2 : (n : Int) ≤ x.a
    ·have hnk : linkB n x = false := by
      unfold linkB; rw [decide_eq_false (by omega), Bool.false_and]
     have HNK := Lib.hid hnk; clear hnk; go_wp2
     go_ret
     exact ⟨ret_bool (NO.out HNK.out).symm, below_step hB A1⟩
    ·by_cases c3 : x.b < 0
     ·have hnk : linkB n x = false := by
       unfold linkB; rw [decide_eq_false (by omega), Bool.false_and]
      have HNK := Lib.hid hnk; clear hnk; go_wp2
      go_ret
      exact ⟨ret_bool (NO.out HNK.out).symm, below_step hB A1⟩
     ·by_cases c4 : (n : Int) ≤ x.b
      ·have hnk : linkB n x = false := by
        unfold linkB; rw [decide_eq_false (by omega), Bool.false_and]
       have HNK := Lib.hid hnk; clear hnk; go_wp2
       go_ret
       exact ⟨ret_bool (NO.out HNK.out).symm, below_step hB A1⟩
      ·by_cases c5 : x.a = x.b
       ·have hnk : linkB n x = false := by
         unfold linkB; rw [decide_eq_false (by omega), Bool.false_and]
        have HNK := Lib.hid hnk; clear hnk; have hbe : (x.a == x.b) = true := by simp [c5]
        have C5 := Lib.hid c5; clear c5; go_wp2
        go_ret
        exact ⟨ret_bool (NO.out HNK.out).symm, below_step hB A1⟩
       ·have hbe : (x.a == x.b) = false := by simp [c5]
        cases hi1 : inB x.ai 0 7
        ·have hnk : linkB n x = false := by
          unfold linkB; rw [hi1, Bool.false_and, Bool.and_false]
         have HNK := Lib.hid hnk; clear hnk; have HI1 := Lib.hid hi1; clear hi1; go_wp2_with fail; refine (siface8 _ HI1).mono ?_; rintro e wz ⟨rfl, rfl⟩; go_wp2
         go_ret
         exact ⟨ret_bool (NO.out HNK.out).symm, below_step hB A1⟩
        ·cases hi2 : inB x.bi 0 7
         ·have hnk : linkB n x = false := by
           unfold linkB; rw [hi1, hi2, Bool.and_false, Bool.and_false]
          have HNK := Lib.hid hnk; clear hnk; have HI1 := Lib.hid hi1; have HI2 := Lib.hid hi2; clear hi1 hi2; go_wp2_with fail; refine (siface8 _ HI1).mono ?_; rintro e wz ⟨rfl, rfl⟩; go_wp2_with fail; refine (siface8 _ HI2).mono ?_; rintro e wz ⟨rfl, rfl⟩; go_wp2
          go_ret
          exact ⟨ret_bool (NO.out HNK.out).symm, below_step hB A1⟩
         ·have hyes : linkB n x = true := by
           unfold linkB; rw [hi1, hi2, decide_eq_true (by omega)]
           rfl
          have hai : 0 ≤ x.ai ∧ x.ai ≤ 7 := by unfold inB at hi1; simp at hi1; omega
          have hbi : 0 ≤ x.bi ∧ x.bi ≤ 7 := by unfold inB at hi2; simp at hi2; omega
          have ok1 : okP9 (x.a, x.ai) := by unfold okP9; dsimp only; omega
          have ok2 : okP9 (x.b, x.bi) := by unfold okP9; dsimp only; omega
          obtain ⟨ka, hka⟩ : ∃ k, k = idx (x.a, x.ai) := ⟨_, rfl⟩; obtain ⟨kb, hkb⟩ : ∃ k, k = idx (x.b, x.bi) := ⟨_, rfl⟩; have hka2 : (ka : Int) = x.a * 8 + x.ai := by rw [hka]; unfold idx; dsimp only; omega
          have hkb2 : (kb : Int) = x.b * 8 + x.bi := by rw [hkb]; unfold idx; dsimp only; omega
          have hkaI : (ka : Int) < 64 := by omega
          have hkbI : (kb : Int) < 64 := by omega
          have hkaN : ka < 64 := by omega
          have hkbN : kb < 64 := by omega
          have hw1 : IntKind.i64.wrap (x.a * 8) = x.a * 8 := wrap64_in _ (by omega) (by omega); have hw2 : IntKind.i64.wrap (x.a * 8 + x.ai) = (ka : Int) := by rw [hka2]; exact wrap64_in _ (by omega) (by omega)
          have hw3 : IntKind.i64.wrap (x.b * 8) = x.b * 8 := wrap64_in _ (by omega) (by omega); have hw4 : IntKind.i64.wrap (x.b * 8 + x.bi) = (kb : Int) := by rw [hkb2]; exact wrap64_in _ (by omega) (by omega)
          have HI1 := Lib.hid hi1; have HI2 := Lib.hid hi2; have HYES := Lib.hid hyes; have HKA := Lib.hid hka; have HKB := Lib.hid hkb; have HOK := Lib.hid (And.intro ok1 ok2); clear hi1 hi2 hyes hka hkb hka2 hkb2 ok1 ok2 hai hbi; go_wp2_with fail; refine (siface8 _ HI1).mono ?_; rintro e wz ⟨rfl, rfl⟩; go_wp2_with fail; refine (siface8 _ HI2).mono ?_; rintro e wz ⟨rfl, rfl⟩; obtain ⟨V, hV⟩ : ∃ V, V = wr.alloc (.cells #[.int .i64 x.a, .int .i64 x.ai, .int .i64 x.b, .int .i64 x.bi, .bool x.up, .slice av x.ab.length ax, .slice bv x.ba.length bx] 142) := ⟨_, rfl⟩; go_wp2_with fail; rw [← hV] at A1 bP bU2 bF2 ⊢; clear hV p0 p1 p2 p3; refine wp_region_class (C := Over (V)) (by kernel_rfl) (by kernel_rfl) (over_drew _) ?_
          repeat (first | go_big_quiet_skip | (go_big_quiet_want; go_big_quiet_op; go_big_quiet_on) | (go_big_quiet_want; apply Exists.intro; refine ⟨fun w' hC => ?_, ?_⟩; (have k0 := over_cell hC bP.lt (bP.c 0 rfl); have k1 := over_cell hC bP.lt (bP.c 1 rfl); have k2 := over_cell hC bP.lt (bP.c 2 rfl); have k3 := over_cell hC bP.lt (bP.c 3 rfl); simp [Oper.quietAt, Oper.quietUpon, go_sem, k0, k1, k2, k3, hw1, hw2, hw3, hw4]; first | done | rfl); go_big_quiet_on; simp only [Act.put, List.setIfInBounds_toArray, List.set_cons_zero, List.set_cons_succ]))
          refine wpQuiet_nil ?_; intro wr hC; have k0 := over_cell hC bP.lt (bP.c 0 rfl); have k1 := over_cell hC bP.lt (bP.c 1 rfl); have k2 := over_cell hC bP.lt (bP.c 2 rfl); have k3 := over_cell hC bP.lt (bP.c 3 rfl); obtain ⟨W2, rfl⟩ : ∃ x : World, x = wr := ⟨_, rfl⟩; have bU3 := bU2.keep hC; have bF3 := bF2.keep hC; have hB2 := below_step (below_step hB A1) hC; have ha1 : (endsL (F.links.take j)).any (fun q => decide (idx q = ka)) = decide ((x.a, x.ai) ∈ endsL (F.links.take j)) := by rw [HKA.out]; exact idx_any HOKL.out HOK.out.1
          have ha2 : (endsL (F.links.take j)).any (fun q => decide (idx q = kb)) = decide ((x.b, x.bi) ∈ endsL (F.links.take j)) := by rw [HKB.out]; exact idx_any HOKL.out HOK.out.2
          have u1 := bU3.c ka (usedC_get _ hkaN); have u2 := bU3.c kb (usedC_get _ hkbN); rw [ha1] at u1; rw [ha2] at u2; clear ha1 ha2 k0 k1 k2 k3 bP hC A1; cases d1 : decide ((x.a, x.ai) ∈ endsL (F.links.take j))
          ·rw [d1] at u1
           cases d2 : decide ((x.b, x.bi) ∈ endsL (F.links.take j))
           ·rw [d2] at u2
            have HD := Lib.hid (And.intro (of_decide_eq_false d1) (of_decide_eq_false d2)); clear d1 d2; have hkab : ka ≠ kb := fun q => c5 (Prod.mk.inj (idx_inj HOK.out.1 HOK.out.2 (by rw [← HKA.out, ← HKB.out]; exact q))).1
            have hkba : kb ≠ ka := hkab.symm; have v1 := bU3.f ka (usedC_get _ hkaN); have v2 := bU3.f kb (usedC_get _ hkbN); go_wp2; have bU4 := (bU3.set ka (.bool true)).set kb (.bool true); rw [HKA.out, HKB.out, usedC_set, usedC_set] at bU4; rw [← HKA.out, ← HKB.out] at bU4; have hB3 := (hB2.setCell (p := ⟨U, ka, none⟩) hwU (.bool true)).setCell (p := ⟨U, kb, none⟩) hwU (.bool true); have bF4 := (bF3.far (o := ka) (u := .bool true) hFU).far (o := kb) (u := .bool true) hFU; have HB4 := Lib.hid (And.intro bU4 bF4); clear bU4 bF4
            go_roundw
            case rel =>
             refine ⟨j + 1, by omega, by go_num, fun i hi => ?_, ?_, ?_, HB4.out.2, hB3⟩
             ·by_cases hij : i = j
              ·subst hij; rw [HX.out]; exact HYES.out
              ·exact HY.out i (by omega)
             ·rw [HT.out, List.nodup_append]
              refine ⟨HND.out, ?_, fun p hp q hq => ?_⟩
              ·have : (x.a, x.ai) ≠ (x.b, x.bi) := fun q => c5 (Prod.mk.inj q).1
               simp [this]
              ·rintro rfl
               simp only [List.mem_cons, List.not_mem_nil, or_false] at hq
               rcases hq with rfl | rfl
               ·exact HD.out.1 hp
               ·exact HD.out.2 hp
             ·rw [HT.out, show endsL (F.links.take j) ++ [(x.a, x.ai), (x.b, x.bi)] = (endsL (F.links.take j) ++ [(x.a, x.ai)]) ++ [(x.b, x.bi)] by simp]
              exact HB4.out.1
            case measure => simp [intOf]; omega
           ·rw [d2] at u2
            have HD := Lib.hid (of_decide_eq_true d2); clear d1 d2; go_wp2
            go_ret
            exact ⟨ret_bool (lend_dup HT.out (.inr HD.out)).symm, hB2⟩
          ·rw [d1] at u1
           have HD := Lib.hid (of_decide_eq_true d1); clear d1 u2; go_wp2
           go_ret
           exact ⟨ret_bool (lend_dup HT.out (.inl HD.out)).symm, hB2⟩
  ·have hkn : j = m := by omega
   subst hkn; have HTT : Hid (F.links.take j = F.links) := Lib.hid (List.take_of_length_le (by rw [HM.out]; exact Nat.le_refl _)); clear hc
   have e : lendB n F.links = true := by
    unfold lendB
    rw [show (F.links.all fun x => linkB n x) = true from List.all_eq_true.2 fun x hx => by
     obtain ⟨i, hi, e⟩ := List.mem_iff_getElem.1 hx; have := HY.out i (by rw [HM.out]; exact hi); rw [List.getD_eq_getElem?_getD, List.getElem?_eq_getElem hi] at this; rw [← e]
     exact this, Bool.true_and, decide_eq_true_iff]
    have := HND.out
    rwa [HTT.out] at this
   have E := Lib.hid e; clear e; go_wp2
   go_ret
   exact ⟨ret_bool E.out.symm, hB⟩
end Go.Proofs.YtbcmoofpgffbhabGreat
