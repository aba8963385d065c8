/-
  The directions of all links of a fabric, and whether one is valid: of the program. Conditions: those in each contract.
  No interface of a switch is used twice: of the program. Conditions: those in each contract.
-/
import Derived.Test.YtkodnipmogdgkabGreatFCd
import Derived.Test.YtkodnipmogdgkabGreatFCj
import Derived.Maps.OwnSet
import Derived.DeepKeys4
namespace Go.Proofs.YtkodnipmogdgkabGreat
open Go.ChangeShapes Go.WideShapes Go.ChangeAt Go.RowKit Go.BigFrame Go.Joins
set_option linter.unusedVariables false
set_option maxRecDepth 100000
set_option maxRecDepth 100000
set_option linter.unusedSimpArgs false
set_option maxRecDepth 100000

set_option maxHeartbeats 2000000 in
theorem fways_any (nv lv : Value) (F : Fb) (w : World) (h : RdLS w lv F.links) (hn1 : F.links.length ≤ 1048576) :
    Calls Tryz.prog 87 #[.agg #[nv, lv, .int .i64 F.width]] w fun e w' => ∃ u, e = .returned u ∧ RdWS w' u (waysL F.links) ∧ Below w.heap.size w w' := by
  obtain ⟨a, c, rfl, hc⟩ := h.el; obtain ⟨n, hn⟩ : ∃ n, n = F.links.length := ⟨_, rfl⟩; rw [← hn] at hc hn1 ⊢; have HN := Lib.hid hn; clear h hn; obtain ⟨bF, B0, z⟩ := one w [nv, .slice a n c, .int .i64 F.width] 33; have f1 := bF.c 1 rfl
  go_enter Tryz.func87, Tryz.ntmps87
  go_wp2; obtain ⟨W1, hW⟩ : ∃ W1, W1 = w.alloc (.cells #[nv, .slice a n c, .int .i64 F.width] 33) := ⟨_, rfl⟩; rw [← hW] at bF B0 z ⊢; have hRW : w.heap.size ≤ W1.heap.size := by omega
  clear hW z f1
  go_loopw [3, 9] (fun sv q wr => ∃ j : Nat, j ≤ n ∧ q = .int .i64 j ∧ ∃ T : List WT, wr.ownsRow W1.heap.size 115 6 sv T.length (flatW T) ∧ wysT T = waysL (F.links.take j) ∧ (∀ t ∈ T, RdPt w t.p t.x.tr) ∧ Over W1 wr) (fun _ q _ => n - (intOf q).toNat)
  case atStart => exact ⟨0, Nat.zero_le _, rfl, [], World.ownsRow_nil _ _ _ _, rfl, (fun t ht => by cases ht), over_refl _⟩
  case round =>
    obtain ⟨j, hj, rfl, T, hok, hTE, hRd, hB⟩ := hrel
    by_cases hlt : j < n
    · have hltI : (j : Int) < (n : Int) := by omega
      obtain ⟨b, o, rfl, hE⟩ := hc j hlt; obtain ⟨x, hx⟩ : ∃ x, F.links.getD j l0 = x := ⟨_, rfl⟩; rw [hx] at hE; have hE2 := hE.keep (below_step B0 hB); obtain ⟨av, bv, hr, q0, q1, q2, q3, q4, q5, q6⟩ := hE; have HRR : Hid (RdPt w (.pointer (some ⟨b, o + j * 7 + 5, none⟩)) x.ab ∧ RdPt w (.pointer (some ⟨b, o + j * 7 + 6, none⟩)) x.ba) := Lib.hid ⟨⟨b, o + j * 7 + 5, av, rfl, q5, hr.1⟩, ⟨b, o + j * 7 + 6, bv, rfl, q6, hr.2⟩⟩; have HF : Hid (waysL (F.links.take (j + 1)) = waysL (F.links.take j) ++ waysOf x) := Lib.hid (by rw [← hx]; exact waysL_take (by rw [← HN.out]; exact hlt)); have HCC := Lib.hid hc; have HRD := Lib.hid hRd
      have HLN : Hid (T.length + 2 ≤ 4294967296) := Lib.hid (by
        rw [← wysT_len, hTE, waysL_len, List.length_take]
        omega)
      have HTE := Lib.hid hTE; clear hx hc hRd hTE q0 q1 q2 q3 q4 q5 q6 hr; have f1 := (bF.keep hB).c 1 rfl; go_wp2_with fail; refine (lways_any b (o + j * 7) x wr hE2).mono ?_; rintro e w1 ⟨rfl, hb⟩; clear f1 hE2; replace hok := rowW_keep hok hb; replace hB := over_step hB hb; have A1 : Below w1.heap.size w1 (w1.alloc (.cells #[.int .i64 x.a, .int .i64 x.ai, .int .i64 x.b, .int .i64 x.bi, .bool x.up, .pointer (some ⟨b, o + j * 7 + 5, none⟩), .int .i64 x.b, .int .i64 x.bi, .int .i64 x.a, .int .i64 x.ai, .bool x.up, .pointer (some ⟨b, o + j * 7 + 6, none⟩)] 116)) := (Below.refl _ _).alloc (Nat.le_refl _) _; have bQ := Bl.new w1 [.int .i64 x.a, .int .i64 x.ai, .int .i64 x.b, .int .i64 x.bi, .bool x.up, .pointer (some ⟨b, o + j * 7 + 5, none⟩), .int .i64 x.b, .int .i64 x.bi, .int .i64 x.a, .int .i64 x.ai, .bool x.up, .pointer (some ⟨b, o + j * 7 + 6, none⟩)] 116 w1.heap.size rfl; replace hok := rowW_keep hok A1; replace hB := over_step hB A1; clear hb A1; go_wp2_with (at_builtin; refine Hid.out ?_); refine Lib.hid ?_; refine wp_appW rfl _ _ rfl W1.heap.size w1.heap.size 2 _ T.length (flatW T) [.int .i64 x.a, .int .i64 x.ai, .int .i64 x.b, .int .i64 x.bi, .bool x.up, .pointer (some ⟨b, o + j * 7 + 5, none⟩), .int .i64 x.b, .int .i64 x.bi, .int .i64 x.a, .int .i64 x.ai, .bool x.up, .pointer (some ⟨b, o + j * 7 + 6, none⟩)] rfl rfl hok bQ rfl (by simp [Value.oneCell']) HLN.out hB.size ?_; intro v3 w3 o3 g3; have O3 : Over W1 w3 := below_growW hB hok (Nat.le_refl _) g3; clear g3 bQ hok hB; go_wp2
      go_roundw
      case rel =>
        refine ⟨j + 1, by omega, by go_num, T ++ [⟨⟨x.a, x.ai, x.b, x.bi, x.up, x.ab⟩, .pointer (some ⟨b, o + j * 7 + 5, none⟩)⟩, ⟨⟨x.b, x.bi, x.a, x.ai, x.up, x.ba⟩, .pointer (some ⟨b, o + j * 7 + 6, none⟩)⟩], ?_, ?_, ?_, O3⟩
        · rw [List.length_append, flatW_append]
          exact o3
        · rw [HF.out, ← HTE.out]
          simp [wysT, waysOf]
        · intro t ht
          rcases List.mem_append.1 ht with q | q
          · exact HRD.out t q
          · simp only [List.mem_cons, List.not_mem_nil, or_false] at q
            rcases q with rfl | rfl
            · exact HRR.out.1
            · exact HRR.out.2
      case measure => simp [intOf]; omega
    · have hkn : j = n := by omega
      subst hkn; have HT : Hid (F.links.take j = F.links) := Lib.hid (List.take_of_length_le (by rw [HN.out]; exact Nat.le_refl _)); clear hc; go_wp2
      go_ret
      have BB := below_step B0 hB
      exact ⟨_, rfl, by rw [← HT.out, ← hTE]; exact rowW_rd hok (fun t ht => (hRd t ht).keep BB), BB⟩
/-- the messages of one direction are as they should be -/
def trB (x : Wy) : Bool := decide (x.tr.length ≤ 500) && (x.tr.all fun m => updB m) && (x.up || decide (x.tr.length = 0))
def endB (n : Nat) (a i : Int) : Bool := inB a 0 ((n : Int) - 1) && inB i 0 7
def wayB (n : Nat) (x : Wy) : Bool := endB n x.fn x.fi && (x.fn != x.tn) && trB x
theorem iidle_any (pv : Value) (x : Wy) (w : World) (h : RdW w pv x) :
    Calls Tryz.prog 94 #[.agg #[.int .i64 x.fn, .int .i64 x.fi, .int .i64 x.tn, .int .i64 x.ti, .bool x.up, pv]] w fun e w' => e = .returned (.bool (decide (x.tr.length = 0))) ∧ Below w.heap.size w w' := by
  obtain ⟨bA, B0, z⟩ := one w [.int .i64 x.fn, .int .i64 x.fi, .int .i64 x.tn, .int .i64 x.ti, .bool x.up, pv] 115; have h1 : RdPt _ pv x.tr := RdPt.keep h B0; obtain ⟨b, o, v, rfl, hc, hm⟩ := h1; obtain ⟨va, vx, rfl⟩ := hm.len; clear z hm; have a5 := bA.c 5 rfl; obtain ⟨n, hn⟩ : ∃ n, n = x.tr.length := ⟨_, rfl⟩; rw [← hn] at hc ⊢; clear hn
  have hd : ((n : Int) == 0) = decide (n = 0) := by
    by_cases h : n = 0
    · simp [h]
    · rw [decide_eq_false h]; simp; omega
  have HD := Lib.hid hd; clear hd
  go_enter Tryz.func94, Tryz.ntmps94
  go_wp2_with fail
  go_ret
  exact ⟨ret_bool HD.out, B0⟩
theorem itr_any (pv : Value) (x : Wy) (w : World) (h : RdW w pv x) :
    Calls Tryz.prog 123 #[.agg #[.int .i64 x.fn, .int .i64 x.fi, .int .i64 x.tn, .int .i64 x.ti, .bool x.up, pv]] w fun e w' => e = .returned (.bool (trB x)) ∧ Below w.heap.size w w' := by
  obtain ⟨bA, B0, z⟩ := one w [.int .i64 x.fn, .int .i64 x.fi, .int .i64 x.tn, .int .i64 x.ti, .bool x.up, pv] 115; have hRW : RdW _ pv x := RdPt.keep h B0; have h1 : RdPt _ pv x.tr := hRW; obtain ⟨b, o, v, rfl, hc, hm⟩ := h1; obtain ⟨va, vx, rfl⟩ := hm.len; clear z; have a0 := bA.c 0 rfl; have a1 := bA.c 1 rfl; have a2 := bA.c 2 rfl; have a3 := bA.c 3 rfl; have a4 := bA.c 4 rfl; have a5 := bA.c 5 rfl; obtain ⟨p, hp⟩ : ∃ p, (x.tr.all fun m => updB m) = p := ⟨_, rfl⟩; obtain ⟨n, hn⟩ : ∃ n, n = x.tr.length := ⟨_, rfl⟩; unfold trB; rw [hp, ← hn]; have HP := Lib.hid hp
  by_cases hle : n ≤ 500
  · have hleI : (n : Int) ≤ 500 := by omega
    rw [decide_eq_true hle, Bool.true_and]; rw [← hn] at hc hm; have HN := Lib.hid hn; clear hp hn hle; cases p
    · rw [Bool.false_and]
      go_enter Tryz.func123, Tryz.ntmps123
      go_wp2_with fail; refine (ievU_t _ hm HP).mono ?_; rintro e w1 ⟨rfl, hb⟩; replace bA := bA.keep hb; replace hRW : RdW w1 (.pointer (some ⟨b, o, none⟩)) x := RdPt.keep hRW hb; replace B0 := below_step B0 hb; clear hb a0 a1 a2 a3 a4 a5; have a0 := bA.c 0 rfl; have a1 := bA.c 1 rfl; have a2 := bA.c 2 rfl; have a3 := bA.c 3 rfl; have a4 := bA.c 4 rfl; have a5 := bA.c 5 rfl; go_wp2
      go_ret
      exact ⟨rfl, B0⟩
    · rw [Bool.true_and]
      cases hu : x.up
      · rw [Bool.false_or]
        have hix := fun (W : World) (q : RdW W (.pointer (some ⟨b, o, none⟩)) x) => iidle_any (.pointer (some ⟨b, o, none⟩)) x W q
        rw [hu, ← HN.out] at hix; rw [hu] at a4 bA B0 hRW hc hm a0 a1 a2 a3 a5; have HIX := Lib.hid hix; clear hix
        go_enter Tryz.func123, Tryz.ntmps123
        go_wp2_with fail; refine (ievU_t _ hm HP).mono ?_; rintro e w1 ⟨rfl, hb⟩; replace bA := bA.keep hb; replace hRW : RdW w1 (.pointer (some ⟨b, o, none⟩)) x := RdPt.keep hRW hb; replace B0 := below_step B0 hb; clear hb a0 a1 a2 a3 a4 a5; have a0 := bA.c 0 rfl; have a1 := bA.c 1 rfl; have a2 := bA.c 2 rfl; have a3 := bA.c 3 rfl; have a4 := bA.c 4 rfl; have a5 := bA.c 5 rfl; go_wp2_with fail; refine (HIX.out _ hRW).mono ?_; rintro e w2 ⟨rfl, hb⟩; replace B0 := below_step B0 hb; go_wp2
        go_ret
        exact ⟨rfl, B0⟩
      · rw [Bool.true_or]
        rw [hu] at a4 bA B0 hRW hc hm a0 a1 a2 a3 a5
        go_enter Tryz.func123, Tryz.ntmps123
        go_wp2_with fail; refine (ievU_t _ hm HP).mono ?_; rintro e w1 ⟨rfl, hb⟩; replace bA := bA.keep hb; replace hRW : RdW w1 (.pointer (some ⟨b, o, none⟩)) x := RdPt.keep hRW hb; replace B0 := below_step B0 hb; clear hb a0 a1 a2 a3 a4 a5; have a0 := bA.c 0 rfl; have a1 := bA.c 1 rfl; have a2 := bA.c 2 rfl; have a3 := bA.c 3 rfl; have a4 := bA.c 4 rfl; have a5 := bA.c 5 rfl; go_wp2
        go_ret
        exact ⟨rfl, B0⟩
  · have hleI : ¬ (n : Int) ≤ 500 := by omega
    rw [decide_eq_false hle, Bool.false_and, Bool.false_and]; rw [← hn] at hc; clear hp hn hle hm
    go_enter Tryz.func123, Tryz.ntmps123
    go_wp2
    go_ret
    exact ⟨rfl, B0⟩
theorem ihend_any (nv lv : Value) (F : Fb) (a i : Int) (w : World) (h : RdNS w nv F.nodes) :
    Calls Tryz.prog 122 #[.agg #[nv, lv, .int .i64 F.width], .agg #[.int .i64 a, .int .i64 i]] w fun e w' => e = .returned (.bool (endB F.nodes.length a i)) ∧ Below w.heap.size w w' := by
  have hm := h.1; obtain ⟨na, nx, rfl⟩ := h.len; obtain ⟨n, hn⟩ : ∃ n, n = F.nodes.length := ⟨_, rfl⟩; rw [← hn] at hm ⊢; clear h hn; obtain ⟨bF, bE, B0, z⟩ := two w [.slice na n nx, lv, .int .i64 F.width] [.int .i64 a, .int .i64 i] 33 112; clear z; have f0 := bF.c 0 rfl; have e0 := bE.c 0 rfl; have e1 := bE.c 1 rfl; have hw1 : IntKind.i64.wrap ((n : Int) - 1) = (n : Int) - 1 := wrap64_in _ (by omega) (by omega); unfold endB; obtain ⟨p, hp⟩ : ∃ p, inB a 0 ((n : Int) - 1) = p := ⟨_, rfl⟩; obtain ⟨q, hq⟩ : ∃ q, inB i 0 7 = q := ⟨_, rfl⟩; rw [hp, hq]; have HP := Lib.hid hp; have HQ := Lib.hid hq; clear hp hq; cases p
  · rw [Bool.false_and]
    go_enter Tryz.func122, Tryz.ntmps122
    go_wp2_with fail; refine (within_t _ HP).mono ?_; rintro e w1 ⟨rfl, rfl⟩; go_wp2
    go_ret
    exact ⟨rfl, B0⟩
  · rw [Bool.true_and]
    go_enter Tryz.func122, Tryz.ntmps122
    go_wp2_with fail; refine (within_t _ HP).mono ?_; rintro e w1 ⟨rfl, rfl⟩; go_wp2_with fail; refine (within_t _ HQ).mono ?_; rintro e w1 ⟨rfl, rfl⟩; go_wp2
    go_ret
    exact ⟨rfl, B0⟩
theorem iway_any (nv lv pv : Value) (F : Fb) (x : Wy) (w : World) (h : RdNS w nv F.nodes) (hr : RdW w pv x) :
    Calls Tryz.prog 88 #[.agg #[nv, lv, .int .i64 F.width], .agg #[.int .i64 x.fn, .int .i64 x.fi, .int .i64 x.tn, .int .i64 x.ti, .bool x.up, pv]] w fun e w' => e = .returned (.bool (wayB F.nodes.length x)) ∧ Below w.heap.size w w' := by
  obtain ⟨bF, bA, B0, z⟩ := two w [nv, lv, .int .i64 F.width] [.int .i64 x.fn, .int .i64 x.fi, .int .i64 x.tn, .int .i64 x.ti, .bool x.up, pv] 33 115; have h1 := h.keep B0; clear z; have f0 := bF.c 0 rfl; have f1 := bF.c 1 rfl; have f2 := bF.c 2 rfl; have a0 := bA.c 0 rfl; have a1 := bA.c 1 rfl; have a2 := bA.c 2 rfl; have a3 := bA.c 3 rfl; have a4 := bA.c 4 rfl; have a5 := bA.c 5 rfl; unfold wayB; obtain ⟨p, hp⟩ : ∃ p, endB F.nodes.length x.fn x.fi = p := ⟨_, rfl⟩; obtain ⟨q, hq⟩ : ∃ q, trB x = q := ⟨_, rfl⟩; have H1 : Hid (∀ W : World, RdNS W nv F.nodes → Calls Tryz.prog 122 #[.agg #[nv, lv, .int .i64 F.width], .agg #[.int .i64 x.fn, .int .i64 x.fi]] W fun e w' => e = .returned (.bool p) ∧ Below W.heap.size W w') := Lib.hid fun W q => hp ▸ ihend_any nv lv F x.fn x.fi W q
  have H2 : Hid (∀ W : World, RdW W pv x → Calls Tryz.prog 123 #[.agg #[.int .i64 x.fn, .int .i64 x.fi, .int .i64 x.tn, .int .i64 x.ti, .bool x.up, pv]] W fun e w' => e = .returned (.bool q) ∧ Below W.heap.size W w') := Lib.hid fun W s => hq ▸ itr_any pv x W s
  rw [hp, hq]; clear hp hq; cases p
  · rw [Bool.false_and, Bool.false_and]
    go_enter Tryz.func88, Tryz.ntmps88
    go_wp2_with fail; refine (H1.out _ h1).mono ?_; rintro e w1 ⟨rfl, hb⟩; replace bA := bA.keep hb; replace B0 := below_step B0 hb; clear hb a0 a1 a2 a3 a4 a5 f0 f1 f2 h1; have a0 := bA.c 0 rfl; have a1 := bA.c 1 rfl; have a2 := bA.c 2 rfl; have a3 := bA.c 3 rfl; have a4 := bA.c 4 rfl; have a5 := bA.c 5 rfl; go_wp2
    go_ret
    exact ⟨rfl, B0⟩
  · rw [Bool.true_and]
    cases hne : (x.fn != x.tn)
    · rw [Bool.false_and]
      go_enter Tryz.func88, Tryz.ntmps88
      go_wp2_with fail; refine (H1.out _ h1).mono ?_; rintro e w1 ⟨rfl, hb⟩; replace bA := bA.keep hb; replace B0 := below_step B0 hb; clear hb a0 a1 a2 a3 a4 a5 f0 f1 f2 h1; have a0 := bA.c 0 rfl; have a1 := bA.c 1 rfl; have a2 := bA.c 2 rfl; have a3 := bA.c 3 rfl; have a4 := bA.c 4 rfl; have a5 := bA.c 5 rfl; go_wp2
      go_ret
      exact ⟨rfl, B0⟩
    · rw [Bool.true_and]
      go_enter Tryz.func88, Tryz.ntmps88
      go_wp2_with fail; refine (H1.out _ h1).mono ?_; rintro e w1 ⟨rfl, hb⟩; replace bA := bA.keep hb; replace B0 := below_step B0 hb; clear hb a0 a1 a2 a3 a4 a5 f0 f1 f2 h1; have a0 := bA.c 0 rfl; have a1 := bA.c 1 rfl; have a2 := bA.c 2 rfl; have a3 := bA.c 3 rfl; have a4 := bA.c 4 rfl; have a5 := bA.c 5 rfl; have hR2 : RdW w1 pv x := RdPt.keep hr B0; go_wp2_with fail; refine (H2.out _ hR2).mono ?_; rintro e w2 ⟨rfl, hb⟩; replace B0 := below_step B0 hb; go_wp2
      go_ret
      exact ⟨rfl, B0⟩
end Go.Proofs.YtkodnipmogdgkabGreat
namespace Go.Proofs.YtkodnipmogdgkabGreat
open Go.ChangeShapes Go.WideShapes Go.ChangeAt Go.RowKit Go.BigFrame Go.Joins Go.Maps
set_option linter.unusedVariables false
set_option maxRecDepth 100000
set_option linter.unusedSimpArgs false
set_option maxRecDepth 100000

theorem lawE : Keyed Tryz.prog 112 := Keyed.of_law (deep_law_laid laidOut (m := 2) (by omega) (by decide +kernel) (by kernel_rfl) (by kernel_rfl))
theorem keyE (a n : Int) (ha : (Lit.int .i64 a).wf = true) (hn : (Lit.int .i64 n).wf = true) : ∃ kl, keyOf Tryz.prog 112 (.agg #[.int .i64 a, .int .i64 n]) = some kl := by
  have h1 : Tryz.prog.keyType 112 = true := by kernel_rfl
  have hc : Tryz.prog.cellsOf 112 = 2 := by kernel_rfl
  have hi : Tryz.prog.cellsOf 3 = 1 := by kernel_rfl
  have hs : (2 ≤ Tryz.prog.types.size : Prop) := of_decide_eq_true (by kernel_rfl)
  have h2 : Value.formed Tryz.prog 112 (.agg #[.int .i64 a, .int .i64 n]) = true := by
    unfold Value.formed; rw [Tryz.underlying112, hc]
    rfl
  obtain ⟨d, hd⟩ : ∃ d, Tryz.prog.types.size + 1 = d + 2 := ⟨Tryz.prog.types.size - 1, by omega⟩
  have k2 : ∀ x : Int, (Lit.int .i64 x).wf = true → Tryz.prog.keyLits (d + 1) 3 [.int .i64 x] = some [.int .i64 x] := by
    intro x hx; unfold Program.keyLits; rw [Tryz.underlying3]
    simp [hx]
  have k1 : Tryz.prog.keyLits (d + 2) 112 [.int .i64 a, .int .i64 n] = some [.int .i64 a, .int .i64 n] := by
    unfold Program.keyLits; rw [Tryz.underlying112]
    simp [hc, hi, k2 a ha, k2 n hn]
  unfold keyOf; rw [Tryz.underlying112, hd]; simp only [h1, h2, Bool.and_self, if_true]
  exact ⟨_, by rw [show (Value.agg #[Value.int .i64 a, Value.int .i64 n]).cells.toList = [.int .i64 a, .int .i64 n] from rfl, k1]; rfl⟩
/-- what an end reads as, as a key -/
noncomputable def ke (a n : Int) : Lit := (keyOf Tryz.prog 112 (.agg #[.int .i64 a, .int .i64 n])).getD .nil
def fitsE (x : Int) : Prop := -9223372036854775808 ≤ x ∧ x ≤ 9223372036854775807
theorem ke_is {a n : Int} (ha : fitsE a) (hn : fitsE n) : keyOf Tryz.prog 112 (.agg #[.int .i64 a, .int .i64 n]) = some (ke a n) := by
  obtain ⟨k, hk⟩ := keyE a n (WalkArith.wf_i64 ha) (WalkArith.wf_i64 hn); unfold ke; rw [hk]
  rfl
theorem ke_inj {a n b m : Int} (ha : fitsE a) (hn : fitsE n) (hb : fitsE b) (hm : fitsE m) (h : ke a n = ke b m) : a = b ∧ n = m := by
  have h1 := ke_is ha hn; have h2 := ke_is hb hm; rw [← h] at h2; have h3 := lawE.inj h1 h2
  simpa using h3
theorem run_makeMap_none {P : Program} (t k e : TypeId) (ht : P.underlying t = some (.map k e)) (w : World) :
    (Instr.makeMap t none).run P w = .ok (.map (some w.heap.size)) (w.alloc (.map #[] 0)) := by
  simp [Instr.makeMap, run_underlying ht]
/-- the map of the ends that occurred -/
noncomputable def De : List (Int × Int) → DataW Unit
  | [] => .map []
  | p :: l => (De l).put (ke p.1 p.2) (.lit (.bool true))
theorem De_map : ∀ l, IsMap (De l)
  | [] => isMap_empty
  | p :: l => (De_map l).put _ _
theorem De_at (a i : Int) (ha : fitsE a) (hi : fitsE i) : ∀ l : List (Int × Int), (∀ p ∈ l, fitsE p.1 ∧ fitsE p.2) → (De l).atKey (ke a i) (.lit (.bool false)) = .lit (.bool (decide ((a, i) ∈ l)))
  | [], _ => rfl
  | p :: l, hl => by
    have ih := De_at a i ha hi l fun q hq => hl q (List.mem_cons_of_mem _ hq)
    obtain ⟨f1, f2⟩ := hl p (List.mem_cons_self ..)
    by_cases e : ke p.1 p.2 = ke a i
    · obtain ⟨e1, e2⟩ := ke_inj f1 f2 ha hi e
      show ((De l).put (ke p.1 p.2) (.lit (.bool true))).atKey (ke a i) _ = _
      rw [← e, atKey_put_same (De_map l) (lawE.key (ke_is f1 f2))]; have : decide ((a, i) ∈ p :: l) = true := decide_eq_true (List.mem_cons.2 (.inl (by rw [← e1, ← e2]))); rw [this]
    · show ((De l).put (ke p.1 p.2) (.lit (.bool true))).atKey (ke a i) _ = _
      rw [atKey_put_other (Ne.symm e), ih]
      congr 2
      simp only [decide_eq_decide, List.mem_cons]
      constructor
      · exact .inr
      · rintro (q | q)
        · exact absurd (by rw [← q]) e
        · exact q
theorem lookE (a i : Int) (l : List (Int × Int)) (m g : Nat) (w : World) (ha : fitsE a) (hi : fitsE i) (hl : ∀ p ∈ l, fitsE p.1 ∧ fitsE p.2) (h : w.ownsMap Tryz.prog 112 (plainElem Tryz.prog 4) g m (De l)) :
    (Instr.lookup 183 (.map (some g)) (.agg #[.int .i64 a, .int .i64 i]) false).run Tryz.prog w = .ok (.bool (decide ((a, i) ∈ l))) w := by
  have hz : (zeroValue 4).run Tryz.prog w = .ok (.bool false) w := by kernel_rfl
  obtain ⟨v, ps, hrun, hv⟩ := h.lookup lawE Tryz.underlying183 hz (plainElem_bool Tryz.underlying4 false) (ke_is ha hi); rw [De_at a i ha hi l hl] at hv; rw [hrun]; cases v <;> simp [plainElem, Tryz.underlying4] at hv
  rw [hv.1]
def endsY (Y : List Wy) : List (Int × Int) := Y.map fun x => (x.fn, x.fi)
theorem endsY_take {Y : List Wy} {j : Nat} {x : Wy} (hj : j < Y.length) (hx : Y.getD j y0 = x) : endsY (Y.take (j + 1)) = endsY (Y.take j) ++ [(x.fn, x.fi)] := by
  have hg : Y[j] = x := by simpa [List.getD, hj] using hx
  rw [List.take_add_one, List.getElem?_eq_getElem hj, hg]
  simp [endsY]
/-- all blocks but g lie as they lay -/
def But (g : Nat) (w w' : World) : Prop := w.heap.size ≤ w'.heap.size ∧ ∀ i, i < w.heap.size → i ≠ g → w'.heap[i]? = w.heap[i]?
theorem But.refl (g : Nat) (w : World) : But g w w := ⟨Nat.le_refl _, fun _ _ _ => rfl⟩
theorem But.trans {g : Nat} {a b c : World} (h : But g a b) (k : But g b c) : But g a c := ⟨Nat.le_trans h.1 k.1, fun i hi hg => (k.2 i (Nat.lt_of_lt_of_le hi h.1) hg).trans (h.2 i hi hg)⟩
theorem But.of_below {g : Nat} {w w' : World} (h : Below w.heap.size w w') : But g w w' := ⟨h.size, fun i hi _ => h.block i hi⟩
theorem But.of_grown {g : Nat} {w w' : World} (h : w.grownBy w' (some g)) : But g w w' := ⟨h.size, fun i hi hg => h.block i hi (by intro e; cases e; exact hg rfl)⟩
theorem But.cell {g b o : Nat} {w w' : World} {v : Value} (h : But g w w') (hg : ∃ es c, w.heap[g]? = some (.map es c)) (hc : w.cell? ⟨b, o, none⟩ = some v) : w'.cell? ⟨b, o, none⟩ = some v := by
  have hl := World.block_lt_of_cell? w _ hc
  have hne : b ≠ g := by
    rintro rfl; obtain ⟨es, c, e⟩ := hg
    simp [World.cell?, e] at hc
  rw [World.cell?_of_block (h.2 b hl hne)]
  exact hc
theorem not_nodup_take {α : Type} {l : List α} {j : Nat} {a : α} (h : l.take (j + 1) = l.take j ++ [a]) (ha : a ∈ l.take j) : ¬ l.Nodup := by
  intro hn; have h1 : (l.take (j + 1)).Nodup := hn.sublist (List.take_sublist _ _); rw [h, List.nodup_append] at h1
  exact h1.2.2 a ha a (List.mem_singleton.2 rfl) rfl
set_option maxHeartbeats 2000000 in
theorem iends_any (nv lv : Value) (F : Fb) (w : World) (h : RdLS w lv F.links) (hn1 : F.links.length ≤ 1048576) (hf : ∀ x ∈ waysL F.links, fitsE x.fn ∧ fitsE x.fi) :
    Calls Tryz.prog 89 #[.agg #[nv, lv, .int .i64 F.width]] w fun e w' => e = .returned (.bool (decide (endsY (waysL F.links)).Nodup)) ∧ Below w.heap.size w w' := by
  have hmm := fun (w : World) => run_makeMap_none (P := Tryz.prog) 183 112 4 Tryz.underlying183 w
  obtain ⟨bF, B0, z⟩ := one w [nv, lv, .int .i64 F.width] 33; have B1 : Below w.heap.size w ((w.alloc (.cells #[nv, lv, .int .i64 F.width] 33)).alloc (.map #[] 0)) := below_step B0 ((Below.refl _ _).alloc (Nat.le_refl _) _); have hM0 := World.ownsMap_made (H := Unit) (w.alloc (.cells #[nv, lv, .int .i64 F.width] 33)) Tryz.prog 112 (plainElem Tryz.prog 4); rw [z] at hM0; have f0 := (bF.keep ((Below.refl _ _).alloc (Nat.le_refl _) (.map #[] 0))).c 0 rfl; have f1 := (bF.keep ((Below.refl _ _).alloc (Nat.le_refl _) (.map #[] 0))).c 1 rfl; have f2 := (bF.keep ((Below.refl _ _).alloc (Nat.le_refl _) (.map #[] 0))).c 2 rfl
  go_enter Tryz.func89, Tryz.ntmps89
  go_wp2_with fail; obtain ⟨V, hV⟩ : ∃ V, V = (w.alloc (.cells #[nv, lv, .int .i64 F.width] 33)).alloc (.map #[] 0) := ⟨_, rfl⟩; obtain ⟨g, hg⟩ : ∃ g, g = w.heap.size + 1 := ⟨_, rfl⟩; rw [← hV] at B1 hM0 f0 f1 f2 ⊢; rw [← hg] at hM0 ⊢; have hwg : w.heap.size ≤ g := by omega
  clear hV hg hmm bF B0 z; refine (fways_any nv lv F V (h.keep B1) hn1).mono ?_; rintro e W1 ⟨u, rfl, hY, hb⟩; have hM1 : W1.ownsMap Tryz.prog 112 (plainElem Tryz.prog 4) g 0 (De []) := World.ownsMap.kept (row := none) hM0 ⟨hb.os, hb.tape, hb.output, hb.size, fun k hk _ => hb.block k hk⟩ (by simp); replace B1 := below_step B1 hb; clear hb hM0 f0 f1 f2; obtain ⟨Y, hYd⟩ : ∃ Y, Y = waysL F.links := ⟨_, rfl⟩; have hYl : Y.length ≤ 2097152 := by rw [hYd, waysL_len]; omega
  rw [← hYd] at hY hf; have HYD := Lib.hid hYd; clear hYd h; obtain ⟨a, c, rfl, hc⟩ := hY.el; obtain ⟨n, hn⟩ : ∃ n, n = Y.length := ⟨_, rfl⟩; rw [← hn] at hc hYl ⊢; have HN := Lib.hid hn; have HFI := Lib.hid hf; have HMX : Hid (∃ es c, W1.heap[g]? = some (.map es c)) := Lib.hid (by obtain ⟨es, cl, hbk, -⟩ := hM1; exact ⟨es, cl, hbk⟩); clear hY hn hf; go_wp2
  go_loopw [10] (fun q wr => ∃ j : Nat, j ≤ n ∧ q = .int .i64 j ∧ wr.ownsMap Tryz.prog 112 (plainElem Tryz.prog 4) g j (De (endsY (Y.take j)).reverse) ∧ (endsY (Y.take j)).Nodup ∧ But g W1 wr ∧ Below w.heap.size w wr) (fun q _ => n - (intOf q).toNat)
  case atStart => exact ⟨0, Nat.zero_le _, rfl, hM1, by simp [endsY], But.refl _ _, B1⟩
  case round =>
    obtain ⟨j, hj, rfl, hM, hnd, hBut, hB⟩ := hrel
    by_cases hlt : j < n
    · have hltI : (j : Int) < (n : Int) := by omega
      obtain ⟨b, o, rfl, hE⟩ := hc j hlt; obtain ⟨x, hx⟩ : ∃ x, Y.getD j y0 = x := ⟨_, rfl⟩; rw [hx] at hE; obtain ⟨pv, hr, d0, d1, d2, d3, d4, d5⟩ := hE; obtain ⟨pb, po, pw, rfl, -, -⟩ := hr; have g0 := hBut.cell HMX.out d0; have g1 := hBut.cell HMX.out d1; have g2 := hBut.cell HMX.out d2; have g3 := hBut.cell HMX.out d3; have g4 := hBut.cell HMX.out d4; have g5 := hBut.cell HMX.out d5
      have hxm : x ∈ Y := by
        rw [← hx, List.getD_eq_getElem?_getD, List.getElem?_eq_getElem (by rw [← HN.out]; exact hlt)]
        exact List.getElem_mem _
      have HT := Lib.hid (endsY_take (by rw [← HN.out]; exact hlt) hx); have HND := Lib.hid hnd; obtain ⟨hfx1, hfx2⟩ := HFI.out x hxm; have HKY := Lib.hid (ke_is hfx1 hfx2); have HCC := Lib.hid hc
      have hfl : ∀ p ∈ (endsY (Y.take j)).reverse, fitsE p.1 ∧ fitsE p.2 := fun p hp => by
        rw [List.mem_reverse] at hp; obtain ⟨y, hy, rfl⟩ := List.mem_map.1 hp
        exact HFI.out y (List.mem_of_mem_take hy)
      have A1 : Below wr.heap.size wr (wr.alloc (.cells #[.int .i64 x.fn, .int .i64 x.fi, .int .i64 x.tn, .int .i64 x.ti, .bool x.up, .pointer (some ⟨pb, po, none⟩)] 115)) := (Below.refl _ _).alloc (Nat.le_refl _) _; have bP := Bl.new wr [.int .i64 x.fn, .int .i64 x.fi, .int .i64 x.tn, .int .i64 x.ti, .bool x.up, .pointer (some ⟨pb, po, none⟩)] 115 wr.heap.size rfl; have hM2 := hM.alloc (.cells #[.int .i64 x.fn, .int .i64 x.fi, .int .i64 x.tn, .int .i64 x.ti, .bool x.up, .pointer (some ⟨pb, po, none⟩)] 115); have hlk := lookE x.fn x.fi _ j g _ hfx1 hfx2 hfl hM2; have p0 := bP.c 0 rfl; have p1 := bP.c 1 rfl; clear d0 d1 d2 d3 d4 d5 hx hxm hnd hc hfl bP; cases hmem : decide ((x.fn, x.fi) ∈ (endsY (Y.take j)).reverse)
      · rw [hmem] at hlk
        have HMEM := Lib.hid hmem; have HMI := Lib.hid (And.intro hfx1 hfx2); clear hmem hfx1 hfx2; have hj1 : j < maxLen := by unfold maxLen; omega
        go_wp2_with (at_mapUpdate; refine wpList_mapUpdate_own _ rfl _ _ _ 183 rfl 112 4 lawE Tryz.underlying183 _ g j _ rfl hM2 hj1 _ _ _ rfl rfl HKY.out _ [] (plainElem_bool Tryz.underlying4 true) ?_; intro w1 hown1 hgrow1); have hB1 := below_step hB A1; have hBut2 := (hBut.trans (.of_below A1)).trans (.of_grown hgrow1); have hB2 : Below w.heap.size w w1 := Below.grown hB1 hgrow1 hB1.size (fun k hk => by cases hk; exact hwg); clear hlk hM hM2 A1 hB hB1 hBut p0 p1 g0 g1 g2 g3 g4 g5
        go_roundw
        case rel =>
          refine ⟨j + 1, by omega, by go_num, ?_, ?_, hBut2, hB2⟩
          · rw [HT.out, List.reverse_append]
            exact hown1
          · rw [HT.out, List.nodup_append]
            refine ⟨HND.out, by simp, fun p hp q hq => ?_⟩; rw [List.mem_singleton.1 hq]; rintro rfl; have := HMEM.out; rw [decide_eq_false_iff_not, List.mem_reverse] at this
            exact this hp
        case measure => simp [intOf]; omega
      · rw [hmem] at hlk
        have HMEM := Lib.hid hmem; clear hmem hfx1 hfx2; go_wp2
        go_ret
        refine ⟨ret_bool ?_, below_step hB A1⟩; rw [← HYD.out]
        symm
        rw [decide_eq_false_iff_not]; have hm := HMEM.out; rw [decide_eq_true_iff, List.mem_reverse] at hm
        have ht : (endsY Y).take (j + 1) = (endsY Y).take j ++ [(x.fn, x.fi)] := by
          have := HT.out; simp only [endsY, List.map_take] at this ⊢
          exact this
        refine not_nodup_take ht ?_; simp only [endsY, List.map_take] at hm ⊢
        exact hm
    · have hkn : j = n := by omega
      subst hkn; have HT : Hid (Y.take j = Y) := Lib.hid (List.take_of_length_le (by rw [HN.out]; exact Nat.le_refl _)); have HND := Lib.hid hnd; clear hc hnd; go_wp2
      go_ret
      refine ⟨ret_bool ?_, hB⟩; rw [← HYD.out]
      symm
      rw [decide_eq_true_iff]; have := HND.out
      rwa [HT.out] at this
end Go.Proofs.YtkodnipmogdgkabGreat
