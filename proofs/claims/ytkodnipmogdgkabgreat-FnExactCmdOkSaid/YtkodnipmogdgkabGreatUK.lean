/-
  FabricOk of the model. Conditions: those in each contract.
-/
import Derived.Test.YtkodnipmogdgkabGreatFCl
import Derived.Test.YtkodnipmogdgkabGreatFCm
namespace Go.Proofs.YtkodnipmogdgkabGreat
open Go.ChangeShapes Go.WideShapes Go.ChangeAt Go.RowKit Go.BigFrame Go.Joins
set_option linter.unusedVariables false
set_option maxRecDepth 100000
set_option linter.unusedSimpArgs false
set_option maxRecDepth 100000

theorem endsL_eq (L : List Lk) : endsL L = endsY (waysL L) := by
  induction L with
  | nil => rfl
  | cons x L ih => simp only [endsL, endsY, waysL, List.flatMap_cons, List.map_append] at ih ⊢; rw [ih]; rfl
def lmsB (x : Lk) : Bool := msB x.ab && (msB x.ba && (x.up || decide (x.ab.length + x.ba.length = 0)))
def fsB (F : Fb) : Bool := inB F.nodes.length 1 8 && (decide (F.links.length ≤ 12) && (inB F.width 1 4 && (lendB F.nodes.length F.links && ((F.nodes.all fun x => ndB x) && F.links.all fun x => lmsB x))))
theorem link_way (n : Nat) (x : Lk) : (wayB n ⟨x.a, x.ai, x.b, x.bi, x.up, x.ab⟩ = true ∧ wayB n ⟨x.b, x.bi, x.a, x.ai, x.up, x.ba⟩ = true) ↔ (linkB n x = true ∧ lmsB x = true) := by
  unfold wayB endB trB linkB lmsB msB inB; simp only [Bool.and_eq_true, Bool.or_eq_true, decide_eq_true_iff, bne_iff_ne]
  constructor
  · rintro ⟨⟨⟨⟨⟨a1, a2⟩, a3, a4⟩, a5⟩, ⟨a6, a7⟩, a8⟩, ⟨⟨⟨b1, b2⟩, b3, b4⟩, b5⟩, ⟨b6, b7⟩, b8⟩
    refine ⟨⟨⟨a1, by omega, b1, by omega, a5⟩, ⟨a3, a4⟩, b3, b4⟩, ⟨a7, a6⟩, ⟨b7, b6⟩, ?_⟩
    rcases a8 with a8 | a8
    · exact .inl a8
    · rcases b8 with b8 | b8
      · exact .inl b8
      · exact .inr (by omega)
  · rintro ⟨⟨⟨a1, a2, a3, a4, a5⟩, ⟨a6, a7⟩, a8, a9⟩, ⟨b1, b2⟩, ⟨b3, b4⟩, b5⟩
    refine ⟨⟨⟨⟨⟨a1, by omega⟩, a6, a7⟩, a5⟩, ⟨b2, b1⟩, ?_⟩, ⟨⟨⟨a3, by omega⟩, a8, a9⟩, Ne.symm a5⟩, ⟨b4, b3⟩, ?_⟩
    · rcases b5 with b5 | b5
      · exact .inl b5
      · exact .inr (by omega)
    · rcases b5 with b5 | b5
      · exact .inl b5
      · exact .inr (by omega)
theorem ways_all (n : Nat) (L : List Lk) : (∀ y ∈ waysL L, wayB n y = true) ↔ ∀ x ∈ L, linkB n x = true ∧ lmsB x = true := by
  constructor
  · intro h x hx
    exact (link_way n x).1 ⟨h _ (List.mem_flatMap.2 ⟨x, hx, by simp [waysOf]⟩), h _ (List.mem_flatMap.2 ⟨x, hx, by simp [waysOf]⟩)⟩
  · intro h y hy
    obtain ⟨x, hx, hy⟩ := List.mem_flatMap.1 hy; have := (link_way n x).2 (h x hx); simp only [waysOf, List.mem_cons, List.not_mem_nil, or_false] at hy
    rcases hy with rfl | rfl
    · exact this.1
    · exact this.2
theorem fsB_eq (F : Fb) : fsB F = fbB F := by
  rw [Bool.eq_iff_iff]; unfold fsB fbB lendB; simp only [Bool.and_eq_true, List.all_eq_true, decide_eq_true_iff, endsL_eq, ways_all]
  constructor
  · rintro ⟨h1, h2, h3, ⟨h4, h5⟩, h6, h7⟩
    exact ⟨h1, h6, h3, h2, fun x hx => ⟨h4 x hx, h7 x hx⟩, h5⟩
  · rintro ⟨h1, h6, h3, h2, h4, h5⟩
    exact ⟨h1, h2, h3, ⟨fun x hx => (h4 x hx).1, h5⟩, h6, fun x hx => (h4 x hx).2⟩
theorem smsgs_t {v : Value} {l : List Mg} {b : Bool} (w : World) (h : RdMS w v l) (hw : ∀ m ∈ l, wtM m ≤ 1048576) (H : Hid (msB l = b)) :
    Calls Tryz.prog 24 #[v] w fun e w' => e = .returned (.bool b) ∧ Below w.heap.size w w' := H.out ▸ smsgs_any v l w h hw
theorem sends_t (nv lv : Value) (F : Fb) {b : Bool} (w : World) (hN : RdNS w nv F.nodes) (h : RdLS w lv F.links) (hn8 : F.nodes.length ≤ 8) (H : Hid (lendB F.nodes.length F.links = b)) :
    Calls Tryz.prog 22 #[.agg #[nv, lv, .int .i64 F.width]] w fun e w' => e = .returned (.bool b) ∧ Below w.heap.size w w' := H.out ▸ sends_any nv lv F w hN h hn8
theorem wtS_mem {l : List Mg} {m : Mg} (h : m ∈ l) : wtM m ≤ wtMS l := by
  obtain ⟨i, hi, e⟩ := List.mem_iff_getElem.1 h; have := wtM_at hi
  rwa [List.getD_eq_getElem?_getD, List.getElem?_eq_getElem hi, show (some l[i]).getD m0 = l[i] from rfl, e] at this
theorem wtL_mem {l : List Lk} {m : Lk} (h : m ∈ l) : wtL m ≤ wtLS l := by
  obtain ⟨i, hi, e⟩ := List.mem_iff_getElem.1 h; have := wtL_at hi
  rwa [List.getD_eq_getElem?_getD, List.getElem?_eq_getElem hi, show (some l[i]).getD l0 = l[i] from rfl, e] at this
set_option maxHeartbeats 4000000 in
theorem sfok_any (nv lv : Value) (F : Fb) (w : World) (h : RdF w nv lv F) (hw : wtF F ≤ 1048576) :
    Calls Tryz.prog 12 #[.agg #[nv, lv, .int .i64 F.width]] w fun e w' => e = .returned (.bool (fsB F)) ∧ Below w.heap.size w w' := by
  have hm1 := h.1.1; have hm2 := h.2.1; obtain ⟨na, nx, rfl⟩ := h.1.len; obtain ⟨la, lx, rfl⟩ := h.2.len; obtain ⟨bF, B0, z⟩ := one w [.slice na F.nodes.length nx, .slice la F.links.length lx, .int .i64 F.width] 33; obtain ⟨hN, hL⟩ := h.keep B0; have HW := Lib.hid hw; clear z h hw; have f0 := bF.c 0 rfl; have f1 := bF.c 1 rfl; have f2 := bF.c 2 rfl; cases hA : inB (F.nodes.length : Int) 1 8
  · rw [show fsB F = false by unfold fsB; rw [hA, Bool.false_and]]
    have hh : (F.nodes.length : Int) < 1 ∨ (8 : Int) < (F.nodes.length : Int) := by unfold inB at hA; simp at hA; omega
    clear hA; obtain ⟨n, hn⟩ : ∃ n, n = F.nodes.length := ⟨_, rfl⟩; rw [← hn] at hh f0 B0 ⊢; clear hn
    by_cases hx : (n : Int) < 1
    · go_enter Tryz.func12, Tryz.ntmps12
      go_wp2
      go_ret
      exact ⟨rfl, B0⟩
    · have hy : (8 : Int) < (n : Int) := by omega
      go_enter Tryz.func12, Tryz.ntmps12
      go_wp2
      go_ret
      exact ⟨rfl, B0⟩
  · have hn8 : F.nodes.length ≤ 8 := by unfold inB at hA; simp at hA; omega
    have hn1 : ¬ (F.nodes.length : Int) < 1 := by unfold inB at hA; simp at hA; omega
    have hnb : ¬ (8 : Int) < (F.nodes.length : Int) := by omega
    by_cases hD : F.links.length ≤ 12
    · have hly : ¬ (12 : Int) < (F.links.length : Int) := by omega
      cases hC : inB F.width 1 4
      · rw [show fsB F = false by unfold fsB; rw [hC, Bool.false_and, Bool.and_false, Bool.and_false]]
        have hh : F.width < 1 ∨ 4 < F.width := by unfold inB at hC; simp at hC; omega
        clear hA hC
        by_cases hx : F.width < 1
        · go_enter Tryz.func12, Tryz.ntmps12
          go_wp2
          go_ret
          exact ⟨rfl, B0⟩
        · have hy : 4 < F.width := by omega
          go_enter Tryz.func12, Tryz.ntmps12
          go_wp2
          go_ret
          exact ⟨rfl, B0⟩
      · have hw1 : ¬ F.width < 1 := by unfold inB at hC; simp at hC; omega
        have hw4 : ¬ 4 < F.width := by unfold inB at hC; simp at hC; omega
        cases hE : lendB F.nodes.length F.links
        · rw [show fsB F = false by unfold fsB; rw [hE, Bool.false_and, Bool.and_false, Bool.and_false, Bool.and_false]]
          have HE := Lib.hid hE; clear hA hC hE hD
          go_enter Tryz.func12, Tryz.ntmps12
          go_wp2_with fail; refine (sends_t _ _ F _ hN hL hn8 HE).mono ?_; rintro e w1 ⟨rfl, hb⟩; replace B0 := below_step B0 hb; go_wp2
          go_ret
          exact ⟨rfl, B0⟩
        · have e0 : fsB F = ((F.nodes.all fun x => ndB x) && F.links.all fun x => lmsB x) := by unfold fsB; rw [hA, hC, hE, decide_eq_true hD]; simp
          rw [e0]; have HE := Lib.hid hE; clear hA hC hE hD e0
          go_enter Tryz.func12, Tryz.ntmps12
          go_wp2_with fail; refine (sends_t _ _ F _ hN hL hn8 HE).mono ?_; rintro e W1 ⟨rfl, hb⟩; replace B0 := below_step B0 hb; replace bF := bF.keep hb; replace hN := hN.keep hb; replace hL := hL.keep hb; obtain ⟨na, nx, hnv⟩ := hN.el; obtain ⟨hnv, hcn⟩ := hnv; obtain ⟨la, lx, hlv⟩ := hL.el; obtain ⟨hlv, hcl⟩ := hlv; simp only [Value.slice.injEq, true_and] at hnv hlv; obtain ⟨rfl, rfl⟩ := hnv; obtain ⟨rfl, rfl⟩ := hlv; obtain ⟨n, hn⟩ : ∃ n, n = F.nodes.length := ⟨_, rfl⟩; obtain ⟨m, hm⟩ : ∃ m, m = F.links.length := ⟨_, rfl⟩; rw [← hn] at bF hcn hm1; rw [← hm] at bF hcl hm2
          try rw [← hn]
          try rw [← hm]
          have HN := Lib.hid hn; have HM := Lib.hid hm; clear hb hn hm hN hL f0 f1 f2 HE hn8 hn1 hnb hly hw1 hw4; go_wp2
          go_loopw [3] (fun q wr => ∃ j : Nat, j ≤ n ∧ q = .int .i64 j ∧ (∀ i, i < j → ndB (F.nodes.getD i n0) = true) ∧ Over W1 wr) (fun q _ => n - (intOf q).toNat)
          case atStart => exact ⟨0, Nat.zero_le _, rfl, fun i hi => by omega, over_refl _⟩
          case round =>
            obtain ⟨j, hj, rfl, hyes, hB⟩ := hrel; have HY := Lib.hid hyes; clear hyes; have f0 := (bF.keep hB).c 0 rfl
            by_cases hlt : j < n
            · have hltI : (j : Int) < (n : Int) := by omega
              obtain ⟨b, o, rfl, hE⟩ := hcn j hlt; obtain ⟨x, hx⟩ : ∃ x, F.nodes.getD j n0 = x := ⟨_, rfl⟩; rw [hx] at hE; obtain ⟨ov, rv, sv, hr, g0, g1, g2, g3, g4, g5⟩ := hE.keep hB
              have HXM : Hid (x ∈ F.nodes) := Lib.hid (by
                rw [← hx, List.getD_eq_getElem?_getD, List.getElem?_eq_getElem (by rw [← HN.out]; exact hlt)]
                exact List.getElem_mem _)
              have HX := Lib.hid hx; have HC := Lib.hid hcn; have HC2 := Lib.hid hcl; clear hx hcn hE hcl; cases hk : ndB x
              · have hno : (F.nodes.all fun x => ndB x) = false := List.all_eq_false.2 ⟨x, HXM.out, by rw [hk]; simp⟩
                have HNO := Lib.hid hno; have HK := Lib.hid hk; clear hno hk; go_wp2_with fail; refine (sndok_t _ hr HK).mono ?_; rintro e w1 ⟨rfl, hb1⟩; go_wp2
                go_ret
                exact ⟨ret_bool (by rw [HNO.out]; rfl), below_step B0 (over_step hB hb1)⟩
              · have HK := Lib.hid hk
                clear hk; go_wp2_with fail; refine (sndok_t _ hr HK).mono ?_; rintro e w1 ⟨rfl, hb1⟩; go_wp2
                go_roundw
                case rel =>
                  refine ⟨j + 1, by omega, by go_num, fun i hi => ?_, over_step hB hb1⟩
                  by_cases hij : i = j
                  · subst hij; rw [HX.out]; exact HK.out
                  · exact HY.out i (by omega)
                case measure => simp [intOf]; omega
            · have hkn : j = n := by omega
              subst hkn
              have e1 : (F.nodes.all fun x => ndB x) = true := List.all_eq_true.2 fun x hx => by
                obtain ⟨i, hi, e⟩ := List.mem_iff_getElem.1 hx; have := HY.out i (by rw [HN.out]; exact hi); rw [List.getD_eq_getElem?_getD, List.getElem?_eq_getElem hi] at this; rw [← e]
                exact this
              have HE1 := Lib.hid e1; replace bF := bF.keep hB
              have hcl2 : ∀ i, i < m → ∃ b o, la = some ⟨b, o, none⟩ ∧ AtL wr b (o + i * 7) (F.links.getD i l0) := fun i hi => by
                obtain ⟨b, o, e, h⟩ := hcl i hi
                exact ⟨b, o, e, h.keep hB⟩
              replace B0 := below_step B0 hB; obtain ⟨W2, rfl⟩ : ∃ x : World, x = wr := ⟨_, rfl⟩; clear e1 hcn hcl hB HY hj hlt; go_wp2; clear f0
              go_loopw [4] (fun q wr => ∃ j : Nat, j ≤ m ∧ q = .int .i64 j ∧ (∀ i, i < j → lmsB (F.links.getD i l0) = true) ∧ Over W2 wr) (fun q _ => m - (intOf q).toNat)
              case atStart => exact ⟨0, Nat.zero_le _, rfl, fun i hi => by omega, over_refl _⟩
              case round =>
                obtain ⟨i, hi, rfl, hyes, hB⟩ := hrel; have HY := Lib.hid hyes; clear hyes; have f1 := (bF.keep hB).c 1 rfl
                by_cases hlt : i < m
                · have hltI : (i : Int) < (m : Int) := by omega
                  obtain ⟨b, o, rfl, hE⟩ := hcl2 i hlt; obtain ⟨x, hx⟩ : ∃ x, F.links.getD i l0 = x := ⟨_, rfl⟩; rw [hx] at hE; obtain ⟨sv, tv, hr, k0, k1, k2, k3, k4, k5, k6⟩ := hE.keep hB; obtain ⟨av, ax, rfl⟩ := hr.1.len; obtain ⟨bv, bx, rfl⟩ := hr.2.len
                  have HXM : Hid (x ∈ F.links) := Lib.hid (by
                    rw [← hx, List.getD_eq_getElem?_getD, List.getElem?_eq_getElem (by rw [← HM.out]; exact hlt)]
                    exact List.getElem_mem _)
                  have hwx := wtL_mem HXM.out
                  have HWA : Hid ((∀ m ∈ x.ab, wtM m ≤ 1048576) ∧ ∀ m ∈ x.ba, wtM m ≤ 1048576) := Lib.hid (by
                    have hw := HW.out; unfold wtF at hw; unfold wtL at hwx
                    exact ⟨fun m hm => by have := wtS_mem hm; omega, fun m hm => by have := wtS_mem hm; omega⟩)
                  have no : lmsB x = false → ((F.nodes.all fun x => ndB x) && F.links.all fun x => lmsB x) = false := fun q => by
                    rw [show (F.links.all fun x => lmsB x) = false from List.all_eq_false.2 ⟨x, HXM.out, by rw [q]; simp⟩, Bool.and_false]
                  have NO := Lib.hid no; have HX := Lib.hid hx; have HC := Lib.hid hcl2; have A1 : Below wr.heap.size wr (wr.alloc (.cells #[.int .i64 x.a, .int .i64 x.ai, .int .i64 x.b, .int .i64 x.bi, .bool x.up, .slice av x.ab.length ax, .slice bv x.ba.length bx] 74)) := (Below.refl _ _).alloc (Nat.le_refl _) _; have bP := Bl.new wr [.int .i64 x.a, .int .i64 x.ai, .int .i64 x.b, .int .i64 x.bi, .bool x.up, .slice av x.ab.length ax, .slice bv x.ba.length bx] 74 wr.heap.size rfl; have hr1 := hr.keep A1; have p4 := bP.c 4 rfl; have p5 := bP.c 5 rfl; have p6 := bP.c 6 rfl; clear hx hcl2 hE hr no hwx; cases hma : msB x.ab
                  · have hnn : lmsB x = false := by unfold lmsB; rw [hma, Bool.false_and]
                    have HN2 := Lib.hid hnn; have HMA := Lib.hid hma; clear hnn hma; go_wp2_with fail; refine (smsgs_t _ hr1.1 HWA.out.1 HMA).mono ?_; rintro e w1 ⟨rfl, hb1⟩; have bP1 := bP.keep hb1; have hr2 := hr1.keep hb1; have hB1 := below_step (below_step B0 (over_step hB A1)) hb1; have hO1 := over_step (over_step hB A1) hb1; clear p4 p5 p6; have p4 := bP1.c 4 rfl; have p5 := bP1.c 5 rfl; have p6 := bP1.c 6 rfl; go_wp2
                    go_ret
                    exact ⟨ret_bool (NO.out HN2.out).symm, hB1⟩
                  · have HMA := Lib.hid hma
                    cases hmb : msB x.ba
                    · have hnn : lmsB x = false := by unfold lmsB; rw [hmb, Bool.false_and, Bool.and_false]
                      have HN2 := Lib.hid hnn; have HMB := Lib.hid hmb; clear hnn hma hmb; go_wp2_with fail; refine (smsgs_t _ hr1.1 HWA.out.1 HMA).mono ?_; rintro e w1 ⟨rfl, hb1⟩; have bP1 := bP.keep hb1; have hr2 := hr1.keep hb1; have hB1 := below_step (below_step B0 (over_step hB A1)) hb1; have hO1 := over_step (over_step hB A1) hb1; clear p4 p5 p6; have p4 := bP1.c 4 rfl; have p5 := bP1.c 5 rfl; have p6 := bP1.c 6 rfl; go_wp2_with fail; refine (smsgs_t _ hr2.2 HWA.out.2 HMB).mono ?_; rintro e w2 ⟨rfl, hb2⟩; have bP2 := bP1.keep hb2; have hB2 := below_step hB1 hb2; have hO2 := over_step hO1 hb2; clear p4 p5 p6; have p4 := bP2.c 4 rfl; have p5 := bP2.c 5 rfl; have p6 := bP2.c 6 rfl; go_wp2
                      go_ret
                      exact ⟨ret_bool (NO.out HN2.out).symm, hB2⟩
                    · have HMB := Lib.hid hmb
                      have hla : x.ab.length ≤ 500 := by unfold msB at hma; simp at hma; exact hma.2
                      have hlb : x.ba.length ≤ 500 := by unfold msB at hmb; simp at hmb; exact hmb.2
                      have hwr : IntKind.i64.wrap ((x.ab.length : Int) + (x.ba.length : Int)) = (x.ab.length : Int) + (x.ba.length : Int) := wrap64_in _ (by omega) (by omega); cases hup : x.up
                      · rw [hup] at bP A1 hr1 p4 p5 p6 k4
                        by_cases hz : x.ab.length + x.ba.length = 0
                        · have hnn : lmsB x = true := by unfold lmsB; rw [hma, hmb, decide_eq_true hz]; simp
                          have hzi : ¬ 0 < (x.ab.length : Int) + (x.ba.length : Int) := by omega
                          have HN2 := Lib.hid hnn; have HUP := Lib.hid hup; have HZ := Lib.hid hz; clear hnn hma hmb hla hlb hup hz; go_wp2_with fail; refine (smsgs_t _ hr1.1 HWA.out.1 HMA).mono ?_; rintro e w1 ⟨rfl, hb1⟩; have bP1 := bP.keep hb1; have hr2 := hr1.keep hb1; have hB1 := below_step (below_step B0 (over_step hB A1)) hb1; have hO1 := over_step (over_step hB A1) hb1; clear p4 p5 p6; have p4 := bP1.c 4 rfl; have p5 := bP1.c 5 rfl; have p6 := bP1.c 6 rfl; go_wp2_with fail; refine (smsgs_t _ hr2.2 HWA.out.2 HMB).mono ?_; rintro e w2 ⟨rfl, hb2⟩; have bP2 := bP1.keep hb2; have hB2 := below_step hB1 hb2; have hO2 := over_step hO1 hb2; clear p4 p5 p6; have p4 := bP2.c 4 rfl; have p5 := bP2.c 5 rfl; have p6 := bP2.c 6 rfl; go_wp2
                          go_roundw
                          case rel =>
                            refine ⟨i + 1, by omega, by go_num, fun q hq => ?_, hO2⟩
                            by_cases hij : q = i
                            · subst hij; rw [HX.out]; exact HN2.out
                            · exact HY.out q (by omega)
                          case measure => simp [intOf]; omega
                        · have hnn : lmsB x = false := by unfold lmsB; rw [hma, hmb, hup, decide_eq_false hz]; rfl
                          have hzi : 0 < (x.ab.length : Int) + (x.ba.length : Int) := by omega
                          have HN2 := Lib.hid hnn; have HUP := Lib.hid hup; have HZ := Lib.hid hz; clear hnn hma hmb hla hlb hup hz; go_wp2_with fail; refine (smsgs_t _ hr1.1 HWA.out.1 HMA).mono ?_; rintro e w1 ⟨rfl, hb1⟩; have bP1 := bP.keep hb1; have hr2 := hr1.keep hb1; have hB1 := below_step (below_step B0 (over_step hB A1)) hb1; have hO1 := over_step (over_step hB A1) hb1; clear p4 p5 p6; have p4 := bP1.c 4 rfl; have p5 := bP1.c 5 rfl; have p6 := bP1.c 6 rfl; go_wp2_with fail; refine (smsgs_t _ hr2.2 HWA.out.2 HMB).mono ?_; rintro e w2 ⟨rfl, hb2⟩; have bP2 := bP1.keep hb2; have hB2 := below_step hB1 hb2; have hO2 := over_step hO1 hb2; clear p4 p5 p6; have p4 := bP2.c 4 rfl; have p5 := bP2.c 5 rfl; have p6 := bP2.c 6 rfl; go_wp2
                          go_ret
                          exact ⟨ret_bool (NO.out HN2.out).symm, hB2⟩
                      · rw [hup] at bP A1 hr1 p4 p5 p6 k4
                        have hnn : lmsB x = true := by unfold lmsB; rw [hma, hmb, hup]; rfl
                        have HN2 := Lib.hid hnn; have HUP := Lib.hid hup; clear hnn hma hmb hla hlb hup; go_wp2_with fail; refine (smsgs_t _ hr1.1 HWA.out.1 HMA).mono ?_; rintro e w1 ⟨rfl, hb1⟩; have bP1 := bP.keep hb1; have hr2 := hr1.keep hb1; have hB1 := below_step (below_step B0 (over_step hB A1)) hb1; have hO1 := over_step (over_step hB A1) hb1; clear p4 p5 p6; have p4 := bP1.c 4 rfl; have p5 := bP1.c 5 rfl; have p6 := bP1.c 6 rfl; go_wp2_with fail; refine (smsgs_t _ hr2.2 HWA.out.2 HMB).mono ?_; rintro e w2 ⟨rfl, hb2⟩; have bP2 := bP1.keep hb2; have hB2 := below_step hB1 hb2; have hO2 := over_step hO1 hb2; clear p4 p5 p6; have p4 := bP2.c 4 rfl; have p5 := bP2.c 5 rfl; have p6 := bP2.c 6 rfl; go_wp2
                        go_roundw
                        case rel =>
                          refine ⟨i + 1, by omega, by go_num, fun q hq => ?_, hO2⟩
                          by_cases hij : q = i
                          · subst hij; rw [HX.out]; exact HN2.out
                          · exact HY.out q (by omega)
                        case measure => simp [intOf]; omega
                · have hkn : i = m := by omega
                  subst hkn
                  have e1 : (F.links.all fun x => lmsB x) = true := List.all_eq_true.2 fun x hx => by
                    obtain ⟨q, hq, e⟩ := List.mem_iff_getElem.1 hx; have := HY.out q (by rw [HM.out]; exact hq); rw [List.getD_eq_getElem?_getD, List.getElem?_eq_getElem hq] at this; rw [← e]
                    exact this
                  have HE2 := Lib.hid e1; clear e1 hcl2; go_wp2
                  go_ret
                  exact ⟨ret_bool (by rw [HE1.out, HE2.out]; rfl), below_step B0 hB⟩
    · rw [show fsB F = false by unfold fsB; rw [decide_eq_false hD, Bool.false_and, Bool.and_false]]
      have hy : (12 : Int) < (F.links.length : Int) := by omega
      clear hA hD
      go_enter Tryz.func12, Tryz.ntmps12
      go_wp2
      go_ret
      exact ⟨rfl, B0⟩

end Go.Proofs.YtkodnipmogdgkabGreat
