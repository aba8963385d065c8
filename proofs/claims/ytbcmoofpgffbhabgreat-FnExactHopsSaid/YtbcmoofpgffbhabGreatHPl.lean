/-
  How far every switch is from those that have a prefix, of the model. Conditions: those in each contract.
  Hops of the model. Conditions: those in each contract.
  Hops of both are the same number. Conditions: those in each contract.
  Hops of both are the same number, for any arguments. Conditions: those in each contract.
-/
import Derived.Test.YtbcmoofpgffbhabGreatHPk
import Derived.Test.YtbcmoofpgffbhabGreatHPg
namespace Go.Proofs.YtbcmoofpgffbhabGreat
open Go.ChangeShapes Go.WideShapes Go.ChangeAt Go.RowKit Go.BigFrame Go.Joins
set_option linter.unusedVariables false
set_option maxRecDepth 100000
set_option maxRecDepth 100000
set_option linter.unusedSimpArgs false
set_option maxRecDepth 100000

def cellsF (far : Nat → Int) (n : Nat) : List Value := (List.range n).map fun i => .int .i64 (far i)
theorem cellsF_at (far : Nat → Int) {n i : Nat} (hi : i < n) : (cellsF far n)[i]? = some (.int .i64 (far i)) := by simp [cellsF, hi]
theorem cellsF_set (far : Nat → Int) {n b : Nat} (hb : b < n) (v : Int) : (cellsF far n).set b (.int .i64 v) = cellsF (fun i => if i = b then v else far i) n := by
 refine List.ext_getElem? fun p => ?_
 rw [List.getElem?_set]; simp only [cellsF, List.length_map, List.length_range, List.getElem?_map]
 by_cases hp : p < n
 ·rw [List.getElem?_range hp]
  by_cases e : b = p
  ·subst e; simp [hb]
  ·rw [if_neg e]; simp [Ne.symm e]
 ·have hno : (List.range n)[p]? = none := List.getElem?_eq_none (by simp; omega)
  rw [hno]
  by_cases e : b = p
  ·omega
  ·rw [if_neg e]; rfl
theorem cellsF_same {f g : Nat → Int} {n : Nat} (h : ∀ i, i < n → f i = g i) : cellsF f n = cellsF g n := by
 unfold cellsF; refine List.map_congr_left fun i hi => ?_
 rw [h i (List.mem_range.1 hi)]
/-- far at the start, k switches looked at -/
def farS (F : Fb) (p : Int × Int) (k : Nat) : Nat → Int := fun i => if i < k then (if p ∈ (F.nodes.getD i n0).own then 0 else -1) else 0
/-- one link looked at, in both directions -/
def lstep (j : Nat) (far : Nat → Int) (x : Lk) : Nat → Int := if x.up = true then hstep j (hstep j far x.a.toNat x.b.toNat) x.b.toNat x.a.toNat else far
def lvl (j : Nat) (L : List Lk) (far : Nat → Int) : Nat → Nat → Int
 | 0 => far
 | i + 1 => lstep j (lvl j L far i) (L.getD i l0)
def farN (F : Fb) (p : Int × Int) : Nat → Nat → Int
 | 0 => farS F p F.nodes.length
 | j + 1 => lvl j F.links (farN F p j) F.links.length
theorem hstep_no {j a b : Nat} {far : Nat → Int} (h : ¬ (far a = j ∧ far b < 0)) : hstep j far a b = far := by
 funext v
 unfold hstep; rw [if_neg fun q => h q.2]
theorem hstep_yes {j a b : Nat} {far : Nat → Int} (h : far a = j) (k : far b < 0) : hstep j far a b = fun v => if v = b then (j : Int) + 1 else far v := by
 funext v
 unfold hstep
 by_cases e : v = b
 ·rw [if_pos ⟨e, h, k⟩, if_pos e]
 ·rw [if_neg fun q => e q.1, if_neg e]
theorem infoIntF : (Tryz.prog.info? 3).map (fun i => (i.zero, i.size, i.bytes)) = some (some (.int .i64 0), 1, 8) := by kernel_rfl
theorem makeF (n : Nat) (hn : n ≤ 1048576) (w : World) :
  (Instr.makeSlice 42 (.int .i64 (n : Int)) (.int .i64 (n : Int))).run Tryz.prog w = .ok (.slice (some ⟨w.heap.size, 0, none⟩) n n) (w.alloc (.cells (madeCells #[Value.int .i64 0] n) 3)) := by
 obtain ⟨i, hi, hzz⟩ := Option.map_eq_some_iff.1 infoIntF; simp only [Prod.mk.injEq] at hzz; obtain ⟨hz, hs, hb⟩ := hzz; have hr := run_make (P := Tryz.prog) w 42 3 i _ Tryz.underlying42 hi hz .i64 .i64 n n (by omega) (Int.le_refl _) (by rw [hb]; omega) (by omega)
 simpa only [Int.toNat_natCast, hs, Value.cells, Nat.mul_one] using hr
theorem madeF (n : Nat) : (madeCells #[Value.int .i64 0] n).toList = cellsF (fun _ => 0) n := by
 simp [madeCells, cellsF, Nat.mod_one]
set_option maxHeartbeats 8000000 in
theorem sfar_any (nv lv : Value) (F : Fb) (pa pn : Int) (w : World) (h : RdF w nv lv F) (hn8 : F.nodes.length ≤ 8) (hl : F.links.length ≤ 1048576) (hval : ∀ x ∈ F.links, 0 ≤ x.a ∧ x.a < F.nodes.length ∧ 0 ≤ x.b ∧ x.b < F.nodes.length) :
  Calls Tryz.prog 98 #[.agg #[nv, lv, .int .i64 F.width], .agg #[.int .i64 pa, .int .i64 pn]] w fun e w' => (∃ g, e = .returned (.slice (some ⟨g, 0, none⟩) F.nodes.length F.nodes.length) ∧ Bl w' g (cellsF (farN F (pa, pn) F.nodes.length) F.nodes.length)) ∧ Below w.heap.size w w' := by
 obtain ⟨na, nc, rfl, hcN⟩ := h.1.el; obtain ⟨la, lc, rfl, hcL⟩ := h.2.el; obtain ⟨n, hn⟩ : ∃ n, n = F.nodes.length := ⟨_, rfl⟩; obtain ⟨l, hll⟩ : ∃ n, n = F.links.length := ⟨_, rfl⟩; rw [← hn] at hcN hn8 hval ⊢; rw [← hll] at hcL hl ⊢; have HN := Lib.hid hn; have HLL := Lib.hid hll; have HVAL := Lib.hid hval; clear h hn hll hval; have hmk := fun W => makeF n (by omega) W
 obtain ⟨bA, bP, B0, z⟩ := two w [.slice na n nc, .slice la l lc, .int .i64 F.width] [.int .i64 pa, .int .i64 pn] 60 93; have a0 := bA.c 0 rfl
 go_enter Tryz.func98, Tryz.ntmps98
 go_wp2; clear hmk; obtain ⟨W0, hW0⟩ : ∃ W0, W0 = (w.alloc (.cells #[.slice na n nc, .slice la l lc, .int .i64 F.width] 60)).alloc (.cells #[.int .i64 pa, .int .i64 pn] 93) := ⟨_, rfl⟩; rw [← hW0] at bA bP B0 z
 try rw [← hW0]
 obtain ⟨W1, hW1⟩ : ∃ W1, W1 = W0.alloc (.cells (madeCells #[Value.int .i64 0] n) 3) := ⟨_, rfl⟩; have A1 : Below W0.heap.size W0 W1 := by rw [hW1]; exact (Below.refl _ _).alloc (Nat.le_refl _) _
 have bD : Bl W1 W0.heap.size (cellsF (fun _ => 0) n) := by
  have := Bl.new W0 (madeCells #[Value.int .i64 0] n).toList 3 W0.heap.size rfl; rw [madeF] at this; rw [hW1]; rw [← madeF] at this ⊢
  simpa using this
 rw [← hW1]; obtain ⟨A, hA⟩ : ∃ R, R = w.heap.size := ⟨_, rfl⟩; obtain ⟨P, hP⟩ : ∃ R, R = w.heap.size + 1 := ⟨_, rfl⟩; obtain ⟨D, hD⟩ : ∃ R, R = w.heap.size + 2 := ⟨_, rfl⟩; rw [show W0.heap.size = D by omega] at bD; replace bA := bA.keep A1; replace bP := bP.keep A1; replace B0 := below_step B0 A1; rw [← hA] at bA; rw [← hP] at bP
 try rw [show W0.heap.size = D by omega]
 try rw [← hD]
 try rw [← hP]
 try rw [← hA]
 have hL : w.heap.size ≤ D ∧ A ≠ D ∧ P ≠ D := by omega
 clear hA hP hD hW0 hW1 z A1 a0
 go_loopw [6] (fun q wr => ∃ k : Nat, k ≤ n ∧ q = .int .i64 k ∧ Bl wr D (cellsF (farS F (pa, pn) k) n) ∧ Bl wr A [.slice na n nc, .slice la l lc, .int .i64 F.width] ∧ Bl wr P [.int .i64 pa, .int .i64 pn] ∧ Below w.heap.size w wr) (fun q _ => n - (intOf q).toNat)
 case atStart => exact ⟨0, Nat.zero_le _, rfl, by rw [cellsF_same (g := fun _ => 0) (fun i hi => by unfold farS; rw [if_neg (by omega)])]; exact bD, bA, bP, B0⟩
 case round =>
  clear bD bA bP B0; obtain ⟨k, hk, rfl, bD, bA, bP, hB⟩ := hrel
  by_cases hlt : k < n
  ·have hltI : (k : Int) < (n : Int) := by omega
   obtain ⟨b, o, rfl, hE⟩ := hcN k hlt; obtain ⟨N, hx⟩ : ∃ N, F.nodes.getD k n0 = N := ⟨_, rfl⟩; rw [hx] at hE; obtain ⟨ov, rv, sv, hr, G0, G1, -⟩ := hE; obtain ⟨oa, oc, rfl⟩ := hr.1.len; have HRO := Lib.hid hr.1; obtain ⟨d, hd⟩ : ∃ d, decide ((pa, pn) ∈ N.own) = d := ⟨_, rfl⟩; have HD := Lib.hid hd
   have HX : Hid (∀ i, i < n → (if i = k then (if d = true then 0 else -1) else farS F (pa, pn) k i) = farS F (pa, pn) (k + 1) i) := Lib.hid fun i hi => by
    by_cases e : i = k
    ·rw [if_pos e, e]
     show _ = (if k < k + 1 then (if (pa, pn) ∈ (F.nodes.getD k n0).own then (0 : Int) else -1) else 0)
     rw [if_pos (Nat.lt_succ_self k), hx, ← hd]
     by_cases q : (pa, pn) ∈ N.own
     ·rw [if_pos q, if_pos (decide_eq_true q)]
     ·rw [if_neg q, if_neg (by rw [decide_eq_false q]; simp)]
    ·have q : (i < k) = (i < k + 1) := propext (by omega)
     rw [if_neg e]; simp only [farS, q]
   have HC := Lib.hid hcN; obtain ⟨fr, hfr⟩ : ∃ f : Nat → Int, f = farS F (pa, pn) k := ⟨_, rfl⟩; rw [← hfr] at bD HX; have dc := bD.c k (cellsF_at _ hlt); have df := bD.f k (cellsF_at _ hlt); have bD1 := bD.set k (.int .i64 (-1)); rw [cellsF_set _ hlt] at bD1; have bA1 := bA.far (o := k) (u := .int .i64 (-1)) hL.2.1; have bP1 := bP.far (o := k) (u := .int .i64 (-1)) hL.2.2; have hB1 := hB.setCell (p := ⟨D, k, none⟩) hL.1 (.int .i64 (-1)); obtain ⟨V, hV⟩ : ∃ V, V = wr.setCell ⟨D, k, none⟩ (.int .i64 (-1)) := ⟨_, rfl⟩; rw [← hV] at bD1 bA1 bP1 hB1; have HV := Lib.hid hV; clear hx hd hcN hr hfr hV G0 bD bA bP hB; go_wp2_with fail; rw [← HV.out]; have g1 := cell_keep hB1 (World.block_lt_of_cell? w _ G1) G1; clear dc df G1 HV; refine wp_region_class (C := Over (V)) (by kernel_rfl) (by kernel_rfl) (over_drew _) ?_
   repeat (first | go_big_quiet_skip | (go_big_quiet_want; go_big_quiet_op; go_big_quiet_on) | (go_big_quiet_want; go_big_quiet_op; apply Exists.intro; refine ⟨fun w' hC => ?_, ?_⟩; ((first | (go_at_call 116; refine (sgone_t _ (HRO.out.keep (below_step hB1 hC)) HD).mono ?_; rintro e w9 ⟨rfl, hb1⟩; exact ⟨rfl, over_step hC hb1⟩))); go_big_quiet_on) | (go_big_quiet_want; apply Exists.intro; refine ⟨fun w' hC => ?_, ?_⟩; (have k0 := over_cell hC bA1.lt (bA1.c 0 rfl); have k1 := over_cell hC (World.block_lt_of_cell? _ _ g1) g1; have k2 := over_cell hC bP1.lt (bP1.c 0 rfl); have k3 := over_cell hC bP1.lt (bP1.c 1 rfl); simp [Oper.quietAt, Oper.quietUpon, go_sem, k0, k1, k2, k3, hltI, hlt]; first | done | rfl); go_big_quiet_on; simp only [Act.put, List.setIfInBounds_toArray, List.set_cons_zero, List.set_cons_succ]))
   refine wpQuiet_nil ?_; intro ws hC; have k0 := over_cell hC bA1.lt (bA1.c 0 rfl); have k1 := over_cell hC (World.block_lt_of_cell? _ _ g1) g1; have k2 := over_cell hC bP1.lt (bP1.c 0 rfl); have k3 := over_cell hC bP1.lt (bP1.c 1 rfl); replace bD1 := bD1.keep hC; replace bA1 := bA1.keep hC; replace bP1 := bP1.keep hC; replace hB1 := below_step hB1 hC; clear hC k0 k1 k2 k3 g1; cases d
   ·go_wp2
    go_roundw
    case rel => exact ⟨k + 1, by omega, by go_num, by rw [← cellsF_same (fun i hi => HX.out i hi)]; simpa using bD1, bA1, bP1, hB1⟩
    case measure => simp [intOf]; omega
   ·have dc := bD1.c k (cellsF_at _ hlt)
    have df := bD1.f k (cellsF_at _ hlt); have bD2 := bD1.set k (.int .i64 0); rw [cellsF_set _ hlt] at bD2; have bA2 := bA1.far (o := k) (u := .int .i64 0) hL.2.1; have bP2 := bP1.far (o := k) (u := .int .i64 0) hL.2.2; have hB2 := hB1.setCell (p := ⟨D, k, none⟩) hL.1 (.int .i64 0); have HSS := Lib.hid (And.intro bD2 (And.intro bA2 (And.intro bP2 hB2))); clear bD2 bA2 bP2 hB2 bD1 bA1 bP1; go_wp2
    go_roundw
    case rel =>
     refine ⟨k + 1, by omega, by go_num, ?_, HSS.out.2.1, HSS.out.2.2.1, HSS.out.2.2.2⟩; have q := HSS.out.1; rw [cellsF_same (g := farS F (pa, pn) (k + 1)) (fun i hi => by rw [← HX.out i hi]; by_cases e : i = k <;> simp [e])] at q
     exact q
    case measure => simp [intOf]; omega
  ·have hkn : k = n := by omega
   subst hkn; rw [show farS F (pa, pn) k = farN F (pa, pn) 0 by unfold farN; rw [HN.out]] at bD; clear hcN bP; go_wp2
   go_loopw [7] (fun q wr => ∃ j : Nat, j ≤ k ∧ q = .int .i64 j ∧ Bl wr D (cellsF (farN F (pa, pn) j) k) ∧ Bl wr A [.slice na k nc, .slice la l lc, .int .i64 F.width] ∧ Below w.heap.size w wr) (fun q _ => k - (intOf q).toNat)
   case atStart => exact ⟨0, Nat.zero_le _, rfl, bD, bA, hB⟩
   case round =>
    clear bD bA hB; obtain ⟨j, hj, rfl, bD, bA, hB⟩ := hrel
    by_cases hjn : j < k
    ·have hjI : (j : Int) < (k : Int) := by omega
     obtain ⟨n, rfl⟩ : ∃ n : Nat, n = k := ⟨_, rfl⟩; obtain ⟨f0, hf0⟩ : ∃ f : Nat → Int, f = farN F (pa, pn) j := ⟨_, rfl⟩; rw [← hf0] at bD; have HF0 := Lib.hid hf0; have dl := bD.lt; clear hf0; go_wp2
     go_loopw [8] (fun q wr => ∃ i : Nat, i ≤ l ∧ q = .int .i64 i ∧ Bl wr D (cellsF (lvl j F.links f0 i) n) ∧ Bl wr A [.slice na n nc, .slice la l lc, .int .i64 F.width] ∧ Below w.heap.size w wr) (fun q _ => l - (intOf q).toNat)
     case atStart => exact ⟨0, Nat.zero_le _, rfl, bD, bA, hB⟩
     case round =>
      clear bD bA hB dl; obtain ⟨i, hi, rfl, bD, bA, hB⟩ := hrel; have r1 := bA.c 1 rfl
      by_cases hil : i < l
      ·have hilI : (i : Int) < (l : Int) := by omega
       obtain ⟨b, o, rfl, hE⟩ := hcL i hil
       have hmem := HVAL.out (F.links.getD i l0) (by
        have hk : i < F.links.length := by rw [← HLL.out]; exact hil
        simp [List.getD, hk])
       obtain ⟨x, hx⟩ : ∃ x, F.links.getD i l0 = x := ⟨_, rfl⟩; have HLV0 : Hid (lvl j F.links f0 (i + 1) = lstep j (lvl j F.links f0 i) x) := Lib.hid (by rw [lvl, hx]); rw [hx] at hE hmem; obtain ⟨av, bv, hr, G0, G1, G2, G3, G4, G5, G6⟩ := hE; obtain ⟨aa, ac, rfl⟩ := hr.1.len; obtain ⟨ba, bc, rfl⟩ := hr.2.len; obtain ⟨xa, xi, xb, yi, up, ab, bb⟩ := x
       dsimp only at hmem G0 G1 G2 G3 G4 G5 G6
       obtain ⟨an, han⟩ : ∃ m, m = ab.length := ⟨_, rfl⟩; obtain ⟨bn, hbn⟩ : ∃ m, m = bb.length := ⟨_, rfl⟩; rw [← han] at G5; rw [← hbn] at G6; obtain ⟨ka, hka⟩ := Int.eq_ofNat_of_zero_le hmem.1; obtain ⟨kb, hkb⟩ := Int.eq_ofNat_of_zero_le hmem.2.2.1; subst hka hkb; have hkaI : (ka : Int) < (n : Int) := hmem.2.1; have hkbI : (kb : Int) < (n : Int) := hmem.2.2.2; have hka : ka < n := by omega
       have hkb : kb < n := by omega
       have g0 := cell_keep hB (World.block_lt_of_cell? w _ G0) G0; have g1 := cell_keep hB (World.block_lt_of_cell? w _ G1) G1; have g2 := cell_keep hB (World.block_lt_of_cell? w _ G2) G2; have g3 := cell_keep hB (World.block_lt_of_cell? w _ G3) G3; have g4 := cell_keep hB (World.block_lt_of_cell? w _ G4) G4; have g5 := cell_keep hB (World.block_lt_of_cell? w _ G5) G5; have g6 := cell_keep hB (World.block_lt_of_cell? w _ G6) G6; obtain ⟨bQ, N2, z2⟩ := one wr [.int .i64 (ka : Nat), .int .i64 xi, .int .i64 (kb : Nat), .int .i64 yi, .bool up, .slice aa an ac, .slice ba bn bc] 142; have q0 := bQ.c 0 rfl; have q1 := bQ.c 1 rfl; have q2 := bQ.c 2 rfl; have q3 := bQ.c 3 rfl; have q4 := bQ.c 4 rfl; have q5 := bQ.c 5 rfl; have q6 := bQ.c 6 rfl; have hDQ : D ≠ wr.heap.size := by have := bD.lt; omega
       have hDw : D < wr.heap.size := bD.lt; obtain ⟨fr, hfr⟩ : ∃ f : Nat → Int, f = lvl j F.links f0 i := ⟨_, rfl⟩; rw [← hfr] at bD HLV0; obtain ⟨fa, hfa⟩ : ∃ f, fr ka = f := ⟨_, rfl⟩; obtain ⟨fb, hfb⟩ : ∃ f, fr kb = f := ⟨_, rfl⟩; have da := (bD.keep N2).c ka (cellsF_at _ hka); have db := (bD.keep N2).c kb (cellsF_at _ hkb); have dfa := (bD.keep N2).f ka (cellsF_at _ hka); have dfb := (bD.keep N2).f kb (cellsF_at _ hkb); have daw := bD.c ka (cellsF_at _ hka); have dbw := bD.c kb (cellsF_at _ hkb); have dafw := bD.f ka (cellsF_at _ hka); have dbfw := bD.f kb (cellsF_at _ hkb); rw [hfa] at da daw; rw [hfb] at db dbw; have HFA := Lib.hid hfa; have HFB := Lib.hid hfb; have HCL := Lib.hid hcL; clear hx hr hmem hfr hfa hfb hcL han hbn z2 G0 G1 G2 G3 G4 G5 G6 bQ; cases up
       ·have HLV : Hid (lvl j F.links f0 (i + 1) = fr) := Lib.hid (by rw [HLV0.out]; rfl)
        go_wp2
        go_roundw
        case rel => exact ⟨i + 1, by omega, by go_num, by rw [HLV.out]; exact bD.keep N2, bA.keep N2, below_step hB N2⟩
        case measure => simp [intOf]; omega
       ·by_cases c1 : fa = (j : Int) ∧ fb < 0
        ·obtain ⟨h1, h2⟩ := c1
         have HLV : Hid (lvl j F.links f0 (i + 1) = fun v => if v = kb then (j : Int) + 1 else fr v) := Lib.hid (by
          rw [HLV0.out]
          show hstep j (hstep j fr ka kb) kb ka = _
          rw [show hstep j fr ka kb = _ from hstep_yes (by rw [HFA.out]; exact h1) (by rw [HFB.out]; exact h2)]; refine hstep_no fun q => ?_
          have := q.1; rw [if_pos rfl] at this
          omega)
         have e1 : (fa == (j : Int)) = true := by simp [h1]
         have e3 : ((j : Int) + 1 == (j : Int)) = false := beq_eq_false_iff_ne.2 (by omega); subst h1; have N3 : Below (wr.setCell ⟨D, kb, none⟩ (.int .i64 ((j : Int) + 1))).heap.size (wr.setCell ⟨D, kb, none⟩ (.int .i64 ((j : Int) + 1))) ((wr.setCell ⟨D, kb, none⟩ (.int .i64 ((j : Int) + 1))).alloc (.cells #[.int .i64 (ka : Nat), .int .i64 xi, .int .i64 (kb : Nat), .int .i64 yi, .bool true, .slice aa an ac, .slice ba bn bc] 142)) := (Below.refl _ _).alloc (Nat.le_refl _) _; have bS := bD.set kb (.int .i64 ((j : Int) + 1)); rw [cellsF_set _ hkb] at bS; have bA9 := bA.far (o := kb) (u := .int .i64 ((j : Int) + 1)) hL.2.1; have hB9 := hB.setCell (p := ⟨D, kb, none⟩) hL.1 (.int .i64 ((j : Int) + 1)); have HSS := Lib.hid (And.intro (bS.keep N3) (And.intro (bA9.keep N3) (below_step hB9 N3))); clear bS bA9 hB9 N3; go_wp2
         go_roundw
         case rel => exact ⟨i + 1, by omega, by go_num, by rw [HLV.out]; exact HSS.out.1, HSS.out.2.1, HSS.out.2.2⟩
         case measure => simp [intOf]; omega
        ·by_cases h1 : fa = (j : Int)
         ·have h2 : ¬ fb < 0 := fun q => c1 ⟨h1, q⟩
          have HLV : Hid (lvl j F.links f0 (i + 1) = fr) := Lib.hid (by
           rw [HLV0.out]
           show hstep j (hstep j fr ka kb) kb ka = _
           rw [show hstep j fr ka kb = fr from hstep_no (by rw [HFA.out, HFB.out]; exact c1)]
           exact hstep_no (by rw [HFA.out, HFB.out]; omega))
          have h4 : ¬ fa < 0 := by omega
          have h5 : ¬ ((j : Int) < 0) := by omega
          subst h1; clear c1 h4
          by_cases h3 : fb = (j : Int)
          ·subst h3
           go_wp2
           go_roundw
           case rel => exact ⟨i + 1, by omega, by go_num, by rw [HLV.out]; exact bD.keep N2, bA.keep N2, below_step hB N2⟩
           case measure => simp [intOf]; omega
          ·have e3 : (fb == (j : Int)) = false := beq_eq_false_iff_ne.2 h3
           go_wp2
           go_roundw
           case rel => exact ⟨i + 1, by omega, by go_num, by rw [HLV.out]; exact bD.keep N2, bA.keep N2, below_step hB N2⟩
           case measure => simp [intOf]; omega
         ·have e1 : (fa == (j : Int)) = false := beq_eq_false_iff_ne.2 h1
          by_cases h3 : fb = (j : Int)
          ·by_cases h4 : fa < 0
           ·have HLV : Hid (lvl j F.links f0 (i + 1) = fun v => if v = ka then (j : Int) + 1 else fr v) := Lib.hid (by
             rw [HLV0.out]
             show hstep j (hstep j fr ka kb) kb ka = _
             rw [show hstep j fr ka kb = fr from hstep_no (by rw [HFA.out, HFB.out]; exact c1)]
             exact hstep_yes (by rw [HFB.out]; exact h3) (by rw [HFA.out]; exact h4))
            subst h3; clear c1 h1; have N3 : Below (wr.setCell ⟨D, ka, none⟩ (.int .i64 ((j : Int) + 1))).heap.size (wr.setCell ⟨D, ka, none⟩ (.int .i64 ((j : Int) + 1))) ((wr.setCell ⟨D, ka, none⟩ (.int .i64 ((j : Int) + 1))).alloc (.cells #[.int .i64 (ka : Nat), .int .i64 xi, .int .i64 (kb : Nat), .int .i64 yi, .bool true, .slice aa an ac, .slice ba bn bc] 142)) := (Below.refl _ _).alloc (Nat.le_refl _) _; have bS := bD.set ka (.int .i64 ((j : Int) + 1)); rw [cellsF_set _ hka] at bS; have bA9 := bA.far (o := ka) (u := .int .i64 ((j : Int) + 1)) hL.2.1; have hB9 := hB.setCell (p := ⟨D, ka, none⟩) hL.1 (.int .i64 ((j : Int) + 1)); have HSS := Lib.hid (And.intro (bS.keep N3) (And.intro (bA9.keep N3) (below_step hB9 N3))); clear bS bA9 hB9 N3; go_wp2
            go_roundw
            case rel => exact ⟨i + 1, by omega, by go_num, by rw [HLV.out]; exact HSS.out.1, HSS.out.2.1, HSS.out.2.2⟩
            case measure => simp [intOf]; omega
           ·skip
            have HLV : Hid (lvl j F.links f0 (i + 1) = fr) := Lib.hid (by
             rw [HLV0.out]
             show hstep j (hstep j fr ka kb) kb ka = _
             rw [show hstep j fr ka kb = fr from hstep_no (by rw [HFA.out, HFB.out]; exact c1)]
             exact hstep_no (by rw [HFA.out, HFB.out]; omega))
            subst h3; clear c1 h1; go_wp2
            go_roundw
            case rel => exact ⟨i + 1, by omega, by go_num, by rw [HLV.out]; exact bD.keep N2, bA.keep N2, below_step hB N2⟩
            case measure => simp [intOf]; omega
          ·have e3 : (fb == (j : Int)) = false := beq_eq_false_iff_ne.2 h3
           have HLV : Hid (lvl j F.links f0 (i + 1) = fr) := Lib.hid (by
            rw [HLV0.out]
            show hstep j (hstep j fr ka kb) kb ka = _
            rw [show hstep j fr ka kb = fr from hstep_no (by rw [HFA.out, HFB.out]; exact c1)]
            exact hstep_no (by rw [HFA.out, HFB.out]; omega))
           clear c1 h1; go_wp2
           go_roundw
           case rel => exact ⟨i + 1, by omega, by go_num, by rw [HLV.out]; exact bD.keep N2, bA.keep N2, below_step hB N2⟩
           case measure => simp [intOf]; omega
      ·have hil2 : i = l := by omega
       subst hil2; have HFN : Hid (farN F (pa, pn) (j + 1) = lvl j F.links f0 i) := Lib.hid (by rw [farN, ← HF0.out, ← HLL.out]); obtain ⟨fz, hfz⟩ : ∃ f : Nat → Int, f = lvl j F.links f0 i := ⟨_, rfl⟩; rw [← hfz] at bD HFN; clear hcL hfz; go_wp2
       go_roundw
       case rel => exact ⟨j + 1, by omega, by go_num, by rw [HFN.out]; exact bD, bA, hB⟩
       case measure => simp [intOf]; omega
    ·have hjk : j = k := by omega
     subst hjk; clear hcL; go_wp2
     go_ret
     exact ⟨⟨D, rfl, bD⟩, hB⟩
end Go.Proofs.YtbcmoofpgffbhabGreat
namespace Go.Proofs.YtbcmoofpgffbhabGreat
open Go.ChangeShapes Go.WideShapes Go.ChangeAt Go.RowKit Go.BigFrame Go.Joins
set_option linter.unusedVariables false
set_option maxRecDepth 100000
set_option linter.unusedSimpArgs false
set_option maxRecDepth 100000

theorem slcO_t {a n x : Int} {b : Bool} (w : World) (hp : pokB a n = true) (hx : addrB x = true) (H : Hid (covB a n x = b)) : Calls Tryz.prog 97 #[.agg #[.int .i64 a, .int .i64 n], .int .i64 x] w fun e w' => e = .returned (.bool b) ∧ Below w.heap.size w w' := by
 have h1 := hp; unfold pokB at h1; have h1 := of_decide_eq_true h1; have h2 := hx; unfold addrB at h2; have h2 := of_decide_eq_true h2; have e : covB a n x = (hd x n == a) := by simp [covB, hx, hp]
 have h := H.out; rw [e] at h
 exact h ▸ slc_any a n x w h1.2.2.1 h1.2.2.2.1 (by omega) (by omega)
/-- the model's best: the prefix, or one of length -1 -/
def encO (s : (Int × Int) × Bool) : Int × Int := if s.2 = true then s.1 else (0, -1)
def okS (s : (Int × Int) × Bool) : Prop := s.2 = true → 0 ≤ s.1.2
theorem enc_step {x : Int} {s : (Int × Int) × Bool} {u t : Int} {c : Bool} (hs : okS s) (ht : 0 ≤ t) (hc : covB u t x = c) :
  encO (bstepO x s (u, t)) = (if (c && decide ((encO s).2 < t)) = true then (u, t) else encO s) ∧ okS (bstepO x s (u, t)) := by
 obtain ⟨⟨pa, pn⟩, f⟩ := s; unfold bstepO
 dsimp only
 rw [hc]; cases c
 ·exact ⟨rfl, hs⟩
 ·cases f
  ·have : encO ((pa, pn), false) = (0, -1) := rfl
   rw [this]; rw [if_pos (show (true && (!false || decide (pn < t))) = true from rfl), if_pos (by simp; omega)]
   exact ⟨rfl, fun _ => ht⟩
  ·have : encO ((pa, pn), true) = (pa, pn) := rfl
   rw [this]
   by_cases q : pn < t
   ·rw [if_pos (by simp [q]), if_pos (by simp [q])]
    exact ⟨rfl, fun _ => ht⟩
   ·rw [if_neg (by simp [q]), if_neg (by simp [q])]
    exact ⟨rfl, hs⟩
def hopsS (F : Fb) (node x : Int) : Int := if (fsB F && (inB node 0 ((F.nodes.length : Int) - 1) && addrB x)) = true then (if (bestF F x).2 = true then farN F (bestF F x).1 F.nodes.length node.toNat else -1) else -1
theorem hopsS_no {F : Fb} {node x : Int} (h : (fsB F && (inB node 0 ((F.nodes.length : Int) - 1) && addrB x)) = false) : hopsS F node x = -1 := by unfold hopsS; rw [h]; rfl
theorem sfokO_t {nv lv : Value} {F : Fb} {b : Bool} (w : World) (H : Hid (fsB F = b)) (h : RdF w nv lv F) (hw : wtF F ≤ 1048576) :
  Calls Tryz.prog 87 #[.agg #[nv, lv, .int .i64 F.width]] w fun e w' => e = .returned (.bool b) ∧ Below w.heap.size w w' := H.out ▸ sfok_any nv lv F w h hw
set_option maxHeartbeats 8000000 in
theorem shops_any (nv lv : Value) (F : Fb) (node x : Int) (w : World) (h : RdF w nv lv F) (hw : wtF F ≤ 1048576)
  (hval : fsB F = true → F.nodes.length ≤ 8 ∧ (∀ i, i < F.nodes.length → ∀ q ∈ (F.nodes.getD i n0).own, pokB q.1 q.2 = true) ∧ F.links.length ≤ 1048576 ∧ ∀ x ∈ F.links, 0 ≤ x.a ∧ x.a < F.nodes.length ∧ 0 ≤ x.b ∧ x.b < F.nodes.length) :
  Calls Tryz.prog 37 #[.agg #[nv, lv, .int .i64 F.width], .int .i64 node, .int .i64 x] w fun e w' => e = .returned (.int .i64 (hopsS F node x)) ∧ Below w.heap.size w w' := by
 obtain ⟨na, nc, rfl, hcN⟩ := h.1.el; obtain ⟨la, lc, rfl⟩ := h.2.len; have hnM : F.nodes.length ≤ 1048576 := by unfold wtF at hw; omega
 obtain ⟨n, hn⟩ : ∃ n, n = F.nodes.length := ⟨_, rfl⟩; obtain ⟨nl, hnl⟩ : ∃ n, n = F.links.length := ⟨_, rfl⟩; rw [← hn] at hcN hval hnM; rw [← hn, ← hnl] at h ⊢; have HRF := Lib.hid h; have HVAL := Lib.hid hval; have HN := Lib.hid hn; obtain ⟨g, hg⟩ : ∃ g, fsB F = g := ⟨_, rfl⟩; have HG := Lib.hid hg; obtain ⟨av, hav⟩ : ∃ g, addrB x = g := ⟨_, rfl⟩; have HAV := Lib.hid hav; have HNO : Hid ((fsB F && (inB node 0 ((n : Int) - 1) && addrB x)) = false → hopsS F node x = -1) := Lib.hid fun q => hopsS_no (by rw [← hn]; exact q)
 clear h hval hn hnl hg hav; obtain ⟨bA, B0, z⟩ := one w [.slice na n nc, .slice la nl lc, .int .i64 F.width] 60; have a0 := bA.c 0 rfl; have a1 := bA.c 1 rfl; have a2 := bA.c 2 rfl
 go_enter Tryz.func37, Tryz.ntmps37
 go_wp2_with fail; clear a0 a1 a2; obtain ⟨A, hA⟩ : ∃ A, A = w.heap.size := ⟨_, rfl⟩; rw [← hA] at bA
 try rw [← hA]
 have hwA : w.heap.size ≤ A := by omega
 clear hA z; refine (sfokO_t _ HG (HRF.out.keep B0) hw).mono ?_; rintro e w1 ⟨rfl, hb⟩; replace bA := bA.keep hb; replace B0 := below_step B0 hb; clear hb; cases g
 ·have HF : Hid (hopsS F node x = -1) := Lib.hid (HNO.out (by rw [HG.out]; rfl))
  go_wp2
  go_ret
  exact ⟨ret_int HF.out.symm, B0⟩
 ·have a0 := bA.c 0 rfl
  by_cases h0 : node < 0
  ·have HF : Hid (hopsS F node x = -1) := Lib.hid (HNO.out (by rw [HG.out, show inB node 0 ((n : Int) - 1) = false by unfold inB; exact decide_eq_false (by omega)]; rfl))
   go_wp2
   go_ret
   exact ⟨ret_int HF.out.symm, B0⟩
  ·by_cases h1 : (n : Int) ≤ node
   ·have HF : Hid (hopsS F node x = -1) := Lib.hid (HNO.out (by rw [HG.out, show inB node 0 ((n : Int) - 1) = false by unfold inB; exact decide_eq_false (by omega)]; rfl))
    go_wp2
    go_ret
    exact ⟨ret_int HF.out.symm, B0⟩
   ·go_wp2_with fail
    refine (saddr_t _ HAV).mono ?_; rintro e w2 ⟨rfl, rfl⟩; cases av
    ·have HF : Hid (hopsS F node x = -1) := Lib.hid (HNO.out (by rw [HAV.out, Bool.and_false, Bool.and_false]))
     go_wp2
     go_ret
     exact ⟨ret_int HF.out.symm, B0⟩
    ·obtain ⟨hn8, hown, hl1, hlk⟩ := HVAL.out HG.out
     have HOWN := Lib.hid hown; have HLK := Lib.hid hlk; obtain ⟨bG, N1, z⟩ := one w1 [.int .i64 0, .int .i64 (-1)] 93; clear hown hlk a0; go_wp2; obtain ⟨W1, hW⟩ : ∃ W1, W1 = w1.alloc (.cells #[.int .i64 0, .int .i64 (-1)] 93) := ⟨_, rfl⟩; rw [← hW] at bG N1 z ⊢; obtain ⟨G, hG⟩ : ∃ A, A = w1.heap.size := ⟨_, rfl⟩; rw [← hG] at bG
     try rw [← hG]
     have hs1 := B0.size; have hAG : A ≠ G := by have := bA.lt; omega
     have hwG : w.heap.size ≤ G := by omega
     replace bA := bA.keep N1; replace B0 := below_step B0 N1; clear hW hG z N1 hs1
     go_loopw [8] (fun q wr => ∃ k : Nat, k ≤ n ∧ q = .int .i64 k ∧ ∃ s, bestO x (ownsK F.nodes k) ((0, 0), false) = s ∧ okS s ∧ Bl wr G [.int .i64 (encO s).1, .int .i64 (encO s).2] ∧ Bl wr A [.slice na n nc, .slice la nl lc, .int .i64 F.width] ∧ Below w.heap.size w wr) (fun q _ => n - (intOf q).toNat)
     case atStart => exact ⟨0, Nat.zero_le _, rfl, ((0, 0), false), rfl, fun q => (by cases q), bG, bA, B0⟩
     case round =>
      clear bG bA B0; obtain ⟨k, hk, rfl, s0, hb0, hok0, bG, bA, hB⟩ := hrel; have r0 := bA.c 0 rfl
      by_cases hlt : k < n
      ·have hltI : (k : Int) < (n : Int) := by omega
       obtain ⟨b, o, rfl, hE⟩ := hcN k hlt; obtain ⟨N, hx⟩ : ∃ N, F.nodes.getD k n0 = N := ⟨_, rfl⟩; have hpk := HOWN.out k hlt; rw [hx] at hE hpk; obtain ⟨ov, rv, sv, hr, G0, G1, -⟩ := hE; obtain ⟨oa, oc, rfl, hp⟩ := hr.1.el; have hpl := hr.1.1; have HX := Lib.hid (fun s1 (q : bestO x N.own s0 = s1) => bestO_node (by rw [← HN.out]; exact hlt) hx hb0 q); have HC := Lib.hid hcN; have HPK := Lib.hid hpk; have HG1 := Lib.hid G1; obtain ⟨m, hm⟩ : ∃ m, m = N.own.length := ⟨_, rfl⟩; rw [← hm] at hp hpl; have HM := Lib.hid hm; have HG2 : Hid (w.cell? ⟨b, o + k * 6 + 1, none⟩ = some (.slice oa m oc)) := Lib.hid (by rw [hm]; exact G1); have HP := Lib.hid hp; clear hx hcN hr hb0 hm hp hpk G0 G1 HG1; go_wp2
       go_loopw [9] (fun q wr => ∃ j : Nat, j ≤ m ∧ q = .int .i64 j ∧ ∃ s, bestO x (N.own.take j) s0 = s ∧ okS s ∧ Bl wr G [.int .i64 (encO s).1, .int .i64 (encO s).2] ∧ Bl wr A [.slice (some ⟨b, o, none⟩) n nc, .slice la nl lc, .int .i64 F.width] ∧ Below w.heap.size w wr) (fun q _ => m - (intOf q).toNat)
       case atStart => exact ⟨0, Nat.zero_le _, rfl, s0, rfl, hok0, bG, bA, hB⟩
       case round =>
        clear bG bA hB r0; obtain ⟨j, hj, rfl, s, hb1, hok, bG, bA, hB⟩ := hrel; have r0 := bA.c 0 rfl; have g1 := cell_keep hB (World.block_lt_of_cell? w _ HG2.out) HG2.out
        by_cases hlj : j < m
        ·have hljI : (j : Int) < (m : Int) := by omega
         obtain ⟨b2, o2, hoa, d0, d1⟩ := HP.out j hlj; subst hoa; obtain ⟨⟨u, t⟩, hx⟩ : ∃ q, N.own.getD j (0, 0) = q := ⟨_, rfl⟩; have hjN : j < N.own.length := by rw [← HM.out]; exact hlj
         have hpo := HPK.out (u, t) (by rw [← hx]; simp [List.getD, hjN])
         dsimp only at hpo
         rw [hx] at d0 d1
         dsimp only at d0 d1
         have c0 := cell_keep hB (World.block_lt_of_cell? w _ d0) d0; have c1 := cell_keep hB (World.block_lt_of_cell? w _ d1) d1; obtain ⟨cv, hcv⟩ : ∃ c, covB u t x = c := ⟨_, rfl⟩; have HCV := Lib.hid hcv
         have ht0 : 0 ≤ t := by
          unfold pokB at hpo
          exact (of_decide_eq_true hpo).2.2.1
         have HST := Lib.hid (And.intro (bestO_succ hjN hx hb1) (enc_step hok ht0 hcv)); have HPO := Lib.hid hpo; obtain ⟨⟨ea, en⟩, hen⟩ : ∃ q, encO s = q := ⟨_, rfl⟩; rw [hen] at bG HST
         dsimp only at bG
         obtain ⟨bQ, N2, z2⟩ := one wr [.int .i64 u, .int .i64 t] 93; have q0 := bQ.c 0 rfl; have q1 := bQ.c 1 rfl; clear hx hb1 hcv hpo d0 d1 z2; go_wp2_with fail; refine (slcO_t _ HPO.out HAV.out HCV).mono ?_; rintro e w3 ⟨rfl, hb⟩; have D2 := below_step N2 hb; replace bQ := bQ.keep hb; replace bG := bG.keep D2; replace bA := bA.keep D2; replace hB := below_step hB D2; clear hb D2 N2 q0 q1 c0 c1 r0 g1; have q0 := bQ.c 0 rfl; have q1 := bQ.c 1 rfl; have e0 := bG.c 0 rfl; have e1 := bG.c 1 rfl; have f0 := bG.f 0 rfl; have f1 := bG.f 1 rfl; have bS := (bG.set 0 (.int .i64 u)).set 1 (.int .i64 t); have bT := (bA.far (o := 0) (u := .int .i64 u) hAG).far (o := 1) (u := .int .i64 t) hAG; have hBS := (hB.setCell (p := ⟨G, 0, none⟩) hwG (.int .i64 u)).setCell (p := ⟨G, 1, none⟩) hwG (.int .i64 t); have HSS := Lib.hid (And.intro bS (And.intro bT hBS)); clear bS bT hBS bQ hen; cases cv
         ·have HE2 : Hid (encO (bstepO x s (u, t)) = (ea, en)) := Lib.hid (by rw [HST.out.2.1]; rfl)
          go_wp2
          go_roundw
          case rel => exact ⟨j + 1, by omega, by go_num, _, HST.out.1, HST.out.2.2, by rw [HE2.out]; exact bG, bA, hB⟩
          case measure => simp [intOf]; omega
         ·by_cases hlen : en < t
          ·have HE2 : Hid (encO (bstepO x s (u, t)) = (u, t)) := Lib.hid (by rw [HST.out.2.1]; simp [hlen])
           go_wp2
           go_roundw
           case rel => exact ⟨j + 1, by omega, by go_num, _, HST.out.1, HST.out.2.2, by rw [HE2.out]; exact HSS.out.1, HSS.out.2.1, HSS.out.2.2⟩
           case measure => simp [intOf]; omega
          ·have HE2 : Hid (encO (bstepO x s (u, t)) = (ea, en)) := Lib.hid (by rw [HST.out.2.1]; simp [hlen])
           go_wp2
           go_roundw
           case rel => exact ⟨j + 1, by omega, by go_num, _, HST.out.1, HST.out.2.2, by rw [HE2.out]; exact bG, bA, hB⟩
           case measure => simp [intOf]; omega
        ·have hjm : j = m := by omega
         subst hjm; have HB := Lib.hid (HX.out s (by rw [show N.own = N.own.take j by rw [HM.out, List.take_length]]; exact hb1)); clear hb1; go_wp2
         go_roundw
         case rel => exact ⟨k + 1, by omega, by go_num, s, HB.out, hok, bG, bA, hB⟩
         case measure => simp [intOf]; omega
      ·have hkn : k = n := by omega
       subst hkn; obtain ⟨⟨pa, pn⟩, f⟩ := s0; have hF0 : bestF F x = ((pa, pn), f) := by rw [← hb0]; unfold bestF ownsK; rw [List.take_of_length_le (by rw [← HN.out]; exact Nat.le_refl _)]
       have hcond : (fsB F && (inB node 0 ((F.nodes.length : Int) - 1) && addrB x)) = true := by
        rw [HG.out, HAV.out, ← HN.out, show inB node 0 ((k : Int) - 1) = true by unfold inB; exact decide_eq_true (by omega)]; rfl
       clear hb0 hcN; cases f
       ·have HF : Hid (hopsS F node x = -1) := Lib.hid (by unfold hopsS; rw [hcond, hF0]; rfl)
        have e1 : Bl wr G [.int .i64 0, .int .i64 (-1)] := bG; have g1 := e1.c 1 rfl; clear hF0 hcond bG e1; go_wp2
        go_ret
        exact ⟨ret_int HF.out.symm, hB⟩
       ·obtain ⟨kn, hkn2⟩ := Int.eq_ofNat_of_zero_le (show 0 ≤ node by omega)
        have HF : Hid (hopsS F node x = farN F (pa, pn) k kn) := Lib.hid (by unfold hopsS; rw [hcond, hF0, ← HN.out, hkn2]; rfl); have hpn : 0 ≤ pn := hok0 rfl; have hpn2 : ¬ pn < 0 := by omega
        have e1 : Bl wr G [.int .i64 pa, .int .i64 pn] := bG; have g0 := e1.c 0 rfl; have g1 := e1.c 1 rfl; have a1 := bA.c 1 rfl; have a2 := bA.c 2 rfl; clear hF0 hcond bG e1 hok0; rw [hkn2] at h0 h1 ⊢; clear hkn2; have hkI : (kn : Int) < (k : Int) := by omega
        have hkN : kn < k := by omega
        go_wp2_with fail; clear g0 g1 a1 a2 r0; refine (sfar_any _ _ F pa pn wr (HRF.out.keep hB) (by rw [← HN.out]; exact hn8) hl1 (by rw [← HN.out]; exact HLK.out)).mono ?_; rw [← HN.out]; rintro e w4 ⟨⟨D, rfl, bD⟩, hb⟩; have hB4 := below_step hB hb; have dk := bD.c kn (cellsF_at _ hkN); clear hb bD; go_wp2
        go_ret
        exact ⟨ret_int HF.out.symm, hB4⟩
end Go.Proofs.YtbcmoofpgffbhabGreat
namespace Go.Proofs.YtbcmoofpgffbhabGreat
open Go.ChangeShapes Go.WideShapes Go.ChangeAt Go.RowKit Go.BigFrame Go.Joins
set_option linter.unusedVariables false
set_option maxRecDepth 100000
set_option linter.unusedSimpArgs false
set_option maxRecDepth 100000

def edgT (L : List Lk) : List (Nat × Nat) := (L.filter fun x => x.up).map fun x => (x.a.toNat, x.b.toNat)
def ownS (F : Fb) (p : Int × Int) : Nat → Prop := fun i => i < F.nodes.length ∧ p ∈ (F.nodes.getD i n0).own
theorem FarOk.congr {E : List (Nat × Nat)} {S : Nat → Prop} {N j : Nat} {A B : Nat → Nat → Prop} {far : Nat → Int} (h : FarOk E S N j A far) (hab : ∀ u v, A u v ↔ B u v) : FarOk E S N j B far := by
 have : A = B := funext fun u => funext fun v => propext (hab u v)
 rw [← this]
 exact h
theorem edgT_snoc (L : List Lk) (x : Lk) : edgT (L ++ [x]) = edgT L ++ if x.up = true then [(x.a.toNat, x.b.toNat)] else [] := by
 unfold edgT; rw [List.filter_append, List.map_append]; cases h : x.up <;> simp [h]
def LkIn (N : Nat) (L : List Lk) : Prop := ∀ x ∈ L, 0 ≤ x.a ∧ x.a < N ∧ 0 ≤ x.b ∧ x.b < N
theorem lvl_ok {E : List (Nat × Nat)} {S : Nat → Prop} {N j : Nat} {L : List Lk} {far : Nat → Int} (hL : LkIn N L) (h : FarOk E S N j (fun _ _ => False) far) : ∀ i, i ≤ L.length → FarOk E S N j (fun u v => (u, v) ∈ edgT (L.take i) ∨ (v, u) ∈ edgT (L.take i)) (lvl j L far i)
 | 0, _ => h.congr fun u v => by simp [edgT]
 | i + 1, hi => by
  have ih := lvl_ok hL h i (by omega); have hx : L.getD i l0 = L[i] := by simp [List.getD, show i < L.length by omega]
  have hm := hL L[i] (List.getElem_mem _); rw [lvl, hx, List.take_succ_eq_append_getElem (by omega), edgT_snoc]; unfold lstep; cases hu : L[i].up
  ·rw [if_neg (by simp)]
   exact ih.congr fun u v => by simp
  ·rw [if_pos rfl]
   have h1 := ih.step (a := L[i].a.toNat) (b := L[i].b.toNat) (by omega) (by omega); have h2 := h1.step (a := L[i].b.toNat) (b := L[i].a.toNat) (by omega) (by omega); refine h2.congr fun u v => ?_
   simp only [if_true, List.mem_append, List.mem_singleton, Prod.mk.injEq]
   constructor
   ·rintro ((h | h) | h)
    ·exact h.elim (fun q => .inl (.inl q)) (fun q => .inr (.inl q))
    ·exact .inl (.inr h)
    ·exact .inr (.inr ⟨h.2, h.1⟩)
   ·rintro ((h | h) | (h | h))
    ·exact .inl (.inl (.inl h))
    ·exact .inl (.inr h)
    ·exact .inl (.inl (.inr h))
    ·exact .inr ⟨h.2, h.1⟩
theorem farN_ok {F : Fb} {p : Int × Int} (hL : LkIn F.nodes.length F.links) : ∀ j, FarOk (edgT F.links) (ownS F p) F.nodes.length j (fun _ _ => False) (farN F p j)
 | 0 => FarOk.start fun v hv => by
  unfold farN farS ownS; rw [if_pos hv]
  exact ⟨fun q => if_pos q.2, fun q => if_neg fun r => q ⟨hv, r⟩⟩
 | j + 1 => by
  have h := lvl_ok hL (farN_ok (p := p) hL j) F.links.length (Nat.le_refl _); rw [List.take_length] at h
  exact h.level
theorem hstep_ge {j a b : Nat} {far : Nat → Int} (h : ∀ v, -1 ≤ far v) (v : Nat) : -1 ≤ hstep j far a b v := by
 unfold hstep
 split
 ·omega
 ·exact h v
theorem lvl_ge {j : Nat} {L : List Lk} {far : Nat → Int} (h : ∀ v, -1 ≤ far v) : ∀ i v, -1 ≤ lvl j L far i v
 | 0, v => h v
 | i + 1, v => by
  have ih := lvl_ge (j := j) (L := L) h i; rw [lvl]; unfold lstep
  split
  ·exact hstep_ge (hstep_ge ih) v
  ·exact ih v
theorem farN_ge {F : Fb} {p : Int × Int} : ∀ j v, -1 ≤ farN F p j v
 | 0, v => by
  unfold farN farS
  split
  ·split <;> omega
  ·omega
 | j + 1, v => lvl_ge (farN_ge j) _ v
theorem sprN_iff {r : Nat → Bool} {U : List Wy} {v : Nat} : ∀ j, j ≤ U.length → (sprN r U j v = true ↔ r v = true ∨ ∃ i, i < j ∧ r (U.getD i y0).fn.toNat = true ∧ v = (U.getD i y0).tn.toNat)
 | 0, _ => by
  constructor
  ·intro h; exact .inl h
  ·rintro (h | ⟨i, hi, -⟩)
   ·exact h
   ·exact absurd hi (by omega)
 | j + 1, hj => by
  have ih := sprN_iff (r := r) (U := U) (v := v) j (by omega); rw [sprN]
  by_cases hr : r (U.getD j y0).fn.toNat = true
  ·rw [if_pos hr]
   unfold upd8; rw [Bool.or_eq_true, ih, decide_eq_true_iff]
   constructor
   ·rintro ((h | ⟨i, hi, h⟩) | h)
    ·exact .inl h
    ·exact .inr ⟨i, by omega, h⟩
    ·exact .inr ⟨j, by omega, hr, h⟩
   ·rintro (h | ⟨i, hi, h1, h2⟩)
    ·exact .inl (.inl h)
    ·by_cases e : i = j
     ·subst e; exact .inr h2
     ·exact .inl (.inr ⟨i, by omega, h1, h2⟩)
  ·rw [if_neg hr, ih]
   constructor
   ·rintro (h | ⟨i, hi, h⟩)
    ·exact .inl h
    ·exact .inr ⟨i, by omega, h⟩
   ·rintro (h | ⟨i, hi, h1, h2⟩)
    ·exact .inl h
    ·by_cases e : i = j
     ·subst e; exact absurd h1 hr
     ·exact .inr ⟨i, by omega, h1, h2⟩
theorem edg_way {F : Fb} {u v : Nat} : (∃ y ∈ upsF F, u = y.fn.toNat ∧ v = y.tn.toNat) ↔ ((u, v) ∈ edgT F.links ∨ (v, u) ∈ edgT F.links) := by
 unfold upsF edgT; simp only [List.mem_filter, List.mem_map, Prod.mk.injEq, waysL, List.mem_flatMap, waysOf, List.mem_cons, List.not_mem_nil, or_false]
 constructor
 ·rintro ⟨y, ⟨⟨x, hx, rfl | rfl⟩, hu⟩, h1, h2⟩
  ·exact .inl ⟨x, ⟨hx, hu⟩, h1.symm, h2.symm⟩
  ·exact .inr ⟨x, ⟨hx, hu⟩, h2.symm, h1.symm⟩
 ·rintro (⟨x, ⟨hx, hu⟩, h1, h2⟩ | ⟨x, ⟨hx, hu⟩, h1, h2⟩)
  ·exact ⟨_, ⟨⟨x, hx, .inl rfl⟩, hu⟩, h1.symm, h2.symm⟩
  ·exact ⟨_, ⟨⟨x, hx, .inr rfl⟩, hu⟩, h2.symm, h1.symm⟩
theorem sprF_iff {F : Fb} {r : Nat → Bool} {v : Nat} : sprF F r v = true ↔ r v = true ∨ ∃ u, ((u, v) ∈ edgT F.links ∨ (v, u) ∈ edgT F.links) ∧ r u = true := by
 unfold sprF; rw [sprN_iff _ (Nat.le_refl _)]
 constructor
 ·rintro (h | ⟨i, hi, h1, h2⟩)
  ·exact .inl h
  ·refine .inr ⟨_, edg_way.1 ⟨(upsF F).getD i y0, by simp [List.getD, hi], rfl, h2⟩, h1⟩
 ·rintro (h | ⟨u, hu, h1⟩)
  ·exact .inl h
  ·obtain ⟨y, hy, e1, e2⟩ := edg_way.2 hu
   obtain ⟨i, hi, rfl⟩ := List.mem_iff_getElem.1 hy; refine .inr ⟨i, hi, ?_, ?_⟩
   ·rw [show (upsF F).getD i y0 = (upsF F)[i] by simp [List.getD, hi], ← e1]; exact h1
   ·rw [show (upsF F).getD i y0 = (upsF F)[i] by simp [List.getD, hi]]; exact e2
theorem itr_lay {F : Fb} {kn : Nat} : ∀ {k v : Nat}, itrF F (fun v => decide (v = kn)) k v = true ↔ Lay (edgT F.links) (fun y => y = kn) k v
 | 0, v => by unfold itrF Lay; rw [decide_eq_true_iff]
 | k + 1, v => by
  rw [itrF, sprF_iff]
  show _ ↔ (Lay _ _ k v ∨ ∃ u, _ ∧ Lay _ _ k u)
  rw [itr_lay (k := k) (v := v)]
  constructor
  ·rintro (h | ⟨u, hu, h⟩)
   ·exact .inl h
   ·exact .inr ⟨u, hu, itr_lay.1 h⟩
  ·rintro (h | ⟨u, hu, h⟩)
   ·exact .inl h
   ·exact .inr ⟨u, hu, itr_lay.2 h⟩
theorem reach_iff {F : Fb} {r : Nat → Bool} {p : Int × Int} : reachB F r p = true ↔ ∃ i, ownS F p i ∧ r i = true := by
 unfold reachB ownS ownsP; rw [List.any_eq_true]
 constructor
 ·rintro ⟨i, hi, h⟩
  rw [Bool.and_eq_true, List.any_eq_true] at h; obtain ⟨h1, q, hq, h2⟩ := h; have h2 := of_decide_eq_true h2; refine ⟨i, ⟨List.mem_range.1 hi, ?_⟩, h1⟩; rw [show p = q from Prod.ext h2.1 h2.2]
  exact hq
 ·rintro ⟨i, ⟨hi, hp⟩, h1⟩
  refine ⟨i, List.mem_range.2 hi, ?_⟩; rw [Bool.and_eq_true, List.any_eq_true]
  exact ⟨h1, p, hp, decide_eq_true ⟨rfl, rfl⟩⟩
theorem reach_lay {F : Fb} {p : Int × Int} {kn k : Nat} : reachB F (itrF F (fun v => decide (v = kn)) k) p = true ↔ Lay (edgT F.links) (ownS F p) k kn := by
 rw [reach_iff, Lay.back]
 constructor
 ·rintro ⟨i, hi, h⟩; exact ⟨i, hi, itr_lay.1 h⟩
 ·rintro ⟨i, hi, h⟩; exact ⟨i, hi, itr_lay.2 h⟩
theorem edg_in {F : Fb} (hL : LkIn F.nodes.length F.links) : ∀ u v, (u, v) ∈ edgT F.links → u < F.nodes.length ∧ v < F.nodes.length := by
 intro u v h; unfold edgT at h; obtain ⟨x, hx, e⟩ := List.mem_map.1 h; have := hL x (List.mem_filter.1 hx).1
 injection e with e1 e2
 omega
/-- the heart: the program's first step is the model's distance -/
theorem hop_same {F : Fb} {p : Int × Int} {kn : Nat} (hL : LkIn F.nodes.length F.links) (hN : F.nodes.length ≤ 8) (hk : kn < F.nodes.length) :
  (match hopK F (fun v => decide (v = kn)) p 8 with | some j => (j : Int) | none => -1) = farN F p F.nodes.length kn := by
 obtain ⟨h1, h2, h3⟩ := farN_ok (p := p) hL F.nodes.length kn hk
 by_cases hex : ∃ k, Lay (edgT F.links) (ownS F p) k kn
 ·obtain ⟨k, hl⟩ := hex
  have hm := Lay.most (edg_in hL) (fun v hv => hv.1) hl; obtain ⟨d, hd, hD⟩ := Dst.of_lay hm; rw [(h1 d (by omega)).2 hD]
  rw [hopK_at (k := d) (by omega) (fun i hi => by
   cases hb : reachB F (itrF F (fun v => decide (v = kn)) i) p with
   | false => rfl
   | true => exact absurd (reach_lay.1 hb) (hD.2 i hi)) (reach_lay.2 hD.1)]
 ·have hn : ∀ k, ¬ Lay (edgT F.links) (ownS F p) k kn := fun k q => hex ⟨k, q⟩
  have hneg := h3.2 ⟨hn _, fun q => q.elim fun u hu => hu.1⟩; have := farN_ge (F := F) (p := p) F.nodes.length kn
  rw [hopK_none fun i _ => by
   cases hb : reachB F (itrF F (fun v => decide (v = kn)) i) p with
   | false => rfl
   | true => exact absurd (reach_lay.1 hb) (hn i)]
  show (-1 : Int) = _
  omega
end Go.Proofs.YtbcmoofpgffbhabGreat
namespace Go.Proofs.YtbcmoofpgffbhabGreat
open Go.ChangeShapes Go.WideShapes Go.ChangeAt Go.RowKit Go.BigFrame Go.Joins
set_option linter.unusedVariables false
set_option maxRecDepth 100000
set_option linter.unusedSimpArgs false
set_option maxRecDepth 100000

theorem fb_facts {F : Fb} (h : fbB F = true) : F.nodes.length ≤ 8 ∧ F.links.length ≤ 12 ∧ LkIn F.nodes.length F.links ∧ (∀ y ∈ upsF F, 0 ≤ y.fn ∧ y.fn < 8 ∧ 0 ≤ y.tn ∧ y.tn < 8) ∧ ∀ i, i < F.nodes.length → ∀ q ∈ (F.nodes.getD i n0).own, pokB q.1 q.2 = true := by
 unfold fbB at h; simp only [Bool.and_eq_true, decide_eq_true_eq, List.all_eq_true] at h; obtain ⟨h1, h2, -, h4, h5, -⟩ := h
 have hn : F.nodes.length ≤ 8 := by
  unfold inB at h1; have := of_decide_eq_true h1
  omega
 have hw : ∀ y ∈ waysL F.links, 0 ≤ y.fn ∧ y.fn < F.nodes.length := fun y hy => by
  have q := h5 y hy; unfold wayB endB inB at q; simp only [Bool.and_eq_true, decide_eq_true_eq] at q
  omega
 have hL : LkIn F.nodes.length F.links := fun x hx => by
  have q1 := hw ⟨x.a, x.ai, x.b, x.bi, x.up, x.ab⟩ (List.mem_flatMap.2 ⟨x, hx, by simp [waysOf]⟩); have q2 := hw ⟨x.b, x.bi, x.a, x.ai, x.up, x.ba⟩ (List.mem_flatMap.2 ⟨x, hx, by simp [waysOf]⟩)
  dsimp only at q1 q2
  omega
 refine ⟨hn, h4, hL, fun y hy => ?_, fun i hi q hq => ?_⟩
 ·obtain ⟨x, hx, hy2⟩ := List.mem_flatMap.1 (List.mem_filter.1 hy).1
  have := hL x hx; simp only [waysOf, List.mem_cons, List.not_mem_nil, or_false] at hy2
  rcases hy2 with rfl | rfl
  ·dsimp only; omega
  ·dsimp only; omega
 ·have hm : F.nodes.getD i n0 ∈ F.nodes := by simp [List.getD, hi]
  have q1 := h2 _ hm; unfold ndB at q1; simp only [Bool.and_eq_true] at q1; have q2 := q1.2.1.2; unfold pfxB at q2; have q3 := (of_decide_eq_true q2).1; obtain ⟨j, hj, rfl⟩ := List.mem_iff_getElem.1 hq
  have key : ∀ (l : List (Int × Int)) (hj : j < l.length), okAt l j → pokB l[j].1 l[j].2 = true := fun l hj q => by
   unfold okAt at q
   simpa [List.getD, hj] using q
  exact key _ hj (q3 j hj)
theorem best_none {F : Fb} {x : Int} (h : addrB x = false) : bestF F x = ((0, 0), false) := by
 unfold bestF
 have key : ∀ (l : List (Int × Int)) s, bestO x l s = s := fun l => by
  induction l with
  | nil => intro s; rfl
  | cons q l ih =>
   intro s
   have e : bstepO x s q = s := by
    unfold bstepO covB; rw [h]
    simp
   show bestO x l (bstepO x s q) = s
   rw [e]
   exact ih s
 exact key _ _
theorem hops_eq (F : Fb) (node x : Int) : hopsI F node x = hopsS F node x := by
 unfold hopsI hopsS; rw [fsB_eq]; cases hf : fbB F
 ·rw [if_neg (by unfold okM; rw [hf]; simp), if_neg (by simp)]
 ·obtain ⟨hn, -, hL, -, -⟩ := fb_facts hf
  cases hi : inB node 0 ((F.nodes.length : Int) - 1)
  ·rw [if_neg (by unfold okM; rw [hf, hi]; simp), if_neg (by simp)]
  ·rw [if_pos (by unfold okM; rw [hf, hi]; rfl)]
   have hi2 : 0 ≤ node ∧ node ≤ (F.nodes.length : Int) - 1 := by
    unfold inB at hi
    exact of_decide_eq_true hi
   cases ha : addrB x
   ·rw [if_neg (show ¬ (true && (true && false)) = true by simp), best_none ha]
    rfl
   ·rw [if_pos (show (true && (true && true)) = true from rfl)]
    by_cases hb : (bestF F x).2 = true
    ·rw [if_pos hb, if_pos hb]
     exact hop_same hL hn (by omega)
    ·rw [if_neg hb, if_neg hb]
end Go.Proofs.YtbcmoofpgffbhabGreat
