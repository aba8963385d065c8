/-
  AttrCmp, of the program and of the model. Conditions: those in each contract.
  NodeOk of the model. Conditions: those in each contract.
  NodeOk of the model. Conditions: those in each contract.
  Words for the laws on switches. Conditions: those in each statement.
 Copies of switches and NodeDrain, of the program and of the model. Conditions: those in each contract.
 Words for the laws on functions that answer a switch. Conditions: those in each statement.
  Lists of one's own that grow; copies of tables and switches as memory of one's own. Conditions: those in each contract.
  Copies of lists of messages, of the program. Conditions: those in each contract.
  Copies of fabrics, of the program. Conditions: those in each contract.
  Copies of messages and of lists of them, of the model. Conditions: those in each contract.
  Copies of fabrics, of the model. Conditions: those in each contract.
  The directions of a link, and of all links of a fabric: of the program. Conditions: those in each contract.
-/
import Derived.Test.YtbcmoofpgffbhabGreatHPf
import Derived.Test.YtbcmoofpgffbhabGreatHPc
import Derived.Deep.RegionHeld
import Derived.Test.YtbcmoofpgffbhabGreatHPe
import Derived.Test.YtbcmoofpgffbhabGreatHPb
import Derived.Deep.Cut
import Derived.Deep.CutRange
namespace Go.Proofs.YtbcmoofpgffbhabGreat
open Go.ChangeShapes Go.WideShapes Go.ChangeAt Go.RowKit Go.BigFrame Go.Joins
set_option linter.unusedVariables false
set_option maxRecDepth 100000
set_option maxRecDepth 100000

/-- the first that is not zero -/
def or4 (a b c d : Int) : Int := if a ≠ 0 then a else if b ≠ 0 then b else if c ≠ 0 then c else d
theorem sl2cmp_any (pa ca qa da : Option Addr) (pd cd qd dd : Nat) (p c q d : List Int) (pr bw pr' bw' : Int) (w : World) (hp : RdI w (.slice pa p.length pd) p) (hc : RdI w (.slice ca c.length cd) c) (hq : RdI w (.slice qa q.length qd) q) (hd : RdI w (.slice da d.length dd) d) (hpl : p.length ≤ 8) (hql : q.length ≤ 8) :
  Calls Tryz.prog 117 #[.agg #[.slice pa p.length pd, .int .i64 pr, .slice ca c.length cd, .int .i64 bw], .agg #[.slice qa q.length qd, .int .i64 pr', .slice da d.length dd, .int .i64 bw']] w fun e w' => e = .returned (.int .i64 (or4 (rk pr p.length pr' q.length) (lx p q) (lx c d) (nm bw bw'))) ∧ Below w.heap.size w w' := by
 have bA := Bx.new w (.slice pa p.length pd) (.int .i64 pr) (.slice ca c.length cd) (.int .i64 bw) 50 w.heap.size rfl; have z0 : (w.alloc (.cells #[.slice pa p.length pd, .int .i64 pr, .slice ca c.length cd, .int .i64 bw] 50)).heap.size = w.heap.size + 1 := by simp
 have bB := Bx.new (w.alloc (.cells #[.slice pa p.length pd, .int .i64 pr, .slice ca c.length cd, .int .i64 bw] 50)) (.slice qa q.length qd) (.int .i64 pr') (.slice da d.length dd) (.int .i64 bw') 50 (w.heap.size + 1) z0.symm; replace bA := bA.alloc (.cells #[.slice qa q.length qd, .int .i64 pr', .slice da d.length dd, .int .i64 bw'] 50); have B1 : Below w.heap.size w ((w.alloc (.cells #[.slice pa p.length pd, .int .i64 pr, .slice ca c.length cd, .int .i64 bw] 50)).alloc (.cells #[.slice qa q.length qd, .int .i64 pr', .slice da d.length dd, .int .i64 bw'] 50)) := ((Below.refl _ _).alloc (Nat.le_refl _) _).alloc (by rw [z0]; omega) _; clear z0; replace hp := hp.keep B1; replace hc := hc.keep B1; replace hq := hq.keep B1; replace hd := hd.keep B1; obtain ⟨z0, e0⟩ : ∃ z, rk pr p.length pr' q.length = z := ⟨_, rfl⟩; rw [e0]; have H0 := Lib.hid e0; clear e0; obtain ⟨z1, e1⟩ : ∃ z, lx p q = z := ⟨_, rfl⟩; rw [e1]; have H1 := Lib.hid e1; clear e1; obtain ⟨z2, e2⟩ : ∃ z, lx c d = z := ⟨_, rfl⟩; rw [e2]; have H2 := Lib.hid e2; clear e2
 by_cases h0 : z0 = 0
 ·subst h0
  by_cases h1 : z1 = 0
  ·subst h1
   by_cases h2 : z2 = 0
   ·subst h2
    rw [show or4 0 0 0 (nm bw bw') = nm bw bw' by simp [or4]]
    go_enter Tryz.func117, Tryz.ntmps117
    have kA0 := bA.c0; have kA1 := bA.c1; have kA2 := bA.c2; have kA3 := bA.c3; have kB0 := bB.c0; have kB1 := bB.c1; have kB2 := bB.c2; have kB3 := bB.c3; go_wp2_with fail; clear kA0 kA1 kA2 kA3 kB0 kB1 kB2 kB3; refine (srank_any pa ca qa da pd cd qd dd p c q d pr bw pr' bw' _ hpl hql).mono ?_; rintro e w1 ⟨rfl, hb⟩; replace bA := bA.keep hb; replace bB := bB.keep hb; replace hp := hp.keep hb; replace hc := hc.keep hb; replace hq := hq.keep hb; replace hd := hd.keep hb; replace B1 := below_step B1 hb; clear hb; rw [H0.out]; have kA0 := bA.c0; have kA1 := bA.c1; have kA2 := bA.c2; have kA3 := bA.c3; have kB0 := bB.c0; have kB1 := bB.c1; have kB2 := bB.c2; have kB3 := bB.c3; go_wp2_with fail; clear kA0 kA1 kA2 kA3 kB0 kB1 kB2 kB3; refine (slist_any _ _ p q _ hp hq).mono ?_; rintro e w2 ⟨rfl, hb⟩; replace bA := bA.keep hb; replace bB := bB.keep hb; replace hp := hp.keep hb; replace hc := hc.keep hb; replace hq := hq.keep hb; replace hd := hd.keep hb; replace B1 := below_step B1 hb; clear hb; rw [H1.out]; have kA0 := bA.c0; have kA1 := bA.c1; have kA2 := bA.c2; have kA3 := bA.c3; have kB0 := bB.c0; have kB1 := bB.c1; have kB2 := bB.c2; have kB3 := bB.c3; go_wp2_with fail; clear kA0 kA1 kA2 kA3 kB0 kB1 kB2 kB3; refine (slist_any _ _ c d _ hc hd).mono ?_; rintro e w3 ⟨rfl, hb⟩; replace bA := bA.keep hb; replace bB := bB.keep hb; replace hp := hp.keep hb; replace hc := hc.keep hb; replace hq := hq.keep hb; replace hd := hd.keep hb; replace B1 := below_step B1 hb; clear hb; rw [H2.out]; have kA0 := bA.c0; have kA1 := bA.c1; have kA2 := bA.c2; have kA3 := bA.c3; have kB0 := bB.c0; have kB1 := bB.c1; have kB2 := bB.c2; have kB3 := bB.c3; go_wp2_with fail; clear kA0 kA1 kA2 kA3 kB0 kB1 kB2 kB3; refine (snum_any _ _ _).mono ?_; rintro e w4 ⟨rfl, rfl⟩; go_wp2
    go_ret
    exact ⟨rfl, B1⟩
   ·have n2 : (z2 != 0) = true := by simp [h2]
    rw [show or4 0 0 z2 (nm bw bw') = z2 by simp [or4, h2]]
    go_enter Tryz.func117, Tryz.ntmps117
    have kA0 := bA.c0; have kA1 := bA.c1; have kA2 := bA.c2; have kA3 := bA.c3; have kB0 := bB.c0; have kB1 := bB.c1; have kB2 := bB.c2; have kB3 := bB.c3; go_wp2_with fail; clear kA0 kA1 kA2 kA3 kB0 kB1 kB2 kB3; refine (srank_any pa ca qa da pd cd qd dd p c q d pr bw pr' bw' _ hpl hql).mono ?_; rintro e w1 ⟨rfl, hb⟩; replace bA := bA.keep hb; replace bB := bB.keep hb; replace hp := hp.keep hb; replace hc := hc.keep hb; replace hq := hq.keep hb; replace hd := hd.keep hb; replace B1 := below_step B1 hb; clear hb; rw [H0.out]; have kA0 := bA.c0; have kA1 := bA.c1; have kA2 := bA.c2; have kA3 := bA.c3; have kB0 := bB.c0; have kB1 := bB.c1; have kB2 := bB.c2; have kB3 := bB.c3; go_wp2_with fail; clear kA0 kA1 kA2 kA3 kB0 kB1 kB2 kB3; refine (slist_any _ _ p q _ hp hq).mono ?_; rintro e w2 ⟨rfl, hb⟩; replace bA := bA.keep hb; replace bB := bB.keep hb; replace hp := hp.keep hb; replace hc := hc.keep hb; replace hq := hq.keep hb; replace hd := hd.keep hb; replace B1 := below_step B1 hb; clear hb; rw [H1.out]; have kA0 := bA.c0; have kA1 := bA.c1; have kA2 := bA.c2; have kA3 := bA.c3; have kB0 := bB.c0; have kB1 := bB.c1; have kB2 := bB.c2; have kB3 := bB.c3; go_wp2_with fail; clear kA0 kA1 kA2 kA3 kB0 kB1 kB2 kB3; refine (slist_any _ _ c d _ hc hd).mono ?_; rintro e w3 ⟨rfl, hb⟩; replace bA := bA.keep hb; replace bB := bB.keep hb; replace hp := hp.keep hb; replace hc := hc.keep hb; replace hq := hq.keep hb; replace hd := hd.keep hb; replace B1 := below_step B1 hb; clear hb; rw [H2.out]; go_wp2
    go_ret
    exact ⟨rfl, B1⟩
  ·have n1 : (z1 != 0) = true := by simp [h1]
   rw [show or4 0 z1 z2 (nm bw bw') = z1 by simp [or4, h1]]
   go_enter Tryz.func117, Tryz.ntmps117
   have kA0 := bA.c0; have kA1 := bA.c1; have kA2 := bA.c2; have kA3 := bA.c3; have kB0 := bB.c0; have kB1 := bB.c1; have kB2 := bB.c2; have kB3 := bB.c3; go_wp2_with fail; clear kA0 kA1 kA2 kA3 kB0 kB1 kB2 kB3; refine (srank_any pa ca qa da pd cd qd dd p c q d pr bw pr' bw' _ hpl hql).mono ?_; rintro e w1 ⟨rfl, hb⟩; replace bA := bA.keep hb; replace bB := bB.keep hb; replace hp := hp.keep hb; replace hc := hc.keep hb; replace hq := hq.keep hb; replace hd := hd.keep hb; replace B1 := below_step B1 hb; clear hb; rw [H0.out]; have kA0 := bA.c0; have kA1 := bA.c1; have kA2 := bA.c2; have kA3 := bA.c3; have kB0 := bB.c0; have kB1 := bB.c1; have kB2 := bB.c2; have kB3 := bB.c3; go_wp2_with fail; clear kA0 kA1 kA2 kA3 kB0 kB1 kB2 kB3; refine (slist_any _ _ p q _ hp hq).mono ?_; rintro e w2 ⟨rfl, hb⟩; replace bA := bA.keep hb; replace bB := bB.keep hb; replace hp := hp.keep hb; replace hc := hc.keep hb; replace hq := hq.keep hb; replace hd := hd.keep hb; replace B1 := below_step B1 hb; clear hb; rw [H1.out]; go_wp2
   go_ret
   exact ⟨rfl, B1⟩
 ·have n0 : (z0 != 0) = true := by simp [h0]
  rw [show or4 z0 z1 z2 (nm bw bw') = z0 by simp [or4, h0]]
  go_enter Tryz.func117, Tryz.ntmps117
  have kA0 := bA.c0; have kA1 := bA.c1; have kA2 := bA.c2; have kA3 := bA.c3; have kB0 := bB.c0; have kB1 := bB.c1; have kB2 := bB.c2; have kB3 := bB.c3; go_wp2_with fail; clear kA0 kA1 kA2 kA3 kB0 kB1 kB2 kB3; refine (srank_any pa ca qa da pd cd qd dd p c q d pr bw pr' bw' _ hpl hql).mono ?_; rintro e w1 ⟨rfl, hb⟩; replace bA := bA.keep hb; replace bB := bB.keep hb; replace hp := hp.keep hb; replace hc := hc.keep hb; replace hq := hq.keep hb; replace hd := hd.keep hb; replace B1 := below_step B1 hb; clear hb; rw [H0.out]; go_wp2
  go_ret
  exact ⟨rfl, B1⟩
end Go.Proofs.YtbcmoofpgffbhabGreat
namespace Go.Proofs.YtbcmoofpgffbhabGreat
open Go.ChangeShapes Go.WideShapes Go.ChangeAt Go.RowKit Go.BigFrame Go.Joins
set_option linter.unusedVariables false
set_option maxRecDepth 100000
set_option linter.unusedSimpArgs false
set_option maxRecDepth 100000

theorem smine8_any (ov rv sv : Value) (N : Nd) (w : World) : Calls Tryz.prog 118 #[.agg #[.int .i64 N.an, ov, .int .i64 N.bw, .bool N.dr, rv, sv]] w fun e w' => e = .returned (.agg #[.slice none 0 0, .int .i64 100, .slice none 0 0, .int .i64 N.bw]) ∧ Below w.heap.size w w' := by
 obtain ⟨bA, bR, B0, z⟩ := two w [.int .i64 N.an, ov, .int .i64 N.bw, .bool N.dr, rv, sv] [.slice none 0 0, .int .i64 100, .slice none 0 0, .int .i64 N.bw] 35 50; have a2 := (Bl.new w [.int .i64 N.an, ov, .int .i64 N.bw, .bool N.dr, rv, sv] 35 w.heap.size rfl).c 2 rfl; have e0 := bR.c 0 rfl; have e1 := bR.c 1 rfl; have e2 := bR.c 2 rfl; have e3 := bR.c 3 rfl; clear z
 go_enter Tryz.func118, Tryz.ntmps118
 go_wp2_with fail
 exact bodyPost_ret (v := .agg #[.slice none 0 0, .int .i64 100, .slice none 0 0, .int .i64 N.bw]) (by simp [results, Tryz.results118, go_sem, e0, e1, e2, e3]) rfl
  ⟨rfl, B0⟩
theorem lx_zero8 : ∀ (l m : List Int), lx l m = 0 ↔ l = m
 | [], [] => by simp [lx]
 | [], _ :: _ => by simp [lx]
 | _ :: _, [] => by simp [lx]
 | x :: l, y :: m => by
  rw [lx, List.cons.injEq]
  by_cases h : nm x y = 0
  ·rw [if_pos h, lx_zero8 l m]
   have := (nm_zero x y).1 h
   simp [this]
  ·rw [if_neg h]
   constructor
   ·intro q; exact absurd q h
   ·rintro ⟨q, -⟩; exact absurd ((nm_zero x y).2 q) h
theorem or4_zero8 {p q c d : List Int} {pr pr' bw bw' : Int} : (or4 (rk pr p.length pr' q.length) (lx p q) (lx c d) (nm bw bw') = 0) ↔ sameB p pr c bw q pr' d bw' = true := by
 unfold sameB or4; rw [decide_eq_true_eq]
 by_cases h2 : lx p q = 0
 ·have e2 := (lx_zero8 p q).1 h2
  subst e2
  by_cases h1 : pr = pr'
  ·subst h1
   have : rk pr p.length pr p.length = 0 := by
    unfold rk; rw [if_pos rfl]
    exact (nm_zero _ _).2 rfl
   rw [this, h2]; simp only [ne_eq, not_true_eq_false, if_false]
   by_cases h3 : lx c d = 0
   ·have e3 := (lx_zero8 c d).1 h3
    subst e3; have hz := (lx_zero8 c c).2 rfl
    simp [hz, nm_zero]
   ·have e3 : ¬ c = d := fun q => h3 ((lx_zero8 c d).2 q)
    simp [e3, h3]
  ·have h0 : rk pr p.length pr' p.length ≠ 0 := by
    unfold rk; rw [if_neg h1]; intro q
    exact h1 ((nm_zero _ _).1 q).symm
   rw [if_pos h0]
   simp [h0, h1]
 ·have e2 : ¬ p = q := fun q => h2 ((lx_zero8 _ _).2 q)
  simp only [e2, false_and, iff_false]
  split
  ·assumption
  ·simpa using h2
theorem scmp8_t (pa ca : Option Addr) (pd cd : Nat) (p c : List Int) (pr bw bw' : Int) (r : Int) (w : World) (hp : RdI w (.slice pa p.length pd) p) (hc : RdI w (.slice ca c.length cd) c) (H : Hid (p.length ≤ 8 ∧ or4 (rk pr p.length 100 0) (lx p []) (lx c []) (nm bw bw') = r)) :
  Calls Tryz.prog 117 #[.agg #[.slice pa p.length pd, .int .i64 pr, .slice ca c.length cd, .int .i64 bw], .agg #[.slice none 0 0, .int .i64 100, .slice none 0 0, .int .i64 bw']] w fun e w' => e = .returned (.int .i64 r) ∧ Below w.heap.size w w' :=
 H.out.2 ▸ sl2cmp_any pa ca none none pd cd 0 0 p c [] [] pr bw 100 bw' w hp hc (rdI_nil8 w) (rdI_nil8 w) H.out.1 (by simp)
set_option maxHeartbeats 1000000 in
theorem sgone_any (v : Value) (l : List (Int × Int)) (a0 n0 : Int) (w : World) (h : RdP w v l) :
  Calls Tryz.prog 116 #[v, .agg #[.int .i64 a0, .int .i64 n0]] w fun e w' => e = .returned (.bool (decide ((a0, n0) ∈ l))) ∧ Below w.heap.size w w' := by
 have hm := h.1; obtain ⟨a, c, rfl, hc⟩ := h.el; obtain ⟨n, hn⟩ : ∃ n, n = l.length := ⟨_, rfl⟩; rw [← hn] at hc hm ⊢; have HN := Lib.hid hn; clear h hn; obtain ⟨bP, B0, z⟩ := one w [.int .i64 a0, .int .i64 n0] PT; obtain ⟨V, hV⟩ : ∃ V, V = w.alloc (.cells #[.int .i64 a0, .int .i64 n0] PT) := ⟨_, rfl⟩; rw [← hV] at bP B0; clear z
 go_enter Tryz.func116, Tryz.ntmps116
 go_wp2; rw [← hV]; clear hV
 go_loopw [5] (fun i wr => ∃ k : Nat, k ≤ n ∧ i = .int .i64 k ∧ (∀ j, j < k → l.getD j (0, 0) ≠ (a0, n0)) ∧ Over V wr) (fun i _ => n - (intOf i).toNat)
 case atStart => exact ⟨0, Nat.zero_le _, rfl, fun j hj => by omega, over_refl _⟩
 case round =>
  obtain ⟨k, hk, rfl, ht, hB⟩ := hrel; have HT := Lib.hid ht; clear ht
  by_cases hlt : k < n
  ·have hltI : (k : Int) < (n : Int) := by omega
   obtain ⟨b, o, rfl, d0, d1⟩ := hc k hlt; have e0 := cell_keep (below_step B0 hB) (World.block_lt_of_cell? w _ d0) d0; have e1 := cell_keep (below_step B0 hB) (World.block_lt_of_cell? w _ d1) d1; have e2 := over_cell hB bP.lt (bP.c 0 rfl); have e3 := over_cell hB bP.lt (bP.c 1 rfl); obtain ⟨⟨x, y⟩, hx⟩ : ∃ q, l.getD k (0, 0) = q := ⟨_, rfl⟩; rw [hx] at e0 e1; have HX := Lib.hid hx; clear hx hc d0 d1
   by_cases hxy : x = a0 ∧ y = n0
   ·obtain ⟨rfl, rfl⟩ := hxy
    have hM : decide ((x, y) ∈ l) = true := by
     rw [decide_eq_true_eq, ← HX.out, List.getD_eq_getElem?_getD, List.getElem?_eq_getElem (by rw [← HN.out]; exact hlt)]
     exact List.getElem_mem _
    have HM := Lib.hid hM; clear hM; go_wp2
    go_region
    go_wp2
    go_ret
    exact ⟨ret_bool HM.out.symm, below_step B0 hB.drew⟩
   ·have HT2 : Hid (∀ j, j < k + 1 → l.getD j (0, 0) ≠ (a0, n0)) := Lib.hid fun j hj => by
     by_cases e : j = k
     ·subst e
      rw [HX.out]; intro q
      injection q with q1 q2
      exact hxy ⟨q1, q2⟩
     ·exact HT.out j (by omega)
    by_cases hx : x = a0
    ·have hy : ¬ y = n0 := fun e => hxy ⟨hx, e⟩
     subst hx; clear hxy; go_wp2
     go_region
     go_wp2
     go_roundw
     case rel => exact ⟨k + 1, by omega, by go_num, HT2.out, hB.drew⟩
     case measure => simp [intOf]; omega
    ·clear hxy
     go_wp2
     go_region
     go_wp2
     go_roundw
     case rel => exact ⟨k + 1, by omega, by go_num, HT2.out, hB.drew⟩
     case measure => simp [intOf]; omega
  ·have hkn : k = n := by omega
   have hM : decide ((a0, n0) ∈ l) = false := by
    rw [decide_eq_false_iff_not]; intro q; obtain ⟨i, hi, e⟩ := List.mem_iff_getElem.1 q; refine HT.out i (by rw [hkn, HN.out]; exact hi) ?_; rw [List.getD_eq_getElem?_getD, List.getElem?_eq_getElem hi]
    exact e
   have HM := Lib.hid hM; clear hM hkn hc; go_wp2
   go_ret
   exact ⟨ret_bool HM.out.symm, below_step B0 hB⟩
theorem sgone_t {v : Value} {l : List (Int × Int)} {a0 n0 : Int} {b : Bool} (w : World) (h : RdP w v l) (H : Hid (decide ((a0, n0) ∈ l) = b)) :
  Calls Tryz.prog 116 #[v, .agg #[.int .i64 a0, .int .i64 n0]] w fun e w' => e = .returned (.bool b) ∧ Below w.heap.size w w' := H.out ▸ sgone_any v l a0 n0 w h
theorem nd_iff {N : Nd} (h1 : asB N.an = true) (h2 : (decide ((N.own.length : Int) ≤ 2) && pfxB N.own) = true) (h3 : inB N.bw 0 1000 = true) (h4 : ribB N.rib = true) (h5 : ribB N.sent = true) :
  ndB N = ((N.rib.all (knowM N.an N.bw N.own) && decide (ownN N.rib = N.own.length)) && N.sent.all fun E => sendB E) := by
 have e := know_iff (an := N.an) (bw := N.bw) (rib_ok h4).2.2 (pfx_sorted (by simp only [Bool.and_eq_true] at h2; exact h2.2)) (fun E hE => by obtain ⟨i, hi, q⟩ := mem_get hE; rw [← q]; exact rib_peer h4 i hi); unfold ndB; rw [h1, h2, h3, h4, h5, Bool.true_and, Bool.true_and, Bool.true_and, Bool.true_and, Bool.true_and, ← Bool.and_assoc, ← e]
theorem all_no {L : List Ent} {f : Ent → Bool} {k : Nat} {E : Ent} (hk : k < L.length) (hx : L.getD k e0 = E) (h : f E = false) : L.all f = false := by
 rw [List.all_eq_false]; refine ⟨E, ?_, by rw [h]; simp⟩; rw [← hx, List.getD_eq_getElem?_getD, List.getElem?_eq_getElem hk]
 exact List.getElem_mem _
theorem all_yes {L : List Ent} {f : Ent → Bool} {n : Nat} (hn : n = L.length) (h : ∀ i, i < n → f (L.getD i e0) = true) : L.all f = true := by
 rw [List.all_eq_true]; intro E hE; obtain ⟨i, hi, e⟩ := mem_get hE; rw [← e]
 exact h i (by omega)
theorem ownN_next {L : List Ent} {k : Nat} {E : Ent} (hk : k < L.length) (hx : L.getD k e0 = E) : ownN (L.take (k + 1)) = ownN (L.take k) + (if 0 ≤ E.pe then 0 else 1) := by
 have hg : L[k] = E := by simpa [List.getD, hk] using hx
 unfold ownN; rw [List.take_add_one, List.getElem?_eq_getElem hk, hg, List.filter_append, List.length_append]
 by_cases h : 0 ≤ E.pe <;> simp [h]
theorem ownN_le (L : List Ent) (k : Nat) : ownN (L.take k) ≤ k := by
 unfold ownN; have := List.length_filter_le (fun E : Ent => !decide (0 ≤ E.pe)) (L.take k); rw [List.length_take] at this
 omega
end Go.Proofs.YtbcmoofpgffbhabGreat
namespace Go.Proofs.YtbcmoofpgffbhabGreat
open Go.ChangeShapes Go.WideShapes Go.ChangeAt Go.RowKit Go.BigFrame Go.Joins
set_option linter.unusedVariables false
set_option maxRecDepth 100000
set_option linter.unusedSimpArgs false
set_option maxRecDepth 100000

theorem sha8_t {v : Value} {l : List Int} {x : Int} {b : Bool} (w : World) (h : RdI w v l) (H : Hid (decide (x ∈ l) = b)) : Calls Tryz.prog 115 #[v, .int .i64 x] w fun e w' => e = .returned (.bool b) ∧ Below w.heap.size w w' := H.out ▸ shas_any v l x w h
theorem rdE_at {W : World} {a : Option Addr} {n c : Nat} {L : List Ent} (h : RdE W (.slice a n c) L) (hn : n = L.length) : ∀ i, i < n → ∃ b o, a = some ⟨b, o, none⟩ ∧ EntAt W b (o + i * 7) (L.getD i e0) := by
 obtain ⟨a', c', e, hc⟩ := h.el
 injection e with q1 q2 q3
 subst q1; intro i hi
 exact hc i (by omega)
theorem allNext {L : List Ent} {f : Ent → Bool} {k : Nat} {E : Ent} (h : ∀ j, j < k → f (L.getD j e0) = true) (hx : L.getD k e0 = E) (hE : f E = true) : ∀ j, j < k + 1 → f (L.getD j e0) = true := by
 intro j hj
 by_cases e : j = k
 ·subst e; rw [hx]; exact hE
 ·exact h j (by omega)
set_option maxHeartbeats 8000000 in
theorem sndok_any (ov rv sv : Value) (N : Nd) (w : World) (h : RdN w ov rv sv N) :
  Calls Tryz.prog 43 #[.agg #[.int .i64 N.an, ov, .int .i64 N.bw, .bool N.dr, rv, sv]] w fun e w' => e = .returned (.bool (ndB N)) ∧ Below w.heap.size w w' := by
 obtain ⟨hO, hR, hS⟩ := h; obtain ⟨oa, oc, hov⟩ := hO.len; obtain ⟨ra, rc, hrv⟩ := hR.len; obtain ⟨sa, sc, hsv⟩ := hS.len; obtain ⟨on, hon⟩ : ∃ on, on = N.own.length := ⟨_, rfl⟩; obtain ⟨rn, hrn0⟩ : ∃ rn, rn = N.rib.length := ⟨_, rfl⟩; obtain ⟨sn, hsn⟩ : ∃ sn, sn = N.sent.length := ⟨_, rfl⟩; rw [← hon] at hov; rw [← hrn0] at hrv; rw [← hsn] at hsv; subst hov hrv hsv; have hoB := hO.1; rw [← hon] at hoB; have hRE : ∀ {W : World}, RdE W (.slice ra rn rc) N.rib → ∀ i, i < rn → ∃ b o, ra = some ⟨b, o, none⟩ ∧ EntAt W b (o + i * 7) (N.rib.getD i e0) := fun h i hi => rdE_at h hrn0 i hi
 have hSE : ∀ {W : World}, RdE W (.slice sa sn sc) N.sent → ∀ i, i < sn → ∃ b o, sa = some ⟨b, o, none⟩ ∧ EntAt W b (o + i * 7) (N.sent.getD i e0) := fun h i hi => rdE_at h hsn i hi
 obtain ⟨bA, B0, z⟩ := one w [.int .i64 N.an, .slice oa on oc, .int .i64 N.bw, .bool N.dr, .slice ra rn rc, .slice sa sn sc] 35; replace hO := hO.keep B0; replace hR := hR.keep B0; replace hS := hS.keep B0; have HON := Lib.hid hon; have HRN := Lib.hid hrn0; have HSN := Lib.hid hsn; clear z hon hrn0 hsn; have a0 := bA.c 0 rfl; cases hAA : asB N.an
 ·have HF : Hid (ndB N = false) := Lib.hid (by unfold ndB; rw [hAA]; rfl)
  have HA := Lib.hid hAA; clear hAA
  go_enter Tryz.func43, Tryz.ntmps43
  go_wp2_with fail; refine (sas8 _ HA).mono ?_; rintro e w1 ⟨rfl, rfl⟩; go_wp2
  go_ret
  exact ⟨ret_bool HF.out.symm, B0⟩
 ·have HA := Lib.hid hAA
  clear hAA; cases hOO : (decide ((N.own.length : Int) ≤ 2) && pfxB N.own)
  ·have HF : Hid (ndB N = false) := Lib.hid (by unfold ndB; rw [HA.out, hOO]; rfl)
   cases hGG : (decide ((N.own.length : Int) ≤ 8) && pfxB N.own)
   ·have HG := Lib.hid hGG
    clear hGG hOO
    go_enter Tryz.func43, Tryz.ntmps43
    go_wp2_with fail; refine (sas8 _ HA).mono ?_; rintro e w1 ⟨rfl, rfl⟩; have a1 := bA.c 1 rfl; go_wp2_with fail; clear a1; refine (spfx8 _ hO HG).mono ?_; rintro e w2 ⟨rfl, hb⟩; replace bA := bA.keep hb; replace hO := hO.keep hb; replace hR := hR.keep hb; replace hS := hS.keep hb; replace B0 := below_step B0 hb; clear hb; have a1 := bA.c 1 rfl; have a2 := bA.c 2 rfl; go_wp2
    go_ret
    exact ⟨ret_bool HF.out.symm, B0⟩
   ·have HG := Lib.hid hGG
    have hl2 : (2 : Int) < (on : Int) := by
     rw [HON.out]; simp only [Bool.and_eq_true] at hGG; rw [hGG.2, Bool.and_true, decide_eq_false_iff_not] at hOO
     omega
    clear hGG hOO
    go_enter Tryz.func43, Tryz.ntmps43
    go_wp2_with fail; refine (sas8 _ HA).mono ?_; rintro e w1 ⟨rfl, rfl⟩; have a1 := bA.c 1 rfl; go_wp2_with fail; clear a1; refine (spfx8 _ hO HG).mono ?_; rintro e w2 ⟨rfl, hb⟩; replace bA := bA.keep hb; replace hO := hO.keep hb; replace hR := hR.keep hb; replace hS := hS.keep hb; replace B0 := below_step B0 hb; clear hb; have a1 := bA.c 1 rfl; have a2 := bA.c 2 rfl; go_wp2
    go_ret
    exact ⟨ret_bool HF.out.symm, B0⟩
  ·have HO := Lib.hid hOO
   have hl2 : ¬ (2 : Int) < (on : Int) := by
    rw [HON.out]; simp only [Bool.and_eq_true, decide_eq_true_eq] at hOO
    omega
   have HG : Hid ((decide ((N.own.length : Int) ≤ 8) && pfxB N.own) = true) := Lib.hid (by
    simp only [Bool.and_eq_true, decide_eq_true_eq] at hOO ⊢
    exact ⟨by omega, hOO.2⟩)
   clear hOO; cases hBB : inB N.bw 0 1000
   ·have HF : Hid (ndB N = false) := Lib.hid (by unfold ndB; rw [HA.out, HO.out, hBB]; rfl)
    by_cases hb0 : N.bw < 0
    ·clear hBB
     go_enter Tryz.func43, Tryz.ntmps43
     go_wp2_with fail; refine (sas8 _ HA).mono ?_; rintro e w1 ⟨rfl, rfl⟩; have a1 := bA.c 1 rfl; go_wp2_with fail; clear a1; refine (spfx8 _ hO HG).mono ?_; rintro e w2 ⟨rfl, hb⟩; replace bA := bA.keep hb; replace hO := hO.keep hb; replace hR := hR.keep hb; replace hS := hS.keep hb; replace B0 := below_step B0 hb; clear hb; have a1 := bA.c 1 rfl; have a2 := bA.c 2 rfl; go_wp2
     go_ret
     exact ⟨ret_bool HF.out.symm, B0⟩
    ·have hb1 : 1000 < N.bw := by
      unfold inB at hBB; rw [decide_eq_false_iff_not] at hBB
      omega
     clear hBB
     go_enter Tryz.func43, Tryz.ntmps43
     go_wp2_with fail; refine (sas8 _ HA).mono ?_; rintro e w1 ⟨rfl, rfl⟩; have a1 := bA.c 1 rfl; go_wp2_with fail; clear a1; refine (spfx8 _ hO HG).mono ?_; rintro e w2 ⟨rfl, hb⟩; replace bA := bA.keep hb; replace hO := hO.keep hb; replace hR := hR.keep hb; replace hS := hS.keep hb; replace B0 := below_step B0 hb; clear hb; have a1 := bA.c 1 rfl; have a2 := bA.c 2 rfl; go_wp2
     go_ret
     exact ⟨ret_bool HF.out.symm, B0⟩
   ·have HB := Lib.hid hBB
    have hb0 : ¬ N.bw < 0 := by
     unfold inB at hBB; rw [decide_eq_true_eq] at hBB
     omega
    have hb1 : ¬ 1000 < N.bw := by
     unfold inB at hBB; rw [decide_eq_true_eq] at hBB
     omega
    clear hBB; cases hRR : ribB N.rib
    ·have HF : Hid (ndB N = false) := Lib.hid (by unfold ndB; rw [HA.out, HO.out, HB.out, hRR]; rfl)
     have HR := Lib.hid hRR; clear hRR
     go_enter Tryz.func43, Tryz.ntmps43
     go_wp2_with fail; refine (sas8 _ HA).mono ?_; rintro e w1 ⟨rfl, rfl⟩; have a1 := bA.c 1 rfl; go_wp2_with fail; clear a1; refine (spfx8 _ hO HG).mono ?_; rintro e w2 ⟨rfl, hb⟩; replace bA := bA.keep hb; replace hO := hO.keep hb; replace hR := hR.keep hb; replace hS := hS.keep hb; replace B0 := below_step B0 hb; clear hb; have a1 := bA.c 1 rfl; have a2 := bA.c 2 rfl; have a4 := bA.c 4 rfl; go_wp2_with fail; clear a1 a2 a4; refine (srib_t _ hR HR).mono ?_; rintro e w3 ⟨rfl, hb⟩; replace bA := bA.keep hb; replace hO := hO.keep hb; replace hR := hR.keep hb; replace hS := hS.keep hb; replace B0 := below_step B0 hb; clear hb; go_wp2
     go_ret
     exact ⟨ret_bool HF.out.symm, B0⟩
    ·have HR := Lib.hid hRR
     clear hRR; cases hSS : ribB N.sent
     ·have HF : Hid (ndB N = false) := Lib.hid (by unfold ndB; rw [HA.out, HO.out, HB.out, HR.out, hSS]; rfl)
      have HS := Lib.hid hSS; clear hSS
      go_enter Tryz.func43, Tryz.ntmps43
      go_wp2_with fail; refine (sas8 _ HA).mono ?_; rintro e w1 ⟨rfl, rfl⟩; have a1 := bA.c 1 rfl; go_wp2_with fail; clear a1; refine (spfx8 _ hO HG).mono ?_; rintro e w2 ⟨rfl, hb⟩; replace bA := bA.keep hb; replace hO := hO.keep hb; replace hR := hR.keep hb; replace hS := hS.keep hb; replace B0 := below_step B0 hb; clear hb; have a1 := bA.c 1 rfl; have a2 := bA.c 2 rfl; have a4 := bA.c 4 rfl; go_wp2_with fail; clear a1 a2 a4; refine (srib_t _ hR HR).mono ?_; rintro e w3 ⟨rfl, hb⟩; replace bA := bA.keep hb; replace hO := hO.keep hb; replace hR := hR.keep hb; replace hS := hS.keep hb; replace B0 := below_step B0 hb; clear hb; have a5 := bA.c 5 rfl; go_wp2_with fail; clear a5; refine (srib_t _ hS HS).mono ?_; rintro e w4 ⟨rfl, hb⟩; replace bA := bA.keep hb; replace hO := hO.keep hb; replace hR := hR.keep hb; replace hS := hS.keep hb; replace B0 := below_step B0 hb; clear hb; go_wp2
      go_ret
      exact ⟨ret_bool HF.out.symm, B0⟩
     ·have HS := Lib.hid hSS
      clear hSS
      go_enter Tryz.func43, Tryz.ntmps43
      go_wp2_with fail; refine (sas8 _ HA).mono ?_; rintro e w1 ⟨rfl, rfl⟩; have a1 := bA.c 1 rfl; go_wp2_with fail; clear a1; refine (spfx8 _ hO HG).mono ?_; rintro e w2 ⟨rfl, hb⟩; replace bA := bA.keep hb; replace hO := hO.keep hb; replace hR := hR.keep hb; replace hS := hS.keep hb; replace B0 := below_step B0 hb; clear hb; have a1 := bA.c 1 rfl; have a2 := bA.c 2 rfl; have a4 := bA.c 4 rfl; go_wp2_with fail; clear a1 a2 a4; refine (srib_t _ hR HR).mono ?_; rintro e w3 ⟨rfl, hb⟩; replace bA := bA.keep hb; replace hO := hO.keep hb; replace hR := hR.keep hb; replace hS := hS.keep hb; replace B0 := below_step B0 hb; clear hb; have a5 := bA.c 5 rfl; go_wp2_with fail; clear a5; refine (srib_t _ hS HS).mono ?_; rintro e w4 ⟨rfl, hb⟩; replace bA := bA.keep hb; replace hO := hO.keep hb; replace hR := hR.keep hb; replace hS := hS.keep hb; replace B0 := below_step B0 hb; clear hb; clear HG; have HND := Lib.hid (nd_iff HA.out HO.out HB.out HR.out HS.out); obtain ⟨V, hV⟩ : ∃ V, V = w4 := ⟨_, rfl⟩; rw [← hV] at bA hO hR hS B0; have hc := (hRE hR); have hd := (hSE hS)
      have hsn60 : sn ≤ 60 := by
       have := (rib_ok HS.out).2.1; rw [← HSN.out] at this
       exact this
      have hrn : rn ≤ 60 := by
       have := (rib_ok HR.out).2.1; rw [← HRN.out] at this
       exact this
      clear hRE hSE; go_wp2; rw [← hV]; clear hV
      go_loopw [3, 4] (fun q i wr => ∃ k : Nat, k ≤ rn ∧ i = .int .i64 k ∧ q = .int .i64 (ownN (N.rib.take k)) ∧ (∀ j, j < k → knowM N.an N.bw N.own (N.rib.getD j e0) = true) ∧ Over V wr) (fun _ i _ => rn - (intOf i).toNat)
      case atStart => exact ⟨0, Nat.zero_le _, rfl, by simp [ownN], fun j hj => by omega, over_refl _⟩
      case round =>
       obtain ⟨k, hk, rfl, rfl, hyes, hB⟩ := hrel; have HY := Lib.hid hyes; clear hyes; have a0 := over_cell hB bA.lt (bA.c 0 rfl); have a1 := over_cell hB bA.lt (bA.c 1 rfl); have a2 := over_cell hB bA.lt (bA.c 2 rfl); have a3 := over_cell hB bA.lt (bA.c 3 rfl); have a4 := over_cell hB bA.lt (bA.c 4 rfl); have a5 := over_cell hB bA.lt (bA.c 5 rfl); have lA := (bA.keep hB).lt
       by_cases hlt : k < rn
       ·have hltI : (k : Int) < (rn : Int) := by omega
        obtain ⟨b, o, rfl, hE⟩ := hc k hlt; obtain ⟨E, hx⟩ : ∃ E, N.rib.getD k e0 = E := ⟨_, rfl⟩; rw [hx] at hE; have hkR : k < N.rib.length := by rw [← HRN.out]; exact hlt
        have HNX := Lib.hid (ownN_next hkR hx); have hle := ownN_le N.rib k
        have hp8 : E.p.length ≤ 8 := by
         have q := rib_attr HR.out k hkR; rw [hx] at q; unfold aokB at q; simp only [Bool.and_eq_true, decide_eq_true_eq] at q
         omega
        have HX := Lib.hid hx; obtain ⟨pv, cv, hp, hq, g0, g1, g2, g3, g4, g5, g6⟩ := hE.keep hB; obtain ⟨pa, px, rfl⟩ := hp.len; obtain ⟨qa, qx, rfl⟩ := hq.len; obtain ⟨m, hm⟩ : ∃ m, m = ownN (N.rib.take k) := ⟨_, rfl⟩; rw [← hm] at HNX hle ⊢; have HM := Lib.hid hm; have HC := Lib.hid hc; have hmw : IntKind.i64.wrap ((m : Int) + 1) = (m : Int) + 1 := wrap64_in _ (by omega) (by omega); have bE := Bl.new wr [.int .i64 E.a, .int .i64 E.n, .int .i64 E.pe, .slice pa E.p.length px, .int .i64 E.pr, .slice qa E.c.length qx, .int .i64 E.bw] EI wr.heap.size rfl; have A1 : Below wr.heap.size wr (wr.alloc (.cells #[.int .i64 E.a, .int .i64 E.n, .int .i64 E.pe, .slice pa E.p.length px, .int .i64 E.pr, .slice qa E.c.length qx, .int .i64 E.bw] EI)) := (Below.refl _ _).alloc (Nat.le_refl _) _; have hp1 := hp.keep A1; have hq1 := hq.keep A1; have hB1 := over_step hB A1; have hO1 := hO.keep hB1; clear hm hx hc hE hp hq hkR; have e2 := bE.c 2 rfl
        by_cases hpe : 0 ≤ E.pe
        ·have e3 := bE.c 3 rfl
         cases hmem : decide (N.an ∈ E.p)
         ·have HME := Lib.hid hmem
          by_cases h0 : E.p.length = 0
          ·have HF : Hid (ndB N = false) := Lib.hid (by rw [HND.out, all_no (by rw [← HRN.out]; exact hlt) HX.out (by unfold knowM; rw [if_pos hpe, h0]; simp)]; rfl)
           clear hmem; rw [h0] at bE A1 hp1 hB1 hO1 e2 e3 g3; go_wp2_with fail; refine (sha8_t _ hp1 HME).mono ?_; rintro e w5 ⟨rfl, hb⟩; have e3 := (bE.keep hb).c 3 rfl; go_wp2
           go_ret
           exact ⟨ret_bool HF.out.symm, below_step B0 (over_step hB1 hb)⟩
          ·have HOK : Hid (knowM N.an N.bw N.own E = true) := Lib.hid (by unfold knowM; rw [if_pos hpe, hmem]; simp only [Bool.not_false, Bool.true_and, decide_eq_true_eq]; omega)
           have h0b : ((E.p.length : Int) == 0) = false := by rw [beq_eq_false_iff_ne]; omega
           have HPE := Lib.hid hpe; clear hmem; go_wp2_with fail; refine (sha8_t _ hp1 HME).mono ?_; rintro e w5 ⟨rfl, hb⟩; have e3 := (bE.keep hb).c 3 rfl; go_wp2
           go_roundw
           case rel => exact ⟨k + 1, by omega, by go_num, by rw [HNX.out, if_pos (by have := HPE.out; omega)]; rfl, allNext HY.out HX.out HOK.out, over_step hB1 hb⟩
           case measure => simp [intOf]; omega
         ·have HME := Lib.hid hmem
          have HF : Hid (ndB N = false) := Lib.hid (by rw [HND.out, all_no (by rw [← HRN.out]; exact hlt) HX.out (by unfold knowM; rw [if_pos hpe, hmem]; simp)]; rfl); clear hmem; go_wp2_with fail; refine (sha8_t _ hp1 HME).mono ?_; rintro e w5 ⟨rfl, hb⟩; go_wp2
          go_ret
          exact ⟨ret_bool HF.out.symm, below_step B0 (over_step hB1 hb)⟩
        ·cases hmem : decide ((E.a, E.n) ∈ N.own)
         ·have HME := Lib.hid hmem
          have HF : Hid (ndB N = false) := Lib.hid (by rw [HND.out, all_no (by rw [← HRN.out]; exact hlt) HX.out (by unfold knowM; rw [if_neg hpe, hmem]; simp)]; rfl); clear hmem; obtain ⟨V1, hV1⟩ : ∃ V1, V1 = wr.alloc (.cells #[.int .i64 E.a, .int .i64 E.n, .int .i64 E.pe, .slice pa E.p.length px, .int .i64 E.pr, .slice qa E.c.length qx, .int .i64 E.bw] EI) := ⟨_, rfl⟩; have bA1 := bA.keep hB1; rw [← hV1] at bE hp1 hq1 hB1 hO1 bA1 e2; go_wp2_with fail; rw [← hV1]; clear hV1 g0 g1 g2 g3 g4 g5 g6 a0 a1 a2 a3 a4 a5 A1; refine wp_region_class (C := Over (V1)) (by kernel_rfl) (by kernel_rfl) (over_drew _) ?_
          repeat (first | go_big_quiet_skip | (go_big_quiet_want; go_big_quiet_op; go_big_quiet_on) | (go_big_quiet_want; go_big_quiet_op; apply Exists.intro; refine ⟨fun w' hC => ?_, ?_⟩; ((first | (go_at_call 116; refine (sgone_t _ (hO1.keep hC) HME).mono ?_; rintro e w1 ⟨rfl, hb1⟩; exact ⟨rfl, over_step hC hb1⟩))); go_big_quiet_on) | (go_big_quiet_want; apply Exists.intro; refine ⟨fun w' hC => ?_, ?_⟩; (have k0 := over_cell hC bA1.lt (bA1.c 0 rfl); have k1 := over_cell hC bA1.lt (bA1.c 1 rfl); have k2 := over_cell hC bA1.lt (bA1.c 2 rfl); have k3 := over_cell hC bA1.lt (bA1.c 3 rfl); have k4 := over_cell hC bA1.lt (bA1.c 4 rfl); have k5 := over_cell hC bA1.lt (bA1.c 5 rfl); have k6 := over_cell hC bE.lt (bE.c 0 rfl); have k7 := over_cell hC bE.lt (bE.c 1 rfl); have k8 := over_cell hC bE.lt (bE.c 2 rfl); have k9 := over_cell hC bE.lt (bE.c 3 rfl); have k10 := over_cell hC bE.lt (bE.c 4 rfl); have k11 := over_cell hC bE.lt (bE.c 5 rfl); have k12 := over_cell hC bE.lt (bE.c 6 rfl); simp [Oper.quietAt, Oper.quietUpon, go_sem, k0, k1, k2, k3, k4, k5, k6, k7, k8, k9, k10, k11, k12]; first | done | rfl); go_big_quiet_on; simp only [Act.put, List.setIfInBounds_toArray, List.set_cons_zero, List.set_cons_succ]))
          refine wpQuiet_nil ?_; intro wr hC; have k0 := over_cell hC bA1.lt (bA1.c 0 rfl); have k1 := over_cell hC bA1.lt (bA1.c 1 rfl); have k2 := over_cell hC bA1.lt (bA1.c 2 rfl); have k3 := over_cell hC bA1.lt (bA1.c 3 rfl); have k4 := over_cell hC bA1.lt (bA1.c 4 rfl); have k5 := over_cell hC bA1.lt (bA1.c 5 rfl); have k6 := over_cell hC bE.lt (bE.c 0 rfl); have k7 := over_cell hC bE.lt (bE.c 1 rfl); have k8 := over_cell hC bE.lt (bE.c 2 rfl); have k9 := over_cell hC bE.lt (bE.c 3 rfl); have k10 := over_cell hC bE.lt (bE.c 4 rfl); have k11 := over_cell hC bE.lt (bE.c 5 rfl); have k12 := over_cell hC bE.lt (bE.c 6 rfl); go_wp2
          go_ret
          exact ⟨ret_bool HF.out.symm, below_step B0 (over_step hB1 hC)⟩
         ·obtain ⟨r, hr⟩ : ∃ r, or4 (rk E.pr E.p.length 100 0) (lx E.p []) (lx E.c []) (nm E.bw N.bw) = r := ⟨_, rfl⟩
          have HR4 := Lib.hid (And.intro hp8 hr); have HME := Lib.hid hmem
          by_cases hr0 : r = 0
          ·have HOK : Hid (knowM N.an N.bw N.own E = true) := Lib.hid (by unfold knowM; rw [if_neg hpe, hmem, Bool.true_and]; exact or4_zero8.1 (hr.trans hr0))
           have hrb : (r != 0) = false := by simp [hr0]
           have HPE := Lib.hid hpe; clear hmem hr hr0; obtain ⟨V1, hV1⟩ : ∃ V1, V1 = wr.alloc (.cells #[.int .i64 E.a, .int .i64 E.n, .int .i64 E.pe, .slice pa E.p.length px, .int .i64 E.pr, .slice qa E.c.length qx, .int .i64 E.bw] EI) := ⟨_, rfl⟩; have bA1 := bA.keep hB1; rw [← hV1] at bE hp1 hq1 hB1 hO1 bA1 e2; go_wp2_with fail; rw [← hV1]; clear hV1 g0 g1 g2 g3 g4 g5 g6 a0 a1 a2 a3 a4 a5 A1; refine wp_region_class (C := Over (V1)) (by kernel_rfl) (by kernel_rfl) (over_drew _) ?_
           repeat (first | go_big_quiet_skip | (go_big_quiet_want; go_big_quiet_op; go_big_quiet_on) | (go_big_quiet_want; go_big_quiet_op; apply Exists.intro; refine ⟨fun w' hC => ?_, ?_⟩; ((first | (go_at_call 116; refine (sgone_t _ (hO1.keep hC) HME).mono ?_; rintro e w1 ⟨rfl, hb1⟩; exact ⟨rfl, over_step hC hb1⟩) | (go_at_call 118; refine (smine8_any _ _ _ N _).mono ?_; rintro e w1 ⟨rfl, hb1⟩; exact ⟨rfl, over_step hC hb1⟩) | (go_at_call 117; refine (scmp8_t pa qa px qx E.p E.c E.pr E.bw N.bw r _ (rdI_over hp1 hC) (rdI_over hq1 hC) HR4).mono ?_; rintro e w1 ⟨rfl, hb1⟩; exact ⟨rfl, over_step hC hb1⟩))); go_big_quiet_on) | (go_big_quiet_want; apply Exists.intro; refine ⟨fun w' hC => ?_, ?_⟩; (have k0 := over_cell hC bA1.lt (bA1.c 0 rfl); have k1 := over_cell hC bA1.lt (bA1.c 1 rfl); have k2 := over_cell hC bA1.lt (bA1.c 2 rfl); have k3 := over_cell hC bA1.lt (bA1.c 3 rfl); have k4 := over_cell hC bA1.lt (bA1.c 4 rfl); have k5 := over_cell hC bA1.lt (bA1.c 5 rfl); have k6 := over_cell hC bE.lt (bE.c 0 rfl); have k7 := over_cell hC bE.lt (bE.c 1 rfl); have k8 := over_cell hC bE.lt (bE.c 2 rfl); have k9 := over_cell hC bE.lt (bE.c 3 rfl); have k10 := over_cell hC bE.lt (bE.c 4 rfl); have k11 := over_cell hC bE.lt (bE.c 5 rfl); have k12 := over_cell hC bE.lt (bE.c 6 rfl); simp [Oper.quietAt, Oper.quietUpon, go_sem, k0, k1, k2, k3, k4, k5, k6, k7, k8, k9, k10, k11, k12]; first | done | rfl); go_big_quiet_on; simp only [Act.put, List.setIfInBounds_toArray, List.set_cons_zero, List.set_cons_succ]))
           refine wpQuiet_nil ?_; intro wr hC; have k0 := over_cell hC bA1.lt (bA1.c 0 rfl); have k1 := over_cell hC bA1.lt (bA1.c 1 rfl); have k2 := over_cell hC bA1.lt (bA1.c 2 rfl); have k3 := over_cell hC bA1.lt (bA1.c 3 rfl); have k4 := over_cell hC bA1.lt (bA1.c 4 rfl); have k5 := over_cell hC bA1.lt (bA1.c 5 rfl); have k6 := over_cell hC bE.lt (bE.c 0 rfl); have k7 := over_cell hC bE.lt (bE.c 1 rfl); have k8 := over_cell hC bE.lt (bE.c 2 rfl); have k9 := over_cell hC bE.lt (bE.c 3 rfl); have k10 := over_cell hC bE.lt (bE.c 4 rfl); have k11 := over_cell hC bE.lt (bE.c 5 rfl); have k12 := over_cell hC bE.lt (bE.c 6 rfl); go_wp2
           go_roundw
           case rel => exact ⟨k + 1, by omega, by go_num, by rw [HNX.out, if_neg (by have := HPE.out; omega)]; go_num, allNext HY.out HX.out HOK.out, over_step hB1 hC⟩
           case measure => simp [intOf]; omega
          ·have HF : Hid (ndB N = false) := Lib.hid (by
            rw [HND.out, all_no (by rw [← HRN.out]; exact hlt) HX.out (by
             unfold knowM; rw [if_neg hpe, hmem, Bool.true_and]; cases hs : sameB E.p E.pr E.c E.bw [] 100 [] N.bw
             ·rfl
             ·exact absurd (hr.symm.trans (or4_zero8.2 hs)) hr0)]
            rfl)
           have hrb : (r != 0) = true := by simp [hr0]
           clear hmem hr hr0; obtain ⟨V1, hV1⟩ : ∃ V1, V1 = wr.alloc (.cells #[.int .i64 E.a, .int .i64 E.n, .int .i64 E.pe, .slice pa E.p.length px, .int .i64 E.pr, .slice qa E.c.length qx, .int .i64 E.bw] EI) := ⟨_, rfl⟩; have bA1 := bA.keep hB1; rw [← hV1] at bE hp1 hq1 hB1 hO1 bA1 e2; go_wp2_with fail; rw [← hV1]; clear hV1 g0 g1 g2 g3 g4 g5 g6 a0 a1 a2 a3 a4 a5 A1; refine wp_region_class (C := Over (V1)) (by kernel_rfl) (by kernel_rfl) (over_drew _) ?_
           repeat (first | go_big_quiet_skip | (go_big_quiet_want; go_big_quiet_op; go_big_quiet_on) | (go_big_quiet_want; go_big_quiet_op; apply Exists.intro; refine ⟨fun w' hC => ?_, ?_⟩; ((first | (go_at_call 116; refine (sgone_t _ (hO1.keep hC) HME).mono ?_; rintro e w1 ⟨rfl, hb1⟩; exact ⟨rfl, over_step hC hb1⟩) | (go_at_call 118; refine (smine8_any _ _ _ N _).mono ?_; rintro e w1 ⟨rfl, hb1⟩; exact ⟨rfl, over_step hC hb1⟩) | (go_at_call 117; refine (scmp8_t pa qa px qx E.p E.c E.pr E.bw N.bw r _ (rdI_over hp1 hC) (rdI_over hq1 hC) HR4).mono ?_; rintro e w1 ⟨rfl, hb1⟩; exact ⟨rfl, over_step hC hb1⟩))); go_big_quiet_on) | (go_big_quiet_want; apply Exists.intro; refine ⟨fun w' hC => ?_, ?_⟩; (have k0 := over_cell hC bA1.lt (bA1.c 0 rfl); have k1 := over_cell hC bA1.lt (bA1.c 1 rfl); have k2 := over_cell hC bA1.lt (bA1.c 2 rfl); have k3 := over_cell hC bA1.lt (bA1.c 3 rfl); have k4 := over_cell hC bA1.lt (bA1.c 4 rfl); have k5 := over_cell hC bA1.lt (bA1.c 5 rfl); have k6 := over_cell hC bE.lt (bE.c 0 rfl); have k7 := over_cell hC bE.lt (bE.c 1 rfl); have k8 := over_cell hC bE.lt (bE.c 2 rfl); have k9 := over_cell hC bE.lt (bE.c 3 rfl); have k10 := over_cell hC bE.lt (bE.c 4 rfl); have k11 := over_cell hC bE.lt (bE.c 5 rfl); have k12 := over_cell hC bE.lt (bE.c 6 rfl); simp [Oper.quietAt, Oper.quietUpon, go_sem, k0, k1, k2, k3, k4, k5, k6, k7, k8, k9, k10, k11, k12]; first | done | rfl); go_big_quiet_on; simp only [Act.put, List.setIfInBounds_toArray, List.set_cons_zero, List.set_cons_succ]))
           refine wpQuiet_nil ?_; intro wr hC; have k0 := over_cell hC bA1.lt (bA1.c 0 rfl); have k1 := over_cell hC bA1.lt (bA1.c 1 rfl); have k2 := over_cell hC bA1.lt (bA1.c 2 rfl); have k3 := over_cell hC bA1.lt (bA1.c 3 rfl); have k4 := over_cell hC bA1.lt (bA1.c 4 rfl); have k5 := over_cell hC bA1.lt (bA1.c 5 rfl); have k6 := over_cell hC bE.lt (bE.c 0 rfl); have k7 := over_cell hC bE.lt (bE.c 1 rfl); have k8 := over_cell hC bE.lt (bE.c 2 rfl); have k9 := over_cell hC bE.lt (bE.c 3 rfl); have k10 := over_cell hC bE.lt (bE.c 4 rfl); have k11 := over_cell hC bE.lt (bE.c 5 rfl); have k12 := over_cell hC bE.lt (bE.c 6 rfl); go_wp2
           go_ret
           exact ⟨ret_bool HF.out.symm, below_step B0 (over_step hB1 hC)⟩
       ·have hkn : k = rn := by omega
        have HR2 : Hid (N.rib.all (knowM N.an N.bw N.own) = true) := Lib.hid (all_yes HRN.out (fun i hi => HY.out i (by omega))); have e : N.rib.take k = N.rib := List.take_of_length_le (by rw [hkn, HRN.out]; exact Nat.le_refl _); rw [e]; clear e hkn hc; go_wp2
        go_loopw [6] (fun i w6 => ∃ j : Nat, j ≤ sn ∧ i = .int .i64 j ∧ (∀ i, i < j → sendB (N.sent.getD i e0) = true) ∧ Over V w6) (fun i _ => sn - (intOf i).toNat)
        case atStart => exact ⟨0, Nat.zero_le _, rfl, fun i hi => by omega, hB⟩
        case round =>
         clear hB a0 a1 a2 a3 a4 a5; obtain ⟨j, hj, rfl, hyes, hB2⟩ := hrel; have HY2 := Lib.hid hyes; clear hyes; have a0 := over_cell hB2 bA.lt (bA.c 0 rfl); have a1 := over_cell hB2 bA.lt (bA.c 1 rfl); have a2 := over_cell hB2 bA.lt (bA.c 2 rfl); have a3 := over_cell hB2 bA.lt (bA.c 3 rfl); have a4 := over_cell hB2 bA.lt (bA.c 4 rfl); have a5 := over_cell hB2 bA.lt (bA.c 5 rfl)
         by_cases hlt2 : j < sn
         ·have hltI : (j : Int) < (sn : Int) := by omega
          obtain ⟨b, o, rfl, hE⟩ := hd j hlt2; obtain ⟨E, hx⟩ : ∃ E, N.sent.getD j e0 = E := ⟨_, rfl⟩; rw [hx] at hE; have hkR : j < N.sent.length := by rw [← HSN.out]; exact hlt2
          have hpe1 := rib_peer HS.out j hkR; rw [hx] at hpe1; have HX := Lib.hid hx; obtain ⟨pv, cv, hp, hq, g0, g1, g2, g3, g4, g5, g6⟩ := hE.keep hB2; obtain ⟨pa, px, rfl⟩ := hp.len; obtain ⟨qa, qx, rfl⟩ := hq.len; have HC := Lib.hid hd; clear hx hd hE hp hq
          by_cases hpe : E.pe < 0
          ·have HF : Hid (ndB N = false) := Lib.hid (by rw [HND.out, all_no hkR HX.out (by unfold sendB; rw [show E.pe = -1 by omega]; rfl), Bool.and_false])
           clear hkR hpe1; go_wp2
           go_ret
           exact ⟨ret_bool HF.out.symm, below_step B0 hB2⟩
          ·by_cases h0 : E.p.length = 0
           ·have HF : Hid (ndB N = false) := Lib.hid (by rw [HND.out, all_no hkR HX.out (by unfold sendB; rw [h0]; simp), Bool.and_false])
            rw [h0] at g3; clear hkR hpe1 h0; go_wp2
            go_ret
            exact ⟨ret_bool HF.out.symm, below_step B0 hB2⟩
           ·have HOK : Hid (sendB E = true) := Lib.hid (by
             unfold sendB; rw [show (E.pe == -1) = false by simp; omega]; simp only [Bool.not_false, Bool.true_and, decide_eq_true_eq]
             omega)
            have h0b : ((E.p.length : Int) == 0) = false := by rw [beq_eq_false_iff_ne]; omega
            clear hkR hpe1; go_wp2
            go_roundw
            case rel => exact ⟨j + 1, by omega, by go_num, allNext (f := fun E => sendB E) HY2.out HX.out HOK.out, hB2⟩
            case measure => simp [intOf]; omega
         ·have HS2 : Hid ((N.sent.all fun E => sendB E) = true) := Lib.hid (all_yes HSN.out (fun i hi => HY2.out i (by omega)))
          clear hd; cases hcnt : decide (ownN N.rib = N.own.length)
          ·have HF : Hid (ndB N = false) := Lib.hid (by rw [HND.out, hcnt, Bool.and_false, Bool.false_and])
           have hcb : ((ownN N.rib : Int) == (on : Int)) = false := by
            rw [beq_eq_false_iff_ne]; intro q; rw [decide_eq_false_iff_not] at hcnt
            exact hcnt (by rw [← HON.out]; omega)
           clear hcnt; go_wp2
           go_ret
           exact ⟨ret_bool HF.out.symm, below_step B0 hB2⟩
          ·have HF : Hid (ndB N = true) := Lib.hid (by rw [HND.out, hcnt, HS2.out, HR2.out]; rfl)
           have hcb : ((ownN N.rib : Int) == (on : Int)) = true := by
            rw [beq_iff_eq]; rw [decide_eq_true_eq] at hcnt; rw [HON.out, hcnt]
           clear hcnt; go_wp2
           go_ret
           exact ⟨ret_bool HF.out.symm, below_step B0 hB2⟩
end Go.Proofs.YtbcmoofpgffbhabGreat
namespace Go.Proofs.YtbcmoofpgffbhabGreat
open Go.ChangeShapes Go.WideShapes Go.ChangeAt Go.RowKit Go.BigFrame Go.Joins
set_option linter.unusedVariables false
set_option maxRecDepth 100000
set_option linter.unusedSimpArgs false
set_option maxRecDepth 100000

/-- the numbers of its slices are numbers -/
def BdN (N : Nd) : Prop := (∀ i, i < N.rib.length → BdE (N.rib.getD i e0)) ∧ ∀ i, i < N.sent.length → BdE (N.sent.getD i e0)
theorem RdN.bd {w : World} {ov rv sv : Value} {N : Nd} (h : RdN w ov rv sv N) : BdN N := ⟨h.2.1.bd, h.2.2.bd⟩
theorem sndok_t {ov rv sv : Value} {N : Nd} {b : Bool} (w : World) (h : RdN w ov rv sv N) (H : Hid (ndB N = b)) :
  Calls Tryz.prog 43 #[.agg #[.int .i64 N.an, ov, .int .i64 N.bw, .bool N.dr, rv, sv]] w fun e w' => e = .returned (.bool b) ∧ Below w.heap.size w w' := H.out ▸ sndok_any ov rv sv N w h
end Go.Proofs.YtbcmoofpgffbhabGreat
namespace Go.Proofs.YtbcmoofpgffbhabGreat
open Go.ChangeShapes Go.WideShapes Go.ChangeAt Go.RowKit Go.BigFrame Go.Joins
set_option linter.unusedVariables false
set_option linter.unusedSimpArgs false
set_option maxRecDepth 100000

theorem NdT.far {w : World} {b0 h1 h2 h3 C o : Nat} {ov ru su u : Value} {own : List (Int × Int)} {T1 T2 : List ET} (h : NdT w b0 h1 h2 h3 ov ru su own T1 T2) (hC : C < b0) : NdT (w.setCell ⟨C, o, none⟩ u) b0 h1 h2 h3 ov ru su own T1 T2 :=
 ⟨h.o.far hC, h.oh, h.r.far (Nat.lt_of_lt_of_le hC h.q1), h.ri, h.s.far (Nat.lt_of_lt_of_le hC (Nat.le_trans h.q1 h.q2)), h.si, h.q1, h.q2, h.q3⟩
theorem NdT.rd {w : World} {b0 h1 h2 h3 : Nat} {ov ru su : Value} {D : Nd} {T1 T2 : List ET} (h : NdT w b0 h1 h2 h3 ov ru su D.own T1 T2) (e1 : entT T1 = D.rib) (e2 : entT T2 = D.sent) (hd : BdN D) : RdN w ov ru su D :=
 ⟨h.o.rd, e1 ▸ h.r.rd (fun t ht => bd_mem (L := D.rib) hd.1 (e1 ▸ entT_mem ht)), e2 ▸ h.s.rd (fun t ht => bd_mem (L := D.sent) hd.2 (e2 ▸ entT_mem ht))⟩
end Go.Proofs.YtbcmoofpgffbhabGreat
namespace Go.Proofs.YtbcmoofpgffbhabGreat
open Go.ChangeShapes Go.WideShapes Go.ChangeAt Go.RowKit Go.BigFrame Go.Joins
set_option linter.unusedVariables false
set_option linter.unusedSimpArgs false
set_option maxRecDepth 100000

end Go.Proofs.YtbcmoofpgffbhabGreat
namespace Go.Proofs.YtbcmoofpgffbhabGreat
open Go.ChangeShapes Go.WideShapes Go.ChangeAt Go.RowKit Go.BigFrame Go.Joins
set_option linter.unusedVariables false
set_option maxRecDepth 100000
set_option linter.unusedSimpArgs false
set_option maxRecDepth 100000

theorem ElM.app {xs : List Value} {w : World} {E : Nat → Prop} {i : Nat} {x : Mg} (h : ElM xs w E i x) (ys : List Value) : ElM (xs ++ ys) w E i x := by
 obtain ⟨gv, cv, pv, mv, ho, k0, k1, k2, k3, k4, k5, k6, k7, k8, k9, k10⟩ := h
 exact ⟨gv, cv, pv, mv, ho, app_some k0, app_some k1, app_some k2, app_some k3, app_some k4, app_some k5, app_some k6, app_some k7, app_some k8, app_some k9, app_some k10⟩
theorem ElM.agr {xs : List Value} {w w' : World} {E : Nat → Prop} {i : Nat} {x : Mg} (h : ElM xs w E i x) (a : AgrS E w w') : ElM xs w' E i x := by
 obtain ⟨gv, cv, pv, mv, ho, k⟩ := h
 exact ⟨gv, cv, pv, mv, ho.agr a, k⟩
/-- a list of the call's own that grows -/
structure GrMS (w : World) (base : Nat) (v : Value) (L : List Mg) (xs : List Value) : Prop where
 row : w.ownsRow base 52 11 v L.length xs
 el : ∃ E : Nat → Nat → Prop, (∀ i, i < L.length → (∀ b, E i b → base ≤ b ∧ b < w.heap.size) ∧ (∀ b, E i b → v.ownBlock ≠ some b) ∧ ElM xs w (E i) i (L.getD i m0)) ∧ ∀ i j, i < L.length → j < L.length → i ≠ j → Dj (E i) (E j)
theorem GrMS.nil (w : World) (base : Nat) : GrMS w base (.slice none 0 0) [] [] := ⟨World.ownsRow_nil _ _ _ _, fun _ _ => False, fun i hi => absurd hi (by simp), fun i j hi => absurd hi (by simp)⟩
theorem GrMS.agr {w w' : World} {base : Nat} {v : Value} {L : List Mg} {xs : List Value} (h : GrMS w base v L xs) (a : AgrS (fun b => base ≤ b) w w') : GrMS w' base v L xs := by
 obtain ⟨hr, E, hE, hd⟩ := h; refine ⟨row_agrS hr (fun k hk => (World.ownsRow.lt hr k hk).1) a, E, fun i hi => ?_, hd⟩; obtain ⟨e1, e2, e3⟩ := hE i hi
 exact ⟨fun b hb => ⟨(e1 b hb).1, Nat.lt_of_lt_of_le (e1 b hb).2 a.1⟩, e2, e3.agr (a.sub fun b hb => (e1 b hb).1)⟩
theorem GrMS.keep {w w' : World} {base : Nat} {v : Value} {L : List Mg} {xs : List Value} (h : GrMS w base v L xs) (b : Below w.heap.size w w') : GrMS w' base v L xs := h.agr (.of_below b)
theorem GrMS.far {w : World} {base B o : Nat} {v u : Value} {L : List Mg} {xs : List Value} (h : GrMS w base v L xs) (hB : B < base) : GrMS (w.setCell ⟨B, o, none⟩ u) base v L xs := h.agr (agr_setS w (by omega))
theorem GrMS.step {w0 w1 w4 : World} {base : Nat} {v v' : Value} {L : List Mg} {xs : List Value} {S : Nat → Prop} {gv cv pv mv : Value} {x : Mg} (h : GrMS w0 base v L xs) (hb : base ≤ w0.heap.size) (B : Below w0.heap.size w0 w1) (o : OwM w1 S gv cv pv mv x)
  (hS : ∀ b, S b → w0.heap.size ≤ b ∧ b < w1.heap.size) (hrow : w4.ownsRow base 52 11 v' (L.length + 1) (xs ++ [.int .i64 x.kn, .int .i64 x.sa, .int .i64 x.ho, .int .i64 x.ix, gv, cv, pv, .int .i64 x.pr, mv, .int .i64 x.bw, .int .i64 x.er])) (hg : w1.grownBy w4 v.ownBlock) (hor : v'.ownBlock = v.ownBlock ∨ v'.ownBlock = some w1.heap.size) : GrMS w4 base v' (L ++ [x]) (xs ++ [.int .i64 x.kn, .int .i64 x.sa, .int .i64 x.ho, .int .i64 x.ix, gv, cv, pv, .int .i64 x.pr, mv, .int .i64 x.bw, .int .i64 x.er]) := by
 obtain ⟨hr, E, hE, hd⟩ := h; have hxl := hr.1; have hv := World.ownsRow.lt hr; have B' := B.size; have hg' := hg.size; refine ⟨by simpa using hrow, fun i => if i = L.length then S else E i, fun i hi => ?_, fun i j hi hj hne => ?_⟩
 ·dsimp only
  by_cases hi1 : i = L.length
  ·subst hi1
   rw [if_pos rfl, show (L ++ [x]).getD L.length m0 = x by simp [List.getD]]; refine ⟨fun b q => ⟨Nat.le_trans hb (hS b q).1, Nat.lt_of_lt_of_le (hS b q).2 hg'⟩, fun b q e => ?_, gv, cv, pv, mv, o.agr ⟨hg', fun b q l => hg.block b l fun e => ?_⟩, by rw [List.getElem?_append_right (by omega), show L.length * 11 - xs.length = 0 by omega]; rfl, by rw [List.getElem?_append_right (by omega), show L.length * 11 + 1 - xs.length = 1 by omega]; rfl, by rw [List.getElem?_append_right (by omega), show L.length * 11 + 2 - xs.length = 2 by omega]; rfl, by rw [List.getElem?_append_right (by omega), show L.length * 11 + 3 - xs.length = 3 by omega]; rfl, by rw [List.getElem?_append_right (by omega), show L.length * 11 + 4 - xs.length = 4 by omega]; rfl, by rw [List.getElem?_append_right (by omega), show L.length * 11 + 5 - xs.length = 5 by omega]; rfl, by rw [List.getElem?_append_right (by omega), show L.length * 11 + 6 - xs.length = 6 by omega]; rfl, by rw [List.getElem?_append_right (by omega), show L.length * 11 + 7 - xs.length = 7 by omega]; rfl, by rw [List.getElem?_append_right (by omega), show L.length * 11 + 8 - xs.length = 8 by omega]; rfl, by rw [List.getElem?_append_right (by omega), show L.length * 11 + 9 - xs.length = 9 by omega]; rfl, by rw [List.getElem?_append_right (by omega), show L.length * 11 + 10 - xs.length = 10 by omega]; rfl⟩
   ·have hb1 := hS b q
    rcases hor with r | r
    ·have := (hv b (by rw [← r]; exact e)).2; omega
    ·rw [r] at e; cases e; omega
   ·have hb1 := hS b q
    have := (hv b e.symm).2; omega
  ·have hi2 : i < L.length := by simp at hi; omega
   obtain ⟨e1, e2, e3⟩ := hE i hi2; rw [if_neg hi1, show (L ++ [x]).getD i m0 = L.getD i m0 by simp [List.getD, List.getElem?_append_left hi2]]; refine ⟨fun b q => ⟨(e1 b q).1, by have := (e1 b q).2; omega⟩, fun b q e => ?_, (e3.agr ⟨by omega, fun b q l => ?_⟩).app _⟩
   ·rcases hor with r | r
    ·exact e2 b q (by rw [← r]; exact e)
    ·have := (e1 b q).2
     rw [r] at e; cases e; omega
   ·have := (e1 b q).2
    exact (hg.block b (by omega) (fun e => e2 b q e.symm)).trans (B.block b this)
 ·have hi' : i < L.length + 1 := by simpa using hi
  have hj' : j < L.length + 1 := by simpa using hj
  dsimp only
  by_cases hi1 : i = L.length
  ·have hj2 : j < L.length := by omega
   rw [if_pos hi1, if_neg (by omega)]; intro b q r; have h1 := hS b q; have h2 := ((hE j hj2).1 b r).2
   omega
  ·by_cases hj1 : j = L.length
   ·rw [if_neg hi1, if_pos hj1]
    intro b q r; have h1 := hS b r; have h2 := ((hE i (by omega)).1 b q).2
    omega
   ·rw [if_neg hi1, if_neg hj1]
    exact hd i j (by omega) (by omega) hne
theorem GrMS.own {w : World} {base : Nat} {v : Value} {L : List Mg} {xs : List Value} (h : GrMS w base v L xs) (hl : L.length ≤ 1048576) : OwMS w (Rg base w.heap.size) v L := by
 obtain ⟨hr, E, hE, hd⟩ := h; have hv := World.ownsRow.lt hr; refine ⟨hl, ?_⟩
 rcases hr.2 with ⟨rfl, hn⟩ | ⟨g, cap, cur, rfl, hb, hc, rest⟩
 ·exact .inl ⟨rfl, List.eq_nil_of_length_eq_zero hn⟩
 ·have hgl := hv g rfl
  refine .inr ⟨g, cap, xs, E, rfl, hgl, ⟨hgl.2, fun i x e => ?_, fun i hi => World.ownsRow.frozenAt hr i⟩, hr.1, fun i hi => ?_, hd⟩
  ·have hil : i < xs.length := (List.getElem?_eq_some_iff.1 e).1
   exact (World.ownsRow.cellAt hr i (by rw [← hr.1]; exact hil)).trans e
  ·obtain ⟨e1, e2, e3⟩ := hE i hi
   exact ⟨e1, fun q => e2 g q rfl, e3⟩
theorem ElN.app {xs : List Value} {w : World} {E : Nat → Prop} {i : Nat} {x : Nd} (h : ElN xs w E i x) (ys : List Value) : ElN (xs ++ ys) w E i x := by
 obtain ⟨ov, rv, sv, ho, k0, k1, k2, k3, k4, k5⟩ := h
 exact ⟨ov, rv, sv, ho, app_some k0, app_some k1, app_some k2, app_some k3, app_some k4, app_some k5⟩
theorem ElN.agr {xs : List Value} {w w' : World} {E : Nat → Prop} {i : Nat} {x : Nd} (h : ElN xs w E i x) (a : AgrS E w w') : ElN xs w' E i x := by
 obtain ⟨ov, rv, sv, ho, k⟩ := h
 exact ⟨ov, rv, sv, ho.agr a, k⟩
/-- a list of the call's own that grows -/
structure GrNS (w : World) (base : Nat) (v : Value) (L : List Nd) (xs : List Value) : Prop where
 row : w.ownsRow base 35 6 v L.length xs
 el : ∃ E : Nat → Nat → Prop, (∀ i, i < L.length → (∀ b, E i b → base ≤ b ∧ b < w.heap.size) ∧ (∀ b, E i b → v.ownBlock ≠ some b) ∧ ElN xs w (E i) i (L.getD i n0)) ∧ ∀ i j, i < L.length → j < L.length → i ≠ j → Dj (E i) (E j)
theorem GrNS.nil (w : World) (base : Nat) : GrNS w base (.slice none 0 0) [] [] := ⟨World.ownsRow_nil _ _ _ _, fun _ _ => False, fun i hi => absurd hi (by simp), fun i j hi => absurd hi (by simp)⟩
theorem GrNS.agr {w w' : World} {base : Nat} {v : Value} {L : List Nd} {xs : List Value} (h : GrNS w base v L xs) (a : AgrS (fun b => base ≤ b) w w') : GrNS w' base v L xs := by
 obtain ⟨hr, E, hE, hd⟩ := h; refine ⟨row_agrS hr (fun k hk => (World.ownsRow.lt hr k hk).1) a, E, fun i hi => ?_, hd⟩; obtain ⟨e1, e2, e3⟩ := hE i hi
 exact ⟨fun b hb => ⟨(e1 b hb).1, Nat.lt_of_lt_of_le (e1 b hb).2 a.1⟩, e2, e3.agr (a.sub fun b hb => (e1 b hb).1)⟩
theorem GrNS.keep {w w' : World} {base : Nat} {v : Value} {L : List Nd} {xs : List Value} (h : GrNS w base v L xs) (b : Below w.heap.size w w') : GrNS w' base v L xs := h.agr (.of_below b)
theorem GrNS.far {w : World} {base B o : Nat} {v u : Value} {L : List Nd} {xs : List Value} (h : GrNS w base v L xs) (hB : B < base) : GrNS (w.setCell ⟨B, o, none⟩ u) base v L xs := h.agr (agr_setS w (by omega))
theorem GrNS.step {w0 w1 w4 : World} {base : Nat} {v v' : Value} {L : List Nd} {xs : List Value} {S : Nat → Prop} {ov rv sv : Value} {x : Nd} (h : GrNS w0 base v L xs) (hb : base ≤ w0.heap.size) (B : Below w0.heap.size w0 w1) (o : OwN w1 S ov rv sv x)
  (hS : ∀ b, S b → w0.heap.size ≤ b ∧ b < w1.heap.size) (hrow : w4.ownsRow base 35 6 v' (L.length + 1) (xs ++ [.int .i64 x.an, ov, .int .i64 x.bw, .bool x.dr, rv, sv])) (hg : w1.grownBy w4 v.ownBlock) (hor : v'.ownBlock = v.ownBlock ∨ v'.ownBlock = some w1.heap.size) : GrNS w4 base v' (L ++ [x]) (xs ++ [.int .i64 x.an, ov, .int .i64 x.bw, .bool x.dr, rv, sv]) := by
 obtain ⟨hr, E, hE, hd⟩ := h; have hxl := hr.1; have hv := World.ownsRow.lt hr; have B' := B.size; have hg' := hg.size; refine ⟨by simpa using hrow, fun i => if i = L.length then S else E i, fun i hi => ?_, fun i j hi hj hne => ?_⟩
 ·dsimp only
  by_cases hi1 : i = L.length
  ·subst hi1
   rw [if_pos rfl, show (L ++ [x]).getD L.length n0 = x by simp [List.getD]]; refine ⟨fun b q => ⟨Nat.le_trans hb (hS b q).1, Nat.lt_of_lt_of_le (hS b q).2 hg'⟩, fun b q e => ?_, ov, rv, sv, o.agr ⟨hg', fun b q l => hg.block b l fun e => ?_⟩, by rw [List.getElem?_append_right (by omega), show L.length * 6 - xs.length = 0 by omega]; rfl, by rw [List.getElem?_append_right (by omega), show L.length * 6 + 1 - xs.length = 1 by omega]; rfl, by rw [List.getElem?_append_right (by omega), show L.length * 6 + 2 - xs.length = 2 by omega]; rfl, by rw [List.getElem?_append_right (by omega), show L.length * 6 + 3 - xs.length = 3 by omega]; rfl, by rw [List.getElem?_append_right (by omega), show L.length * 6 + 4 - xs.length = 4 by omega]; rfl, by rw [List.getElem?_append_right (by omega), show L.length * 6 + 5 - xs.length = 5 by omega]; rfl⟩
   ·have hb1 := hS b q
    rcases hor with r | r
    ·have := (hv b (by rw [← r]; exact e)).2; omega
    ·rw [r] at e; cases e; omega
   ·have hb1 := hS b q
    have := (hv b e.symm).2; omega
  ·have hi2 : i < L.length := by simp at hi; omega
   obtain ⟨e1, e2, e3⟩ := hE i hi2; rw [if_neg hi1, show (L ++ [x]).getD i n0 = L.getD i n0 by simp [List.getD, List.getElem?_append_left hi2]]; refine ⟨fun b q => ⟨(e1 b q).1, by have := (e1 b q).2; omega⟩, fun b q e => ?_, (e3.agr ⟨by omega, fun b q l => ?_⟩).app _⟩
   ·rcases hor with r | r
    ·exact e2 b q (by rw [← r]; exact e)
    ·have := (e1 b q).2
     rw [r] at e; cases e; omega
   ·have := (e1 b q).2
    exact (hg.block b (by omega) (fun e => e2 b q e.symm)).trans (B.block b this)
 ·have hi' : i < L.length + 1 := by simpa using hi
  have hj' : j < L.length + 1 := by simpa using hj
  dsimp only
  by_cases hi1 : i = L.length
  ·have hj2 : j < L.length := by omega
   rw [if_pos hi1, if_neg (by omega)]; intro b q r; have h1 := hS b q; have h2 := ((hE j hj2).1 b r).2
   omega
  ·by_cases hj1 : j = L.length
   ·rw [if_neg hi1, if_pos hj1]
    intro b q r; have h1 := hS b r; have h2 := ((hE i (by omega)).1 b q).2
    omega
   ·rw [if_neg hi1, if_neg hj1]
    exact hd i j (by omega) (by omega) hne
theorem GrNS.own {w : World} {base : Nat} {v : Value} {L : List Nd} {xs : List Value} (h : GrNS w base v L xs) (hl : L.length ≤ 1048576) : OwNS w (Rg base w.heap.size) v L := by
 obtain ⟨hr, E, hE, hd⟩ := h; have hv := World.ownsRow.lt hr; refine ⟨hl, ?_⟩
 rcases hr.2 with ⟨rfl, hn⟩ | ⟨g, cap, cur, rfl, hb, hc, rest⟩
 ·exact .inl ⟨rfl, List.eq_nil_of_length_eq_zero hn⟩
 ·have hgl := hv g rfl
  refine .inr ⟨g, cap, xs, E, rfl, hgl, ⟨hgl.2, fun i x e => ?_, fun i hi => World.ownsRow.frozenAt hr i⟩, hr.1, fun i hi => ?_, hd⟩
  ·have hil : i < xs.length := (List.getElem?_eq_some_iff.1 e).1
   exact (World.ownsRow.cellAt hr i (by rw [← hr.1]; exact hil)).trans e
  ·obtain ⟨e1, e2, e3⟩ := hE i hi
   exact ⟨e1, fun q => e2 g q rfl, e3⟩
theorem ElL.app {xs : List Value} {w : World} {E : Nat → Prop} {i : Nat} {x : Lk} (h : ElL xs w E i x) (ys : List Value) : ElL (xs ++ ys) w E i x := by
 obtain ⟨av, bv, ho, k0, k1, k2, k3, k4, k5, k6⟩ := h
 exact ⟨av, bv, ho, app_some k0, app_some k1, app_some k2, app_some k3, app_some k4, app_some k5, app_some k6⟩
theorem ElL.agr {xs : List Value} {w w' : World} {E : Nat → Prop} {i : Nat} {x : Lk} (h : ElL xs w E i x) (a : AgrS E w w') : ElL xs w' E i x := by
 obtain ⟨av, bv, ho, k⟩ := h
 exact ⟨av, bv, ho.agr a, k⟩
/-- a list of the call's own that grows -/
structure GrLS (w : World) (base : Nat) (v : Value) (L : List Lk) (xs : List Value) : Prop where
 row : w.ownsRow base 142 7 v L.length xs
 el : ∃ E : Nat → Nat → Prop, (∀ i, i < L.length → (∀ b, E i b → base ≤ b ∧ b < w.heap.size) ∧ (∀ b, E i b → v.ownBlock ≠ some b) ∧ ElL xs w (E i) i (L.getD i l0)) ∧ ∀ i j, i < L.length → j < L.length → i ≠ j → Dj (E i) (E j)
theorem GrLS.nil (w : World) (base : Nat) : GrLS w base (.slice none 0 0) [] [] := ⟨World.ownsRow_nil _ _ _ _, fun _ _ => False, fun i hi => absurd hi (by simp), fun i j hi => absurd hi (by simp)⟩
theorem GrLS.agr {w w' : World} {base : Nat} {v : Value} {L : List Lk} {xs : List Value} (h : GrLS w base v L xs) (a : AgrS (fun b => base ≤ b) w w') : GrLS w' base v L xs := by
 obtain ⟨hr, E, hE, hd⟩ := h; refine ⟨row_agrS hr (fun k hk => (World.ownsRow.lt hr k hk).1) a, E, fun i hi => ?_, hd⟩; obtain ⟨e1, e2, e3⟩ := hE i hi
 exact ⟨fun b hb => ⟨(e1 b hb).1, Nat.lt_of_lt_of_le (e1 b hb).2 a.1⟩, e2, e3.agr (a.sub fun b hb => (e1 b hb).1)⟩
theorem GrLS.keep {w w' : World} {base : Nat} {v : Value} {L : List Lk} {xs : List Value} (h : GrLS w base v L xs) (b : Below w.heap.size w w') : GrLS w' base v L xs := h.agr (.of_below b)
theorem GrLS.far {w : World} {base B o : Nat} {v u : Value} {L : List Lk} {xs : List Value} (h : GrLS w base v L xs) (hB : B < base) : GrLS (w.setCell ⟨B, o, none⟩ u) base v L xs := h.agr (agr_setS w (by omega))
theorem GrLS.step {w0 w1 w4 : World} {base : Nat} {v v' : Value} {L : List Lk} {xs : List Value} {S : Nat → Prop} {av bv : Value} {x : Lk} (h : GrLS w0 base v L xs) (hb : base ≤ w0.heap.size) (B : Below w0.heap.size w0 w1) (o : OwL w1 S av bv x)
  (hS : ∀ b, S b → w0.heap.size ≤ b ∧ b < w1.heap.size) (hrow : w4.ownsRow base 142 7 v' (L.length + 1) (xs ++ [.int .i64 x.a, .int .i64 x.ai, .int .i64 x.b, .int .i64 x.bi, .bool x.up, av, bv])) (hg : w1.grownBy w4 v.ownBlock) (hor : v'.ownBlock = v.ownBlock ∨ v'.ownBlock = some w1.heap.size) : GrLS w4 base v' (L ++ [x]) (xs ++ [.int .i64 x.a, .int .i64 x.ai, .int .i64 x.b, .int .i64 x.bi, .bool x.up, av, bv]) := by
 obtain ⟨hr, E, hE, hd⟩ := h; have hxl := hr.1; have hv := World.ownsRow.lt hr; have B' := B.size; have hg' := hg.size; refine ⟨by simpa using hrow, fun i => if i = L.length then S else E i, fun i hi => ?_, fun i j hi hj hne => ?_⟩
 ·dsimp only
  by_cases hi1 : i = L.length
  ·subst hi1
   rw [if_pos rfl, show (L ++ [x]).getD L.length l0 = x by simp [List.getD]]; refine ⟨fun b q => ⟨Nat.le_trans hb (hS b q).1, Nat.lt_of_lt_of_le (hS b q).2 hg'⟩, fun b q e => ?_, av, bv, o.agr ⟨hg', fun b q l => hg.block b l fun e => ?_⟩, by rw [List.getElem?_append_right (by omega), show L.length * 7 - xs.length = 0 by omega]; rfl, by rw [List.getElem?_append_right (by omega), show L.length * 7 + 1 - xs.length = 1 by omega]; rfl, by rw [List.getElem?_append_right (by omega), show L.length * 7 + 2 - xs.length = 2 by omega]; rfl, by rw [List.getElem?_append_right (by omega), show L.length * 7 + 3 - xs.length = 3 by omega]; rfl, by rw [List.getElem?_append_right (by omega), show L.length * 7 + 4 - xs.length = 4 by omega]; rfl, by rw [List.getElem?_append_right (by omega), show L.length * 7 + 5 - xs.length = 5 by omega]; rfl, by rw [List.getElem?_append_right (by omega), show L.length * 7 + 6 - xs.length = 6 by omega]; rfl⟩
   ·have hb1 := hS b q
    rcases hor with r | r
    ·have := (hv b (by rw [← r]; exact e)).2; omega
    ·rw [r] at e; cases e; omega
   ·have hb1 := hS b q
    have := (hv b e.symm).2; omega
  ·have hi2 : i < L.length := by simp at hi; omega
   obtain ⟨e1, e2, e3⟩ := hE i hi2; rw [if_neg hi1, show (L ++ [x]).getD i l0 = L.getD i l0 by simp [List.getD, List.getElem?_append_left hi2]]; refine ⟨fun b q => ⟨(e1 b q).1, by have := (e1 b q).2; omega⟩, fun b q e => ?_, (e3.agr ⟨by omega, fun b q l => ?_⟩).app _⟩
   ·rcases hor with r | r
    ·exact e2 b q (by rw [← r]; exact e)
    ·have := (e1 b q).2
     rw [r] at e; cases e; omega
   ·have := (e1 b q).2
    exact (hg.block b (by omega) (fun e => e2 b q e.symm)).trans (B.block b this)
 ·have hi' : i < L.length + 1 := by simpa using hi
  have hj' : j < L.length + 1 := by simpa using hj
  dsimp only
  by_cases hi1 : i = L.length
  ·have hj2 : j < L.length := by omega
   rw [if_pos hi1, if_neg (by omega)]; intro b q r; have h1 := hS b q; have h2 := ((hE j hj2).1 b r).2
   omega
  ·by_cases hj1 : j = L.length
   ·rw [if_neg hi1, if_pos hj1]
    intro b q r; have h1 := hS b r; have h2 := ((hE i (by omega)).1 b q).2
    omega
   ·rw [if_neg hi1, if_neg hj1]
    exact hd i j (by omega) (by omega) hne
theorem GrLS.own {w : World} {base : Nat} {v : Value} {L : List Lk} {xs : List Value} (h : GrLS w base v L xs) (hl : L.length ≤ 1048576) : OwLS w (Rg base w.heap.size) v L := by
 obtain ⟨hr, E, hE, hd⟩ := h; have hv := World.ownsRow.lt hr; refine ⟨hl, ?_⟩
 rcases hr.2 with ⟨rfl, hn⟩ | ⟨g, cap, cur, rfl, hb, hc, rest⟩
 ·exact .inl ⟨rfl, List.eq_nil_of_length_eq_zero hn⟩
 ·have hgl := hv g rfl
  refine .inr ⟨g, cap, xs, E, rfl, hgl, ⟨hgl.2, fun i x e => ?_, fun i hi => World.ownsRow.frozenAt hr i⟩, hr.1, fun i hi => ?_, hd⟩
  ·have hil : i < xs.length := (List.getElem?_eq_some_iff.1 e).1
   exact (World.ownsRow.cellAt hr i (by rw [← hr.1]; exact hil)).trans e
  ·obtain ⟨e1, e2, e3⟩ := hE i hi
   exact ⟨e1, fun q => e2 g q rfl, e3⟩
end Go.Proofs.YtbcmoofpgffbhabGreat
namespace Go.Proofs.YtbcmoofpgffbhabGreat
open Go.ChangeShapes Go.WideShapes Go.ChangeAt Go.RowKit Go.BigFrame Go.Joins
set_option linter.unusedVariables false
set_option maxRecDepth 100000
set_option linter.unusedSimpArgs false
set_option maxRecDepth 100000

end Go.Proofs.YtbcmoofpgffbhabGreat
namespace Go.Proofs.YtbcmoofpgffbhabGreat
open Go.ChangeShapes Go.WideShapes Go.ChangeAt Go.RowKit Go.BigFrame Go.Joins
set_option linter.unusedVariables false
set_option maxRecDepth 100000
set_option linter.unusedSimpArgs false
set_option maxRecDepth 100000

end Go.Proofs.YtbcmoofpgffbhabGreat
namespace Go.Proofs.YtbcmoofpgffbhabGreat
open Go.ChangeShapes Go.WideShapes Go.ChangeAt Go.RowKit Go.BigFrame Go.Joins
set_option linter.unusedVariables false
set_option maxRecDepth 100000
set_option linter.unusedSimpArgs false
set_option maxRecDepth 100000

theorem OwM.mono {w : World} {S T : Nat → Prop} {gv cv pv mv : Value} {x : Mg} (h : OwM w S gv cv pv mv x) (hs : ∀ b, S b → T b) : OwM w T gv cv pv mv x := by
 obtain ⟨S0, S1, S2, S3, s0, s1, s2, s3, h⟩ := h
 exact ⟨S0, S1, S2, S3, fun b q => hs b (s0 b q), fun b q => hs b (s1 b q), fun b q => hs b (s2 b q), fun b q => hs b (s3 b q), h⟩
end Go.Proofs.YtbcmoofpgffbhabGreat
namespace Go.Proofs.YtbcmoofpgffbhabGreat
open Go.ChangeShapes Go.WideShapes Go.ChangeAt Go.RowKit Go.BigFrame Go.Joins
set_option linter.unusedVariables false
set_option maxRecDepth 100000
set_option linter.unusedSimpArgs false
set_option maxRecDepth 100000

/-- block A holds ds, and the cells of block b from p on hold cs -/
def Src (w : World) (A b p : Nat) (ds cs : List Value) : Prop := Bl w A ds ∧ ∀ j u, cs[j]? = some u → w.cell? ⟨b, p + j, none⟩ = some u
theorem Src.keep {w w' : World} {A b p : Nat} {ds cs : List Value} (h : Src w A b p ds cs) (B : Below w.heap.size w w') : Src w' A b p ds cs := ⟨h.1.keep B, fun j u e => cell_keep B (World.block_lt_of_cell? w _ (h.2 j u e)) (h.2 j u e)⟩
theorem Src.grown {w w' : World} {A b p : Nat} {ds cs : List Value} {row : Option Nat} (h : Src w A b p ds cs) (g : w.grownBy w' row) (h1 : some A ≠ row) (h2 : some b ≠ row) : Src w' A b p ds cs :=
 ⟨h.1.grown g h1, fun j u e => (World.cell?_of_block (g.block b (World.block_lt_of_cell? w _ (h.2 j u e)) h2)).trans (h.2 j u e)⟩
theorem Src.far {w : World} {A b p B o : Nat} {u : Value} {ds cs : List Value} (h : Src w A b p ds cs) (h1 : B ≠ A) (h2 : B ≠ b) : Src (w.setCell ⟨B, o, none⟩ u) A b p ds cs :=
 h.grown (grown_set w B o u) (by intro e; cases e; exact h1 rfl) (by intro e; cases e; exact h2 rfl)
end Go.Proofs.YtbcmoofpgffbhabGreat
namespace Go.Proofs.YtbcmoofpgffbhabGreat
open Go.ChangeShapes Go.WideShapes Go.ChangeAt Go.RowKit Go.BigFrame Go.Joins
open List (setIfInBounds_toArray set_cons_succ set_cons_zero)
set_option linter.unusedVariables false
set_option maxRecDepth 100000
set_option linter.unusedSimpArgs false
set_option maxRecDepth 100000

/-- one direction of a link -/
structure Wy where
 fn : Int
 fi : Int
 tn : Int
 ti : Int
 up : Bool
 tr : List Mg
def y0 : Wy := ⟨0, 0, 0, 0, false, []⟩
instance : Inhabited Wy := ⟨y0⟩
/-- a pointer to a list of messages -/
def RdPt (w : World) (p : Value) (tr : List Mg) : Prop := ∃ b o v, p = .pointer (some ⟨b, o, none⟩) ∧ w.cell? ⟨b, o, none⟩ = some v ∧ RdMS w v tr
theorem RdPt.keep {w w' : World} {p : Value} {tr : List Mg} (h : RdPt w p tr) (hb : Below w.heap.size w w') : RdPt w' p tr := by
 obtain ⟨b, o, v, rfl, hc, hm⟩ := h
 exact ⟨b, o, v, rfl, cell_keep hb (World.block_lt_of_cell? w _ hc) hc, hm.keep hb⟩
def RdW (w : World) (pv : Value) (x : Wy) : Prop := RdPt w pv x.tr
theorem RdW.keep {w w' : World} {pv : Value} {x : Wy} (h : RdW w pv x) (hb : Below w.heap.size w w') : RdW w' pv x := by
 have h0 := h
 exact RdPt.keep h0 hb
/-- the cells of block b from o on hold it -/
def AtW (w : World) (b o : Nat) (x : Wy) : Prop :=
 ∃ pv, RdW w pv x ∧ w.cell? ⟨b, o, none⟩ = some (.int .i64 x.fn) ∧ w.cell? ⟨b, o + 1, none⟩ = some (.int .i64 x.fi) ∧ w.cell? ⟨b, o + 2, none⟩ = some (.int .i64 x.tn) ∧ w.cell? ⟨b, o + 3, none⟩ = some (.int .i64 x.ti) ∧ w.cell? ⟨b, o + 4, none⟩ = some (.bool x.up) ∧ w.cell? ⟨b, o + 5, none⟩ = some (pv)
theorem AtW.keep {w w' : World} {b o : Nat} {x : Wy} (h : AtW w b o x) (hb : Below w.heap.size w w') : AtW w' b o x := by
 obtain ⟨pv, hr, k0, k1, k2, k3, k4, k5⟩ := h
 exact ⟨pv, hr.keep hb, cell_keep hb (World.block_lt_of_cell? w _ k0) k0, cell_keep hb (World.block_lt_of_cell? w _ k1) k1, cell_keep hb (World.block_lt_of_cell? w _ k2) k2, cell_keep hb (World.block_lt_of_cell? w _ k3) k3, cell_keep hb (World.block_lt_of_cell? w _ k4) k4, cell_keep hb (World.block_lt_of_cell? w _ k5) k5⟩
def RdWS (w : World) (v : Value) (L : List Wy) : Prop :=
 L.length ≤ 9223372036854775807 ∧
 ((∃ a c, v = .slice a 0 c ∧ L = [] ∧ (a = none → c = 0)) ∨
  ∃ b o c, v = .slice (some ⟨b, o, none⟩) L.length c ∧ 0 < L.length ∧ ∀ i, i < L.length → AtW w b (o + i * 6) (L.getD i y0))
theorem RdWS.keep {w w' : World} {v : Value} {L : List Wy} (h : RdWS w v L) (hb : Below w.heap.size w w') : RdWS w' v L := by
 obtain ⟨h2, h3⟩ := h; refine ⟨h2, ?_⟩
 rcases h3 with h3 | ⟨b, o, c, hv, hp, hc⟩
 ·exact .inl h3
 ·exact .inr ⟨b, o, c, hv, hp, fun i hi => (hc i hi).keep hb⟩
theorem RdWS.len {w : World} {v : Value} {L : List Wy} (h : RdWS w v L) : ∃ a c, v = .slice a L.length c := by
 rcases h.2 with ⟨a, c, rfl, rfl, hac⟩ | ⟨b, o, c, rfl, _⟩
 ·exact ⟨a, c, rfl⟩
 ·exact ⟨_, c, rfl⟩
theorem RdWS.el {w : World} {v : Value} {L : List Wy} (h : RdWS w v L) : ∃ a c, v = .slice a L.length c ∧ ∀ i, i < L.length → ∃ b o, a = some ⟨b, o, none⟩ ∧ AtW w b (o + i * 6) (L.getD i y0) := by
 rcases h.2 with ⟨a, c, rfl, rfl, -⟩ | ⟨b, o, c, rfl, -, hc⟩
 ·exact ⟨a, c, rfl, fun i hi => absurd hi (by simp)⟩
 ·exact ⟨_, c, rfl, fun i hi => ⟨b, o, rfl, hc i hi⟩⟩
theorem RdWS.nil (w : World) : RdWS w (.slice none 0 0) [] := ⟨by simp, .inl ⟨none, 0, rfl, rfl, fun _ => rfl⟩⟩
def waysOf (x : Lk) : List Wy := [⟨x.a, x.ai, x.b, x.bi, x.up, x.ab⟩, ⟨x.b, x.bi, x.a, x.ai, x.up, x.ba⟩]
def waysL (L : List Lk) : List Wy := L.flatMap waysOf
theorem waysL_len (L : List Lk) : (waysL L).length = 2 * L.length := by
 induction L with
 | nil => rfl
 | cons x L ih => simp only [waysL, List.flatMap_cons, List.length_append, List.length_cons] at ih ⊢; rw [ih]; simp [waysOf]; omega
theorem waysL_take {L : List Lk} {k : Nat} (hk : k < L.length) : waysL (L.take (k + 1)) = waysL (L.take k) ++ waysOf (L.getD k l0) := by
 have hg : L[k] = L.getD k l0 := by simp [List.getD, hk]
 rw [List.take_add_one, List.getElem?_eq_getElem hk, hg]
 simp [waysL]
/-- a direction beside the pointer to its messages -/
structure WT where
 x : Wy
 p : Value
def cellsW (t : WT) : List Value := [.int .i64 t.x.fn, .int .i64 t.x.fi, .int .i64 t.x.tn, .int .i64 t.x.ti, .bool t.x.up, t.p]
def flatW (T : List WT) : List Value := T.flatMap cellsW
theorem flatW_len (T : List WT) : (flatW T).length = T.length * 6 := by
 induction T with
 | nil => rfl
 | cons t T ih => simp only [flatW, List.flatMap_cons, List.length_append, List.length_cons] at ih ⊢; rw [ih]; simp [cellsW]; omega
theorem flatW_append (S T : List WT) : flatW (S ++ T) = flatW S ++ flatW T := by simp [flatW]
theorem flatW_get (T : List WT) (i j : Nat) (hi : i < T.length) (hj : j < 6) : (flatW T)[i * 6 + j]? = (cellsW (T[i]'hi))[j]? := by
 induction T generalizing i with
 | nil => simp at hi
 | cons t T ih =>
  have e : flatW (t :: T) = cellsW t ++ flatW T := by simp [flatW]
  rw [e]; cases i with
  | zero =>
   rw [Nat.zero_mul, Nat.zero_add, List.getElem?_append_left (by simp [cellsW]; omega)]
   rfl
  | succ i =>
   rw [List.getElem?_append_right (by simp [cellsW]; omega), show (i + 1) * 6 + j - (cellsW t).length = i * 6 + j by simp [cellsW]; omega, ih i (by simpa using hi)]
   rfl
def wysT (T : List WT) : List Wy := T.map (·.x)
theorem wysT_len (T : List WT) : (wysT T).length = T.length := by simp [wysT]
theorem wysT_get {T : List WT} {i : Nat} (hi : i < T.length) : (wysT T).getD i y0 = (T[i]'hi).x := by simp [wysT, List.getD, hi]
theorem rowW_rd {w : World} {base : Nat} {v : Value} {T : List WT} (h : w.ownsRow base 151 6 v T.length (flatW T)) (hr : ∀ t ∈ T, RdPt w t.p t.x.tr) : RdWS w v (wysT T) := by
 rcases h.2 with ⟨rfl, hn⟩ | ⟨g, cap, cur, rfl, hb, hg, hnc, hcm, hcs, htake⟩
 ·have hT : T = [] := List.eq_nil_of_length_eq_zero hn
  subst hT
  exact RdWS.nil w
 ·rw [← wysT_len]
  refine ⟨by rw [wysT_len]; unfold maxLen at hcm; omega, ?_⟩
  by_cases hz : T.length = 0
  ·exact .inl ⟨some ⟨g, 0, none⟩, cap, by rw [wysT_len, hz], List.eq_nil_of_length_eq_zero (by rw [wysT_len, hz]), fun h => by cases h⟩
  ·refine .inr ⟨g, 0, cap, rfl, by rw [wysT_len]; omega, fun i hi => ?_⟩
   rw [wysT_len] at hi; have hm : T[i] ∈ T := List.getElem_mem hi; rw [wysT_get hi]
   have hc : ∀ j, j < 6 → w.cell? ⟨g, 0 + i * 6 + j, none⟩ = (cellsW T[i])[j]? := fun j hj => by
    rw [Nat.zero_add, h.cellAt (i * 6 + j) (by omega), flatW_get T i j hi hj]
   exact ⟨T[i].p, hr _ hm, hc 0 (by omega), hc 1 (by omega), hc 2 (by omega), hc 3 (by omega), hc 4 (by omega), hc 5 (by omega)⟩
theorem rowW_keep {w w' : World} {base n : Nat} {v : Value} {xs : List Value} (h : w.ownsRow base 151 6 v n xs) (hb : Below w.heap.size w w') : w'.ownsRow base 151 6 v n xs :=
 World.ownsRow.kept (row := none) h ⟨hb.os, hb.tape, hb.output, hb.size, fun k hk _ => hb.block k hk⟩ (by cases v.ownBlock <;> simp)
theorem below_growW {V w w' : World} {v : Value} {base n : Nat} {xs : List Value} (h : Below V.heap.size V w) (ho : w.ownsRow base 151 6 v n xs) (hb : V.heap.size ≤ base) (hg : w.grownBy w' v.ownBlock) : Below V.heap.size V w' :=
 Below.grown h hg h.size (fun k hk => Nat.le_trans hb (World.ownsRow.lt ho k hk).1)
theorem infoW2 : (Tryz.prog.info? 151).map (fun i => (i.zero, i.size, i.bytes)) = some (some (.agg #[.int .i64 0, .int .i64 0, .int .i64 0, .int .i64 0, .bool false, .pointer none]), 6, 48) := by kernel_rfl
/-- append(s, ways[:]...) -/
theorem wp_appW {ops : Array Oper} {rest : List Oper} {o : Oper} {a : Act} {Q : Exit → Act → World → Prop} {w : World} (hgd : o.guard = none) (s x : Operand)
  (ho : o.op = .call { callee := .builtin .append, args := #[s, x], argTypes := #[152, 152] })
  (base g c : Nat) (v : Value) (n : Nat) (xs : List Value) (ys : List Value) (hs : a.eval s = v) (hx : a.eval x = .slice (some ⟨g, 0, none⟩) 2 c) (hown : w.ownsRow base 151 6 v n xs)
  (h0 : Bl w g ys) (h7 : ys.length = 12) (h1 : ∀ u ∈ ys, u.oneCell' = true) (hlen : n + 2 ≤ 4294967296) (hbase : base ≤ w.heap.size)
  (h : ∀ v' w', w'.ownsRow base 151 6 v' (n + 2) (xs ++ ys) → w.grownBy w' v.ownBlock → wpList Tryz.prog ops Q rest (a.put o.dst v') w') : wpList Tryz.prog ops Q (o :: rest) a w := by
 obtain ⟨i0, hi, hz0, hz1, hz2⟩ := info_parts infoW2; refine wpList_append_own_at (w := w) hgd s x 152 ho base 151 i0 (.agg #[.int .i64 0, .int .i64 0, .int .i64 0, .int .i64 0, .bool false, .pointer none]) 6 48 Tryz.underlying152 hi hz0 hz1 hz2 rfl (by decide) v n xs hs hown ⟨g, 0, none⟩ 2 c ys hx (by omega) (fun j y hy => ?_) h1 (by unfold maxLen; omega) (by omega) hbase fun v' w' ho' hg' _ hor => h v' w' ho' hg'
 have hadd : ∀ j, (⟨g, 0, none⟩ : Addr).add j = ⟨g, j, none⟩ := fun j => by unfold Addr.add; split <;> simp_all
 rw [hadd]
 exact h0.c j hy
theorem cell_far {w : World} {B C o o' : Nat} {u v : Value} (h : C ≠ B) (e : w.cell? ⟨B, o', none⟩ = some v) : (w.setCell ⟨C, o, none⟩ u).cell? ⟨B, o', none⟩ = some v := by
 rw [World.cell?_setCell_other _ _ _ _ (by intro q; cases q; exact h rfl)]
 exact e
/-- what the first statement leaves: both ends in boxes of their own -/
def KeptEnds (V wx : World) (x : Lk) (p q : Value) : Prop := ∃ B C, p = .pointer (some ⟨B, 0, none⟩) ∧ q = .pointer (some ⟨C, 0, none⟩) ∧ Over V wx ∧ Bl wx B [.int .i64 x.a, .int .i64 x.ai] ∧ Bl wx C [.int .i64 x.b, .int .i64 x.bi] ∧ V.heap.size ≤ B ∧ V.heap.size ≤ C
set_option maxHeartbeats 4000000 in
theorem lways_any (b o : Nat) (x : Lk) (w : World) (h : AtL w b o x) :
  Calls Tryz.prog 236 #[.pointer (some ⟨b, o, none⟩)] w fun e w' => e = .returned (.agg #[.int .i64 x.a, .int .i64 x.ai, .int .i64 x.b, .int .i64 x.bi, .bool x.up, .pointer (some ⟨b, o + 5, none⟩), .int .i64 x.b, .int .i64 x.bi, .int .i64 x.a, .int .i64 x.ai, .bool x.up, .pointer (some ⟨b, o + 6, none⟩)]) ∧ Below w.heap.size w w' := by
 obtain ⟨av, bv, hr, k0, k1, k2, k3, k4, k5, k6⟩ := h; clear hr; have hbw := World.block_lt_of_cell? w _ k0; obtain ⟨bR, B0, z⟩ := one w [.int .i64 0, .int .i64 0, .int .i64 0, .int .i64 0, .bool false, .pointer none, .int .i64 0, .int .i64 0, .int .i64 0, .int .i64 0, .bool false, .pointer none] 248; replace k0 := cell_keep B0 hbw k0; replace k1 := cell_keep B0 hbw k1; replace k2 := cell_keep B0 hbw k2; replace k3 := cell_keep B0 hbw k3; replace k4 := cell_keep B0 hbw k4; replace k5 := cell_keep B0 hbw k5; replace k6 := cell_keep B0 hbw k6
 go_enter Tryz.func236, Tryz.ntmps236
 go_wp2_with fail; obtain ⟨V, hV⟩ : ∃ V, V = w.alloc (.cells #[.int .i64 0, .int .i64 0, .int .i64 0, .int .i64 0, .bool false, .pointer none, .int .i64 0, .int .i64 0, .int .i64 0, .int .i64 0, .bool false, .pointer none] 248) := ⟨_, rfl⟩; obtain ⟨R, hR⟩ : ∃ R, R = w.heap.size := ⟨_, rfl⟩; rw [← hV] at bR B0 z k0 k1 k2 k3 k4 k5 k6 ⊢; rw [← hR] at bR ⊢; have hRw : w.heap.size ≤ R := Nat.le_of_eq hR.symm; have hbV : b < V.heap.size := by omega
 have hRV := bR.lt; clear hV hR z
 go_cut [3, 4] from 5 to 22 (fun s3 s4 wx => KeptEnds V wx x s3 s4)
 case first =>
  refine wp_region_held_drew (S := fun w' => Over V w') (by kernel_rfl) (over_drew V) (fun hHeld => ?_); obtain ⟨u0, e0'⟩ : ∃ u, u = V.drew := ⟨_, rfl⟩; have O : Over V u0 := by rw [e0']; exact over_drew V
  rw [← e0']; clear e0' hHeld; refine tk 0 5 (v := ?_) O ?_ ?_; rotate_left
  ·intro wq hSq
   go_simp
   try rfl
  simp only [Act.put, setIfInBounds_toArray, set_cons_succ, set_cons_zero]; refine tk 1 6 (v := ?_) O ?_ ?_; rotate_left
  ·intro wq hSq
   go_simp
   try rfl
  simp only [Act.put, setIfInBounds_toArray, set_cons_succ, set_cons_zero]; refine tk 2 7 (v := ?_) O ?_ ?_; rotate_left
  ·intro wq hSq
   go_simp
   try rfl
  simp only [Act.put, setIfInBounds_toArray, set_cons_succ, set_cons_zero]; refine tk 3 8 (v := ?_) O ?_ ?_; rotate_left
  ·intro wq hSq
   have e0 := cell_keep hSq hbV k0
   go_simp
   try rfl
  simp only [Act.put, setIfInBounds_toArray, set_cons_succ, set_cons_zero]; refine tk 4 9 (v := ?_) O ?_ ?_; rotate_left
  ·intro wq hSq
   go_simp
   try rfl
  simp only [Act.put, setIfInBounds_toArray, set_cons_succ, set_cons_zero]; refine tk 5 10 (v := ?_) O ?_ ?_; rotate_left
  ·intro wq hSq
   go_simp
   try rfl
  simp only [Act.put, setIfInBounds_toArray, set_cons_succ, set_cons_zero]; refine tk 6 11 (v := ?_) O ?_ ?_; rotate_left
  ·intro wq hSq
   go_simp
   try rfl
  simp only [Act.put, setIfInBounds_toArray, set_cons_succ, set_cons_zero]; refine tk 7 12 (v := ?_) O ?_ ?_; rotate_left
  ·intro wq hSq
   have e1 := cell_keep hSq hbV k1
   go_simp
   try rfl
  simp only [Act.put, setIfInBounds_toArray, set_cons_succ, set_cons_zero]; refine tk 8 13 (v := ?_) O ?_ ?_; rotate_left
  ·intro wq hSq
   go_simp
   try rfl
  simp only [Act.put, setIfInBounds_toArray, set_cons_succ, set_cons_zero]; refine tk 9 14 (v := ?_) O ?_ ?_; rotate_left
  ·intro wq hSq
   go_simp
   try rfl
  simp only [Act.put, setIfInBounds_toArray, set_cons_succ, set_cons_zero]; refine tk 10 15 (v := ?_) O ?_ ?_; rotate_left
  ·intro wq hSq
   go_simp
   try rfl
  simp only [Act.put, setIfInBounds_toArray, set_cons_succ, set_cons_zero]; refine tk 11 16 (v := ?_) O ?_ ?_; rotate_left
  ·intro wq hSq
   go_simp
   try rfl
  simp only [Act.put, setIfInBounds_toArray, set_cons_succ, set_cons_zero]; refine tk 12 17 (v := ?_) O ?_ ?_; rotate_left
  ·intro wq hSq
   have e2 := cell_keep hSq hbV k2
   go_simp
   try rfl
  simp only [Act.put, setIfInBounds_toArray, set_cons_succ, set_cons_zero]; refine tk 13 18 (v := ?_) O ?_ ?_; rotate_left
  ·intro wq hSq
   go_simp
   try rfl
  simp only [Act.put, setIfInBounds_toArray, set_cons_succ, set_cons_zero]; refine tk 14 19 (v := ?_) O ?_ ?_; rotate_left
  ·intro wq hSq
   go_simp
   try rfl
  simp only [Act.put, setIfInBounds_toArray, set_cons_succ, set_cons_zero]; refine tk 15 20 (v := ?_) O ?_ ?_; rotate_left
  ·intro wq hSq
   go_simp
   try rfl
  simp only [Act.put, setIfInBounds_toArray, set_cons_succ, set_cons_zero]; refine tk 16 21 (v := ?_) O ?_ ?_; rotate_left
  ·intro wq hSq
   have e3 := cell_keep hSq hbV k3
   go_simp
   try rfl
  simp only [Act.put, setIfInBounds_toArray, set_cons_succ, set_cons_zero]; refine tk 17 22 (v := ?_) O ?_ ?_; rotate_left
  ·intro wq hSq
   go_simp
   try rfl
  simp only [Act.put, setIfInBounds_toArray, set_cons_succ, set_cons_zero]; refine wpAnyH_ready (rs := [18, 19]) (by kernel_rfl) (by simp) ?_; refine (AllReadyH.cons rfl (fun K hK => ?_) (AllReadyH.cons rfl (fun K hK => ?_) AllReadyH.nil))
  ·go_simp
   have hOB := O.size; obtain ⟨bB, hb, z⟩ := one u0 [.int .i64 0, .int .i64 0] 148; replace O := over_step O hb; clear z hb; refine hK.out _ _ O (fun _ => ?_); clear hK K
   try simp only [Act.put, setIfInBounds_toArray, set_cons_succ, set_cons_zero]
   obtain ⟨B, eB⟩ : ∃ B, B = u0.heap.size := ⟨_, rfl⟩; have hVB : V.heap.size ≤ B := by rw [eB]; exact hOB
   obtain ⟨u1, eW⟩ : ∃ u, u = u0.alloc (.cells #[.int .i64 0, .int .i64 0] 148) := ⟨_, rfl⟩; rw [← eW] at bB O ⊢; rw [← eB] at bB ⊢; clear eW eB hOB; refine rd1 19 fun K hK => ?_
   go_simp
   have hOC := O.size; have hlB := bB.lt; obtain ⟨bC, hb, z⟩ := one u1 [.int .i64 0, .int .i64 0] 148; replace O := over_step O hb; replace bB := bB.keep hb; have hltB := bB.lt; clear z hb; refine hK.out _ _ O (fun _ => ?_); clear hK K
   try simp only [Act.put, setIfInBounds_toArray, set_cons_succ, set_cons_zero]
   obtain ⟨C, eC⟩ : ∃ B, B = u1.heap.size := ⟨_, rfl⟩; have hVC : V.heap.size ≤ C := by rw [eC]; exact hOC
   obtain ⟨u2, eW⟩ : ∃ u, u = u1.alloc (.cells #[.int .i64 0, .int .i64 0] 148) := ⟨_, rfl⟩; rw [← eW] at bC O bB ⊢; rw [← eC] at bC ⊢; have hneq : B ≠ C := by omega
   clear eW eC hOC; have hBC : B ≠ C := hneq; have r0 := bB.c 0 rfl; have rf0 := bB.f 0 rfl; have r1 := bB.c 1 rfl; have rf1 := bB.f 1 rfl; refine rd1 20 fun K hK => ?_
   go_simp
   have O2 := Below.setCell (Below.setCell O (p := ⟨B, 0, none⟩) hVB (.int .i64 x.a)) (p := ⟨B, 1, none⟩) hVB (.int .i64 x.ai); refine hK.out _ _ O2 (fun _ => ?_); clear hK K r0 rf0 r1 rf1
   try simp only [Act.put, setIfInBounds_toArray, set_cons_succ, set_cons_zero]
   have bC1 := (bC.far (o := 0) (u := .int .i64 x.a) hBC.symm).far (o := 1) (u := .int .i64 x.ai) hBC.symm; have bB1 := (bB.set 0 (.int .i64 x.a)).set 1 (.int .i64 x.ai); have r0 := bC1.c 0 rfl; have rf0 := bC1.f 0 rfl; have r1 := bC1.c 1 rfl; have rf1 := bC1.f 1 rfl; refine rd1 21 fun K hK => ?_
   go_simp
   have O3 := Below.setCell (Below.setCell O2 (p := ⟨C, 0, none⟩) hVC (.int .i64 x.b)) (p := ⟨C, 1, none⟩) hVC (.int .i64 x.bi); refine hK.out _ _ O3 (fun _ => ?_); clear hK K r0 rf0 r1 rf1
   try simp only [Act.put, setIfInBounds_toArray, set_cons_succ, set_cons_zero]
   have bB2 := (bB1.far (o := 0) (u := .int .i64 x.b) hBC).far (o := 1) (u := .int .i64 x.bi) hBC; have bC2 := (bC1.set 0 (.int .i64 x.b)).set 1 (.int .i64 x.bi); refine wpAnyH_done (by kernel_rfl) ?_ _; go_wp2_with fail
   go_meet
   case rel => exact ⟨B, C, rfl, rfl, O3, bB2, bC2, hVB, hVC⟩
  ·go_simp
   have hOC := O.size; obtain ⟨bC, hb, z⟩ := one u0 [.int .i64 0, .int .i64 0] 148; replace O := over_step O hb; clear z hb; refine hK.out _ _ O (fun _ => ?_); clear hK K
   try simp only [Act.put, setIfInBounds_toArray, set_cons_succ, set_cons_zero]
   obtain ⟨C, eC⟩ : ∃ B, B = u0.heap.size := ⟨_, rfl⟩; have hVC : V.heap.size ≤ C := by rw [eC]; exact hOC
   obtain ⟨u1, eW⟩ : ∃ u, u = u0.alloc (.cells #[.int .i64 0, .int .i64 0] 148) := ⟨_, rfl⟩; rw [← eW] at bC O ⊢; rw [← eC] at bC ⊢; clear eW eC hOC; refine rd1 18 fun K hK => ?_
   go_simp
   have hOB := O.size; have hlC := bC.lt; obtain ⟨bB, hb, z⟩ := one u1 [.int .i64 0, .int .i64 0] 148; replace O := over_step O hb; replace bC := bC.keep hb; clear z hb; refine hK.out _ _ O (fun _ => ?_); clear hK K
   try simp only [Act.put, setIfInBounds_toArray, set_cons_succ, set_cons_zero]
   obtain ⟨B, eB⟩ : ∃ B, B = u1.heap.size := ⟨_, rfl⟩; have hVB : V.heap.size ≤ B := by rw [eB]; exact hOB
   obtain ⟨u2, eW⟩ : ∃ u, u = u1.alloc (.cells #[.int .i64 0, .int .i64 0] 148) := ⟨_, rfl⟩; rw [← eW] at bB O bC ⊢; rw [← eB] at bB ⊢; have hneq : B ≠ C := by omega
   clear eW eB hOB; have hBC : B ≠ C := hneq; have r0 := bB.c 0 rfl; have rf0 := bB.f 0 rfl; have r1 := bB.c 1 rfl; have rf1 := bB.f 1 rfl; refine rd1 20 fun K hK => ?_
   go_simp
   have O2 := Below.setCell (Below.setCell O (p := ⟨B, 0, none⟩) hVB (.int .i64 x.a)) (p := ⟨B, 1, none⟩) hVB (.int .i64 x.ai); refine hK.out _ _ O2 (fun _ => ?_); clear hK K r0 rf0 r1 rf1
   try simp only [Act.put, setIfInBounds_toArray, set_cons_succ, set_cons_zero]
   have bC1 := (bC.far (o := 0) (u := .int .i64 x.a) hBC.symm).far (o := 1) (u := .int .i64 x.ai) hBC.symm; have bB1 := (bB.set 0 (.int .i64 x.a)).set 1 (.int .i64 x.ai); have r0 := bC1.c 0 rfl; have rf0 := bC1.f 0 rfl; have r1 := bC1.c 1 rfl; have rf1 := bC1.f 1 rfl; refine rd1 21 fun K hK => ?_
   go_simp
   have O3 := Below.setCell (Below.setCell O2 (p := ⟨C, 0, none⟩) hVC (.int .i64 x.b)) (p := ⟨C, 1, none⟩) hVC (.int .i64 x.bi); refine hK.out _ _ O3 (fun _ => ?_); clear hK K r0 rf0 r1 rf1
   try simp only [Act.put, setIfInBounds_toArray, set_cons_succ, set_cons_zero]
   have bB2 := (bB1.far (o := 0) (u := .int .i64 x.b) hBC).far (o := 1) (u := .int .i64 x.bi) hBC; have bC2 := (bC1.set 0 (.int .i64 x.b)).set 1 (.int .i64 x.bi); refine wpAnyH_done (by kernel_rfl) ?_ _; go_wp2_with fail
   go_meet
   case rel => exact ⟨B, C, rfl, rfl, O3, bB2, bC2, hVB, hVC⟩
 case rest =>
  obtain ⟨V2, rfl⟩ : ∃ x : World, x = wc := ⟨_, rfl⟩; obtain ⟨B, C, rfl, rfl, OV, bB, bC, hVB, hVC⟩ := hcut; replace k0 := cell_keep OV hbV k0; replace k1 := cell_keep OV hbV k1; replace k2 := cell_keep OV hbV k2; replace k3 := cell_keep OV hbV k3; replace k4 := cell_keep OV hbV k4; replace k5 := cell_keep OV hbV k5; replace k6 := cell_keep OV hbV k6; replace bR := bR.keep OV; replace B0 := below_step B0 OV; have hbR : b ≠ R := by omega
  have hBR : B ≠ R := by omega
  have hCR : C ≠ R := by omega
  go_wp2_with fail; refine wp_region_held_drew (S := fun w' => Bl w' B [.int .i64 x.a, .int .i64 x.ai] ∧ Bl w' C [.int .i64 x.b, .int .i64 x.bi] ∧ w'.cell? ⟨b, o, none⟩ = some (.int .i64 x.a) ∧ w'.cell? ⟨b, o + 1, none⟩ = some (.int .i64 x.ai) ∧ w'.cell? ⟨b, o + 2, none⟩ = some (.int .i64 x.b) ∧ w'.cell? ⟨b, o + 3, none⟩ = some (.int .i64 x.bi) ∧ w'.cell? ⟨b, o + 4, none⟩ = some (.bool x.up) ∧ w'.cell? ⟨b, o + 5, none⟩ = some (av) ∧ w'.cell? ⟨b, o + 6, none⟩ = some (bv)) (by kernel_rfl) ⟨bB.keep (over_drew V2), bC.keep (over_drew V2), cell_keep (over_drew V2) (by have := OV.size; omega) k0, cell_keep (over_drew V2) (by have := OV.size; omega) k1, cell_keep (over_drew V2) (by have := OV.size; omega) k2, cell_keep (over_drew V2) (by have := OV.size; omega) k3, cell_keep (over_drew V2) (by have := OV.size; omega) k4, cell_keep (over_drew V2) (by have := OV.size; omega) k5, cell_keep (over_drew V2) (by have := OV.size; omega) k6⟩ (fun hHeld => ?_); obtain ⟨u0, e0'⟩ : ∃ u, u = V2.drew := ⟨_, rfl⟩; have O2 : Over V2 u0 := by rw [e0']; exact over_drew V2
  rw [← e0']; clear e0' hHeld; replace bB := bB.keep O2; replace bC := bC.keep O2; replace bR := bR.keep O2; replace B0 := below_step B0 O2; replace k0 := cell_keep O2 (by have := OV.size; omega) k0; replace k1 := cell_keep O2 (by have := OV.size; omega) k1; replace k2 := cell_keep O2 (by have := OV.size; omega) k2; replace k3 := cell_keep O2 (by have := OV.size; omega) k3; replace k4 := cell_keep O2 (by have := OV.size; omega) k4; replace k5 := cell_keep O2 (by have := OV.size; omega) k5; replace k6 := cell_keep O2 (by have := OV.size; omega) k6; have O : Bl u0 B [.int .i64 x.a, .int .i64 x.ai] ∧ Bl u0 C [.int .i64 x.b, .int .i64 x.bi] ∧ u0.cell? ⟨b, o, none⟩ = some (.int .i64 x.a) ∧ u0.cell? ⟨b, o + 1, none⟩ = some (.int .i64 x.ai) ∧ u0.cell? ⟨b, o + 2, none⟩ = some (.int .i64 x.b) ∧ u0.cell? ⟨b, o + 3, none⟩ = some (.int .i64 x.bi) ∧ u0.cell? ⟨b, o + 4, none⟩ = some (.bool x.up) ∧ u0.cell? ⟨b, o + 5, none⟩ = some (av) ∧ u0.cell? ⟨b, o + 6, none⟩ = some (bv) := ⟨bB, bC, k0, k1, k2, k3, k4, k5, k6⟩; refine tk 0 23 (v := ?_) O ?_ ?_; rotate_left
  ·intro wq hSq
   obtain ⟨hq1, hq2, e0, e1, e2, e3, e4, e5, e6⟩ := hSq; have m0 := hq1.c 0 rfl; have m1 := hq1.c 1 rfl; have n0 := hq2.c 0 rfl; have n1 := hq2.c 1 rfl
   go_simp
   try rfl
  simp only [Act.put, setIfInBounds_toArray, set_cons_succ, set_cons_zero]; refine tk 1 24 (v := ?_) O ?_ ?_; rotate_left
  ·intro wq hSq
   obtain ⟨hq1, hq2, e0, e1, e2, e3, e4, e5, e6⟩ := hSq; have m0 := hq1.c 0 rfl; have m1 := hq1.c 1 rfl; have n0 := hq2.c 0 rfl; have n1 := hq2.c 1 rfl
   go_simp
   try rfl
  simp only [Act.put, setIfInBounds_toArray, set_cons_succ, set_cons_zero]; refine tk 2 25 (v := ?_) O ?_ ?_; rotate_left
  ·intro wq hSq
   go_simp
   try rfl
  simp only [Act.put, setIfInBounds_toArray, set_cons_succ, set_cons_zero]; refine tk 3 26 (v := ?_) O ?_ ?_; rotate_left
  ·intro wq hSq
   go_simp
   try rfl
  simp only [Act.put, setIfInBounds_toArray, set_cons_succ, set_cons_zero]; refine tk 4 27 (v := ?_) O ?_ ?_; rotate_left
  ·intro wq hSq
   go_simp
   try rfl
  simp only [Act.put, setIfInBounds_toArray, set_cons_succ, set_cons_zero]; refine tk 5 28 (v := ?_) O ?_ ?_; rotate_left
  ·intro wq hSq
   obtain ⟨hq1, hq2, e0, e1, e2, e3, e4, e5, e6⟩ := hSq; have m0 := hq1.c 0 rfl; have m1 := hq1.c 1 rfl; have n0 := hq2.c 0 rfl; have n1 := hq2.c 1 rfl
   go_simp
   try rfl
  simp only [Act.put, setIfInBounds_toArray, set_cons_succ, set_cons_zero]; refine tk 6 29 (v := ?_) O ?_ ?_; rotate_left
  ·intro wq hSq
   go_simp
   try rfl
  simp only [Act.put, setIfInBounds_toArray, set_cons_succ, set_cons_zero]; refine tk 7 30 (v := ?_) O ?_ ?_; rotate_left
  ·intro wq hSq
   go_simp
   try rfl
  simp only [Act.put, setIfInBounds_toArray, set_cons_succ, set_cons_zero]; refine tk 8 31 (v := ?_) O ?_ ?_; rotate_left
  ·intro wq hSq
   go_simp
   try rfl
  simp only [Act.put, setIfInBounds_toArray, set_cons_succ, set_cons_zero]; refine tk 9 32 (v := ?_) O ?_ ?_; rotate_left
  ·intro wq hSq
   go_simp
   try rfl
  simp only [Act.put, setIfInBounds_toArray, set_cons_succ, set_cons_zero]; refine tk 10 33 (v := ?_) O ?_ ?_; rotate_left
  ·intro wq hSq
   obtain ⟨hq1, hq2, e0, e1, e2, e3, e4, e5, e6⟩ := hSq; have m0 := hq1.c 0 rfl; have m1 := hq1.c 1 rfl; have n0 := hq2.c 0 rfl; have n1 := hq2.c 1 rfl
   go_simp
   try rfl
  simp only [Act.put, setIfInBounds_toArray, set_cons_succ, set_cons_zero]; refine tk 11 34 (v := ?_) O ?_ ?_; rotate_left
  ·intro wq hSq
   obtain ⟨hq1, hq2, e0, e1, e2, e3, e4, e5, e6⟩ := hSq; have m0 := hq1.c 0 rfl; have m1 := hq1.c 1 rfl; have n0 := hq2.c 0 rfl; have n1 := hq2.c 1 rfl
   go_simp
   try rfl
  simp only [Act.put, setIfInBounds_toArray, set_cons_succ, set_cons_zero]; refine tk 12 35 (v := ?_) O ?_ ?_; rotate_left
  ·intro wq hSq
   go_simp
   try rfl
  simp only [Act.put, setIfInBounds_toArray, set_cons_succ, set_cons_zero]; refine tk 13 36 (v := ?_) O ?_ ?_; rotate_left
  ·intro wq hSq
   go_simp
   try rfl
  simp only [Act.put, setIfInBounds_toArray, set_cons_succ, set_cons_zero]; refine tk 14 37 (v := ?_) O ?_ ?_; rotate_left
  ·intro wq hSq
   go_simp
   try rfl
  simp only [Act.put, setIfInBounds_toArray, set_cons_succ, set_cons_zero]; refine tk 15 38 (v := ?_) O ?_ ?_; rotate_left
  ·intro wq hSq
   obtain ⟨hq1, hq2, e0, e1, e2, e3, e4, e5, e6⟩ := hSq; have m0 := hq1.c 0 rfl; have m1 := hq1.c 1 rfl; have n0 := hq2.c 0 rfl; have n1 := hq2.c 1 rfl
   go_simp
   try rfl
  simp only [Act.put, setIfInBounds_toArray, set_cons_succ, set_cons_zero]; refine tk 16 39 (v := ?_) O ?_ ?_; rotate_left
  ·intro wq hSq
   go_simp
   try rfl
  simp only [Act.put, setIfInBounds_toArray, set_cons_succ, set_cons_zero]; refine tk 17 40 (v := ?_) O ?_ ?_; rotate_left
  ·intro wq hSq
   go_simp
   try rfl
  simp only [Act.put, setIfInBounds_toArray, set_cons_succ, set_cons_zero]; refine tk 18 41 (v := ?_) O ?_ ?_; rotate_left
  ·intro wq hSq
   go_simp
   try rfl
  simp only [Act.put, setIfInBounds_toArray, set_cons_succ, set_cons_zero]; refine tk 19 42 (v := ?_) O ?_ ?_; rotate_left
  ·intro wq hSq
   go_simp
   try rfl
  simp only [Act.put, setIfInBounds_toArray, set_cons_succ, set_cons_zero]; refine tk 20 43 (v := ?_) O ?_ ?_; rotate_left
  ·intro wq hSq
   go_simp
   try rfl
  simp only [Act.put, setIfInBounds_toArray, set_cons_succ, set_cons_zero]; have r0 := bR.c 0 rfl; have rf0 := bR.f 0 rfl; have r1 := bR.c 1 rfl; have rf1 := bR.f 1 rfl; have r2 := bR.c 2 rfl; have rf2 := bR.f 2 rfl; have r3 := bR.c 3 rfl; have rf3 := bR.f 3 rfl; have r4 := bR.c 4 rfl; have rf4 := bR.f 4 rfl; have r5 := bR.c 5 rfl; have rf5 := bR.f 5 rfl; have r6 := bR.c 6 rfl; have rf6 := bR.f 6 rfl; have r7 := bR.c 7 rfl; have rf7 := bR.f 7 rfl; have r8 := bR.c 8 rfl; have rf8 := bR.f 8 rfl; have r9 := bR.c 9 rfl; have rf9 := bR.f 9 rfl; have r10 := bR.c 10 rfl; have rf10 := bR.f 10 rfl; have r11 := bR.c 11 rfl; have rf11 := bR.f 11 rfl; refine rd1 21 fun K hK => ?_
  go_simp
  refine hK.out _ _ ⟨((((((((((((bB.far (o := 0) (u := .int .i64 x.a) hBR).far (o := 1) (u := .int .i64 x.ai) hBR).far (o := 2) (u := .int .i64 x.b) hBR).far (o := 3) (u := .int .i64 x.bi) hBR).far (o := 4) (u := .bool x.up) hBR).far (o := 5) (u := .pointer (some ⟨b, o + 5, none⟩)) hBR).far (o := 6) (u := .int .i64 x.b) hBR).far (o := 7) (u := .int .i64 x.bi) hBR).far (o := 8) (u := .int .i64 x.a) hBR).far (o := 9) (u := .int .i64 x.ai) hBR).far (o := 10) (u := .bool x.up) hBR).far (o := 11) (u := .pointer (some ⟨b, o + 6, none⟩)) hBR), ((((((((((((bC.far (o := 0) (u := .int .i64 x.a) hCR).far (o := 1) (u := .int .i64 x.ai) hCR).far (o := 2) (u := .int .i64 x.b) hCR).far (o := 3) (u := .int .i64 x.bi) hCR).far (o := 4) (u := .bool x.up) hCR).far (o := 5) (u := .pointer (some ⟨b, o + 5, none⟩)) hCR).far (o := 6) (u := .int .i64 x.b) hCR).far (o := 7) (u := .int .i64 x.bi) hCR).far (o := 8) (u := .int .i64 x.a) hCR).far (o := 9) (u := .int .i64 x.ai) hCR).far (o := 10) (u := .bool x.up) hCR).far (o := 11) (u := .pointer (some ⟨b, o + 6, none⟩)) hCR), (cell_far (u := .pointer (some ⟨b, o + 6, none⟩)) (o := 11) hbR.symm (cell_far (u := .bool x.up) (o := 10) hbR.symm (cell_far (u := .int .i64 x.ai) (o := 9) hbR.symm (cell_far (u := .int .i64 x.a) (o := 8) hbR.symm (cell_far (u := .int .i64 x.bi) (o := 7) hbR.symm (cell_far (u := .int .i64 x.b) (o := 6) hbR.symm (cell_far (u := .pointer (some ⟨b, o + 5, none⟩)) (o := 5) hbR.symm (cell_far (u := .bool x.up) (o := 4) hbR.symm (cell_far (u := .int .i64 x.bi) (o := 3) hbR.symm (cell_far (u := .int .i64 x.b) (o := 2) hbR.symm (cell_far (u := .int .i64 x.ai) (o := 1) hbR.symm (cell_far (u := .int .i64 x.a) (o := 0) hbR.symm k0)))))))))))), (cell_far (u := .pointer (some ⟨b, o + 6, none⟩)) (o := 11) hbR.symm (cell_far (u := .bool x.up) (o := 10) hbR.symm (cell_far (u := .int .i64 x.ai) (o := 9) hbR.symm (cell_far (u := .int .i64 x.a) (o := 8) hbR.symm (cell_far (u := .int .i64 x.bi) (o := 7) hbR.symm (cell_far (u := .int .i64 x.b) (o := 6) hbR.symm (cell_far (u := .pointer (some ⟨b, o + 5, none⟩)) (o := 5) hbR.symm (cell_far (u := .bool x.up) (o := 4) hbR.symm (cell_far (u := .int .i64 x.bi) (o := 3) hbR.symm (cell_far (u := .int .i64 x.b) (o := 2) hbR.symm (cell_far (u := .int .i64 x.ai) (o := 1) hbR.symm (cell_far (u := .int .i64 x.a) (o := 0) hbR.symm k1)))))))))))), (cell_far (u := .pointer (some ⟨b, o + 6, none⟩)) (o := 11) hbR.symm (cell_far (u := .bool x.up) (o := 10) hbR.symm (cell_far (u := .int .i64 x.ai) (o := 9) hbR.symm (cell_far (u := .int .i64 x.a) (o := 8) hbR.symm (cell_far (u := .int .i64 x.bi) (o := 7) hbR.symm (cell_far (u := .int .i64 x.b) (o := 6) hbR.symm (cell_far (u := .pointer (some ⟨b, o + 5, none⟩)) (o := 5) hbR.symm (cell_far (u := .bool x.up) (o := 4) hbR.symm (cell_far (u := .int .i64 x.bi) (o := 3) hbR.symm (cell_far (u := .int .i64 x.b) (o := 2) hbR.symm (cell_far (u := .int .i64 x.ai) (o := 1) hbR.symm (cell_far (u := .int .i64 x.a) (o := 0) hbR.symm k2)))))))))))), (cell_far (u := .pointer (some ⟨b, o + 6, none⟩)) (o := 11) hbR.symm (cell_far (u := .bool x.up) (o := 10) hbR.symm (cell_far (u := .int .i64 x.ai) (o := 9) hbR.symm (cell_far (u := .int .i64 x.a) (o := 8) hbR.symm (cell_far (u := .int .i64 x.bi) (o := 7) hbR.symm (cell_far (u := .int .i64 x.b) (o := 6) hbR.symm (cell_far (u := .pointer (some ⟨b, o + 5, none⟩)) (o := 5) hbR.symm (cell_far (u := .bool x.up) (o := 4) hbR.symm (cell_far (u := .int .i64 x.bi) (o := 3) hbR.symm (cell_far (u := .int .i64 x.b) (o := 2) hbR.symm (cell_far (u := .int .i64 x.ai) (o := 1) hbR.symm (cell_far (u := .int .i64 x.a) (o := 0) hbR.symm k3)))))))))))), (cell_far (u := .pointer (some ⟨b, o + 6, none⟩)) (o := 11) hbR.symm (cell_far (u := .bool x.up) (o := 10) hbR.symm (cell_far (u := .int .i64 x.ai) (o := 9) hbR.symm (cell_far (u := .int .i64 x.a) (o := 8) hbR.symm (cell_far (u := .int .i64 x.bi) (o := 7) hbR.symm (cell_far (u := .int .i64 x.b) (o := 6) hbR.symm (cell_far (u := .pointer (some ⟨b, o + 5, none⟩)) (o := 5) hbR.symm (cell_far (u := .bool x.up) (o := 4) hbR.symm (cell_far (u := .int .i64 x.bi) (o := 3) hbR.symm (cell_far (u := .int .i64 x.b) (o := 2) hbR.symm (cell_far (u := .int .i64 x.ai) (o := 1) hbR.symm (cell_far (u := .int .i64 x.a) (o := 0) hbR.symm k4)))))))))))), (cell_far (u := .pointer (some ⟨b, o + 6, none⟩)) (o := 11) hbR.symm (cell_far (u := .bool x.up) (o := 10) hbR.symm (cell_far (u := .int .i64 x.ai) (o := 9) hbR.symm (cell_far (u := .int .i64 x.a) (o := 8) hbR.symm (cell_far (u := .int .i64 x.bi) (o := 7) hbR.symm (cell_far (u := .int .i64 x.b) (o := 6) hbR.symm (cell_far (u := .pointer (some ⟨b, o + 5, none⟩)) (o := 5) hbR.symm (cell_far (u := .bool x.up) (o := 4) hbR.symm (cell_far (u := .int .i64 x.bi) (o := 3) hbR.symm (cell_far (u := .int .i64 x.b) (o := 2) hbR.symm (cell_far (u := .int .i64 x.ai) (o := 1) hbR.symm (cell_far (u := .int .i64 x.a) (o := 0) hbR.symm k5)))))))))))), (cell_far (u := .pointer (some ⟨b, o + 6, none⟩)) (o := 11) hbR.symm (cell_far (u := .bool x.up) (o := 10) hbR.symm (cell_far (u := .int .i64 x.ai) (o := 9) hbR.symm (cell_far (u := .int .i64 x.a) (o := 8) hbR.symm (cell_far (u := .int .i64 x.bi) (o := 7) hbR.symm (cell_far (u := .int .i64 x.b) (o := 6) hbR.symm (cell_far (u := .pointer (some ⟨b, o + 5, none⟩)) (o := 5) hbR.symm (cell_far (u := .bool x.up) (o := 4) hbR.symm (cell_far (u := .int .i64 x.bi) (o := 3) hbR.symm (cell_far (u := .int .i64 x.b) (o := 2) hbR.symm (cell_far (u := .int .i64 x.ai) (o := 1) hbR.symm (cell_far (u := .int .i64 x.a) (o := 0) hbR.symm k6))))))))))))⟩ (fun _ => ?_); clear hK K r0 rf0 r1 rf1 r2 rf2 r3 rf3 r4 rf4 r5 rf5 r6 rf6 r7 rf7 r8 rf8 r9 rf9 r10 rf10 r11 rf11
  try simp only [Act.put, setIfInBounds_toArray, set_cons_succ, set_cons_zero]
  refine wpAnyH_done (by kernel_rfl) ?_ _; have bE := ((((((((((((bR.set 0 (.int .i64 x.a)).set 1 (.int .i64 x.ai)).set 2 (.int .i64 x.b)).set 3 (.int .i64 x.bi)).set 4 (.bool x.up)).set 5 (.pointer (some ⟨b, o + 5, none⟩))).set 6 (.int .i64 x.b)).set 7 (.int .i64 x.bi)).set 8 (.int .i64 x.a)).set 9 (.int .i64 x.ai)).set 10 (.bool x.up)).set 11 (.pointer (some ⟨b, o + 6, none⟩))); have y0 := bE.c 0 rfl; have y1 := bE.c 1 rfl; have y2 := bE.c 2 rfl; have y3 := bE.c 3 rfl; have y4 := bE.c 4 rfl; have y5 := bE.c 5 rfl; have y6 := bE.c 6 rfl; have y7 := bE.c 7 rfl; have y8 := bE.c 8 rfl; have y9 := bE.c 9 rfl; have y10 := bE.c 10 rfl; have y11 := bE.c 11 rfl; go_wp2_with fail
  exact bodyPost_ret (v := .agg #[.int .i64 x.a, .int .i64 x.ai, .int .i64 x.b, .int .i64 x.bi, .bool x.up, .pointer (some ⟨b, o + 5, none⟩), .int .i64 x.b, .int .i64 x.bi, .int .i64 x.a, .int .i64 x.ai, .bool x.up, .pointer (some ⟨b, o + 6, none⟩)]) (by simp [results, Tryz.results236, go_sem, y0, y1, y2, y3, y4, y5, y6, y7, y8, y9, y10, y11]) rfl ⟨rfl, (Below.setCell (Below.setCell (Below.setCell (Below.setCell (Below.setCell (Below.setCell (Below.setCell (Below.setCell (Below.setCell (Below.setCell (Below.setCell (Below.setCell B0 (p := ⟨R, 0, none⟩) hRw (.int .i64 x.a)) (p := ⟨R, 1, none⟩) hRw (.int .i64 x.ai)) (p := ⟨R, 2, none⟩) hRw (.int .i64 x.b)) (p := ⟨R, 3, none⟩) hRw (.int .i64 x.bi)) (p := ⟨R, 4, none⟩) hRw (.bool x.up)) (p := ⟨R, 5, none⟩) hRw (.pointer (some ⟨b, o + 5, none⟩))) (p := ⟨R, 6, none⟩) hRw (.int .i64 x.b)) (p := ⟨R, 7, none⟩) hRw (.int .i64 x.bi)) (p := ⟨R, 8, none⟩) hRw (.int .i64 x.a)) (p := ⟨R, 9, none⟩) hRw (.int .i64 x.ai)) (p := ⟨R, 10, none⟩) hRw (.bool x.up)) (p := ⟨R, 11, none⟩) hRw (.pointer (some ⟨b, o + 6, none⟩)))⟩
end Go.Proofs.YtbcmoofpgffbhabGreat
