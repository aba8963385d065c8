/-
  Switches and links: lists of one's own, and marks on them. Conditions: those in each contract.
  Switches, links and fabrics that the laws copy: memory of their own. Conditions: those in each contract.
  Marks on fabrics. Conditions: those in each contract.
-/
import Derived.Test.YtkodnipmogdgkaaGreatFTf
namespace Go.Proofs.YtkodnipmogdgkaaGreat
open Go.ChangeShapes Go.WideShapes Go.ChangeAt Go.RowKit Go.BigFrame Go.Joins
set_option linter.unusedVariables false
set_option maxRecDepth 100000
set_option maxRecDepth 100000
set_option linter.unusedSimpArgs false
set_option maxRecDepth 100000

/-- rows of entries -/
def OwQE (w : World) (S : Nat → Prop) (v : Value) (l : List Ent) : Prop := OwQS w S v l
theorem OwQE.agr {w w' : World} {S : Nat → Prop} {v : Value} {l : List Ent} (h : OwQE w S v l) (a : AgrS S w w') : OwQE w' S v l := OwQS.agr h a
theorem OwQE.rd {w : World} {S : Nat → Prop} {v : Value} {l : List Ent} (h : OwQE w S v l) : RdE w v l := rdE_of (OwQS.rd h)
def cntQE (l : List Ent) : Nat := cntQS l
def MkQE (k : Int) (l : List Ent) : Prop := MkQS k l
theorem mkQE_any (v : Value) (l : List Ent) (k : Int) (S : Nat → Prop) (w : World) (h : OwQE w S v l) (hk0 : 0 ≤ k) (hk : k + (cntQE l : Nat) ≤ 40000000) :
  Calls Tryz.prog 56 #[v, .int .i64 k] w fun e w' => ∃ l', e = .returned (.int .i64 (k + (cntQE l : Nat))) ∧ cntQE l' = cntQE l ∧ l'.length = l.length ∧ MkQE k l' ∧ OwQE w' S v l' ∧ MidS S w w' := mkQS_any v l k S w h hk0 hk
theorem hdQE_any (v : Value) (l : List Ent) (k : Int) (w : World) (h : RdE w v l) (hm : MkQE k l) (hk0 : 0 ≤ k) (hk : k + (cntQE l : Nat) ≤ 40000000) :
  Calls Tryz.prog 85 #[v, .int .i64 k] w fun e w' => e = .returned (.int .i64 (k + (cntQE l : Nat))) ∧ Below w.heap.size w w' := hdQS_any v l k w (rdQ_of h) hm hk0 hk
def OwN (w : World) (S : Nat → Prop) (ov rv sv : Value) (x : Nd) : Prop := ∃ S0 S1 S2 : Nat → Prop, (∀ b, S0 b → S b) ∧ (∀ b, S1 b → S b) ∧ (∀ b, S2 b → S b) ∧ Dj S0 S1 ∧ Dj S0 S2 ∧ Dj S1 S2 ∧ OwPr w S0 ov x.own ∧ OwQE w S1 rv x.rib ∧ OwQE w S2 sv x.sent
theorem OwN.agr {w w' : World} {S : Nat → Prop} {ov rv sv : Value} {x : Nd} (h : OwN w S ov rv sv x) (a : AgrS S w w') : OwN w' S ov rv sv x := by
 obtain ⟨S0, S1, S2, sb0, sb1, sb2, dj01, dj02, dj12, h0, h1, h2⟩ := h
 exact ⟨S0, S1, S2, sb0, sb1, sb2, dj01, dj02, dj12, h0.agr (a.sub sb0), h1.agr (a.sub sb1), h2.agr (a.sub sb2)⟩
theorem OwN.rd {w : World} {S : Nat → Prop} {ov rv sv : Value} {x : Nd} (h : OwN w S ov rv sv x) : RdN w ov rv sv x := by
 obtain ⟨S0, S1, S2, -, -, -, -, -, -, h0, h1, h2⟩ := h
 exact ⟨h0.rd, h1.rd, h2.rd⟩
def cntN (x : Nd) : Nat := 3 + cntP x.own + cntQE x.rib + cntQE x.sent
def MkN (k : Int) (x : Nd) : Prop := x.an = k ∧ MkP (k + 1) x.own ∧ x.bw = k + 1 + (cntP x.own : Nat) ∧ x.dr = modB (k + 1 + (cntP x.own : Nat) + 1) ∧ MkQE (k + 1 + (cntP x.own : Nat) + 1 + 1) x.rib ∧ MkQE (k + 1 + (cntP x.own : Nat) + 1 + 1 + (cntQE x.rib : Nat)) x.sent
/-- element i of the cells xs is that, its rows lie in blocks of E -/
def ElN (xs : List Value) (w : World) (E : Nat → Prop) (i : Nat) (x : Nd) : Prop := ∃ ov rv sv, OwN w E ov rv sv x ∧ xs[i * 6]? = some (.int .i64 x.an) ∧ xs[i * 6 + 1]? = some (ov) ∧ xs[i * 6 + 2]? = some (.int .i64 x.bw) ∧ xs[i * 6 + 3]? = some (.bool x.dr) ∧ xs[i * 6 + 4]? = some (rv) ∧ xs[i * 6 + 5]? = some (sv)
def OwNS (w : World) (S : Nat → Prop) (v : Value) (L : List Nd) : Prop :=
 L.length ≤ 1048576 ∧ ((v = .slice none 0 0 ∧ L = []) ∨ ∃ (g cap : Nat) (xs : List Value) (E : Nat → Nat → Prop), v = .slice (some ⟨g, 0, none⟩) L.length cap ∧ S g ∧ Bl w g xs ∧ xs.length = L.length * 6 ∧
  (∀ i, i < L.length → (∀ b, E i b → S b) ∧ ¬ E i g ∧ ElN xs w (E i) i (L.getD i n0)) ∧ ∀ i j, i < L.length → j < L.length → i ≠ j → Dj (E i) (E j))
theorem OwNS.agr {w w' : World} {S : Nat → Prop} {v : Value} {L : List Nd} (h : OwNS w S v L) (a : AgrS S w w') : OwNS w' S v L := by
 obtain ⟨hl, h | ⟨g, cap, xs, E, hv, h1, hB, hx, hE, hd⟩⟩ := h
 ·exact ⟨hl, .inl h⟩
 ·refine ⟨hl, .inr ⟨g, cap, xs, E, hv, h1, bl_agrS hB a h1, hx, fun i hi => ?_, hd⟩⟩
  obtain ⟨e1, e2, ov, rv, sv, ho, e5⟩ := hE i hi
  exact ⟨e1, e2, ov, rv, sv, ho.agr (a.sub e1), e5⟩
theorem OwNS.mono {w : World} {S S' : Nat → Prop} {v : Value} {L : List Nd} (h : OwNS w S v L) (hs : ∀ b, S b → S' b) : OwNS w S' v L := by
 obtain ⟨hl, h | ⟨g, cap, xs, E, hv, h1, hB, hx, hE, hd⟩⟩ := h
 ·exact ⟨hl, .inl h⟩
 ·exact ⟨hl, .inr ⟨g, cap, xs, E, hv, hs _ h1, hB, hx, fun i hi => ⟨fun b hb => hs _ ((hE i hi).1 b hb), (hE i hi).2⟩, hd⟩⟩
theorem OwNS.rd {w : World} {S : Nat → Prop} {v : Value} {L : List Nd} (h : OwNS w S v L) : RdNS w v L := by
 obtain ⟨hl, ⟨rfl, rfl⟩ | ⟨g, cap, xs, E, rfl, h1, hB, hx, hE, hd⟩⟩ := h
 ·exact RdNS.nil w
 ·refine ⟨by omega, ?_⟩
  by_cases h0 : L.length = 0
  ·exact .inl ⟨some ⟨g, 0, none⟩, cap, by rw [h0], List.eq_nil_of_length_eq_zero h0, fun h => by cases h⟩
  ·refine .inr ⟨g, 0, cap, rfl, by omega, fun i hi => ?_⟩
   obtain ⟨-, -, ov, rv, sv, ho, e0, e1, e2, e3, e4, e5⟩ := hE i hi; refine ⟨ov, rv, sv, ho.rd, ?_⟩; simp only [Nat.zero_add]
   exact ⟨hB.c _ e0, hB.c _ e1, hB.c _ e2, hB.c _ e3, hB.c _ e4, hB.c _ e5⟩
def cntNS (L : List Nd) : Nat := (L.map cntN).sum
def MkNS (k : Int) (L : List Nd) : Prop := ∀ i, i < L.length → MkN (k + (cntNS (L.take i) : Nat)) (L.getD i n0)
theorem cntNS_take {L : List Nd} {j : Nat} (h : j < L.length) : cntNS (L.take (j + 1)) = cntNS (L.take j) + cntN (L.getD j n0) := by
 unfold cntNS; rw [List.take_succ_eq_append_getElem h, List.map_append, List.sum_append]; have e : L.getD j n0 = L[j] := by simp [List.getD, h]
 rw [e]
 simp
theorem cntNS_le (L : List Nd) (j : Nat) : cntNS (L.take j) ≤ cntNS L := by
 conv => rhs; rw [← List.take_append_drop j L]
 unfold cntNS; rw [List.map_append, List.sum_append]
 omega
theorem cntNS_same {L L' : List Nd} (h : L'.map cntN = L.map cntN) (j : Nat) : cntNS (L'.take j) = cntNS (L.take j) := by
 unfold cntNS; rw [List.map_take, List.map_take, h]
/-- element j turns, nothing else of the list -/
theorem OwNS.upd {w w' : World} {S : Nat → Prop} {g cap j : Nat} {xs xs' : List Value} {E : Nat → Nat → Prop} {L : List Nd} {x' : Nd} (hl : L.length ≤ 1048576) (h1 : S g) (hB : Bl w' g xs') (hx : xs'.length = L.length * 6)
  (hE : ∀ i, i < L.length → (∀ b, E i b → S b) ∧ ¬ E i g ∧ ElN xs w (E i) i (L.getD i n0)) (hd : ∀ i j, i < L.length → j < L.length → i ≠ j → Dj (E i) (E j)) (hj : j < L.length)
  (hsame : ∀ i, i < L.length → i ≠ j → ∀ f, f < 6 → xs'[i * 6 + f]? = xs[i * 6 + f]?) (hb : ButS g (E j) w w') (hn : ElN xs' w' (E j) j x') : OwNS w' S (.slice (some ⟨g, 0, none⟩) L.length cap) (L.set j x') := by
 refine ⟨by rw [List.length_set]; exact hl, .inr ⟨g, cap, xs', E, by rw [List.length_set], h1, hB, by rw [List.length_set]; exact hx, fun i hi => ?_, fun i j hi hj' hij => hd i j (by rwa [List.length_set] at hi) (by rwa [List.length_set] at hj') hij⟩⟩; rw [List.length_set] at hi; obtain ⟨e1, e2, e5⟩ := hE i hi; refine ⟨e1, e2, ?_⟩
 by_cases e : i = j
 ·subst e
  rw [show (L.set i x').getD i n0 = x' by simp [List.getD, hi]]
  exact hn
 ·rw [show (L.set j x').getD i n0 = L.getD i n0 by simp [List.getD, List.getElem?_set, Ne.symm e]]
  obtain ⟨ov, rv, sv, ho, f0, f1, f2, f3, f4, f5⟩ := e5; refine ⟨ov, rv, sv, ho.agr (hb.agr e2 (hd i j hi hj e)), ?_, ?_, ?_, ?_, ?_, ?_⟩
  ·rw [show i * 6 = i * 6 + 0 from rfl, hsame i hi e 0 (by omega)]; exact f0
  ·rw [hsame i hi e 1 (by omega)]; exact f1
  ·rw [hsame i hi e 2 (by omega)]; exact f2
  ·rw [hsame i hi e 3 (by omega)]; exact f3
  ·rw [hsame i hi e 4 (by omega)]; exact f4
  ·rw [hsame i hi e 5 (by omega)]; exact f5
set_option maxHeartbeats 8000000 in
theorem mkNS_any (v : Value) (L : List Nd) (k : Int) (S : Nat → Prop) (w : World) (h : OwNS w S v L) (hk0 : 0 ≤ k) (hk : k + (cntNS L : Nat) ≤ 40000000) :
  Calls Tryz.prog 25 #[v, .int .i64 k] w fun e w' => ∃ L', e = .returned (.int .i64 (k + (cntNS L : Nat))) ∧ cntNS L' = cntNS L ∧ L'.length = L.length ∧ MkNS k L' ∧ OwNS w' S v L' ∧ MidS S w w' := by
 obtain ⟨va, vx, hv⟩ := h.rd.len; obtain ⟨n, hn⟩ : ∃ n, n = L.length := ⟨_, rfl⟩; rw [← hn] at hv ⊢; subst hv; have hnb := h.1; rw [← hn] at hnb; have HN := Lib.hid hn; have HH := Lib.hid h; clear h hn
 go_enter Tryz.func25, Tryz.ntmps25
 go_wp2
 go_loopw [1, 5] (fun s i wr => ∃ (j : Nat) (L' : List Nd), j ≤ n ∧ i = .int .i64 j ∧ s = .int .i64 (k + (cntNS (L.take j) : Nat)) ∧ L'.length = n ∧ L'.map cntN = L.map cntN ∧ (∀ i, i < j → MkN (k + (cntNS (L'.take i) : Nat)) (L'.getD i n0)) ∧ OwNS wr S (.slice va n vx) L' ∧ MidS S w wr) (fun _ i _ => n - (intOf i).toNat)
 case atStart => exact ⟨0, L, Nat.zero_le _, rfl, by simp [cntNS], HN.out.symm, rfl, fun i hi => by omega, HH.out, MidS.refl _ _⟩
 case round =>
  obtain ⟨j, L', hj, rfl, rfl, hlen, hcm, hyes, hO, hB⟩ := hrel
  by_cases hlt : j < n
  ·have hltI : (j : Int) < (n : Int) := by omega
   obtain ⟨hl, hnil | ⟨g, cap, xs, E, hv, hSg, bX, hxl, hE, hdis⟩⟩ := hO
   ·exact absurd hnil.2 (by intro q; rw [q] at hlen; simp at hlen; omega)
   simp only [Value.slice.injEq] at hv; obtain ⟨rfl, -, rfl⟩ := hv; obtain ⟨e1, e2, ov, rv, sv, ho, x0, x1, x2, x3, x4, x5⟩ := hE j (by omega); obtain ⟨x, hx⟩ : ∃ x, L'.getD j n0 = x := ⟨_, rfl⟩; rw [hx] at ho x0 x2 x3; have HX := Lib.hid hx; have hcnt := cntNS_take (L := L') (j := j) (by omega); rw [cntNS_same hcm, cntNS_same hcm, hx] at hcnt; have hle := cntNS_le L (j + 1); obtain ⟨r0, hr0⟩ : ∃ r : Int, r = k + (cntNS (L.take j) : Nat) := ⟨_, rfl⟩; have hend : r0 + (cntN x : Nat) = k + (cntNS (L.take (j + 1)) : Nat) := by omega
   have hbd : 0 ≤ r0 ∧ r0 + (cntN x : Nat) ≤ 40000000 := by omega
   rw [← hr0]; have HR0 := Lib.hid hr0; have HEND := Lib.hid hend; have HYES := Lib.hid hyes; have HCM := Lib.hid hcm; have HLL := Lib.hid (And.intro hl hlen); have HEE := Lib.hid hE; have HDD := Lib.hid hdis; have HXL := Lib.hid hxl; clear hr0 hend hyes hcm hcnt hle hE hdis hx hl hlen hxl; obtain ⟨S0, S1, S2, sb0, sb1, sb2, dj01, dj02, dj12, o0, o1, o2⟩ := ho; unfold cntN at hbd; obtain ⟨r1, hr1⟩ : ∃ r : Int, r = r0 + 1 := ⟨_, rfl⟩; obtain ⟨r2, hr2⟩ : ∃ r : Int, r = r1 + (cntP x.own : Nat) := ⟨_, rfl⟩; obtain ⟨r3, hr3⟩ : ∃ r : Int, r = r2 + 1 := ⟨_, rfl⟩; obtain ⟨r4, hr4⟩ : ∃ r : Int, r = r3 + 1 := ⟨_, rfl⟩; obtain ⟨r5, hr5⟩ : ∃ r : Int, r = r4 + (cntQE x.rib : Nat) := ⟨_, rfl⟩; obtain ⟨r6, hr6⟩ : ∃ r : Int, r = r5 + (cntQE x.sent : Nat) := ⟨_, rfl⟩; have b0 : 0 ≤ r0 ∧ r0 ≤ 40000000 := by omega
   have b1 : 0 ≤ r1 ∧ r1 ≤ 40000000 := by omega
   have b2 : 0 ≤ r2 ∧ r2 ≤ 40000000 := by omega
   have b3 : 0 ≤ r3 ∧ r3 ≤ 40000000 := by omega
   have b4 : 0 ≤ r4 ∧ r4 ≤ 40000000 := by omega
   have b5 : 0 ≤ r5 ∧ r5 ≤ 40000000 := by omega
   have b6 : 0 ≤ r6 ∧ r6 ≤ 40000000 := by omega
   have w0 : IntKind.i64.wrap (r0 + 1) = r1 := by rw [hr1]; exact wrap64_in _ (by omega) (by omega)
   have w2 : IntKind.i64.wrap (r2 + 1) = r3 := by rw [hr3]; exact wrap64_in _ (by omega) (by omega)
   have w3 : IntKind.i64.wrap (r3 + 1) = r4 := by rw [hr4]; exact wrap64_in _ (by omega) (by omega)
   have tm3 : r3.tmod 3 = r3 % 3 := Int.tmod_eq_emod_of_nonneg (by omega); have tw3 : IntKind.i64.wrap (r3 % 3) = r3 % 3 := wrap64_in _ (by omega) (by omega); have tb3 : (r3 % 3 == 0) = modB r3 := by unfold modB; by_cases h : r3 % 3 = 0 <;> simp [h]
   have Q1 := Lib.hid hr1; have Q2 := Lib.hid hr2; have Q3 := Lib.hid hr3; have Q4 := Lib.hid hr4; have Q5 := Lib.hid hr5; have Q6 := Lib.hid hr6; clear hr1 hr2 hr3 hr4 hr5 hr6 hbd; have but : ButS g (E j) wr wr := ButS.refl _ _ _; have y0 := bX.c (j * 6) (x0); have z0 := bX.f (j * 6) (x0); have y1 := bX.c (j * 6 + 1) (x1); go_wp2_with fail; clear y0 z0 y1; replace bX := bX.set (j * 6) (.int .i64 r0); replace but := but.set (o := j * 6) (u := .int .i64 r0); replace o0 := o0.agr (agr_setS (g := g) (o := j * 6) (u := .int .i64 r0) _ (fun h => e2 (sb0 _ h))); replace o1 := o1.agr (agr_setS (g := g) (o := j * 6) (u := .int .i64 r0) _ (fun h => e2 (sb1 _ h))); replace o2 := o2.agr (agr_setS (g := g) (o := j * 6) (u := .int .i64 r0) _ (fun h => e2 (sb2 _ h))); obtain ⟨X0, hX0⟩ : ∃ X, X = (wr.setCell ⟨g, j * 6, none⟩ (.int .i64 r0)) := ⟨_, rfl⟩; rw [← hX0] at bX but o0 o1 o2 ⊢; clear hX0; refine (mkPr_any _ x.own r1 _ X0 o0 (by omega) (by have := Q2.out; omega)).mono ?_; rintro e w1 ⟨nw0, rfl, s0, lm0, t0, o0, mid⟩; rw [← Q2.out]; replace bX := mid.bl bX (fun h => e2 (sb0 _ h)); replace but := but.mid mid sb0; replace o1 := o1.agr (mid.agr dj01.symm); replace o2 := o2.agr (mid.agr dj02.symm); clear mid; have y2 := bX.c (j * 6 + 2) (by rw [List.getElem?_set_ne (by omega)]; exact x2); have z2 := bX.f (j * 6 + 2) (by rw [List.getElem?_set_ne (by omega)]; exact x2); have y3 := bX.c (j * 6 + 3) (by rw [List.getElem?_set_ne (by omega)]; exact x3); have z3 := bX.f (j * 6 + 3) (by rw [List.getElem?_set_ne (by omega)]; exact x3); have y4 := bX.c (j * 6 + 4) (by rw [List.getElem?_set_ne (by omega)]; exact x4); go_wp2_with fail; clear y2 z2 y3 z3 y4; replace bX := bX.set (j * 6 + 2) (.int .i64 r2); replace but := but.set (o := j * 6 + 2) (u := .int .i64 r2); replace o0 := o0.agr (agr_setS (g := g) (o := j * 6 + 2) (u := .int .i64 r2) _ (fun h => e2 (sb0 _ h))); replace o1 := o1.agr (agr_setS (g := g) (o := j * 6 + 2) (u := .int .i64 r2) _ (fun h => e2 (sb1 _ h))); replace o2 := o2.agr (agr_setS (g := g) (o := j * 6 + 2) (u := .int .i64 r2) _ (fun h => e2 (sb2 _ h))); replace bX := bX.set (j * 6 + 3) (.bool (modB r3)); replace but := but.set (o := j * 6 + 3) (u := .bool (modB r3)); replace o0 := o0.agr (agr_setS (g := g) (o := j * 6 + 3) (u := .bool (modB r3)) _ (fun h => e2 (sb0 _ h))); replace o1 := o1.agr (agr_setS (g := g) (o := j * 6 + 3) (u := .bool (modB r3)) _ (fun h => e2 (sb1 _ h))); replace o2 := o2.agr (agr_setS (g := g) (o := j * 6 + 3) (u := .bool (modB r3)) _ (fun h => e2 (sb2 _ h))); obtain ⟨X1, hX1⟩ : ∃ X, X = ((w1.setCell ⟨g, j * 6 + 2, none⟩ (.int .i64 r2)).setCell ⟨g, j * 6 + 3, none⟩ (.bool (modB r3))) := ⟨_, rfl⟩; rw [← hX1] at bX but o0 o1 o2 ⊢; clear hX1; refine (mkQE_any _ x.rib r4 _ X1 o1 (by omega) (by have := Q5.out; omega)).mono ?_; rintro e w2 ⟨nw1, rfl, s1, lm1, t1, o1, mid⟩; rw [← Q5.out]; replace bX := mid.bl bX (fun h => e2 (sb1 _ h)); replace but := but.mid mid sb1; replace o0 := o0.agr (mid.agr dj01); replace o2 := o2.agr (mid.agr dj12.symm); clear mid; have y5 := bX.c (j * 6 + 5) (by rw [List.getElem?_set_ne (by omega)]; rw [List.getElem?_set_ne (by omega)]; rw [List.getElem?_set_ne (by omega)]; exact x5); go_wp2_with fail; clear y5; obtain ⟨X2, hX2⟩ : ∃ X, X = w2 := ⟨_, rfl⟩; rw [← hX2] at bX but o0 o1 o2 ⊢; clear hX2; refine (mkQE_any _ x.sent r5 _ X2 o2 (by omega) (by have := Q6.out; omega)).mono ?_; rintro e w3 ⟨nw2, rfl, s2, lm2, t2, o2, mid⟩; rw [← Q6.out]; replace bX := mid.bl bX (fun h => e2 (sb2 _ h)); replace but := but.mid mid sb2; replace o0 := o0.agr (mid.agr dj02); replace o1 := o1.agr (mid.agr dj12); clear mid; have KB := Lib.hid bX; go_wp2
   go_roundw
   case rel =>
    have hup := OwNS.upd (cap := vx) (x' := ⟨r0, nw0, r2, modB r3, nw1, nw2⟩) HLL.out.1 hSg bX (by simpa using HXL.out) HEE.out HDD.out (by have := HLL.out; omega) (fun i hi hij f hf => by rw [List.getElem?_set_ne (by omega)]; rw [List.getElem?_set_ne (by omega)]; rw [List.getElem?_set_ne (by omega)]) but
     ⟨ov, rv, sv, ⟨S0, S1, S2, sb0, sb1, sb2, dj01, dj02, dj12, o0, o1, o2⟩, by rw [List.getElem?_set_ne (by omega)]; rw [List.getElem?_set_ne (by omega)]; rw [List.getElem?_set_self (by (try simp only [List.length_set]); have := HXL.out; have := HLL.out; omega)], by rw [List.getElem?_set_ne (by omega)]; rw [List.getElem?_set_ne (by omega)]; rw [List.getElem?_set_ne (by omega)]; exact x1, by rw [List.getElem?_set_ne (by omega)]; rw [List.getElem?_set_self (by (try simp only [List.length_set]); have := HXL.out; have := HLL.out; omega)], by rw [List.getElem?_set_self (by (try simp only [List.length_set]); have := HXL.out; have := HLL.out; omega)], by rw [List.getElem?_set_ne (by omega)]; rw [List.getElem?_set_ne (by omega)]; rw [List.getElem?_set_ne (by omega)]; exact x4, by rw [List.getElem?_set_ne (by omega)]; rw [List.getElem?_set_ne (by omega)]; rw [List.getElem?_set_ne (by omega)]; exact x5⟩
    rw [HLL.out.2] at hup; have hc2 : cntN ⟨r0, nw0, r2, modB r3, nw1, nw2⟩ = cntN x := by unfold cntN; simp only [s0, s1, s2]
    refine ⟨j + 1, L'.set j ⟨r0, nw0, r2, modB r3, nw1, nw2⟩, by omega, by go_num, ?_, by rw [List.length_set]; exact HLL.out.2, ?_, fun i hi => ?_, hup, ?_⟩
    ·rw [← HEND.out]
     unfold cntN; have := Q1.out; have := Q2.out; have := Q3.out; have := Q4.out; have := Q5.out; have := Q6.out
     congr 1
     omega
    ·rw [List.map_set, hc2, ← HX.out, List.getD_eq_getElem?_getD, List.getElem?_eq_getElem (by have := HLL.out; omega)]
     rw [← HCM.out]
     apply List.ext_getElem?
     intro i
     by_cases e : j = i
     ·subst e; rw [List.getElem?_set_self (by rw [List.length_map]; have := HLL.out; omega), List.getElem?_map, List.getElem?_eq_getElem (by have := HLL.out; omega)]; rfl
     ·rw [List.getElem?_set_ne e]
    ·by_cases e : i = j
     ·subst e
      rw [show (L'.set i ⟨r0, nw0, r2, modB r3, nw1, nw2⟩).getD i n0 = ⟨r0, nw0, r2, modB r3, nw1, nw2⟩ by simp [List.getD, show i < L'.length by have := HLL.out; omega], List.take_set_of_le (Nat.le_refl i), cntNS_same HCM.out, ← HR0.out]; refine ⟨?_, ?_, ?_, ?_, ?_, ?_⟩
      ·(try rfl)
      ·rw [show r0 + 1 = r1 by have := Q1.out; first | omega | (simp only [s0, s1, s2]; omega) | simp only [s0, s1, s2]]; exact t0
      ·rw [show r0 + 1 + ((cntP nw0 : Nat) : Int) = r2 by have := Q1.out; have := Q2.out; first | omega | (simp only [s0, s1, s2]; omega) | simp only [s0, s1, s2]]; (try rfl)
      ·rw [show r0 + 1 + ((cntP nw0 : Nat) : Int) + 1 = r3 by have := Q1.out; have := Q2.out; have := Q3.out; first | omega | (simp only [s0, s1, s2]; omega) | simp only [s0, s1, s2]]; (try rfl)
      ·rw [show r0 + 1 + ((cntP nw0 : Nat) : Int) + 1 + 1 = r4 by have := Q1.out; have := Q2.out; have := Q3.out; have := Q4.out; first | omega | (simp only [s0, s1, s2]; omega) | simp only [s0, s1, s2]]; exact t1
      ·rw [show r0 + 1 + ((cntP nw0 : Nat) : Int) + 1 + 1 + ((cntQE nw1 : Nat) : Int) = r5 by have := Q1.out; have := Q2.out; have := Q3.out; have := Q4.out; have := Q5.out; first | omega | (simp only [s0, s1, s2]; omega) | simp only [s0, s1, s2]]; exact t2
     ·rw [show (L'.set j ⟨r0, nw0, r2, modB r3, nw1, nw2⟩).getD i n0 = L'.getD i n0 by simp [List.getD, List.getElem?_set, Ne.symm e], List.take_set_of_le (by omega)]
      exact HYES.out i (by omega)
    ·exact hB.trans (but.midS e1 hSg)
   case measure => simp [intOf]; omega
  ·have hkn : j = n := by omega
   subst hkn; have HT : Hid (L.take j = L) := Lib.hid (List.take_of_length_le (by rw [HN.out]; exact Nat.le_refl _)); have HF := Lib.hid (And.intro hcm (And.intro hyes (And.intro hO (And.intro hB hlen)))); clear hcm hyes hO hB hlen; go_wp2
   go_ret
   obtain ⟨hcm, hyes, hO, hB, hlen⟩ := HF.out; refine ⟨L', by first | rfl | (rw [HT.out]; rfl), ?_, hlen, fun i hi => hyes i (by omega), hO, hB⟩; unfold cntNS; rw [hcm]
set_option maxHeartbeats 4000000 in
theorem hdNS_any (v : Value) (L : List Nd) (k : Int) (w : World) (h : RdNS w v L) (hm : MkNS k L) (hk0 : 0 ≤ k) (hk : k + (cntNS L : Nat) ≤ 40000000) :
  Calls Tryz.prog 40 #[v, .int .i64 k] w fun e w' => e = .returned (.int .i64 (k + (cntNS L : Nat))) ∧ Below w.heap.size w w' := by
 have hnn := h.1; obtain ⟨a, c, rfl, hc⟩ := h.el; obtain ⟨n, hn⟩ : ∃ n, n = L.length := ⟨_, rfl⟩; rw [← hn] at hc hnn ⊢; have HN := Lib.hid hn; have HM := Lib.hid hm; clear h hn hm
 go_enter Tryz.func40, Tryz.ntmps40
 go_wp2
 go_loopw [1, 5] (fun s i wr => ∃ j : Nat, j ≤ n ∧ i = .int .i64 j ∧ s = .int .i64 (k + (cntNS (L.take j) : Nat)) ∧ Below w.heap.size w wr) (fun _ i _ => n - (intOf i).toNat)
 case atStart => exact ⟨0, Nat.zero_le _, rfl, by simp [cntNS], Below.refl _ _⟩
 case round =>
  obtain ⟨j, hj, rfl, rfl, hB⟩ := hrel
  by_cases hlt : j < n
  ·have hltI : (j : Int) < (n : Int) := by omega
   obtain ⟨b, o, rfl, hE⟩ := hc j hlt; obtain ⟨x, hx⟩ : ∃ x, L.getD j n0 = x := ⟨_, rfl⟩; have hmx := HM.out j (by rw [← HN.out]; exact hlt); rw [hx] at hE hmx; obtain ⟨ov, rv, sv, ⟨o0, o1, o2⟩, g0, g1, g2, g3, g4, g5⟩ := hE.keep hB; have hcnt := cntNS_take (L := L) (j := j) (by rw [← HN.out]; exact hlt); rw [hx] at hcnt; have hle := cntNS_le L (j + 1); obtain ⟨r0, hr0⟩ : ∃ r : Int, r = k + (cntNS (L.take j) : Nat) := ⟨_, rfl⟩; have hend : r0 + (cntN x : Nat) = k + (cntNS (L.take (j + 1)) : Nat) := by omega
   have hbd : 0 ≤ r0 ∧ r0 + (cntN x : Nat) ≤ 40000000 := by omega
   rw [← hr0] at hmx ⊢; have HEND := Lib.hid hend; have HC := Lib.hid hc; clear hr0 hend hcnt hle hx hc hE; unfold cntN at hbd; unfold MkN at hmx; obtain ⟨a0, a1, a2, a3, a4, a5⟩ := hmx; obtain ⟨r1, hr1⟩ : ∃ r : Int, r = r0 + 1 := ⟨_, rfl⟩; have t0 : x.an = r0 := by rw [a0]; (try omega)
   rw [t0] at g0; obtain ⟨r2, hr2⟩ : ∃ r : Int, r = r1 + (cntP x.own : Nat) := ⟨_, rfl⟩
   have t1 : MkP r1 x.own := by
    have e : r0 + 1 = r1 := by omega
    rw [← e]; exact a1
   obtain ⟨r3, hr3⟩ : ∃ r : Int, r = r2 + 1 := ⟨_, rfl⟩; have t2 : x.bw = r2 := by rw [a2]; (try omega)
   rw [t2] at g2; obtain ⟨r4, hr4⟩ : ∃ r : Int, r = r3 + 1 := ⟨_, rfl⟩
   have t3 : x.dr = modB r3 := by
    have e : r0 + 1 + ((cntP x.own : Nat) : Int) + 1 = r3 := by omega
    rw [← e]; exact a3
   rw [t3] at g3; obtain ⟨r5, hr5⟩ : ∃ r : Int, r = r4 + (cntQE x.rib : Nat) := ⟨_, rfl⟩
   have t4 : MkQE r4 x.rib := by
    have e : r0 + 1 + ((cntP x.own : Nat) : Int) + 1 + 1 = r4 := by omega
    rw [← e]; exact a4
   obtain ⟨r6, hr6⟩ : ∃ r : Int, r = r5 + (cntQE x.sent : Nat) := ⟨_, rfl⟩
   have t5 : MkQE r5 x.sent := by
    have e : r0 + 1 + ((cntP x.own : Nat) : Int) + 1 + 1 + ((cntQE x.rib : Nat) : Int) = r5 := by omega
    rw [← e]; exact a5
   have b0 : 0 ≤ r0 ∧ r0 ≤ 40000000 := by omega
   have b1 : 0 ≤ r1 ∧ r1 ≤ 40000000 := by omega
   have b2 : 0 ≤ r2 ∧ r2 ≤ 40000000 := by omega
   have b3 : 0 ≤ r3 ∧ r3 ≤ 40000000 := by omega
   have b4 : 0 ≤ r4 ∧ r4 ≤ 40000000 := by omega
   have b5 : 0 ≤ r5 ∧ r5 ≤ 40000000 := by omega
   have b6 : 0 ≤ r6 ∧ r6 ≤ 40000000 := by omega
   have ng0 : ¬ r0 < 0 := by omega
   have ng1 : ¬ r1 < 0 := by omega
   have ng2 : ¬ r2 < 0 := by omega
   have ng3 : ¬ r3 < 0 := by omega
   have ng4 : ¬ r4 < 0 := by omega
   have ng5 : ¬ r5 < 0 := by omega
   have ng6 : ¬ r6 < 0 := by omega
   have w0 : IntKind.i64.wrap (r0 + 1) = r1 := by rw [hr1]; exact wrap64_in _ (by omega) (by omega)
   have e0 : (r0 != r0) = false := by simp
   have w2 : IntKind.i64.wrap (r2 + 1) = r3 := by rw [hr3]; exact wrap64_in _ (by omega) (by omega)
   have e2 : (r2 != r2) = false := by simp
   have w3 : IntKind.i64.wrap (r3 + 1) = r4 := by rw [hr4]; exact wrap64_in _ (by omega) (by omega)
   have tm3 : r3.tmod 3 = r3 % 3 := Int.tmod_eq_emod_of_nonneg (by omega); have tw3 : IntKind.i64.wrap (r3 % 3) = r3 % 3 := wrap64_in _ (by omega) (by omega); have tb3 : (r3 % 3 == 0) = modB r3 := by unfold modB; by_cases h : r3 % 3 = 0 <;> simp [h]
   have e3 : (modB r3 != modB r3) = false := by simp
   have Q1 := Lib.hid hr1; have Q2 := Lib.hid hr2; have Q3 := Lib.hid hr3; have Q4 := Lib.hid hr4; have Q5 := Lib.hid hr5; have Q6 := Lib.hid hr6; clear hr1 hr2 hr3 hr4 hr5 hr6 hbd a0 a1 a2 a3 a4 a5 t0 t2 t3; go_wp2_with fail; refine (hdPr_any _ x.own r1 _ o0 t1 (by omega) (by have := Q2.out; omega)).mono ?_; rintro e v1 ⟨rfl, hb⟩; rw [← Q2.out]; replace hB := below_step hB hb; replace g2 := cell_keep hb (World.block_lt_of_cell? _ _ g2) g2; replace g3 := cell_keep hb (World.block_lt_of_cell? _ _ g3) g3; replace g4 := cell_keep hb (World.block_lt_of_cell? _ _ g4) g4; replace g5 := cell_keep hb (World.block_lt_of_cell? _ _ g5) g5; replace o1 := o1.keep hb; replace o2 := o2.keep hb; clear hb; go_wp2_with fail; refine (hdQE_any _ x.rib r4 _ o1 t4 (by omega) (by have := Q5.out; omega)).mono ?_; rintro e v4 ⟨rfl, hb⟩; rw [← Q5.out]; replace hB := below_step hB hb; replace g5 := cell_keep hb (World.block_lt_of_cell? _ _ g5) g5; replace o2 := o2.keep hb; clear hb; go_wp2_with fail; refine (hdQE_any _ x.sent r5 _ o2 t5 (by omega) (by have := Q6.out; omega)).mono ?_; rintro e v5 ⟨rfl, hb⟩; rw [← Q6.out]; replace hB := below_step hB hb; clear hb; go_wp2
   go_roundw
   case rel => exact ⟨j + 1, by omega, by go_num, by rw [← HEND.out]; unfold cntN; have := Q1.out; have := Q2.out; have := Q3.out; have := Q4.out; have := Q5.out; have := Q6.out; congr 1; omega, hB⟩
   case measure => simp [intOf]; omega
  ·have hkn : j = n := by omega
   subst hkn; have HT : Hid (L.take j = L) := Lib.hid (List.take_of_length_le (by rw [HN.out]; exact Nat.le_refl _)); clear hc; go_wp2
   go_ret
   exact ⟨by first | rfl | (rw [HT.out]; rfl), hB⟩
def OwL (w : World) (S : Nat → Prop) (av bv : Value) (x : Lk) : Prop := ∃ S0 S1 : Nat → Prop, (∀ b, S0 b → S b) ∧ (∀ b, S1 b → S b) ∧ Dj S0 S1 ∧ OwMS w S0 av x.ab ∧ OwMS w S1 bv x.ba
theorem OwL.agr {w w' : World} {S : Nat → Prop} {av bv : Value} {x : Lk} (h : OwL w S av bv x) (a : AgrS S w w') : OwL w' S av bv x := by
 obtain ⟨S0, S1, sb0, sb1, dj01, h0, h1⟩ := h
 exact ⟨S0, S1, sb0, sb1, dj01, h0.agr (a.sub sb0), h1.agr (a.sub sb1)⟩
theorem OwL.rd {w : World} {S : Nat → Prop} {av bv : Value} {x : Lk} (h : OwL w S av bv x) : RdL w av bv x := by
 obtain ⟨S0, S1, -, -, -, h0, h1⟩ := h
 exact ⟨h0.rd, h1.rd⟩
def cntL (x : Lk) : Nat := 5 + cntMS x.ab + cntMS x.ba
def MkL (k : Int) (x : Lk) : Prop := x.a = k ∧ x.ai = k + 1 ∧ x.b = k + 1 + 1 ∧ x.bi = k + 1 + 1 + 1 ∧ x.up = modB (k + 1 + 1 + 1 + 1) ∧ MkMS (k + 1 + 1 + 1 + 1 + 1) x.ab ∧ MkMS (k + 1 + 1 + 1 + 1 + 1 + (cntMS x.ab : Nat)) x.ba
/-- element i of the cells xs is that, its rows lie in blocks of E -/
def ElL (xs : List Value) (w : World) (E : Nat → Prop) (i : Nat) (x : Lk) : Prop := ∃ av bv, OwL w E av bv x ∧ xs[i * 7]? = some (.int .i64 x.a) ∧ xs[i * 7 + 1]? = some (.int .i64 x.ai) ∧ xs[i * 7 + 2]? = some (.int .i64 x.b) ∧ xs[i * 7 + 3]? = some (.int .i64 x.bi) ∧ xs[i * 7 + 4]? = some (.bool x.up) ∧ xs[i * 7 + 5]? = some (av) ∧ xs[i * 7 + 6]? = some (bv)
def OwLS (w : World) (S : Nat → Prop) (v : Value) (L : List Lk) : Prop :=
 L.length ≤ 1048576 ∧ ((v = .slice none 0 0 ∧ L = []) ∨ ∃ (g cap : Nat) (xs : List Value) (E : Nat → Nat → Prop), v = .slice (some ⟨g, 0, none⟩) L.length cap ∧ S g ∧ Bl w g xs ∧ xs.length = L.length * 7 ∧
  (∀ i, i < L.length → (∀ b, E i b → S b) ∧ ¬ E i g ∧ ElL xs w (E i) i (L.getD i l0)) ∧ ∀ i j, i < L.length → j < L.length → i ≠ j → Dj (E i) (E j))
theorem OwLS.agr {w w' : World} {S : Nat → Prop} {v : Value} {L : List Lk} (h : OwLS w S v L) (a : AgrS S w w') : OwLS w' S v L := by
 obtain ⟨hl, h | ⟨g, cap, xs, E, hv, h1, hB, hx, hE, hd⟩⟩ := h
 ·exact ⟨hl, .inl h⟩
 ·refine ⟨hl, .inr ⟨g, cap, xs, E, hv, h1, bl_agrS hB a h1, hx, fun i hi => ?_, hd⟩⟩
  obtain ⟨e1, e2, av, bv, ho, e5⟩ := hE i hi
  exact ⟨e1, e2, av, bv, ho.agr (a.sub e1), e5⟩
theorem OwLS.mono {w : World} {S S' : Nat → Prop} {v : Value} {L : List Lk} (h : OwLS w S v L) (hs : ∀ b, S b → S' b) : OwLS w S' v L := by
 obtain ⟨hl, h | ⟨g, cap, xs, E, hv, h1, hB, hx, hE, hd⟩⟩ := h
 ·exact ⟨hl, .inl h⟩
 ·exact ⟨hl, .inr ⟨g, cap, xs, E, hv, hs _ h1, hB, hx, fun i hi => ⟨fun b hb => hs _ ((hE i hi).1 b hb), (hE i hi).2⟩, hd⟩⟩
theorem OwLS.rd {w : World} {S : Nat → Prop} {v : Value} {L : List Lk} (h : OwLS w S v L) : RdLS w v L := by
 obtain ⟨hl, ⟨rfl, rfl⟩ | ⟨g, cap, xs, E, rfl, h1, hB, hx, hE, hd⟩⟩ := h
 ·exact RdLS.nil w
 ·refine ⟨by omega, ?_⟩
  by_cases h0 : L.length = 0
  ·exact .inl ⟨some ⟨g, 0, none⟩, cap, by rw [h0], List.eq_nil_of_length_eq_zero h0, fun h => by cases h⟩
  ·refine .inr ⟨g, 0, cap, rfl, by omega, fun i hi => ?_⟩
   obtain ⟨-, -, av, bv, ho, e0, e1, e2, e3, e4, e5, e6⟩ := hE i hi; refine ⟨av, bv, ho.rd, ?_⟩; simp only [Nat.zero_add]
   exact ⟨hB.c _ e0, hB.c _ e1, hB.c _ e2, hB.c _ e3, hB.c _ e4, hB.c _ e5, hB.c _ e6⟩
def cntLS (L : List Lk) : Nat := (L.map cntL).sum
def MkLS (k : Int) (L : List Lk) : Prop := ∀ i, i < L.length → MkL (k + (cntLS (L.take i) : Nat)) (L.getD i l0)
theorem cntLS_take {L : List Lk} {j : Nat} (h : j < L.length) : cntLS (L.take (j + 1)) = cntLS (L.take j) + cntL (L.getD j l0) := by
 unfold cntLS; rw [List.take_succ_eq_append_getElem h, List.map_append, List.sum_append]; have e : L.getD j l0 = L[j] := by simp [List.getD, h]
 rw [e]
 simp
theorem cntLS_le (L : List Lk) (j : Nat) : cntLS (L.take j) ≤ cntLS L := by
 conv => rhs; rw [← List.take_append_drop j L]
 unfold cntLS; rw [List.map_append, List.sum_append]
 omega
theorem cntLS_same {L L' : List Lk} (h : L'.map cntL = L.map cntL) (j : Nat) : cntLS (L'.take j) = cntLS (L.take j) := by
 unfold cntLS; rw [List.map_take, List.map_take, h]
/-- element j turns, nothing else of the list -/
theorem OwLS.upd {w w' : World} {S : Nat → Prop} {g cap j : Nat} {xs xs' : List Value} {E : Nat → Nat → Prop} {L : List Lk} {x' : Lk} (hl : L.length ≤ 1048576) (h1 : S g) (hB : Bl w' g xs') (hx : xs'.length = L.length * 7)
  (hE : ∀ i, i < L.length → (∀ b, E i b → S b) ∧ ¬ E i g ∧ ElL xs w (E i) i (L.getD i l0)) (hd : ∀ i j, i < L.length → j < L.length → i ≠ j → Dj (E i) (E j)) (hj : j < L.length)
  (hsame : ∀ i, i < L.length → i ≠ j → ∀ f, f < 7 → xs'[i * 7 + f]? = xs[i * 7 + f]?) (hb : ButS g (E j) w w') (hn : ElL xs' w' (E j) j x') : OwLS w' S (.slice (some ⟨g, 0, none⟩) L.length cap) (L.set j x') := by
 refine ⟨by rw [List.length_set]; exact hl, .inr ⟨g, cap, xs', E, by rw [List.length_set], h1, hB, by rw [List.length_set]; exact hx, fun i hi => ?_, fun i j hi hj' hij => hd i j (by rwa [List.length_set] at hi) (by rwa [List.length_set] at hj') hij⟩⟩; rw [List.length_set] at hi; obtain ⟨e1, e2, e5⟩ := hE i hi; refine ⟨e1, e2, ?_⟩
 by_cases e : i = j
 ·subst e
  rw [show (L.set i x').getD i l0 = x' by simp [List.getD, hi]]
  exact hn
 ·rw [show (L.set j x').getD i l0 = L.getD i l0 by simp [List.getD, List.getElem?_set, Ne.symm e]]
  obtain ⟨av, bv, ho, f0, f1, f2, f3, f4, f5, f6⟩ := e5; refine ⟨av, bv, ho.agr (hb.agr e2 (hd i j hi hj e)), ?_, ?_, ?_, ?_, ?_, ?_, ?_⟩
  ·rw [show i * 7 = i * 7 + 0 from rfl, hsame i hi e 0 (by omega)]; exact f0
  ·rw [hsame i hi e 1 (by omega)]; exact f1
  ·rw [hsame i hi e 2 (by omega)]; exact f2
  ·rw [hsame i hi e 3 (by omega)]; exact f3
  ·rw [hsame i hi e 4 (by omega)]; exact f4
  ·rw [hsame i hi e 5 (by omega)]; exact f5
  ·rw [hsame i hi e 6 (by omega)]; exact f6
set_option maxHeartbeats 8000000 in
theorem mkLS_any (v : Value) (L : List Lk) (k : Int) (S : Nat → Prop) (w : World) (h : OwLS w S v L) (hk0 : 0 ≤ k) (hk : k + (cntLS L : Nat) ≤ 40000000) :
  Calls Tryz.prog 39 #[v, .int .i64 k] w fun e w' => ∃ L', e = .returned (.int .i64 (k + (cntLS L : Nat))) ∧ cntLS L' = cntLS L ∧ L'.length = L.length ∧ MkLS k L' ∧ OwLS w' S v L' ∧ MidS S w w' := by
 obtain ⟨va, vx, hv⟩ := h.rd.len; obtain ⟨n, hn⟩ : ∃ n, n = L.length := ⟨_, rfl⟩; rw [← hn] at hv ⊢; subst hv; have hnb := h.1; rw [← hn] at hnb; have HN := Lib.hid hn; have HH := Lib.hid h; clear h hn
 go_enter Tryz.func39, Tryz.ntmps39
 go_wp2
 go_loopw [1, 5] (fun s i wr => ∃ (j : Nat) (L' : List Lk), j ≤ n ∧ i = .int .i64 j ∧ s = .int .i64 (k + (cntLS (L.take j) : Nat)) ∧ L'.length = n ∧ L'.map cntL = L.map cntL ∧ (∀ i, i < j → MkL (k + (cntLS (L'.take i) : Nat)) (L'.getD i l0)) ∧ OwLS wr S (.slice va n vx) L' ∧ MidS S w wr) (fun _ i _ => n - (intOf i).toNat)
 case atStart => exact ⟨0, L, Nat.zero_le _, rfl, by simp [cntLS], HN.out.symm, rfl, fun i hi => by omega, HH.out, MidS.refl _ _⟩
 case round =>
  obtain ⟨j, L', hj, rfl, rfl, hlen, hcm, hyes, hO, hB⟩ := hrel
  by_cases hlt : j < n
  ·have hltI : (j : Int) < (n : Int) := by omega
   obtain ⟨hl, hnil | ⟨g, cap, xs, E, hv, hSg, bX, hxl, hE, hdis⟩⟩ := hO
   ·exact absurd hnil.2 (by intro q; rw [q] at hlen; simp at hlen; omega)
   simp only [Value.slice.injEq] at hv; obtain ⟨rfl, -, rfl⟩ := hv; obtain ⟨e1, e2, av, bv, ho, x0, x1, x2, x3, x4, x5, x6⟩ := hE j (by omega); obtain ⟨x, hx⟩ : ∃ x, L'.getD j l0 = x := ⟨_, rfl⟩; rw [hx] at ho x0 x1 x2 x3 x4; have HX := Lib.hid hx; have hcnt := cntLS_take (L := L') (j := j) (by omega); rw [cntLS_same hcm, cntLS_same hcm, hx] at hcnt; have hle := cntLS_le L (j + 1); obtain ⟨r0, hr0⟩ : ∃ r : Int, r = k + (cntLS (L.take j) : Nat) := ⟨_, rfl⟩; have hend : r0 + (cntL x : Nat) = k + (cntLS (L.take (j + 1)) : Nat) := by omega
   have hbd : 0 ≤ r0 ∧ r0 + (cntL x : Nat) ≤ 40000000 := by omega
   rw [← hr0]; have HR0 := Lib.hid hr0; have HEND := Lib.hid hend; have HYES := Lib.hid hyes; have HCM := Lib.hid hcm; have HLL := Lib.hid (And.intro hl hlen); have HEE := Lib.hid hE; have HDD := Lib.hid hdis; have HXL := Lib.hid hxl; clear hr0 hend hyes hcm hcnt hle hE hdis hx hl hlen hxl; obtain ⟨S0, S1, sb0, sb1, dj01, o0, o1⟩ := ho; unfold cntL at hbd; obtain ⟨r1, hr1⟩ : ∃ r : Int, r = r0 + 1 := ⟨_, rfl⟩; obtain ⟨r2, hr2⟩ : ∃ r : Int, r = r1 + 1 := ⟨_, rfl⟩; obtain ⟨r3, hr3⟩ : ∃ r : Int, r = r2 + 1 := ⟨_, rfl⟩; obtain ⟨r4, hr4⟩ : ∃ r : Int, r = r3 + 1 := ⟨_, rfl⟩; obtain ⟨r5, hr5⟩ : ∃ r : Int, r = r4 + 1 := ⟨_, rfl⟩; obtain ⟨r6, hr6⟩ : ∃ r : Int, r = r5 + (cntMS x.ab : Nat) := ⟨_, rfl⟩; obtain ⟨r7, hr7⟩ : ∃ r : Int, r = r6 + (cntMS x.ba : Nat) := ⟨_, rfl⟩; have b0 : 0 ≤ r0 ∧ r0 ≤ 40000000 := by omega
   have b1 : 0 ≤ r1 ∧ r1 ≤ 40000000 := by omega
   have b2 : 0 ≤ r2 ∧ r2 ≤ 40000000 := by omega
   have b3 : 0 ≤ r3 ∧ r3 ≤ 40000000 := by omega
   have b4 : 0 ≤ r4 ∧ r4 ≤ 40000000 := by omega
   have b5 : 0 ≤ r5 ∧ r5 ≤ 40000000 := by omega
   have b6 : 0 ≤ r6 ∧ r6 ≤ 40000000 := by omega
   have b7 : 0 ≤ r7 ∧ r7 ≤ 40000000 := by omega
   have w0 : IntKind.i64.wrap (r0 + 1) = r1 := by rw [hr1]; exact wrap64_in _ (by omega) (by omega)
   have w1 : IntKind.i64.wrap (r1 + 1) = r2 := by rw [hr2]; exact wrap64_in _ (by omega) (by omega)
   have w2 : IntKind.i64.wrap (r2 + 1) = r3 := by rw [hr3]; exact wrap64_in _ (by omega) (by omega)
   have w3 : IntKind.i64.wrap (r3 + 1) = r4 := by rw [hr4]; exact wrap64_in _ (by omega) (by omega)
   have w4 : IntKind.i64.wrap (r4 + 1) = r5 := by rw [hr5]; exact wrap64_in _ (by omega) (by omega)
   have tm4 : r4.tmod 3 = r4 % 3 := Int.tmod_eq_emod_of_nonneg (by omega); have tw4 : IntKind.i64.wrap (r4 % 3) = r4 % 3 := wrap64_in _ (by omega) (by omega); have tb4 : (r4 % 3 == 0) = modB r4 := by unfold modB; by_cases h : r4 % 3 = 0 <;> simp [h]
   have Q1 := Lib.hid hr1; have Q2 := Lib.hid hr2; have Q3 := Lib.hid hr3; have Q4 := Lib.hid hr4; have Q5 := Lib.hid hr5; have Q6 := Lib.hid hr6; have Q7 := Lib.hid hr7; clear hr1 hr2 hr3 hr4 hr5 hr6 hr7 hbd; have but : ButS g (E j) wr wr := ButS.refl _ _ _; have y0 := bX.c (j * 7) (x0); have z0 := bX.f (j * 7) (x0); have y1 := bX.c (j * 7 + 1) (x1); have z1 := bX.f (j * 7 + 1) (x1); have y2 := bX.c (j * 7 + 2) (x2); have z2 := bX.f (j * 7 + 2) (x2); have y3 := bX.c (j * 7 + 3) (x3); have z3 := bX.f (j * 7 + 3) (x3); have y4 := bX.c (j * 7 + 4) (x4); have z4 := bX.f (j * 7 + 4) (x4); have y5 := bX.c (j * 7 + 5) (x5); go_wp2_with fail; clear y0 z0 y1 z1 y2 z2 y3 z3 y4 z4 y5; replace bX := bX.set (j * 7) (.int .i64 r0); replace but := but.set (o := j * 7) (u := .int .i64 r0); replace o0 := o0.agr (agr_setS (g := g) (o := j * 7) (u := .int .i64 r0) _ (fun h => e2 (sb0 _ h))); replace o1 := o1.agr (agr_setS (g := g) (o := j * 7) (u := .int .i64 r0) _ (fun h => e2 (sb1 _ h))); replace bX := bX.set (j * 7 + 1) (.int .i64 r1); replace but := but.set (o := j * 7 + 1) (u := .int .i64 r1); replace o0 := o0.agr (agr_setS (g := g) (o := j * 7 + 1) (u := .int .i64 r1) _ (fun h => e2 (sb0 _ h))); replace o1 := o1.agr (agr_setS (g := g) (o := j * 7 + 1) (u := .int .i64 r1) _ (fun h => e2 (sb1 _ h))); replace bX := bX.set (j * 7 + 2) (.int .i64 r2); replace but := but.set (o := j * 7 + 2) (u := .int .i64 r2); replace o0 := o0.agr (agr_setS (g := g) (o := j * 7 + 2) (u := .int .i64 r2) _ (fun h => e2 (sb0 _ h))); replace o1 := o1.agr (agr_setS (g := g) (o := j * 7 + 2) (u := .int .i64 r2) _ (fun h => e2 (sb1 _ h))); replace bX := bX.set (j * 7 + 3) (.int .i64 r3); replace but := but.set (o := j * 7 + 3) (u := .int .i64 r3); replace o0 := o0.agr (agr_setS (g := g) (o := j * 7 + 3) (u := .int .i64 r3) _ (fun h => e2 (sb0 _ h))); replace o1 := o1.agr (agr_setS (g := g) (o := j * 7 + 3) (u := .int .i64 r3) _ (fun h => e2 (sb1 _ h))); replace bX := bX.set (j * 7 + 4) (.bool (modB r4)); replace but := but.set (o := j * 7 + 4) (u := .bool (modB r4)); replace o0 := o0.agr (agr_setS (g := g) (o := j * 7 + 4) (u := .bool (modB r4)) _ (fun h => e2 (sb0 _ h))); replace o1 := o1.agr (agr_setS (g := g) (o := j * 7 + 4) (u := .bool (modB r4)) _ (fun h => e2 (sb1 _ h))); obtain ⟨X0, hX0⟩ : ∃ X, X = (((((wr.setCell ⟨g, j * 7, none⟩ (.int .i64 r0)).setCell ⟨g, j * 7 + 1, none⟩ (.int .i64 r1)).setCell ⟨g, j * 7 + 2, none⟩ (.int .i64 r2)).setCell ⟨g, j * 7 + 3, none⟩ (.int .i64 r3)).setCell ⟨g, j * 7 + 4, none⟩ (.bool (modB r4))) := ⟨_, rfl⟩; rw [← hX0] at bX but o0 o1 ⊢; clear hX0; refine (mkMS_any _ x.ab r5 _ X0 o0 (by omega) (by have := Q6.out; omega)).mono ?_; rintro e w1 ⟨nw0, rfl, s0, lm0, t0, o0, mid⟩; rw [← Q6.out]; replace bX := mid.bl bX (fun h => e2 (sb0 _ h)); replace but := but.mid mid sb0; replace o1 := o1.agr (mid.agr dj01.symm); clear mid; have y6 := bX.c (j * 7 + 6) (by rw [List.getElem?_set_ne (by omega)]; rw [List.getElem?_set_ne (by omega)]; rw [List.getElem?_set_ne (by omega)]; rw [List.getElem?_set_ne (by omega)]; rw [List.getElem?_set_ne (by omega)]; exact x6); go_wp2_with fail; clear y6; obtain ⟨X1, hX1⟩ : ∃ X, X = w1 := ⟨_, rfl⟩; rw [← hX1] at bX but o0 o1 ⊢; clear hX1; refine (mkMS_any _ x.ba r6 _ X1 o1 (by omega) (by have := Q7.out; omega)).mono ?_; rintro e w2 ⟨nw1, rfl, s1, lm1, t1, o1, mid⟩; rw [← Q7.out]; replace bX := mid.bl bX (fun h => e2 (sb1 _ h)); replace but := but.mid mid sb1; replace o0 := o0.agr (mid.agr dj01); clear mid; have KB := Lib.hid bX; go_wp2
   go_roundw
   case rel =>
    have hup := OwLS.upd (cap := vx) (x' := ⟨r0, r1, r2, r3, modB r4, nw0, nw1⟩) HLL.out.1 hSg bX (by simpa using HXL.out) HEE.out HDD.out (by have := HLL.out; omega) (fun i hi hij f hf => by rw [List.getElem?_set_ne (by omega)]; rw [List.getElem?_set_ne (by omega)]; rw [List.getElem?_set_ne (by omega)]; rw [List.getElem?_set_ne (by omega)]; rw [List.getElem?_set_ne (by omega)]) but
     ⟨av, bv, ⟨S0, S1, sb0, sb1, dj01, o0, o1⟩, by rw [List.getElem?_set_ne (by omega)]; rw [List.getElem?_set_ne (by omega)]; rw [List.getElem?_set_ne (by omega)]; rw [List.getElem?_set_ne (by omega)]; rw [List.getElem?_set_self (by (try simp only [List.length_set]); have := HXL.out; have := HLL.out; omega)], by rw [List.getElem?_set_ne (by omega)]; rw [List.getElem?_set_ne (by omega)]; rw [List.getElem?_set_ne (by omega)]; rw [List.getElem?_set_self (by (try simp only [List.length_set]); have := HXL.out; have := HLL.out; omega)], by rw [List.getElem?_set_ne (by omega)]; rw [List.getElem?_set_ne (by omega)]; rw [List.getElem?_set_self (by (try simp only [List.length_set]); have := HXL.out; have := HLL.out; omega)], by rw [List.getElem?_set_ne (by omega)]; rw [List.getElem?_set_self (by (try simp only [List.length_set]); have := HXL.out; have := HLL.out; omega)], by rw [List.getElem?_set_self (by (try simp only [List.length_set]); have := HXL.out; have := HLL.out; omega)], by rw [List.getElem?_set_ne (by omega)]; rw [List.getElem?_set_ne (by omega)]; rw [List.getElem?_set_ne (by omega)]; rw [List.getElem?_set_ne (by omega)]; rw [List.getElem?_set_ne (by omega)]; exact x5, by rw [List.getElem?_set_ne (by omega)]; rw [List.getElem?_set_ne (by omega)]; rw [List.getElem?_set_ne (by omega)]; rw [List.getElem?_set_ne (by omega)]; rw [List.getElem?_set_ne (by omega)]; exact x6⟩
    rw [HLL.out.2] at hup; have hc2 : cntL ⟨r0, r1, r2, r3, modB r4, nw0, nw1⟩ = cntL x := by unfold cntL; simp only [s0, s1]
    refine ⟨j + 1, L'.set j ⟨r0, r1, r2, r3, modB r4, nw0, nw1⟩, by omega, by go_num, ?_, by rw [List.length_set]; exact HLL.out.2, ?_, fun i hi => ?_, hup, ?_⟩
    ·rw [← HEND.out]
     unfold cntL; have := Q1.out; have := Q2.out; have := Q3.out; have := Q4.out; have := Q5.out; have := Q6.out; have := Q7.out
     congr 1
     omega
    ·rw [List.map_set, hc2, ← HX.out, List.getD_eq_getElem?_getD, List.getElem?_eq_getElem (by have := HLL.out; omega)]
     rw [← HCM.out]
     apply List.ext_getElem?
     intro i
     by_cases e : j = i
     ·subst e; rw [List.getElem?_set_self (by rw [List.length_map]; have := HLL.out; omega), List.getElem?_map, List.getElem?_eq_getElem (by have := HLL.out; omega)]; rfl
     ·rw [List.getElem?_set_ne e]
    ·by_cases e : i = j
     ·subst e
      rw [show (L'.set i ⟨r0, r1, r2, r3, modB r4, nw0, nw1⟩).getD i l0 = ⟨r0, r1, r2, r3, modB r4, nw0, nw1⟩ by simp [List.getD, show i < L'.length by have := HLL.out; omega], List.take_set_of_le (Nat.le_refl i), cntLS_same HCM.out, ← HR0.out]; refine ⟨?_, ?_, ?_, ?_, ?_, ?_, ?_⟩
      ·(try rfl)
      ·rw [show r0 + 1 = r1 by have := Q1.out; first | omega | (simp only [s0, s1]; omega) | simp only [s0, s1]]; (try rfl)
      ·rw [show r0 + 1 + 1 = r2 by have := Q1.out; have := Q2.out; first | omega | (simp only [s0, s1]; omega) | simp only [s0, s1]]; (try rfl)
      ·rw [show r0 + 1 + 1 + 1 = r3 by have := Q1.out; have := Q2.out; have := Q3.out; first | omega | (simp only [s0, s1]; omega) | simp only [s0, s1]]; (try rfl)
      ·rw [show r0 + 1 + 1 + 1 + 1 = r4 by have := Q1.out; have := Q2.out; have := Q3.out; have := Q4.out; first | omega | (simp only [s0, s1]; omega) | simp only [s0, s1]]; (try rfl)
      ·rw [show r0 + 1 + 1 + 1 + 1 + 1 = r5 by have := Q1.out; have := Q2.out; have := Q3.out; have := Q4.out; have := Q5.out; first | omega | (simp only [s0, s1]; omega) | simp only [s0, s1]]; exact t0
      ·rw [show r0 + 1 + 1 + 1 + 1 + 1 + ((cntMS nw0 : Nat) : Int) = r6 by have := Q1.out; have := Q2.out; have := Q3.out; have := Q4.out; have := Q5.out; have := Q6.out; first | omega | (simp only [s0, s1]; omega) | simp only [s0, s1]]; exact t1
     ·rw [show (L'.set j ⟨r0, r1, r2, r3, modB r4, nw0, nw1⟩).getD i l0 = L'.getD i l0 by simp [List.getD, List.getElem?_set, Ne.symm e], List.take_set_of_le (by omega)]
      exact HYES.out i (by omega)
    ·exact hB.trans (but.midS e1 hSg)
   case measure => simp [intOf]; omega
  ·have hkn : j = n := by omega
   subst hkn; have HT : Hid (L.take j = L) := Lib.hid (List.take_of_length_le (by rw [HN.out]; exact Nat.le_refl _)); have HF := Lib.hid (And.intro hcm (And.intro hyes (And.intro hO (And.intro hB hlen)))); clear hcm hyes hO hB hlen; go_wp2
   go_ret
   obtain ⟨hcm, hyes, hO, hB, hlen⟩ := HF.out; refine ⟨L', by first | rfl | (rw [HT.out]; rfl), ?_, hlen, fun i hi => hyes i (by omega), hO, hB⟩; unfold cntLS; rw [hcm]
set_option maxHeartbeats 4000000 in
theorem hdLS_any (v : Value) (L : List Lk) (k : Int) (w : World) (h : RdLS w v L) (hm : MkLS k L) (hk0 : 0 ≤ k) (hk : k + (cntLS L : Nat) ≤ 40000000) :
  Calls Tryz.prog 41 #[v, .int .i64 k] w fun e w' => e = .returned (.int .i64 (k + (cntLS L : Nat))) ∧ Below w.heap.size w w' := by
 have hnn := h.1; obtain ⟨a, c, rfl, hc⟩ := h.el; obtain ⟨n, hn⟩ : ∃ n, n = L.length := ⟨_, rfl⟩; rw [← hn] at hc hnn ⊢; have HN := Lib.hid hn; have HM := Lib.hid hm; clear h hn hm
 go_enter Tryz.func41, Tryz.ntmps41
 go_wp2
 go_loopw [1, 5] (fun s i wr => ∃ j : Nat, j ≤ n ∧ i = .int .i64 j ∧ s = .int .i64 (k + (cntLS (L.take j) : Nat)) ∧ Below w.heap.size w wr) (fun _ i _ => n - (intOf i).toNat)
 case atStart => exact ⟨0, Nat.zero_le _, rfl, by simp [cntLS], Below.refl _ _⟩
 case round =>
  obtain ⟨j, hj, rfl, rfl, hB⟩ := hrel
  by_cases hlt : j < n
  ·have hltI : (j : Int) < (n : Int) := by omega
   obtain ⟨b, o, rfl, hE⟩ := hc j hlt; obtain ⟨x, hx⟩ : ∃ x, L.getD j l0 = x := ⟨_, rfl⟩; have hmx := HM.out j (by rw [← HN.out]; exact hlt); rw [hx] at hE hmx; obtain ⟨av, bv, ⟨o0, o1⟩, g0, g1, g2, g3, g4, g5, g6⟩ := hE.keep hB; have hcnt := cntLS_take (L := L) (j := j) (by rw [← HN.out]; exact hlt); rw [hx] at hcnt; have hle := cntLS_le L (j + 1); obtain ⟨r0, hr0⟩ : ∃ r : Int, r = k + (cntLS (L.take j) : Nat) := ⟨_, rfl⟩; have hend : r0 + (cntL x : Nat) = k + (cntLS (L.take (j + 1)) : Nat) := by omega
   have hbd : 0 ≤ r0 ∧ r0 + (cntL x : Nat) ≤ 40000000 := by omega
   rw [← hr0] at hmx ⊢; have HEND := Lib.hid hend; have HC := Lib.hid hc; clear hr0 hend hcnt hle hx hc hE; unfold cntL at hbd; unfold MkL at hmx; obtain ⟨a0, a1, a2, a3, a4, a5, a6⟩ := hmx; obtain ⟨r1, hr1⟩ : ∃ r : Int, r = r0 + 1 := ⟨_, rfl⟩; have t0 : x.a = r0 := by rw [a0]; (try omega)
   rw [t0] at g0; obtain ⟨r2, hr2⟩ : ∃ r : Int, r = r1 + 1 := ⟨_, rfl⟩; have t1 : x.ai = r1 := by rw [a1]; (try omega)
   rw [t1] at g1; obtain ⟨r3, hr3⟩ : ∃ r : Int, r = r2 + 1 := ⟨_, rfl⟩; have t2 : x.b = r2 := by rw [a2]; (try omega)
   rw [t2] at g2; obtain ⟨r4, hr4⟩ : ∃ r : Int, r = r3 + 1 := ⟨_, rfl⟩; have t3 : x.bi = r3 := by rw [a3]; (try omega)
   rw [t3] at g3; obtain ⟨r5, hr5⟩ : ∃ r : Int, r = r4 + 1 := ⟨_, rfl⟩
   have t4 : x.up = modB r4 := by
    have e : r0 + 1 + 1 + 1 + 1 = r4 := by omega
    rw [← e]; exact a4
   rw [t4] at g4; obtain ⟨r6, hr6⟩ : ∃ r : Int, r = r5 + (cntMS x.ab : Nat) := ⟨_, rfl⟩
   have t5 : MkMS r5 x.ab := by
    have e : r0 + 1 + 1 + 1 + 1 + 1 = r5 := by omega
    rw [← e]; exact a5
   obtain ⟨r7, hr7⟩ : ∃ r : Int, r = r6 + (cntMS x.ba : Nat) := ⟨_, rfl⟩
   have t6 : MkMS r6 x.ba := by
    have e : r0 + 1 + 1 + 1 + 1 + 1 + ((cntMS x.ab : Nat) : Int) = r6 := by omega
    rw [← e]; exact a6
   have b0 : 0 ≤ r0 ∧ r0 ≤ 40000000 := by omega
   have b1 : 0 ≤ r1 ∧ r1 ≤ 40000000 := by omega
   have b2 : 0 ≤ r2 ∧ r2 ≤ 40000000 := by omega
   have b3 : 0 ≤ r3 ∧ r3 ≤ 40000000 := by omega
   have b4 : 0 ≤ r4 ∧ r4 ≤ 40000000 := by omega
   have b5 : 0 ≤ r5 ∧ r5 ≤ 40000000 := by omega
   have b6 : 0 ≤ r6 ∧ r6 ≤ 40000000 := by omega
   have b7 : 0 ≤ r7 ∧ r7 ≤ 40000000 := by omega
   have ng0 : ¬ r0 < 0 := by omega
   have ng1 : ¬ r1 < 0 := by omega
   have ng2 : ¬ r2 < 0 := by omega
   have ng3 : ¬ r3 < 0 := by omega
   have ng4 : ¬ r4 < 0 := by omega
   have ng5 : ¬ r5 < 0 := by omega
   have ng6 : ¬ r6 < 0 := by omega
   have ng7 : ¬ r7 < 0 := by omega
   have w0 : IntKind.i64.wrap (r0 + 1) = r1 := by rw [hr1]; exact wrap64_in _ (by omega) (by omega)
   have e0 : (r0 != r0) = false := by simp
   have w1 : IntKind.i64.wrap (r1 + 1) = r2 := by rw [hr2]; exact wrap64_in _ (by omega) (by omega)
   have e1 : (r1 != r1) = false := by simp
   have w2 : IntKind.i64.wrap (r2 + 1) = r3 := by rw [hr3]; exact wrap64_in _ (by omega) (by omega)
   have e2 : (r2 != r2) = false := by simp
   have w3 : IntKind.i64.wrap (r3 + 1) = r4 := by rw [hr4]; exact wrap64_in _ (by omega) (by omega)
   have e3 : (r3 != r3) = false := by simp
   have w4 : IntKind.i64.wrap (r4 + 1) = r5 := by rw [hr5]; exact wrap64_in _ (by omega) (by omega)
   have tm4 : r4.tmod 3 = r4 % 3 := Int.tmod_eq_emod_of_nonneg (by omega); have tw4 : IntKind.i64.wrap (r4 % 3) = r4 % 3 := wrap64_in _ (by omega) (by omega); have tb4 : (r4 % 3 == 0) = modB r4 := by unfold modB; by_cases h : r4 % 3 = 0 <;> simp [h]
   have e4 : (modB r4 != modB r4) = false := by simp
   have Q1 := Lib.hid hr1; have Q2 := Lib.hid hr2; have Q3 := Lib.hid hr3; have Q4 := Lib.hid hr4; have Q5 := Lib.hid hr5; have Q6 := Lib.hid hr6; have Q7 := Lib.hid hr7; clear hr1 hr2 hr3 hr4 hr5 hr6 hr7 hbd a0 a1 a2 a3 a4 a5 a6 t0 t1 t2 t3 t4; go_wp2_with fail; refine (hdMS_any _ x.ab r5 _ o0 t5 (by omega) (by have := Q6.out; omega)).mono ?_; rintro e v5 ⟨rfl, hb⟩; rw [← Q6.out]; replace hB := below_step hB hb; replace g6 := cell_keep hb (World.block_lt_of_cell? _ _ g6) g6; replace o1 := o1.keep hb; clear hb; go_wp2_with fail; refine (hdMS_any _ x.ba r6 _ o1 t6 (by omega) (by have := Q7.out; omega)).mono ?_; rintro e v6 ⟨rfl, hb⟩; rw [← Q7.out]; replace hB := below_step hB hb; clear hb; go_wp2
   go_roundw
   case rel => exact ⟨j + 1, by omega, by go_num, by rw [← HEND.out]; unfold cntL; have := Q1.out; have := Q2.out; have := Q3.out; have := Q4.out; have := Q5.out; have := Q6.out; have := Q7.out; congr 1; omega, hB⟩
   case measure => simp [intOf]; omega
  ·have hkn : j = n := by omega
   subst hkn; have HT : Hid (L.take j = L) := Lib.hid (List.take_of_length_le (by rw [HN.out]; exact Nat.le_refl _)); clear hc; go_wp2
   go_ret
   exact ⟨by first | rfl | (rw [HT.out]; rfl), hB⟩
end Go.Proofs.YtkodnipmogdgkaaGreat
namespace Go.Proofs.YtkodnipmogdgkaaGreat
open Go.ChangeShapes Go.WideShapes Go.ChangeAt Go.RowKit Go.BigFrame Go.Joins
set_option linter.unusedVariables false
set_option maxRecDepth 100000
set_option linter.unusedSimpArgs false
set_option maxRecDepth 100000

theorem toPS_o (v : Value) (l : List (Int × Int)) (w : World) (h : RdP w v l) (hl : l.length ≤ 1048576) :
  Calls Tryz.prog 91 #[v] w fun e w' => ∃ u, e = .returned u ∧ OwPr w' (Rg w.heap.size w'.heap.size) u l ∧ Below w.heap.size w w' := by
 refine (toP_any v l w h hl).mono ?_; rintro e w' ⟨a, c, rfl, ho, hb⟩
 exact ⟨_, rfl, ⟨ho.mono (Nat.zero_le _), fun k q => World.ownsRow.lt ho k q, hl⟩, hb⟩
theorem toQE_o (v : Value) (l : List Ent) (w : World) (h : RdE w v l) (hl : l.length + wtE l ≤ 1048576) :
  Calls Tryz.prog 146 #[v] w fun e w' => ∃ u, e = .returned u ∧ OwQE w' (Rg w.heap.size w'.heap.size) u l ∧ Below w.heap.size w w' := toQS_o v l w (rdQ_of h) hl
theorem OwQE.mono {w : World} {S S' : Nat → Prop} {v : Value} {l : List Ent} (h : OwQE w S v l) (hs : ∀ b, S b → S' b) : OwQE w S' v l := OwQS.mono h hs
set_option maxHeartbeats 2000000 in
theorem toRb_o (s0 : Value) (x : List Ent) (w : World) (h : RdE w s0 x) (hw : x.length + wtE x ≤ 1048576) :
  Calls Tryz.prog 92 #[.agg #[s0]] w fun e w' => ∃ s0, e = .returned (.agg #[s0]) ∧ OwQE w' (Rg w.heap.size w'.heap.size) s0 x ∧ Below w.heap.size w w' := by
 obtain ⟨bA, bR, bO, B1, z⟩ := three w [s0] [.slice none 0 0] [.slice none 0 0] 83 56 56; have a0 := bA.c 0 rfl
 go_enter Tryz.func92, Tryz.ntmps92
 go_wp2_with fail; clear a0; obtain ⟨lo0, hlo0⟩ : ∃ n, n = w.heap.size + 3 := ⟨_, rfl⟩; refine (toQE_o s0 x _ (h.keep B1) (by omega)).mono ?_; rintro e w1 ⟨u0, rfl, f0, hb⟩; obtain ⟨p0, q0, rfl⟩ := f0.rd.len; have hs := hb.size; rw [z, ← hlo0] at f0 hs; obtain ⟨hi0, hhi0⟩ : ∃ n, n = w1.heap.size := ⟨_, rfl⟩; rw [← hhi0] at f0; replace bA := bA.keep hb; replace bR := bR.keep hb; replace bO := bO.keep hb; replace B1 := below_step B1 hb; clear hb; clear z; obtain ⟨A, hA⟩ : ∃ A, A = w.heap.size := ⟨_, rfl⟩; obtain ⟨R, hR⟩ : ∃ R, R = w.heap.size + 1 := ⟨_, rfl⟩; obtain ⟨O, hO⟩ : ∃ O, O = w.heap.size + 1 + 1 := ⟨_, rfl⟩; rw [← hA] at bA; rw [← hR] at bR; rw [← hO] at bO; rw [← hO, ← hR]
 try rw [← hA]
 have hO3 : O < lo0 := by omega
 have hRO : R ≠ O := by omega
 have hR3 : R < lo0 := by omega
 have hAO : A ≠ O := by omega
 have hwO : w.heap.size ≤ O := by omega
 have hwR : w.heap.size ≤ R := by omega
 have hw3 : w.heap.size ≤ lo0 := by omega
 clear hA hR hO hlo0; have HHI0 := Lib.hid hhi0; clear hhi0; have o0 := bO.c 0 rfl; have of0 := bO.f 0 rfl; have r0 := bR.c 0 rfl; have rf0 := bR.f 0 rfl; go_wp2_with fail; have hll0 : lo0 ≤ hi0 := by rw [HHI0.out]; exact hs
 have bE := ((bR.far (o := 0) (u := .slice p0 x.length q0) hRO).set 0 (.slice p0 x.length q0)); have e0 := bE.c 0 rfl; have g0 := ((f0.agr (agr_setS (g := O) (o := 0) (u := .slice p0 x.length q0) _ (fun q => by have := q.1; omega))).agr (agr_setS (g := R) (o := 0) (u := .slice p0 x.length q0) _ (fun q => by have := q.1; omega)))
 exact bodyPost_ret (v := .agg #[.slice p0 x.length q0]) (by simp [results, Tryz.results92, go_sem, e0]) rfl
  ⟨_, rfl, (g0.mono (fun b q => ⟨by have := q.1; omega, by have := q.2; have := HHI0.out; simp; omega⟩)), ((B1.setCell (p := ⟨O, 0, none⟩) hwO (.slice p0 x.length q0)).setCell (p := ⟨R, 0, none⟩) hwR (.slice p0 x.length q0))⟩
set_option maxHeartbeats 2000000 in
theorem toN_o (s0 s1 s2 : Value) (x : Nd) (w : World) (h : RdN w s0 s1 s2 x) (hw : wtN x ≤ 1048576) :
  Calls Tryz.prog 49 #[.agg #[.int .i64 x.an, s0, .int .i64 x.bw, .bool x.dr, s1, s2]] w fun e w' => ∃ s0 s1 s2, e = .returned (.agg #[.int .i64 x.an, s0, .int .i64 x.bw, .bool x.dr, s1, s2]) ∧ OwN w' (Rg w.heap.size w'.heap.size) s0 s1 s2 x ∧ Below w.heap.size w w' := by
 unfold wtN at hw; obtain ⟨bA, bR, bO, B1, z⟩ := three w [.int .i64 x.an, s0, .int .i64 x.bw, .bool x.dr, s1, s2] [.int .i64 0, .slice none 0 0, .int .i64 0, .bool false, .slice none 0 0, .slice none 0 0] [.int .i64 x.an, .slice none 0 0, .int .i64 0, .bool false, .slice none 0 0, .slice none 0 0] 85 58 58; have a1 := bA.c 1 rfl
 go_enter Tryz.func49, Tryz.ntmps49
 go_wp2_with fail; clear a1; obtain ⟨lo0, hlo0⟩ : ∃ n, n = w.heap.size + 3 := ⟨_, rfl⟩; refine (toPS_o s0 x.own _ (h.1.keep B1) (by omega)).mono ?_; rintro e w1 ⟨u0, rfl, f0, hb⟩; obtain ⟨p0, q0, rfl⟩ := f0.rd.len; have hs := hb.size; rw [z, ← hlo0] at f0 hs; obtain ⟨hi0, hhi0⟩ : ∃ n, n = w1.heap.size := ⟨_, rfl⟩; rw [← hhi0] at f0; replace bA := bA.keep hb; replace bR := bR.keep hb; replace bO := bO.keep hb; replace B1 := below_step B1 hb; clear hb; clear z; obtain ⟨A, hA⟩ : ∃ A, A = w.heap.size := ⟨_, rfl⟩; obtain ⟨R, hR⟩ : ∃ R, R = w.heap.size + 1 := ⟨_, rfl⟩; obtain ⟨O, hO⟩ : ∃ O, O = w.heap.size + 1 + 1 := ⟨_, rfl⟩; rw [← hA] at bA; rw [← hR] at bR; rw [← hO] at bO; rw [← hO, ← hR]
 try rw [← hA]
 have hO3 : O < lo0 := by omega
 have hRO : R ≠ O := by omega
 have hR3 : R < lo0 := by omega
 have hAO : A ≠ O := by omega
 have hwO : w.heap.size ≤ O := by omega
 have hwR : w.heap.size ≤ R := by omega
 have hw3 : w.heap.size ≤ lo0 := by omega
 clear hA hR hO hlo0; have HHI0 := Lib.hid hhi0; clear hhi0; have o1 := bO.c 1 rfl; have of1 := bO.f 1 rfl; have o2 := bO.c 2 rfl; have of2 := bO.f 2 rfl; have o3 := bO.c 3 rfl; have of3 := bO.f 3 rfl; have a2 := bA.c 2 rfl; have a3 := bA.c 3 rfl; have a4 := bA.c 4 rfl; go_wp2_with fail; clear o1 of1 o2 of2 o3 of3 a2 a3 a4; replace bA := bA.far (o := 1) (u := .slice p0 x.own.length q0) hAO; replace bR := bR.far (o := 1) (u := .slice p0 x.own.length q0) hRO; replace bO := bO.set 1 (.slice p0 x.own.length q0); replace f0 := f0.agr (agr_setS (g := O) (o := 1) (u := .slice p0 x.own.length q0) _ (fun q => by have := q.1; omega)); replace B1 := B1.setCell (p := ⟨O, 1, none⟩) hwO (.slice p0 x.own.length q0); replace bA := bA.far (o := 2) (u := .int .i64 x.bw) hAO; replace bR := bR.far (o := 2) (u := .int .i64 x.bw) hRO; replace bO := bO.set 2 (.int .i64 x.bw); replace f0 := f0.agr (agr_setS (g := O) (o := 2) (u := .int .i64 x.bw) _ (fun q => by have := q.1; omega)); replace B1 := B1.setCell (p := ⟨O, 2, none⟩) hwO (.int .i64 x.bw); replace bA := bA.far (o := 3) (u := .bool x.dr) hAO; replace bR := bR.far (o := 3) (u := .bool x.dr) hRO; replace bO := bO.set 3 (.bool x.dr); replace f0 := f0.agr (agr_setS (g := O) (o := 3) (u := .bool x.dr) _ (fun q => by have := q.1; omega)); replace B1 := B1.setCell (p := ⟨O, 3, none⟩) hwO (.bool x.dr); obtain ⟨lo1, hlo1⟩ : ∃ n, n = (((w1.setCell ⟨O, 1, none⟩ (.slice p0 x.own.length q0)).setCell ⟨O, 2, none⟩ (.int .i64 x.bw)).setCell ⟨O, 3, none⟩ (.bool x.dr)).heap.size := ⟨_, rfl⟩; have hle0 : hi0 ≤ lo1 := by rw [hlo1, HHI0.out]; simp
 have hll0 : lo0 ≤ hi0 := by rw [HHI0.out]; exact hs
 refine (toRb_o s1 x.rib _ (h.2.1.keep B1) (by omega)).mono ?_; rintro e w2 ⟨u1, rfl, f1, hb⟩; obtain ⟨p1, q1, rfl⟩ := f1.rd.len; have hs1 := hb.size; rw [← hlo1] at f1 hs1; obtain ⟨hi1, hhi1⟩ : ∃ n, n = w2.heap.size := ⟨_, rfl⟩; rw [← hhi1] at f1; replace bA := bA.keep hb; replace bR := bR.keep hb; replace bO := bO.keep hb; replace f0 := f0.agr (.of_below hb); replace B1 := below_step B1 hb; clear hb; have HHI1 := Lib.hid hhi1; clear hhi1; have o4 := bO.c 4 rfl; have of4 := bO.f 4 rfl; have a5 := bA.c 5 rfl; go_wp2_with fail; clear o4 of4 a5; replace bA := bA.far (o := 4) (u := .slice p1 x.rib.length q1) hAO; replace bR := bR.far (o := 4) (u := .slice p1 x.rib.length q1) hRO; replace bO := bO.set 4 (.slice p1 x.rib.length q1); replace f0 := f0.agr (agr_setS (g := O) (o := 4) (u := .slice p1 x.rib.length q1) _ (fun q => by have := q.1; omega)); replace f1 := f1.agr (agr_setS (g := O) (o := 4) (u := .slice p1 x.rib.length q1) _ (fun q => by have := q.1; omega)); replace B1 := B1.setCell (p := ⟨O, 4, none⟩) hwO (.slice p1 x.rib.length q1); obtain ⟨lo2, hlo2⟩ : ∃ n, n = (w2.setCell ⟨O, 4, none⟩ (.slice p1 x.rib.length q1)).heap.size := ⟨_, rfl⟩; have hle1 : hi1 ≤ lo2 := by rw [hlo2, HHI1.out]; simp
 have hll1 : lo1 ≤ hi1 := by rw [HHI1.out]; exact hs1
 refine (toRb_o s2 x.sent _ (h.2.2.keep B1) (by omega)).mono ?_; rintro e w3 ⟨u2, rfl, f2, hb⟩; obtain ⟨p2, q2, rfl⟩ := f2.rd.len; have hs2 := hb.size; rw [← hlo2] at f2 hs2; obtain ⟨hi2, hhi2⟩ : ∃ n, n = w3.heap.size := ⟨_, rfl⟩; rw [← hhi2] at f2; replace bA := bA.keep hb; replace bR := bR.keep hb; replace bO := bO.keep hb; replace f0 := f0.agr (.of_below hb); replace f1 := f1.agr (.of_below hb); replace B1 := below_step B1 hb; clear hb; have HHI2 := Lib.hid hhi2; clear hhi2; have o0 := bO.c 0 rfl; have of0 := bO.f 0 rfl; have o1 := bO.c 1 rfl; have of1 := bO.f 1 rfl; have o2 := bO.c 2 rfl; have of2 := bO.f 2 rfl; have o3 := bO.c 3 rfl; have of3 := bO.f 3 rfl; have o4 := bO.c 4 rfl; have of4 := bO.f 4 rfl; have o5 := bO.c 5 rfl; have of5 := bO.f 5 rfl; have r0 := bR.c 0 rfl; have rf0 := bR.f 0 rfl; have r1 := bR.c 1 rfl; have rf1 := bR.f 1 rfl; have r2 := bR.c 2 rfl; have rf2 := bR.f 2 rfl; have r3 := bR.c 3 rfl; have rf3 := bR.f 3 rfl; have r4 := bR.c 4 rfl; have rf4 := bR.f 4 rfl; have r5 := bR.c 5 rfl; have rf5 := bR.f 5 rfl; go_wp2_with fail; have hll2 : lo2 ≤ hi2 := by rw [HHI2.out]; exact hs2
 have bE := (((((((bR.far (o := 5) (u := .slice p2 x.sent.length q2) hRO).set 0 (.int .i64 x.an)).set 1 (.slice p0 x.own.length q0)).set 2 (.int .i64 x.bw)).set 3 (.bool x.dr)).set 4 (.slice p1 x.rib.length q1)).set 5 (.slice p2 x.sent.length q2)); have e0 := bE.c 0 rfl; have e1 := bE.c 1 rfl; have e2 := bE.c 2 rfl; have e3 := bE.c 3 rfl; have e4 := bE.c 4 rfl; have e5 := bE.c 5 rfl; have g0 := (((((((f0.agr (agr_setS (g := O) (o := 5) (u := .slice p2 x.sent.length q2) _ (fun q => by have := q.1; omega))).agr (agr_setS (g := R) (o := 0) (u := .int .i64 x.an) _ (fun q => by have := q.1; omega))).agr (agr_setS (g := R) (o := 1) (u := .slice p0 x.own.length q0) _ (fun q => by have := q.1; omega))).agr (agr_setS (g := R) (o := 2) (u := .int .i64 x.bw) _ (fun q => by have := q.1; omega))).agr (agr_setS (g := R) (o := 3) (u := .bool x.dr) _ (fun q => by have := q.1; omega))).agr (agr_setS (g := R) (o := 4) (u := .slice p1 x.rib.length q1) _ (fun q => by have := q.1; omega))).agr (agr_setS (g := R) (o := 5) (u := .slice p2 x.sent.length q2) _ (fun q => by have := q.1; omega))); have g1 := (((((((f1.agr (agr_setS (g := O) (o := 5) (u := .slice p2 x.sent.length q2) _ (fun q => by have := q.1; omega))).agr (agr_setS (g := R) (o := 0) (u := .int .i64 x.an) _ (fun q => by have := q.1; omega))).agr (agr_setS (g := R) (o := 1) (u := .slice p0 x.own.length q0) _ (fun q => by have := q.1; omega))).agr (agr_setS (g := R) (o := 2) (u := .int .i64 x.bw) _ (fun q => by have := q.1; omega))).agr (agr_setS (g := R) (o := 3) (u := .bool x.dr) _ (fun q => by have := q.1; omega))).agr (agr_setS (g := R) (o := 4) (u := .slice p1 x.rib.length q1) _ (fun q => by have := q.1; omega))).agr (agr_setS (g := R) (o := 5) (u := .slice p2 x.sent.length q2) _ (fun q => by have := q.1; omega))); have g2 := (((((((f2.agr (agr_setS (g := O) (o := 5) (u := .slice p2 x.sent.length q2) _ (fun q => by have := q.1; omega))).agr (agr_setS (g := R) (o := 0) (u := .int .i64 x.an) _ (fun q => by have := q.1; omega))).agr (agr_setS (g := R) (o := 1) (u := .slice p0 x.own.length q0) _ (fun q => by have := q.1; omega))).agr (agr_setS (g := R) (o := 2) (u := .int .i64 x.bw) _ (fun q => by have := q.1; omega))).agr (agr_setS (g := R) (o := 3) (u := .bool x.dr) _ (fun q => by have := q.1; omega))).agr (agr_setS (g := R) (o := 4) (u := .slice p1 x.rib.length q1) _ (fun q => by have := q.1; omega))).agr (agr_setS (g := R) (o := 5) (u := .slice p2 x.sent.length q2) _ (fun q => by have := q.1; omega)))
 exact bodyPost_ret (v := .agg #[.int .i64 x.an, .slice p0 x.own.length q0, .int .i64 x.bw, .bool x.dr, .slice p1 x.rib.length q1, .slice p2 x.sent.length q2]) (by simp [results, Tryz.results49, go_sem, e0, e1, e2, e3, e4, e5]) rfl
  ⟨_, _, _, rfl, ⟨Rg lo0 hi0, Rg lo1 hi1, Rg lo2 hi2, (fun b q => ⟨by have := q.1; omega, by have := q.2; have := HHI2.out; simp; omega⟩), (fun b q => ⟨by have := q.1; omega, by have := q.2; have := HHI2.out; simp; omega⟩), (fun b q => ⟨by have := q.1; omega, by have := q.2; have := HHI2.out; simp; omega⟩), (fun b q1 q2 => by have := q1.2; have := q2.1; omega), (fun b q1 q2 => by have := q1.2; have := q2.1; omega), (fun b q1 q2 => by have := q1.2; have := q2.1; omega), g0, g1, g2⟩, (((((((B1.setCell (p := ⟨O, 5, none⟩) hwO (.slice p2 x.sent.length q2)).setCell (p := ⟨R, 0, none⟩) hwR (.int .i64 x.an)).setCell (p := ⟨R, 1, none⟩) hwR (.slice p0 x.own.length q0)).setCell (p := ⟨R, 2, none⟩) hwR (.int .i64 x.bw)).setCell (p := ⟨R, 3, none⟩) hwR (.bool x.dr)).setCell (p := ⟨R, 4, none⟩) hwR (.slice p1 x.rib.length q1)).setCell (p := ⟨R, 5, none⟩) hwR (.slice p2 x.sent.length q2))⟩
set_option maxHeartbeats 2000000 in
theorem toL_o (s0 s1 : Value) (x : Lk) (w : World) (h : RdL w s0 s1 x) (hw : wtL x ≤ 1048576) :
  Calls Tryz.prog 78 #[.agg #[.int .i64 x.a, .int .i64 x.ai, .int .i64 x.b, .int .i64 x.bi, .bool x.up, s0, s1]] w fun e w' => ∃ s0 s1, e = .returned (.agg #[.int .i64 x.a, .int .i64 x.ai, .int .i64 x.b, .int .i64 x.bi, .bool x.up, s0, s1]) ∧ OwL w' (Rg w.heap.size w'.heap.size) s0 s1 x ∧ Below w.heap.size w w' := by
 unfold wtL at hw; obtain ⟨bA, bR, bO, B1, z⟩ := three w [.int .i64 x.a, .int .i64 x.ai, .int .i64 x.b, .int .i64 x.bi, .bool x.up, s0, s1] [.int .i64 0, .int .i64 0, .int .i64 0, .int .i64 0, .bool false, .slice none 0 0, .slice none 0 0] [.int .i64 x.a, .int .i64 x.ai, .int .i64 x.b, .int .i64 x.bi, .bool x.up, .slice none 0 0, .slice none 0 0] 116 70 70; have a5 := bA.c 5 rfl
 go_enter Tryz.func78, Tryz.ntmps78
 go_wp2_with fail; clear a5; obtain ⟨lo0, hlo0⟩ : ∃ n, n = w.heap.size + 3 := ⟨_, rfl⟩; refine (toMS_o s0 x.ab _ (h.1.keep B1) (by omega)).mono ?_; rintro e w1 ⟨u0, rfl, f0, hb⟩; obtain ⟨p0, q0, rfl⟩ := f0.rd.len; have hs := hb.size; rw [z, ← hlo0] at f0 hs; obtain ⟨hi0, hhi0⟩ : ∃ n, n = w1.heap.size := ⟨_, rfl⟩; rw [← hhi0] at f0; replace bA := bA.keep hb; replace bR := bR.keep hb; replace bO := bO.keep hb; replace B1 := below_step B1 hb; clear hb; clear z; obtain ⟨A, hA⟩ : ∃ A, A = w.heap.size := ⟨_, rfl⟩; obtain ⟨R, hR⟩ : ∃ R, R = w.heap.size + 1 := ⟨_, rfl⟩; obtain ⟨O, hO⟩ : ∃ O, O = w.heap.size + 1 + 1 := ⟨_, rfl⟩; rw [← hA] at bA; rw [← hR] at bR; rw [← hO] at bO; rw [← hO, ← hR]
 try rw [← hA]
 have hO3 : O < lo0 := by omega
 have hRO : R ≠ O := by omega
 have hR3 : R < lo0 := by omega
 have hAO : A ≠ O := by omega
 have hwO : w.heap.size ≤ O := by omega
 have hwR : w.heap.size ≤ R := by omega
 have hw3 : w.heap.size ≤ lo0 := by omega
 clear hA hR hO hlo0; have HHI0 := Lib.hid hhi0; clear hhi0; have o5 := bO.c 5 rfl; have of5 := bO.f 5 rfl; have a6 := bA.c 6 rfl; go_wp2_with fail; clear o5 of5 a6; replace bA := bA.far (o := 5) (u := .slice p0 x.ab.length q0) hAO; replace bR := bR.far (o := 5) (u := .slice p0 x.ab.length q0) hRO; replace bO := bO.set 5 (.slice p0 x.ab.length q0); replace f0 := f0.agr (agr_setS (g := O) (o := 5) (u := .slice p0 x.ab.length q0) _ (fun q => by have := q.1; omega)); replace B1 := B1.setCell (p := ⟨O, 5, none⟩) hwO (.slice p0 x.ab.length q0); obtain ⟨lo1, hlo1⟩ : ∃ n, n = (w1.setCell ⟨O, 5, none⟩ (.slice p0 x.ab.length q0)).heap.size := ⟨_, rfl⟩; have hle0 : hi0 ≤ lo1 := by rw [hlo1, HHI0.out]; simp
 have hll0 : lo0 ≤ hi0 := by rw [HHI0.out]; exact hs
 refine (toMS_o s1 x.ba _ (h.2.keep B1) (by omega)).mono ?_; rintro e w2 ⟨u1, rfl, f1, hb⟩; obtain ⟨p1, q1, rfl⟩ := f1.rd.len; have hs1 := hb.size; rw [← hlo1] at f1 hs1; obtain ⟨hi1, hhi1⟩ : ∃ n, n = w2.heap.size := ⟨_, rfl⟩; rw [← hhi1] at f1; replace bA := bA.keep hb; replace bR := bR.keep hb; replace bO := bO.keep hb; replace f0 := f0.agr (.of_below hb); replace B1 := below_step B1 hb; clear hb; have HHI1 := Lib.hid hhi1; clear hhi1; have o0 := bO.c 0 rfl; have of0 := bO.f 0 rfl; have o1 := bO.c 1 rfl; have of1 := bO.f 1 rfl; have o2 := bO.c 2 rfl; have of2 := bO.f 2 rfl; have o3 := bO.c 3 rfl; have of3 := bO.f 3 rfl; have o4 := bO.c 4 rfl; have of4 := bO.f 4 rfl; have o5 := bO.c 5 rfl; have of5 := bO.f 5 rfl; have o6 := bO.c 6 rfl; have of6 := bO.f 6 rfl; have r0 := bR.c 0 rfl; have rf0 := bR.f 0 rfl; have r1 := bR.c 1 rfl; have rf1 := bR.f 1 rfl; have r2 := bR.c 2 rfl; have rf2 := bR.f 2 rfl; have r3 := bR.c 3 rfl; have rf3 := bR.f 3 rfl; have r4 := bR.c 4 rfl; have rf4 := bR.f 4 rfl; have r5 := bR.c 5 rfl; have rf5 := bR.f 5 rfl; have r6 := bR.c 6 rfl; have rf6 := bR.f 6 rfl; go_wp2_with fail; have hll1 : lo1 ≤ hi1 := by rw [HHI1.out]; exact hs1
 have bE := ((((((((bR.far (o := 6) (u := .slice p1 x.ba.length q1) hRO).set 0 (.int .i64 x.a)).set 1 (.int .i64 x.ai)).set 2 (.int .i64 x.b)).set 3 (.int .i64 x.bi)).set 4 (.bool x.up)).set 5 (.slice p0 x.ab.length q0)).set 6 (.slice p1 x.ba.length q1)); have e0 := bE.c 0 rfl; have e1 := bE.c 1 rfl; have e2 := bE.c 2 rfl; have e3 := bE.c 3 rfl; have e4 := bE.c 4 rfl; have e5 := bE.c 5 rfl; have e6 := bE.c 6 rfl; have g0 := ((((((((f0.agr (agr_setS (g := O) (o := 6) (u := .slice p1 x.ba.length q1) _ (fun q => by have := q.1; omega))).agr (agr_setS (g := R) (o := 0) (u := .int .i64 x.a) _ (fun q => by have := q.1; omega))).agr (agr_setS (g := R) (o := 1) (u := .int .i64 x.ai) _ (fun q => by have := q.1; omega))).agr (agr_setS (g := R) (o := 2) (u := .int .i64 x.b) _ (fun q => by have := q.1; omega))).agr (agr_setS (g := R) (o := 3) (u := .int .i64 x.bi) _ (fun q => by have := q.1; omega))).agr (agr_setS (g := R) (o := 4) (u := .bool x.up) _ (fun q => by have := q.1; omega))).agr (agr_setS (g := R) (o := 5) (u := .slice p0 x.ab.length q0) _ (fun q => by have := q.1; omega))).agr (agr_setS (g := R) (o := 6) (u := .slice p1 x.ba.length q1) _ (fun q => by have := q.1; omega))); have g1 := ((((((((f1.agr (agr_setS (g := O) (o := 6) (u := .slice p1 x.ba.length q1) _ (fun q => by have := q.1; omega))).agr (agr_setS (g := R) (o := 0) (u := .int .i64 x.a) _ (fun q => by have := q.1; omega))).agr (agr_setS (g := R) (o := 1) (u := .int .i64 x.ai) _ (fun q => by have := q.1; omega))).agr (agr_setS (g := R) (o := 2) (u := .int .i64 x.b) _ (fun q => by have := q.1; omega))).agr (agr_setS (g := R) (o := 3) (u := .int .i64 x.bi) _ (fun q => by have := q.1; omega))).agr (agr_setS (g := R) (o := 4) (u := .bool x.up) _ (fun q => by have := q.1; omega))).agr (agr_setS (g := R) (o := 5) (u := .slice p0 x.ab.length q0) _ (fun q => by have := q.1; omega))).agr (agr_setS (g := R) (o := 6) (u := .slice p1 x.ba.length q1) _ (fun q => by have := q.1; omega)))
 exact bodyPost_ret (v := .agg #[.int .i64 x.a, .int .i64 x.ai, .int .i64 x.b, .int .i64 x.bi, .bool x.up, .slice p0 x.ab.length q0, .slice p1 x.ba.length q1]) (by simp [results, Tryz.results78, go_sem, e0, e1, e2, e3, e4, e5, e6]) rfl
  ⟨_, _, rfl, ⟨Rg lo0 hi0, Rg lo1 hi1, (fun b q => ⟨by have := q.1; omega, by have := q.2; have := HHI1.out; simp; omega⟩), (fun b q => ⟨by have := q.1; omega, by have := q.2; have := HHI1.out; simp; omega⟩), (fun b q1 q2 => by have := q1.2; have := q2.1; omega), g0, g1⟩, ((((((((B1.setCell (p := ⟨O, 6, none⟩) hwO (.slice p1 x.ba.length q1)).setCell (p := ⟨R, 0, none⟩) hwR (.int .i64 x.a)).setCell (p := ⟨R, 1, none⟩) hwR (.int .i64 x.ai)).setCell (p := ⟨R, 2, none⟩) hwR (.int .i64 x.b)).setCell (p := ⟨R, 3, none⟩) hwR (.int .i64 x.bi)).setCell (p := ⟨R, 4, none⟩) hwR (.bool x.up)).setCell (p := ⟨R, 5, none⟩) hwR (.slice p0 x.ab.length q0)).setCell (p := ⟨R, 6, none⟩) hwR (.slice p1 x.ba.length q1))⟩
def MadeON (w : World) (B n j : Nat) (L : List Nd) : Prop := ∃ (xs : List Value) (E : Nat → Nat → Prop), xs.length = n * 6 ∧ Bl w B xs ∧ (∀ i, i < j → (∀ b, E i b → B < b ∧ b < w.heap.size) ∧ ElN xs w (E i) i (L.getD i n0)) ∧ ∀ i i', i < j → i' < j → i ≠ i' → Dj (E i) (E i')
theorem MadeON.keep {w w' : World} {B n j : Nat} {L : List Nd} (h : MadeON w B n j L) (hb : Below w.heap.size w w') : MadeON w' B n j L := by
 obtain ⟨xs, E, hl, hB, hx, hd⟩ := h; refine ⟨xs, E, hl, hB.keep hb, fun i hi => ?_, hd⟩; obtain ⟨h1, ov, rv, sv, h2, h3⟩ := hx i hi
 exact ⟨fun b q => ⟨(h1 b q).1, Nat.lt_of_lt_of_le (h1 b q).2 hb.size⟩, ov, rv, sv, h2.agr (.of_below hb), h3⟩
theorem MadeON.cell {w : World} {B n k : Nat} {L : List Nd} (h : MadeON w B n k L) (j : Nat) (hj : j < n * 6) : ∃ x, w.cell? ⟨B, j, none⟩ = some x ∧ w.frozen? ⟨B, j, none⟩ = false := by
 obtain ⟨xs, E, hl, hB, hx, -⟩ := h
 exact ⟨_, hB.c j (List.getElem?_eq_getElem (by omega)), hB.f j (List.getElem?_eq_getElem (by omega))⟩
/-- element j has been copied in the world from w0 on -/
theorem MadeON.step {w0 w : World} {B n j : Nat} {L : List Nd} (h0 : MadeON w0 B n j L) (hb : Below w0.heap.size w0 w) (hB0 : B < w0.heap.size) (hk : j < n) {ov rv sv : Value} {x : Nd} (hE : L.getD j n0 = x) (h1 : OwN w (Rg w0.heap.size w.heap.size) ov rv sv x) :
  MadeON ((((((w.setCell ⟨B, j * 6, none⟩ (.int .i64 x.an)).setCell ⟨B, j * 6 + 1, none⟩ (ov)).setCell ⟨B, j * 6 + 2, none⟩ (.int .i64 x.bw)).setCell ⟨B, j * 6 + 3, none⟩ (.bool x.dr)).setCell ⟨B, j * 6 + 4, none⟩ (rv)).setCell ⟨B, j * 6 + 5, none⟩ (sv)) B n (j + 1) L := by
 obtain ⟨xs, E, hl, hB, hx, hd⟩ := h0; replace hB := hB.keep hb; have hsz : ((((((w.setCell ⟨B, j * 6, none⟩ (.int .i64 x.an)).setCell ⟨B, j * 6 + 1, none⟩ (ov)).setCell ⟨B, j * 6 + 2, none⟩ (.int .i64 x.bw)).setCell ⟨B, j * 6 + 3, none⟩ (.bool x.dr)).setCell ⟨B, j * 6 + 4, none⟩ (rv)).setCell ⟨B, j * 6 + 5, none⟩ (sv)).heap.size = w.heap.size := by simp
 refine ⟨((((((xs.set (j * 6) (.int .i64 x.an)).set (j * 6 + 1) (ov)).set (j * 6 + 2) (.int .i64 x.bw)).set (j * 6 + 3) (.bool x.dr)).set (j * 6 + 4) (rv)).set (j * 6 + 5) (sv)), fun i => if i = j then Rg w0.heap.size w.heap.size else E i, by simpa using hl, ((((((hB.set (j * 6) (.int .i64 x.an)).set (j * 6 + 1) (ov)).set (j * 6 + 2) (.int .i64 x.bw)).set (j * 6 + 3) (.bool x.dr)).set (j * 6 + 4) (rv)).set (j * 6 + 5) (sv)), fun i hi => ?_, fun i i' hi hi' hne => ?_⟩
 ·by_cases e : i = j
  ·have e' := e.symm
   subst e'
   (try dsimp only)
   rw [if_pos rfl, hE]; have hn : ¬ Rg w0.heap.size w.heap.size B := fun q => by have := q.1; omega
   refine ⟨fun b q => ⟨by have := q.1; omega, by rw [hsz]; exact q.2⟩, ov, rv, sv, h1.agr (((((((AgrS.refl _ _).trans (agr_setS _ hn)).trans (agr_setS _ hn)).trans (agr_setS _ hn)).trans (agr_setS _ hn)).trans (agr_setS _ hn)).trans (agr_setS _ hn)), ?_, ?_, ?_, ?_, ?_, ?_⟩
   all_goals simp only [List.getElem?_set, List.length_set]
   all_goals simp (disch := omega) [hl]
   all_goals omega
  ·(try dsimp only)
   rw [if_neg e]; obtain ⟨g0, v0, v1, v2, g1, c0, c1, c2, c3, c4, c5⟩ := hx i (by omega); have hn : ¬ E i B := fun q => by have := (g0 B q).1; omega
   refine ⟨fun b q => ⟨(g0 b q).1, by rw [hsz]; exact Nat.lt_of_lt_of_le (g0 b q).2 hb.size⟩, v0, v1, v2, (g1.agr (.of_below hb)).agr (((((((AgrS.refl _ _).trans (agr_setS _ hn)).trans (agr_setS _ hn)).trans (agr_setS _ hn)).trans (agr_setS _ hn)).trans (agr_setS _ hn)).trans (agr_setS _ hn)), ?_, ?_, ?_, ?_, ?_, ?_⟩
   all_goals (repeat rw [List.getElem?_set_ne (by omega)])
   all_goals assumption
 ·intro b q1 q2
  (try dsimp only at q1 q2)
  by_cases e : i = j
  ·rw [if_pos e] at q1
   rw [if_neg (fun e' => hne (e.trans e'.symm))] at q2; have := ((hx i' (by omega)).1 b q2).2; have := q1.1
   omega
  ·rw [if_neg e] at q1
   by_cases e' : i' = j
   ·rw [if_pos e'] at q2
    have := ((hx i (by omega)).1 b q1).2; have := q2.1
    omega
   ·rw [if_neg e'] at q2
    exact hd i i' (by omega) (by omega) hne b q1 q2
theorem MadeON.own {w : World} {B n a : Nat} {L : List Nd} (h : MadeON w B n n L) (hn : n = L.length) (ha : a ≤ B) (hl : L.length ≤ 1048576) : OwNS w (Rg a w.heap.size) (.slice (some ⟨B, 0, none⟩) n n) L := by
 obtain ⟨xs, E, hxl, hB, hx, hd⟩ := h; subst hn; refine ⟨hl, .inr ⟨B, L.length, xs, E, rfl, ⟨ha, hB.lt⟩, hB, hxl, fun i hi => ?_, hd⟩⟩; obtain ⟨g0, g1⟩ := hx i hi
 exact ⟨fun b q => ⟨by have := (g0 b q).1; omega, (g0 b q).2⟩, fun q => by have := (g0 B q).1; omega, g1⟩
theorem infoON : (Tryz.prog.info? 58).map (fun i => (i.zero, i.size, i.bytes)) = some (some (.agg #[.int .i64 0, .slice none 0 0, .int .i64 0, .bool false, .slice none 0 0, .slice none 0 0]), 6, 96) := by kernel_rfl
theorem makeO_N (t : TypeId) (ht : Tryz.prog.underlying t = some (.slice 58)) (n : Nat) (hn : n ≤ 1048576) (w : World) :
  (Instr.makeSlice t (.int .i64 (n : Int)) (.int .i64 (n : Int))).run Tryz.prog w = .ok (.slice (some ⟨w.heap.size, 0, none⟩) n n) (w.alloc (.cells (madeCells #[Value.int .i64 0, Value.slice none 0 0, Value.int .i64 0, Value.bool false, Value.slice none 0 0, Value.slice none 0 0] (n * 6)) 58)) := by
 obtain ⟨i, hi, hzz⟩ := Option.map_eq_some_iff.1 infoON; simp only [Prod.mk.injEq] at hzz; obtain ⟨hz, hs, hb⟩ := hzz; have hr := run_make (P := Tryz.prog) w t 58 i _ ht hi hz .i64 .i64 n n (by omega) (Int.le_refl _) (by rw [hb]; omega) (by omega)
 simpa only [Int.toNat_natCast, hs, Value.cells] using hr
theorem madeON_start (w : World) (n : Nat) (L : List Nd) : MadeON (w.alloc (.cells (madeCells #[Value.int .i64 0, Value.slice none 0 0, Value.int .i64 0, Value.bool false, Value.slice none 0 0, Value.slice none 0 0] (n * 6)) 58)) w.heap.size n 0 L := by
 refine ⟨(madeCells #[Value.int .i64 0, Value.slice none 0 0, Value.int .i64 0, Value.bool false, Value.slice none 0 0, Value.slice none 0 0] (n * 6)).toList, fun _ _ => False, by simp [size_madeCells], ?_, fun i hi => absurd hi (Nat.not_lt_zero _), fun i i' hi => absurd hi (Nat.not_lt_zero _)⟩; have := Bl.new w (madeCells #[Value.int .i64 0, Value.slice none 0 0, Value.int .i64 0, Value.bool false, Value.slice none 0 0, Value.slice none 0 0] (n * 6)).toList 58 w.heap.size rfl
 simpa using this
set_option maxHeartbeats 2000000 in
theorem toNS_o (v : Value) (L : List Nd) (w : World) (h : RdNS w v L) (hn : L.length + wtNS L ≤ 1048576) :
  Calls Tryz.prog 20 #[v] w fun e w' => ∃ u, e = .returned u ∧ OwNS w' (Rg w.heap.size w'.heap.size) u L ∧ Below w.heap.size w w' := by
 have hmk := fun W => makeO_N 27 Tryz.underlying27 L.length (by omega) W
 obtain ⟨a, c, rfl, hc⟩ := h.el; obtain ⟨n, hn'⟩ : ∃ n, n = L.length := ⟨_, rfl⟩; rw [← hn'] at hc hn hmk ⊢; have hnn : n ≤ 1048576 := by omega
 have HN := Lib.hid hn'; have HW := Lib.hid hn; clear hn' h hn; obtain ⟨B, hBB⟩ : ∃ B, B = w.heap.size := ⟨_, rfl⟩; have hst := madeON_start w n L; rw [← hBB] at hst; have HS := Lib.hid hst; have HBB := Lib.hid hBB; have hwB : w.heap.size ≤ B := by omega
 clear hst
 go_enter Tryz.func20, Tryz.ntmps20
 go_wp2; rw [← hBB]; clear hmk hBB
 go_loopw [4] (fun i wr => ∃ j : Nat, j ≤ n ∧ i = .int .i64 j ∧ MadeON wr B n j L ∧ Below w.heap.size w wr) (fun i _ => n - (intOf i).toNat)
 case atStart => exact ⟨0, Nat.zero_le _, rfl, HS.out, (Below.refl _ _).alloc (Nat.le_refl _) _⟩
 case round =>
  obtain ⟨j, hj, rfl, hM, hB⟩ := hrel
  by_cases hlt : j < n
  ·have hltI : (j : Int) < (n : Int) := by omega
   obtain ⟨b, o, rfl, hE⟩ := hc j hlt; obtain ⟨x, hx⟩ : ∃ x, L.getD j n0 = x := ⟨_, rfl⟩; rw [hx] at hE; obtain ⟨ov, rv, sv, hr, k0, k1, k2, k3, k4, k5⟩ := hE.keep hB; have HX := Lib.hid hx; have HCC := Lib.hid hc; clear hx hc hE
   have hwx : wtN x ≤ 1048576 := by
    have h1 := wtN_at (L := L) (j := j) (by rw [← HN.out]; exact hlt); rw [HX.out] at h1; have := HW.out
    omega
   have hBW : B < wr.heap.size := by
    obtain ⟨xs, E, hl, hBl, -⟩ := hM
    exact hBl.lt
   have HMM := Lib.hid hM; go_wp2_with fail; refine (toN_o ov rv sv x _ hr hwx).mono ?_; clear hr hwx k0 k1 k2 k3 k4 k5; rintro e w2 ⟨ov, rv, sv, rfl, h1, hb⟩; have hM2 := hM.keep hb; have hB2 := below_step hB hb; clear hM hB; obtain ⟨ova, ovx, rfl⟩ := (h1.rd.1).len; obtain ⟨rva, rvx, rfl⟩ := (h1.rd.2.1).len; obtain ⟨sva, svx, rfl⟩ := (h1.rd.2.2).len; obtain ⟨p0, g0, f0⟩ := hM2.cell (j * 6) (by omega); obtain ⟨p1, g1, f1⟩ := hM2.cell (j * 6 + 1) (by omega); obtain ⟨p2, g2, f2⟩ := hM2.cell (j * 6 + 2) (by omega); obtain ⟨p3, g3, f3⟩ := hM2.cell (j * 6 + 3) (by omega); obtain ⟨p4, g4, f4⟩ := hM2.cell (j * 6 + 4) (by omega); obtain ⟨p5, g5, f5⟩ := hM2.cell (j * 6 + 5) (by omega); have HM := Lib.hid (HMM.out.step hb hBW hlt HX.out h1); have hB3 := ((((((hB2.setCell (p := ⟨B, j * 6, none⟩) hwB (.int .i64 x.an)).setCell (p := ⟨B, j * 6 + 1, none⟩) hwB (.slice ova x.own.length ovx)).setCell (p := ⟨B, j * 6 + 2, none⟩) hwB (.int .i64 x.bw)).setCell (p := ⟨B, j * 6 + 3, none⟩) hwB (.bool x.dr)).setCell (p := ⟨B, j * 6 + 4, none⟩) hwB (.slice rva x.rib.length rvx)).setCell (p := ⟨B, j * 6 + 5, none⟩) hwB (.slice sva x.sent.length svx)); clear hM2 hB2 h1 hb; go_wp2
   go_roundw
   case rel => exact ⟨j + 1, by omega, by go_num, HM.out, hB3⟩
   case measure => simp [intOf]; omega
  ·have hkn : j = n := by omega
   subst hkn; clear hc; have HF := Lib.hid (hM.own (a := w.heap.size) HN.out hwB (by rw [← HN.out]; exact hnn)); go_wp2
   go_ret
   exact ⟨.slice (some ⟨B, 0, none⟩) j j, rfl, HF.out, hB⟩
def MadeOL (w : World) (B n j : Nat) (L : List Lk) : Prop := ∃ (xs : List Value) (E : Nat → Nat → Prop), xs.length = n * 7 ∧ Bl w B xs ∧ (∀ i, i < j → (∀ b, E i b → B < b ∧ b < w.heap.size) ∧ ElL xs w (E i) i (L.getD i l0)) ∧ ∀ i i', i < j → i' < j → i ≠ i' → Dj (E i) (E i')
theorem MadeOL.keep {w w' : World} {B n j : Nat} {L : List Lk} (h : MadeOL w B n j L) (hb : Below w.heap.size w w') : MadeOL w' B n j L := by
 obtain ⟨xs, E, hl, hB, hx, hd⟩ := h; refine ⟨xs, E, hl, hB.keep hb, fun i hi => ?_, hd⟩; obtain ⟨h1, av, bv, h2, h3⟩ := hx i hi
 exact ⟨fun b q => ⟨(h1 b q).1, Nat.lt_of_lt_of_le (h1 b q).2 hb.size⟩, av, bv, h2.agr (.of_below hb), h3⟩
theorem MadeOL.cell {w : World} {B n k : Nat} {L : List Lk} (h : MadeOL w B n k L) (j : Nat) (hj : j < n * 7) : ∃ x, w.cell? ⟨B, j, none⟩ = some x ∧ w.frozen? ⟨B, j, none⟩ = false := by
 obtain ⟨xs, E, hl, hB, hx, -⟩ := h
 exact ⟨_, hB.c j (List.getElem?_eq_getElem (by omega)), hB.f j (List.getElem?_eq_getElem (by omega))⟩
/-- element j has been copied in the world from w0 on -/
theorem MadeOL.step {w0 w : World} {B n j : Nat} {L : List Lk} (h0 : MadeOL w0 B n j L) (hb : Below w0.heap.size w0 w) (hB0 : B < w0.heap.size) (hk : j < n) {av bv : Value} {x : Lk} (hE : L.getD j l0 = x) (h1 : OwL w (Rg w0.heap.size w.heap.size) av bv x) :
  MadeOL (((((((w.setCell ⟨B, j * 7, none⟩ (.int .i64 x.a)).setCell ⟨B, j * 7 + 1, none⟩ (.int .i64 x.ai)).setCell ⟨B, j * 7 + 2, none⟩ (.int .i64 x.b)).setCell ⟨B, j * 7 + 3, none⟩ (.int .i64 x.bi)).setCell ⟨B, j * 7 + 4, none⟩ (.bool x.up)).setCell ⟨B, j * 7 + 5, none⟩ (av)).setCell ⟨B, j * 7 + 6, none⟩ (bv)) B n (j + 1) L := by
 obtain ⟨xs, E, hl, hB, hx, hd⟩ := h0; replace hB := hB.keep hb; have hsz : (((((((w.setCell ⟨B, j * 7, none⟩ (.int .i64 x.a)).setCell ⟨B, j * 7 + 1, none⟩ (.int .i64 x.ai)).setCell ⟨B, j * 7 + 2, none⟩ (.int .i64 x.b)).setCell ⟨B, j * 7 + 3, none⟩ (.int .i64 x.bi)).setCell ⟨B, j * 7 + 4, none⟩ (.bool x.up)).setCell ⟨B, j * 7 + 5, none⟩ (av)).setCell ⟨B, j * 7 + 6, none⟩ (bv)).heap.size = w.heap.size := by simp
 refine ⟨(((((((xs.set (j * 7) (.int .i64 x.a)).set (j * 7 + 1) (.int .i64 x.ai)).set (j * 7 + 2) (.int .i64 x.b)).set (j * 7 + 3) (.int .i64 x.bi)).set (j * 7 + 4) (.bool x.up)).set (j * 7 + 5) (av)).set (j * 7 + 6) (bv)), fun i => if i = j then Rg w0.heap.size w.heap.size else E i, by simpa using hl, (((((((hB.set (j * 7) (.int .i64 x.a)).set (j * 7 + 1) (.int .i64 x.ai)).set (j * 7 + 2) (.int .i64 x.b)).set (j * 7 + 3) (.int .i64 x.bi)).set (j * 7 + 4) (.bool x.up)).set (j * 7 + 5) (av)).set (j * 7 + 6) (bv)), fun i hi => ?_, fun i i' hi hi' hne => ?_⟩
 ·by_cases e : i = j
  ·have e' := e.symm
   subst e'
   (try dsimp only)
   rw [if_pos rfl, hE]; have hn : ¬ Rg w0.heap.size w.heap.size B := fun q => by have := q.1; omega
   refine ⟨fun b q => ⟨by have := q.1; omega, by rw [hsz]; exact q.2⟩, av, bv, h1.agr ((((((((AgrS.refl _ _).trans (agr_setS _ hn)).trans (agr_setS _ hn)).trans (agr_setS _ hn)).trans (agr_setS _ hn)).trans (agr_setS _ hn)).trans (agr_setS _ hn)).trans (agr_setS _ hn)), ?_, ?_, ?_, ?_, ?_, ?_, ?_⟩
   all_goals simp only [List.getElem?_set, List.length_set]
   all_goals simp (disch := omega) [hl]
   all_goals omega
  ·(try dsimp only)
   rw [if_neg e]; obtain ⟨g0, v0, v1, g1, c0, c1, c2, c3, c4, c5, c6⟩ := hx i (by omega); have hn : ¬ E i B := fun q => by have := (g0 B q).1; omega
   refine ⟨fun b q => ⟨(g0 b q).1, by rw [hsz]; exact Nat.lt_of_lt_of_le (g0 b q).2 hb.size⟩, v0, v1, (g1.agr (.of_below hb)).agr ((((((((AgrS.refl _ _).trans (agr_setS _ hn)).trans (agr_setS _ hn)).trans (agr_setS _ hn)).trans (agr_setS _ hn)).trans (agr_setS _ hn)).trans (agr_setS _ hn)).trans (agr_setS _ hn)), ?_, ?_, ?_, ?_, ?_, ?_, ?_⟩
   all_goals (repeat rw [List.getElem?_set_ne (by omega)])
   all_goals assumption
 ·intro b q1 q2
  (try dsimp only at q1 q2)
  by_cases e : i = j
  ·rw [if_pos e] at q1
   rw [if_neg (fun e' => hne (e.trans e'.symm))] at q2; have := ((hx i' (by omega)).1 b q2).2; have := q1.1
   omega
  ·rw [if_neg e] at q1
   by_cases e' : i' = j
   ·rw [if_pos e'] at q2
    have := ((hx i (by omega)).1 b q1).2; have := q2.1
    omega
   ·rw [if_neg e'] at q2
    exact hd i i' (by omega) (by omega) hne b q1 q2
theorem MadeOL.own {w : World} {B n a : Nat} {L : List Lk} (h : MadeOL w B n n L) (hn : n = L.length) (ha : a ≤ B) (hl : L.length ≤ 1048576) : OwLS w (Rg a w.heap.size) (.slice (some ⟨B, 0, none⟩) n n) L := by
 obtain ⟨xs, E, hxl, hB, hx, hd⟩ := h; subst hn; refine ⟨hl, .inr ⟨B, L.length, xs, E, rfl, ⟨ha, hB.lt⟩, hB, hxl, fun i hi => ?_, hd⟩⟩; obtain ⟨g0, g1⟩ := hx i hi
 exact ⟨fun b q => ⟨by have := (g0 b q).1; omega, (g0 b q).2⟩, fun q => by have := (g0 B q).1; omega, g1⟩
theorem infoOL : (Tryz.prog.info? 70).map (fun i => (i.zero, i.size, i.bytes)) = some (some (.agg #[.int .i64 0, .int .i64 0, .int .i64 0, .int .i64 0, .bool false, .slice none 0 0, .slice none 0 0]), 7, 88) := by kernel_rfl
theorem makeO_L (t : TypeId) (ht : Tryz.prog.underlying t = some (.slice 70)) (n : Nat) (hn : n ≤ 1048576) (w : World) :
  (Instr.makeSlice t (.int .i64 (n : Int)) (.int .i64 (n : Int))).run Tryz.prog w = .ok (.slice (some ⟨w.heap.size, 0, none⟩) n n) (w.alloc (.cells (madeCells #[Value.int .i64 0, Value.int .i64 0, Value.int .i64 0, Value.int .i64 0, Value.bool false, Value.slice none 0 0, Value.slice none 0 0] (n * 7)) 70)) := by
 obtain ⟨i, hi, hzz⟩ := Option.map_eq_some_iff.1 infoOL; simp only [Prod.mk.injEq] at hzz; obtain ⟨hz, hs, hb⟩ := hzz; have hr := run_make (P := Tryz.prog) w t 70 i _ ht hi hz .i64 .i64 n n (by omega) (Int.le_refl _) (by rw [hb]; omega) (by omega)
 simpa only [Int.toNat_natCast, hs, Value.cells] using hr
theorem madeOL_start (w : World) (n : Nat) (L : List Lk) : MadeOL (w.alloc (.cells (madeCells #[Value.int .i64 0, Value.int .i64 0, Value.int .i64 0, Value.int .i64 0, Value.bool false, Value.slice none 0 0, Value.slice none 0 0] (n * 7)) 70)) w.heap.size n 0 L := by
 refine ⟨(madeCells #[Value.int .i64 0, Value.int .i64 0, Value.int .i64 0, Value.int .i64 0, Value.bool false, Value.slice none 0 0, Value.slice none 0 0] (n * 7)).toList, fun _ _ => False, by simp [size_madeCells], ?_, fun i hi => absurd hi (Nat.not_lt_zero _), fun i i' hi => absurd hi (Nat.not_lt_zero _)⟩; have := Bl.new w (madeCells #[Value.int .i64 0, Value.int .i64 0, Value.int .i64 0, Value.int .i64 0, Value.bool false, Value.slice none 0 0, Value.slice none 0 0] (n * 7)).toList 70 w.heap.size rfl
 simpa using this
set_option maxHeartbeats 2000000 in
theorem toLS_o (v : Value) (L : List Lk) (w : World) (h : RdLS w v L) (hn : L.length + wtLS L ≤ 1048576) :
  Calls Tryz.prog 34 #[v] w fun e w' => ∃ u, e = .returned u ∧ OwLS w' (Rg w.heap.size w'.heap.size) u L ∧ Below w.heap.size w w' := by
 have hmk := fun W => makeO_L 28 Tryz.underlying28 L.length (by omega) W
 obtain ⟨a, c, rfl, hc⟩ := h.el; obtain ⟨n, hn'⟩ : ∃ n, n = L.length := ⟨_, rfl⟩; rw [← hn'] at hc hn hmk ⊢; have hnn : n ≤ 1048576 := by omega
 have HN := Lib.hid hn'; have HW := Lib.hid hn; clear hn' h hn; obtain ⟨B, hBB⟩ : ∃ B, B = w.heap.size := ⟨_, rfl⟩; have hst := madeOL_start w n L; rw [← hBB] at hst; have HS := Lib.hid hst; have HBB := Lib.hid hBB; have hwB : w.heap.size ≤ B := by omega
 clear hst
 go_enter Tryz.func34, Tryz.ntmps34
 go_wp2; rw [← hBB]; clear hmk hBB
 go_loopw [4] (fun i wr => ∃ j : Nat, j ≤ n ∧ i = .int .i64 j ∧ MadeOL wr B n j L ∧ Below w.heap.size w wr) (fun i _ => n - (intOf i).toNat)
 case atStart => exact ⟨0, Nat.zero_le _, rfl, HS.out, (Below.refl _ _).alloc (Nat.le_refl _) _⟩
 case round =>
  obtain ⟨j, hj, rfl, hM, hB⟩ := hrel
  by_cases hlt : j < n
  ·have hltI : (j : Int) < (n : Int) := by omega
   obtain ⟨b, o, rfl, hE⟩ := hc j hlt; obtain ⟨x, hx⟩ : ∃ x, L.getD j l0 = x := ⟨_, rfl⟩; rw [hx] at hE; obtain ⟨av, bv, hr, k0, k1, k2, k3, k4, k5, k6⟩ := hE.keep hB; have HX := Lib.hid hx; have HCC := Lib.hid hc; clear hx hc hE
   have hwx : wtL x ≤ 1048576 := by
    have h1 := wtL_at (L := L) (j := j) (by rw [← HN.out]; exact hlt); rw [HX.out] at h1; have := HW.out
    omega
   have hBW : B < wr.heap.size := by
    obtain ⟨xs, E, hl, hBl, -⟩ := hM
    exact hBl.lt
   have HMM := Lib.hid hM; go_wp2_with fail; refine (toL_o av bv x _ hr hwx).mono ?_; clear hr hwx k0 k1 k2 k3 k4 k5 k6; rintro e w2 ⟨av, bv, rfl, h1, hb⟩; have hM2 := hM.keep hb; have hB2 := below_step hB hb; clear hM hB; obtain ⟨ava, avx, rfl⟩ := (h1.rd.1).len; obtain ⟨bva, bvx, rfl⟩ := (h1.rd.2).len; obtain ⟨p0, g0, f0⟩ := hM2.cell (j * 7) (by omega); obtain ⟨p1, g1, f1⟩ := hM2.cell (j * 7 + 1) (by omega); obtain ⟨p2, g2, f2⟩ := hM2.cell (j * 7 + 2) (by omega); obtain ⟨p3, g3, f3⟩ := hM2.cell (j * 7 + 3) (by omega); obtain ⟨p4, g4, f4⟩ := hM2.cell (j * 7 + 4) (by omega); obtain ⟨p5, g5, f5⟩ := hM2.cell (j * 7 + 5) (by omega); obtain ⟨p6, g6, f6⟩ := hM2.cell (j * 7 + 6) (by omega); have HM := Lib.hid (HMM.out.step hb hBW hlt HX.out h1); have hB3 := (((((((hB2.setCell (p := ⟨B, j * 7, none⟩) hwB (.int .i64 x.a)).setCell (p := ⟨B, j * 7 + 1, none⟩) hwB (.int .i64 x.ai)).setCell (p := ⟨B, j * 7 + 2, none⟩) hwB (.int .i64 x.b)).setCell (p := ⟨B, j * 7 + 3, none⟩) hwB (.int .i64 x.bi)).setCell (p := ⟨B, j * 7 + 4, none⟩) hwB (.bool x.up)).setCell (p := ⟨B, j * 7 + 5, none⟩) hwB (.slice ava x.ab.length avx)).setCell (p := ⟨B, j * 7 + 6, none⟩) hwB (.slice bva x.ba.length bvx)); clear hM2 hB2 h1 hb; go_wp2
   go_roundw
   case rel => exact ⟨j + 1, by omega, by go_num, HM.out, hB3⟩
   case measure => simp [intOf]; omega
  ·have hkn : j = n := by omega
   subst hkn; clear hc; have HF := Lib.hid (hM.own (a := w.heap.size) HN.out hwB (by rw [← HN.out]; exact hnn)); go_wp2
   go_ret
   exact ⟨.slice (some ⟨B, 0, none⟩) j j, rfl, HF.out, hB⟩
def OwF (w : World) (S : Nat → Prop) (nv lv : Value) (x : Fb) : Prop := ∃ S0 S1 : Nat → Prop, (∀ b, S0 b → S b) ∧ (∀ b, S1 b → S b) ∧ Dj S0 S1 ∧ OwNS w S0 nv x.nodes ∧ OwLS w S1 lv x.links
set_option maxHeartbeats 2000000 in
theorem toF_o (s0 s1 : Value) (x : Fb) (w : World) (h : RdF w s0 s1 x) (hw : wtF x ≤ 1048576) :
  Calls Tryz.prog 10 #[.agg #[s0, s1, .int .i64 x.width]] w fun e w' => ∃ s0 s1, e = .returned (.agg #[s0, s1, .int .i64 x.width]) ∧ OwF w' (Rg w.heap.size w'.heap.size) s0 s1 x ∧ Below w.heap.size w w' := by
 unfold wtF at hw; obtain ⟨bA, bR, bO, B1, z⟩ := three w [s0, s1, .int .i64 x.width] [.slice none 0 0, .slice none 0 0, .int .i64 0] [.slice none 0 0, .slice none 0 0, .int .i64 0] 25 30 30; have a0 := bA.c 0 rfl
 go_enter Tryz.func10, Tryz.ntmps10
 go_wp2_with fail; clear a0; obtain ⟨lo0, hlo0⟩ : ∃ n, n = w.heap.size + 3 := ⟨_, rfl⟩; refine (toNS_o s0 x.nodes _ (h.1.keep B1) (by omega)).mono ?_; rintro e w1 ⟨u0, rfl, f0, hb⟩; obtain ⟨p0, q0, rfl⟩ := f0.rd.len; have hs := hb.size; rw [z, ← hlo0] at f0 hs; obtain ⟨hi0, hhi0⟩ : ∃ n, n = w1.heap.size := ⟨_, rfl⟩; rw [← hhi0] at f0; replace bA := bA.keep hb; replace bR := bR.keep hb; replace bO := bO.keep hb; replace B1 := below_step B1 hb; clear hb; clear z; obtain ⟨A, hA⟩ : ∃ A, A = w.heap.size := ⟨_, rfl⟩; obtain ⟨R, hR⟩ : ∃ R, R = w.heap.size + 1 := ⟨_, rfl⟩; obtain ⟨O, hO⟩ : ∃ O, O = w.heap.size + 1 + 1 := ⟨_, rfl⟩; rw [← hA] at bA; rw [← hR] at bR; rw [← hO] at bO; rw [← hO, ← hR]
 try rw [← hA]
 have hO3 : O < lo0 := by omega
 have hRO : R ≠ O := by omega
 have hR3 : R < lo0 := by omega
 have hAO : A ≠ O := by omega
 have hwO : w.heap.size ≤ O := by omega
 have hwR : w.heap.size ≤ R := by omega
 have hw3 : w.heap.size ≤ lo0 := by omega
 clear hA hR hO hlo0; have HHI0 := Lib.hid hhi0; clear hhi0; have o0 := bO.c 0 rfl; have of0 := bO.f 0 rfl; have a1 := bA.c 1 rfl; go_wp2_with fail; clear o0 of0 a1; replace bA := bA.far (o := 0) (u := .slice p0 x.nodes.length q0) hAO; replace bR := bR.far (o := 0) (u := .slice p0 x.nodes.length q0) hRO; replace bO := bO.set 0 (.slice p0 x.nodes.length q0); replace f0 := f0.agr (agr_setS (g := O) (o := 0) (u := .slice p0 x.nodes.length q0) _ (fun q => by have := q.1; omega)); replace B1 := B1.setCell (p := ⟨O, 0, none⟩) hwO (.slice p0 x.nodes.length q0); obtain ⟨lo1, hlo1⟩ : ∃ n, n = (w1.setCell ⟨O, 0, none⟩ (.slice p0 x.nodes.length q0)).heap.size := ⟨_, rfl⟩; have hle0 : hi0 ≤ lo1 := by rw [hlo1, HHI0.out]; simp
 have hll0 : lo0 ≤ hi0 := by rw [HHI0.out]; exact hs
 refine (toLS_o s1 x.links _ (h.2.keep B1) (by omega)).mono ?_; rintro e w2 ⟨u1, rfl, f1, hb⟩; obtain ⟨p1, q1, rfl⟩ := f1.rd.len; have hs1 := hb.size; rw [← hlo1] at f1 hs1; obtain ⟨hi1, hhi1⟩ : ∃ n, n = w2.heap.size := ⟨_, rfl⟩; rw [← hhi1] at f1; replace bA := bA.keep hb; replace bR := bR.keep hb; replace bO := bO.keep hb; replace f0 := f0.agr (.of_below hb); replace B1 := below_step B1 hb; clear hb; have HHI1 := Lib.hid hhi1; clear hhi1; have o0 := bO.c 0 rfl; have of0 := bO.f 0 rfl; have o1 := bO.c 1 rfl; have of1 := bO.f 1 rfl; have o2 := bO.c 2 rfl; have of2 := bO.f 2 rfl; have r0 := bR.c 0 rfl; have rf0 := bR.f 0 rfl; have r1 := bR.c 1 rfl; have rf1 := bR.f 1 rfl; have r2 := bR.c 2 rfl; have rf2 := bR.f 2 rfl; have a2 := bA.c 2 rfl; go_wp2_with fail; have hll1 : lo1 ≤ hi1 := by rw [HHI1.out]; exact hs1
 have bE := (((((bR.far (o := 1) (u := .slice p1 x.links.length q1) hRO).far (o := 2) (u := .int .i64 x.width) hRO).set 0 (.slice p0 x.nodes.length q0)).set 1 (.slice p1 x.links.length q1)).set 2 (.int .i64 x.width)); have e0 := bE.c 0 rfl; have e1 := bE.c 1 rfl; have e2 := bE.c 2 rfl; have g0 := (((((f0.agr (agr_setS (g := O) (o := 1) (u := .slice p1 x.links.length q1) _ (fun q => by have := q.1; omega))).agr (agr_setS (g := O) (o := 2) (u := .int .i64 x.width) _ (fun q => by have := q.1; omega))).agr (agr_setS (g := R) (o := 0) (u := .slice p0 x.nodes.length q0) _ (fun q => by have := q.1; omega))).agr (agr_setS (g := R) (o := 1) (u := .slice p1 x.links.length q1) _ (fun q => by have := q.1; omega))).agr (agr_setS (g := R) (o := 2) (u := .int .i64 x.width) _ (fun q => by have := q.1; omega))); have g1 := (((((f1.agr (agr_setS (g := O) (o := 1) (u := .slice p1 x.links.length q1) _ (fun q => by have := q.1; omega))).agr (agr_setS (g := O) (o := 2) (u := .int .i64 x.width) _ (fun q => by have := q.1; omega))).agr (agr_setS (g := R) (o := 0) (u := .slice p0 x.nodes.length q0) _ (fun q => by have := q.1; omega))).agr (agr_setS (g := R) (o := 1) (u := .slice p1 x.links.length q1) _ (fun q => by have := q.1; omega))).agr (agr_setS (g := R) (o := 2) (u := .int .i64 x.width) _ (fun q => by have := q.1; omega)))
 exact bodyPost_ret (v := .agg #[.slice p0 x.nodes.length q0, .slice p1 x.links.length q1, .int .i64 x.width]) (by simp [results, Tryz.results10, go_sem, e0, e1, e2]) rfl
  ⟨_, _, rfl, ⟨Rg lo0 hi0, Rg lo1 hi1, (fun b q => ⟨by have := q.1; omega, by have := q.2; have := HHI1.out; simp; omega⟩), (fun b q => ⟨by have := q.1; omega, by have := q.2; have := HHI1.out; simp; omega⟩), (fun b q1 q2 => by have := q1.2; have := q2.1; omega), g0, g1⟩, (((((B1.setCell (p := ⟨O, 1, none⟩) hwO (.slice p1 x.links.length q1)).setCell (p := ⟨O, 2, none⟩) hwO (.int .i64 x.width)).setCell (p := ⟨R, 0, none⟩) hwR (.slice p0 x.nodes.length q0)).setCell (p := ⟨R, 1, none⟩) hwR (.slice p1 x.links.length q1)).setCell (p := ⟨R, 2, none⟩) hwR (.int .i64 x.width))⟩
end Go.Proofs.YtkodnipmogdgkaaGreat
namespace Go.Proofs.YtkodnipmogdgkaaGreat
open Go.ChangeShapes Go.WideShapes Go.ChangeAt Go.RowKit Go.BigFrame Go.Joins
set_option linter.unusedVariables false
set_option maxRecDepth 100000
set_option linter.unusedSimpArgs false
set_option maxRecDepth 100000

theorem MidS.of_below {S : Nat → Prop} {w w' : World} (h : Below w.heap.size w w') : MidS S w w' := ⟨h.os, h.tape, h.output, h.size, fun i hi _ => h.block i hi⟩
theorem MidS.wide {S T : Nat → Prop} {w w' : World} (h : MidS S w w') (hs : ∀ b, S b → T b) : MidS T w w' := ⟨h.os, h.tape, h.output, h.size, fun i hi hc => h.block i hi (fun q => hc (hs i q))⟩
theorem OwF.agr {w w' : World} {S : Nat → Prop} {nv lv : Value} {x : Fb} (h : OwF w S nv lv x) (a : AgrS S w w') : OwF w' S nv lv x := by
 obtain ⟨S0, S1, s0, s1, dj, h0, h1⟩ := h
 exact ⟨S0, S1, s0, s1, dj, h0.agr (a.sub s0), h1.agr (a.sub s1)⟩
theorem OwF.rd {w : World} {S : Nat → Prop} {nv lv : Value} {x : Fb} (h : OwF w S nv lv x) : RdF w nv lv x := by
 obtain ⟨S0, S1, -, -, -, h0, h1⟩ := h
 exact ⟨h0.rd, h1.rd⟩
def cntF (x : Fb) : Nat := cntNS x.nodes + cntLS x.links
def MkF (k : Int) (x : Fb) : Prop := MkNS k x.nodes ∧ MkLS (k + (cntNS x.nodes : Nat)) x.links
theorem mkF_any (nv lv : Value) (x : Fb) (k : Int) (S : Nat → Prop) (w : World) (h : OwF w S nv lv x) (hS : ∀ b, S b → b < w.heap.size) (hk0 : 0 ≤ k) (hk : k + (cntF x : Nat) ≤ 40000000) :
  Calls Tryz.prog 13 #[.agg #[nv, lv, .int .i64 x.width], .int .i64 k] w fun e w' => ∃ x' : Fb, e = .returned (.int .i64 (k + (cntF x : Nat))) ∧ cntF x' = cntF x ∧ x'.width = x.width ∧ MkF k x' ∧ OwF w' S nv lv x' ∧ MidS S w w' := by
 obtain ⟨S0, S1, s0, s1, dj, h0, h1⟩ := h; unfold cntF at hk; obtain ⟨bA, B0, z⟩ := one w [nv, lv, .int .i64 x.width] 30; replace h0 := h0.agr (.of_below B0); replace h1 := h1.agr (.of_below B0); have mS : MidS S w (w.alloc (.cells #[nv, lv, .int .i64 x.width] 30)) := .of_below B0; have hnb : ∀ b, S b → b ≠ w.heap.size := fun b q e => by have := hS b q; omega
 have a0 := bA.c 0 rfl
 go_enter Tryz.func13, Tryz.ntmps13
 go_wp2_with fail; clear a0; refine (mkNS_any _ x.nodes k S0 _ h0 hk0 (by omega)).mono ?_; rintro e w1 ⟨N', rfl, c0, ln0, t0, o0, mid⟩; replace bA := mid.bl bA (fun q => hnb _ (s0 _ q) rfl); replace h1 := h1.agr (mid.agr dj.symm); replace mS := mS.trans (mid.wide s0); obtain ⟨r1, hr1⟩ : ∃ r : Int, r = k + (cntNS x.nodes : Nat) := ⟨_, rfl⟩; have hb1 : 0 ≤ r1 ∧ r1 + (cntLS x.links : Nat) ≤ 40000000 := by omega
 rw [← hr1]; have HR1 := Lib.hid hr1; have a1 := bA.c 1 rfl; clear mid hr1; go_wp2_with fail; refine (mkLS_any _ x.links r1 S1 _ h1 hb1.1 hb1.2).mono ?_; rintro e w2 ⟨L', rfl, c1, ln1, t1, o1, mid⟩; replace o0 := o0.agr (mid.agr dj); replace mS := mS.trans (mid.wide s1); obtain ⟨r2, hr2⟩ : ∃ r : Int, r = r1 + (cntLS x.links : Nat) := ⟨_, rfl⟩; rw [← hr2]; have HR2 := Lib.hid hr2; clear mid hr2; go_wp2
 go_ret
 refine ⟨⟨N', L', x.width⟩, ?_, ?_, rfl, ⟨t0, ?_⟩, ⟨S0, S1, s0, s1, dj, o0, o1⟩, mS⟩
 ·have e1 := HR1.out
  have e2 := HR2.out; have e : r2 = k + (cntF x : Nat) := by unfold cntF; omega
  rw [← e]
  rfl
 ·unfold cntF; dsimp only; omega
 ·rw [c0, ← HR1.out]; exact t1
theorem hdF_any (nv lv : Value) (x : Fb) (k : Int) (w : World) (h : RdF w nv lv x) (hm : MkF k x) (hk0 : 0 ≤ k) (hk : k + (cntF x : Nat) ≤ 40000000) :
  Calls Tryz.prog 14 #[.agg #[nv, lv, .int .i64 x.width], .int .i64 k] w fun e w' => e = .returned (.int .i64 (k + (cntF x : Nat))) ∧ Below w.heap.size w w' := by
 unfold cntF at hk; obtain ⟨bA, B0, z⟩ := one w [nv, lv, .int .i64 x.width] 30; replace h := h.keep B0; obtain ⟨t0, t1⟩ := hm; have a0 := bA.c 0 rfl
 go_enter Tryz.func14, Tryz.ntmps14
 go_wp2_with fail; clear a0; refine (hdNS_any _ x.nodes k _ h.1 t0 hk0 (by omega)).mono ?_; rintro e w1 ⟨rfl, hb⟩; replace bA := bA.keep hb; replace h := h.keep hb; replace B0 := below_step B0 hb; obtain ⟨r1, hr1⟩ : ∃ r : Int, r = k + (cntNS x.nodes : Nat) := ⟨_, rfl⟩; have hb1 : 0 ≤ r1 ∧ r1 + (cntLS x.links : Nat) ≤ 40000000 := by omega
 have hn1 : ¬ r1 < 0 := by omega
 rw [← hr1] at t1 ⊢; have HR1 := Lib.hid hr1; have a1 := bA.c 1 rfl; clear hb hr1; go_wp2_with fail; refine (hdLS_any _ x.links r1 _ h.2 t1 hb1.1 hb1.2).mono ?_; rintro e w2 ⟨rfl, hb⟩; replace B0 := below_step B0 hb; obtain ⟨r2, hr2⟩ : ∃ r : Int, r = r1 + (cntLS x.links : Nat) := ⟨_, rfl⟩; have hn2 : ¬ r2 < 0 := by omega
 rw [← hr2]; have HR2 := Lib.hid hr2; clear hb hr2; go_wp2
 go_ret
 refine ⟨?_, B0⟩; have e1 := HR1.out; have e2 := HR2.out; have e : r2 = k + (cntF x : Nat) := by unfold cntF; omega
 rw [← e]
 rfl
end Go.Proofs.YtkodnipmogdgkaaGreat
