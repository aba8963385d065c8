/-
  Messages: lists of one's own, and marks on them. Conditions: those in each contract.
  Entries: lists of one's own, and marks on them. Conditions: those in each contract.
  Lists of messages and of entries that the laws copy: memory of their own. Conditions: those in each contract.
-/
import Derived.Test.YtkodnipmogdgkaaGreatFTe
namespace Go.Proofs.YtkodnipmogdgkaaGreat
open Go.ChangeShapes Go.WideShapes Go.ChangeAt Go.RowKit Go.BigFrame Go.Joins
set_option linter.unusedVariables false
set_option maxRecDepth 100000
set_option maxRecDepth 100000
set_option linter.unusedSimpArgs false
set_option maxRecDepth 100000

def OwM (w : World) (S : Nat → Prop) (gv cv pv mv : Value) (x : Mg) : Prop := ∃ S0 S1 S2 S3 : Nat → Prop, (∀ b, S0 b → S b) ∧ (∀ b, S1 b → S b) ∧ (∀ b, S2 b → S b) ∧ (∀ b, S3 b → S b) ∧ Dj S0 S1 ∧ Dj S0 S2 ∧ Dj S0 S3 ∧ Dj S1 S2 ∧ Dj S1 S3 ∧ Dj S2 S3 ∧ OwPr w S0 gv x.gs ∧ OwPr w S1 cv x.cs ∧ OwIr w S2 pv x.ps ∧ OwIr w S3 mv x.ms
theorem OwM.agr {w w' : World} {S : Nat → Prop} {gv cv pv mv : Value} {x : Mg} (h : OwM w S gv cv pv mv x) (a : AgrS S w w') : OwM w' S gv cv pv mv x := by
 obtain ⟨S0, S1, S2, S3, sb0, sb1, sb2, sb3, dj01, dj02, dj03, dj12, dj13, dj23, h0, h1, h2, h3⟩ := h
 exact ⟨S0, S1, S2, S3, sb0, sb1, sb2, sb3, dj01, dj02, dj03, dj12, dj13, dj23, h0.agr (a.sub sb0), h1.agr (a.sub sb1), h2.agr (a.sub sb2), h3.agr (a.sub sb3)⟩
theorem OwM.rd {w : World} {S : Nat → Prop} {gv cv pv mv : Value} {x : Mg} (h : OwM w S gv cv pv mv x) : RdM w gv cv pv mv x := by
 obtain ⟨S0, S1, S2, S3, -, -, -, -, -, -, -, -, -, -, h0, h1, h2, h3⟩ := h
 exact ⟨h0.rd, h1.rd, h2.rd, h3.rd⟩
def cntM (x : Mg) : Nat := 7 + cntP x.gs + cntP x.cs + cntI x.ps + cntI x.ms
def MkM (k : Int) (x : Mg) : Prop := x.kn = k ∧ x.sa = k + 1 ∧ x.ho = k + 1 + 1 ∧ x.ix = k + 1 + 1 + 1 ∧ MkP (k + 1 + 1 + 1 + 1) x.gs ∧ MkP (k + 1 + 1 + 1 + 1 + (cntP x.gs : Nat)) x.cs ∧ MkI (k + 1 + 1 + 1 + 1 + (cntP x.gs : Nat) + (cntP x.cs : Nat)) x.ps ∧ x.pr = k + 1 + 1 + 1 + 1 + (cntP x.gs : Nat) + (cntP x.cs : Nat) + (cntI x.ps : Nat) ∧ MkI (k + 1 + 1 + 1 + 1 + (cntP x.gs : Nat) + (cntP x.cs : Nat) + (cntI x.ps : Nat) + 1) x.ms ∧ x.bw = k + 1 + 1 + 1 + 1 + (cntP x.gs : Nat) + (cntP x.cs : Nat) + (cntI x.ps : Nat) + 1 + (cntI x.ms : Nat) ∧ x.er = k + 1 + 1 + 1 + 1 + (cntP x.gs : Nat) + (cntP x.cs : Nat) + (cntI x.ps : Nat) + 1 + (cntI x.ms : Nat) + 1
/-- element i of the cells xs is that, its rows lie in blocks of E -/
def ElM (xs : List Value) (w : World) (E : Nat → Prop) (i : Nat) (x : Mg) : Prop := ∃ gv cv pv mv, OwM w E gv cv pv mv x ∧ xs[i * 11]? = some (.int .i64 x.kn) ∧ xs[i * 11 + 1]? = some (.int .i64 x.sa) ∧ xs[i * 11 + 2]? = some (.int .i64 x.ho) ∧ xs[i * 11 + 3]? = some (.int .i64 x.ix) ∧ xs[i * 11 + 4]? = some (gv) ∧ xs[i * 11 + 5]? = some (cv) ∧ xs[i * 11 + 6]? = some (pv) ∧ xs[i * 11 + 7]? = some (.int .i64 x.pr) ∧ xs[i * 11 + 8]? = some (mv) ∧ xs[i * 11 + 9]? = some (.int .i64 x.bw) ∧ xs[i * 11 + 10]? = some (.int .i64 x.er)
def OwMS (w : World) (S : Nat → Prop) (v : Value) (L : List Mg) : Prop :=
 L.length ≤ 1048576 ∧ ((v = .slice none 0 0 ∧ L = []) ∨ ∃ (g cap : Nat) (xs : List Value) (E : Nat → Nat → Prop), v = .slice (some ⟨g, 0, none⟩) L.length cap ∧ S g ∧ Bl w g xs ∧ xs.length = L.length * 11 ∧
  (∀ i, i < L.length → (∀ b, E i b → S b) ∧ ¬ E i g ∧ ElM xs w (E i) i (L.getD i m0)) ∧ ∀ i j, i < L.length → j < L.length → i ≠ j → Dj (E i) (E j))
theorem OwMS.agr {w w' : World} {S : Nat → Prop} {v : Value} {L : List Mg} (h : OwMS w S v L) (a : AgrS S w w') : OwMS w' S v L := by
 obtain ⟨hl, h | ⟨g, cap, xs, E, hv, h1, hB, hx, hE, hd⟩⟩ := h
 ·exact ⟨hl, .inl h⟩
 ·refine ⟨hl, .inr ⟨g, cap, xs, E, hv, h1, bl_agrS hB a h1, hx, fun i hi => ?_, hd⟩⟩
  obtain ⟨e1, e2, gv, cv, pv, mv, ho, e5⟩ := hE i hi
  exact ⟨e1, e2, gv, cv, pv, mv, ho.agr (a.sub e1), e5⟩
theorem OwMS.mono {w : World} {S S' : Nat → Prop} {v : Value} {L : List Mg} (h : OwMS w S v L) (hs : ∀ b, S b → S' b) : OwMS w S' v L := by
 obtain ⟨hl, h | ⟨g, cap, xs, E, hv, h1, hB, hx, hE, hd⟩⟩ := h
 ·exact ⟨hl, .inl h⟩
 ·exact ⟨hl, .inr ⟨g, cap, xs, E, hv, hs _ h1, hB, hx, fun i hi => ⟨fun b hb => hs _ ((hE i hi).1 b hb), (hE i hi).2⟩, hd⟩⟩
theorem OwMS.rd {w : World} {S : Nat → Prop} {v : Value} {L : List Mg} (h : OwMS w S v L) : RdMS w v L := by
 obtain ⟨hl, ⟨rfl, rfl⟩ | ⟨g, cap, xs, E, rfl, h1, hB, hx, hE, hd⟩⟩ := h
 ·exact RdMS.nil w
 ·refine ⟨by omega, ?_⟩
  by_cases h0 : L.length = 0
  ·exact .inl ⟨some ⟨g, 0, none⟩, cap, by rw [h0], List.eq_nil_of_length_eq_zero h0, fun h => by cases h⟩
  ·refine .inr ⟨g, 0, cap, rfl, by omega, fun i hi => ?_⟩
   obtain ⟨-, -, gv, cv, pv, mv, ho, e0, e1, e2, e3, e4, e5, e6, e7, e8, e9, e10⟩ := hE i hi; refine ⟨gv, cv, pv, mv, ho.rd, ?_⟩; simp only [Nat.zero_add]
   exact ⟨hB.c _ e0, hB.c _ e1, hB.c _ e2, hB.c _ e3, hB.c _ e4, hB.c _ e5, hB.c _ e6, hB.c _ e7, hB.c _ e8, hB.c _ e9, hB.c _ e10⟩
def cntMS (L : List Mg) : Nat := (L.map cntM).sum
def MkMS (k : Int) (L : List Mg) : Prop := ∀ i, i < L.length → MkM (k + (cntMS (L.take i) : Nat)) (L.getD i m0)
theorem cntMS_take {L : List Mg} {j : Nat} (h : j < L.length) : cntMS (L.take (j + 1)) = cntMS (L.take j) + cntM (L.getD j m0) := by
 unfold cntMS; rw [List.take_succ_eq_append_getElem h, List.map_append, List.sum_append]; have e : L.getD j m0 = L[j] := by simp [List.getD, h]
 rw [e]
 simp
theorem cntMS_le (L : List Mg) (j : Nat) : cntMS (L.take j) ≤ cntMS L := by
 conv => rhs; rw [← List.take_append_drop j L]
 unfold cntMS; rw [List.map_append, List.sum_append]
 omega
theorem cntMS_same {L L' : List Mg} (h : L'.map cntM = L.map cntM) (j : Nat) : cntMS (L'.take j) = cntMS (L.take j) := by
 unfold cntMS; rw [List.map_take, List.map_take, h]
/-- element j turns, nothing else of the list -/
theorem OwMS.upd {w w' : World} {S : Nat → Prop} {g cap j : Nat} {xs xs' : List Value} {E : Nat → Nat → Prop} {L : List Mg} {x' : Mg} (hl : L.length ≤ 1048576) (h1 : S g) (hB : Bl w' g xs') (hx : xs'.length = L.length * 11)
  (hE : ∀ i, i < L.length → (∀ b, E i b → S b) ∧ ¬ E i g ∧ ElM xs w (E i) i (L.getD i m0)) (hd : ∀ i j, i < L.length → j < L.length → i ≠ j → Dj (E i) (E j)) (hj : j < L.length)
  (hsame : ∀ i, i < L.length → i ≠ j → ∀ f, f < 11 → xs'[i * 11 + f]? = xs[i * 11 + f]?) (hb : ButS g (E j) w w') (hn : ElM xs' w' (E j) j x') : OwMS w' S (.slice (some ⟨g, 0, none⟩) L.length cap) (L.set j x') := by
 refine ⟨by rw [List.length_set]; exact hl, .inr ⟨g, cap, xs', E, by rw [List.length_set], h1, hB, by rw [List.length_set]; exact hx, fun i hi => ?_, fun i j hi hj' hij => hd i j (by rwa [List.length_set] at hi) (by rwa [List.length_set] at hj') hij⟩⟩; rw [List.length_set] at hi; obtain ⟨e1, e2, e5⟩ := hE i hi; refine ⟨e1, e2, ?_⟩
 by_cases e : i = j
 ·subst e
  rw [show (L.set i x').getD i m0 = x' by simp [List.getD, hi]]
  exact hn
 ·rw [show (L.set j x').getD i m0 = L.getD i m0 by simp [List.getD, List.getElem?_set, Ne.symm e]]
  obtain ⟨gv, cv, pv, mv, ho, f0, f1, f2, f3, f4, f5, f6, f7, f8, f9, f10⟩ := e5; refine ⟨gv, cv, pv, mv, ho.agr (hb.agr e2 (hd i j hi hj e)), ?_, ?_, ?_, ?_, ?_, ?_, ?_, ?_, ?_, ?_, ?_⟩
  ·rw [show i * 11 = i * 11 + 0 from rfl, hsame i hi e 0 (by omega)]; exact f0
  ·rw [hsame i hi e 1 (by omega)]; exact f1
  ·rw [hsame i hi e 2 (by omega)]; exact f2
  ·rw [hsame i hi e 3 (by omega)]; exact f3
  ·rw [hsame i hi e 4 (by omega)]; exact f4
  ·rw [hsame i hi e 5 (by omega)]; exact f5
  ·rw [hsame i hi e 6 (by omega)]; exact f6
  ·rw [hsame i hi e 7 (by omega)]; exact f7
  ·rw [hsame i hi e 8 (by omega)]; exact f8
  ·rw [hsame i hi e 9 (by omega)]; exact f9
  ·rw [hsame i hi e 10 (by omega)]; exact f10
set_option maxHeartbeats 8000000 in
theorem mkMS_any (v : Value) (L : List Mg) (k : Int) (S : Nat → Prop) (w : World) (h : OwMS w S v L) (hk0 : 0 ≤ k) (hk : k + (cntMS L : Nat) ≤ 40000000) :
  Calls Tryz.prog 83 #[v, .int .i64 k] w fun e w' => ∃ L', e = .returned (.int .i64 (k + (cntMS L : Nat))) ∧ cntMS L' = cntMS L ∧ L'.length = L.length ∧ MkMS k L' ∧ OwMS w' S v L' ∧ MidS S w w' := by
 obtain ⟨va, vx, hv⟩ := h.rd.len; obtain ⟨n, hn⟩ : ∃ n, n = L.length := ⟨_, rfl⟩; rw [← hn] at hv ⊢; subst hv; have hnb := h.1; rw [← hn] at hnb; have HN := Lib.hid hn; have HH := Lib.hid h; clear h hn
 go_enter Tryz.func83, Tryz.ntmps83
 go_wp2
 go_loopw [1, 5] (fun s i wr => ∃ (j : Nat) (L' : List Mg), j ≤ n ∧ i = .int .i64 j ∧ s = .int .i64 (k + (cntMS (L.take j) : Nat)) ∧ L'.length = n ∧ L'.map cntM = L.map cntM ∧ (∀ i, i < j → MkM (k + (cntMS (L'.take i) : Nat)) (L'.getD i m0)) ∧ OwMS wr S (.slice va n vx) L' ∧ MidS S w wr) (fun _ i _ => n - (intOf i).toNat)
 case atStart => exact ⟨0, L, Nat.zero_le _, rfl, by simp [cntMS], HN.out.symm, rfl, fun i hi => by omega, HH.out, MidS.refl _ _⟩
 case round =>
  obtain ⟨j, L', hj, rfl, rfl, hlen, hcm, hyes, hO, hB⟩ := hrel
  by_cases hlt : j < n
  ·have hltI : (j : Int) < (n : Int) := by omega
   obtain ⟨hl, hnil | ⟨g, cap, xs, E, hv, hSg, bX, hxl, hE, hdis⟩⟩ := hO
   ·exact absurd hnil.2 (by intro q; rw [q] at hlen; simp at hlen; omega)
   simp only [Value.slice.injEq] at hv; obtain ⟨rfl, -, rfl⟩ := hv; obtain ⟨e1, e2, gv, cv, pv, mv, ho, x0, x1, x2, x3, x4, x5, x6, x7, x8, x9, x10⟩ := hE j (by omega); obtain ⟨x, hx⟩ : ∃ x, L'.getD j m0 = x := ⟨_, rfl⟩; rw [hx] at ho x0 x1 x2 x3 x7 x9 x10; have HX := Lib.hid hx; have hcnt := cntMS_take (L := L') (j := j) (by omega); rw [cntMS_same hcm, cntMS_same hcm, hx] at hcnt; have hle := cntMS_le L (j + 1); obtain ⟨r0, hr0⟩ : ∃ r : Int, r = k + (cntMS (L.take j) : Nat) := ⟨_, rfl⟩; have hend : r0 + (cntM x : Nat) = k + (cntMS (L.take (j + 1)) : Nat) := by omega
   have hbd : 0 ≤ r0 ∧ r0 + (cntM x : Nat) ≤ 40000000 := by omega
   rw [← hr0]; have HR0 := Lib.hid hr0; have HEND := Lib.hid hend; have HYES := Lib.hid hyes; have HCM := Lib.hid hcm; have HLL := Lib.hid (And.intro hl hlen); have HEE := Lib.hid hE; have HDD := Lib.hid hdis; have HXL := Lib.hid hxl; clear hr0 hend hyes hcm hcnt hle hE hdis hx hl hlen hxl; obtain ⟨S0, S1, S2, S3, sb0, sb1, sb2, sb3, dj01, dj02, dj03, dj12, dj13, dj23, o0, o1, o2, o3⟩ := ho; unfold cntM at hbd; obtain ⟨r1, hr1⟩ : ∃ r : Int, r = r0 + 1 := ⟨_, rfl⟩; obtain ⟨r2, hr2⟩ : ∃ r : Int, r = r1 + 1 := ⟨_, rfl⟩; obtain ⟨r3, hr3⟩ : ∃ r : Int, r = r2 + 1 := ⟨_, rfl⟩; obtain ⟨r4, hr4⟩ : ∃ r : Int, r = r3 + 1 := ⟨_, rfl⟩; obtain ⟨r5, hr5⟩ : ∃ r : Int, r = r4 + (cntP x.gs : Nat) := ⟨_, rfl⟩; obtain ⟨r6, hr6⟩ : ∃ r : Int, r = r5 + (cntP x.cs : Nat) := ⟨_, rfl⟩; obtain ⟨r7, hr7⟩ : ∃ r : Int, r = r6 + (cntI x.ps : Nat) := ⟨_, rfl⟩; obtain ⟨r8, hr8⟩ : ∃ r : Int, r = r7 + 1 := ⟨_, rfl⟩; obtain ⟨r9, hr9⟩ : ∃ r : Int, r = r8 + (cntI x.ms : Nat) := ⟨_, rfl⟩; obtain ⟨r10, hr10⟩ : ∃ r : Int, r = r9 + 1 := ⟨_, rfl⟩; obtain ⟨r11, hr11⟩ : ∃ r : Int, r = r10 + 1 := ⟨_, rfl⟩; have b0 : 0 ≤ r0 ∧ r0 ≤ 40000000 := by omega
   have b1 : 0 ≤ r1 ∧ r1 ≤ 40000000 := by omega
   have b2 : 0 ≤ r2 ∧ r2 ≤ 40000000 := by omega
   have b3 : 0 ≤ r3 ∧ r3 ≤ 40000000 := by omega
   have b4 : 0 ≤ r4 ∧ r4 ≤ 40000000 := by omega
   have b5 : 0 ≤ r5 ∧ r5 ≤ 40000000 := by omega
   have b6 : 0 ≤ r6 ∧ r6 ≤ 40000000 := by omega
   have b7 : 0 ≤ r7 ∧ r7 ≤ 40000000 := by omega
   have b8 : 0 ≤ r8 ∧ r8 ≤ 40000000 := by omega
   have b9 : 0 ≤ r9 ∧ r9 ≤ 40000000 := by omega
   have b10 : 0 ≤ r10 ∧ r10 ≤ 40000000 := by omega
   have b11 : 0 ≤ r11 ∧ r11 ≤ 40000000 := by omega
   have w0 : IntKind.i64.wrap (r0 + 1) = r1 := by rw [hr1]; exact wrap64_in _ (by omega) (by omega)
   have w1 : IntKind.i64.wrap (r1 + 1) = r2 := by rw [hr2]; exact wrap64_in _ (by omega) (by omega)
   have w2 : IntKind.i64.wrap (r2 + 1) = r3 := by rw [hr3]; exact wrap64_in _ (by omega) (by omega)
   have w3 : IntKind.i64.wrap (r3 + 1) = r4 := by rw [hr4]; exact wrap64_in _ (by omega) (by omega)
   have w7 : IntKind.i64.wrap (r7 + 1) = r8 := by rw [hr8]; exact wrap64_in _ (by omega) (by omega)
   have w9 : IntKind.i64.wrap (r9 + 1) = r10 := by rw [hr10]; exact wrap64_in _ (by omega) (by omega)
   have w10 : IntKind.i64.wrap (r10 + 1) = r11 := by rw [hr11]; exact wrap64_in _ (by omega) (by omega)
   have Q1 := Lib.hid hr1; have Q2 := Lib.hid hr2; have Q3 := Lib.hid hr3; have Q4 := Lib.hid hr4; have Q5 := Lib.hid hr5; have Q6 := Lib.hid hr6; have Q7 := Lib.hid hr7; have Q8 := Lib.hid hr8; have Q9 := Lib.hid hr9; have Q10 := Lib.hid hr10; have Q11 := Lib.hid hr11; clear hr1 hr2 hr3 hr4 hr5 hr6 hr7 hr8 hr9 hr10 hr11 hbd; have but : ButS g (E j) wr wr := ButS.refl _ _ _; have y0 := bX.c (j * 11) (x0); have z0 := bX.f (j * 11) (x0); have y1 := bX.c (j * 11 + 1) (x1); have z1 := bX.f (j * 11 + 1) (x1); have y2 := bX.c (j * 11 + 2) (x2); have z2 := bX.f (j * 11 + 2) (x2); have y3 := bX.c (j * 11 + 3) (x3); have z3 := bX.f (j * 11 + 3) (x3); have y4 := bX.c (j * 11 + 4) (x4); go_wp2_with fail; clear y0 z0 y1 z1 y2 z2 y3 z3 y4; replace bX := bX.set (j * 11) (.int .i64 r0); replace but := but.set (o := j * 11) (u := .int .i64 r0); replace o0 := o0.agr (agr_setS (g := g) (o := j * 11) (u := .int .i64 r0) _ (fun h => e2 (sb0 _ h))); replace o1 := o1.agr (agr_setS (g := g) (o := j * 11) (u := .int .i64 r0) _ (fun h => e2 (sb1 _ h))); replace o2 := o2.agr (agr_setS (g := g) (o := j * 11) (u := .int .i64 r0) _ (fun h => e2 (sb2 _ h))); replace o3 := o3.agr (agr_setS (g := g) (o := j * 11) (u := .int .i64 r0) _ (fun h => e2 (sb3 _ h))); replace bX := bX.set (j * 11 + 1) (.int .i64 r1); replace but := but.set (o := j * 11 + 1) (u := .int .i64 r1); replace o0 := o0.agr (agr_setS (g := g) (o := j * 11 + 1) (u := .int .i64 r1) _ (fun h => e2 (sb0 _ h))); replace o1 := o1.agr (agr_setS (g := g) (o := j * 11 + 1) (u := .int .i64 r1) _ (fun h => e2 (sb1 _ h))); replace o2 := o2.agr (agr_setS (g := g) (o := j * 11 + 1) (u := .int .i64 r1) _ (fun h => e2 (sb2 _ h))); replace o3 := o3.agr (agr_setS (g := g) (o := j * 11 + 1) (u := .int .i64 r1) _ (fun h => e2 (sb3 _ h))); replace bX := bX.set (j * 11 + 2) (.int .i64 r2); replace but := but.set (o := j * 11 + 2) (u := .int .i64 r2); replace o0 := o0.agr (agr_setS (g := g) (o := j * 11 + 2) (u := .int .i64 r2) _ (fun h => e2 (sb0 _ h))); replace o1 := o1.agr (agr_setS (g := g) (o := j * 11 + 2) (u := .int .i64 r2) _ (fun h => e2 (sb1 _ h))); replace o2 := o2.agr (agr_setS (g := g) (o := j * 11 + 2) (u := .int .i64 r2) _ (fun h => e2 (sb2 _ h))); replace o3 := o3.agr (agr_setS (g := g) (o := j * 11 + 2) (u := .int .i64 r2) _ (fun h => e2 (sb3 _ h))); replace bX := bX.set (j * 11 + 3) (.int .i64 r3); replace but := but.set (o := j * 11 + 3) (u := .int .i64 r3); replace o0 := o0.agr (agr_setS (g := g) (o := j * 11 + 3) (u := .int .i64 r3) _ (fun h => e2 (sb0 _ h))); replace o1 := o1.agr (agr_setS (g := g) (o := j * 11 + 3) (u := .int .i64 r3) _ (fun h => e2 (sb1 _ h))); replace o2 := o2.agr (agr_setS (g := g) (o := j * 11 + 3) (u := .int .i64 r3) _ (fun h => e2 (sb2 _ h))); replace o3 := o3.agr (agr_setS (g := g) (o := j * 11 + 3) (u := .int .i64 r3) _ (fun h => e2 (sb3 _ h))); obtain ⟨X0, hX0⟩ : ∃ X, X = ((((wr.setCell ⟨g, j * 11, none⟩ (.int .i64 r0)).setCell ⟨g, j * 11 + 1, none⟩ (.int .i64 r1)).setCell ⟨g, j * 11 + 2, none⟩ (.int .i64 r2)).setCell ⟨g, j * 11 + 3, none⟩ (.int .i64 r3)) := ⟨_, rfl⟩; rw [← hX0] at bX but o0 o1 o2 o3 ⊢; clear hX0; refine (mkPr_any _ x.gs r4 _ X0 o0 (by omega) (by have := Q5.out; omega)).mono ?_; rintro e w1 ⟨nw0, rfl, s0, lm0, t0, o0, mid⟩; rw [← Q5.out]; replace bX := mid.bl bX (fun h => e2 (sb0 _ h)); replace but := but.mid mid sb0; replace o1 := o1.agr (mid.agr dj01.symm); replace o2 := o2.agr (mid.agr dj02.symm); replace o3 := o3.agr (mid.agr dj03.symm); clear mid; have y5 := bX.c (j * 11 + 5) (by rw [List.getElem?_set_ne (by omega)]; rw [List.getElem?_set_ne (by omega)]; rw [List.getElem?_set_ne (by omega)]; rw [List.getElem?_set_ne (by omega)]; exact x5); go_wp2_with fail; clear y5; obtain ⟨X1, hX1⟩ : ∃ X, X = w1 := ⟨_, rfl⟩; rw [← hX1] at bX but o0 o1 o2 o3 ⊢; clear hX1; refine (mkPr_any _ x.cs r5 _ X1 o1 (by omega) (by have := Q6.out; omega)).mono ?_; rintro e w2 ⟨nw1, rfl, s1, lm1, t1, o1, mid⟩; rw [← Q6.out]; replace bX := mid.bl bX (fun h => e2 (sb1 _ h)); replace but := but.mid mid sb1; replace o0 := o0.agr (mid.agr dj01); replace o2 := o2.agr (mid.agr dj12.symm); replace o3 := o3.agr (mid.agr dj13.symm); clear mid; have y6 := bX.c (j * 11 + 6) (by rw [List.getElem?_set_ne (by omega)]; rw [List.getElem?_set_ne (by omega)]; rw [List.getElem?_set_ne (by omega)]; rw [List.getElem?_set_ne (by omega)]; exact x6); go_wp2_with fail; clear y6; obtain ⟨X2, hX2⟩ : ∃ X, X = w2 := ⟨_, rfl⟩; rw [← hX2] at bX but o0 o1 o2 o3 ⊢; clear hX2; refine (mkIr_any _ x.ps r6 _ X2 o2 (by omega) (by have := Q7.out; omega)).mono ?_; rintro e w3 ⟨nw2, rfl, s2, lm2, t2, o2, mid⟩; rw [← Q7.out]; replace bX := mid.bl bX (fun h => e2 (sb2 _ h)); replace but := but.mid mid sb2; replace o0 := o0.agr (mid.agr dj02); replace o1 := o1.agr (mid.agr dj12); replace o3 := o3.agr (mid.agr dj23.symm); clear mid; have y7 := bX.c (j * 11 + 7) (by rw [List.getElem?_set_ne (by omega)]; rw [List.getElem?_set_ne (by omega)]; rw [List.getElem?_set_ne (by omega)]; rw [List.getElem?_set_ne (by omega)]; exact x7); have z7 := bX.f (j * 11 + 7) (by rw [List.getElem?_set_ne (by omega)]; rw [List.getElem?_set_ne (by omega)]; rw [List.getElem?_set_ne (by omega)]; rw [List.getElem?_set_ne (by omega)]; exact x7); have y8 := bX.c (j * 11 + 8) (by rw [List.getElem?_set_ne (by omega)]; rw [List.getElem?_set_ne (by omega)]; rw [List.getElem?_set_ne (by omega)]; rw [List.getElem?_set_ne (by omega)]; exact x8); go_wp2_with fail; clear y7 z7 y8; replace bX := bX.set (j * 11 + 7) (.int .i64 r7); replace but := but.set (o := j * 11 + 7) (u := .int .i64 r7); replace o0 := o0.agr (agr_setS (g := g) (o := j * 11 + 7) (u := .int .i64 r7) _ (fun h => e2 (sb0 _ h))); replace o1 := o1.agr (agr_setS (g := g) (o := j * 11 + 7) (u := .int .i64 r7) _ (fun h => e2 (sb1 _ h))); replace o2 := o2.agr (agr_setS (g := g) (o := j * 11 + 7) (u := .int .i64 r7) _ (fun h => e2 (sb2 _ h))); replace o3 := o3.agr (agr_setS (g := g) (o := j * 11 + 7) (u := .int .i64 r7) _ (fun h => e2 (sb3 _ h))); obtain ⟨X3, hX3⟩ : ∃ X, X = (w3.setCell ⟨g, j * 11 + 7, none⟩ (.int .i64 r7)) := ⟨_, rfl⟩; rw [← hX3] at bX but o0 o1 o2 o3 ⊢; clear hX3; refine (mkIr_any _ x.ms r8 _ X3 o3 (by omega) (by have := Q9.out; omega)).mono ?_; rintro e w4 ⟨nw3, rfl, s3, lm3, t3, o3, mid⟩; rw [← Q9.out]; replace bX := mid.bl bX (fun h => e2 (sb3 _ h)); replace but := but.mid mid sb3; replace o0 := o0.agr (mid.agr dj03); replace o1 := o1.agr (mid.agr dj13); replace o2 := o2.agr (mid.agr dj23); clear mid; have y9 := bX.c (j * 11 + 9) (by rw [List.getElem?_set_ne (by omega)]; rw [List.getElem?_set_ne (by omega)]; rw [List.getElem?_set_ne (by omega)]; rw [List.getElem?_set_ne (by omega)]; rw [List.getElem?_set_ne (by omega)]; exact x9); have z9 := bX.f (j * 11 + 9) (by rw [List.getElem?_set_ne (by omega)]; rw [List.getElem?_set_ne (by omega)]; rw [List.getElem?_set_ne (by omega)]; rw [List.getElem?_set_ne (by omega)]; rw [List.getElem?_set_ne (by omega)]; exact x9); have y10 := bX.c (j * 11 + 10) (by rw [List.getElem?_set_ne (by omega)]; rw [List.getElem?_set_ne (by omega)]; rw [List.getElem?_set_ne (by omega)]; rw [List.getElem?_set_ne (by omega)]; rw [List.getElem?_set_ne (by omega)]; exact x10); have z10 := bX.f (j * 11 + 10) (by rw [List.getElem?_set_ne (by omega)]; rw [List.getElem?_set_ne (by omega)]; rw [List.getElem?_set_ne (by omega)]; rw [List.getElem?_set_ne (by omega)]; rw [List.getElem?_set_ne (by omega)]; exact x10); have KB := Lib.hid bX; go_wp2; clear y9 z9 y10 z10; replace bX := bX.set (j * 11 + 9) (.int .i64 r9); replace but := but.set (o := j * 11 + 9) (u := .int .i64 r9); replace o0 := o0.agr (agr_setS (g := g) (o := j * 11 + 9) (u := .int .i64 r9) _ (fun h => e2 (sb0 _ h))); replace o1 := o1.agr (agr_setS (g := g) (o := j * 11 + 9) (u := .int .i64 r9) _ (fun h => e2 (sb1 _ h))); replace o2 := o2.agr (agr_setS (g := g) (o := j * 11 + 9) (u := .int .i64 r9) _ (fun h => e2 (sb2 _ h))); replace o3 := o3.agr (agr_setS (g := g) (o := j * 11 + 9) (u := .int .i64 r9) _ (fun h => e2 (sb3 _ h))); replace bX := bX.set (j * 11 + 10) (.int .i64 r10); replace but := but.set (o := j * 11 + 10) (u := .int .i64 r10); replace o0 := o0.agr (agr_setS (g := g) (o := j * 11 + 10) (u := .int .i64 r10) _ (fun h => e2 (sb0 _ h))); replace o1 := o1.agr (agr_setS (g := g) (o := j * 11 + 10) (u := .int .i64 r10) _ (fun h => e2 (sb1 _ h))); replace o2 := o2.agr (agr_setS (g := g) (o := j * 11 + 10) (u := .int .i64 r10) _ (fun h => e2 (sb2 _ h))); replace o3 := o3.agr (agr_setS (g := g) (o := j * 11 + 10) (u := .int .i64 r10) _ (fun h => e2 (sb3 _ h)))
   go_roundw
   case rel =>
    have hup := OwMS.upd (cap := vx) (x' := ⟨r0, r1, r2, r3, nw0, nw1, nw2, r7, nw3, r9, r10⟩) HLL.out.1 hSg bX (by simpa using HXL.out) HEE.out HDD.out (by have := HLL.out; omega) (fun i hi hij f hf => by rw [List.getElem?_set_ne (by omega)]; rw [List.getElem?_set_ne (by omega)]; rw [List.getElem?_set_ne (by omega)]; rw [List.getElem?_set_ne (by omega)]; rw [List.getElem?_set_ne (by omega)]; rw [List.getElem?_set_ne (by omega)]; rw [List.getElem?_set_ne (by omega)]) but
     ⟨gv, cv, pv, mv, ⟨S0, S1, S2, S3, sb0, sb1, sb2, sb3, dj01, dj02, dj03, dj12, dj13, dj23, o0, o1, o2, o3⟩, by rw [List.getElem?_set_ne (by omega)]; rw [List.getElem?_set_ne (by omega)]; rw [List.getElem?_set_ne (by omega)]; rw [List.getElem?_set_ne (by omega)]; rw [List.getElem?_set_ne (by omega)]; rw [List.getElem?_set_ne (by omega)]; rw [List.getElem?_set_self (by (try simp only [List.length_set]); have := HXL.out; have := HLL.out; omega)], by rw [List.getElem?_set_ne (by omega)]; rw [List.getElem?_set_ne (by omega)]; rw [List.getElem?_set_ne (by omega)]; rw [List.getElem?_set_ne (by omega)]; rw [List.getElem?_set_ne (by omega)]; rw [List.getElem?_set_self (by (try simp only [List.length_set]); have := HXL.out; have := HLL.out; omega)], by rw [List.getElem?_set_ne (by omega)]; rw [List.getElem?_set_ne (by omega)]; rw [List.getElem?_set_ne (by omega)]; rw [List.getElem?_set_ne (by omega)]; rw [List.getElem?_set_self (by (try simp only [List.length_set]); have := HXL.out; have := HLL.out; omega)], by rw [List.getElem?_set_ne (by omega)]; rw [List.getElem?_set_ne (by omega)]; rw [List.getElem?_set_ne (by omega)]; rw [List.getElem?_set_self (by (try simp only [List.length_set]); have := HXL.out; have := HLL.out; omega)], by rw [List.getElem?_set_ne (by omega)]; rw [List.getElem?_set_ne (by omega)]; rw [List.getElem?_set_ne (by omega)]; rw [List.getElem?_set_ne (by omega)]; rw [List.getElem?_set_ne (by omega)]; rw [List.getElem?_set_ne (by omega)]; rw [List.getElem?_set_ne (by omega)]; exact x4, by rw [List.getElem?_set_ne (by omega)]; rw [List.getElem?_set_ne (by omega)]; rw [List.getElem?_set_ne (by omega)]; rw [List.getElem?_set_ne (by omega)]; rw [List.getElem?_set_ne (by omega)]; rw [List.getElem?_set_ne (by omega)]; rw [List.getElem?_set_ne (by omega)]; exact x5, by rw [List.getElem?_set_ne (by omega)]; rw [List.getElem?_set_ne (by omega)]; rw [List.getElem?_set_ne (by omega)]; rw [List.getElem?_set_ne (by omega)]; rw [List.getElem?_set_ne (by omega)]; rw [List.getElem?_set_ne (by omega)]; rw [List.getElem?_set_ne (by omega)]; exact x6, by rw [List.getElem?_set_ne (by omega)]; rw [List.getElem?_set_ne (by omega)]; rw [List.getElem?_set_self (by (try simp only [List.length_set]); have := HXL.out; have := HLL.out; omega)], by rw [List.getElem?_set_ne (by omega)]; rw [List.getElem?_set_ne (by omega)]; rw [List.getElem?_set_ne (by omega)]; rw [List.getElem?_set_ne (by omega)]; rw [List.getElem?_set_ne (by omega)]; rw [List.getElem?_set_ne (by omega)]; rw [List.getElem?_set_ne (by omega)]; exact x8, by rw [List.getElem?_set_ne (by omega)]; rw [List.getElem?_set_self (by (try simp only [List.length_set]); have := HXL.out; have := HLL.out; omega)], by rw [List.getElem?_set_self (by (try simp only [List.length_set]); have := HXL.out; have := HLL.out; omega)]⟩
    rw [HLL.out.2] at hup; have hc2 : cntM ⟨r0, r1, r2, r3, nw0, nw1, nw2, r7, nw3, r9, r10⟩ = cntM x := by unfold cntM; simp only [s0, s1, s2, s3]
    refine ⟨j + 1, L'.set j ⟨r0, r1, r2, r3, nw0, nw1, nw2, r7, nw3, r9, r10⟩, by omega, by go_num, ?_, by rw [List.length_set]; exact HLL.out.2, ?_, fun i hi => ?_, hup, ?_⟩
    ·rw [← HEND.out]
     unfold cntM; have := Q1.out; have := Q2.out; have := Q3.out; have := Q4.out; have := Q5.out; have := Q6.out; have := Q7.out; have := Q8.out; have := Q9.out; have := Q10.out; have := Q11.out
     congr 1
     omega
    ·rw [List.map_set, hc2, ← HX.out, List.getD_eq_getElem?_getD, List.getElem?_eq_getElem (by have := HLL.out; omega)]
     rw [← HCM.out]
     apply List.ext_getElem?
     intro i
     by_cases e : j = i
     ·subst e; rw [List.getElem?_set_self (by rw [List.length_map]; have := HLL.out; omega), List.getElem?_map, List.getElem?_eq_getElem (by have := HLL.out; omega)]; rfl
     ·rw [List.getElem?_set_ne e]
    ·by_cases e : i = j
     ·subst e
      rw [show (L'.set i ⟨r0, r1, r2, r3, nw0, nw1, nw2, r7, nw3, r9, r10⟩).getD i m0 = ⟨r0, r1, r2, r3, nw0, nw1, nw2, r7, nw3, r9, r10⟩ by simp [List.getD, show i < L'.length by have := HLL.out; omega], List.take_set_of_le (Nat.le_refl i), cntMS_same HCM.out, ← HR0.out]; refine ⟨?_, ?_, ?_, ?_, ?_, ?_, ?_, ?_, ?_, ?_, ?_⟩
      ·(try rfl)
      ·rw [show r0 + 1 = r1 by have := Q1.out; first | omega | (simp only [s0, s1, s2, s3]; omega) | simp only [s0, s1, s2, s3]]; (try rfl)
      ·rw [show r0 + 1 + 1 = r2 by have := Q1.out; have := Q2.out; first | omega | (simp only [s0, s1, s2, s3]; omega) | simp only [s0, s1, s2, s3]]; (try rfl)
      ·rw [show r0 + 1 + 1 + 1 = r3 by have := Q1.out; have := Q2.out; have := Q3.out; first | omega | (simp only [s0, s1, s2, s3]; omega) | simp only [s0, s1, s2, s3]]; (try rfl)
      ·rw [show r0 + 1 + 1 + 1 + 1 = r4 by have := Q1.out; have := Q2.out; have := Q3.out; have := Q4.out; first | omega | (simp only [s0, s1, s2, s3]; omega) | simp only [s0, s1, s2, s3]]; exact t0
      ·rw [show r0 + 1 + 1 + 1 + 1 + ((cntP nw0 : Nat) : Int) = r5 by have := Q1.out; have := Q2.out; have := Q3.out; have := Q4.out; have := Q5.out; first | omega | (simp only [s0, s1, s2, s3]; omega) | simp only [s0, s1, s2, s3]]; exact t1
      ·rw [show r0 + 1 + 1 + 1 + 1 + ((cntP nw0 : Nat) : Int) + ((cntP nw1 : Nat) : Int) = r6 by have := Q1.out; have := Q2.out; have := Q3.out; have := Q4.out; have := Q5.out; have := Q6.out; first | omega | (simp only [s0, s1, s2, s3]; omega) | simp only [s0, s1, s2, s3]]; exact t2
      ·rw [show r0 + 1 + 1 + 1 + 1 + ((cntP nw0 : Nat) : Int) + ((cntP nw1 : Nat) : Int) + ((cntI nw2 : Nat) : Int) = r7 by have := Q1.out; have := Q2.out; have := Q3.out; have := Q4.out; have := Q5.out; have := Q6.out; have := Q7.out; first | omega | (simp only [s0, s1, s2, s3]; omega) | simp only [s0, s1, s2, s3]]; (try rfl)
      ·rw [show r0 + 1 + 1 + 1 + 1 + ((cntP nw0 : Nat) : Int) + ((cntP nw1 : Nat) : Int) + ((cntI nw2 : Nat) : Int) + 1 = r8 by have := Q1.out; have := Q2.out; have := Q3.out; have := Q4.out; have := Q5.out; have := Q6.out; have := Q7.out; have := Q8.out; first | omega | (simp only [s0, s1, s2, s3]; omega) | simp only [s0, s1, s2, s3]]; exact t3
      ·rw [show r0 + 1 + 1 + 1 + 1 + ((cntP nw0 : Nat) : Int) + ((cntP nw1 : Nat) : Int) + ((cntI nw2 : Nat) : Int) + 1 + ((cntI nw3 : Nat) : Int) = r9 by have := Q1.out; have := Q2.out; have := Q3.out; have := Q4.out; have := Q5.out; have := Q6.out; have := Q7.out; have := Q8.out; have := Q9.out; first | omega | (simp only [s0, s1, s2, s3]; omega) | simp only [s0, s1, s2, s3]]; (try rfl)
      ·rw [show r0 + 1 + 1 + 1 + 1 + ((cntP nw0 : Nat) : Int) + ((cntP nw1 : Nat) : Int) + ((cntI nw2 : Nat) : Int) + 1 + ((cntI nw3 : Nat) : Int) + 1 = r10 by have := Q1.out; have := Q2.out; have := Q3.out; have := Q4.out; have := Q5.out; have := Q6.out; have := Q7.out; have := Q8.out; have := Q9.out; have := Q10.out; first | omega | (simp only [s0, s1, s2, s3]; omega) | simp only [s0, s1, s2, s3]]; (try rfl)
     ·rw [show (L'.set j ⟨r0, r1, r2, r3, nw0, nw1, nw2, r7, nw3, r9, r10⟩).getD i m0 = L'.getD i m0 by simp [List.getD, List.getElem?_set, Ne.symm e], List.take_set_of_le (by omega)]
      exact HYES.out i (by omega)
    ·exact hB.trans (but.midS e1 hSg)
   case measure => simp [intOf]; omega
  ·have hkn : j = n := by omega
   subst hkn; have HT : Hid (L.take j = L) := Lib.hid (List.take_of_length_le (by rw [HN.out]; exact Nat.le_refl _)); have HF := Lib.hid (And.intro hcm (And.intro hyes (And.intro hO (And.intro hB hlen)))); clear hcm hyes hO hB hlen; go_wp2
   go_ret
   obtain ⟨hcm, hyes, hO, hB, hlen⟩ := HF.out; refine ⟨L', by first | rfl | (rw [HT.out]; rfl), ?_, hlen, fun i hi => hyes i (by omega), hO, hB⟩; unfold cntMS; rw [hcm]
set_option maxHeartbeats 4000000 in
theorem hdMS_any (v : Value) (L : List Mg) (k : Int) (w : World) (h : RdMS w v L) (hm : MkMS k L) (hk0 : 0 ≤ k) (hk : k + (cntMS L : Nat) ≤ 40000000) :
  Calls Tryz.prog 86 #[v, .int .i64 k] w fun e w' => e = .returned (.int .i64 (k + (cntMS L : Nat))) ∧ Below w.heap.size w w' := by
 have hnn := h.1; obtain ⟨a, c, rfl, hc⟩ := h.el; obtain ⟨n, hn⟩ : ∃ n, n = L.length := ⟨_, rfl⟩; rw [← hn] at hc hnn ⊢; have HN := Lib.hid hn; have HM := Lib.hid hm; clear h hn hm
 go_enter Tryz.func86, Tryz.ntmps86
 go_wp2
 go_loopw [1, 5] (fun s i wr => ∃ j : Nat, j ≤ n ∧ i = .int .i64 j ∧ s = .int .i64 (k + (cntMS (L.take j) : Nat)) ∧ Below w.heap.size w wr) (fun _ i _ => n - (intOf i).toNat)
 case atStart => exact ⟨0, Nat.zero_le _, rfl, by simp [cntMS], Below.refl _ _⟩
 case round =>
  obtain ⟨j, hj, rfl, rfl, hB⟩ := hrel
  by_cases hlt : j < n
  ·have hltI : (j : Int) < (n : Int) := by omega
   obtain ⟨b, o, rfl, hE⟩ := hc j hlt; obtain ⟨x, hx⟩ : ∃ x, L.getD j m0 = x := ⟨_, rfl⟩; have hmx := HM.out j (by rw [← HN.out]; exact hlt); rw [hx] at hE hmx; obtain ⟨gv, cv, pv, mv, ⟨o0, o1, o2, o3⟩, g0, g1, g2, g3, g4, g5, g6, g7, g8, g9, g10⟩ := hE.keep hB; have hcnt := cntMS_take (L := L) (j := j) (by rw [← HN.out]; exact hlt); rw [hx] at hcnt; have hle := cntMS_le L (j + 1); obtain ⟨r0, hr0⟩ : ∃ r : Int, r = k + (cntMS (L.take j) : Nat) := ⟨_, rfl⟩; have hend : r0 + (cntM x : Nat) = k + (cntMS (L.take (j + 1)) : Nat) := by omega
   have hbd : 0 ≤ r0 ∧ r0 + (cntM x : Nat) ≤ 40000000 := by omega
   rw [← hr0] at hmx ⊢; have HEND := Lib.hid hend; have HC := Lib.hid hc; clear hr0 hend hcnt hle hx hc hE; unfold cntM at hbd; unfold MkM at hmx; obtain ⟨a0, a1, a2, a3, a4, a5, a6, a7, a8, a9, a10⟩ := hmx; obtain ⟨r1, hr1⟩ : ∃ r : Int, r = r0 + 1 := ⟨_, rfl⟩; have t0 : x.kn = r0 := by rw [a0]; (try omega)
   rw [t0] at g0; obtain ⟨r2, hr2⟩ : ∃ r : Int, r = r1 + 1 := ⟨_, rfl⟩; have t1 : x.sa = r1 := by rw [a1]; (try omega)
   rw [t1] at g1; obtain ⟨r3, hr3⟩ : ∃ r : Int, r = r2 + 1 := ⟨_, rfl⟩; have t2 : x.ho = r2 := by rw [a2]; (try omega)
   rw [t2] at g2; obtain ⟨r4, hr4⟩ : ∃ r : Int, r = r3 + 1 := ⟨_, rfl⟩; have t3 : x.ix = r3 := by rw [a3]; (try omega)
   rw [t3] at g3; obtain ⟨r5, hr5⟩ : ∃ r : Int, r = r4 + (cntP x.gs : Nat) := ⟨_, rfl⟩
   have t4 : MkP r4 x.gs := by
    have e : r0 + 1 + 1 + 1 + 1 = r4 := by omega
    rw [← e]; exact a4
   obtain ⟨r6, hr6⟩ : ∃ r : Int, r = r5 + (cntP x.cs : Nat) := ⟨_, rfl⟩
   have t5 : MkP r5 x.cs := by
    have e : r0 + 1 + 1 + 1 + 1 + ((cntP x.gs : Nat) : Int) = r5 := by omega
    rw [← e]; exact a5
   obtain ⟨r7, hr7⟩ : ∃ r : Int, r = r6 + (cntI x.ps : Nat) := ⟨_, rfl⟩
   have t6 : MkI r6 x.ps := by
    have e : r0 + 1 + 1 + 1 + 1 + ((cntP x.gs : Nat) : Int) + ((cntP x.cs : Nat) : Int) = r6 := by omega
    rw [← e]; exact a6
   obtain ⟨r8, hr8⟩ : ∃ r : Int, r = r7 + 1 := ⟨_, rfl⟩; have t7 : x.pr = r7 := by rw [a7]; (try omega)
   rw [t7] at g7; obtain ⟨r9, hr9⟩ : ∃ r : Int, r = r8 + (cntI x.ms : Nat) := ⟨_, rfl⟩
   have t8 : MkI r8 x.ms := by
    have e : r0 + 1 + 1 + 1 + 1 + ((cntP x.gs : Nat) : Int) + ((cntP x.cs : Nat) : Int) + ((cntI x.ps : Nat) : Int) + 1 = r8 := by omega
    rw [← e]; exact a8
   obtain ⟨r10, hr10⟩ : ∃ r : Int, r = r9 + 1 := ⟨_, rfl⟩; have t9 : x.bw = r9 := by rw [a9]; (try omega)
   rw [t9] at g9; obtain ⟨r11, hr11⟩ : ∃ r : Int, r = r10 + 1 := ⟨_, rfl⟩; have t10 : x.er = r10 := by rw [a10]; (try omega)
   rw [t10] at g10; have b0 : 0 ≤ r0 ∧ r0 ≤ 40000000 := by omega
   have b1 : 0 ≤ r1 ∧ r1 ≤ 40000000 := by omega
   have b2 : 0 ≤ r2 ∧ r2 ≤ 40000000 := by omega
   have b3 : 0 ≤ r3 ∧ r3 ≤ 40000000 := by omega
   have b4 : 0 ≤ r4 ∧ r4 ≤ 40000000 := by omega
   have b5 : 0 ≤ r5 ∧ r5 ≤ 40000000 := by omega
   have b6 : 0 ≤ r6 ∧ r6 ≤ 40000000 := by omega
   have b7 : 0 ≤ r7 ∧ r7 ≤ 40000000 := by omega
   have b8 : 0 ≤ r8 ∧ r8 ≤ 40000000 := by omega
   have b9 : 0 ≤ r9 ∧ r9 ≤ 40000000 := by omega
   have b10 : 0 ≤ r10 ∧ r10 ≤ 40000000 := by omega
   have b11 : 0 ≤ r11 ∧ r11 ≤ 40000000 := by omega
   have ng0 : ¬ r0 < 0 := by omega
   have ng1 : ¬ r1 < 0 := by omega
   have ng2 : ¬ r2 < 0 := by omega
   have ng3 : ¬ r3 < 0 := by omega
   have ng4 : ¬ r4 < 0 := by omega
   have ng5 : ¬ r5 < 0 := by omega
   have ng6 : ¬ r6 < 0 := by omega
   have ng7 : ¬ r7 < 0 := by omega
   have ng8 : ¬ r8 < 0 := by omega
   have ng9 : ¬ r9 < 0 := by omega
   have ng10 : ¬ r10 < 0 := by omega
   have ng11 : ¬ r11 < 0 := by omega
   have w0 : IntKind.i64.wrap (r0 + 1) = r1 := by rw [hr1]; exact wrap64_in _ (by omega) (by omega)
   have e0 : (r0 != r0) = false := by simp
   have w1 : IntKind.i64.wrap (r1 + 1) = r2 := by rw [hr2]; exact wrap64_in _ (by omega) (by omega)
   have e1 : (r1 != r1) = false := by simp
   have w2 : IntKind.i64.wrap (r2 + 1) = r3 := by rw [hr3]; exact wrap64_in _ (by omega) (by omega)
   have e2 : (r2 != r2) = false := by simp
   have w3 : IntKind.i64.wrap (r3 + 1) = r4 := by rw [hr4]; exact wrap64_in _ (by omega) (by omega)
   have e3 : (r3 != r3) = false := by simp
   have w7 : IntKind.i64.wrap (r7 + 1) = r8 := by rw [hr8]; exact wrap64_in _ (by omega) (by omega)
   have e7 : (r7 != r7) = false := by simp
   have w9 : IntKind.i64.wrap (r9 + 1) = r10 := by rw [hr10]; exact wrap64_in _ (by omega) (by omega)
   have e9 : (r9 != r9) = false := by simp
   have w10 : IntKind.i64.wrap (r10 + 1) = r11 := by rw [hr11]; exact wrap64_in _ (by omega) (by omega)
   have e10 : (r10 != r10) = false := by simp
   have Q1 := Lib.hid hr1; have Q2 := Lib.hid hr2; have Q3 := Lib.hid hr3; have Q4 := Lib.hid hr4; have Q5 := Lib.hid hr5; have Q6 := Lib.hid hr6; have Q7 := Lib.hid hr7; have Q8 := Lib.hid hr8; have Q9 := Lib.hid hr9; have Q10 := Lib.hid hr10; have Q11 := Lib.hid hr11; clear hr1 hr2 hr3 hr4 hr5 hr6 hr7 hr8 hr9 hr10 hr11 hbd a0 a1 a2 a3 a4 a5 a6 a7 a8 a9 a10 t0 t1 t2 t3 t7 t9 t10; go_wp2_with fail; refine (hdPr_any _ x.gs r4 _ o0 t4 (by omega) (by have := Q5.out; omega)).mono ?_; rintro e v4 ⟨rfl, hb⟩; rw [← Q5.out]; replace hB := below_step hB hb; replace g5 := cell_keep hb (World.block_lt_of_cell? _ _ g5) g5; replace g6 := cell_keep hb (World.block_lt_of_cell? _ _ g6) g6; replace g7 := cell_keep hb (World.block_lt_of_cell? _ _ g7) g7; replace g8 := cell_keep hb (World.block_lt_of_cell? _ _ g8) g8; replace g9 := cell_keep hb (World.block_lt_of_cell? _ _ g9) g9; replace g10 := cell_keep hb (World.block_lt_of_cell? _ _ g10) g10; replace o1 := o1.keep hb; replace o2 := o2.keep hb; replace o3 := o3.keep hb; clear hb; go_wp2_with fail; refine (hdPr_any _ x.cs r5 _ o1 t5 (by omega) (by have := Q6.out; omega)).mono ?_; rintro e v5 ⟨rfl, hb⟩; rw [← Q6.out]; replace hB := below_step hB hb; replace g6 := cell_keep hb (World.block_lt_of_cell? _ _ g6) g6; replace g7 := cell_keep hb (World.block_lt_of_cell? _ _ g7) g7; replace g8 := cell_keep hb (World.block_lt_of_cell? _ _ g8) g8; replace g9 := cell_keep hb (World.block_lt_of_cell? _ _ g9) g9; replace g10 := cell_keep hb (World.block_lt_of_cell? _ _ g10) g10; replace o2 := o2.keep hb; replace o3 := o3.keep hb; clear hb; go_wp2_with fail; refine (hdIr_any _ x.ps r6 _ o2 t6 (by omega) (by have := Q7.out; omega)).mono ?_; rintro e v6 ⟨rfl, hb⟩; rw [← Q7.out]; replace hB := below_step hB hb; replace g7 := cell_keep hb (World.block_lt_of_cell? _ _ g7) g7; replace g8 := cell_keep hb (World.block_lt_of_cell? _ _ g8) g8; replace g9 := cell_keep hb (World.block_lt_of_cell? _ _ g9) g9; replace g10 := cell_keep hb (World.block_lt_of_cell? _ _ g10) g10; replace o3 := o3.keep hb; clear hb; go_wp2_with fail; refine (hdIr_any _ x.ms r8 _ o3 t8 (by omega) (by have := Q9.out; omega)).mono ?_; rintro e v8 ⟨rfl, hb⟩; rw [← Q9.out]; replace hB := below_step hB hb; replace g9 := cell_keep hb (World.block_lt_of_cell? _ _ g9) g9; replace g10 := cell_keep hb (World.block_lt_of_cell? _ _ g10) g10; clear hb; go_wp2
   go_roundw
   case rel => exact ⟨j + 1, by omega, by go_num, by rw [← HEND.out]; unfold cntM; have := Q1.out; have := Q2.out; have := Q3.out; have := Q4.out; have := Q5.out; have := Q6.out; have := Q7.out; have := Q8.out; have := Q9.out; have := Q10.out; have := Q11.out; congr 1; omega, hB⟩
   case measure => simp [intOf]; omega
  ·have hkn : j = n := by omega
   subst hkn; have HT : Hid (L.take j = L) := Lib.hid (List.take_of_length_le (by rw [HN.out]; exact Nat.le_refl _)); clear hc; go_wp2
   go_ret
   exact ⟨by first | rfl | (rw [HT.out]; rfl), hB⟩
end Go.Proofs.YtkodnipmogdgkaaGreat
namespace Go.Proofs.YtkodnipmogdgkaaGreat
open Go.ChangeShapes Go.WideShapes Go.ChangeAt Go.RowKit Go.BigFrame Go.Joins
set_option linter.unusedVariables false
set_option maxRecDepth 100000
set_option linter.unusedSimpArgs false
set_option maxRecDepth 100000

def wtQ (x : Ent) : Nat := x.p.length + x.c.length
def RdQ (w : World) (pv cv : Value) (x : Ent) : Prop := RdI w pv x.p ∧ RdI w cv x.c
theorem RdQ.keep {w w' : World} {pv cv : Value} {x : Ent} (h : RdQ w pv cv x) (hb : Below w.heap.size w w') : RdQ w' pv cv x := by
 obtain ⟨h0, h1⟩ := h
 exact ⟨h0.keep hb, h1.keep hb⟩
/-- the cells of block b from o on hold it -/
def AtQ (w : World) (b o : Nat) (x : Ent) : Prop :=
 ∃ pv cv, RdQ w pv cv x ∧ w.cell? ⟨b, o, none⟩ = some (.int .i64 x.a) ∧ w.cell? ⟨b, o + 1, none⟩ = some (.int .i64 x.n) ∧ w.cell? ⟨b, o + 2, none⟩ = some (.int .i64 x.pe) ∧ w.cell? ⟨b, o + 3, none⟩ = some (pv) ∧ w.cell? ⟨b, o + 4, none⟩ = some (.int .i64 x.pr) ∧ w.cell? ⟨b, o + 5, none⟩ = some (cv) ∧ w.cell? ⟨b, o + 6, none⟩ = some (.int .i64 x.bw)
theorem AtQ.keep {w w' : World} {b o : Nat} {x : Ent} (h : AtQ w b o x) (hb : Below w.heap.size w w') : AtQ w' b o x := by
 obtain ⟨pv, cv, hr, k0, k1, k2, k3, k4, k5, k6⟩ := h
 exact ⟨pv, cv, hr.keep hb, cell_keep hb (World.block_lt_of_cell? w _ k0) k0, cell_keep hb (World.block_lt_of_cell? w _ k1) k1, cell_keep hb (World.block_lt_of_cell? w _ k2) k2, cell_keep hb (World.block_lt_of_cell? w _ k3) k3, cell_keep hb (World.block_lt_of_cell? w _ k4) k4, cell_keep hb (World.block_lt_of_cell? w _ k5) k5, cell_keep hb (World.block_lt_of_cell? w _ k6) k6⟩
def RdQS (w : World) (v : Value) (L : List Ent) : Prop :=
 L.length ≤ 9223372036854775807 ∧
 ((∃ a c, v = .slice a 0 c ∧ L = [] ∧ (a = none → c = 0)) ∨
  ∃ b o c, v = .slice (some ⟨b, o, none⟩) L.length c ∧ 0 < L.length ∧ ∀ i, i < L.length → AtQ w b (o + i * 7) (L.getD i e0))
theorem RdQS.keep {w w' : World} {v : Value} {L : List Ent} (h : RdQS w v L) (hb : Below w.heap.size w w') : RdQS w' v L := by
 obtain ⟨h2, h3⟩ := h; refine ⟨h2, ?_⟩
 rcases h3 with h3 | ⟨b, o, c, hv, hp, hc⟩
 ·exact .inl h3
 ·exact .inr ⟨b, o, c, hv, hp, fun i hi => (hc i hi).keep hb⟩
theorem RdQS.len {w : World} {v : Value} {L : List Ent} (h : RdQS w v L) : ∃ a c, v = .slice a L.length c := by
 rcases h.2 with ⟨a, c, rfl, rfl, hac⟩ | ⟨b, o, c, rfl, _⟩
 ·exact ⟨a, c, rfl⟩
 ·exact ⟨_, c, rfl⟩
theorem RdQS.el {w : World} {v : Value} {L : List Ent} (h : RdQS w v L) : ∃ a c, v = .slice a L.length c ∧ ∀ i, i < L.length → ∃ b o, a = some ⟨b, o, none⟩ ∧ AtQ w b (o + i * 7) (L.getD i e0) := by
 rcases h.2 with ⟨a, c, rfl, rfl, -⟩ | ⟨b, o, c, rfl, -, hc⟩
 ·exact ⟨a, c, rfl, fun i hi => absurd hi (by simp)⟩
 ·exact ⟨_, c, rfl, fun i hi => ⟨b, o, rfl, hc i hi⟩⟩
theorem RdQS.nil (w : World) : RdQS w (.slice none 0 0) [] := ⟨by simp, .inl ⟨none, 0, rfl, rfl, fun _ => rfl⟩⟩
def wtQS (L : List Ent) : Nat := (L.map wtQ).sum
theorem wtQ_take {L : List Ent} {j : Nat} (h : j < L.length) : wtQS (L.take (j + 1)) = wtQS (L.take j) + wtQ (L.getD j e0) := by
 unfold wtQS; rw [List.take_succ_eq_append_getElem h, List.map_append, List.sum_append]; have e : L.getD j e0 = L[j] := by simp [List.getD, h]
 rw [e]
 simp
theorem wtQ_le (L : List Ent) (j : Nat) : wtQS (L.take j) ≤ wtQS L := by
 conv => rhs; rw [← List.take_append_drop j L]
 unfold wtQS; rw [List.map_append, List.sum_append]
 omega
theorem wtQ_at {L : List Ent} {j : Nat} (h : j < L.length) : wtQ (L.getD j e0) ≤ wtQS L := by
 have h1 := wtQ_take h; have h2 := wtQ_le L (j + 1)
 omega
def OwQ (w : World) (S : Nat → Prop) (pv cv : Value) (x : Ent) : Prop := ∃ S0 S1 : Nat → Prop, (∀ b, S0 b → S b) ∧ (∀ b, S1 b → S b) ∧ Dj S0 S1 ∧ OwIr w S0 pv x.p ∧ OwIr w S1 cv x.c
theorem OwQ.agr {w w' : World} {S : Nat → Prop} {pv cv : Value} {x : Ent} (h : OwQ w S pv cv x) (a : AgrS S w w') : OwQ w' S pv cv x := by
 obtain ⟨S0, S1, sb0, sb1, dj01, h0, h1⟩ := h
 exact ⟨S0, S1, sb0, sb1, dj01, h0.agr (a.sub sb0), h1.agr (a.sub sb1)⟩
theorem OwQ.rd {w : World} {S : Nat → Prop} {pv cv : Value} {x : Ent} (h : OwQ w S pv cv x) : RdQ w pv cv x := by
 obtain ⟨S0, S1, -, -, -, h0, h1⟩ := h
 exact ⟨h0.rd, h1.rd⟩
def cntQ (x : Ent) : Nat := 5 + cntI x.p + cntI x.c
def MkQ (k : Int) (x : Ent) : Prop := x.a = k ∧ x.n = k + 1 ∧ x.pe = k + 1 + 1 ∧ MkI (k + 1 + 1 + 1) x.p ∧ x.pr = k + 1 + 1 + 1 + (cntI x.p : Nat) ∧ MkI (k + 1 + 1 + 1 + (cntI x.p : Nat) + 1) x.c ∧ x.bw = k + 1 + 1 + 1 + (cntI x.p : Nat) + 1 + (cntI x.c : Nat)
/-- element i of the cells xs is that, its rows lie in blocks of E -/
def ElQ (xs : List Value) (w : World) (E : Nat → Prop) (i : Nat) (x : Ent) : Prop := ∃ pv cv, OwQ w E pv cv x ∧ xs[i * 7]? = some (.int .i64 x.a) ∧ xs[i * 7 + 1]? = some (.int .i64 x.n) ∧ xs[i * 7 + 2]? = some (.int .i64 x.pe) ∧ xs[i * 7 + 3]? = some (pv) ∧ xs[i * 7 + 4]? = some (.int .i64 x.pr) ∧ xs[i * 7 + 5]? = some (cv) ∧ xs[i * 7 + 6]? = some (.int .i64 x.bw)
def OwQS (w : World) (S : Nat → Prop) (v : Value) (L : List Ent) : Prop :=
 L.length ≤ 1048576 ∧ ((v = .slice none 0 0 ∧ L = []) ∨ ∃ (g cap : Nat) (xs : List Value) (E : Nat → Nat → Prop), v = .slice (some ⟨g, 0, none⟩) L.length cap ∧ S g ∧ Bl w g xs ∧ xs.length = L.length * 7 ∧
  (∀ i, i < L.length → (∀ b, E i b → S b) ∧ ¬ E i g ∧ ElQ xs w (E i) i (L.getD i e0)) ∧ ∀ i j, i < L.length → j < L.length → i ≠ j → Dj (E i) (E j))
theorem OwQS.agr {w w' : World} {S : Nat → Prop} {v : Value} {L : List Ent} (h : OwQS w S v L) (a : AgrS S w w') : OwQS w' S v L := by
 obtain ⟨hl, h | ⟨g, cap, xs, E, hv, h1, hB, hx, hE, hd⟩⟩ := h
 ·exact ⟨hl, .inl h⟩
 ·refine ⟨hl, .inr ⟨g, cap, xs, E, hv, h1, bl_agrS hB a h1, hx, fun i hi => ?_, hd⟩⟩
  obtain ⟨e1, e2, pv, cv, ho, e5⟩ := hE i hi
  exact ⟨e1, e2, pv, cv, ho.agr (a.sub e1), e5⟩
theorem OwQS.mono {w : World} {S S' : Nat → Prop} {v : Value} {L : List Ent} (h : OwQS w S v L) (hs : ∀ b, S b → S' b) : OwQS w S' v L := by
 obtain ⟨hl, h | ⟨g, cap, xs, E, hv, h1, hB, hx, hE, hd⟩⟩ := h
 ·exact ⟨hl, .inl h⟩
 ·exact ⟨hl, .inr ⟨g, cap, xs, E, hv, hs _ h1, hB, hx, fun i hi => ⟨fun b hb => hs _ ((hE i hi).1 b hb), (hE i hi).2⟩, hd⟩⟩
theorem OwQS.rd {w : World} {S : Nat → Prop} {v : Value} {L : List Ent} (h : OwQS w S v L) : RdQS w v L := by
 obtain ⟨hl, ⟨rfl, rfl⟩ | ⟨g, cap, xs, E, rfl, h1, hB, hx, hE, hd⟩⟩ := h
 ·exact RdQS.nil w
 ·refine ⟨by omega, ?_⟩
  by_cases h0 : L.length = 0
  ·exact .inl ⟨some ⟨g, 0, none⟩, cap, by rw [h0], List.eq_nil_of_length_eq_zero h0, fun h => by cases h⟩
  ·refine .inr ⟨g, 0, cap, rfl, by omega, fun i hi => ?_⟩
   obtain ⟨-, -, pv, cv, ho, e0, e1, e2, e3, e4, e5, e6⟩ := hE i hi; refine ⟨pv, cv, ho.rd, ?_⟩; simp only [Nat.zero_add]
   exact ⟨hB.c _ e0, hB.c _ e1, hB.c _ e2, hB.c _ e3, hB.c _ e4, hB.c _ e5, hB.c _ e6⟩
def cntQS (L : List Ent) : Nat := (L.map cntQ).sum
def MkQS (k : Int) (L : List Ent) : Prop := ∀ i, i < L.length → MkQ (k + (cntQS (L.take i) : Nat)) (L.getD i e0)
theorem cntQS_take {L : List Ent} {j : Nat} (h : j < L.length) : cntQS (L.take (j + 1)) = cntQS (L.take j) + cntQ (L.getD j e0) := by
 unfold cntQS; rw [List.take_succ_eq_append_getElem h, List.map_append, List.sum_append]; have e : L.getD j e0 = L[j] := by simp [List.getD, h]
 rw [e]
 simp
theorem cntQS_le (L : List Ent) (j : Nat) : cntQS (L.take j) ≤ cntQS L := by
 conv => rhs; rw [← List.take_append_drop j L]
 unfold cntQS; rw [List.map_append, List.sum_append]
 omega
theorem cntQS_same {L L' : List Ent} (h : L'.map cntQ = L.map cntQ) (j : Nat) : cntQS (L'.take j) = cntQS (L.take j) := by
 unfold cntQS; rw [List.map_take, List.map_take, h]
/-- element j turns, nothing else of the list -/
theorem OwQS.upd {w w' : World} {S : Nat → Prop} {g cap j : Nat} {xs xs' : List Value} {E : Nat → Nat → Prop} {L : List Ent} {x' : Ent} (hl : L.length ≤ 1048576) (h1 : S g) (hB : Bl w' g xs') (hx : xs'.length = L.length * 7)
  (hE : ∀ i, i < L.length → (∀ b, E i b → S b) ∧ ¬ E i g ∧ ElQ xs w (E i) i (L.getD i e0)) (hd : ∀ i j, i < L.length → j < L.length → i ≠ j → Dj (E i) (E j)) (hj : j < L.length)
  (hsame : ∀ i, i < L.length → i ≠ j → ∀ f, f < 7 → xs'[i * 7 + f]? = xs[i * 7 + f]?) (hb : ButS g (E j) w w') (hn : ElQ xs' w' (E j) j x') : OwQS w' S (.slice (some ⟨g, 0, none⟩) L.length cap) (L.set j x') := by
 refine ⟨by rw [List.length_set]; exact hl, .inr ⟨g, cap, xs', E, by rw [List.length_set], h1, hB, by rw [List.length_set]; exact hx, fun i hi => ?_, fun i j hi hj' hij => hd i j (by rwa [List.length_set] at hi) (by rwa [List.length_set] at hj') hij⟩⟩; rw [List.length_set] at hi; obtain ⟨e1, e2, e5⟩ := hE i hi; refine ⟨e1, e2, ?_⟩
 by_cases e : i = j
 ·subst e
  rw [show (L.set i x').getD i e0 = x' by simp [List.getD, hi]]
  exact hn
 ·rw [show (L.set j x').getD i e0 = L.getD i e0 by simp [List.getD, List.getElem?_set, Ne.symm e]]
  obtain ⟨pv, cv, ho, f0, f1, f2, f3, f4, f5, f6⟩ := e5; refine ⟨pv, cv, ho.agr (hb.agr e2 (hd i j hi hj e)), ?_, ?_, ?_, ?_, ?_, ?_, ?_⟩
  ·rw [show i * 7 = i * 7 + 0 from rfl, hsame i hi e 0 (by omega)]; exact f0
  ·rw [hsame i hi e 1 (by omega)]; exact f1
  ·rw [hsame i hi e 2 (by omega)]; exact f2
  ·rw [hsame i hi e 3 (by omega)]; exact f3
  ·rw [hsame i hi e 4 (by omega)]; exact f4
  ·rw [hsame i hi e 5 (by omega)]; exact f5
  ·rw [hsame i hi e 6 (by omega)]; exact f6
set_option maxHeartbeats 8000000 in
theorem mkQS_any (v : Value) (L : List Ent) (k : Int) (S : Nat → Prop) (w : World) (h : OwQS w S v L) (hk0 : 0 ≤ k) (hk : k + (cntQS L : Nat) ≤ 40000000) :
  Calls Tryz.prog 56 #[v, .int .i64 k] w fun e w' => ∃ L', e = .returned (.int .i64 (k + (cntQS L : Nat))) ∧ cntQS L' = cntQS L ∧ L'.length = L.length ∧ MkQS k L' ∧ OwQS w' S v L' ∧ MidS S w w' := by
 obtain ⟨va, vx, hv⟩ := h.rd.len; obtain ⟨n, hn⟩ : ∃ n, n = L.length := ⟨_, rfl⟩; rw [← hn] at hv ⊢; subst hv; have hnb := h.1; rw [← hn] at hnb; have HN := Lib.hid hn; have HH := Lib.hid h; clear h hn
 go_enter Tryz.func56, Tryz.ntmps56
 go_wp2
 go_loopw [1, 5] (fun s i wr => ∃ (j : Nat) (L' : List Ent), j ≤ n ∧ i = .int .i64 j ∧ s = .int .i64 (k + (cntQS (L.take j) : Nat)) ∧ L'.length = n ∧ L'.map cntQ = L.map cntQ ∧ (∀ i, i < j → MkQ (k + (cntQS (L'.take i) : Nat)) (L'.getD i e0)) ∧ OwQS wr S (.slice va n vx) L' ∧ MidS S w wr) (fun _ i _ => n - (intOf i).toNat)
 case atStart => exact ⟨0, L, Nat.zero_le _, rfl, by simp [cntQS], HN.out.symm, rfl, fun i hi => by omega, HH.out, MidS.refl _ _⟩
 case round =>
  obtain ⟨j, L', hj, rfl, rfl, hlen, hcm, hyes, hO, hB⟩ := hrel
  by_cases hlt : j < n
  ·have hltI : (j : Int) < (n : Int) := by omega
   obtain ⟨hl, hnil | ⟨g, cap, xs, E, hv, hSg, bX, hxl, hE, hdis⟩⟩ := hO
   ·exact absurd hnil.2 (by intro q; rw [q] at hlen; simp at hlen; omega)
   simp only [Value.slice.injEq] at hv; obtain ⟨rfl, -, rfl⟩ := hv; obtain ⟨e1, e2, pv, cv, ho, x0, x1, x2, x3, x4, x5, x6⟩ := hE j (by omega); obtain ⟨x, hx⟩ : ∃ x, L'.getD j e0 = x := ⟨_, rfl⟩; rw [hx] at ho x0 x1 x2 x4 x6; have HX := Lib.hid hx; have hcnt := cntQS_take (L := L') (j := j) (by omega); rw [cntQS_same hcm, cntQS_same hcm, hx] at hcnt; have hle := cntQS_le L (j + 1); obtain ⟨r0, hr0⟩ : ∃ r : Int, r = k + (cntQS (L.take j) : Nat) := ⟨_, rfl⟩; have hend : r0 + (cntQ x : Nat) = k + (cntQS (L.take (j + 1)) : Nat) := by omega
   have hbd : 0 ≤ r0 ∧ r0 + (cntQ x : Nat) ≤ 40000000 := by omega
   rw [← hr0]; have HR0 := Lib.hid hr0; have HEND := Lib.hid hend; have HYES := Lib.hid hyes; have HCM := Lib.hid hcm; have HLL := Lib.hid (And.intro hl hlen); have HEE := Lib.hid hE; have HDD := Lib.hid hdis; have HXL := Lib.hid hxl; clear hr0 hend hyes hcm hcnt hle hE hdis hx hl hlen hxl; obtain ⟨S0, S1, sb0, sb1, dj01, o0, o1⟩ := ho; unfold cntQ at hbd; obtain ⟨r1, hr1⟩ : ∃ r : Int, r = r0 + 1 := ⟨_, rfl⟩; obtain ⟨r2, hr2⟩ : ∃ r : Int, r = r1 + 1 := ⟨_, rfl⟩; obtain ⟨r3, hr3⟩ : ∃ r : Int, r = r2 + 1 := ⟨_, rfl⟩; obtain ⟨r4, hr4⟩ : ∃ r : Int, r = r3 + (cntI x.p : Nat) := ⟨_, rfl⟩; obtain ⟨r5, hr5⟩ : ∃ r : Int, r = r4 + 1 := ⟨_, rfl⟩; obtain ⟨r6, hr6⟩ : ∃ r : Int, r = r5 + (cntI x.c : Nat) := ⟨_, rfl⟩; obtain ⟨r7, hr7⟩ : ∃ r : Int, r = r6 + 1 := ⟨_, rfl⟩; have b0 : 0 ≤ r0 ∧ r0 ≤ 40000000 := by omega
   have b1 : 0 ≤ r1 ∧ r1 ≤ 40000000 := by omega
   have b2 : 0 ≤ r2 ∧ r2 ≤ 40000000 := by omega
   have b3 : 0 ≤ r3 ∧ r3 ≤ 40000000 := by omega
   have b4 : 0 ≤ r4 ∧ r4 ≤ 40000000 := by omega
   have b5 : 0 ≤ r5 ∧ r5 ≤ 40000000 := by omega
   have b6 : 0 ≤ r6 ∧ r6 ≤ 40000000 := by omega
   have b7 : 0 ≤ r7 ∧ r7 ≤ 40000000 := by omega
   have w0 : IntKind.i64.wrap (r0 + 1) = r1 := by rw [hr1]; exact wrap64_in _ (by omega) (by omega)
   have w1 : IntKind.i64.wrap (r1 + 1) = r2 := by rw [hr2]; exact wrap64_in _ (by omega) (by omega)
   have w2 : IntKind.i64.wrap (r2 + 1) = r3 := by rw [hr3]; exact wrap64_in _ (by omega) (by omega)
   have w4 : IntKind.i64.wrap (r4 + 1) = r5 := by rw [hr5]; exact wrap64_in _ (by omega) (by omega)
   have w6 : IntKind.i64.wrap (r6 + 1) = r7 := by rw [hr7]; exact wrap64_in _ (by omega) (by omega)
   have Q1 := Lib.hid hr1; have Q2 := Lib.hid hr2; have Q3 := Lib.hid hr3; have Q4 := Lib.hid hr4; have Q5 := Lib.hid hr5; have Q6 := Lib.hid hr6; have Q7 := Lib.hid hr7; clear hr1 hr2 hr3 hr4 hr5 hr6 hr7 hbd; have but : ButS g (E j) wr wr := ButS.refl _ _ _; have y0 := bX.c (j * 7) (x0); have z0 := bX.f (j * 7) (x0); have y1 := bX.c (j * 7 + 1) (x1); have z1 := bX.f (j * 7 + 1) (x1); have y2 := bX.c (j * 7 + 2) (x2); have z2 := bX.f (j * 7 + 2) (x2); have y3 := bX.c (j * 7 + 3) (x3); go_wp2_with fail; clear y0 z0 y1 z1 y2 z2 y3; replace bX := bX.set (j * 7) (.int .i64 r0); replace but := but.set (o := j * 7) (u := .int .i64 r0); replace o0 := o0.agr (agr_setS (g := g) (o := j * 7) (u := .int .i64 r0) _ (fun h => e2 (sb0 _ h))); replace o1 := o1.agr (agr_setS (g := g) (o := j * 7) (u := .int .i64 r0) _ (fun h => e2 (sb1 _ h))); replace bX := bX.set (j * 7 + 1) (.int .i64 r1); replace but := but.set (o := j * 7 + 1) (u := .int .i64 r1); replace o0 := o0.agr (agr_setS (g := g) (o := j * 7 + 1) (u := .int .i64 r1) _ (fun h => e2 (sb0 _ h))); replace o1 := o1.agr (agr_setS (g := g) (o := j * 7 + 1) (u := .int .i64 r1) _ (fun h => e2 (sb1 _ h))); replace bX := bX.set (j * 7 + 2) (.int .i64 r2); replace but := but.set (o := j * 7 + 2) (u := .int .i64 r2); replace o0 := o0.agr (agr_setS (g := g) (o := j * 7 + 2) (u := .int .i64 r2) _ (fun h => e2 (sb0 _ h))); replace o1 := o1.agr (agr_setS (g := g) (o := j * 7 + 2) (u := .int .i64 r2) _ (fun h => e2 (sb1 _ h))); obtain ⟨X0, hX0⟩ : ∃ X, X = (((wr.setCell ⟨g, j * 7, none⟩ (.int .i64 r0)).setCell ⟨g, j * 7 + 1, none⟩ (.int .i64 r1)).setCell ⟨g, j * 7 + 2, none⟩ (.int .i64 r2)) := ⟨_, rfl⟩; rw [← hX0] at bX but o0 o1 ⊢; clear hX0; refine (mkIr_any _ x.p r3 _ X0 o0 (by omega) (by have := Q4.out; omega)).mono ?_; rintro e w1 ⟨nw0, rfl, s0, lm0, t0, o0, mid⟩; rw [← Q4.out]; replace bX := mid.bl bX (fun h => e2 (sb0 _ h)); replace but := but.mid mid sb0; replace o1 := o1.agr (mid.agr dj01.symm); clear mid; have y4 := bX.c (j * 7 + 4) (by rw [List.getElem?_set_ne (by omega)]; rw [List.getElem?_set_ne (by omega)]; rw [List.getElem?_set_ne (by omega)]; exact x4); have z4 := bX.f (j * 7 + 4) (by rw [List.getElem?_set_ne (by omega)]; rw [List.getElem?_set_ne (by omega)]; rw [List.getElem?_set_ne (by omega)]; exact x4); have y5 := bX.c (j * 7 + 5) (by rw [List.getElem?_set_ne (by omega)]; rw [List.getElem?_set_ne (by omega)]; rw [List.getElem?_set_ne (by omega)]; exact x5); go_wp2_with fail; clear y4 z4 y5; replace bX := bX.set (j * 7 + 4) (.int .i64 r4); replace but := but.set (o := j * 7 + 4) (u := .int .i64 r4); replace o0 := o0.agr (agr_setS (g := g) (o := j * 7 + 4) (u := .int .i64 r4) _ (fun h => e2 (sb0 _ h))); replace o1 := o1.agr (agr_setS (g := g) (o := j * 7 + 4) (u := .int .i64 r4) _ (fun h => e2 (sb1 _ h))); obtain ⟨X1, hX1⟩ : ∃ X, X = (w1.setCell ⟨g, j * 7 + 4, none⟩ (.int .i64 r4)) := ⟨_, rfl⟩; rw [← hX1] at bX but o0 o1 ⊢; clear hX1; refine (mkIr_any _ x.c r5 _ X1 o1 (by omega) (by have := Q6.out; omega)).mono ?_; rintro e w2 ⟨nw1, rfl, s1, lm1, t1, o1, mid⟩; rw [← Q6.out]; replace bX := mid.bl bX (fun h => e2 (sb1 _ h)); replace but := but.mid mid sb1; replace o0 := o0.agr (mid.agr dj01); clear mid; have y6 := bX.c (j * 7 + 6) (by rw [List.getElem?_set_ne (by omega)]; rw [List.getElem?_set_ne (by omega)]; rw [List.getElem?_set_ne (by omega)]; rw [List.getElem?_set_ne (by omega)]; exact x6); have z6 := bX.f (j * 7 + 6) (by rw [List.getElem?_set_ne (by omega)]; rw [List.getElem?_set_ne (by omega)]; rw [List.getElem?_set_ne (by omega)]; rw [List.getElem?_set_ne (by omega)]; exact x6); have KB := Lib.hid bX; go_wp2; clear y6 z6; replace bX := bX.set (j * 7 + 6) (.int .i64 r6); replace but := but.set (o := j * 7 + 6) (u := .int .i64 r6); replace o0 := o0.agr (agr_setS (g := g) (o := j * 7 + 6) (u := .int .i64 r6) _ (fun h => e2 (sb0 _ h))); replace o1 := o1.agr (agr_setS (g := g) (o := j * 7 + 6) (u := .int .i64 r6) _ (fun h => e2 (sb1 _ h)))
   go_roundw
   case rel =>
    have hup := OwQS.upd (cap := vx) (x' := ⟨r0, r1, r2, nw0, r4, nw1, r6⟩) HLL.out.1 hSg bX (by simpa using HXL.out) HEE.out HDD.out (by have := HLL.out; omega) (fun i hi hij f hf => by rw [List.getElem?_set_ne (by omega)]; rw [List.getElem?_set_ne (by omega)]; rw [List.getElem?_set_ne (by omega)]; rw [List.getElem?_set_ne (by omega)]; rw [List.getElem?_set_ne (by omega)]) but
     ⟨pv, cv, ⟨S0, S1, sb0, sb1, dj01, o0, o1⟩, by rw [List.getElem?_set_ne (by omega)]; rw [List.getElem?_set_ne (by omega)]; rw [List.getElem?_set_ne (by omega)]; rw [List.getElem?_set_ne (by omega)]; rw [List.getElem?_set_self (by (try simp only [List.length_set]); have := HXL.out; have := HLL.out; omega)], by rw [List.getElem?_set_ne (by omega)]; rw [List.getElem?_set_ne (by omega)]; rw [List.getElem?_set_ne (by omega)]; rw [List.getElem?_set_self (by (try simp only [List.length_set]); have := HXL.out; have := HLL.out; omega)], by rw [List.getElem?_set_ne (by omega)]; rw [List.getElem?_set_ne (by omega)]; rw [List.getElem?_set_self (by (try simp only [List.length_set]); have := HXL.out; have := HLL.out; omega)], by rw [List.getElem?_set_ne (by omega)]; rw [List.getElem?_set_ne (by omega)]; rw [List.getElem?_set_ne (by omega)]; rw [List.getElem?_set_ne (by omega)]; rw [List.getElem?_set_ne (by omega)]; exact x3, by rw [List.getElem?_set_ne (by omega)]; rw [List.getElem?_set_self (by (try simp only [List.length_set]); have := HXL.out; have := HLL.out; omega)], by rw [List.getElem?_set_ne (by omega)]; rw [List.getElem?_set_ne (by omega)]; rw [List.getElem?_set_ne (by omega)]; rw [List.getElem?_set_ne (by omega)]; rw [List.getElem?_set_ne (by omega)]; exact x5, by rw [List.getElem?_set_self (by (try simp only [List.length_set]); have := HXL.out; have := HLL.out; omega)]⟩
    rw [HLL.out.2] at hup; have hc2 : cntQ ⟨r0, r1, r2, nw0, r4, nw1, r6⟩ = cntQ x := by unfold cntQ; simp only [s0, s1]
    refine ⟨j + 1, L'.set j ⟨r0, r1, r2, nw0, r4, nw1, r6⟩, by omega, by go_num, ?_, by rw [List.length_set]; exact HLL.out.2, ?_, fun i hi => ?_, hup, ?_⟩
    ·rw [← HEND.out]
     unfold cntQ; have := Q1.out; have := Q2.out; have := Q3.out; have := Q4.out; have := Q5.out; have := Q6.out; have := Q7.out
     congr 1
     omega
    ·rw [List.map_set, hc2, ← HX.out, List.getD_eq_getElem?_getD, List.getElem?_eq_getElem (by have := HLL.out; omega)]
     rw [← HCM.out]
     apply List.ext_getElem?
     intro i
     by_cases e : j = i
     ·subst e; rw [List.getElem?_set_self (by rw [List.length_map]; have := HLL.out; omega), List.getElem?_map, List.getElem?_eq_getElem (by have := HLL.out; omega)]; rfl
     ·rw [List.getElem?_set_ne e]
    ·by_cases e : i = j
     ·subst e
      rw [show (L'.set i ⟨r0, r1, r2, nw0, r4, nw1, r6⟩).getD i e0 = ⟨r0, r1, r2, nw0, r4, nw1, r6⟩ by simp [List.getD, show i < L'.length by have := HLL.out; omega], List.take_set_of_le (Nat.le_refl i), cntQS_same HCM.out, ← HR0.out]; refine ⟨?_, ?_, ?_, ?_, ?_, ?_, ?_⟩
      ·(try rfl)
      ·rw [show r0 + 1 = r1 by have := Q1.out; first | omega | (simp only [s0, s1]; omega) | simp only [s0, s1]]; (try rfl)
      ·rw [show r0 + 1 + 1 = r2 by have := Q1.out; have := Q2.out; first | omega | (simp only [s0, s1]; omega) | simp only [s0, s1]]; (try rfl)
      ·rw [show r0 + 1 + 1 + 1 = r3 by have := Q1.out; have := Q2.out; have := Q3.out; first | omega | (simp only [s0, s1]; omega) | simp only [s0, s1]]; exact t0
      ·rw [show r0 + 1 + 1 + 1 + ((cntI nw0 : Nat) : Int) = r4 by have := Q1.out; have := Q2.out; have := Q3.out; have := Q4.out; first | omega | (simp only [s0, s1]; omega) | simp only [s0, s1]]; (try rfl)
      ·rw [show r0 + 1 + 1 + 1 + ((cntI nw0 : Nat) : Int) + 1 = r5 by have := Q1.out; have := Q2.out; have := Q3.out; have := Q4.out; have := Q5.out; first | omega | (simp only [s0, s1]; omega) | simp only [s0, s1]]; exact t1
      ·rw [show r0 + 1 + 1 + 1 + ((cntI nw0 : Nat) : Int) + 1 + ((cntI nw1 : Nat) : Int) = r6 by have := Q1.out; have := Q2.out; have := Q3.out; have := Q4.out; have := Q5.out; have := Q6.out; first | omega | (simp only [s0, s1]; omega) | simp only [s0, s1]]; (try rfl)
     ·rw [show (L'.set j ⟨r0, r1, r2, nw0, r4, nw1, r6⟩).getD i e0 = L'.getD i e0 by simp [List.getD, List.getElem?_set, Ne.symm e], List.take_set_of_le (by omega)]
      exact HYES.out i (by omega)
    ·exact hB.trans (but.midS e1 hSg)
   case measure => simp [intOf]; omega
  ·have hkn : j = n := by omega
   subst hkn; have HT : Hid (L.take j = L) := Lib.hid (List.take_of_length_le (by rw [HN.out]; exact Nat.le_refl _)); have HF := Lib.hid (And.intro hcm (And.intro hyes (And.intro hO (And.intro hB hlen)))); clear hcm hyes hO hB hlen; go_wp2
   go_ret
   obtain ⟨hcm, hyes, hO, hB, hlen⟩ := HF.out; refine ⟨L', by first | rfl | (rw [HT.out]; rfl), ?_, hlen, fun i hi => hyes i (by omega), hO, hB⟩; unfold cntQS; rw [hcm]
set_option maxHeartbeats 4000000 in
theorem hdQS_any (v : Value) (L : List Ent) (k : Int) (w : World) (h : RdQS w v L) (hm : MkQS k L) (hk0 : 0 ≤ k) (hk : k + (cntQS L : Nat) ≤ 40000000) :
  Calls Tryz.prog 85 #[v, .int .i64 k] w fun e w' => e = .returned (.int .i64 (k + (cntQS L : Nat))) ∧ Below w.heap.size w w' := by
 have hnn := h.1; obtain ⟨a, c, rfl, hc⟩ := h.el; obtain ⟨n, hn⟩ : ∃ n, n = L.length := ⟨_, rfl⟩; rw [← hn] at hc hnn ⊢; have HN := Lib.hid hn; have HM := Lib.hid hm; clear h hn hm
 go_enter Tryz.func85, Tryz.ntmps85
 go_wp2
 go_loopw [1, 5] (fun s i wr => ∃ j : Nat, j ≤ n ∧ i = .int .i64 j ∧ s = .int .i64 (k + (cntQS (L.take j) : Nat)) ∧ Below w.heap.size w wr) (fun _ i _ => n - (intOf i).toNat)
 case atStart => exact ⟨0, Nat.zero_le _, rfl, by simp [cntQS], Below.refl _ _⟩
 case round =>
  obtain ⟨j, hj, rfl, rfl, hB⟩ := hrel
  by_cases hlt : j < n
  ·have hltI : (j : Int) < (n : Int) := by omega
   obtain ⟨b, o, rfl, hE⟩ := hc j hlt; obtain ⟨x, hx⟩ : ∃ x, L.getD j e0 = x := ⟨_, rfl⟩; have hmx := HM.out j (by rw [← HN.out]; exact hlt); rw [hx] at hE hmx; obtain ⟨pv, cv, ⟨o0, o1⟩, g0, g1, g2, g3, g4, g5, g6⟩ := hE.keep hB; have hcnt := cntQS_take (L := L) (j := j) (by rw [← HN.out]; exact hlt); rw [hx] at hcnt; have hle := cntQS_le L (j + 1); obtain ⟨r0, hr0⟩ : ∃ r : Int, r = k + (cntQS (L.take j) : Nat) := ⟨_, rfl⟩; have hend : r0 + (cntQ x : Nat) = k + (cntQS (L.take (j + 1)) : Nat) := by omega
   have hbd : 0 ≤ r0 ∧ r0 + (cntQ x : Nat) ≤ 40000000 := by omega
   rw [← hr0] at hmx ⊢; have HEND := Lib.hid hend; have HC := Lib.hid hc; clear hr0 hend hcnt hle hx hc hE; unfold cntQ at hbd; unfold MkQ at hmx; obtain ⟨a0, a1, a2, a3, a4, a5, a6⟩ := hmx; obtain ⟨r1, hr1⟩ : ∃ r : Int, r = r0 + 1 := ⟨_, rfl⟩; have t0 : x.a = r0 := by rw [a0]; (try omega)
   rw [t0] at g0; obtain ⟨r2, hr2⟩ : ∃ r : Int, r = r1 + 1 := ⟨_, rfl⟩; have t1 : x.n = r1 := by rw [a1]; (try omega)
   rw [t1] at g1; obtain ⟨r3, hr3⟩ : ∃ r : Int, r = r2 + 1 := ⟨_, rfl⟩; have t2 : x.pe = r2 := by rw [a2]; (try omega)
   rw [t2] at g2; obtain ⟨r4, hr4⟩ : ∃ r : Int, r = r3 + (cntI x.p : Nat) := ⟨_, rfl⟩
   have t3 : MkI r3 x.p := by
    have e : r0 + 1 + 1 + 1 = r3 := by omega
    rw [← e]; exact a3
   obtain ⟨r5, hr5⟩ : ∃ r : Int, r = r4 + 1 := ⟨_, rfl⟩; have t4 : x.pr = r4 := by rw [a4]; (try omega)
   rw [t4] at g4; obtain ⟨r6, hr6⟩ : ∃ r : Int, r = r5 + (cntI x.c : Nat) := ⟨_, rfl⟩
   have t5 : MkI r5 x.c := by
    have e : r0 + 1 + 1 + 1 + ((cntI x.p : Nat) : Int) + 1 = r5 := by omega
    rw [← e]; exact a5
   obtain ⟨r7, hr7⟩ : ∃ r : Int, r = r6 + 1 := ⟨_, rfl⟩; have t6 : x.bw = r6 := by rw [a6]; (try omega)
   rw [t6] at g6; have b0 : 0 ≤ r0 ∧ r0 ≤ 40000000 := by omega
   have b1 : 0 ≤ r1 ∧ r1 ≤ 40000000 := by omega
   have b2 : 0 ≤ r2 ∧ r2 ≤ 40000000 := by omega
   have b3 : 0 ≤ r3 ∧ r3 ≤ 40000000 := by omega
   have b4 : 0 ≤ r4 ∧ r4 ≤ 40000000 := by omega
   have b5 : 0 ≤ r5 ∧ r5 ≤ 40000000 := by omega
   have b6 : 0 ≤ r6 ∧ r6 ≤ 40000000 := by omega
   have b7 : 0 ≤ r7 ∧ r7 ≤ 40000000 := by omega
   have ng0 : ¬ r0 < 0 := by omega
   have ng1 : ¬ r1 < 0 := by omega
   have ng2 : ¬ r2 < 0 := by omega
   have ng3 : ¬ r3 < 0 := by omega
   have ng4 : ¬ r4 < 0 := by omega
   have ng5 : ¬ r5 < 0 := by omega
   have ng6 : ¬ r6 < 0 := by omega
   have ng7 : ¬ r7 < 0 := by omega
   have w0 : IntKind.i64.wrap (r0 + 1) = r1 := by rw [hr1]; exact wrap64_in _ (by omega) (by omega)
   have e0 : (r0 != r0) = false := by simp
   have w1 : IntKind.i64.wrap (r1 + 1) = r2 := by rw [hr2]; exact wrap64_in _ (by omega) (by omega)
   have e1 : (r1 != r1) = false := by simp
   have w2 : IntKind.i64.wrap (r2 + 1) = r3 := by rw [hr3]; exact wrap64_in _ (by omega) (by omega)
   have e2 : (r2 != r2) = false := by simp
   have w4 : IntKind.i64.wrap (r4 + 1) = r5 := by rw [hr5]; exact wrap64_in _ (by omega) (by omega)
   have e4 : (r4 != r4) = false := by simp
   have w6 : IntKind.i64.wrap (r6 + 1) = r7 := by rw [hr7]; exact wrap64_in _ (by omega) (by omega)
   have e6 : (r6 != r6) = false := by simp
   have Q1 := Lib.hid hr1; have Q2 := Lib.hid hr2; have Q3 := Lib.hid hr3; have Q4 := Lib.hid hr4; have Q5 := Lib.hid hr5; have Q6 := Lib.hid hr6; have Q7 := Lib.hid hr7; clear hr1 hr2 hr3 hr4 hr5 hr6 hr7 hbd a0 a1 a2 a3 a4 a5 a6 t0 t1 t2 t4 t6; go_wp2_with fail; refine (hdIr_any _ x.p r3 _ o0 t3 (by omega) (by have := Q4.out; omega)).mono ?_; rintro e v3 ⟨rfl, hb⟩; rw [← Q4.out]; replace hB := below_step hB hb; replace g4 := cell_keep hb (World.block_lt_of_cell? _ _ g4) g4; replace g5 := cell_keep hb (World.block_lt_of_cell? _ _ g5) g5; replace g6 := cell_keep hb (World.block_lt_of_cell? _ _ g6) g6; replace o1 := o1.keep hb; clear hb; go_wp2_with fail; refine (hdIr_any _ x.c r5 _ o1 t5 (by omega) (by have := Q6.out; omega)).mono ?_; rintro e v5 ⟨rfl, hb⟩; rw [← Q6.out]; replace hB := below_step hB hb; replace g6 := cell_keep hb (World.block_lt_of_cell? _ _ g6) g6; clear hb; go_wp2
   go_roundw
   case rel => exact ⟨j + 1, by omega, by go_num, by rw [← HEND.out]; unfold cntQ; have := Q1.out; have := Q2.out; have := Q3.out; have := Q4.out; have := Q5.out; have := Q6.out; have := Q7.out; congr 1; omega, hB⟩
   case measure => simp [intOf]; omega
  ·have hkn : j = n := by omega
   subst hkn; have HT : Hid (L.take j = L) := Lib.hid (List.take_of_length_le (by rw [HN.out]; exact Nat.le_refl _)); clear hc; go_wp2
   go_ret
   exact ⟨by first | rfl | (rw [HT.out]; rfl), hB⟩
theorem rdQ_of {w : World} {v : Value} {L : List Ent} (h : RdE w v L) : RdQS w v L := by
 refine ⟨h.1, ?_⟩
 rcases h.2 with q | ⟨b, o, c, hv, hp, hc⟩
 ·exact .inl q
 ·refine .inr ⟨b, o, c, hv, hp, fun i hi => ?_⟩
  obtain ⟨pv, cv, h1, h2, h3⟩ := hc i hi
  exact ⟨pv, cv, ⟨h1, h2⟩, h3⟩
theorem rdE_of {w : World} {v : Value} {L : List Ent} (h : RdQS w v L) : RdE w v L := by
 refine ⟨h.1, ?_⟩
 rcases h.2 with q | ⟨b, o, c, hv, hp, hc⟩
 ·exact .inl q
 ·refine .inr ⟨b, o, c, hv, hp, fun i hi => ?_⟩
  obtain ⟨pv, cv, ⟨h1, h2⟩, h3⟩ := hc i hi
  exact ⟨pv, cv, h1, h2, h3⟩
end Go.Proofs.YtkodnipmogdgkaaGreat
namespace Go.Proofs.YtkodnipmogdgkaaGreat
open Go.ChangeShapes Go.WideShapes Go.ChangeAt Go.RowKit Go.BigFrame Go.Joins
set_option linter.unusedVariables false
set_option maxRecDepth 100000
set_option linter.unusedSimpArgs false
set_option maxRecDepth 100000

/-- the blocks from a to b -/
def Rg (a b : Nat) : Nat → Prop := fun i => a ≤ i ∧ i < b
theorem AgrS.refl (S : Nat → Prop) (w : World) : AgrS S w w := ⟨Nat.le_refl _, fun _ _ _ => rfl⟩
theorem AgrS.trans {S : Nat → Prop} {a b c : World} (h : AgrS S a b) (k : AgrS S b c) : AgrS S a c := ⟨Nat.le_trans h.1 k.1, fun i hs hi => (k.2 i hs (Nat.lt_of_lt_of_le hi h.1)).trans (h.2 i hs hi)⟩
theorem dj_apart {u v : Value} (h : Apart u v) : Dj (fun b => u.ownBlock = some b) (fun b => v.ownBlock = some b) := fun i a b => by
 rcases h.1 with q | q
 ·rw [q] at a; cases a
 ·exact q (a.trans b.symm)
theorem toM_o (gv cv pv mv : Value) (x : Mg) (w : World) (h : RdM w gv cv pv mv x) (hw : wtM x ≤ 1048576) :
  Calls Tryz.prog 177 #[.agg #[.int .i64 x.kn, .int .i64 x.sa, .int .i64 x.ho, .int .i64 x.ix, gv, cv, pv, .int .i64 x.pr, mv, .int .i64 x.bw, .int .i64 x.er]] w fun e w' => ∃ gv cv pv mv, e = .returned (.agg #[.int .i64 x.kn, .int .i64 x.sa, .int .i64 x.ho, .int .i64 x.ix, gv, cv, pv, .int .i64 x.pr, mv, .int .i64 x.bw, .int .i64 x.er]) ∧ OwM w' (Rg w.heap.size w'.heap.size) gv cv pv mv x ∧ Below w.heap.size w w' := by
 unfold wtM at hw; refine (toM_any gv cv pv mv x.gs x.cs x.ps x.ms x.kn x.sa x.ho x.ix x.pr x.bw x.er w h.1 h.2.1 h.2.2.1 h.2.2.2 (by omega) (by omega) (by omega) (by omega)).mono ?_; rintro e w' ⟨ga, gx, ca, cx, pa, px, ma, mx, rfl, h0, h1, h2, h3, a01, a02, a03, a12, a13, a23, hb⟩; refine ⟨_, _, _, _, rfl, ⟨(fun b => (Value.slice ga x.gs.length gx).ownBlock = some b), (fun b => (Value.slice ca x.cs.length cx).ownBlock = some b), (fun b => (Value.slice pa x.ps.length px).ownBlock = some b), (fun b => (Value.slice ma x.ms.length mx).ownBlock = some b), fun b q => World.ownsRow.lt h0 b q, fun b q => World.ownsRow.lt h1 b q, fun b q => World.ownsRow.lt h2 b q, fun b q => World.ownsRow.lt h3 b q, dj_apart a01, dj_apart a02, dj_apart a03, dj_apart a12, dj_apart a13, dj_apart a23, ?_, ?_, ?_, ?_⟩, hb⟩
 ·exact ⟨h0.mono (Nat.zero_le _), fun k q => q, by omega⟩
 ·exact ⟨h1.mono (Nat.zero_le _), fun k q => q, by omega⟩
 ·exact ⟨h2.mono (Nat.zero_le _), fun k q => q, by omega, (h.2.2.1).1⟩
 ·exact ⟨h3.mono (Nat.zero_le _), fun k q => q, by omega, (h.2.2.2).1⟩
theorem toQ_o (pv cv : Value) (x : Ent) (w : World) (h : RdQ w pv cv x) (hw : wtQ x ≤ 1048576) :
  Calls Tryz.prog 187 #[.agg #[.int .i64 x.a, .int .i64 x.n, .int .i64 x.pe, pv, .int .i64 x.pr, cv, .int .i64 x.bw]] w fun e w' => ∃ pv cv, e = .returned (.agg #[.int .i64 x.a, .int .i64 x.n, .int .i64 x.pe, pv, .int .i64 x.pr, cv, .int .i64 x.bw]) ∧ OwQ w' (Rg w.heap.size w'.heap.size) pv cv x ∧ Below w.heap.size w w' := by
 unfold wtQ at hw; refine (toEnt_any pv cv x.p x.c x.a x.n x.pe x.pr x.bw w h.1 h.2 (by omega) (by omega)).mono ?_; rintro e w' ⟨pa, px, ma, mx, rfl, h0, h1, a01, hb⟩; refine ⟨_, _, rfl, ⟨(fun b => (Value.slice pa x.p.length px).ownBlock = some b), (fun b => (Value.slice ma x.c.length mx).ownBlock = some b), fun b q => World.ownsRow.lt h0 b q, fun b q => World.ownsRow.lt h1 b q, dj_apart a01, ?_, ?_⟩, hb⟩
 ·exact ⟨h0.mono (Nat.zero_le _), fun k q => q, by omega, (h.1).1⟩
 ·exact ⟨h1.mono (Nat.zero_le _), fun k q => q, by omega, (h.2).1⟩
def MadeOM (w : World) (B n j : Nat) (L : List Mg) : Prop := ∃ (xs : List Value) (E : Nat → Nat → Prop), xs.length = n * 11 ∧ Bl w B xs ∧ (∀ i, i < j → (∀ b, E i b → B < b ∧ b < w.heap.size) ∧ ElM xs w (E i) i (L.getD i m0)) ∧ ∀ i i', i < j → i' < j → i ≠ i' → Dj (E i) (E i')
theorem MadeOM.keep {w w' : World} {B n j : Nat} {L : List Mg} (h : MadeOM w B n j L) (hb : Below w.heap.size w w') : MadeOM w' B n j L := by
 obtain ⟨xs, E, hl, hB, hx, hd⟩ := h; refine ⟨xs, E, hl, hB.keep hb, fun i hi => ?_, hd⟩; obtain ⟨h1, gv, cv, pv, mv, h2, h3⟩ := hx i hi
 exact ⟨fun b q => ⟨(h1 b q).1, Nat.lt_of_lt_of_le (h1 b q).2 hb.size⟩, gv, cv, pv, mv, h2.agr (.of_below hb), h3⟩
theorem MadeOM.cell {w : World} {B n k : Nat} {L : List Mg} (h : MadeOM w B n k L) (j : Nat) (hj : j < n * 11) : ∃ x, w.cell? ⟨B, j, none⟩ = some x ∧ w.frozen? ⟨B, j, none⟩ = false := by
 obtain ⟨xs, E, hl, hB, hx, -⟩ := h
 exact ⟨_, hB.c j (List.getElem?_eq_getElem (by omega)), hB.f j (List.getElem?_eq_getElem (by omega))⟩
/-- element j has been copied in the world from w0 on -/
theorem MadeOM.step {w0 w : World} {B n j : Nat} {L : List Mg} (h0 : MadeOM w0 B n j L) (hb : Below w0.heap.size w0 w) (hB0 : B < w0.heap.size) (hk : j < n) {gv cv pv mv : Value} {x : Mg} (hE : L.getD j m0 = x) (h1 : OwM w (Rg w0.heap.size w.heap.size) gv cv pv mv x) :
  MadeOM (((((((((((w.setCell ⟨B, j * 11, none⟩ (.int .i64 x.kn)).setCell ⟨B, j * 11 + 1, none⟩ (.int .i64 x.sa)).setCell ⟨B, j * 11 + 2, none⟩ (.int .i64 x.ho)).setCell ⟨B, j * 11 + 3, none⟩ (.int .i64 x.ix)).setCell ⟨B, j * 11 + 4, none⟩ (gv)).setCell ⟨B, j * 11 + 5, none⟩ (cv)).setCell ⟨B, j * 11 + 6, none⟩ (pv)).setCell ⟨B, j * 11 + 7, none⟩ (.int .i64 x.pr)).setCell ⟨B, j * 11 + 8, none⟩ (mv)).setCell ⟨B, j * 11 + 9, none⟩ (.int .i64 x.bw)).setCell ⟨B, j * 11 + 10, none⟩ (.int .i64 x.er)) B n (j + 1) L := by
 obtain ⟨xs, E, hl, hB, hx, hd⟩ := h0; replace hB := hB.keep hb; have hsz : (((((((((((w.setCell ⟨B, j * 11, none⟩ (.int .i64 x.kn)).setCell ⟨B, j * 11 + 1, none⟩ (.int .i64 x.sa)).setCell ⟨B, j * 11 + 2, none⟩ (.int .i64 x.ho)).setCell ⟨B, j * 11 + 3, none⟩ (.int .i64 x.ix)).setCell ⟨B, j * 11 + 4, none⟩ (gv)).setCell ⟨B, j * 11 + 5, none⟩ (cv)).setCell ⟨B, j * 11 + 6, none⟩ (pv)).setCell ⟨B, j * 11 + 7, none⟩ (.int .i64 x.pr)).setCell ⟨B, j * 11 + 8, none⟩ (mv)).setCell ⟨B, j * 11 + 9, none⟩ (.int .i64 x.bw)).setCell ⟨B, j * 11 + 10, none⟩ (.int .i64 x.er)).heap.size = w.heap.size := by simp
 refine ⟨(((((((((((xs.set (j * 11) (.int .i64 x.kn)).set (j * 11 + 1) (.int .i64 x.sa)).set (j * 11 + 2) (.int .i64 x.ho)).set (j * 11 + 3) (.int .i64 x.ix)).set (j * 11 + 4) (gv)).set (j * 11 + 5) (cv)).set (j * 11 + 6) (pv)).set (j * 11 + 7) (.int .i64 x.pr)).set (j * 11 + 8) (mv)).set (j * 11 + 9) (.int .i64 x.bw)).set (j * 11 + 10) (.int .i64 x.er)), fun i => if i = j then Rg w0.heap.size w.heap.size else E i, by simpa using hl, (((((((((((hB.set (j * 11) (.int .i64 x.kn)).set (j * 11 + 1) (.int .i64 x.sa)).set (j * 11 + 2) (.int .i64 x.ho)).set (j * 11 + 3) (.int .i64 x.ix)).set (j * 11 + 4) (gv)).set (j * 11 + 5) (cv)).set (j * 11 + 6) (pv)).set (j * 11 + 7) (.int .i64 x.pr)).set (j * 11 + 8) (mv)).set (j * 11 + 9) (.int .i64 x.bw)).set (j * 11 + 10) (.int .i64 x.er)), fun i hi => ?_, fun i i' hi hi' hne => ?_⟩
 ·by_cases e : i = j
  ·have e' := e.symm
   subst e'
   (try dsimp only)
   rw [if_pos rfl, hE]; have hn : ¬ Rg w0.heap.size w.heap.size B := fun q => by have := q.1; omega
   refine ⟨fun b q => ⟨by have := q.1; omega, by rw [hsz]; exact q.2⟩, gv, cv, pv, mv, h1.agr ((((((((((((AgrS.refl _ _).trans (agr_setS _ hn)).trans (agr_setS _ hn)).trans (agr_setS _ hn)).trans (agr_setS _ hn)).trans (agr_setS _ hn)).trans (agr_setS _ hn)).trans (agr_setS _ hn)).trans (agr_setS _ hn)).trans (agr_setS _ hn)).trans (agr_setS _ hn)).trans (agr_setS _ hn)), ?_, ?_, ?_, ?_, ?_, ?_, ?_, ?_, ?_, ?_, ?_⟩
   all_goals simp only [List.getElem?_set, List.length_set]
   all_goals simp (disch := omega) [hl]
   all_goals omega
  ·(try dsimp only)
   rw [if_neg e]; obtain ⟨g0, v0, v1, v2, v3, g1, c0, c1, c2, c3, c4, c5, c6, c7, c8, c9, c10⟩ := hx i (by omega); have hn : ¬ E i B := fun q => by have := (g0 B q).1; omega
   refine ⟨fun b q => ⟨(g0 b q).1, by rw [hsz]; exact Nat.lt_of_lt_of_le (g0 b q).2 hb.size⟩, v0, v1, v2, v3, (g1.agr (.of_below hb)).agr ((((((((((((AgrS.refl _ _).trans (agr_setS _ hn)).trans (agr_setS _ hn)).trans (agr_setS _ hn)).trans (agr_setS _ hn)).trans (agr_setS _ hn)).trans (agr_setS _ hn)).trans (agr_setS _ hn)).trans (agr_setS _ hn)).trans (agr_setS _ hn)).trans (agr_setS _ hn)).trans (agr_setS _ hn)), ?_, ?_, ?_, ?_, ?_, ?_, ?_, ?_, ?_, ?_, ?_⟩
   all_goals (repeat rw [List.getElem?_set_ne (by omega)])
   all_goals assumption
 ·intro b q1 q2
  (try dsimp only at q1 q2)
  by_cases e : i = j
  ·rw [if_pos e] at q1
   rw [if_neg (fun e' => hne (e.trans e'.symm))] at q2; have := ((hx i' (by omega)).1 b q2).2; have := q1.1
   omega
  ·rw [if_neg e] at q1
   by_cases e' : i' = j
   ·rw [if_pos e'] at q2
    have := ((hx i (by omega)).1 b q1).2; have := q2.1
    omega
   ·rw [if_neg e'] at q2
    exact hd i i' (by omega) (by omega) hne b q1 q2
theorem MadeOM.own {w : World} {B n a : Nat} {L : List Mg} (h : MadeOM w B n n L) (hn : n = L.length) (ha : a ≤ B) (hl : L.length ≤ 1048576) : OwMS w (Rg a w.heap.size) (.slice (some ⟨B, 0, none⟩) n n) L := by
 obtain ⟨xs, E, hxl, hB, hx, hd⟩ := h; subst hn; refine ⟨hl, .inr ⟨B, L.length, xs, E, rfl, ⟨ha, hB.lt⟩, hB, hxl, fun i hi => ?_, hd⟩⟩; obtain ⟨g0, g1⟩ := hx i hi
 exact ⟨fun b q => ⟨by have := (g0 b q).1; omega, (g0 b q).2⟩, fun q => by have := (g0 B q).1; omega, g1⟩
theorem infoOM : (Tryz.prog.info? 157).map (fun i => (i.zero, i.size, i.bytes)) = some (some (.agg #[.int .i64 0, .int .i64 0, .int .i64 0, .int .i64 0, .slice none 0 0, .slice none 0 0, .slice none 0 0, .int .i64 0, .slice none 0 0, .int .i64 0, .int .i64 0]), 11, 152) := by kernel_rfl
theorem makeO_M (t : TypeId) (ht : Tryz.prog.underlying t = some (.slice 157)) (n : Nat) (hn : n ≤ 1048576) (w : World) :
  (Instr.makeSlice t (.int .i64 (n : Int)) (.int .i64 (n : Int))).run Tryz.prog w = .ok (.slice (some ⟨w.heap.size, 0, none⟩) n n) (w.alloc (.cells (madeCells #[Value.int .i64 0, Value.int .i64 0, Value.int .i64 0, Value.int .i64 0, Value.slice none 0 0, Value.slice none 0 0, Value.slice none 0 0, Value.int .i64 0, Value.slice none 0 0, Value.int .i64 0, Value.int .i64 0] (n * 11)) 157)) := by
 obtain ⟨i, hi, hzz⟩ := Option.map_eq_some_iff.1 infoOM; simp only [Prod.mk.injEq] at hzz; obtain ⟨hz, hs, hb⟩ := hzz; have hr := run_make (P := Tryz.prog) w t 157 i _ ht hi hz .i64 .i64 n n (by omega) (Int.le_refl _) (by rw [hb]; omega) (by omega)
 simpa only [Int.toNat_natCast, hs, Value.cells] using hr
theorem madeOM_start (w : World) (n : Nat) (L : List Mg) : MadeOM (w.alloc (.cells (madeCells #[Value.int .i64 0, Value.int .i64 0, Value.int .i64 0, Value.int .i64 0, Value.slice none 0 0, Value.slice none 0 0, Value.slice none 0 0, Value.int .i64 0, Value.slice none 0 0, Value.int .i64 0, Value.int .i64 0] (n * 11)) 157)) w.heap.size n 0 L := by
 refine ⟨(madeCells #[Value.int .i64 0, Value.int .i64 0, Value.int .i64 0, Value.int .i64 0, Value.slice none 0 0, Value.slice none 0 0, Value.slice none 0 0, Value.int .i64 0, Value.slice none 0 0, Value.int .i64 0, Value.int .i64 0] (n * 11)).toList, fun _ _ => False, by simp [size_madeCells], ?_, fun i hi => absurd hi (Nat.not_lt_zero _), fun i i' hi => absurd hi (Nat.not_lt_zero _)⟩; have := Bl.new w (madeCells #[Value.int .i64 0, Value.int .i64 0, Value.int .i64 0, Value.int .i64 0, Value.slice none 0 0, Value.slice none 0 0, Value.slice none 0 0, Value.int .i64 0, Value.slice none 0 0, Value.int .i64 0, Value.int .i64 0] (n * 11)).toList 157 w.heap.size rfl
 simpa using this
set_option maxHeartbeats 2000000 in
theorem toMS_o (v : Value) (L : List Mg) (w : World) (h : RdMS w v L) (hn : L.length + wtMS L ≤ 1048576) :
  Calls Tryz.prog 129 #[v] w fun e w' => ∃ u, e = .returned u ∧ OwMS w' (Rg w.heap.size w'.heap.size) u L ∧ Below w.heap.size w w' := by
 have hmk := fun W => makeO_M 68 Tryz.underlying68 L.length (by omega) W
 obtain ⟨a, c, rfl, hc⟩ := h.el; obtain ⟨n, hn'⟩ : ∃ n, n = L.length := ⟨_, rfl⟩; rw [← hn'] at hc hn hmk ⊢; have hnn : n ≤ 1048576 := by omega
 have HN := Lib.hid hn'; have HW := Lib.hid hn; clear hn' h hn; obtain ⟨B, hBB⟩ : ∃ B, B = w.heap.size := ⟨_, rfl⟩; have hst := madeOM_start w n L; rw [← hBB] at hst; have HS := Lib.hid hst; have HBB := Lib.hid hBB; have hwB : w.heap.size ≤ B := by omega
 clear hst
 go_enter Tryz.func129, Tryz.ntmps129
 go_wp2; rw [← hBB]; clear hmk hBB
 go_loopw [4] (fun i wr => ∃ j : Nat, j ≤ n ∧ i = .int .i64 j ∧ MadeOM wr B n j L ∧ Below w.heap.size w wr) (fun i _ => n - (intOf i).toNat)
 case atStart => exact ⟨0, Nat.zero_le _, rfl, HS.out, (Below.refl _ _).alloc (Nat.le_refl _) _⟩
 case round =>
  obtain ⟨j, hj, rfl, hM, hB⟩ := hrel
  by_cases hlt : j < n
  ·have hltI : (j : Int) < (n : Int) := by omega
   obtain ⟨b, o, rfl, hE⟩ := hc j hlt; obtain ⟨x, hx⟩ : ∃ x, L.getD j m0 = x := ⟨_, rfl⟩; rw [hx] at hE; obtain ⟨gv, cv, pv, mv, hr, k0, k1, k2, k3, k4, k5, k6, k7, k8, k9, k10⟩ := hE.keep hB; have HX := Lib.hid hx; have HCC := Lib.hid hc; clear hx hc hE
   have hwx : wtM x ≤ 1048576 := by
    have h1 := wtM_at (L := L) (j := j) (by rw [← HN.out]; exact hlt); rw [HX.out] at h1; have := HW.out
    omega
   have hBW : B < wr.heap.size := by
    obtain ⟨xs, E, hl, hBl, -⟩ := hM
    exact hBl.lt
   have HMM := Lib.hid hM; go_wp2_with fail; refine (toM_o gv cv pv mv x _ hr hwx).mono ?_; clear hr hwx k0 k1 k2 k3 k4 k5 k6 k7 k8 k9 k10; rintro e w2 ⟨gv, cv, pv, mv, rfl, h1, hb⟩; have hM2 := hM.keep hb; have hB2 := below_step hB hb; clear hM hB; obtain ⟨gva, gvx, rfl⟩ := (h1.rd.1).len; obtain ⟨cva, cvx, rfl⟩ := (h1.rd.2.1).len; obtain ⟨pva, pvx, rfl⟩ := (h1.rd.2.2.1).len; obtain ⟨mva, mvx, rfl⟩ := (h1.rd.2.2.2).len; obtain ⟨p0, g0, f0⟩ := hM2.cell (j * 11) (by omega); obtain ⟨p1, g1, f1⟩ := hM2.cell (j * 11 + 1) (by omega); obtain ⟨p2, g2, f2⟩ := hM2.cell (j * 11 + 2) (by omega); obtain ⟨p3, g3, f3⟩ := hM2.cell (j * 11 + 3) (by omega); obtain ⟨p4, g4, f4⟩ := hM2.cell (j * 11 + 4) (by omega); obtain ⟨p5, g5, f5⟩ := hM2.cell (j * 11 + 5) (by omega); obtain ⟨p6, g6, f6⟩ := hM2.cell (j * 11 + 6) (by omega); obtain ⟨p7, g7, f7⟩ := hM2.cell (j * 11 + 7) (by omega); obtain ⟨p8, g8, f8⟩ := hM2.cell (j * 11 + 8) (by omega); obtain ⟨p9, g9, f9⟩ := hM2.cell (j * 11 + 9) (by omega); obtain ⟨p10, g10, f10⟩ := hM2.cell (j * 11 + 10) (by omega); have HM := Lib.hid (HMM.out.step hb hBW hlt HX.out h1); have hB3 := (((((((((((hB2.setCell (p := ⟨B, j * 11, none⟩) hwB (.int .i64 x.kn)).setCell (p := ⟨B, j * 11 + 1, none⟩) hwB (.int .i64 x.sa)).setCell (p := ⟨B, j * 11 + 2, none⟩) hwB (.int .i64 x.ho)).setCell (p := ⟨B, j * 11 + 3, none⟩) hwB (.int .i64 x.ix)).setCell (p := ⟨B, j * 11 + 4, none⟩) hwB (.slice gva x.gs.length gvx)).setCell (p := ⟨B, j * 11 + 5, none⟩) hwB (.slice cva x.cs.length cvx)).setCell (p := ⟨B, j * 11 + 6, none⟩) hwB (.slice pva x.ps.length pvx)).setCell (p := ⟨B, j * 11 + 7, none⟩) hwB (.int .i64 x.pr)).setCell (p := ⟨B, j * 11 + 8, none⟩) hwB (.slice mva x.ms.length mvx)).setCell (p := ⟨B, j * 11 + 9, none⟩) hwB (.int .i64 x.bw)).setCell (p := ⟨B, j * 11 + 10, none⟩) hwB (.int .i64 x.er)); clear hM2 hB2 h1 hb; go_wp2
   go_roundw
   case rel => exact ⟨j + 1, by omega, by go_num, HM.out, hB3⟩
   case measure => simp [intOf]; omega
  ·have hkn : j = n := by omega
   subst hkn; clear hc; have HF := Lib.hid (hM.own (a := w.heap.size) HN.out hwB (by rw [← HN.out]; exact hnn)); go_wp2
   go_ret
   exact ⟨.slice (some ⟨B, 0, none⟩) j j, rfl, HF.out, hB⟩
def MadeOQ (w : World) (B n j : Nat) (L : List Ent) : Prop := ∃ (xs : List Value) (E : Nat → Nat → Prop), xs.length = n * 7 ∧ Bl w B xs ∧ (∀ i, i < j → (∀ b, E i b → B < b ∧ b < w.heap.size) ∧ ElQ xs w (E i) i (L.getD i e0)) ∧ ∀ i i', i < j → i' < j → i ≠ i' → Dj (E i) (E i')
theorem MadeOQ.keep {w w' : World} {B n j : Nat} {L : List Ent} (h : MadeOQ w B n j L) (hb : Below w.heap.size w w') : MadeOQ w' B n j L := by
 obtain ⟨xs, E, hl, hB, hx, hd⟩ := h; refine ⟨xs, E, hl, hB.keep hb, fun i hi => ?_, hd⟩; obtain ⟨h1, pv, cv, h2, h3⟩ := hx i hi
 exact ⟨fun b q => ⟨(h1 b q).1, Nat.lt_of_lt_of_le (h1 b q).2 hb.size⟩, pv, cv, h2.agr (.of_below hb), h3⟩
theorem MadeOQ.cell {w : World} {B n k : Nat} {L : List Ent} (h : MadeOQ w B n k L) (j : Nat) (hj : j < n * 7) : ∃ x, w.cell? ⟨B, j, none⟩ = some x ∧ w.frozen? ⟨B, j, none⟩ = false := by
 obtain ⟨xs, E, hl, hB, hx, -⟩ := h
 exact ⟨_, hB.c j (List.getElem?_eq_getElem (by omega)), hB.f j (List.getElem?_eq_getElem (by omega))⟩
/-- element j has been copied in the world from w0 on -/
theorem MadeOQ.step {w0 w : World} {B n j : Nat} {L : List Ent} (h0 : MadeOQ w0 B n j L) (hb : Below w0.heap.size w0 w) (hB0 : B < w0.heap.size) (hk : j < n) {pv cv : Value} {x : Ent} (hE : L.getD j e0 = x) (h1 : OwQ w (Rg w0.heap.size w.heap.size) pv cv x) :
  MadeOQ (((((((w.setCell ⟨B, j * 7, none⟩ (.int .i64 x.a)).setCell ⟨B, j * 7 + 1, none⟩ (.int .i64 x.n)).setCell ⟨B, j * 7 + 2, none⟩ (.int .i64 x.pe)).setCell ⟨B, j * 7 + 3, none⟩ (pv)).setCell ⟨B, j * 7 + 4, none⟩ (.int .i64 x.pr)).setCell ⟨B, j * 7 + 5, none⟩ (cv)).setCell ⟨B, j * 7 + 6, none⟩ (.int .i64 x.bw)) B n (j + 1) L := by
 obtain ⟨xs, E, hl, hB, hx, hd⟩ := h0; replace hB := hB.keep hb; have hsz : (((((((w.setCell ⟨B, j * 7, none⟩ (.int .i64 x.a)).setCell ⟨B, j * 7 + 1, none⟩ (.int .i64 x.n)).setCell ⟨B, j * 7 + 2, none⟩ (.int .i64 x.pe)).setCell ⟨B, j * 7 + 3, none⟩ (pv)).setCell ⟨B, j * 7 + 4, none⟩ (.int .i64 x.pr)).setCell ⟨B, j * 7 + 5, none⟩ (cv)).setCell ⟨B, j * 7 + 6, none⟩ (.int .i64 x.bw)).heap.size = w.heap.size := by simp
 refine ⟨(((((((xs.set (j * 7) (.int .i64 x.a)).set (j * 7 + 1) (.int .i64 x.n)).set (j * 7 + 2) (.int .i64 x.pe)).set (j * 7 + 3) (pv)).set (j * 7 + 4) (.int .i64 x.pr)).set (j * 7 + 5) (cv)).set (j * 7 + 6) (.int .i64 x.bw)), fun i => if i = j then Rg w0.heap.size w.heap.size else E i, by simpa using hl, (((((((hB.set (j * 7) (.int .i64 x.a)).set (j * 7 + 1) (.int .i64 x.n)).set (j * 7 + 2) (.int .i64 x.pe)).set (j * 7 + 3) (pv)).set (j * 7 + 4) (.int .i64 x.pr)).set (j * 7 + 5) (cv)).set (j * 7 + 6) (.int .i64 x.bw)), fun i hi => ?_, fun i i' hi hi' hne => ?_⟩
 ·by_cases e : i = j
  ·have e' := e.symm
   subst e'
   (try dsimp only)
   rw [if_pos rfl, hE]; have hn : ¬ Rg w0.heap.size w.heap.size B := fun q => by have := q.1; omega
   refine ⟨fun b q => ⟨by have := q.1; omega, by rw [hsz]; exact q.2⟩, pv, cv, h1.agr ((((((((AgrS.refl _ _).trans (agr_setS _ hn)).trans (agr_setS _ hn)).trans (agr_setS _ hn)).trans (agr_setS _ hn)).trans (agr_setS _ hn)).trans (agr_setS _ hn)).trans (agr_setS _ hn)), ?_, ?_, ?_, ?_, ?_, ?_, ?_⟩
   all_goals simp only [List.getElem?_set, List.length_set]
   all_goals simp (disch := omega) [hl]
   all_goals omega
  ·(try dsimp only)
   rw [if_neg e]; obtain ⟨g0, v0, v1, g1, c0, c1, c2, c3, c4, c5, c6⟩ := hx i (by omega); have hn : ¬ E i B := fun q => by have := (g0 B q).1; omega
   refine ⟨fun b q => ⟨(g0 b q).1, by rw [hsz]; exact Nat.lt_of_lt_of_le (g0 b q).2 hb.size⟩, v0, v1, (g1.agr (.of_below hb)).agr ((((((((AgrS.refl _ _).trans (agr_setS _ hn)).trans (agr_setS _ hn)).trans (agr_setS _ hn)).trans (agr_setS _ hn)).trans (agr_setS _ hn)).trans (agr_setS _ hn)).trans (agr_setS _ hn)), ?_, ?_, ?_, ?_, ?_, ?_, ?_⟩
   all_goals (repeat rw [List.getElem?_set_ne (by omega)])
   all_goals assumption
 ·intro b q1 q2
  (try dsimp only at q1 q2)
  by_cases e : i = j
  ·rw [if_pos e] at q1
   rw [if_neg (fun e' => hne (e.trans e'.symm))] at q2; have := ((hx i' (by omega)).1 b q2).2; have := q1.1
   omega
  ·rw [if_neg e] at q1
   by_cases e' : i' = j
   ·rw [if_pos e'] at q2
    have := ((hx i (by omega)).1 b q1).2; have := q2.1
    omega
   ·rw [if_neg e'] at q2
    exact hd i i' (by omega) (by omega) hne b q1 q2
theorem MadeOQ.own {w : World} {B n a : Nat} {L : List Ent} (h : MadeOQ w B n n L) (hn : n = L.length) (ha : a ≤ B) (hl : L.length ≤ 1048576) : OwQS w (Rg a w.heap.size) (.slice (some ⟨B, 0, none⟩) n n) L := by
 obtain ⟨xs, E, hxl, hB, hx, hd⟩ := h; subst hn; refine ⟨hl, .inr ⟨B, L.length, xs, E, rfl, ⟨ha, hB.lt⟩, hB, hxl, fun i hi => ?_, hd⟩⟩; obtain ⟨g0, g1⟩ := hx i hi
 exact ⟨fun b q => ⟨by have := (g0 b q).1; omega, (g0 b q).2⟩, fun q => by have := (g0 B q).1; omega, g1⟩
theorem infoOQ : (Tryz.prog.info? 136).map (fun i => (i.zero, i.size, i.bytes)) = some (some (.agg #[.int .i64 0, .int .i64 0, .int .i64 0, .slice none 0 0, .int .i64 0, .slice none 0 0, .int .i64 0]), 7, 88) := by kernel_rfl
theorem makeO_Q (t : TypeId) (ht : Tryz.prog.underlying t = some (.slice 136)) (n : Nat) (hn : n ≤ 1048576) (w : World) :
  (Instr.makeSlice t (.int .i64 (n : Int)) (.int .i64 (n : Int))).run Tryz.prog w = .ok (.slice (some ⟨w.heap.size, 0, none⟩) n n) (w.alloc (.cells (madeCells #[Value.int .i64 0, Value.int .i64 0, Value.int .i64 0, Value.slice none 0 0, Value.int .i64 0, Value.slice none 0 0, Value.int .i64 0] (n * 7)) 136)) := by
 obtain ⟨i, hi, hzz⟩ := Option.map_eq_some_iff.1 infoOQ; simp only [Prod.mk.injEq] at hzz; obtain ⟨hz, hs, hb⟩ := hzz; have hr := run_make (P := Tryz.prog) w t 136 i _ ht hi hz .i64 .i64 n n (by omega) (Int.le_refl _) (by rw [hb]; omega) (by omega)
 simpa only [Int.toNat_natCast, hs, Value.cells] using hr
theorem madeOQ_start (w : World) (n : Nat) (L : List Ent) : MadeOQ (w.alloc (.cells (madeCells #[Value.int .i64 0, Value.int .i64 0, Value.int .i64 0, Value.slice none 0 0, Value.int .i64 0, Value.slice none 0 0, Value.int .i64 0] (n * 7)) 136)) w.heap.size n 0 L := by
 refine ⟨(madeCells #[Value.int .i64 0, Value.int .i64 0, Value.int .i64 0, Value.slice none 0 0, Value.int .i64 0, Value.slice none 0 0, Value.int .i64 0] (n * 7)).toList, fun _ _ => False, by simp [size_madeCells], ?_, fun i hi => absurd hi (Nat.not_lt_zero _), fun i i' hi => absurd hi (Nat.not_lt_zero _)⟩; have := Bl.new w (madeCells #[Value.int .i64 0, Value.int .i64 0, Value.int .i64 0, Value.slice none 0 0, Value.int .i64 0, Value.slice none 0 0, Value.int .i64 0] (n * 7)).toList 136 w.heap.size rfl
 simpa using this
set_option maxHeartbeats 2000000 in
theorem toQS_o (v : Value) (L : List Ent) (w : World) (h : RdQS w v L) (hn : L.length + wtQS L ≤ 1048576) :
  Calls Tryz.prog 146 #[v] w fun e w' => ∃ u, e = .returned u ∧ OwQS w' (Rg w.heap.size w'.heap.size) u L ∧ Below w.heap.size w w' := by
 have hmk := fun W => makeO_Q 54 Tryz.underlying54 L.length (by omega) W
 obtain ⟨a, c, rfl, hc⟩ := h.el; obtain ⟨n, hn'⟩ : ∃ n, n = L.length := ⟨_, rfl⟩; rw [← hn'] at hc hn hmk ⊢; have hnn : n ≤ 1048576 := by omega
 have HN := Lib.hid hn'; have HW := Lib.hid hn; clear hn' h hn; obtain ⟨B, hBB⟩ : ∃ B, B = w.heap.size := ⟨_, rfl⟩; have hst := madeOQ_start w n L; rw [← hBB] at hst; have HS := Lib.hid hst; have HBB := Lib.hid hBB; have hwB : w.heap.size ≤ B := by omega
 clear hst
 go_enter Tryz.func146, Tryz.ntmps146
 go_wp2; rw [← hBB]; clear hmk hBB
 go_loopw [4] (fun i wr => ∃ j : Nat, j ≤ n ∧ i = .int .i64 j ∧ MadeOQ wr B n j L ∧ Below w.heap.size w wr) (fun i _ => n - (intOf i).toNat)
 case atStart => exact ⟨0, Nat.zero_le _, rfl, HS.out, (Below.refl _ _).alloc (Nat.le_refl _) _⟩
 case round =>
  obtain ⟨j, hj, rfl, hM, hB⟩ := hrel
  by_cases hlt : j < n
  ·have hltI : (j : Int) < (n : Int) := by omega
   obtain ⟨b, o, rfl, hE⟩ := hc j hlt; obtain ⟨x, hx⟩ : ∃ x, L.getD j e0 = x := ⟨_, rfl⟩; rw [hx] at hE; obtain ⟨pv, cv, hr, k0, k1, k2, k3, k4, k5, k6⟩ := hE.keep hB; have HX := Lib.hid hx; have HCC := Lib.hid hc; clear hx hc hE
   have hwx : wtQ x ≤ 1048576 := by
    have h1 := wtQ_at (L := L) (j := j) (by rw [← HN.out]; exact hlt); rw [HX.out] at h1; have := HW.out
    omega
   have hBW : B < wr.heap.size := by
    obtain ⟨xs, E, hl, hBl, -⟩ := hM
    exact hBl.lt
   have HMM := Lib.hid hM; go_wp2_with fail; refine (toQ_o pv cv x _ hr hwx).mono ?_; clear hr hwx k0 k1 k2 k3 k4 k5 k6; rintro e w2 ⟨pv, cv, rfl, h1, hb⟩; have hM2 := hM.keep hb; have hB2 := below_step hB hb; clear hM hB; obtain ⟨pva, pvx, rfl⟩ := (h1.rd.1).len; obtain ⟨cva, cvx, rfl⟩ := (h1.rd.2).len; obtain ⟨p0, g0, f0⟩ := hM2.cell (j * 7) (by omega); obtain ⟨p1, g1, f1⟩ := hM2.cell (j * 7 + 1) (by omega); obtain ⟨p2, g2, f2⟩ := hM2.cell (j * 7 + 2) (by omega); obtain ⟨p3, g3, f3⟩ := hM2.cell (j * 7 + 3) (by omega); obtain ⟨p4, g4, f4⟩ := hM2.cell (j * 7 + 4) (by omega); obtain ⟨p5, g5, f5⟩ := hM2.cell (j * 7 + 5) (by omega); obtain ⟨p6, g6, f6⟩ := hM2.cell (j * 7 + 6) (by omega); have HM := Lib.hid (HMM.out.step hb hBW hlt HX.out h1); have hB3 := (((((((hB2.setCell (p := ⟨B, j * 7, none⟩) hwB (.int .i64 x.a)).setCell (p := ⟨B, j * 7 + 1, none⟩) hwB (.int .i64 x.n)).setCell (p := ⟨B, j * 7 + 2, none⟩) hwB (.int .i64 x.pe)).setCell (p := ⟨B, j * 7 + 3, none⟩) hwB (.slice pva x.p.length pvx)).setCell (p := ⟨B, j * 7 + 4, none⟩) hwB (.int .i64 x.pr)).setCell (p := ⟨B, j * 7 + 5, none⟩) hwB (.slice cva x.c.length cvx)).setCell (p := ⟨B, j * 7 + 6, none⟩) hwB (.int .i64 x.bw)); clear hM2 hB2 h1 hb; go_wp2
   go_roundw
   case rel => exact ⟨j + 1, by omega, by go_num, HM.out, hB3⟩
   case measure => simp [intOf]; omega
  ·have hkn : j = n := by omega
   subst hkn; clear hc; have HF := Lib.hid (hM.own (a := w.heap.size) HN.out hwB (by rw [← HN.out]; exact hnn)); go_wp2
   go_ret
   exact ⟨.slice (some ⟨B, 0, none⟩) j j, rfl, HF.out, hB⟩
end Go.Proofs.YtkodnipmogdgkaaGreat
