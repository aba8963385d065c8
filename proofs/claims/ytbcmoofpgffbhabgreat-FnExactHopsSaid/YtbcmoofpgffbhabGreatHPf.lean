/-
  Valid switches: words on them; contracts of the program's small functions on entries. Conditions: those in each contract.
  Entries that a switch may know, and that it may have sent: contracts of the program's tests on them, one by one and all. Conditions: those in each contract.
  NodeOk of the program and of the model. Conditions: those in each contract.
  Ranks, of the program and of the model. Conditions: those in each contract.
  Better and Equal, of the program and of the model. Conditions: those in each contract.
  Lists compared, of the library and of the model. Conditions: those in each contract.
-/
import Derived.Test.YtbcmoofpgffbhabGreatHPc
import Derived.Test.YtbcmoofpgffbhabGreatHPe
import Derived.Test.YtbcmoofpgffbhabGreatHPb
namespace Go.Proofs.YtbcmoofpgffbhabGreat
open Go.ChangeShapes Go.WideShapes Go.ChangeAt Go.RowKit Go.BigFrame Go.Joins
set_option linter.unusedVariables false
set_option maxRecDepth 100000
set_option maxRecDepth 100000
set_option linter.unusedSimpArgs false
set_option maxRecDepth 100000

theorem cmp2_lt8 {a n b m : Int} : cmp2 a n b m < 0 ↔ a < b ∨ (a = b ∧ n < m) := by
 unfold cmp2 cmp1 orv
 split <;> split <;> (try split) <;> (try split) <;> omega
theorem ecmp_lt {a n pe b m qe : Int} : ecmp a n pe b m qe < 0 ↔ a < b ∨ (a = b ∧ n < m) ∨ (a = b ∧ n = m ∧ pe < qe) := by
 unfold ecmp cmp2 cmp1 orv
 split <;> split <;> (try split) <;> (try split) <;> (try split) <;> omega
/-- the order of two prefixes -/
def ltP (x y : Int × Int) : Prop := x.1 < y.1 ∨ (x.1 = y.1 ∧ x.2 < y.2)
theorem ltP_trans {x y z : Int × Int} (h : ltP x y) (k : ltP y z) : ltP x z := by unfold ltP at *; omega
theorem ltP_ne {x y : Int × Int} (h : ltP x y) : x ≠ y := by rintro rfl; unfold ltP at h; omega
/-- what holds of neighbours holds of any two -/
theorem pairwise_of_next {α : Type} (d : α) (R : α → α → Prop) (tr : ∀ x y z, R x y → R y z → R x z) (L : List α) (h : ∀ i, i < L.length - 1 → R (L.getD i d) (L.getD (i + 1) d)) : L.Pairwise R := by
 rw [List.pairwise_iff_getElem]
 have key : ∀ k i, i + k + 1 < L.length → R (L.getD i d) (L.getD (i + k + 1) d) := by
  intro k
  induction k with
  | zero => intro i hi; exact h i (by omega)
  | succ k ih => intro i hi; exact tr _ _ _ (ih i (by omega)) (h (i + k + 1) (by omega))
 intro i j hi hj hij; have := key (j - i - 1) i (by omega); rw [show i + (j - i - 1) + 1 = j by omega] at this
 simpa [List.getD, hi, hj] using this
theorem sub_sorted {l m : List (Int × Int)} (hl : l.Pairwise ltP) (hm : m.Pairwise ltP) (hs : ∀ x ∈ l, x ∈ m) : l.Sublist m := by
 induction m generalizing l with
 | nil =>
  cases l with
  | nil => exact List.Sublist.refl _
  | cons x l => exact absurd (hs x (by simp)) (by simp)
 | cons y m ih =>
  cases l with
  | nil => exact List.nil_sublist _
  | cons x l =>
   rw [List.pairwise_cons] at hl hm
   by_cases hxy : x = y
   ·subst hxy
    refine List.Sublist.cons_cons _ (ih hl.2 hm.2 fun z hz => ?_)
    rcases List.mem_cons.1 (hs z (List.mem_cons_of_mem _ hz)) with q | q
    ·exact absurd q.symm (ltP_ne (hl.1 z hz))
    ·exact q
   ·have hx : x ∈ m := by
     rcases List.mem_cons.1 (hs x (by simp)) with q | q
     ·exact absurd q hxy
     ·exact q
    refine List.Sublist.cons _ (ih (List.pairwise_cons.2 hl) hm.2 fun z hz => ?_)
    rcases List.mem_cons.1 (hs z hz) with q | q
    ·subst q
     exfalso
     rcases List.mem_cons.1 hz with q | q
     ·exact hxy q.symm
     ·exact ltP_ne (ltP_trans (hm.1 x hx) (hl.1 z q)) rfl
    ·exact q
theorem same_sorted {l m : List (Int × Int)} (hl : l.Pairwise ltP) (hm : m.Pairwise ltP) : l = m ↔ (∀ x ∈ l, x ∈ m) ∧ l.length = m.length :=
 ⟨fun h => by subst h; exact ⟨fun _ h => h, rfl⟩, fun ⟨h, k⟩ => (sub_sorted hl hm h).eq_of_length k⟩
/-- the prefixes that the switch has itself -/
def ownL (L : List Ent) : List (Int × Int) := (L.filter fun E => E.pe == -1).map fun E => (E.a, E.n)
def ltE (E F : Ent) : Prop := E.a < F.a ∨ (E.a = F.a ∧ E.n < F.n) ∨ (E.a = F.a ∧ E.n = F.n ∧ E.pe < F.pe)
theorem ltE_trans (x y z : Ent) (h : ltE x y) (k : ltE y z) : ltE x z := by unfold ltE at *; omega
theorem ownL_sorted {L : List Ent} (h : L.Pairwise ltE) : (ownL L).Pairwise ltP := by
 unfold ownL; rw [List.pairwise_map]; refine (h.filter _).imp_of_mem ?_; intro x y hx hy hxy; have h1 := (List.mem_filter.1 hx).2; have h2 := (List.mem_filter.1 hy).2
 simp at h1 h2
 unfold ltE at hxy; unfold ltP
 dsimp only
 omega
/-- two attributes are the same -/
def sameB (p : List Int) (pr : Int) (c : List Int) (bw : Int) (p2 : List Int) (pr2 : Int) (c2 : List Int) (bw2 : Int) : Bool := decide (p = p2 ∧ pr = pr2 ∧ c = c2 ∧ bw = bw2)
def knowB (an bw : Int) (E : Ent) : Bool := if E.pe = -1 then sameB E.p E.pr E.c E.bw [] 100 [] bw else decide (0 < E.p.length) && !decide (an ∈ E.p)
def sendB (E : Ent) : Bool := !(E.pe == -1) && decide (0 < E.p.length)
/-- the model's test of an entry -/
def knowM (an bw : Int) (own : List (Int × Int)) (E : Ent) : Bool := if 0 ≤ E.pe then (!decide (an ∈ E.p) && decide (0 < E.p.length)) else (decide ((E.a, E.n) ∈ own) && sameB E.p E.pr E.c E.bw [] 100 [] bw)
def ownN (L : List Ent) : Nat := (L.filter fun E => !decide (0 ≤ E.pe)).length
theorem know_iff {L : List Ent} {an bw : Int} {own : List (Int × Int)} (hs : L.Pairwise ltE) (ho : own.Pairwise ltP) (hpe : ∀ E ∈ L, -1 ≤ E.pe) :
  (decide (ownL L = own) && L.all (knowB an bw)) = (L.all (knowM an bw own) && decide (ownN L = own.length)) := by
 have e : ownN L = (ownL L).length := by
  unfold ownN ownL; rw [List.length_map]
  congr 1
  apply List.filter_congr
  intro E hE; have := hpe E hE
  by_cases h : E.pe = -1
  ·simp [h]
  ·have : 0 ≤ E.pe := by omega
   simp [h, this]
 rw [e, Bool.eq_iff_iff]; simp only [Bool.and_eq_true, decide_eq_true_eq, List.all_eq_true]; rw [same_sorted (ownL_sorted hs) ho]
 constructor
 ·rintro ⟨⟨h1, h2⟩, h3⟩
  refine ⟨fun E hE => ?_, h2⟩; have q := h3 E hE; unfold knowB at q; unfold knowM
  by_cases h : E.pe = -1
  ·rw [if_pos h] at q
   rw [if_neg (by omega)]; have : (E.a, E.n) ∈ own := h1 _ (List.mem_map.2 ⟨E, List.mem_filter.2 ⟨hE, by simp [h]⟩, rfl⟩)
   simp [this]
   simpa using q
  ·rw [if_neg h] at q
   rw [if_pos (by have := hpe E hE; omega), Bool.and_comm]
   exact q
 ·rintro ⟨h1, h2⟩
  refine ⟨⟨fun x hx => ?_, h2⟩, fun E hE => ?_⟩
  ·obtain ⟨E, hE, rfl⟩ := List.mem_map.1 hx
   obtain ⟨hE, hp⟩ := List.mem_filter.1 hE; have q := h1 E hE
   simp at hp
   unfold knowM at q; rw [if_neg (by omega)] at q
   simp at q
   exact q.1
  ·have q := h1 E hE
   unfold knowM at q; unfold knowB
   by_cases h : E.pe = -1
   ·rw [if_neg (by omega)] at q
    rw [if_pos h]
    simp at q
    simpa using q.2
   ·rw [if_pos (by have := hpe E hE; omega)] at q
    rw [if_neg h, Bool.and_comm]
    exact q
/-- append(s, p): s is the call's own -/
theorem wp_appL {ops : Array Oper} {rest : List Oper} {o : Oper} {a : Act} {Q : Exit → Act → World → Prop} {w : World} (hgd : o.guard = none) (s x : Operand)
  (ho : o.op = .call { callee := .builtin .append, args := #[s, x], argTypes := #[177, 177] })
  (base g c : Nat) (v : Value) (l : List (Int × Int)) (p : Int × Int) (hs : a.eval s = v) (hx : a.eval x = .slice (some ⟨g, 0, none⟩) 1 c) (hown : OwnP w base v l)
  (h0 : w.cell? ⟨g, 0, none⟩ = some (.int .i64 p.1)) (h1 : w.cell? ⟨g, 1, none⟩ = some (.int .i64 p.2)) (hlen : l.length + 1 ≤ 4294967296) (hbase : base ≤ w.heap.size)
  (h : ∀ v' w', OwnP w' base v' (l ++ [p]) → w.grownBy w' v.ownBlock → wpList Tryz.prog ops Q rest (a.put o.dst v') w') : wpList Tryz.prog ops Q (o :: rest) a w := by
 obtain ⟨i0, hi, hz0, hz1, hz2⟩ := info_parts infoP; have hmap : (flat l).map (Value.int .i64) ++ [.int .i64 p.1, .int .i64 p.2] = (flat (l ++ [p])).map (Value.int .i64) := by simp [flat]
 refine wpList_append_own w hgd s x 177 ho base PT i0 (.agg #[.int .i64 0, .int .i64 0]) 2 16 Tryz.underlying177 hi hz0 hz1 hz2 rfl (by decide) v l.length ((flat l).map (Value.int .i64)) hs hown ⟨g, 0, none⟩ 1 c [.int .i64 p.1, .int .i64 p.2] hx (by simp) (fun j y hy => ?_) (by simp [Value.oneCell']) (by unfold maxLen; omega) (by omega) hbase ?_
 ·have hadd : ∀ j, (⟨g, 0, none⟩ : Addr).add j = ⟨g, j, none⟩ := fun j => by unfold Addr.add; split <;> simp_all
  rw [hadd]
  match j, hy with
  | 0, hy => simp at hy; subst hy; exact h0
  | 1, hy => simp at hy; subst hy; exact h1
 ·intro v' w' ho' hg' _
  refine h v' w' ?_ hg'; unfold OwnP; rw [List.length_append, ← hmap]
  exact ho'
/-- a row of entries that the call made; their slices are read where they lie -/
theorem rowE_rd {w : World} {base : Nat} {v : Value} {T : List ET} (h : w.ownsRow base EI 7 v T.length (flatT T)) (hr : ∀ t ∈ T, RdI w t.u t.E.p ∧ RdI w t.v t.E.c) : RdE w v (entT T) := by
 rcases h.2 with ⟨rfl, hn⟩ | ⟨g, cap, cur, rfl, hb, hg, hnc, hcm, hcs, htake⟩
 ·have hT : T = [] := List.eq_nil_of_length_eq_zero hn
  subst hT
  exact RdE.nil w
 ·rw [← entT_len]
  refine ⟨by rw [entT_len]; unfold maxLen at hcm; omega, ?_⟩
  by_cases hz : T.length = 0
  ·exact .inl ⟨some ⟨g, 0, none⟩, cap, by rw [entT_len, hz], List.eq_nil_of_length_eq_zero (by rw [entT_len, hz]), fun h => by cases h⟩
  ·refine .inr ⟨g, 0, cap, rfl, by rw [entT_len]; omega, fun i hi => ?_⟩
   rw [entT_len] at hi; have hm : T[i] ∈ T := List.getElem_mem hi; rw [entT_get hi]
   have hc : ∀ j, j < 7 → w.cell? ⟨g, 0 + i * 7 + j, none⟩ = (cellsT T[i])[j]? := fun j hj => by
    rw [Nat.zero_add, h.cellAt (i * 7 + j) (by omega), flatT_get T i j hi hj]
   exact ⟨T[i].u, T[i].v, (hr _ hm).1, (hr _ hm).2, hc 0 (by omega), hc 1 (by omega), hc 2 (by omega), hc 3 (by omega), hc 4 (by omega), hc 5 (by omega), hc 6 (by omega)⟩
theorem rowE_keep {w w' : World} {base : Nat} {v : Value} {T : List ET} (h : w.ownsRow base EI 7 v T.length (flatT T)) (hb : Below w.heap.size w w') : w'.ownsRow base EI 7 v T.length (flatT T) :=
 World.ownsRow.kept (row := none) h ⟨hb.os, hb.tape, hb.output, hb.size, fun k hk _ => hb.block k hk⟩ (by cases v.ownBlock <;> simp)
theorem rowE_more {w : World} {base : Nat} {v : Value} {T : List ET} {t : ET} (h : w.ownsRow base EI 7 v (T.length + 1) (flatT T ++ cellsT t)) : w.ownsRow base EI 7 v (T ++ [t]).length (flatT (T ++ [t])) := by
 rw [List.length_append, flatT_append, show flatT [t] = cellsT t by simp [flatT]]
 exact h
theorem filt_more {L : List Ent} {k : Nat} {E : Ent} (pe : Int) (hk : k < L.length) (hx : L.getD k e0 = E) : (L.take (k + 1)).filter (fun F => F.pe == pe) = (L.take k).filter (fun F => F.pe == pe) ++ (if E.pe = pe then [E] else []) := by
 have hg : L[k] = E := by simpa [List.getD, hk] using hx
 rw [List.take_add_one, List.getElem?_eq_getElem hk, hg, List.filter_append]
 by_cases h : E.pe = pe
 ·simp [h]
 ·simp [h]
theorem pfx_more {L : List Ent} {k : Nat} {E : Ent} (hk : k < L.length) (hx : L.getD k e0 = E) : pfx (L.take (k + 1)) = pfx (L.take k) ++ [(E.a, E.n)] := by
 have hg : L[k] = E := by simpa [List.getD, hk] using hx
 rw [List.take_add_one, List.getElem?_eq_getElem hk, hg]
 simp [pfx]
set_option maxHeartbeats 1000000 in
theorem ieo_any (v : Value) (L : List Ent) (pe : Int) (w : World) (h : RdE w v L) (hn1 : L.length ≤ 1048576) :
  Calls Tryz.prog 186 #[.agg #[v], .int .i64 pe] w fun e w' => ∃ u, e = .returned u ∧ RdE w' u (L.filter fun F => F.pe == pe) ∧ Below w.heap.size w w' := by
 obtain ⟨a, c, rfl, hc⟩ := h.el; obtain ⟨n, hn⟩ : ∃ n, n = L.length := ⟨_, rfl⟩; rw [← hn] at hc hn1 ⊢; have HN := Lib.hid hn; clear h hn; obtain ⟨bR, B0, z⟩ := one w [.slice a n c] 33; have r0 := bR.c 0 rfl
 go_enter Tryz.func186, Tryz.ntmps186
 go_wp2; obtain ⟨W1, hW⟩ : ∃ W1, W1 = w.alloc (.cells #[.slice a n c] 33) := ⟨_, rfl⟩; rw [← hW] at bR B0 z ⊢; have hRW : w.heap.size < W1.heap.size := by rw [z]; omega
 clear hW z r0
 go_loopw [5, 11] (fun lv q wr => ∃ k : Nat, k ≤ n ∧ q = .int .i64 k ∧ ∃ T : List ET, wr.ownsRow W1.heap.size EI 7 lv T.length (flatT T) ∧ entT T = (L.take k).filter (fun F => F.pe == pe) ∧ (∀ t ∈ T, RdI w t.u t.E.p ∧ RdI w t.v t.E.c) ∧ Over W1 wr) (fun _ q _ => n - (intOf q).toNat)
 case atStart => exact ⟨0, Nat.zero_le _, rfl, [], World.ownsRow_nil _ _ _ _, rfl, (fun t ht => by cases ht), over_refl _⟩
 case round =>
  obtain ⟨k, hk, rfl, T, hok, hTE, hRd, hB⟩ := hrel
  by_cases hlt : k < n
  ·have hltI : (k : Int) < (n : Int) := by omega
   obtain ⟨b, o, rfl, hE⟩ := hc k hlt; obtain ⟨E, hx⟩ : ∃ E, L.getD k e0 = E := ⟨_, rfl⟩; rw [hx] at hE; obtain ⟨pv, cv, hp, hq, g0, g1, g2, g3, g4, g5, g6⟩ := hE; obtain ⟨pa, px, rfl⟩ := hp.len; obtain ⟨qa, qx, rfl⟩ := hq.len; have BB := below_step B0 hB; replace g0 := cell_keep BB (World.block_lt_of_cell? w _ g0) g0; replace g1 := cell_keep BB (World.block_lt_of_cell? w _ g1) g1; replace g2 := cell_keep BB (World.block_lt_of_cell? w _ g2) g2; replace g3 := cell_keep BB (World.block_lt_of_cell? w _ g3) g3; replace g4 := cell_keep BB (World.block_lt_of_cell? w _ g4) g4; replace g5 := cell_keep BB (World.block_lt_of_cell? w _ g5) g5; replace g6 := cell_keep BB (World.block_lt_of_cell? w _ g6) g6; clear BB; have HF := Lib.hid (filt_more pe (by rw [← HN.out]; exact hlt) hx); have HRR : Hid (RdI w (.slice pa E.p.length px) E.p ∧ RdI w (.slice qa E.c.length qx) E.c) := Lib.hid ⟨hp, hq⟩; have HCC := Lib.hid hc; have HRD := Lib.hid hRd
   have HLN : Hid (T.length + 1 ≤ 4294967296) := Lib.hid (by
    rw [← entT_len, hTE]; have := List.length_filter_le (fun F : Ent => F.pe == pe) (L.take k); rw [List.length_take] at this
    omega)
   have HTE := Lib.hid hTE; clear hx hc hp hq hRd hTE; have bP := Bl.new wr [.int .i64 E.a, .int .i64 E.n, .int .i64 E.pe, .slice pa E.p.length px, .int .i64 E.pr, .slice qa E.c.length qx, .int .i64 E.bw] EI wr.heap.size rfl; have A1 : Below wr.heap.size wr (wr.alloc (.cells #[.int .i64 E.a, .int .i64 E.n, .int .i64 E.pe, .slice pa E.p.length px, .int .i64 E.pr, .slice qa E.c.length qx, .int .i64 E.bw] EI)) := (Below.refl _ _).alloc (Nat.le_refl _) _; have p2 := bP.c 2 rfl
   by_cases hpe : E.pe = pe
   ·have hpb : (E.pe == pe) = true := by simp [hpe]
    have p0 := bP.c 0 rfl; have p1 := bP.c 1 rfl; have p3 := bP.c 3 rfl; have p4 := bP.c 4 rfl; have p5 := bP.c 5 rfl; have p6 := bP.c 6 rfl; have HPE := Lib.hid hpe; clear hpe; go_wp2_with (at_builtin; refine Hid.out ?_); refine Lib.hid ?_; clear p0 p1 p2 p3 p4 p5 p6 g0 g1 g2 g3 g4 g5 g6; obtain ⟨V, hV⟩ : ∃ V, V = wr.alloc (.cells #[.int .i64 E.a, .int .i64 E.n, .int .i64 E.pe, .slice pa E.p.length px, .int .i64 E.pr, .slice qa E.c.length qx, .int .i64 E.bw] EI) := ⟨_, rfl⟩; rw [← hV] at bP A1 ⊢; have hVs : W1.heap.size ≤ V.heap.size := (over_step hB A1).size; have hVe : wr.heap.size + 1 = V.heap.size := by rw [hV]; simp
    have hok2 := rowE_keep hok A1; have N2 : Below V.heap.size V (V.alloc (.cells #[.int .i64 E.a, .int .i64 E.n, .int .i64 E.pe, .slice pa E.p.length px, .int .i64 E.pr, .slice qa E.c.length qx, .int .i64 E.bw] EI)) := (Below.refl _ _).alloc (Nat.le_refl _) _; have bQ := Bl.new V [.int .i64 E.a, .int .i64 E.n, .int .i64 E.pe, .slice pa E.p.length px, .int .i64 E.pr, .slice qa E.c.length qx, .int .i64 E.bw] EI _ hVe; refine wp_appE rfl _ _ rfl W1.heap.size (wr.heap.size + 1) 1 _ T.length (flatT T) [.int .i64 E.a, .int .i64 E.n, .int .i64 E.pe, .slice pa E.p.length px, .int .i64 E.pr, .slice qa E.c.length qx, .int .i64 E.bw] rfl rfl (rowE_keep hok2 N2) bQ rfl (by simp [Value.oneCell']) HLN.out (Nat.le_trans hVs N2.size) ?_; intro v3 w3 o3 g3 _; have O3 : Over W1 w3 := below_growT (over_step (over_step hB A1) N2) (rowE_keep hok2 N2) (Nat.le_refl _) g3; clear g3 hV hok2 bQ N2; go_wp2
    go_roundw
    case rel => exact ⟨k + 1, by omega, by go_num, T ++ [⟨E, .slice pa E.p.length px, .slice qa E.c.length qx⟩], rowE_more (t := ⟨E, .slice pa E.p.length px, .slice qa E.c.length qx⟩) o3, by rw [entT_append, HTE.out, HF.out, if_pos HPE.out]; rfl, (fun t ht => by
     rcases List.mem_append.1 ht with q | q
     ·exact HRD.out t q
     ·rw [List.mem_singleton.1 q]; exact HRR.out), O3⟩
    case measure => simp [intOf]; omega
   ·have hpb : (E.pe == pe) = false := by simp [hpe]
    have HPE := Lib.hid hpe; clear hpe; go_wp2_with fail
    go_roundw
    case rel => exact ⟨k + 1, by omega, by go_num, T, rowE_keep hok A1, by rw [HTE.out, HF.out, if_neg HPE.out, List.append_nil], HRD.out, over_step hB A1⟩
    case measure => simp [intOf]; omega
  ·have hkn : k = n := by omega
   subst hkn; have HT : Hid (L.take k = L) := Lib.hid (List.take_of_length_le (by rw [HN.out]; exact Nat.le_refl _)); clear hc; go_wp2
   go_ret
   have BB := below_step B0 hB
   exact ⟨_, rfl, by rw [← HT.out, ← hTE]; exact rowE_rd hok (fun t ht => ⟨(hRd t ht).1.keep BB, (hRd t ht).2.keep BB⟩), BB⟩
set_option maxHeartbeats 1000000 in
theorem ifr_any (v : Value) (L : List Ent) (pe : Int) (w : World) (h : RdE w v L) (hn1 : L.length ≤ 1048576) :
  Calls Tryz.prog 142 #[.agg #[v], .int .i64 pe] w fun e w' => ∃ u, e = .returned u ∧ OwnP w' w.heap.size u (pfx (L.filter fun F => F.pe == pe)) ∧ Below w.heap.size w w' := by
 obtain ⟨a0, c0, rfl⟩ := h.len; obtain ⟨bR, B0, z⟩ := one w [.slice a0 L.length c0] 33; have r0 := bR.c 0 rfl
 go_enter Tryz.func142, Tryz.ntmps142
 go_wp2_with fail; obtain ⟨W0, hW⟩ : ∃ W0, W0 = w.alloc (.cells #[.slice a0 L.length c0] 33) := ⟨_, rfl⟩; rw [← hW] at bR B0 z ⊢; clear hW z r0; refine (ieo_any _ L pe _ (h.keep B0) hn1).mono ?_; rintro e W1 ⟨u, rfl, hM, hb⟩; replace B0 := below_step B0 hb; clear hb bR; have hML : (L.filter fun F => F.pe == pe).length ≤ 1048576 := Nat.le_trans (List.length_filter_le _ _) hn1; obtain ⟨M, hMd⟩ : ∃ M, M = L.filter fun F => F.pe == pe := ⟨_, rfl⟩
 rw [← hMd] at hM hML; have HMD := Lib.hid hMd; clear hMd h; obtain ⟨a, c, rfl, hc⟩ := hM.el; obtain ⟨n, hn⟩ : ∃ n, n = M.length := ⟨_, rfl⟩; rw [← hn] at hc hML ⊢; have HN := Lib.hid hn; have hRW := B0.size; clear hM hn; go_wp2
 go_loopw [5, 12] (fun lv q wr => ∃ k : Nat, k ≤ n ∧ q = .int .i64 k ∧ OwnP wr W1.heap.size lv (pfx (M.take k)) ∧ Over W1 wr) (fun _ q _ => n - (intOf q).toNat)
 case atStart => exact ⟨0, Nat.zero_le _, rfl, World.ownsRow_nil _ _ _ _, over_refl _⟩
 case round =>
  obtain ⟨k, hk, rfl, hok, hB⟩ := hrel
  by_cases hlt : k < n
  ·have hltI : (k : Int) < (n : Int) := by omega
   obtain ⟨b, o, rfl, hE⟩ := hc k hlt; obtain ⟨E, hx⟩ : ∃ E, M.getD k e0 = E := ⟨_, rfl⟩; rw [hx] at hE; obtain ⟨pv, cv, hp, hq, g0, g1, g2, g3, g4, g5, g6⟩ := hE.keep hB; obtain ⟨pa, px, rfl⟩ := hp.len; obtain ⟨qa, qx, rfl⟩ := hq.len; have HF := Lib.hid (pfx_more (by rw [← HN.out]; exact hlt) hx); have HCC := Lib.hid hc
   have HLN : Hid ((pfx (M.take k)).length + 1 ≤ 4294967296) := Lib.hid (by
    rw [pfx_len, List.length_take]
    omega)
   clear hx hc hE hp hq; have bP := Bl.new wr [.int .i64 E.a, .int .i64 E.n, .int .i64 E.pe, .slice pa E.p.length px, .int .i64 E.pr, .slice qa E.c.length qx, .int .i64 E.bw] EI wr.heap.size rfl; have A1 : Below wr.heap.size wr (wr.alloc (.cells #[.int .i64 E.a, .int .i64 E.n, .int .i64 E.pe, .slice pa E.p.length px, .int .i64 E.pr, .slice qa E.c.length qx, .int .i64 E.bw] EI)) := (Below.refl _ _).alloc (Nat.le_refl _) _; have p0 := bP.c 0 rfl; have p1 := bP.c 1 rfl; go_wp2_with (at_builtin; refine Hid.out ?_); refine Lib.hid ?_; clear p0 p1 g0 g1 g2 g3 g4 g5 g6; obtain ⟨V, hV⟩ : ∃ V, V = wr.alloc (.cells #[.int .i64 E.a, .int .i64 E.n, .int .i64 E.pe, .slice pa E.p.length px, .int .i64 E.pr, .slice qa E.c.length qx, .int .i64 E.bw] EI) := ⟨_, rfl⟩; rw [← hV] at bP A1 ⊢; have hVs : W1.heap.size ≤ V.heap.size := (over_step hB A1).size; have hVe : wr.heap.size + 1 = V.heap.size := by rw [hV]; simp
   refine wp_appL rfl _ _ rfl W1.heap.size (wr.heap.size + 1) 1 _ (pfx (M.take k)) (E.a, E.n) rfl rfl ((hok.keep A1).alloc _) ((Bl.new V [.int .i64 E.a, .int .i64 E.n] PT _ hVe).c 0 rfl) ((Bl.new V [.int .i64 E.a, .int .i64 E.n] PT _ hVe).c 1 rfl) HLN.out (Nat.le_trans hVs (by simp)) ?_; intro v3 w3 o3 g3; have O3 := over_grownP (over_alloc (over_step hB A1) (.cells #[.int .i64 E.a, .int .i64 E.n] PT)) ((hok.keep A1).alloc _) (Nat.le_refl _) g3; clear g3 hV; go_wp2
   go_roundw
   case rel => exact ⟨k + 1, by omega, by go_num, by rw [HF.out]; exact o3, O3⟩
   case measure => simp [intOf]; omega
  ·have hkn : k = n := by omega
   subst hkn; have HT : Hid (M.take k = M) := Lib.hid (List.take_of_length_le (by rw [HN.out]; exact Nat.le_refl _)); clear hc; go_wp2
   go_ret
   exact ⟨_, rfl, by rw [← HMD.out]; exact (HT.out ▸ hok).mono hRW, below_step B0 hB⟩
/-- the library's comparison of two lists of prefixes -/
theorem slL_any (v u : Value) (l m : List (Int × Int)) (w : World) (h1 : RdP w v l) (h2 : RdP w u m) :
  Calls Tryz.prog 141 #[v, u] w fun e w' => e = .returned (.bool (decide (l = m))) ∧ Below w.heap.size w w' := by
 by_cases hlen : l.length = m.length
 ·have hm1 := h1.1
  obtain ⟨a, c, rfl, hc⟩ := h1.el; obtain ⟨a', c', rfl, hc'⟩ := h2.el; obtain ⟨n, hn⟩ : ∃ n, n = l.length := ⟨_, rfl⟩; have hn' : n = m.length := hn.trans hlen; rw [← hn'] at hc' ⊢; rw [← hn] at hc hm1 ⊢; have HN := Lib.hid hn; have HN' := Lib.hid hn'; clear hn hn' hlen h1 h2
  go_enter Tryz.func141, Tryz.ntmps141
  go_wp2
  go_loopw [13] (fun i wr => ∃ k : Nat, k ≤ n ∧ i = .int .i64 k ∧ l.take k = m.take k ∧ Below w.heap.size w wr) (fun i _ => n - (intOf i).toNat)
  case atStart => exact ⟨0, Nat.zero_le _, rfl, rfl, Below.refl _ _⟩
  case round =>
   obtain ⟨k, hk, rfl, ht, hB⟩ := hrel; have HT := Lib.hid ht; clear ht
   by_cases hlt : k < n
   ·have hltI : (k : Int) < (n : Int) := by omega
    obtain ⟨b, o, rfl, d0, d1⟩ := hc k hlt; obtain ⟨b', o', rfl, d0', d1'⟩ := hc' k hlt; have e0 := cell_keep hB (World.block_lt_of_cell? w _ d0) d0; have e1 := cell_keep hB (World.block_lt_of_cell? w _ d1) d1; have e2 := cell_keep hB (World.block_lt_of_cell? w _ d0') d0'; have e3 := cell_keep hB (World.block_lt_of_cell? w _ d1') d1'; obtain ⟨⟨x, y⟩, hx⟩ : ∃ q, l.getD k (0, 0) = q := ⟨_, rfl⟩; obtain ⟨⟨x', y'⟩, hx'⟩ : ∃ q, m.getD k (0, 0) = q := ⟨_, rfl⟩; rw [hx] at e0 e1; rw [hx'] at e2 e3; have HX := Lib.hid hx; have HY := Lib.hid hx'; clear hx hx' hc hc' d0 d1 d0' d1'
    by_cases hxy : x = x' ∧ y = y'
    ·obtain ⟨rfl, rfl⟩ := hxy
     go_wp2
     go_region
     go_wp2
     go_roundw
     case rel => exact ⟨k + 1, by omega, by go_num, takeP_succ HT.out (by rw [← HN.out]; exact hlt) (by rw [← HN'.out]; exact hlt) (by rw [HX.out, HY.out]), hB.drew⟩
     case measure => simp [intOf]; omega
    ·have hlm : decide (l = m) = false := by
      simp only [decide_eq_false_iff_not]; rintro rfl; have := HX.out.symm.trans HY.out; cases this
      exact hxy ⟨rfl, rfl⟩
     have HL := Lib.hid hlm; clear hlm
     by_cases hx : x = x'
     ·have hy : ¬ y = y' := fun e => hxy ⟨hx, e⟩
      subst hx; clear hxy; go_wp2
      go_region
      go_wp2
      go_ret
      exact ⟨ret_bool HL.out.symm, hB.drew⟩
     ·clear hxy
      go_wp2
      go_region
      go_wp2
      go_ret
      exact ⟨ret_bool HL.out.symm, hB.drew⟩
   ·have hkn : k = n := by omega
    have hlm : decide (l = m) = true := by
     have h := HT.out; rw [hkn, List.take_of_length_le (by rw [HN.out]; exact Nat.le_refl _), List.take_of_length_le (by rw [HN'.out]; exact Nat.le_refl _)] at h
     simp [h]
    have HL := Lib.hid hlm; clear hlm hkn hc hc'; go_wp2
    go_ret
    exact ⟨ret_bool HL.out.symm, hB⟩
 ·have hd : decide (l = m) = false := by
   simp only [decide_eq_false_iff_not]; rintro rfl
   exact hlen rfl
  rw [hd]; clear hd; obtain ⟨a, c, rfl⟩ := h1.len; obtain ⟨a', c', rfl⟩ := h2.len; have hne : ((l.length : Int) != (m.length : Int)) = true := by simp; omega
  clear h1 h2
  go_enter Tryz.func141, Tryz.ntmps141
  go_wp2
  go_ret
  exact ⟨rfl, Below.refl _ _⟩
end Go.Proofs.YtbcmoofpgffbhabGreat
namespace Go.Proofs.YtbcmoofpgffbhabGreat
open Go.ChangeShapes Go.WideShapes Go.ChangeAt Go.RowKit Go.BigFrame Go.Joins
set_option linter.unusedVariables false
set_option maxRecDepth 100000
set_option linter.unusedSimpArgs false
set_option maxRecDepth 100000

theorem rdI_nil8 (w : World) : RdI w (.slice none 0 0) [] := ⟨by simp, by simp, .inl ⟨none, 0, rfl, rfl, fun _ => rfl⟩⟩
theorem iown8_any (ov rv sv : Value) (N : Nd) (w : World) : Calls Tryz.prog 214 #[.agg #[.int .i64 N.an, ov, .int .i64 N.bw, .bool N.dr, rv, sv]] w fun e w' => e = .returned (.agg #[.slice none 0 0, .int .i64 100, .slice none 0 0, .int .i64 N.bw]) ∧ Below w.heap.size w w' := by
 obtain ⟨bA, bR, B0, z⟩ := two w [.int .i64 N.an, ov, .int .i64 N.bw, .bool N.dr, rv, sv] [.slice none 0 0, .int .i64 100, .slice none 0 0, .int .i64 N.bw] 35 50; have a2 := (Bl.new w [.int .i64 N.an, ov, .int .i64 N.bw, .bool N.dr, rv, sv] 35 w.heap.size rfl).c 2 rfl; have e0 := bR.c 0 rfl; have e1 := bR.c 1 rfl; have e2 := bR.c 2 rfl; have e3 := bR.c 3 rfl; clear z
 go_enter Tryz.func214, Tryz.ntmps214
 go_wp2_with fail
 exact bodyPost_ret (v := .agg #[.slice none 0 0, .int .i64 100, .slice none 0 0, .int .i64 N.bw]) (by simp [results, Tryz.results214, go_sem, e0, e1, e2, e3]) rfl
  ⟨rfl, B0⟩
theorem iph_t {pv cv : Value} {p c : List Int} {pr bw an : Int} {b : Bool} (w : World) (hp : RdI w pv p) (hc : RdI w cv c) (H : Hid (aokB p pr c bw = true ∧ decide (an ∈ p) = b)) :
  Calls Tryz.prog 215 #[.agg #[pv, .int .i64 pr, cv, .int .i64 bw], .int .i64 an] w fun e w' => e = .returned (.bool b) ∧ Below w.heap.size w w' := by
 have h := ipath_any pv cv p c pr bw an w hp hc; rw [H.out.1, Bool.true_and, H.out.2] at h
 exact h
theorem isame8_t {pv mv pv2 mv2 : Value} {ps ms ps2 ms2 : List Int} {pr bw pr2 bw2 : Int} {b : Bool} (w : World) (hp : RdI w pv ps) (hm : RdI w mv ms) (hp2 : RdI w pv2 ps2) (hm2 : RdI w mv2 ms2) (H : Hid (sameB ps pr ms bw ps2 pr2 ms2 bw2 = b)) :
  Calls Tryz.prog 213 #[.agg #[pv, .int .i64 pr, mv, .int .i64 bw], .agg #[pv2, .int .i64 pr2, mv2, .int .i64 bw2]] w fun e w' => e = .returned (.bool b) ∧ Below w.heap.size w w' := H.out ▸ isameA_any pv mv pv2 mv2 ps ms ps2 ms2 pr bw pr2 bw2 w hp hm hp2 hm2
theorem know_own {an bw : Int} {E : Ent} (h : E.pe = -1) : knowB an bw E = sameB E.p E.pr E.c E.bw [] 100 [] bw := by rw [knowB, if_pos h]
theorem know_no {an bw : Int} {E : Ent} (h : ¬ E.pe = -1) (h2 : E.p.length = 0) : knowB an bw E = false := by rw [knowB, if_neg h, h2]; rfl
theorem know_yes {an bw : Int} {E : Ent} (h : ¬ E.pe = -1) (h2 : 0 < E.p.length) : knowB an bw E = !decide (an ∈ E.p) := by rw [knowB, if_neg h]; simp [h2]
set_option maxHeartbeats 1000000 in
theorem iknow_any (ov rv sv : Value) (N : Nd) (E : Ent) (pa : Option Addr) (px : Nat) (qa : Option Addr) (qx : Nat) (w : World) (hp : RdI w (.slice pa E.p.length px) E.p) (hq : RdI w (.slice qa E.c.length qx) E.c) (hA : aokB E.p E.pr E.c E.bw = true) :
  Calls Tryz.prog 144 #[.agg #[.int .i64 N.an, ov, .int .i64 N.bw, .bool N.dr, rv, sv], .agg #[.int .i64 E.a, .int .i64 E.n, .int .i64 E.pe, .slice pa E.p.length px, .int .i64 E.pr, .slice qa E.c.length qx, .int .i64 E.bw]] w fun e w' => e = .returned (.bool (knowB N.an N.bw E)) ∧ Below w.heap.size w w' := by
 obtain ⟨bA, bE, B0, z⟩ := two w [.int .i64 N.an, ov, .int .i64 N.bw, .bool N.dr, rv, sv] [.int .i64 E.a, .int .i64 E.n, .int .i64 E.pe, .slice pa E.p.length px, .int .i64 E.pr, .slice qa E.c.length qx, .int .i64 E.bw] 35 EI; replace hp := hp.keep B0; replace hq := hq.keep B0; clear z; have e2 := bE.c 2 rfl
 by_cases hpe : E.pe = -1
 ·have hpb : (E.pe == -1) = true := by simp [hpe]
  rw [know_own hpe]; obtain ⟨g, hg⟩ : ∃ g, sameB E.p E.pr E.c E.bw [] 100 [] N.bw = g := ⟨_, rfl⟩; rw [hg]; have HG := Lib.hid hg; clear hg hpe hA; obtain ⟨V, hV⟩ : ∃ V, V = (w.alloc (.cells #[.int .i64 N.an, ov, .int .i64 N.bw, .bool N.dr, rv, sv] 35)).alloc (.cells #[.int .i64 E.a, .int .i64 E.n, .int .i64 E.pe, .slice pa E.p.length px, .int .i64 E.pr, .slice qa E.c.length qx, .int .i64 E.bw] EI) := ⟨_, rfl⟩
  go_enter Tryz.func144, Tryz.ntmps144
  go_wp2_with fail; rw [← hV] at bA bE B0 hp hq e2 ⊢; clear hV; refine wp_region_class (C := Over (V)) (by kernel_rfl) (by kernel_rfl) (over_drew _) ?_
  repeat (first | go_big_quiet_skip | (go_big_quiet_want; go_big_quiet_op; go_big_quiet_on) | (go_big_quiet_want; go_big_quiet_op; apply Exists.intro; refine ⟨fun w' hC => ?_, ?_⟩; ((first | (go_at_call 214; refine (iown8_any ov rv sv N _).mono ?_; rintro e w1 ⟨rfl, hb1⟩; exact ⟨rfl, over_step hC hb1⟩) | (go_at_call 213; refine (isame8_t _ (rdI_over hp hC) (rdI_over hq hC) (rdI_nil8 _) (rdI_nil8 _) HG).mono ?_; rintro e w1 ⟨rfl, hb1⟩; exact ⟨rfl, over_step hC hb1⟩))); go_big_quiet_on) | (go_big_quiet_want; apply Exists.intro; refine ⟨fun w' hC => ?_, ?_⟩; (have k0 := over_cell hC bA.lt (bA.c 0 rfl); have k1 := over_cell hC bA.lt (bA.c 1 rfl); have k2 := over_cell hC bA.lt (bA.c 2 rfl); have k3 := over_cell hC bA.lt (bA.c 3 rfl); have k4 := over_cell hC bA.lt (bA.c 4 rfl); have k5 := over_cell hC bA.lt (bA.c 5 rfl); have k6 := over_cell hC bE.lt (bE.c 0 rfl); have k7 := over_cell hC bE.lt (bE.c 1 rfl); have k8 := over_cell hC bE.lt (bE.c 2 rfl); have k9 := over_cell hC bE.lt (bE.c 3 rfl); have k10 := over_cell hC bE.lt (bE.c 4 rfl); have k11 := over_cell hC bE.lt (bE.c 5 rfl); have k12 := over_cell hC bE.lt (bE.c 6 rfl); simp [Oper.quietAt, Oper.quietUpon, go_sem, k0, k1, k2, k3, k4, k5, k6, k7, k8, k9, k10, k11, k12]; first | done | rfl); go_big_quiet_on; simp only [Act.put, List.setIfInBounds_toArray, List.set_cons_zero, List.set_cons_succ]))
  refine wpQuiet_nil ?_; intro wr hC; have k0 := over_cell hC bA.lt (bA.c 0 rfl); have k1 := over_cell hC bA.lt (bA.c 1 rfl); have k2 := over_cell hC bA.lt (bA.c 2 rfl); have k3 := over_cell hC bA.lt (bA.c 3 rfl); have k4 := over_cell hC bA.lt (bA.c 4 rfl); have k5 := over_cell hC bA.lt (bA.c 5 rfl); have k6 := over_cell hC bE.lt (bE.c 0 rfl); have k7 := over_cell hC bE.lt (bE.c 1 rfl); have k8 := over_cell hC bE.lt (bE.c 2 rfl); have k9 := over_cell hC bE.lt (bE.c 3 rfl); have k10 := over_cell hC bE.lt (bE.c 4 rfl); have k11 := over_cell hC bE.lt (bE.c 5 rfl); have k12 := over_cell hC bE.lt (bE.c 6 rfl); go_wp2
  go_ret
  exact ⟨rfl, over_step B0 hC⟩
 ·have hpb : (E.pe == -1) = false := by simp [hpe]
  by_cases h0 : E.p.length = 0
  ·rw [know_no hpe h0]
   rw [h0] at hp bE B0 ⊢; have e3 := bE.c 3 rfl; clear hpe h0 hA
   go_enter Tryz.func144, Tryz.ntmps144
   go_wp2
   go_ret
   exact ⟨rfl, B0⟩
  ·rw [know_yes hpe (by omega)]
   obtain ⟨g, hg⟩ : ∃ g, decide (N.an ∈ E.p) = g := ⟨_, rfl⟩; rw [hg]; have HG := Lib.hid (And.intro hA hg); have hlI : (0 : Int) < (E.p.length : Int) := by omega
   clear hg hpe hA h0; have e3 := bE.c 3 rfl; have e4 := bE.c 4 rfl; have e5 := bE.c 5 rfl; have e6 := bE.c 6 rfl; have a0 := bA.c 0 rfl
   go_enter Tryz.func144, Tryz.ntmps144
   go_wp2_with fail; refine (iph_t _ hp hq HG).mono ?_; rintro e w1 ⟨rfl, hb⟩; replace B0 := below_step B0 hb; go_wp2
   go_ret
   exact ⟨rfl, B0⟩
theorem isend_any (E : Ent) (pa : Option Addr) (px : Nat) (qa : Option Addr) (qx : Nat) (w : World) :
  Calls Tryz.prog 145 #[.agg #[.int .i64 E.a, .int .i64 E.n, .int .i64 E.pe, .slice pa E.p.length px, .int .i64 E.pr, .slice qa E.c.length qx, .int .i64 E.bw]] w fun e w' => e = .returned (.bool (sendB E)) ∧ Below w.heap.size w w' := by
 obtain ⟨bE, B0, z⟩ := one w [.int .i64 E.a, .int .i64 E.n, .int .i64 E.pe, .slice pa E.p.length px, .int .i64 E.pr, .slice qa E.c.length qx, .int .i64 E.bw] EI; clear z; have e2 := bE.c 2 rfl; have e3 := bE.c 3 rfl; unfold sendB; cases hpe : (E.pe == -1)
 ·rw [Bool.not_false, Bool.true_and]
  have hne : (E.pe != -1) = true := by simp [bne, hpe]
  obtain ⟨n, hn⟩ : ∃ n, n = E.p.length := ⟨_, rfl⟩; rw [← hn] at bE B0 e3 ⊢; clear hn hpe
  by_cases h0 : n = 0
  ·subst h0
   go_enter Tryz.func145, Tryz.ntmps145
   go_wp2
   go_ret
   exact ⟨rfl, B0⟩
  ·go_enter Tryz.func145, Tryz.ntmps145
   go_wp2
   go_ret
   exact ⟨rfl, B0⟩
 ·rw [Bool.not_true, Bool.false_and]
  have hne : (E.pe != -1) = false := by simp [bne, hpe]
  clear hpe
  go_enter Tryz.func145, Tryz.ntmps145
  go_wp2
  go_ret
  exact ⟨rfl, B0⟩
theorem iclK_any (ov rv sv : Value) (N : Nd) (E : Ent) (pa : Option Addr) (px : Nat) (qa : Option Addr) (qx : Nat) (C : Nat) (w : World) (hp : RdI w (.slice pa E.p.length px) E.p) (hq : RdI w (.slice qa E.c.length qx) E.c) (hA : aokB E.p E.pr E.c E.bw = true) (bC : Bl w C [.func (.func 144) #[.agg #[.int .i64 N.an, ov, .int .i64 N.bw, .bool N.dr, rv, sv]] #[]]) :
  Calls Tryz.prog 212 #[.agg #[.int .i64 E.a, .int .i64 E.n, .int .i64 E.pe, .slice pa E.p.length px, .int .i64 E.pr, .slice qa E.c.length qx, .int .i64 E.bw], .pointer (some ⟨C, 0, none⟩)] w fun e w' => e = .returned (.bool (!knowB N.an N.bw E)) ∧ Below w.heap.size w w' := by
 obtain ⟨bE, B0, z⟩ := one w [.int .i64 E.a, .int .i64 E.n, .int .i64 E.pe, .slice pa E.p.length px, .int .i64 E.pr, .slice qa E.c.length qx, .int .i64 E.bw] EI; replace hp := hp.keep B0; replace hq := hq.keep B0; have c0 := (bC.keep B0).c 0 rfl; clear z; have x0 := bE.c 0 rfl; have x1 := bE.c 1 rfl; have x2 := bE.c 2 rfl; have x3 := bE.c 3 rfl; have x4 := bE.c 4 rfl; have x5 := bE.c 5 rfl; have x6 := bE.c 6 rfl
 go_enter Tryz.func212, Tryz.ntmps212
 go_wp2_with fail; refine (iknow_any ov rv sv N E pa px qa qx _ hp hq hA).mono ?_; rintro e w1 ⟨rfl, hb⟩; replace B0 := below_step B0 hb; go_wp2
 go_ret
 exact ⟨rfl, B0⟩
set_option maxHeartbeats 1000000 in
theorem iixK_any (ov rv sv : Value) (N : Nd) (v : Value) (L : List Ent) (C : Nat) (w : World) (h : RdE w v L) (hV : ∀ i, i < L.length → aokB (L.getD i e0).p (L.getD i e0).pr (L.getD i e0).c (L.getD i e0).bw = true) (bC : Bl w C [.func (.func 144) #[.agg #[.int .i64 N.an, ov, .int .i64 N.bw, .bool N.dr, rv, sv]] #[]]) :
  Calls Tryz.prog 252 #[v, .func (.func 212) #[] #[.pointer (some ⟨C, 0, none⟩)]] w fun e w' => ∃ r : Int, e = .returned (.int .i64 r) ∧ decide (0 ≤ r) = (!L.all fun E => knowB N.an N.bw E) ∧ Below w.heap.size w w' := by
 have hm := h.1; obtain ⟨a, c, rfl, hc⟩ := h.el; obtain ⟨n, hn⟩ : ∃ n, n = L.length := ⟨_, rfl⟩; rw [← hn] at hc hm ⊢; have HN := Lib.hid hn; have HV := Lib.hid hV; clear h hn hV
 go_enter Tryz.func252, Tryz.ntmps252
 go_wp2
 go_loopw [8] (fun q wr => ∃ k : Nat, k ≤ n ∧ q = .int .i64 k ∧ (∀ j, j < k → knowB N.an N.bw (L.getD j e0) = true) ∧ Below w.heap.size w wr) (fun q _ => n - (intOf q).toNat)
 case atStart => exact ⟨0, Nat.zero_le _, rfl, fun j hj => by omega, Below.refl _ _⟩
 case round =>
  obtain ⟨k, hk, rfl, hyes, hB⟩ := hrel; have HY := Lib.hid hyes; clear hyes
  by_cases hlt : k < n
  ·have hltI : (k : Int) < (n : Int) := by omega
   obtain ⟨b, o, rfl, hE⟩ := hc k hlt; obtain ⟨E, hx⟩ : ∃ E, L.getD k e0 = E := ⟨_, rfl⟩; rw [hx] at hE; have hA := HV.out k (by rw [← HN.out]; exact hlt); rw [hx] at hA; obtain ⟨pv, cv, hp, hq, g0, g1, g2, g3, g4, g5, g6⟩ := hE.keep hB; obtain ⟨pa, px, rfl⟩ := hp.len; obtain ⟨qa, qx, rfl⟩ := hq.len; have HX := Lib.hid hx; have HC := Lib.hid hc; have HA := Lib.hid hA; clear hx hc hE hA; go_wp2_with fail; refine (iclK_any ov rv sv N E pa px qa qx C wr hp hq HA.out (bC.keep hB)).mono ?_; rintro e w1 ⟨rfl, hb1⟩; clear g0 g1 g2 g3 g4 g5 g6 hp hq; cases hbq : knowB N.an N.bw E
   ·go_wp2
    go_ret
    refine ⟨(k : Int), rfl, ?_, below_step hB hb1⟩; rw [show decide (0 ≤ (k : Int)) = true by simp]
    symm
    rw [Bool.not_eq_true', List.all_eq_false]; refine ⟨E, ?_, by rw [hbq]; simp⟩; rw [← HX.out, List.getD_eq_getElem?_getD, List.getElem?_eq_getElem (by rw [← HN.out]; exact hlt)]
    exact List.getElem_mem _
   ·go_wp2
    go_roundw
    case rel =>
     refine ⟨k + 1, by omega, by go_num, fun j hj => ?_, below_step hB hb1⟩
     by_cases hjk : j = k
     ·subst hjk; rw [HX.out]; exact hbq
     ·exact HY.out j (by omega)
    case measure => simp [intOf]; omega
  ·have hkn : k = n := by omega
   subst hkn; clear hc; go_wp2
   go_ret
   refine ⟨-1, rfl, ?_, hB⟩
   have e : (L.all fun E => knowB N.an N.bw E) = true := by
    rw [List.all_eq_true]; intro E hE; obtain ⟨i, hi, e⟩ := List.mem_iff_getElem.1 hE; have := HY.out i (by rw [HN.out]; exact hi); rw [List.getD_eq_getElem?_getD, List.getElem?_eq_getElem hi] at this; rw [← e]
    exact this
   rw [e]
   rfl
theorem icfK_any (ov rv sv : Value) (N : Nd) (v : Value) (L : List Ent) (C : Nat) (w : World) (h : RdE w v L) (hV : ∀ i, i < L.length → aokB (L.getD i e0).p (L.getD i e0).pr (L.getD i e0).c (L.getD i e0).bw = true) (bC : Bl w C [.func (.func 144) #[.agg #[.int .i64 N.an, ov, .int .i64 N.bw, .bool N.dr, rv, sv]] #[]]) :
  Calls Tryz.prog 211 #[v, .func (.func 212) #[] #[.pointer (some ⟨C, 0, none⟩)]] w fun e w' => e = .returned (.bool (!L.all fun E => knowB N.an N.bw E)) ∧ Below w.heap.size w w' := by
 obtain ⟨a, c, hv⟩ := h.len; have hcall := iixK_any ov rv sv N v L C w h hV bC; rw [hv] at hcall ⊢; have HC := Lib.hid hcall; clear hcall hv h bC hV
 go_enter Tryz.func211, Tryz.ntmps211
 go_wp2_with fail; refine HC.out.mono ?_; rintro e w1 ⟨r, rfl, hr, hb⟩; have HR := Lib.hid hr; clear hr; go_wp2
 go_ret
 exact ⟨ret_bool HR.out, hb⟩
theorem ievK_any (ov rv sv : Value) (N : Nd) (v : Value) (L : List Ent) (w : World) (h : RdE w v L) (hV : ∀ i, i < L.length → aokB (L.getD i e0).p (L.getD i e0).pr (L.getD i e0).c (L.getD i e0).bw = true) :
  Calls Tryz.prog 143 #[v, .func (.func 144) #[.agg #[.int .i64 N.an, ov, .int .i64 N.bw, .bool N.dr, rv, sv]] #[]] w fun e w' => e = .returned (.bool (L.all fun E => knowB N.an N.bw E)) ∧ Below w.heap.size w w' := by
 obtain ⟨bC, B0, z⟩ := one w [.func (.func 144) #[.agg #[.int .i64 N.an, ov, .int .i64 N.bw, .bool N.dr, rv, sv]] #[]] 180; replace h := h.keep B0; obtain ⟨a, c, hv⟩ := h.len; have hcall := icfK_any ov rv sv N v L w.heap.size _ h hV bC; rw [hv] at hcall ⊢; have HC := Lib.hid hcall; clear hcall hv h hV z
 go_enter Tryz.func143, Tryz.ntmps143
 go_wp2_with fail; refine HC.out.mono ?_; rintro e w1 ⟨rfl, hb⟩; replace B0 := below_step B0 hb; go_wp2
 go_ret
 exact ⟨by simp, B0⟩
theorem ievK_t (ov rv sv : Value) (N : Nd) {v : Value} {L : List Ent} {b : Bool} (w : World) (h : RdE w v L) (hV : ∀ i, i < L.length → aokB (L.getD i e0).p (L.getD i e0).pr (L.getD i e0).c (L.getD i e0).bw = true) (H : Hid ((L.all fun E => knowB N.an N.bw E) = b)) :
  Calls Tryz.prog 143 #[v, .func (.func 144) #[.agg #[.int .i64 N.an, ov, .int .i64 N.bw, .bool N.dr, rv, sv]] #[]] w fun e w' => e = .returned (.bool b) ∧ Below w.heap.size w w' := H.out ▸ ievK_any ov rv sv N v L w h hV
theorem iclS_any  (E : Ent) (pa : Option Addr) (px : Nat) (qa : Option Addr) (qx : Nat) (C : Nat) (w : World) (hp : RdI w (.slice pa E.p.length px) E.p) (hq : RdI w (.slice qa E.c.length qx) E.c) (bC : Bl w C [.func (.func 145) #[] #[]]) :
  Calls Tryz.prog 212 #[.agg #[.int .i64 E.a, .int .i64 E.n, .int .i64 E.pe, .slice pa E.p.length px, .int .i64 E.pr, .slice qa E.c.length qx, .int .i64 E.bw], .pointer (some ⟨C, 0, none⟩)] w fun e w' => e = .returned (.bool (!sendB E)) ∧ Below w.heap.size w w' := by
 obtain ⟨bE, B0, z⟩ := one w [.int .i64 E.a, .int .i64 E.n, .int .i64 E.pe, .slice pa E.p.length px, .int .i64 E.pr, .slice qa E.c.length qx, .int .i64 E.bw] EI; replace hp := hp.keep B0; replace hq := hq.keep B0; have c0 := (bC.keep B0).c 0 rfl; clear z; have x0 := bE.c 0 rfl; have x1 := bE.c 1 rfl; have x2 := bE.c 2 rfl; have x3 := bE.c 3 rfl; have x4 := bE.c 4 rfl; have x5 := bE.c 5 rfl; have x6 := bE.c 6 rfl
 go_enter Tryz.func212, Tryz.ntmps212
 go_wp2_with fail; refine (isend_any E pa px qa qx _).mono ?_; rintro e w1 ⟨rfl, hb⟩; replace B0 := below_step B0 hb; go_wp2
 go_ret
 exact ⟨rfl, B0⟩
set_option maxHeartbeats 1000000 in
theorem iixS_any  (v : Value) (L : List Ent) (C : Nat) (w : World) (h : RdE w v L) (bC : Bl w C [.func (.func 145) #[] #[]]) :
  Calls Tryz.prog 252 #[v, .func (.func 212) #[] #[.pointer (some ⟨C, 0, none⟩)]] w fun e w' => ∃ r : Int, e = .returned (.int .i64 r) ∧ decide (0 ≤ r) = (!L.all fun E => sendB E) ∧ Below w.heap.size w w' := by
 have hm := h.1; obtain ⟨a, c, rfl, hc⟩ := h.el; obtain ⟨n, hn⟩ : ∃ n, n = L.length := ⟨_, rfl⟩; rw [← hn] at hc hm ⊢; have HN := Lib.hid hn

 clear h hn
 go_enter Tryz.func252, Tryz.ntmps252
 go_wp2
 go_loopw [8] (fun q wr => ∃ k : Nat, k ≤ n ∧ q = .int .i64 k ∧ (∀ j, j < k → sendB (L.getD j e0) = true) ∧ Below w.heap.size w wr) (fun q _ => n - (intOf q).toNat)
 case atStart => exact ⟨0, Nat.zero_le _, rfl, fun j hj => by omega, Below.refl _ _⟩
 case round =>
  obtain ⟨k, hk, rfl, hyes, hB⟩ := hrel; have HY := Lib.hid hyes; clear hyes
  by_cases hlt : k < n
  ·have hltI : (k : Int) < (n : Int) := by omega
   obtain ⟨b, o, rfl, hE⟩ := hc k hlt; obtain ⟨E, hx⟩ : ∃ E, L.getD k e0 = E := ⟨_, rfl⟩; rw [hx] at hE


   obtain ⟨pv, cv, hp, hq, g0, g1, g2, g3, g4, g5, g6⟩ := hE.keep hB; obtain ⟨pa, px, rfl⟩ := hp.len; obtain ⟨qa, qx, rfl⟩ := hq.len; have HX := Lib.hid hx; have HC := Lib.hid hc

   clear hx hc hE; go_wp2_with fail; refine (iclS_any  E pa px qa qx C wr hp hq (bC.keep hB)).mono ?_; rintro e w1 ⟨rfl, hb1⟩; clear g0 g1 g2 g3 g4 g5 g6 hp hq; cases hbq : sendB E
   ·go_wp2
    go_ret
    refine ⟨(k : Int), rfl, ?_, below_step hB hb1⟩; rw [show decide (0 ≤ (k : Int)) = true by simp]
    symm
    rw [Bool.not_eq_true', List.all_eq_false]; refine ⟨E, ?_, by rw [hbq]; simp⟩; rw [← HX.out, List.getD_eq_getElem?_getD, List.getElem?_eq_getElem (by rw [← HN.out]; exact hlt)]
    exact List.getElem_mem _
   ·go_wp2
    go_roundw
    case rel =>
     refine ⟨k + 1, by omega, by go_num, fun j hj => ?_, below_step hB hb1⟩
     by_cases hjk : j = k
     ·subst hjk; rw [HX.out]; exact hbq
     ·exact HY.out j (by omega)
    case measure => simp [intOf]; omega
  ·have hkn : k = n := by omega
   subst hkn; clear hc; go_wp2
   go_ret
   refine ⟨-1, rfl, ?_, hB⟩
   have e : (L.all fun E => sendB E) = true := by
    rw [List.all_eq_true]; intro E hE; obtain ⟨i, hi, e⟩ := List.mem_iff_getElem.1 hE; have := HY.out i (by rw [HN.out]; exact hi); rw [List.getD_eq_getElem?_getD, List.getElem?_eq_getElem hi] at this; rw [← e]
    exact this
   rw [e]
   rfl
theorem icfS_any  (v : Value) (L : List Ent) (C : Nat) (w : World) (h : RdE w v L) (bC : Bl w C [.func (.func 145) #[] #[]]) :
  Calls Tryz.prog 211 #[v, .func (.func 212) #[] #[.pointer (some ⟨C, 0, none⟩)]] w fun e w' => e = .returned (.bool (!L.all fun E => sendB E)) ∧ Below w.heap.size w w' := by
 obtain ⟨a, c, hv⟩ := h.len; have hcall := iixS_any  v L C w h bC; rw [hv] at hcall ⊢; have HC := Lib.hid hcall; clear hcall hv h bC
 go_enter Tryz.func211, Tryz.ntmps211
 go_wp2_with fail; refine HC.out.mono ?_; rintro e w1 ⟨r, rfl, hr, hb⟩; have HR := Lib.hid hr; clear hr; go_wp2
 go_ret
 exact ⟨ret_bool HR.out, hb⟩
theorem ievS_any  (v : Value) (L : List Ent) (w : World) (h : RdE w v L) :
  Calls Tryz.prog 143 #[v, .func (.func 145) #[] #[]] w fun e w' => e = .returned (.bool (L.all fun E => sendB E)) ∧ Below w.heap.size w w' := by
 obtain ⟨bC, B0, z⟩ := one w [.func (.func 145) #[] #[]] 180; replace h := h.keep B0; obtain ⟨a, c, hv⟩ := h.len; have hcall := icfS_any  v L w.heap.size _ h bC; rw [hv] at hcall ⊢; have HC := Lib.hid hcall; clear hcall hv h z
 go_enter Tryz.func143, Tryz.ntmps143
 go_wp2_with fail; refine HC.out.mono ?_; rintro e w1 ⟨rfl, hb⟩; replace B0 := below_step B0 hb; go_wp2
 go_ret
 exact ⟨by simp, B0⟩
theorem ievS_t  {v : Value} {L : List Ent} {b : Bool} (w : World) (h : RdE w v L) (H : Hid ((L.all fun E => sendB E) = b)) :
  Calls Tryz.prog 143 #[v, .func (.func 145) #[] #[]] w fun e w' => e = .returned (.bool b) ∧ Below w.heap.size w w' := H.out ▸ ievS_any  v L w h
end Go.Proofs.YtbcmoofpgffbhabGreat
namespace Go.Proofs.YtbcmoofpgffbhabGreat
open Go.ChangeShapes Go.WideShapes Go.ChangeAt Go.RowKit Go.BigFrame Go.Joins
open List (setIfInBounds_toArray set_cons_succ set_cons_zero)
set_option linter.unusedVariables false
set_option maxRecDepth 100000
set_option linter.unusedSimpArgs false
set_option maxRecDepth 100000

theorem numok8 {n : Int} {b : Bool} (w : World) (H : Hid (asB n = b)) : Calls Tryz.prog 139 #[.int .i64 n] w fun e w' => e = .returned (.bool b) ∧ w = w' := H.out ▸ numok_any n w
theorem sas8 {n : Int} {b : Bool} (w : World) (H : Hid (asB n = b)) : Calls Tryz.prog 112 #[.int .i64 n] w fun e w' => e = .returned (.bool b) ∧ w = w' := H.out ▸ sas_any n w
theorem ipfx8 {v : Value} {l : List (Int × Int)} {b : Bool} (w : World) (h : RdP w v l) (H : Hid ((decide ((l.length : Int) ≤ 2) && pfxB l) = b)) : Calls Tryz.prog 140 #[v, .int .i64 2] w fun e w' => e = .returned (.bool b) ∧ Below w.heap.size w w' := H.out ▸ ipfx_any v l 2 w h
theorem spfx8 {v : Value} {l : List (Int × Int)} {b : Bool} (w : World) (h : RdP w v l) (H : Hid ((decide ((l.length : Int) ≤ 8) && pfxB l) = b)) : Calls Tryz.prog 113 #[v] w fun e w' => e = .returned (.bool b) ∧ Below w.heap.size w w' := H.out ▸ spfx_any v l w h
theorem within8 {n : Int} {b : Bool} (w : World) (H : Hid (inB n 0 1000 = b)) : Calls Tryz.prog 75 #[.int .i64 n, .int .i64 0, .int .i64 1000] w fun e w' => e = .returned (.bool b) ∧ w = w' := within_t w H
theorem slL_t {v u : Value} {l m : List (Int × Int)} {b : Bool} (w : World) (h1 : RdP w v l) (h2 : RdP w u m) (H : Hid (decide (l = m) = b)) : Calls Tryz.prog 141 #[v, u] w fun e w' => e = .returned (.bool b) ∧ Below w.heap.size w w' := H.out ▸ slL_any v u l m w h1 h2
/-- a switch is valid -/
def ndB (N : Nd) : Bool := asB N.an && ((decide ((N.own.length : Int) ≤ 2) && pfxB N.own) && (inB N.bw 0 1000 && (ribB N.rib && (ribB N.sent && (decide (ownL N.rib = N.own) && ((N.rib.all fun E => knowB N.an N.bw E) && N.sent.all fun E => sendB E))))))
theorem rib_ok {L : List Ent} (h : ribB L = true) : (∀ i, i < L.length → entB (L.getD i e0).a (L.getD i e0).n (L.getD i e0).pe (L.getD i e0).p (L.getD i e0).pr (L.getD i e0).c (L.getD i e0).bw = true) ∧ L.length ≤ 60 ∧ L.Pairwise ltE := by
 unfold ribB tabB at h; simp only [Bool.and_eq_true, decide_eq_true_eq] at h; refine ⟨h.2.1, by omega, pairwise_of_next e0 ltE ltE_trans L fun i hi => ?_⟩; have := h.2.2 i hi; unfold upE at this
 exact ecmp_lt.1 this
theorem rib_attr {L : List Ent} (h : ribB L = true) : ∀ i, i < L.length → aokB (L.getD i e0).p (L.getD i e0).pr (L.getD i e0).c (L.getD i e0).bw = true := fun i hi => by
 have := (rib_ok h).1 i hi; unfold entB at this; simp only [Bool.and_eq_true] at this
 exact this.2.2
theorem rib_peer {L : List Ent} (h : ribB L = true) : ∀ i, i < L.length → -1 ≤ (L.getD i e0).pe := fun i hi => by
 have := (rib_ok h).1 i hi; unfold entB inB at this; simp only [Bool.and_eq_true, decide_eq_true_eq] at this
 exact this.2.1.1
theorem mem_get {L : List Ent} {E : Ent} (h : E ∈ L) : ∃ i, i < L.length ∧ L.getD i e0 = E := by
 obtain ⟨i, hi, e⟩ := List.mem_iff_getElem.1 h
 exact ⟨i, hi, by rw [List.getD_eq_getElem?_getD, List.getElem?_eq_getElem hi]; exact e⟩
theorem pfx_sorted {l : List (Int × Int)} (h : pfxB l = true) : l.Pairwise ltP := by
 unfold pfxB at h; simp only [decide_eq_true_eq] at h; refine pairwise_of_next (0, 0) ltP (fun _ _ _ => ltP_trans) l fun i hi => ?_
 have := h.2 i hi; unfold upAt at this
 exact cmp2_lt8.1 this
set_option maxHeartbeats 8000000 in
theorem indok_any (ov rv sv : Value) (N : Nd) (w : World) (h : RdN w ov rv sv N) :
  Calls Tryz.prog 66 #[.agg #[.int .i64 N.an, ov, .int .i64 N.bw, .bool N.dr, rv, sv]] w fun e w' => e = .returned (.bool (ndB N)) ∧ Below w.heap.size w w' := by
 obtain ⟨bA, B0, z⟩ := one w [.int .i64 N.an, ov, .int .i64 N.bw, .bool N.dr, rv, sv] 35; replace h := h.keep B0; obtain ⟨hO, hR, hS⟩ := h; obtain ⟨V, hV⟩ : ∃ V, V = w.alloc (.cells #[.int .i64 N.an, ov, .int .i64 N.bw, .bool N.dr, rv, sv] 35) := ⟨_, rfl⟩; rw [← hV] at bA B0 hO hR hS; clear z; unfold ndB; cases hAA : asB N.an
 ·rw [Bool.false_and]
  have HA := Lib.hid hAA; clear hAA
  go_enter Tryz.func66, Tryz.ntmps66
  go_wp2_with fail; rw [← hV]; clear hV; refine wp_region_class (C := Over (V)) (by kernel_rfl) (by kernel_rfl) (over_drew _) ?_
  repeat (first | go_big_quiet_skip | (go_big_quiet_want; go_big_quiet_op; go_big_quiet_on) | (go_big_quiet_want; go_big_quiet_op; apply Exists.intro; refine ⟨fun w' hC => ?_, ?_⟩; ((first | (go_at_call 139; refine (numok8 _ HA).mono ?_; rintro e w1 ⟨rfl, rfl⟩; exact ⟨rfl, hC⟩))); go_big_quiet_on) | (go_big_quiet_want; apply Exists.intro; refine ⟨fun w' hC => ?_, ?_⟩; (have k0 := over_cell hC bA.lt (bA.c 0 rfl); have k1 := over_cell hC bA.lt (bA.c 1 rfl); have k2 := over_cell hC bA.lt (bA.c 2 rfl); have k3 := over_cell hC bA.lt (bA.c 3 rfl); have k4 := over_cell hC bA.lt (bA.c 4 rfl); have k5 := over_cell hC bA.lt (bA.c 5 rfl); simp [Oper.quietAt, Oper.quietUpon, go_sem, k0, k1, k2, k3, k4, k5]; first | done | rfl); go_big_quiet_on; simp only [Act.put, setIfInBounds_toArray, set_cons_succ, set_cons_zero]))
  refine wpQuiet_nil ?_; intro wr hC; have k0 := over_cell hC bA.lt (bA.c 0 rfl); have k1 := over_cell hC bA.lt (bA.c 1 rfl); have k2 := over_cell hC bA.lt (bA.c 2 rfl); have k3 := over_cell hC bA.lt (bA.c 3 rfl); have k4 := over_cell hC bA.lt (bA.c 4 rfl); have k5 := over_cell hC bA.lt (bA.c 5 rfl); go_wp2
  go_ret
  exact ⟨rfl, over_step B0 hC⟩
 ·rw [Bool.true_and]
  have HA := Lib.hid hAA; clear hAA; cases hOO : (decide ((N.own.length : Int) ≤ 2) && pfxB N.own)
  ·rw [Bool.false_and]
   have HO := Lib.hid hOO; clear hOO
   go_enter Tryz.func66, Tryz.ntmps66
   go_wp2_with fail; rw [← hV]; clear hV; refine wp_region_class (C := Over (V)) (by kernel_rfl) (by kernel_rfl) (over_drew _) ?_
   repeat (first | go_big_quiet_skip | (go_big_quiet_want; go_big_quiet_op; go_big_quiet_on) | (go_big_quiet_want; go_big_quiet_op; apply Exists.intro; refine ⟨fun w' hC => ?_, ?_⟩; ((first | (go_at_call 139; refine (numok8 _ HA).mono ?_; rintro e w1 ⟨rfl, rfl⟩; exact ⟨rfl, hC⟩) | (go_at_call 140; refine (ipfx8 _ (hO.keep hC) HO).mono ?_; rintro e w1 ⟨rfl, hb1⟩; exact ⟨rfl, over_step hC hb1⟩))); go_big_quiet_on) | (go_big_quiet_want; apply Exists.intro; refine ⟨fun w' hC => ?_, ?_⟩; (have k0 := over_cell hC bA.lt (bA.c 0 rfl); have k1 := over_cell hC bA.lt (bA.c 1 rfl); have k2 := over_cell hC bA.lt (bA.c 2 rfl); have k3 := over_cell hC bA.lt (bA.c 3 rfl); have k4 := over_cell hC bA.lt (bA.c 4 rfl); have k5 := over_cell hC bA.lt (bA.c 5 rfl); simp [Oper.quietAt, Oper.quietUpon, go_sem, k0, k1, k2, k3, k4, k5]; first | done | rfl); go_big_quiet_on; simp only [Act.put, setIfInBounds_toArray, set_cons_succ, set_cons_zero]))
   refine wpQuiet_nil ?_; intro wr hC; have k0 := over_cell hC bA.lt (bA.c 0 rfl); have k1 := over_cell hC bA.lt (bA.c 1 rfl); have k2 := over_cell hC bA.lt (bA.c 2 rfl); have k3 := over_cell hC bA.lt (bA.c 3 rfl); have k4 := over_cell hC bA.lt (bA.c 4 rfl); have k5 := over_cell hC bA.lt (bA.c 5 rfl); go_wp2
   go_ret
   exact ⟨rfl, over_step B0 hC⟩
  ·rw [Bool.true_and]
   have HO := Lib.hid hOO; clear hOO; cases hBB : inB N.bw 0 1000
   ·rw [Bool.false_and]
    have HB := Lib.hid hBB; clear hBB
    go_enter Tryz.func66, Tryz.ntmps66
    go_wp2_with fail; rw [← hV]; clear hV; refine wp_region_class (C := Over (V)) (by kernel_rfl) (by kernel_rfl) (over_drew _) ?_
    repeat (first | go_big_quiet_skip | (go_big_quiet_want; go_big_quiet_op; go_big_quiet_on) | (go_big_quiet_want; go_big_quiet_op; apply Exists.intro; refine ⟨fun w' hC => ?_, ?_⟩; ((first | (go_at_call 139; refine (numok8 _ HA).mono ?_; rintro e w1 ⟨rfl, rfl⟩; exact ⟨rfl, hC⟩) | (go_at_call 140; refine (ipfx8 _ (hO.keep hC) HO).mono ?_; rintro e w1 ⟨rfl, hb1⟩; exact ⟨rfl, over_step hC hb1⟩) | (go_at_call 75; refine (within8 _ HB).mono ?_; rintro e w1 ⟨rfl, rfl⟩; exact ⟨rfl, hC⟩))); go_big_quiet_on) | (go_big_quiet_want; apply Exists.intro; refine ⟨fun w' hC => ?_, ?_⟩; (have k0 := over_cell hC bA.lt (bA.c 0 rfl); have k1 := over_cell hC bA.lt (bA.c 1 rfl); have k2 := over_cell hC bA.lt (bA.c 2 rfl); have k3 := over_cell hC bA.lt (bA.c 3 rfl); have k4 := over_cell hC bA.lt (bA.c 4 rfl); have k5 := over_cell hC bA.lt (bA.c 5 rfl); simp [Oper.quietAt, Oper.quietUpon, go_sem, k0, k1, k2, k3, k4, k5]; first | done | rfl); go_big_quiet_on; simp only [Act.put, setIfInBounds_toArray, set_cons_succ, set_cons_zero]))
    refine wpQuiet_nil ?_; intro wr hC; have k0 := over_cell hC bA.lt (bA.c 0 rfl); have k1 := over_cell hC bA.lt (bA.c 1 rfl); have k2 := over_cell hC bA.lt (bA.c 2 rfl); have k3 := over_cell hC bA.lt (bA.c 3 rfl); have k4 := over_cell hC bA.lt (bA.c 4 rfl); have k5 := over_cell hC bA.lt (bA.c 5 rfl); go_wp2
    go_ret
    exact ⟨rfl, over_step B0 hC⟩
   ·rw [Bool.true_and]
    have HB := Lib.hid hBB; clear hBB; cases hRR : ribB N.rib
    ·rw [Bool.false_and]
     have HR := Lib.hid hRR; clear hRR
     go_enter Tryz.func66, Tryz.ntmps66
     go_wp2_with fail; rw [← hV]; clear hV; refine wp_region_class (C := Over (V)) (by kernel_rfl) (by kernel_rfl) (over_drew _) ?_
     repeat (first | go_big_quiet_skip | (go_big_quiet_want; go_big_quiet_op; go_big_quiet_on) | (go_big_quiet_want; go_big_quiet_op; apply Exists.intro; refine ⟨fun w' hC => ?_, ?_⟩; ((first | (go_at_call 139; refine (numok8 _ HA).mono ?_; rintro e w1 ⟨rfl, rfl⟩; exact ⟨rfl, hC⟩) | (go_at_call 140; refine (ipfx8 _ (hO.keep hC) HO).mono ?_; rintro e w1 ⟨rfl, hb1⟩; exact ⟨rfl, over_step hC hb1⟩) | (go_at_call 75; refine (within8 _ HB).mono ?_; rintro e w1 ⟨rfl, rfl⟩; exact ⟨rfl, hC⟩) | (go_at_call_of 126 (Value.agg #[rv]); refine (irib_t _ (hR.keep hC) HR).mono ?_; rintro e w1 ⟨rfl, hb1⟩; exact ⟨rfl, over_step hC hb1⟩))); go_big_quiet_on) | (go_big_quiet_want; apply Exists.intro; refine ⟨fun w' hC => ?_, ?_⟩; (have k0 := over_cell hC bA.lt (bA.c 0 rfl); have k1 := over_cell hC bA.lt (bA.c 1 rfl); have k2 := over_cell hC bA.lt (bA.c 2 rfl); have k3 := over_cell hC bA.lt (bA.c 3 rfl); have k4 := over_cell hC bA.lt (bA.c 4 rfl); have k5 := over_cell hC bA.lt (bA.c 5 rfl); simp [Oper.quietAt, Oper.quietUpon, go_sem, k0, k1, k2, k3, k4, k5]; first | done | rfl); go_big_quiet_on; simp only [Act.put, setIfInBounds_toArray, set_cons_succ, set_cons_zero]))
     refine wpQuiet_nil ?_; intro wr hC; have k0 := over_cell hC bA.lt (bA.c 0 rfl); have k1 := over_cell hC bA.lt (bA.c 1 rfl); have k2 := over_cell hC bA.lt (bA.c 2 rfl); have k3 := over_cell hC bA.lt (bA.c 3 rfl); have k4 := over_cell hC bA.lt (bA.c 4 rfl); have k5 := over_cell hC bA.lt (bA.c 5 rfl); go_wp2
     go_ret
     exact ⟨rfl, over_step B0 hC⟩
    ·rw [Bool.true_and]
     have HR := Lib.hid hRR; clear hRR; cases hSS : ribB N.sent
     ·rw [Bool.false_and]
      have HS := Lib.hid hSS; clear hSS
      go_enter Tryz.func66, Tryz.ntmps66
      go_wp2_with fail; rw [← hV]; clear hV; refine wp_region_class (C := Over (V)) (by kernel_rfl) (by kernel_rfl) (over_drew _) ?_
      repeat (first | go_big_quiet_skip | (go_big_quiet_want; go_big_quiet_op; go_big_quiet_on) | (go_big_quiet_want; go_big_quiet_op; apply Exists.intro; refine ⟨fun w' hC => ?_, ?_⟩; ((first | (go_at_call 139; refine (numok8 _ HA).mono ?_; rintro e w1 ⟨rfl, rfl⟩; exact ⟨rfl, hC⟩) | (go_at_call 140; refine (ipfx8 _ (hO.keep hC) HO).mono ?_; rintro e w1 ⟨rfl, hb1⟩; exact ⟨rfl, over_step hC hb1⟩) | (go_at_call 75; refine (within8 _ HB).mono ?_; rintro e w1 ⟨rfl, rfl⟩; exact ⟨rfl, hC⟩) | (go_at_call_of 126 (Value.agg #[rv]); refine (irib_t _ (hR.keep hC) HR).mono ?_; rintro e w1 ⟨rfl, hb1⟩; exact ⟨rfl, over_step hC hb1⟩) | (go_at_call_of 126 (Value.agg #[sv]); refine (irib_t _ (hS.keep hC) HS).mono ?_; rintro e w1 ⟨rfl, hb1⟩; exact ⟨rfl, over_step hC hb1⟩))); go_big_quiet_on) | (go_big_quiet_want; apply Exists.intro; refine ⟨fun w' hC => ?_, ?_⟩; (have k0 := over_cell hC bA.lt (bA.c 0 rfl); have k1 := over_cell hC bA.lt (bA.c 1 rfl); have k2 := over_cell hC bA.lt (bA.c 2 rfl); have k3 := over_cell hC bA.lt (bA.c 3 rfl); have k4 := over_cell hC bA.lt (bA.c 4 rfl); have k5 := over_cell hC bA.lt (bA.c 5 rfl); simp [Oper.quietAt, Oper.quietUpon, go_sem, k0, k1, k2, k3, k4, k5]; first | done | rfl); go_big_quiet_on; simp only [Act.put, setIfInBounds_toArray, set_cons_succ, set_cons_zero]))
      refine wpQuiet_nil ?_; intro wr hC; have k0 := over_cell hC bA.lt (bA.c 0 rfl); have k1 := over_cell hC bA.lt (bA.c 1 rfl); have k2 := over_cell hC bA.lt (bA.c 2 rfl); have k3 := over_cell hC bA.lt (bA.c 3 rfl); have k4 := over_cell hC bA.lt (bA.c 4 rfl); have k5 := over_cell hC bA.lt (bA.c 5 rfl); go_wp2
      go_ret
      exact ⟨rfl, over_step B0 hC⟩
     ·rw [Bool.true_and]
      have HS := Lib.hid hSS; clear hSS; have HLR : Hid (N.rib.length ≤ 1048576) := Lib.hid (by have := (rib_ok HR.out).2.1; omega); have HVR := Lib.hid (rib_attr HR.out); have eo : ownL N.rib = pfx (N.rib.filter fun F => F.pe == -1) := rfl; rw [eo]; clear eo; cases hE : decide (pfx (N.rib.filter fun F => F.pe == -1) = N.own)
      ·rw [Bool.false_and]
       have HE := Lib.hid hE; clear hE
       go_enter Tryz.func66, Tryz.ntmps66
       go_wp2_with fail; rw [← hV]; clear hV; refine wp_region_held_drew (S := fun w' => Over V w') (by kernel_rfl) (over_drew V) (fun hHeld => ?_); obtain ⟨u0, e0'⟩ : ∃ u, u = V.drew := ⟨_, rfl⟩; have O : Over V u0 := by rw [e0']; exact over_drew V
       rw [← e0']; clear e0' hHeld; refine tk 0 3 (v := ?_) O ?_ ?_; rotate_left
       ·intro wq hSq
        go_simp
        try rfl
       simp only [Act.put, setIfInBounds_toArray, set_cons_succ, set_cons_zero]; refine tk 1 4 (v := ?_) O ?_ ?_; rotate_left
       ·intro wq hSq
        have q0 := over_cell hSq bA.lt (bA.c 0 rfl)
        go_simp
        try rfl
       simp only [Act.put, setIfInBounds_toArray, set_cons_succ, set_cons_zero]; refine rd1 2 fun K hK => ?_
       go_simp
       refine (numok8 _ HA).mono ?_; rintro e wn ⟨rfl, rfl⟩; refine hK.out _ _ O (fun _ => ?_); clear hK K
       try simp only [Act.put, setIfInBounds_toArray, set_cons_succ, set_cons_zero]
       refine tk 3 6 (v := ?_) O ?_ ?_; rotate_left
       ·intro wq hSq
        go_simp
        try rfl
       simp only [Act.put, setIfInBounds_toArray, set_cons_succ, set_cons_zero]; refine tk 4 7 (v := ?_) O ?_ ?_; rotate_left
       ·intro wq hSq
        go_simp
        try rfl
       simp only [Act.put, setIfInBounds_toArray, set_cons_succ, set_cons_zero]; refine tk 5 8 (v := ?_) O ?_ ?_; rotate_left
       ·intro wq hSq
        have q1 := over_cell hSq bA.lt (bA.c 1 rfl)
        go_simp
        try rfl
       simp only [Act.put, setIfInBounds_toArray, set_cons_succ, set_cons_zero]; refine rd1 6 fun K hK => ?_
       go_simp
       refine (ipfx8 _ (hO.keep O) HO).mono ?_; rintro e wn ⟨rfl, hb⟩; replace O := over_step O hb; clear hb; refine hK.out _ _ O (fun _ => ?_); clear hK K
       try simp only [Act.put, setIfInBounds_toArray, set_cons_succ, set_cons_zero]
       refine tk 7 10 (v := ?_) O ?_ ?_; rotate_left
       ·intro wq hSq
        go_simp
        try rfl
       simp only [Act.put, setIfInBounds_toArray, set_cons_succ, set_cons_zero]; refine tk 8 11 (v := ?_) O ?_ ?_; rotate_left
       ·intro wq hSq
        go_simp
        try rfl
       simp only [Act.put, setIfInBounds_toArray, set_cons_succ, set_cons_zero]; refine tk 9 12 (v := ?_) O ?_ ?_; rotate_left
       ·intro wq hSq
        go_simp
        try rfl
       simp only [Act.put, setIfInBounds_toArray, set_cons_succ, set_cons_zero]; refine tk 10 13 (v := ?_) O ?_ ?_; rotate_left
       ·intro wq hSq
        have q2 := over_cell hSq bA.lt (bA.c 2 rfl)
        go_simp
        try rfl
       simp only [Act.put, setIfInBounds_toArray, set_cons_succ, set_cons_zero]; refine rd1 11 fun K hK => ?_
       go_simp
       refine (within8 _ HB).mono ?_; rintro e wn ⟨rfl, rfl⟩; refine hK.out _ _ O (fun _ => ?_); clear hK K
       try simp only [Act.put, setIfInBounds_toArray, set_cons_succ, set_cons_zero]
       refine tk 12 15 (v := ?_) O ?_ ?_; rotate_left
       ·intro wq hSq
        go_simp
        try rfl
       simp only [Act.put, setIfInBounds_toArray, set_cons_succ, set_cons_zero]; refine tk 13 16 (v := ?_) O ?_ ?_; rotate_left
       ·intro wq hSq
        go_simp
        try rfl
       simp only [Act.put, setIfInBounds_toArray, set_cons_succ, set_cons_zero]; refine tk 14 17 (v := ?_) O ?_ ?_; rotate_left
       ·intro wq hSq
        go_simp
        try rfl
       simp only [Act.put, setIfInBounds_toArray, set_cons_succ, set_cons_zero]; refine tk 15 18 (v := ?_) O ?_ ?_; rotate_left
       ·intro wq hSq
        have q4 := over_cell hSq bA.lt (bA.c 4 rfl)
        go_simp
        try rfl
       simp only [Act.put, setIfInBounds_toArray, set_cons_succ, set_cons_zero]; refine rd1 16 fun K hK => ?_
       go_simp
       refine (irib_t _ (hR.keep O) HR).mono ?_; rintro e wn ⟨rfl, hb⟩; replace O := over_step O hb; clear hb; refine hK.out _ _ O (fun _ => ?_); clear hK K
       try simp only [Act.put, setIfInBounds_toArray, set_cons_succ, set_cons_zero]
       refine tk 17 20 (v := ?_) O ?_ ?_; rotate_left
       ·intro wq hSq
        go_simp
        try rfl
       simp only [Act.put, setIfInBounds_toArray, set_cons_succ, set_cons_zero]; refine tk 18 21 (v := ?_) O ?_ ?_; rotate_left
       ·intro wq hSq
        go_simp
        try rfl
       simp only [Act.put, setIfInBounds_toArray, set_cons_succ, set_cons_zero]; refine tk 19 22 (v := ?_) O ?_ ?_; rotate_left
       ·intro wq hSq
        go_simp
        try rfl
       simp only [Act.put, setIfInBounds_toArray, set_cons_succ, set_cons_zero]; refine tk 20 23 (v := ?_) O ?_ ?_; rotate_left
       ·intro wq hSq
        have q5 := over_cell hSq bA.lt (bA.c 5 rfl)
        go_simp
        try rfl
       simp only [Act.put, setIfInBounds_toArray, set_cons_succ, set_cons_zero]; refine rd1 21 fun K hK => ?_
       go_simp
       refine (irib_t _ (hS.keep O) HS).mono ?_; rintro e wn ⟨rfl, hb⟩; replace O := over_step O hb; clear hb; refine hK.out _ _ O (fun _ => ?_); clear hK K
       try simp only [Act.put, setIfInBounds_toArray, set_cons_succ, set_cons_zero]
       refine tk 22 25 (v := ?_) O ?_ ?_; rotate_left
       ·intro wq hSq
        go_simp
        try rfl
       simp only [Act.put, setIfInBounds_toArray, set_cons_succ, set_cons_zero]; refine tk 23 26 (v := ?_) O ?_ ?_; rotate_left
       ·intro wq hSq
        go_simp
        try rfl
       simp only [Act.put, setIfInBounds_toArray, set_cons_succ, set_cons_zero]; refine tk 24 27 (v := ?_) O ?_ ?_; rotate_left
       ·intro wq hSq
        go_simp
        try rfl
       simp only [Act.put, setIfInBounds_toArray, set_cons_succ, set_cons_zero]; refine tk 25 28 (v := ?_) O ?_ ?_; rotate_left
       ·intro wq hSq
        have q4 := over_cell hSq bA.lt (bA.c 4 rfl)
        go_simp
        try rfl
       simp only [Act.put, setIfInBounds_toArray, set_cons_succ, set_cons_zero]; refine tk 27 30 (v := ?_) O ?_ ?_; rotate_left
       ·intro wq hSq
        go_simp
        try rfl
       simp only [Act.put, setIfInBounds_toArray, set_cons_succ, set_cons_zero]; refine tk 28 31 (v := ?_) O ?_ ?_; rotate_left
       ·intro wq hSq
        have q1 := over_cell hSq bA.lt (bA.c 1 rfl)
        go_simp
        try rfl
       simp only [Act.put, setIfInBounds_toArray, set_cons_succ, set_cons_zero]; refine rd1 26 fun K hK => ?_
       go_simp
       refine (ifr_any rv N.rib (-1) _ (hR.keep O) HLR.out).mono ?_; rintro e wn ⟨u, rfl, hu, hb⟩; replace O := over_step O hb; clear hb; refine hK.out _ _ O (fun _ => ?_); clear hK K
       try simp only [Act.put, setIfInBounds_toArray, set_cons_succ, set_cons_zero]
       replace hu := hu.rd; obtain ⟨ua, uc, rfl⟩ := hu.len; refine rd1 29 fun K hK => ?_
       go_simp
       refine (slL_t _ (hu.keep (Below.refl _ _)) (hO.keep O) HE).mono ?_; rintro e wn ⟨rfl, hb⟩; replace O := over_step O hb; clear hb; refine hK.out _ _ O (fun _ => ?_); clear hK K
       try simp only [Act.put, setIfInBounds_toArray, set_cons_succ, set_cons_zero]
       refine tk 30 33 (v := ?_) O ?_ ?_; rotate_left
       ·intro wq hSq
        go_simp
        try rfl
       simp only [Act.put, setIfInBounds_toArray, set_cons_succ, set_cons_zero]; refine tk 31 34 (v := ?_) O ?_ ?_; rotate_left
       ·intro wq hSq
        go_simp
        try rfl
       simp only [Act.put, setIfInBounds_toArray, set_cons_succ, set_cons_zero]; refine wpAnyH_take (i := 32) (v := undef) rfl (by kernel_rfl) (by kernel_rfl) (by kernel_rfl) (fun _ _ _ h => h) (Or.inr ⟨by rfl, by rfl⟩) O ?_
       change wpAnyH _ _ _ _ _ _ _ (Act.put _ (some 35) _) _
       simp only [Act.put, setIfInBounds_toArray, set_cons_succ, set_cons_zero]; refine wpAnyH_take (i := 33) (v := undef) rfl (by kernel_rfl) (by kernel_rfl) (by kernel_rfl) (fun _ _ _ h => h) (Or.inr ⟨by rfl, by rfl⟩) O ?_
       change wpAnyH _ _ _ _ _ _ _ (Act.put _ (some 36) _) _
       simp only [Act.put, setIfInBounds_toArray, set_cons_succ, set_cons_zero]; refine wpAnyH_take (i := 34) (v := undef) rfl (by kernel_rfl) (by kernel_rfl) (by kernel_rfl) (fun _ _ _ h => h) (Or.inr ⟨by rfl, by rfl⟩) O ?_
       change wpAnyH _ _ _ _ _ _ _ (Act.put _ (some 37) _) _
       simp only [Act.put, setIfInBounds_toArray, set_cons_succ, set_cons_zero]; refine wpAnyH_take (i := 35) (v := undef) rfl (by kernel_rfl) (by kernel_rfl) (by kernel_rfl) (fun _ _ _ h => h) (Or.inr ⟨by rfl, by rfl⟩) O ?_
       change wpAnyH _ _ _ _ _ _ _ (Act.put _ (some 38) _) _
       simp only [Act.put, setIfInBounds_toArray, set_cons_succ, set_cons_zero]; refine wpAnyH_take (i := 36) (v := undef) rfl (by kernel_rfl) (by kernel_rfl) (by kernel_rfl) (fun _ _ _ h => h) (Or.inr ⟨by rfl, by rfl⟩) O ?_
       change wpAnyH _ _ _ _ _ _ _ (Act.put _ (some 39) _) _
       simp only [Act.put, setIfInBounds_toArray, set_cons_succ, set_cons_zero]; refine wpAnyH_take (i := 37) (v := undef) rfl (by kernel_rfl) (by kernel_rfl) (by kernel_rfl) (fun _ _ _ h => h) (Or.inr ⟨by rfl, by rfl⟩) O ?_
       change wpAnyH _ _ _ _ _ _ _ (Act.put _ (some 40) _) _
       simp only [Act.put, setIfInBounds_toArray, set_cons_succ, set_cons_zero]; refine tk 38 41 (v := ?_) O ?_ ?_; rotate_left
       ·intro wq hSq
        go_simp
        try rfl
       simp only [Act.put, setIfInBounds_toArray, set_cons_succ, set_cons_zero]; refine tk 39 42 (v := ?_) O ?_ ?_; rotate_left
       ·intro wq hSq
        go_simp
        try rfl
       simp only [Act.put, setIfInBounds_toArray, set_cons_succ, set_cons_zero]; refine wpAnyH_take (i := 40) (v := undef) rfl (by kernel_rfl) (by kernel_rfl) (by kernel_rfl) (fun _ _ _ h => h) (Or.inr ⟨by rfl, by rfl⟩) O ?_
       change wpAnyH _ _ _ _ _ _ _ (Act.put _ (some 43) _) _
       simp only [Act.put, setIfInBounds_toArray, set_cons_succ, set_cons_zero]; refine wpAnyH_take (i := 41) (v := undef) rfl (by kernel_rfl) (by kernel_rfl) (by kernel_rfl) (fun _ _ _ h => h) (Or.inr ⟨by rfl, by rfl⟩) O ?_
       change wpAnyH _ _ _ _ _ _ _ (Act.put _ (some 44) _) _
       simp only [Act.put, setIfInBounds_toArray, set_cons_succ, set_cons_zero]; refine wpAnyH_take (i := 42) (v := undef) rfl (by kernel_rfl) (by kernel_rfl) (by kernel_rfl) (fun _ _ _ h => h) (Or.inr ⟨by rfl, by rfl⟩) O ?_
       change wpAnyH _ _ _ _ _ _ _ (Act.put _ (some 45) _) _
       simp only [Act.put, setIfInBounds_toArray, set_cons_succ, set_cons_zero]; refine wpAnyH_take (i := 43) (v := undef) rfl (by kernel_rfl) (by kernel_rfl) (by kernel_rfl) (fun _ _ _ h => h) (Or.inr ⟨by rfl, by rfl⟩) O ?_
       change wpAnyH _ _ _ _ _ _ _ (Act.put _ (some 46) _) _
       simp only [Act.put, setIfInBounds_toArray, set_cons_succ, set_cons_zero]; refine tk 44 47 (v := ?_) O ?_ ?_; rotate_left
       ·intro wq hSq
        go_simp
        try rfl
       simp only [Act.put, setIfInBounds_toArray, set_cons_succ, set_cons_zero]; refine rd1 45 fun K hK => ?_
       go_simp
       refine hK.out _ _ O (fun _ => ?_); clear hK K
       try simp only [Act.put, setIfInBounds_toArray, set_cons_succ, set_cons_zero]
       refine wpAnyH_done (by kernel_rfl) ?_ _; go_wp2
       go_ret
       exact ⟨rfl, over_step B0 O⟩
      ·rw [Bool.true_and]
       have HE := Lib.hid hE; clear hE; cases hK : N.rib.all fun E => knowB N.an N.bw E
       ·rw [Bool.false_and]
        have HK := Lib.hid hK; clear hK
        go_enter Tryz.func66, Tryz.ntmps66
        go_wp2_with fail; rw [← hV]; clear hV; refine wp_region_held_drew (S := fun w' => Over V w') (by kernel_rfl) (over_drew V) (fun hHeld => ?_); obtain ⟨u0, e0'⟩ : ∃ u, u = V.drew := ⟨_, rfl⟩; have O : Over V u0 := by rw [e0']; exact over_drew V
        rw [← e0']; clear e0' hHeld; refine tk 0 3 (v := ?_) O ?_ ?_; rotate_left
        ·intro wq hSq
         go_simp
         try rfl
        simp only [Act.put, setIfInBounds_toArray, set_cons_succ, set_cons_zero]; refine tk 1 4 (v := ?_) O ?_ ?_; rotate_left
        ·intro wq hSq
         have q0 := over_cell hSq bA.lt (bA.c 0 rfl)
         go_simp
         try rfl
        simp only [Act.put, setIfInBounds_toArray, set_cons_succ, set_cons_zero]; refine rd1 2 fun K hK => ?_
        go_simp
        refine (numok8 _ HA).mono ?_; rintro e wn ⟨rfl, rfl⟩; refine hK.out _ _ O (fun _ => ?_); clear hK K
        try simp only [Act.put, setIfInBounds_toArray, set_cons_succ, set_cons_zero]
        refine tk 3 6 (v := ?_) O ?_ ?_; rotate_left
        ·intro wq hSq
         go_simp
         try rfl
        simp only [Act.put, setIfInBounds_toArray, set_cons_succ, set_cons_zero]; refine tk 4 7 (v := ?_) O ?_ ?_; rotate_left
        ·intro wq hSq
         go_simp
         try rfl
        simp only [Act.put, setIfInBounds_toArray, set_cons_succ, set_cons_zero]; refine tk 5 8 (v := ?_) O ?_ ?_; rotate_left
        ·intro wq hSq
         have q1 := over_cell hSq bA.lt (bA.c 1 rfl)
         go_simp
         try rfl
        simp only [Act.put, setIfInBounds_toArray, set_cons_succ, set_cons_zero]; refine rd1 6 fun K hK => ?_
        go_simp
        refine (ipfx8 _ (hO.keep O) HO).mono ?_; rintro e wn ⟨rfl, hb⟩; replace O := over_step O hb; clear hb; refine hK.out _ _ O (fun _ => ?_); clear hK K
        try simp only [Act.put, setIfInBounds_toArray, set_cons_succ, set_cons_zero]
        refine tk 7 10 (v := ?_) O ?_ ?_; rotate_left
        ·intro wq hSq
         go_simp
         try rfl
        simp only [Act.put, setIfInBounds_toArray, set_cons_succ, set_cons_zero]; refine tk 8 11 (v := ?_) O ?_ ?_; rotate_left
        ·intro wq hSq
         go_simp
         try rfl
        simp only [Act.put, setIfInBounds_toArray, set_cons_succ, set_cons_zero]; refine tk 9 12 (v := ?_) O ?_ ?_; rotate_left
        ·intro wq hSq
         go_simp
         try rfl
        simp only [Act.put, setIfInBounds_toArray, set_cons_succ, set_cons_zero]; refine tk 10 13 (v := ?_) O ?_ ?_; rotate_left
        ·intro wq hSq
         have q2 := over_cell hSq bA.lt (bA.c 2 rfl)
         go_simp
         try rfl
        simp only [Act.put, setIfInBounds_toArray, set_cons_succ, set_cons_zero]; refine rd1 11 fun K hK => ?_
        go_simp
        refine (within8 _ HB).mono ?_; rintro e wn ⟨rfl, rfl⟩; refine hK.out _ _ O (fun _ => ?_); clear hK K
        try simp only [Act.put, setIfInBounds_toArray, set_cons_succ, set_cons_zero]
        refine tk 12 15 (v := ?_) O ?_ ?_; rotate_left
        ·intro wq hSq
         go_simp
         try rfl
        simp only [Act.put, setIfInBounds_toArray, set_cons_succ, set_cons_zero]; refine tk 13 16 (v := ?_) O ?_ ?_; rotate_left
        ·intro wq hSq
         go_simp
         try rfl
        simp only [Act.put, setIfInBounds_toArray, set_cons_succ, set_cons_zero]; refine tk 14 17 (v := ?_) O ?_ ?_; rotate_left
        ·intro wq hSq
         go_simp
         try rfl
        simp only [Act.put, setIfInBounds_toArray, set_cons_succ, set_cons_zero]; refine tk 15 18 (v := ?_) O ?_ ?_; rotate_left
        ·intro wq hSq
         have q4 := over_cell hSq bA.lt (bA.c 4 rfl)
         go_simp
         try rfl
        simp only [Act.put, setIfInBounds_toArray, set_cons_succ, set_cons_zero]; refine rd1 16 fun K hK => ?_
        go_simp
        refine (irib_t _ (hR.keep O) HR).mono ?_; rintro e wn ⟨rfl, hb⟩; replace O := over_step O hb; clear hb; refine hK.out _ _ O (fun _ => ?_); clear hK K
        try simp only [Act.put, setIfInBounds_toArray, set_cons_succ, set_cons_zero]
        refine tk 17 20 (v := ?_) O ?_ ?_; rotate_left
        ·intro wq hSq
         go_simp
         try rfl
        simp only [Act.put, setIfInBounds_toArray, set_cons_succ, set_cons_zero]; refine tk 18 21 (v := ?_) O ?_ ?_; rotate_left
        ·intro wq hSq
         go_simp
         try rfl
        simp only [Act.put, setIfInBounds_toArray, set_cons_succ, set_cons_zero]; refine tk 19 22 (v := ?_) O ?_ ?_; rotate_left
        ·intro wq hSq
         go_simp
         try rfl
        simp only [Act.put, setIfInBounds_toArray, set_cons_succ, set_cons_zero]; refine tk 20 23 (v := ?_) O ?_ ?_; rotate_left
        ·intro wq hSq
         have q5 := over_cell hSq bA.lt (bA.c 5 rfl)
         go_simp
         try rfl
        simp only [Act.put, setIfInBounds_toArray, set_cons_succ, set_cons_zero]; refine rd1 21 fun K hK => ?_
        go_simp
        refine (irib_t _ (hS.keep O) HS).mono ?_; rintro e wn ⟨rfl, hb⟩; replace O := over_step O hb; clear hb; refine hK.out _ _ O (fun _ => ?_); clear hK K
        try simp only [Act.put, setIfInBounds_toArray, set_cons_succ, set_cons_zero]
        refine tk 22 25 (v := ?_) O ?_ ?_; rotate_left
        ·intro wq hSq
         go_simp
         try rfl
        simp only [Act.put, setIfInBounds_toArray, set_cons_succ, set_cons_zero]; refine tk 23 26 (v := ?_) O ?_ ?_; rotate_left
        ·intro wq hSq
         go_simp
         try rfl
        simp only [Act.put, setIfInBounds_toArray, set_cons_succ, set_cons_zero]; refine tk 24 27 (v := ?_) O ?_ ?_; rotate_left
        ·intro wq hSq
         go_simp
         try rfl
        simp only [Act.put, setIfInBounds_toArray, set_cons_succ, set_cons_zero]; refine tk 25 28 (v := ?_) O ?_ ?_; rotate_left
        ·intro wq hSq
         have q4 := over_cell hSq bA.lt (bA.c 4 rfl)
         go_simp
         try rfl
        simp only [Act.put, setIfInBounds_toArray, set_cons_succ, set_cons_zero]; refine tk 27 30 (v := ?_) O ?_ ?_; rotate_left
        ·intro wq hSq
         go_simp
         try rfl
        simp only [Act.put, setIfInBounds_toArray, set_cons_succ, set_cons_zero]; refine tk 28 31 (v := ?_) O ?_ ?_; rotate_left
        ·intro wq hSq
         have q1 := over_cell hSq bA.lt (bA.c 1 rfl)
         go_simp
         try rfl
        simp only [Act.put, setIfInBounds_toArray, set_cons_succ, set_cons_zero]; refine rd1 26 fun K hK => ?_
        go_simp
        refine (ifr_any rv N.rib (-1) _ (hR.keep O) HLR.out).mono ?_; rintro e wn ⟨u, rfl, hu, hb⟩; replace O := over_step O hb; clear hb; refine hK.out _ _ O (fun _ => ?_); clear hK K
        try simp only [Act.put, setIfInBounds_toArray, set_cons_succ, set_cons_zero]
        replace hu := hu.rd; obtain ⟨ua, uc, rfl⟩ := hu.len; refine rd1 29 fun K hK => ?_
        go_simp
        refine (slL_t _ (hu.keep (Below.refl _ _)) (hO.keep O) HE).mono ?_; rintro e wn ⟨rfl, hb⟩; replace O := over_step O hb; clear hb; refine hK.out _ _ O (fun _ => ?_); clear hK K
        try simp only [Act.put, setIfInBounds_toArray, set_cons_succ, set_cons_zero]
        refine tk 30 33 (v := ?_) O ?_ ?_; rotate_left
        ·intro wq hSq
         go_simp
         try rfl
        simp only [Act.put, setIfInBounds_toArray, set_cons_succ, set_cons_zero]; refine tk 31 34 (v := ?_) O ?_ ?_; rotate_left
        ·intro wq hSq
         go_simp
         try rfl
        simp only [Act.put, setIfInBounds_toArray, set_cons_succ, set_cons_zero]; refine tk 32 35 (v := ?_) O ?_ ?_; rotate_left
        ·intro wq hSq
         go_simp
         try rfl
        simp only [Act.put, setIfInBounds_toArray, set_cons_succ, set_cons_zero]; refine tk 33 36 (v := ?_) O ?_ ?_; rotate_left
        ·intro wq hSq
         go_simp
         try rfl
        simp only [Act.put, setIfInBounds_toArray, set_cons_succ, set_cons_zero]; refine tk 34 37 (v := ?_) O ?_ ?_; rotate_left
        ·intro wq hSq
         have q4 := over_cell hSq bA.lt (bA.c 4 rfl)
         go_simp
         try rfl
        simp only [Act.put, setIfInBounds_toArray, set_cons_succ, set_cons_zero]; refine tk 35 38 (v := ?_) O ?_ ?_; rotate_left
        ·intro wq hSq
         have q0 := over_cell hSq bA.lt (bA.c 0 rfl); have q1 := over_cell hSq bA.lt (bA.c 1 rfl); have q2 := over_cell hSq bA.lt (bA.c 2 rfl); have q3 := over_cell hSq bA.lt (bA.c 3 rfl); have q4 := over_cell hSq bA.lt (bA.c 4 rfl); have q5 := over_cell hSq bA.lt (bA.c 5 rfl)
         go_simp
         try rfl
        simp only [Act.put, setIfInBounds_toArray, set_cons_succ, set_cons_zero]; refine tk 36 39 (v := ?_) O ?_ ?_; rotate_left
        ·intro wq hSq
         go_simp
         try rfl
        simp only [Act.put, setIfInBounds_toArray, set_cons_succ, set_cons_zero]; refine rd1 37 fun K hK => ?_
        go_simp
        refine (ievK_t ov rv sv N _ (hR.keep O) HVR.out HK).mono ?_; rintro e wn ⟨rfl, hb⟩; replace O := over_step O hb; clear hb; refine hK.out _ _ O (fun _ => ?_); clear hK K
        try simp only [Act.put, setIfInBounds_toArray, set_cons_succ, set_cons_zero]
        refine tk 38 41 (v := ?_) O ?_ ?_; rotate_left
        ·intro wq hSq
         go_simp
         try rfl
        simp only [Act.put, setIfInBounds_toArray, set_cons_succ, set_cons_zero]; refine tk 39 42 (v := ?_) O ?_ ?_; rotate_left
        ·intro wq hSq
         go_simp
         try rfl
        simp only [Act.put, setIfInBounds_toArray, set_cons_succ, set_cons_zero]; refine wpAnyH_take (i := 40) (v := undef) rfl (by kernel_rfl) (by kernel_rfl) (by kernel_rfl) (fun _ _ _ h => h) (Or.inr ⟨by rfl, by rfl⟩) O ?_
        change wpAnyH _ _ _ _ _ _ _ (Act.put _ (some 43) _) _
        simp only [Act.put, setIfInBounds_toArray, set_cons_succ, set_cons_zero]; refine wpAnyH_take (i := 41) (v := undef) rfl (by kernel_rfl) (by kernel_rfl) (by kernel_rfl) (fun _ _ _ h => h) (Or.inr ⟨by rfl, by rfl⟩) O ?_
        change wpAnyH _ _ _ _ _ _ _ (Act.put _ (some 44) _) _
        simp only [Act.put, setIfInBounds_toArray, set_cons_succ, set_cons_zero]; refine wpAnyH_take (i := 42) (v := undef) rfl (by kernel_rfl) (by kernel_rfl) (by kernel_rfl) (fun _ _ _ h => h) (Or.inr ⟨by rfl, by rfl⟩) O ?_
        change wpAnyH _ _ _ _ _ _ _ (Act.put _ (some 45) _) _
        simp only [Act.put, setIfInBounds_toArray, set_cons_succ, set_cons_zero]; refine wpAnyH_take (i := 43) (v := undef) rfl (by kernel_rfl) (by kernel_rfl) (by kernel_rfl) (fun _ _ _ h => h) (Or.inr ⟨by rfl, by rfl⟩) O ?_
        change wpAnyH _ _ _ _ _ _ _ (Act.put _ (some 46) _) _
        simp only [Act.put, setIfInBounds_toArray, set_cons_succ, set_cons_zero]; refine tk 44 47 (v := ?_) O ?_ ?_; rotate_left
        ·intro wq hSq
         go_simp
         try rfl
        simp only [Act.put, setIfInBounds_toArray, set_cons_succ, set_cons_zero]; refine rd1 45 fun K hK => ?_
        go_simp
        refine hK.out _ _ O (fun _ => ?_); clear hK K
        try simp only [Act.put, setIfInBounds_toArray, set_cons_succ, set_cons_zero]
        refine wpAnyH_done (by kernel_rfl) ?_ _; go_wp2
        go_ret
        exact ⟨rfl, over_step B0 O⟩
       ·rw [Bool.true_and]
        have HK := Lib.hid hK; clear hK; obtain ⟨g, hg⟩ : ∃ g, (N.sent.all fun E => sendB E) = g := ⟨_, rfl⟩; rw [hg]; have HSS := Lib.hid hg; clear hg
        go_enter Tryz.func66, Tryz.ntmps66
        go_wp2_with fail; rw [← hV]; clear hV; refine wp_region_held_drew (S := fun w' => Over V w') (by kernel_rfl) (over_drew V) (fun hHeld => ?_); obtain ⟨u0, e0'⟩ : ∃ u, u = V.drew := ⟨_, rfl⟩; have O : Over V u0 := by rw [e0']; exact over_drew V
        rw [← e0']; clear e0' hHeld; refine tk 0 3 (v := ?_) O ?_ ?_; rotate_left
        ·intro wq hSq
         go_simp
         try rfl
        simp only [Act.put, setIfInBounds_toArray, set_cons_succ, set_cons_zero]; refine tk 1 4 (v := ?_) O ?_ ?_; rotate_left
        ·intro wq hSq
         have q0 := over_cell hSq bA.lt (bA.c 0 rfl)
         go_simp
         try rfl
        simp only [Act.put, setIfInBounds_toArray, set_cons_succ, set_cons_zero]; refine rd1 2 fun K hK => ?_
        go_simp
        refine (numok8 _ HA).mono ?_; rintro e wn ⟨rfl, rfl⟩; refine hK.out _ _ O (fun _ => ?_); clear hK K
        try simp only [Act.put, setIfInBounds_toArray, set_cons_succ, set_cons_zero]
        refine tk 3 6 (v := ?_) O ?_ ?_; rotate_left
        ·intro wq hSq
         go_simp
         try rfl
        simp only [Act.put, setIfInBounds_toArray, set_cons_succ, set_cons_zero]; refine tk 4 7 (v := ?_) O ?_ ?_; rotate_left
        ·intro wq hSq
         go_simp
         try rfl
        simp only [Act.put, setIfInBounds_toArray, set_cons_succ, set_cons_zero]; refine tk 5 8 (v := ?_) O ?_ ?_; rotate_left
        ·intro wq hSq
         have q1 := over_cell hSq bA.lt (bA.c 1 rfl)
         go_simp
         try rfl
        simp only [Act.put, setIfInBounds_toArray, set_cons_succ, set_cons_zero]; refine rd1 6 fun K hK => ?_
        go_simp
        refine (ipfx8 _ (hO.keep O) HO).mono ?_; rintro e wn ⟨rfl, hb⟩; replace O := over_step O hb; clear hb; refine hK.out _ _ O (fun _ => ?_); clear hK K
        try simp only [Act.put, setIfInBounds_toArray, set_cons_succ, set_cons_zero]
        refine tk 7 10 (v := ?_) O ?_ ?_; rotate_left
        ·intro wq hSq
         go_simp
         try rfl
        simp only [Act.put, setIfInBounds_toArray, set_cons_succ, set_cons_zero]; refine tk 8 11 (v := ?_) O ?_ ?_; rotate_left
        ·intro wq hSq
         go_simp
         try rfl
        simp only [Act.put, setIfInBounds_toArray, set_cons_succ, set_cons_zero]; refine tk 9 12 (v := ?_) O ?_ ?_; rotate_left
        ·intro wq hSq
         go_simp
         try rfl
        simp only [Act.put, setIfInBounds_toArray, set_cons_succ, set_cons_zero]; refine tk 10 13 (v := ?_) O ?_ ?_; rotate_left
        ·intro wq hSq
         have q2 := over_cell hSq bA.lt (bA.c 2 rfl)
         go_simp
         try rfl
        simp only [Act.put, setIfInBounds_toArray, set_cons_succ, set_cons_zero]; refine rd1 11 fun K hK => ?_
        go_simp
        refine (within8 _ HB).mono ?_; rintro e wn ⟨rfl, rfl⟩; refine hK.out _ _ O (fun _ => ?_); clear hK K
        try simp only [Act.put, setIfInBounds_toArray, set_cons_succ, set_cons_zero]
        refine tk 12 15 (v := ?_) O ?_ ?_; rotate_left
        ·intro wq hSq
         go_simp
         try rfl
        simp only [Act.put, setIfInBounds_toArray, set_cons_succ, set_cons_zero]; refine tk 13 16 (v := ?_) O ?_ ?_; rotate_left
        ·intro wq hSq
         go_simp
         try rfl
        simp only [Act.put, setIfInBounds_toArray, set_cons_succ, set_cons_zero]; refine tk 14 17 (v := ?_) O ?_ ?_; rotate_left
        ·intro wq hSq
         go_simp
         try rfl
        simp only [Act.put, setIfInBounds_toArray, set_cons_succ, set_cons_zero]; refine tk 15 18 (v := ?_) O ?_ ?_; rotate_left
        ·intro wq hSq
         have q4 := over_cell hSq bA.lt (bA.c 4 rfl)
         go_simp
         try rfl
        simp only [Act.put, setIfInBounds_toArray, set_cons_succ, set_cons_zero]; refine rd1 16 fun K hK => ?_
        go_simp
        refine (irib_t _ (hR.keep O) HR).mono ?_; rintro e wn ⟨rfl, hb⟩; replace O := over_step O hb; clear hb; refine hK.out _ _ O (fun _ => ?_); clear hK K
        try simp only [Act.put, setIfInBounds_toArray, set_cons_succ, set_cons_zero]
        refine tk 17 20 (v := ?_) O ?_ ?_; rotate_left
        ·intro wq hSq
         go_simp
         try rfl
        simp only [Act.put, setIfInBounds_toArray, set_cons_succ, set_cons_zero]; refine tk 18 21 (v := ?_) O ?_ ?_; rotate_left
        ·intro wq hSq
         go_simp
         try rfl
        simp only [Act.put, setIfInBounds_toArray, set_cons_succ, set_cons_zero]; refine tk 19 22 (v := ?_) O ?_ ?_; rotate_left
        ·intro wq hSq
         go_simp
         try rfl
        simp only [Act.put, setIfInBounds_toArray, set_cons_succ, set_cons_zero]; refine tk 20 23 (v := ?_) O ?_ ?_; rotate_left
        ·intro wq hSq
         have q5 := over_cell hSq bA.lt (bA.c 5 rfl)
         go_simp
         try rfl
        simp only [Act.put, setIfInBounds_toArray, set_cons_succ, set_cons_zero]; refine rd1 21 fun K hK => ?_
        go_simp
        refine (irib_t _ (hS.keep O) HS).mono ?_; rintro e wn ⟨rfl, hb⟩; replace O := over_step O hb; clear hb; refine hK.out _ _ O (fun _ => ?_); clear hK K
        try simp only [Act.put, setIfInBounds_toArray, set_cons_succ, set_cons_zero]
        refine tk 22 25 (v := ?_) O ?_ ?_; rotate_left
        ·intro wq hSq
         go_simp
         try rfl
        simp only [Act.put, setIfInBounds_toArray, set_cons_succ, set_cons_zero]; refine tk 23 26 (v := ?_) O ?_ ?_; rotate_left
        ·intro wq hSq
         go_simp
         try rfl
        simp only [Act.put, setIfInBounds_toArray, set_cons_succ, set_cons_zero]; refine tk 24 27 (v := ?_) O ?_ ?_; rotate_left
        ·intro wq hSq
         go_simp
         try rfl
        simp only [Act.put, setIfInBounds_toArray, set_cons_succ, set_cons_zero]; refine tk 25 28 (v := ?_) O ?_ ?_; rotate_left
        ·intro wq hSq
         have q4 := over_cell hSq bA.lt (bA.c 4 rfl)
         go_simp
         try rfl
        simp only [Act.put, setIfInBounds_toArray, set_cons_succ, set_cons_zero]; refine tk 27 30 (v := ?_) O ?_ ?_; rotate_left
        ·intro wq hSq
         go_simp
         try rfl
        simp only [Act.put, setIfInBounds_toArray, set_cons_succ, set_cons_zero]; refine tk 28 31 (v := ?_) O ?_ ?_; rotate_left
        ·intro wq hSq
         have q1 := over_cell hSq bA.lt (bA.c 1 rfl)
         go_simp
         try rfl
        simp only [Act.put, setIfInBounds_toArray, set_cons_succ, set_cons_zero]; refine rd1 26 fun K hK => ?_
        go_simp
        refine (ifr_any rv N.rib (-1) _ (hR.keep O) HLR.out).mono ?_; rintro e wn ⟨u, rfl, hu, hb⟩; replace O := over_step O hb; clear hb; refine hK.out _ _ O (fun _ => ?_); clear hK K
        try simp only [Act.put, setIfInBounds_toArray, set_cons_succ, set_cons_zero]
        replace hu := hu.rd; obtain ⟨ua, uc, rfl⟩ := hu.len; refine rd1 29 fun K hK => ?_
        go_simp
        refine (slL_t _ (hu.keep (Below.refl _ _)) (hO.keep O) HE).mono ?_; rintro e wn ⟨rfl, hb⟩; replace O := over_step O hb; clear hb; refine hK.out _ _ O (fun _ => ?_); clear hK K
        try simp only [Act.put, setIfInBounds_toArray, set_cons_succ, set_cons_zero]
        refine tk 30 33 (v := ?_) O ?_ ?_; rotate_left
        ·intro wq hSq
         go_simp
         try rfl
        simp only [Act.put, setIfInBounds_toArray, set_cons_succ, set_cons_zero]; refine tk 31 34 (v := ?_) O ?_ ?_; rotate_left
        ·intro wq hSq
         go_simp
         try rfl
        simp only [Act.put, setIfInBounds_toArray, set_cons_succ, set_cons_zero]; refine tk 32 35 (v := ?_) O ?_ ?_; rotate_left
        ·intro wq hSq
         go_simp
         try rfl
        simp only [Act.put, setIfInBounds_toArray, set_cons_succ, set_cons_zero]; refine tk 33 36 (v := ?_) O ?_ ?_; rotate_left
        ·intro wq hSq
         go_simp
         try rfl
        simp only [Act.put, setIfInBounds_toArray, set_cons_succ, set_cons_zero]; refine tk 34 37 (v := ?_) O ?_ ?_; rotate_left
        ·intro wq hSq
         have q4 := over_cell hSq bA.lt (bA.c 4 rfl)
         go_simp
         try rfl
        simp only [Act.put, setIfInBounds_toArray, set_cons_succ, set_cons_zero]; refine tk 35 38 (v := ?_) O ?_ ?_; rotate_left
        ·intro wq hSq
         have q0 := over_cell hSq bA.lt (bA.c 0 rfl); have q1 := over_cell hSq bA.lt (bA.c 1 rfl); have q2 := over_cell hSq bA.lt (bA.c 2 rfl); have q3 := over_cell hSq bA.lt (bA.c 3 rfl); have q4 := over_cell hSq bA.lt (bA.c 4 rfl); have q5 := over_cell hSq bA.lt (bA.c 5 rfl)
         go_simp
         try rfl
        simp only [Act.put, setIfInBounds_toArray, set_cons_succ, set_cons_zero]; refine tk 36 39 (v := ?_) O ?_ ?_; rotate_left
        ·intro wq hSq
         go_simp
         try rfl
        simp only [Act.put, setIfInBounds_toArray, set_cons_succ, set_cons_zero]; refine rd1 37 fun K hK => ?_
        go_simp
        refine (ievK_t ov rv sv N _ (hR.keep O) HVR.out HK).mono ?_; rintro e wn ⟨rfl, hb⟩; replace O := over_step O hb; clear hb; refine hK.out _ _ O (fun _ => ?_); clear hK K
        try simp only [Act.put, setIfInBounds_toArray, set_cons_succ, set_cons_zero]
        refine tk 38 41 (v := ?_) O ?_ ?_; rotate_left
        ·intro wq hSq
         go_simp
         try rfl
        simp only [Act.put, setIfInBounds_toArray, set_cons_succ, set_cons_zero]; refine tk 39 42 (v := ?_) O ?_ ?_; rotate_left
        ·intro wq hSq
         go_simp
         try rfl
        simp only [Act.put, setIfInBounds_toArray, set_cons_succ, set_cons_zero]; refine tk 40 43 (v := ?_) O ?_ ?_; rotate_left
        ·intro wq hSq
         go_simp
         try rfl
        simp only [Act.put, setIfInBounds_toArray, set_cons_succ, set_cons_zero]; refine tk 41 44 (v := ?_) O ?_ ?_; rotate_left
        ·intro wq hSq
         go_simp
         try rfl
        simp only [Act.put, setIfInBounds_toArray, set_cons_succ, set_cons_zero]; refine tk 42 45 (v := ?_) O ?_ ?_; rotate_left
        ·intro wq hSq
         have q5 := over_cell hSq bA.lt (bA.c 5 rfl)
         go_simp
         try rfl
        simp only [Act.put, setIfInBounds_toArray, set_cons_succ, set_cons_zero]; refine rd1 43 fun K hK => ?_
        go_simp
        refine (ievS_t _ (hS.keep O) HSS).mono ?_; rintro e wn ⟨rfl, hb⟩; replace O := over_step O hb; clear hb; refine hK.out _ _ O (fun _ => ?_); clear hK K
        try simp only [Act.put, setIfInBounds_toArray, set_cons_succ, set_cons_zero]
        refine tk 44 47 (v := ?_) O ?_ ?_; rotate_left
        ·intro wq hSq
         go_simp
         try rfl
        simp only [Act.put, setIfInBounds_toArray, set_cons_succ, set_cons_zero]; refine rd1 45 fun K hK => ?_
        go_simp
        refine hK.out _ _ O (fun _ => ?_); clear hK K
        try simp only [Act.put, setIfInBounds_toArray, set_cons_succ, set_cons_zero]
        refine wpAnyH_done (by kernel_rfl) ?_ _; go_wp2
        go_ret
        exact ⟨rfl, over_step B0 O⟩
end Go.Proofs.YtbcmoofpgffbhabGreat
namespace Go.Proofs.YtbcmoofpgffbhabGreat
open Go.ChangeShapes Go.WideShapes Go.ChangeAt Go.RowKit Go.BigFrame Go.Joins
set_option linter.unusedVariables false
set_option maxRecDepth 100000

def nm (a b : Int) : Int := Lib.compareInt a b
theorem snum_any (a b : Int) (w : World) : Calls Tryz.prog 196 #[.int .i64 a, .int .i64 b] w fun e w' => e = .returned (.int .i64 (nm a b)) ∧ w = w' := by
 by_cases h0 : a < b
 ·have e : nm a b = -1 := by simp [nm, Lib.compareInt, h0]
  rw [e]; clear e
  go_enter Tryz.func196, Tryz.ntmps196
  go_wp2
  go_ret
  exact ⟨rfl, rfl⟩
 ·by_cases h1 : b < a
  ·have e : nm a b = 1 := by simp only [nm, Lib.compareInt]; split <;> first | omega | (split <;> omega)
   rw [e]; clear e
   go_enter Tryz.func196, Tryz.ntmps196
   go_wp2
   go_ret
   exact ⟨rfl, rfl⟩
  ·have e : nm a b = 0 := by simp only [nm, Lib.compareInt]; split <;> first | omega | (split <;> omega)
   rw [e]; clear e
   go_enter Tryz.func196, Tryz.ntmps196
   go_wp2
   go_ret
   exact ⟨rfl, rfl⟩
theorem nm_zero (a b : Int) : nm a b = 0 ↔ a = b := by
 unfold nm Lib.compareInt
 split
 ·constructor <;> intro h <;> omega
 ·split
  ·constructor <;> intro h <;> omega
  ·constructor <;> intro h <;> omega
/-- the rank: greater preference first, then the shorter path -/
def rk (pr : Int) (pl : Nat) (pr' : Int) (pl' : Nat) : Int := if pr = pr' then nm pl pl' else nm pr' pr
theorem srank_any (pa ca qa da : Option Addr) (pd cd qd dd : Nat) (p c q d : List Int) (pr bw pr' bw' : Int) (w : World) (hpl : p.length ≤ 8) (hql : q.length ≤ 8) :
  Calls Tryz.prog 194 #[.agg #[.slice pa p.length pd, .int .i64 pr, .slice ca c.length cd, .int .i64 bw], .agg #[.slice qa q.length qd, .int .i64 pr', .slice da d.length dd, .int .i64 bw']] w fun e w' => e = .returned (.int .i64 (rk pr p.length pr' q.length)) ∧ Below w.heap.size w w' := by
 have bA := Bx.new w (.slice pa p.length pd) (.int .i64 pr) (.slice ca c.length cd) (.int .i64 bw) 50 w.heap.size rfl; have z0 : (w.alloc (.cells #[.slice pa p.length pd, .int .i64 pr, .slice ca c.length cd, .int .i64 bw] 50)).heap.size = w.heap.size + 1 := by simp
 have bB := Bx.new (w.alloc (.cells #[.slice pa p.length pd, .int .i64 pr, .slice ca c.length cd, .int .i64 bw] 50)) (.slice qa q.length qd) (.int .i64 pr') (.slice da d.length dd) (.int .i64 bw') 50 (w.heap.size + 1) z0.symm; replace bA := bA.alloc (.cells #[.slice qa q.length qd, .int .i64 pr', .slice da d.length dd, .int .i64 bw'] 50); have B1 : Below w.heap.size w ((w.alloc (.cells #[.slice pa p.length pd, .int .i64 pr, .slice ca c.length cd, .int .i64 bw] 50)).alloc (.cells #[.slice qa q.length qd, .int .i64 pr', .slice da d.length dd, .int .i64 bw'] 50)) := ((Below.refl _ _).alloc (Nat.le_refl _) _).alloc (by rw [z0]; omega) _; clear z0
 by_cases h : pr = pr'
 ·skip
  rw [show rk pr p.length pr' q.length = nm p.length q.length by simp [rk, h]]; have hne : (pr != pr') = false := by simp [h]
  clear h
  go_enter Tryz.func194, Tryz.ntmps194
  have kA0 := bA.c0; have kA1 := bA.c1; have kA2 := bA.c2; have kA3 := bA.c3; have kB0 := bB.c0; have kB1 := bB.c1; have kB2 := bB.c2; have kB3 := bB.c3; go_wp2_with fail; clear kA0 kA1 kA2 kA3 kB0 kB1 kB2 kB3; refine (snum_any _ _ _).mono ?_; rintro e w1 ⟨rfl, rfl⟩; go_wp2
  go_ret
  exact ⟨rfl, B1⟩
 ·skip
  rw [show rk pr p.length pr' q.length = nm pr' pr by simp [rk, h]]; have hne : (pr != pr') = true := by simp [h]
  clear h
  go_enter Tryz.func194, Tryz.ntmps194
  have kA0 := bA.c0; have kA1 := bA.c1; have kA2 := bA.c2; have kA3 := bA.c3; have kB0 := bB.c0; have kB1 := bB.c1; have kB2 := bB.c2; have kB3 := bB.c3; go_wp2_with fail; clear kA0 kA1 kA2 kA3 kB0 kB1 kB2 kB3; refine (snum_any _ _ _).mono ?_; rintro e w1 ⟨rfl, rfl⟩; go_wp2
  go_ret
  exact ⟨rfl, B1⟩
end Go.Proofs.YtbcmoofpgffbhabGreat
namespace Go.Proofs.YtbcmoofpgffbhabGreat
open Go.ChangeShapes Go.WideShapes Go.ChangeAt Go.RowKit Go.BigFrame Go.Joins
set_option linter.unusedVariables false
set_option maxRecDepth 100000

end Go.Proofs.YtbcmoofpgffbhabGreat
namespace Go.Proofs.YtbcmoofpgffbhabGreat
open Go.ChangeShapes Go.WideShapes Go.ChangeAt Go.RowKit Go.BigFrame Go.Joins
set_option linter.unusedVariables false
set_option maxRecDepth 100000

/-- element by element, a proper beginning first -/
def lx : List Int → List Int → Int
 | [], [] => 0
 | [], _ :: _ => -1
 | _ :: _, [] => 1
 | x :: l, y :: m => if nm x y = 0 then lx l m else nm x y
theorem lx_drop : ∀ (k : Nat) (l m : List Int), l.take k = m.take k → k ≤ l.length → k ≤ m.length → lx l m = lx (l.drop k) (m.drop k)
 | 0, l, m, _, _, _ => by simp
 | k + 1, [], m, _, h, _ => by simp at h
 | k + 1, x :: l, [], _, _, h => by simp at h
 | k + 1, x :: l, y :: m, h, h1, h2 => by
  simp only [List.take_succ_cons, List.cons.injEq] at h; obtain ⟨rfl, h⟩ := h; have := lx_drop k l m h (by simpa using h1) (by simpa using h2); simp only [lx, (nm_zero x x).2 rfl, if_true, List.drop_succ_cons]
  exact this
theorem lx_ne {l m : List Int} {k : Nat} {x y : Int} (h : l.take k = m.take k) (h1 : k < l.length) (h2 : k < m.length) (hx : l.getD k 0 = x) (hy : m.getD k 0 = y) (hne : x ≠ y) : lx l m = nm x y := by
 rw [lx_drop k l m h (by omega) (by omega), List.drop_eq_getElem_cons h1, List.drop_eq_getElem_cons h2]; have e1 : l.getD k 0 = l[k] := by simp [List.getD, h1]
 have e2 : m.getD k 0 = m[k] := by simp [List.getD, h2]
 rw [← e1, ← e2, hx, hy]; simp only [lx]; rw [if_neg (fun h => hne ((nm_zero x y).1 h))]
theorem lx_end {l m : List Int} {k : Nat} (h : l.take k = m.take k) (h1 : k ≤ l.length) (h2 : k ≤ m.length) (he : k = l.length ∨ k = m.length) : lx l m = if l.length < m.length then -1 else if m.length < l.length then 1 else 0 := by
 rw [lx_drop k l m h h1 h2]
 rcases he with rfl | rfl
 ·rw [List.drop_eq_nil_of_le (Nat.le_refl l.length)]
  by_cases hlt : l.length < m.length
  ·rw [if_pos hlt, List.drop_eq_getElem_cons hlt]
   rfl
  ·rw [if_neg hlt, if_neg (by omega), List.drop_eq_nil_of_le (by omega)]
   rfl
 ·rw [List.drop_eq_nil_of_le (Nat.le_refl m.length)]
  by_cases hlt : m.length < l.length
  ·rw [if_neg (by omega), if_pos hlt, List.drop_eq_getElem_cons hlt]
   rfl
  ·rw [if_neg (by omega), if_neg hlt, List.drop_eq_nil_of_le (by omega)]
   rfl
theorem nm_lt {x y : Int} (h : x < y) : nm x y = -1 := by simp [nm, Lib.compareInt, h]
theorem nm_gt {x y : Int} (h : y < x) : nm x y = 1 := by simp only [nm, Lib.compareInt]; split <;> first | omega | (split <;> omega)

theorem slist_any (v u : Value) (l m : List Int) (w : World) (h1 : RdI w v l) (h2 : RdI w u m) :
  Calls Tryz.prog 195 #[v, u] w fun e w' => e = .returned (.int .i64 (lx l m)) ∧ Below w.heap.size w w' := by
 have hm := h1.2.1; have hm' := h2.2.1; unfold maxLen at hm hm'; obtain ⟨a, c, rfl, hc⟩ := h1.el; obtain ⟨a', c', rfl, hc'⟩ := h2.el; obtain ⟨n, hn⟩ : ∃ n, n = l.length := ⟨_, rfl⟩; obtain ⟨n', hn'⟩ : ∃ n, n = m.length := ⟨_, rfl⟩; rw [← hn] at hc hm ⊢; rw [← hn'] at hc' hm' ⊢; have HN := Lib.hid hn; have HN' := Lib.hid hn'; clear h1 h2 hn hn'
 go_enter Tryz.func195, Tryz.ntmps195
 go_wp2
 go_loopw [5] (fun q wr => ∃ k : Nat, k ≤ n ∧ k ≤ n' ∧ q = .int .i64 k ∧ l.take k = m.take k ∧ Below w.heap.size w wr) (fun q _ => n - (intOf q).toNat)
 case atStart => exact ⟨0, Nat.zero_le _, Nat.zero_le _, rfl, rfl, Below.refl _ _⟩
 case round =>
  obtain ⟨k, hk, hk', rfl, ht, hB⟩ := hrel; have HT := Lib.hid ht; clear ht
  by_cases hlt : k < n ∧ k < n'
  ·obtain ⟨hlt, hlt'⟩ := hlt
   have hltI : (k : Int) < (n : Int) := by omega
   have hltI' : (k : Int) < (n' : Int) := by omega
   obtain ⟨b, o, rfl, e1⟩ := hc k hlt; obtain ⟨b', o', rfl, e2⟩ := hc' k hlt'; replace e1 := cell_keep hB (World.block_lt_of_cell? w _ e1) e1; replace e2 := cell_keep hB (World.block_lt_of_cell? w _ e2) e2; obtain ⟨x, hx⟩ : ∃ x, l.getD k 0 = x := ⟨_, rfl⟩; obtain ⟨y, hy⟩ : ∃ y, m.getD k 0 = y := ⟨_, rfl⟩; rw [hx] at e1; rw [hy] at e2; have HX := Lib.hid hx; have HY := Lib.hid hy; clear hx hy hc hc'
   by_cases hxy : x < y
   ·have HF := Lib.hid ((lx_ne HT.out (by rw [← HN.out]; exact hlt) (by rw [← HN'.out]; exact hlt') HX.out HY.out (by omega)).trans (nm_lt hxy))
    go_wp2
    first | (go_quiet (fail); go_wp2) | skip
    go_ret
    exact ⟨ret_int (by rw [HF.out]), by first | exact hB | exact below_drewN hB _⟩
   ·by_cases hyx : y < x
    ·have HF := Lib.hid ((lx_ne HT.out (by rw [← HN.out]; exact hlt) (by rw [← HN'.out]; exact hlt') HX.out HY.out (by omega)).trans (nm_gt hyx))
     go_wp2
     first | (go_quiet (fail); go_wp2; first | (go_quiet (fail); go_wp2) | skip) | skip
     go_ret
     exact ⟨ret_int (by rw [HF.out]), by first | exact hB | exact below_drewN hB _ | exact below_drewN (below_drewN hB _) _⟩
    ·have HE := Lib.hid (show x = y by omega)
     go_wp2
     first | (go_quiet (fail); go_wp2; first | (go_quiet (fail); go_wp2) | skip) | skip
     go_roundw
     case rel => exact ⟨k + 1, by omega, by omega, by go_num, take_eq_succ_I HT.out (by rw [← HN.out]; exact hlt) (by rw [← HN'.out]; exact hlt') (by rw [HX.out, HY.out, HE.out]), by first | exact hB | exact below_drewN hB _ | exact below_drewN (below_drewN hB _) _⟩
     case measure => simp [intOf]; omega
  ·have HF := Lib.hid (lx_end HT.out (by rw [← HN.out]; exact hk) (by rw [← HN'.out]; exact hk') (by rw [← HN.out, ← HN'.out]; omega))
   have HL := Lib.hid hlt; clear hc hc'
   by_cases hk1 : k < n
   ·have hkn : n' < n := by omega
    have hq1 : (k : Int) < (n : Int) := by omega
    have hq2 : ¬ (k : Int) < (n' : Int) := by omega
    have hq3 : (n' : Int) < (n : Int) := by omega
    go_wp2
    go_ret
    exact ⟨ret_int (by rw [HF.out, ← HN.out, ← HN'.out, if_neg (by omega), if_pos hkn]), hB⟩
   ·by_cases hnn : n < n'
    ·go_wp2
     go_ret
     exact ⟨ret_int (by rw [HF.out, ← HN.out, ← HN'.out, if_pos hnn]), hB⟩
    ·have hq : n = n' := by omega
     have hq3 : ¬ (n' : Int) < (n : Int) := by omega
     go_wp2
     go_ret
     exact ⟨ret_int (by rw [HF.out, ← HN.out, ← HN'.out, if_neg hnn, if_neg (by omega)]), hB⟩
end Go.Proofs.YtbcmoofpgffbhabGreat
