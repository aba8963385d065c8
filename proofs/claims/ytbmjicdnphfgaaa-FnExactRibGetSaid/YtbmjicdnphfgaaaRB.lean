/-
  RibGet of the program. Conditions: those in each contract.
-/
import Derived.Test.YtbmjicdnphfgaaaRA
import Derived.Test.YtbmjicdnphfgaaaF3
import Derived.Test.YtbmjicdnphfgaaaI7
namespace Go.Proofs.Ytbmjicdnphfgaaa
open Go.ChangeShapes Go.WideShapes Go.ChangeAt Go.RowKit Go.BigFrame Go.Joins Go.Shelf
set_option linter.unusedVariables false
set_option maxRecDepth 100000
set_option linter.unusedSimpArgs false
set_option maxRecDepth 100000

theorem keeps_below {W W' : World} (h : Below W.heap.size W W') : KeepsOthers W W' :=
  ⟨h.size, fun k o hk _ => (h.block k (Array.getElem?_eq_some_iff.1 hk).1).trans hk⟩
theorem ownI_abides {X Y : World} {base : Nat} {v : Value} {l : List Int} {row : Option Nat} (h : OwnI X base v l) (hg : X.grownBy Y row) (hr : ∀ r, row = some r → ∃ o : Obj, X.heap[r]? = some o ∧ o.isCells = false) : OwnI Y base v l := by
  refine World.ownsRow.kept h hg ?_
  rcases h.2 with ⟨rfl, _⟩ | ⟨g, cap, cur, rfl, _, hgb, _⟩
  · exact .inl rfl
  · refine .inr fun e' => ?_
    obtain ⟨o, ho, hc⟩ := hr g (by simpa [Value.ownBlock] using e'.symm)
    rw [hgb] at ho
    cases ho
    cases hc
/-- the first of the first k entries of that prefix and peer -/
def getJ (L : List Ent) (a n pe : Int) : Nat → Option Nat
  | 0 => none
  | k + 1 => match getJ L a n pe k with
    | some j => some j
    | none => if isP L a n k && decide ((L.getD k e0).pe = pe) then some k else none
theorem getJ_none {L : List Ent} {a n pe : Int} : ∀ k, (∀ i, i < k → isP L a n i = true → (L.getD i e0).pe ≠ pe) → getJ L a n pe k = none
  | 0, _ => rfl
  | k + 1, h => by
    have h1 := getJ_none k fun i hi => h i (by omega)
    unfold getJ
    rw [h1]
    cases hp : isP L a n k
    · rfl
    · rw [decide_eq_false (h k (by omega) hp)]; rfl
theorem getJ_keep {L : List Ent} {a n pe : Int} {j : Nat} : ∀ k m, k ≤ m → getJ L a n pe k = some j → getJ L a n pe m = some j
  | k, 0, h, hj => by rw [Nat.le_zero.1 h] at hj; exact hj
  | k, m + 1, h, hj => by
    by_cases e : k = m + 1
    · rw [← e]; exact hj
    · have h1 := getJ_keep k m (by omega) hj
      unfold getJ
      rw [h1]
theorem getJ_some {L : List Ent} {a n pe : Int} {j m : Nat} (hj : j < m) (hp : isP L a n j = true) (he : (L.getD j e0).pe = pe) (hno : ∀ i, i < j → isP L a n i = true → (L.getD i e0).pe ≠ pe) : getJ L a n pe m = some j := by
  refine getJ_keep (j + 1) m hj ?_
  have h1 := getJ_none j hno
  unfold getJ
  rw [h1, hp, decide_eq_true he]
  rfl
theorem getJ_lt {L : List Ent} {a n pe : Int} {j : Nat} : ∀ {k}, getJ L a n pe k = some j → j < k
  | 0, h => by cases h
  | k + 1, h => by
    unfold getJ at h
    split at h
    · rename_i i hi
      cases h
      have := getJ_lt hi
      omega
    · split at h
      · cases h; omega
      · cases h
def getR (L : List Ent) (a n pe : Int) : Option Nat := if ribB L then getJ L a n pe L.length else none
def getE (L : List Ent) (a n pe : Int) : Ent := match getR L a n pe with | some j => L.getD j e0 | none => e0
/-- what RibGet answers -/
def GetR (w : World) (L : List Ent) (a n pe : Int) (e : Ending) (w' : World) : Prop :=
  ∃ pa px ca cx, e = .returned (.tuple #[.agg #[.slice pa (getE L a n pe).p.length px, .int .i64 (getE L a n pe).pr, .slice ca (getE L a n pe).c.length cx, .int .i64 (getE L a n pe).bw], .bool (getR L a n pe).isSome]) ∧
    OwnI w' w.heap.size (.slice pa (getE L a n pe).p.length px) (getE L a n pe).p ∧ OwnI w' w.heap.size (.slice ca (getE L a n pe).c.length cx) (getE L a n pe).c ∧ Apart (.slice pa (getE L a n pe).p.length px) (.slice ca (getE L a n pe).c.length cx) ∧ Below w.heap.size w w'
theorem ownI_nil (w : World) (b : Nat) : OwnI w b (.slice none 0 0) [] := World.ownsRow_nil _ _ _ _
theorem apart_nilR : Apart (.slice none 0 0) (.slice none 0 0) := ⟨.inl rfl, .inl rfl⟩
set_option maxHeartbeats 4000000 in
theorem iget_any (v : Value) (L : List Ent) (a n pe : Int) (w : World) (h : RdE w v L) (hlp : ∀ j, j < L.length → (L.getD j e0).p.length ≤ 1048576 ∧ (L.getD j e0).c.length ≤ 1048576) :
    Calls Try.prog 12 #[.agg #[v], .agg #[.int .i64 a, .int .i64 n], .int .i64 pe] w (GetR w L a n pe) := by
  obtain ⟨p, c, rfl⟩ := h.len
  obtain ⟨bF, bX, bP, B1, z⟩ := three w [.slice p L.length c] [.int .i64 a, .int .i64 n] [.int .i64 pe] 35 PT 3
  obtain ⟨bG, bB, B2, z2⟩ := two (((w.alloc (.cells #[.slice p L.length c] 35)).alloc (.cells #[.int .i64 a, .int .i64 n] PT)).alloc (.cells #[.int .i64 pe] 3)) [.slice none 0 0, .int .i64 0, .slice none 0 0, .int .i64 0] [.bool false] 30 4
  replace bF := bF.keep B2
  replace bX := bX.keep B2
  replace bP := bP.keep B2
  replace B1 := below_step B1 B2
  rw [z] at bG bB z2
  clear B2 z
  have hR := h.keep B1
  have hsem := Oper.semAt_some
  obtain ⟨V, hV⟩ : ∃ V, V = (((((w.alloc (.cells #[.slice p L.length c] 35)).alloc (.cells #[.int .i64 a, .int .i64 n] PT)).alloc (.cells #[.int .i64 pe] 3)).alloc (.cells #[.slice none 0 0, .int .i64 0, .slice none 0 0, .int .i64 0] 30)).alloc (.cells #[.bool false] 4)) := ⟨_, rfl⟩
  rw [← hV] at bF bX bP bG bB B1 z2 hR
  obtain ⟨g, hF⟩ : ∃ g, ribB L = g := ⟨_, rfl⟩
  have HF := Lib.hid hF
  refine (callsIn_wide (n := 6)).1 ?_
  refine callsIn_of_wp_marks Try.func12 rfl trivial ?_ rfl
  simp only [Try.ntmps12, List.size_toArray, List.length_cons, List.length_nil, Nat.reduceAdd, Nat.reduceSub, Array.replicate_succ, Array.replicate_zero, List.push_toArray, List.append_toArray, List.nil_append, List.cons_append]
  gi_wp2_with fail
  rw [← hV]
  obtain ⟨A, hA⟩ : ∃ A, A = w.heap.size := ⟨_, rfl⟩
  rw [← hA] at bF bX bP bG bB z2
  rw [← hA]
  have hwA : w.heap.size ≤ A := Nat.le_of_eq hA.symm
  clear hV hA
  have hAV : A + 5 = V.heap.size := z2.symm
  clear z2
  refine ⟨trivial, (callsIn_wide.2 (irib_t _ hR HF)).mono ?_⟩
  rintro e w1 ⟨rfl, hb⟩
  replace bF := bF.keep hb
  replace bX := bX.keep hb
  replace bP := bP.keep hb
  replace bG := bG.keep hb
  replace bB := bB.keep hb
  replace B1 := below_step B1 hb
  have hA1 : A + 5 ≤ w1.heap.size := by have := hb.size; omega
  clear hb hR hAV
  have bGc0 := bG.c 0 rfl
  have bGf0 := bG.f 0 rfl
  have bGc1 := bG.c 1 rfl
  have bGf1 := bG.f 1 rfl
  have bGc2 := bG.c 2 rfl
  have bGf2 := bG.f 2 rfl
  have bGc3 := bG.c 3 rfl
  have bGf3 := bG.f 3 rfl
  have bBc0 := bB.c 0 rfl
  have bBf0 := bB.f 0 rfl
  have ff0 := bF.c 0 rfl
  have xx0 := bX.c 0 rfl
  have xx1 := bX.c 1 rfl
  cases g
  · have HG : Hid (getR L a n pe = none) := Lib.hid (by unfold getR; rw [hF]; rfl)
    clear hF
    gi_wp2_with fail
    have bE := (((((bG.set 0 (.slice none 0 0)).set 1 (.int .i64 0)).set 2 (.slice none 0 0)).set 3 (.int .i64 0)).far (C := A + 4) (o := 0) (u := .bool false) (by omega))
    have bH := (((((bB.far (C := A + 3) (o := 0) (u := .slice none 0 0) (by omega)).far (C := A + 3) (o := 1) (u := .int .i64 0) (by omega)).far (C := A + 3) (o := 2) (u := .slice none 0 0) (by omega)).far (C := A + 3) (o := 3) (u := .int .i64 0) (by omega)).set 0 (.bool false))
    have y0 := bE.c 0 rfl
    have y1 := bE.c 1 rfl
    have y2 := bE.c 2 rfl
    have y3 := bE.c 3 rfl
    have y4 := bH.c 0 rfl
    have hlg : getE L a n pe = e0 := by unfold getE; rw [HG.out]
    refine ⟨.tuple #[.agg #[.slice none 0 0, .int .i64 0, .slice none 0 0, .int .i64 0], .bool false], ?_, none, 0, none, 0, by rw [hlg, HG.out]; rfl, by rw [hlg]; exact ownI_nil _ _, by rw [hlg]; exact ownI_nil _ _, by rw [hlg]; exact apart_nilR, ?_⟩
    · simp [results, Try.f12, go_sem, y0, y1, y2, y3, y4]
    · exact (((((B1.setCell (p := ⟨A + 3, 0, none⟩) (by show _ ≤ A + 3; omega) (.slice none 0 0)).setCell (p := ⟨A + 3, 1, none⟩) (by show _ ≤ A + 3; omega) (.int .i64 0)).setCell (p := ⟨A + 3, 2, none⟩) (by show _ ≤ A + 3; omega) (.slice none 0 0)).setCell (p := ⟨A + 3, 3, none⟩) (by show _ ≤ A + 3; omega) (.int .i64 0)).setCell (p := ⟨A + 4, 0, none⟩) (by show _ ≤ A + 4; omega) (.bool false))
  · have HG : Hid (getR L a n pe = getJ L a n pe L.length) := Lib.hid (by unfold getR; rw [hF]; rfl)
    clear hF
    gi_wp2_with fail
    clear bGc0 bGf0 bGc1 bGf1 bGc2 bGf2 bGc3 bGf3 bBc0 bBf0 ff0 xx0 xx1
    refine ⟨trivial, (callsIn_wide.2 (iof_any _ a n _ p L.length c rfl)).mono ?_⟩
    rintro e W0 ⟨rfl, hW0⟩
    obtain ⟨rb, pb, B3, zz⟩ := two w1 [.slice p L.length c] [.int .i64 a, .int .i64 n] 35 PT
    rw [← hW0] at rb pb B3 zz
    have B0 := below_step B1 B3
    replace bP := bP.keep B3
    replace bG := bG.keep B3
    replace bB := bB.keep B3
    clear hW0 B3 bF bX
    obtain ⟨pv, cv, hgv, hst⟩ := of_stops 5 (by decide) w1.heap.size (w1.heap.size + 1) W0.heap.size (.slice p L.length c) L a n W0 (by omega) (by omega) (Nat.le_refl _) (rb.c 0 rfl) (pb.c 0 rfl) (pb.c 1 rfl) w B0.size B0 h
    have HGV := Lib.hid hgv
    clear hgv rb pb
    gi_wp2
    refine wpIn_rangeFunc_ownH (n := 6) rfl (by decide) (gf := 63) (lb := #[.pointer (some ⟨w1.heap.size, 0, none⟩), .pointer (some ⟨w1.heap.size + 1, 0, none⟩)]) rfl trivial (enters_of Try.func63 (by kernel_rfl) rfl)
      hst belowK_t (belowK_b (Nat.le_refl _)) (Below.refl _ _) (fun _ => by rfl)
      (fun pre W => (∀ i ∈ pre, (L.getD i.val e0).pe ≠ pe) ∧ Below W0.heap.size W0 W)
      (fun cd pre W => (cd = .ret ∧ ∃ (ps : List (OfI L a n)) (q : OfI L a n), pre = ps ++ [q] ∧ (L.getD q.val e0).pe = pe ∧ ∀ i ∈ ps, (L.getD i.val e0).pe ≠ pe) ∧
        (∃ q ∈ pre.getLast?, ∃ pa px ca cx, OwnI W W0.heap.size (.slice pa (L.getD q.val e0).p.length px) (L.getD q.val e0).p ∧ OwnI W W0.heap.size (.slice ca (L.getD q.val e0).c.length cx) (L.getD q.val e0).c ∧ Apart (.slice pa (L.getD q.val e0).p.length px) (.slice ca (L.getD q.val e0).c.length cx) ∧ W.cell? ⟨A + 3, 0, none⟩ = some (.slice pa (L.getD q.val e0).p.length px) ∧ W.cell? ⟨A + 3, 1, none⟩ = some (.int .i64 (L.getD q.val e0).pr) ∧ W.cell? ⟨A + 3, 2, none⟩ = some (.slice ca (L.getD q.val e0).c.length cx) ∧ W.cell? ⟨A + 3, 3, none⟩ = some (.int .i64 (L.getD q.val e0).bw) ∧ W.cell? ⟨A + 4, 0, none⟩ = some (.bool true)) ∧ Below w.heap.size w W)
      (OwnFrom.and (ownFrom_pure _ _) (ownFrom_below (Nat.le_refl _) (Nat.le_refl _)))
      (fun cd => OwnFrom.and (ownFrom_pure _ _) (OwnFrom.and (fun pre X Y row hs hg hr => by
        obtain ⟨q, hq, pa, px, ca, cx, h1, h2, h3, k0, k1, k2, k3, k4⟩ := hs
        have hr2 : ∀ r, row = some r → ∃ o : Obj, X.heap[r]? = some o ∧ o.isCells = false := fun r e => (hr r e).2
        exact ⟨q, hq, pa, px, ca, cx, ownI_abides h1 hg hr2, ownI_abides h2 hg hr2, h3, cell_kept k0 hg hr2, cell_kept k1 hg hr2, cell_kept k2 hg hr2, cell_kept k3 hg hr2, cell_kept k4 hg hr2⟩) (ownFrom_below (Nat.le_refl _) B0.size)))
      ⟨by simp, Below.refl _ _⟩
      (fun q a' W => ∃ Bx E pu cu, L.getD q.val e0 = E ∧ (pv q.val = pu ∧ cv q.val = cu) ∧ W0.heap.size ≤ Bx ∧ (W.cell? ⟨Bx, 0, none⟩ = some (.int .i64 E.a) ∧ W.cell? ⟨Bx, 1, none⟩ = some (.int .i64 E.n) ∧ W.cell? ⟨Bx, 2, none⟩ = some (.int .i64 E.pe) ∧ W.cell? ⟨Bx, 3, none⟩ = some (pu) ∧ W.cell? ⟨Bx, 4, none⟩ = some (.int .i64 E.pr) ∧ W.cell? ⟨Bx, 5, none⟩ = some (cu) ∧ W.cell? ⟨Bx, 6, none⟩ = some (.int .i64 E.bw)) ∧ a' = { tmps := #[.agg #[.slice p L.length c], .agg #[.int .i64 a, .int .i64 n], .int .i64 pe, .pointer (some ⟨A, 0, none⟩), .pointer (some ⟨A + 1, 0, none⟩), .pointer (some ⟨A + 2, 0, none⟩), .pointer (some ⟨A + 3, 0, none⟩), .pointer (some ⟨A + 4, 0, none⟩), .pointer (some ⟨Bx, 0, none⟩), .agg #[.slice p L.length c], .bool true, .bool false, undef, .agg #[.slice p L.length c], .agg #[.int .i64 a, .int .i64 n], .func (.func 63) #[] #[.pointer (some ⟨w1.heap.size, 0, none⟩), .pointer (some ⟨w1.heap.size + 1, 0, none⟩)], .agg #[.int .i64 E.a, .int .i64 E.n, .int .i64 E.pe, pu, .int .i64 E.pr, cu, .int .i64 E.bw], undef, undef, undef, undef, undef, undef, undef, undef], defers := [] })
      (fun q a' _ X Y row hs hg hr => by
        obtain ⟨Bx, E, pu, cu, g1, g2, h0, ⟨k0, k1, k2, k3, k4, k5, k6⟩, h4⟩ := hs
        have hr2 : ∀ r, row = some r → ∃ o : Obj, X.heap[r]? = some o ∧ o.isCells = false := fun r e => (hr r e).2
        exact ⟨Bx, E, pu, cu, g1, g2, h0, ⟨cell_kept k0 hg hr2, cell_kept k1 hg hr2, cell_kept k2 hg hr2, cell_kept k3 hg hr2, cell_kept k4 hg hr2, cell_kept k5 hg hr2, cell_kept k6 hg hr2⟩, h4⟩) ?assign ?body ?done ?stop
    case assign =>
      intro l pre q W K hI hK
      obtain ⟨hq1, hq2⟩ := HGV.out q.val q.2.1
      obtain ⟨E, hE⟩ : ∃ E, L.getD q.val e0 = E := ⟨_, rfl⟩
      rw [hE] at hq1 hq2
      obtain ⟨pa, px, hp1⟩ := hq1.len
      obtain ⟨ca, cx, hc1⟩ := hq2.len
      have HE := Lib.hid hE
      have HH := Lib.hid (And.intro hp1 hc1)
      clear hq1 hq2
      simp only [hE, hp1, hc1]
      clear hE hp1 hc1
      gi_wp2
      exact hK _ _ ((KeepsOthers.alloc _ _).from _) ((Below.refl _ W).alloc hI.2.size _) ⟨hI.1, hI.2.alloc hI.2.size _⟩ ⟨W.heap.size, E, .slice pa E.p.length px, .slice ca E.c.length cx, HE.out, HH.out, hI.2.size, ⟨by simp, by simp, by simp, by simp, by simp, by simp, by simp⟩, rfl⟩
    case body =>
      rintro l pre q a' W hl ⟨r, hr⟩ ⟨hpre, hBW⟩ ⟨Bx, E, pu, cu, hE, ⟨hpu, hcu⟩, hBx, ⟨k0, k1, k2, k3, k4, k5, k6⟩, rfl⟩ hlt
      obtain ⟨hq1, hq2⟩ := HGV.out q.val q.2.1
      rw [hE, hpu] at hq1
      rw [hE, hcu] at hq2
      replace hq1 := hq1.keep (below_step B0 hBW)
      replace hq2 := hq2.keep (below_step B0 hBW)
      have hEl := hlp q.val q.2.1
      rw [hE] at hEl
      have HE := Lib.hid hE
      have HPRE := Lib.hid hpre
      obtain ⟨pa, px, rfl⟩ := hq1.len
      obtain ⟨ca, cx, rfl⟩ := hq2.len
      replace bP := bP.keep hBW
      replace bG := bG.keep hBW
      replace bB := bB.keep hBW
      have x0 := bP.c 0 rfl
      clear hE hpre hr hpu hcu
      by_cases hpe : E.pe = pe
      · have hpb : (E.pe == pe) = true := by simp [hpe]
        have HPE := Lib.hid hpe
        clear hpe
        gi_wp2_with fail
        refine ⟨trivial, (CallsIn.inRound l (callsIn_wide.2 (icopy_any _ _ E.p E.c _ _ _ hq1 hq2 hEl.1 hEl.2))).mono ?_⟩
        rintro e w3 ⟨a1, d1, a2, d2, rfl, hr1, hr2, hap, hb3⟩
        replace bG := bG.keep hb3
        replace bB := bB.keep hb3
        have hW2 : W0.heap.size ≤ W.heap.size := hBW.size
        replace hr1 := hr1.mono hW2
        replace hr2 := hr2.mono hW2
        have hB3 := below_step (below_step B0 hBW) hb3
        have hKO := keeps_below hb3
        clear k0 k1 k2 k3 k4 k5 k6 hq1 hq2 x0 bP
        have bGc0 := bG.c 0 rfl
        have bGf0 := bG.f 0 rfl
        have bGc1 := bG.c 1 rfl
        have bGf1 := bG.f 1 rfl
        have bGc2 := bG.c 2 rfl
        have bGf2 := bG.f 2 rfl
        have bGc3 := bG.c 3 rfl
        have bGf3 := bG.f 3 rfl
        have bBc0 := bB.c 0 rfl
        have bBf0 := bB.f 0 rfl
        gi_wp2
        have bE := (((((bG.set 0 (.slice a1 E.p.length d1)).set 1 (.int .i64 E.pr)).set 2 (.slice a2 E.c.length d2)).set 3 (.int .i64 E.bw)).far (C := A + 4) (o := 0) (u := .bool true) (by omega))
        have bH := (((((bB.far (C := A + 3) (o := 0) (u := .slice a1 E.p.length d1) (by omega)).far (C := A + 3) (o := 1) (u := .int .i64 E.pr) (by omega)).far (C := A + 3) (o := 2) (u := .slice a2 E.c.length d2) (by omega)).far (C := A + 3) (o := 3) (u := .int .i64 E.bw) (by omega)).set 0 (.bool true))
        refine ⟨(hKO.trans (((((KeepsOthers.setCell _ ⟨A + 3, 0, none⟩ (.slice a1 E.p.length d1)).trans (KeepsOthers.setCell _ ⟨A + 3, 1, none⟩ (.int .i64 E.pr))).trans (KeepsOthers.setCell _ ⟨A + 3, 2, none⟩ (.slice a2 E.c.length d2))).trans (KeepsOthers.setCell _ ⟨A + 3, 3, none⟩ (.int .i64 E.bw))).trans (KeepsOthers.setCell _ ⟨A + 4, 0, none⟩ (.bool true)))).from _, ⟨rfl, pre, q, rfl, by rw [HE.out]; exact HPE.out, HPRE.out⟩, ⟨q, by simp, a1, d1, a2, d2, ?_⟩, ?_⟩
        · rw [HE.out]
          exact ⟨(((((hr1.far (B := A + 3) (o := 0) (by omega)).far (B := A + 3) (o := 1) (by omega)).far (B := A + 3) (o := 2) (by omega)).far (B := A + 3) (o := 3) (by omega)).far (B := A + 4) (o := 0) (by omega)), (((((hr2.far (B := A + 3) (o := 0) (by omega)).far (B := A + 3) (o := 1) (by omega)).far (B := A + 3) (o := 2) (by omega)).far (B := A + 3) (o := 3) (by omega)).far (B := A + 4) (o := 0) (by omega)), hap, bE.c 0 rfl, bE.c 1 rfl, bE.c 2 rfl, bE.c 3 rfl, bH.c 0 rfl⟩
        · exact (((((hB3.setCell (p := ⟨A + 3, 0, none⟩) (by show _ ≤ A + 3; omega) (.slice a1 E.p.length d1)).setCell (p := ⟨A + 3, 1, none⟩) (by show _ ≤ A + 3; omega) (.int .i64 E.pr)).setCell (p := ⟨A + 3, 2, none⟩) (by show _ ≤ A + 3; omega) (.slice a2 E.c.length d2)).setCell (p := ⟨A + 3, 3, none⟩) (by show _ ≤ A + 3; omega) (.int .i64 E.bw)).setCell (p := ⟨A + 4, 0, none⟩) (by show _ ≤ A + 4; omega) (.bool true))
      · have hpb : (E.pe == pe) = false := by simp [hpe]
        have HPE := Lib.hid hpe
        clear hpe
        gi_wp2
        exact ⟨KeepsFrom.refl _ _, Below.refl _ _, fun i hi => by
          rcases List.mem_append.1 hi with q1 | q1
          · exact HPRE.out i q1
          · rw [List.mem_singleton.1 q1, HE.out]; exact HPE.out, hBW⟩
    case done =>
      rintro D ys W hD hS ⟨hI, hBW⟩ hK
      have hno : getR L a n pe = none := by
        rw [HG.out]
        refine getJ_none _ fun i hi hp => ?_
        have h1 : i ∈ ys.map (·.val) := by rw [hS]; exact ofs_in hi hp
        obtain ⟨q, hq, rfl⟩ := List.mem_map.1 h1
        exact hI q hq
      have HNO := Lib.hid hno
      have hwD : w.heap.size ≤ D := Nat.le_trans B0.size hD
      have hBw := below_step B0 hBW
      replace bG := bG.keep hBW
      replace bB := bB.keep hBW
      clear hno hS hI bP
      have bGc0 := bG.c 0 rfl
      have bGf0 := bG.f 0 rfl
      have bGc1 := bG.c 1 rfl
      have bGf1 := bG.f 1 rfl
      have bGc2 := bG.c 2 rfl
      have bGf2 := bG.f 2 rfl
      have bGc3 := bG.c 3 rfl
      have bGf3 := bG.f 3 rfl
      have bBc0 := bB.c 0 rfl
      have bBf0 := bB.f 0 rfl
      gi_wp2
      have bE := (((((bG.set 0 (.slice none 0 0)).set 1 (.int .i64 0)).set 2 (.slice none 0 0)).set 3 (.int .i64 0)).far (C := A + 4) (o := 0) (u := .bool false) (by omega))
      have bH := (((((bB.far (C := A + 3) (o := 0) (u := .slice none 0 0) (by omega)).far (C := A + 3) (o := 1) (u := .int .i64 0) (by omega)).far (C := A + 3) (o := 2) (u := .slice none 0 0) (by omega)).far (C := A + 3) (o := 3) (u := .int .i64 0) (by omega)).set 0 (.bool false))
      have hKO := (((((KeepsOthers.setCell W ⟨A + 3, 0, none⟩ (.slice none 0 0)).trans (KeepsOthers.setCell _ ⟨A + 3, 1, none⟩ (.int .i64 0))).trans (KeepsOthers.setCell _ ⟨A + 3, 2, none⟩ (.slice none 0 0))).trans (KeepsOthers.setCell _ ⟨A + 3, 3, none⟩ (.int .i64 0))).trans (KeepsOthers.setCell _ ⟨A + 4, 0, none⟩ (.bool false)))
      have hK' := hKO.same D _ hK rfl
      have hBf := (((((hBw.setCell (p := ⟨A + 3, 0, none⟩) (by show _ ≤ A + 3; omega) (.slice none 0 0)).setCell (p := ⟨A + 3, 1, none⟩) (by show _ ≤ A + 3; omega) (.int .i64 0)).setCell (p := ⟨A + 3, 2, none⟩) (by show _ ≤ A + 3; omega) (.slice none 0 0)).setCell (p := ⟨A + 3, 3, none⟩) (by show _ ≤ A + 3; omega) (.int .i64 0)).setCell (p := ⟨A + 4, 0, none⟩) (by show _ ≤ A + 4; omega) (.bool false))
      refine ⟨by simp, .inl ⟨_, _, rfl, run_takeDeferred hK', ?_⟩⟩
      have tr := fun {a : Addr} {u : Value} (h : _ = some u) => cell_kept (a := a) (v := u) h (grownBy_putObj' _ D (.deferred none)) (fun r e => by cases e; exact ⟨_, hK', rfl⟩)
      have y0 := tr (bE.c 0 rfl)
      have y1 := tr (bE.c 1 rfl)
      have y2 := tr (bE.c 2 rfl)
      have y3 := tr (bE.c 3 rfl)
      have y4 := tr (bH.c 0 rfl)
      have hlg : getE L a n pe = e0 := by unfold getE; rw [HNO.out]
      refine ⟨.tuple #[.agg #[.slice none 0 0, .int .i64 0, .slice none 0 0, .int .i64 0], .bool false], ?_, none, 0, none, 0, by rw [hlg, HNO.out]; rfl, by rw [hlg]; exact ownI_nil _ _, by rw [hlg]; exact ownI_nil _ _, by rw [hlg]; exact apart_nilR, ?_⟩
      · simp [results, Try.f12, go_sem, y0, y1, y2, y3, y4]
      · exact hBf.trans (belowK_b (w := w) (Nat.le_refl _) _ D _ _ hwD hK' rfl rfl)
    case stop =>
      rintro D cd pre W hD hSp ⟨⟨rfl, ps, q, rfl, hq, hps⟩, ⟨q2, hq2, pa, px, ca, cx, h1, h2, h3, k0, k1, k2, k3, k4⟩, hBW⟩ hK
      obtain rfl : q = q2 := by simpa using hq2
      have hyes : getR L a n pe = some q.val := by
        rw [HG.out]
        obtain ⟨k, hk, hmap⟩ := hSp
        rw [List.map_append] at hmap
        refine getJ_some q.2.1 q.2.2 hq fun i hi hp => ?_
        have hs := ofs_sorted L a n k
        rw [← hmap, List.pairwise_append] at hs
        have hqk : q.val < k := (ofs_mem (k := k) (by rw [← hmap]; simp)).1
        have h6 : i ∈ ofs L a n k := ofs_in (by omega) hp
        rw [← hmap] at h6
        rcases List.mem_append.1 h6 with h7 | h7
        · obtain ⟨q3, hq3, rfl⟩ := List.mem_map.1 h7
          exact hps q3 hq3
        · simp at h7
          omega
      have HYES := Lib.hid hyes
      have hwD : w.heap.size ≤ D := Nat.le_trans B0.size hD
      clear hyes hSp hps hq hq2
      gi_wp2
      refine ⟨by simp, .inl ⟨_, _, rfl, run_takeDeferred hK, ?_⟩⟩
      have tr := fun {a : Addr} {u : Value} (h : _ = some u) => cell_kept (a := a) (v := u) h (grownBy_putObj' _ D (.deferred none)) (fun r e => by cases e; exact ⟨_, hK, rfl⟩)
      have hlg : getE L a n pe = L.getD q.val e0 := by unfold getE; rw [HYES.out]
      obtain ⟨E, hE⟩ : ∃ E, L.getD q.val e0 = E := ⟨_, rfl⟩
      rw [hE] at hlg h1 h2 h3 k0 k1 k2 k3
      have y0 := tr k0
      have y1 := tr k1
      have y2 := tr k2
      have y3 := tr k3
      have y4 := tr k4
      have hr1 := ownI_abides h1 (grownBy_putObj' W D (.deferred none)) (fun r e => by cases e; exact ⟨_, hK, rfl⟩)
      have hr2 := ownI_abides h2 (grownBy_putObj' W D (.deferred none)) (fun r e => by cases e; exact ⟨_, hK, rfl⟩)
      refine ⟨.tuple #[.agg #[.slice pa E.p.length px, .int .i64 E.pr, .slice ca E.c.length cx, .int .i64 E.bw], .bool true], ?_, pa, px, ca, cx, by rw [hlg, HYES.out]; rfl, by rw [hlg]; exact hr1.mono B0.size, by rw [hlg]; exact hr2.mono B0.size, by rw [hlg]; exact h3, ?_⟩
      · simp [results, Try.f12, go_sem, y0, y1, y2, y3, y4]
      · exact hBW.trans (belowK_b (w := w) (Nat.le_refl _) W D _ _ hwD hK rfl rfl)
end Go.Proofs.Ytbmjicdnphfgaaa
