/-
  The library's IndexFunc and DeleteFunc at rows of entries, for the closure of RibDropPeer. Conditions: those in each contract.
-/
import Derived.Test.YtaiffofmhfflkaaGreatEG
namespace Go.Proofs.YtaiffofmhfflkaaGreat
open Go.ChangeShapes Go.WideShapes Go.ChangeAt Go.RowKit Go.BigFrame Go.Joins
set_option linter.unusedVariables false
set_option maxRecDepth 100000
set_option linter.unusedSimpArgs false
set_option maxRecDepth 100000

set_option maxHeartbeats 1000000 in
theorem iclP_any (E : Ent) (pa : Option Addr) (px : Nat) (qa : Option Addr) (qx : Nat) (pe : Int) (C : Nat) (w : World) (hC : Bl w C [.int .i64 pe]) :
    Calls Tryz.prog 116 #[.agg #[.int .i64 E.a, .int .i64 E.n, .int .i64 E.pe, .slice pa E.p.length px, .int .i64 E.pr, .slice qa E.c.length qx, .int .i64 E.bw], .pointer (some ⟨C, 0, none⟩)] w fun e w' => e = .returned (.bool (E.pe == pe)) ∧ Below w.heap.size w w' := by
  have c0 := hC.c 0 rfl
  have bP := Bl.new w [.int .i64 E.a, .int .i64 E.n, .int .i64 E.pe, .slice pa E.p.length px, .int .i64 E.pr, .slice qa E.c.length qx, .int .i64 E.bw] EI w.heap.size rfl
  have A1 : Below w.heap.size w (w.alloc (.cells #[.int .i64 E.a, .int .i64 E.n, .int .i64 E.pe, .slice pa E.p.length px, .int .i64 E.pr, .slice qa E.c.length qx, .int .i64 E.bw] EI)) := (Below.refl _ _).alloc (Nat.le_refl _) _
  have d0 := (hC.keep A1).c 0 rfl
  have p2 := bP.c 2 rfl
  go_enter Tryz.func116, Tryz.ntmps116
  go_wp2
  go_ret
  exact ⟨by simp, A1⟩
/-- the place of the first that is dropped, or none -/
def FirstP (T : List ET) (pe : Int) (r : Int) : Prop :=
  (r = -1 ∧ ∀ (j : Nat) (t : ET), T[j]? = some t → (t.E.pe == pe) = false) ∨ ∃ i : Nat, i < T.length ∧ r = i ∧ (∀ j, j < i → ∀ t : ET, T[j]? = some t → (t.E.pe == pe) = false) ∧ ∀ t : ET, T[i]? = some t → (t.E.pe == pe) = true
set_option maxHeartbeats 1000000 in
theorem iixP_any (v : Value) (T : List ET) (pe : Int) (C : Nat) (base : Nat) (w : World) (h : w.ownsRow base EI 7 v T.length (flatT T)) (hl : ∀ t ∈ T, (∃ a c, t.u = .slice a t.E.p.length c) ∧ ∃ a c, t.v = .slice a t.E.c.length c) (hn1 : T.length ≤ 1048576) (hC : Bl w C [.int .i64 pe]) :
    Calls Tryz.prog 169 #[v, .func (.func 116) #[] #[.pointer (some ⟨C, 0, none⟩)]] w fun e w' => ∃ r : Int, e = .returned (.int .i64 r) ∧ FirstP T pe r ∧ Below w.heap.size w w' := by
  obtain ⟨a, c, rfl⟩ := row_slice h
  obtain ⟨n, hn⟩ : ∃ n, n = T.length := ⟨_, rfl⟩
  rw [← hn] at h hn1 ⊢
  have hEl := rowEl h hn.symm
  have HN := Lib.hid hn
  clear h hn
  go_enter Tryz.func169, Tryz.ntmps169
  go_wp2
  go_loopw [8] (fun q wr => ∃ k : Nat, k ≤ n ∧ q = .int .i64 k ∧ (∀ j, j < k → ∀ t, T[j]? = some t → (t.E.pe == pe) = false) ∧ Below w.heap.size w wr) (fun q _ => n - (intOf q).toNat)
  case atStart => exact ⟨0, Nat.zero_le _, rfl, fun j hj => by omega, Below.refl _ _⟩
  case round =>
    obtain ⟨k, hk, rfl, hno, hB⟩ := hrel
    by_cases hlt : k < n
    · have hltI : (k : Int) < (n : Int) := by omega
      have hkT : k < T.length := by rw [← HN.out]; exact hlt
      obtain ⟨t, ht⟩ : ∃ t, T[k]? = some t := ⟨T[k], List.getElem?_eq_getElem hkT⟩
      obtain ⟨g, rfl, G0, G1, G2, G3, G4, G5, G6⟩ := hEl k hlt t ht
      obtain ⟨⟨pa, px, hu⟩, qa, qx, hv⟩ := hl t (List.mem_of_getElem? ht)
      obtain ⟨E, u, v⟩ := t
      dsimp only at G0 G1 G2 G3 G4 G5 G6 hu hv
      subst hu hv
      have g0 := over_cell hB (World.block_lt_of_cell? _ _ G0) G0
      have g1 := over_cell hB (World.block_lt_of_cell? _ _ G1) G1
      have g2 := over_cell hB (World.block_lt_of_cell? _ _ G2) G2
      have g3 := over_cell hB (World.block_lt_of_cell? _ _ G3) G3
      have g4 := over_cell hB (World.block_lt_of_cell? _ _ G4) G4
      have g5 := over_cell hB (World.block_lt_of_cell? _ _ G5) G5
      have g6 := over_cell hB (World.block_lt_of_cell? _ _ G6) G6
      have HT := Lib.hid ht
      have HO := Lib.hid hno
      have HL := Lib.hid hl
      have HE := Lib.hid hEl
      clear ht hno hl hEl hkT G0 G1 G2 G3 G4 G5 G6
      go_wp2_with fail
      refine (iclP_any E pa px qa qx pe C wr (hC.keep hB)).mono ?_
      rintro e w1 ⟨rfl, hb1⟩
      cases hbq : (E.pe == pe)
      · go_wp2
        go_roundw
        case rel =>
          refine ⟨k + 1, by omega, by go_num, fun j hj t ht => ?_, below_step hB hb1⟩
          by_cases hjk : j = k
          · subst hjk
            rw [HT.out] at ht
            injection ht with ht
            subst ht
            exact hbq
          · exact HO.out j (by omega) t ht
        case measure => simp [intOf]; omega
      · go_wp2
        go_ret
        exact ⟨(k : Int), rfl, .inr ⟨k, by rw [← HN.out]; exact hlt, rfl, HO.out, fun t ht => by
          rw [HT.out] at ht
          injection ht with ht
          subst ht
          exact hbq⟩, below_step hB hb1⟩
    · have hkn : k = n := by omega
      subst hkn
      have HO := Lib.hid hno
      clear hno hl hEl
      go_wp2
      go_ret
      exact ⟨-1, rfl, .inl ⟨rfl, fun j t ht => HO.out j (by
        have := (List.getElem?_eq_some_iff.1 ht).1
        rw [HN.out]
        exact this) t ht⟩, hB⟩
theorem keepItP {T : List ET} {pe : Int} {k : Nat} {t : ET} (ht : T[k]? = some t) (hb : (t.E.pe == pe) = false) : (T.take (k + 1)).filter (fun t : ET => !(t.E.pe == pe)) = (T.take k).filter (fun t : ET => !(t.E.pe == pe)) ++ [t] := by
  rw [List.take_add_one, ht, List.filter_append]
  simp [hb]
theorem dropItP {T : List ET} {pe : Int} {k : Nat} {t : ET} (ht : T[k]? = some t) (hb : (t.E.pe == pe) = true) : (T.take (k + 1)).filter (fun t : ET => !(t.E.pe == pe)) = (T.take k).filter (fun t : ET => !(t.E.pe == pe)) := by
  rw [List.take_add_one, ht, List.filter_append]
  simp [hb]
theorem allItP {T : List ET} {pe : Int} {k : Nat} (h : ∀ j, j < k → ∀ t, T[j]? = some t → (t.E.pe == pe) = false) : (T.take k).filter (fun t : ET => !(t.E.pe == pe)) = T.take k := by
  rw [List.filter_eq_self]
  intro t ht
  obtain ⟨j, hj, e⟩ := List.mem_iff_getElem.1 ht
  rw [List.length_take] at hj
  have := h j (by omega) t (by rw [List.getElem?_eq_getElem (by omega)]; rw [List.getElem_take] at e; rw [e])
  simp [this]
set_option maxHeartbeats 4000000 in
theorem idfP_any (v : Value) (T : List ET) (pe : Int) (C : Nat) (base : Nat) (w : World) (h : OwnT w base v T) (hn1 : T.length ≤ 1048576) (hC : Bl w C [.int .i64 pe]) (hCb : C < base) :
    Calls Tryz.prog 115 #[v, .func (.func 116) #[] #[.pointer (some ⟨C, 0, none⟩)]] w fun e w' => ∃ r, e = .returned r ∧ OwnT w' base r (T.filter (fun t : ET => !(t.E.pe == pe))) ∧ w.grownBy w' v.ownBlock ∧ r.ownBlock = v.ownBlock := by
  obtain ⟨a, c, rfl⟩ := h.lenV
  have hrow := h.row
  have hlen := h.len
  obtain ⟨n, hn⟩ : ∃ n, n = T.length := ⟨_, rfl⟩
  have hcall := iixP_any _ T pe C base w hrow hlen hn1 (hC.keep (Below.refl _ _))
  rw [← hn] at hrow hn1 hcall ⊢
  have HH := Lib.hid h
  have HN := Lib.hid hn
  have HCA := Lib.hid hcall
  have HLE := Lib.hid hlen
  clear h hn hcall hlen
  go_enter Tryz.func115, Tryz.ntmps115
  go_wp2_with fail
  refine HCA.out.mono ?_
  rintro e w1 ⟨r, rfl, hF, hb1⟩
  rcases hF with ⟨rfl, hno⟩ | ⟨i0, hi0, rfl, hno, hyes⟩
  · have HO := Lib.hid hno
    clear hno
    go_wp2
    go_ret
    refine ⟨_, rfl, ?_, grown_below hb1 _, rfl⟩
    have e : T.filter (fun t : ET => !(t.E.pe == pe)) = T := by
      have := allItP (T := T) (k := T.length) (fun j _ t ht => HO.out j t ht)
      rwa [List.take_length] at this
    rw [e]
    have := HH.out.keep hb1
    rw [← HN.out] at this
    exact this
  · rw [← HN.out] at hi0
    obtain ⟨g, cap, hv, hc, hb, hg, hcm⟩ := row_form hrow (by omega)
    simp only [Value.slice.injEq, true_and] at hv
    obtain ⟨rfl, rfl⟩ := hv
    have hrow1 := rowK hrow hb1
    have hg1 : w.grownBy w1 (some g) := grown_below hb1 _
    have hne1 : ((i0 : Int) == -1) = false := by
      rw [beq_eq_false_iff_ne]
      omega
    have HO := Lib.hid hno
    have HY := Lib.hid hyes
    clear hno hyes hrow
    go_wp2
    go_loopw [5, 6] (fun p q wr => ∃ (K k : Nat) (S : List ET), p = .int .i64 K ∧ q = .int .i64 k ∧ K < k ∧ k ≤ n ∧ S.length = n ∧ S.take K = (T.take k).filter (fun t : ET => !(t.E.pe == pe)) ∧ (∀ i, k ≤ i → S[i]? = T[i]?) ∧ wr.ownsRow base EI 7 (.slice (some ⟨g, 0, none⟩) n c) n (flatT S) ∧ w.grownBy wr (some g)) (fun _ q _ => n - (intOf q).toNat)
    case atStart =>
      have e0 : T[i0]? = some (T[i0]'(by rw [← HN.out]; exact hi0)) := List.getElem?_eq_getElem _
      exact ⟨i0, i0 + 1, T, rfl, by go_num, by omega, by omega, HN.out.symm, by rw [dropItP e0 (HY.out _ e0), allItP HO.out], fun _ _ => rfl, hrow1, hg1⟩
    case round =>
      obtain ⟨K, k, S, rfl, rfl, hKk, hk, hS, hM, hR, hrow2, hgr⟩ := hrel
      have hKn : K < n := by omega
      have HS := Lib.hid hS
      by_cases hlt : k < n
      · have hltI : (k : Int) < (n : Int) := by omega
        have hkT : k < T.length := by rw [← HN.out]; exact hlt
        obtain ⟨t, ht⟩ : ∃ t, T[k]? = some t := ⟨T[k], List.getElem?_eq_getElem hkT⟩
        obtain ⟨g', hg', g0, g1, g2, g3, g4, g5, g6⟩ := rowEl hrow2 hS k hlt t ((hR k (Nat.le_refl _)).trans ht)
        injection hg' with hg'
        injection hg' with hg'
        subst hg'
        obtain ⟨⟨pa, px, hu⟩, qa, qx, hv⟩ := HLE.out t (List.mem_of_getElem? ht)
        obtain ⟨E, u, v⟩ := t
        dsimp only at g0 g1 g2 g3 g4 g5 g6 hu hv
        subst hu hv
        have hCw := hC.grown hgr (by intro q; cases q; omega)
        have bP := Bl.new wr [.int .i64 E.a, .int .i64 E.n, .int .i64 E.pe, .slice pa E.p.length px, .int .i64 E.pr, .slice qa E.c.length qx, .int .i64 E.bw] EI wr.heap.size rfl
        have A1 : Below wr.heap.size wr (wr.alloc (.cells #[.int .i64 E.a, .int .i64 E.n, .int .i64 E.pe, .slice pa E.p.length px, .int .i64 E.pr, .slice qa E.c.length qx, .int .i64 E.bw] EI)) := (Below.refl _ _).alloc (Nat.le_refl _) _
        have p0 := bP.c 0 rfl
        have p1 := bP.c 1 rfl
        have p2 := bP.c 2 rfl
        have p3 := bP.c 3 rfl
        have p4 := bP.c 4 rfl
        have p5 := bP.c 5 rfl
        have p6 := bP.c 6 rfl
        have HT := Lib.hid ht
        have HM := Lib.hid hM
        have HR := Lib.hid hR
        clear ht hM hR hkT hS
        go_wp2_with fail
        clear p0 p1 p2 p3 p4 p5 p6 g0 g1 g2 g3 g4 g5 g6
        refine (iclP_any E pa px qa qx pe C _ (hCw.keep A1)).mono ?_
        rintro e w3 ⟨rfl, hb3⟩
        have D1 := below_step A1 hb3
        have hrow3 := rowK hrow2 D1
        have hgr3 := grown_trans hgr (grown_below D1 (some g))
        replace bP := bP.keep hb3
        cases hbq : (E.pe == pe)
        · obtain ⟨s0, hs0⟩ : ∃ s, S[K]? = some s := ⟨S[K]'(by rw [HS.out]; exact hKn), List.getElem?_eq_getElem _⟩
          obtain ⟨g', hg', e0, e1, e2, e3, e4, e5, e6⟩ := rowEl hrow3 HS.out K hKn s0 hs0
          injection hg' with hg'
          injection hg' with hg'
          subst hg'
          clear hs0
          have p0 := bP.c 0 rfl
          have p1 := bP.c 1 rfl
          have p2 := bP.c 2 rfl
          have p3 := bP.c 3 rfl
          have p4 := bP.c 4 rfl
          have p5 := bP.c 5 rfl
          have p6 := bP.c 6 rfl
          have f0 := hrow3.frozenAt (K * 7)
          have f1 := hrow3.frozenAt (K * 7 + 1)
          have f2 := hrow3.frozenAt (K * 7 + 2)
          have f3 := hrow3.frozenAt (K * 7 + 3)
          have f4 := hrow3.frozenAt (K * 7 + 4)
          have f5 := hrow3.frozenAt (K * 7 + 5)
          have f6 := hrow3.frozenAt (K * 7 + 6)
          have hKI : (K : Int) < (n : Int) := by omega
          obtain ⟨S2, hS2⟩ : ∃ S2, S2 = S.set K ⟨E, .slice pa E.p.length px, .slice qa E.c.length qx⟩ := ⟨_, rfl⟩
          have hst := (((((((hrow3.stored (K * 7) (.int .i64 E.a)).1.stored (K * 7 + 1) (.int .i64 E.n)).1.stored (K * 7 + 2) (.int .i64 E.pe)).1.stored (K * 7 + 3) (.slice pa E.p.length px)).1.stored (K * 7 + 4) (.int .i64 E.pr)).1.stored (K * 7 + 5) (.slice qa E.c.length qx)).1.stored (K * 7 + 6) (.int .i64 E.bw)).1
          have eset := flatT_set ⟨E, .slice pa E.p.length px, .slice qa E.c.length qx⟩ S K (by rw [HS.out]; exact hKn)
          dsimp only at eset
          rw [eset, ← hS2] at hst
          have hgs := grown_trans (grown_trans (grown_trans (grown_trans (grown_trans (grown_trans (grown_trans hgr3 (grown_set w3 g (K * 7) (.int .i64 E.a))) (grown_set _ g (K * 7 + 1) (.int .i64 E.n))) (grown_set _ g (K * 7 + 2) (.int .i64 E.pe))) (grown_set _ g (K * 7 + 3) (.slice pa E.p.length px))) (grown_set _ g (K * 7 + 4) (.int .i64 E.pr))) (grown_set _ g (K * 7 + 5) (.slice qa E.c.length qx))) (grown_set _ g (K * 7 + 6) (.int .i64 E.bw))
          have HST := Lib.hid (And.intro hst hgs)
          have HS2 := Lib.hid hS2
          clear hst hgs eset hS2 hrow2 hrow3 hgr hgr3 hrow1 hg1
          go_wp2
          go_roundw
          case rel =>
            refine ⟨K + 1, k + 1, S2, by go_num, by go_num, by omega, by omega, by rw [HS2.out, List.length_set]; exact HS.out, ?_, fun i hi => ?_, HST.out.1, HST.out.2⟩
            · rw [keepItP HT.out hbq, ← HM.out, HS2.out, List.take_add_one, List.take_set_of_le (Nat.le_refl _), List.getElem?_set_self (by rw [HS.out]; exact hKn)]
              rfl
            · rw [HS2.out, List.getElem?_set_ne (by omega)]
              exact HR.out i (by omega)
          case measure => simp [intOf]; omega
        · clear hrow1 hg1 hrow2 hgr
          go_wp2
          go_roundw
          case rel => exact ⟨K, k + 1, S, rfl, by go_num, by omega, by omega, HS.out, by rw [dropItP HT.out hbq]; exact HM.out, fun i hi => HR.out i (by omega), hrow3, hgr3⟩
          case measure => simp [intOf]; omega
      · have hkn : k = n := by omega
        subst hkn
        have hcl : ∀ ty, (Builtin.clear_ #[30] ty #[.slice (some ⟨g, K * 7, none⟩) (k - K) (c - K)]).run Tryz.prog wr = .ok (.tuple #[]) (wr.setCells g (K * 7) (madeCells zE ((k - K) * 7)).toList) := fun ty => clear_7 wr ty g (K * 7) (k - K) (c - K) (by omega) (fun q hq => by
          rw [hrow2.cellAt (K * 7 + q) (by omega), List.getElem?_eq_getElem (by rw [flatT_len, HS.out]; omega)]; rfl) (fun q hq => hrow2.frozenAt _)
        have hKI : (K : Int) ≤ (k : Int) := by omega
        have hKc : (k : Int) ≤ (c : Int) := by omega
        have HO2 := Lib.hid hrow2
        have HM := Lib.hid hM
        have HG := Lib.hid hgr
        clear hM hR hrow2 hrow1 hg1 hgr hS
        go_wp2
        go_ret
        obtain ⟨xs', h', e'⟩ := own7_setCells (madeCells zE ((k - K) * 7)).toList (K * 7) wr _ HO2.out
        have h3 := own7_cut h' (Nat.le_of_lt hKn)
        have eT : T.take k = T := by rw [HN.out, List.take_length]
        rw [e', flatT_take, HM.out, eT] at h3
        have eM := HM.out
        rw [eT] at eM
        have eL : (T.filter (fun t : ET => !(t.E.pe == pe))).length = K := by rw [← eM, List.length_take, HS.out]; omega
        have hH := HH.out
        rw [← HN.out] at hH
        exact ⟨_, rfl, hH.fewer (fun E => !(E.pe == pe)) (grown_trans HG.out (grown7_setCells _ _ _)) eL h3, grown_trans HG.out (grown7_setCells _ _ _), rfl⟩
end Go.Proofs.YtaiffofmhfflkaaGreat
