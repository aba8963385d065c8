/-
  The library's DeleteFunc at rows of groups, for the closure of Program. Conditions: those in each contract.
-/
import Derived.Test.YtbcmoofpgffbhaaTE
namespace Go.Proofs.Ytbcmoofpgffbhaa
open Go.ChangeShapes Go.WideShapes Go.ChangeAt Go.RowKit Go.BigFrame Go.Joins
set_option linter.unusedVariables false
set_option maxRecDepth 100000
set_option linter.unusedSimpArgs false
set_option maxRecDepth 100000

theorem keepItQ {T : List GT} {f : Grp → Bool} {k : Nat} {t : GT} (ht : T[k]? = some t) (hb : f t.E = false) : (T.take (k + 1)).filter (fun t : GT => !(f t.E)) = (T.take k).filter (fun t : GT => !(f t.E)) ++ [t] := by
  rw [List.take_add_one, ht, List.filter_append]
  simp [hb]
theorem dropItQ {T : List GT} {f : Grp → Bool} {k : Nat} {t : GT} (ht : T[k]? = some t) (hb : f t.E = true) : (T.take (k + 1)).filter (fun t : GT => !(f t.E)) = (T.take k).filter (fun t : GT => !(f t.E)) := by
  rw [List.take_add_one, ht, List.filter_append]
  simp [hb]
theorem allItQ {T : List GT} {f : Grp → Bool} {k : Nat} (h : ∀ j, j < k → ∀ t, T[j]? = some t → f t.E = false) : (T.take k).filter (fun t : GT => !(f t.E)) = T.take k := by
  rw [List.filter_eq_self]
  intro t ht
  obtain ⟨j, hj, e⟩ := List.mem_iff_getElem.1 ht
  rw [List.length_take] at hj
  have := h j (by omega) t (by rw [List.getElem?_eq_getElem (by omega)]; rw [List.getElem_take] at e; rw [e])
  simp [this]
theorem OwGs.fewer {w w' : World} {base g n cap K : Nat} {Q : List (GT × (Nat → Prop))} (f : Grp → Bool) (h : OwGs w base (.slice (some ⟨g, 0, none⟩) n cap) Q) (hg : w.grownBy w' (some g)) (hK : (Q.filter fun q => f q.1.E).length = K) (hrow : w'.ownsRow base GI 3 (.slice (some ⟨g, 0, none⟩) K cap) K (flatG ((Q.map (·.1)).filter fun t => f t.E))) :
    OwGs w' base (.slice (some ⟨g, 0, none⟩) K cap) (Q.filter fun q => f q.1.E) := by
  have e : (Q.map (·.1)).filter (fun t => f t.E) = (Q.filter fun q => f q.1.E).map (·.1) := by rw [List.filter_map]; rfl
  rw [e] at hrow
  refine ⟨by rw [hK]; exact hrow, fun q hq => ?_, h.dj.filter _⟩
  obtain ⟨e1, e2⟩ := h.el q (List.mem_filter.1 hq).1
  refine ⟨fun b k => ⟨(e1 b k).1, by have := (e1 b k).2.1; have := hg.size; omega, (e1 b k).2.2⟩, e2.agr ⟨hg.size, fun b k l => hg.block b l fun e => (e1 b k).2.2 e.symm⟩⟩
theorem grpQ_filter (f : Grp → Bool) (Q : List (GT × (Nat → Prop))) : grpQ (Q.filter fun q => f q.1.E) = (grpQ Q).filter f := by
  simp [grpQ, List.filter_map, Function.comp_def]
set_option maxHeartbeats 4000000 in
theorem idfQ_any (v pv : Value) (Q : List (GT × (Nat → Prop))) (P : List (Int × Int)) (C : Nat) (base : Nat) (W0 w : World) (h : OwGs w base v Q) (hn1 : Q.length ≤ 1048576) (hC : Bl w C [pv]) (hCb : C < base) (hp : RdP W0 pv P) (hp1 : P.length ≤ 9223372036854775807) (hW : W0.heap.size ≤ base) (hb0 : Below W0.heap.size W0 w) :
    Calls Try.prog 101 #[v, .func (.func 102) #[] #[.pointer (some ⟨C, 0, none⟩)]] w fun e w' => ∃ r, e = .returned r ∧ OwGs w' base r (Q.filter fun q => !(goneQ P q.1.E)) ∧ w.grownBy w' v.ownBlock ∧ r.ownBlock = v.ownBlock := by
  have hrow := h.row
  obtain ⟨a, c, rfl⟩ := row_sliceGG hrow
  obtain ⟨T, hT⟩ : ∃ T, T = Q.map (·.1) := ⟨_, rfl⟩
  have hTl : T.length = Q.length := by rw [hT, List.length_map]
  rw [← hT, ← hTl] at hrow
  obtain ⟨n, hn⟩ : ∃ n, n = T.length := ⟨_, rfl⟩
  have hl : ∀ t ∈ T, ∃ a c, t.u = .slice a t.E.h.length c := fun t ht => by
    rw [hT] at ht
    obtain ⟨q, hq, rfl⟩ := List.mem_map.1 ht
    exact RdP.len (h.el q hq).2.rd
  have HL := Lib.hid hl
  clear hl
  have hcall := iixFQ_any _ pv T P C base w hrow (by omega) hC (hp.keep hb0) hp1
  rw [← hTl] at hn1 h ⊢
  rw [← hn] at hrow hn1 hcall h ⊢
  have HH := Lib.hid h
  have HN := Lib.hid hn
  have HCA := Lib.hid hcall
  have HT0 := Lib.hid hT
  clear h hn hcall hT hTl
  go_enter Try.func101, Try.ntmps101
  go_wp2_with fail
  refine HCA.out.mono ?_
  rintro e w1 ⟨r, rfl, hF, hb1⟩
  rcases hF with ⟨rfl, hno⟩ | ⟨i0, hi0, rfl, hno, hyes⟩
  · have HO := Lib.hid hno
    clear hno
    go_wp2
    go_ret
    refine ⟨_, rfl, ?_, grown_below hb1 _, rfl⟩
    have e : Q.filter (fun q => !(goneQ P q.1.E)) = Q := by
      rw [List.filter_eq_self]
      intro q hq
      obtain ⟨j, hj, rfl⟩ := List.mem_iff_getElem.1 hq
      have := HO.out j (Q[j].1) (by rw [HT0.out, List.getElem?_map, List.getElem?_eq_getElem hj]; rfl)
      simp [this]
    rw [e]
    exact HH.out.keep hb1
  · rw [← HN.out] at hi0
    obtain ⟨g, cap, hv, hc, hb, hg, hcm⟩ := rowG_form hrow (by omega)
    simp only [Value.slice.injEq, true_and] at hv
    obtain ⟨rfl, rfl⟩ := hv
    have hrow1 : w1.ownsRow base GI 3 (.slice (some ⟨g, 0, none⟩) n c) n (flatG T) := row_agrS hrow (S := fun _ => True) (fun _ _ => trivial) (.of_below hb1)
    have hg1 : w.grownBy w1 (some g) := grown_below hb1 _
    have hne1 : ((i0 : Int) == -1) = false := by
      rw [beq_eq_false_iff_ne]
      omega
    have HO := Lib.hid hno
    have HY := Lib.hid hyes
    have HRd := Lib.hid hp
    clear hno hyes hrow hp
    go_wp2
    go_loopw [5, 6] (fun p q wr => ∃ (K k : Nat) (S : List GT), p = .int .i64 K ∧ q = .int .i64 k ∧ K < k ∧ k ≤ n ∧ S.length = n ∧ S.take K = (T.take k).filter (fun t : GT => !(goneQ P t.E)) ∧ (∀ i, k ≤ i → S[i]? = T[i]?) ∧ wr.ownsRow base GI 3 (.slice (some ⟨g, 0, none⟩) n c) n (flatG S) ∧ w.grownBy wr (some g)) (fun _ q _ => n - (intOf q).toNat)
    case atStart =>
      have e0 : T[i0]? = some (T[i0]'(by rw [← HN.out]; exact hi0)) := List.getElem?_eq_getElem _
      exact ⟨i0, i0 + 1, T, rfl, by go_num, by omega, by omega, HN.out.symm, by rw [dropItQ e0 (HY.out _ e0), allItQ HO.out], fun _ _ => rfl, hrow1, hg1⟩
    case round =>
      obtain ⟨K, k, S, rfl, rfl, hKk, hk, hS, hM, hR, hrow2, hgr⟩ := hrel
      have hKn : K < n := by omega
      have HS := Lib.hid hS
      by_cases hlt : k < n
      · have hltI : (k : Int) < (n : Int) := by omega
        have hkT : k < T.length := by rw [← HN.out]; exact hlt
        obtain ⟨t, ht⟩ : ∃ t, T[k]? = some t := ⟨T[k], List.getElem?_eq_getElem hkT⟩
        obtain ⟨g', hg', g0, g1, g2⟩ := rowGEl hrow2 hS k hlt t ((hR k (Nat.le_refl _)).trans ht)
        injection hg' with hg'
        injection hg' with hg'
        subst hg'
        obtain ⟨ua, ux, hu⟩ := HL.out t (List.mem_of_getElem? ht)
        obtain ⟨E, u⟩ := t
        dsimp only at g0 g1 g2 hu
        subst hu
        have hCw := hC.grown hgr (by intro q; cases q; omega)
        have hPw : RdP wr pv P := HRd.out.keep (Below.grown hb0 hgr hb0.size (fun k hk => by cases hk; omega))
        have bP := Bl.new wr [.int .i64 E.a, .int .i64 E.n, .slice ua E.h.length ux] GI wr.heap.size rfl
        have A1 : Below wr.heap.size wr (wr.alloc (.cells #[.int .i64 E.a, .int .i64 E.n, .slice ua E.h.length ux] GI)) := (Below.refl _ _).alloc (Nat.le_refl _) _
        have p0 := bP.c 0 rfl
        have p1 := bP.c 1 rfl
        have p2 := bP.c 2 rfl
        have HT := Lib.hid ht
        have HM := Lib.hid hM
        have HR := Lib.hid hR
        clear ht hM hR hkT hS
        go_wp2_with fail
        clear p0 p1 p2 g0 g1 g2
        refine (iclQ_any E (.slice ua E.h.length ux) pv P C _ (hCw.keep A1) (hPw.keep A1) hp1).mono ?_
        rintro e w3 ⟨rfl, hb3⟩
        have D1 := below_step A1 hb3
        have hrow3 : w3.ownsRow base GI 3 (.slice (some ⟨g, 0, none⟩) n c) n (flatG S) := row_agrS hrow2 (S := fun _ => True) (fun _ _ => trivial) (.of_below D1)
        have hgr3 := grown_trans hgr (grown_below D1 (some g))
        replace bP := bP.keep hb3
        cases hbq : goneQ P E
        · obtain ⟨s0, hs0⟩ : ∃ s, S[K]? = some s := ⟨S[K]'(by rw [HS.out]; exact hKn), List.getElem?_eq_getElem _⟩
          obtain ⟨g', hg', e0, e1, e2⟩ := rowGEl hrow3 HS.out K hKn s0 hs0
          injection hg' with hg'
          injection hg' with hg'
          subst hg'
          clear hs0
          have p0 := bP.c 0 rfl
          have p1 := bP.c 1 rfl
          have p2 := bP.c 2 rfl
          have f0 := hrow3.frozenAt (K * 3)
          have f1 := hrow3.frozenAt (K * 3 + 1)
          have f2 := hrow3.frozenAt (K * 3 + 2)
          have hKI : (K : Int) < (n : Int) := by omega
          obtain ⟨S2, hS2⟩ : ∃ S2, S2 = S.set K ⟨E, .slice ua E.h.length ux⟩ := ⟨_, rfl⟩
          have hst := (((hrow3.stored (K * 3) (.int .i64 E.a)).1.stored (K * 3 + 1) (.int .i64 E.n)).1.stored (K * 3 + 2) (.slice ua E.h.length ux)).1
          have eset := flatG_set ⟨E, .slice ua E.h.length ux⟩ S K (by rw [HS.out]; exact hKn)
          dsimp only at eset
          rw [eset, ← hS2] at hst
          have hgs := grown_trans (grown_trans (grown_trans hgr3 (grown_set w3 g (K * 3) (.int .i64 E.a))) (grown_set _ g (K * 3 + 1) (.int .i64 E.n))) (grown_set _ g (K * 3 + 2) (.slice ua E.h.length ux))
          have HST := Lib.hid (And.intro hst hgs)
          have HS2 := Lib.hid hS2
          clear hst hgs eset hS2 hrow2 hrow3 hgr hgr3 hrow1 hg1
          go_wp2
          go_roundw
          case rel =>
            refine ⟨K + 1, k + 1, S2, by go_num, by go_num, by omega, by omega, by rw [HS2.out, List.length_set]; exact HS.out, ?_, fun i hi => ?_, HST.out.1, HST.out.2⟩
            · rw [keepItQ HT.out hbq, ← HM.out, HS2.out, List.take_add_one, List.take_set_of_le (Nat.le_refl _), List.getElem?_set_self (by rw [HS.out]; exact hKn)]
              rfl
            · rw [HS2.out, List.getElem?_set_ne (by omega)]
              exact HR.out i (by omega)
          case measure => simp [intOf]; omega
        · clear hrow1 hg1 hrow2 hgr
          go_wp2
          go_roundw
          case rel => exact ⟨K, k + 1, S, rfl, by go_num, by omega, by omega, HS.out, by rw [dropItQ HT.out hbq]; exact HM.out, fun i hi => HR.out i (by omega), hrow3, hgr3⟩
          case measure => simp [intOf]; omega
      · have hkn : k = n := by omega
        subst hkn
        have hcl : ∀ ty, (Builtin.clear_ #[129] ty #[.slice (some ⟨g, K * 3, none⟩) (k - K) (c - K)]).run Try.prog wr = .ok (.tuple #[]) (wr.setCells g (K * 3) (madeCells zG3 ((k - K) * 3)).toList) := fun ty => clear_G wr ty g (K * 3) (k - K) (c - K) (by omega) (fun q hq => by
          rw [hrow2.cellAt (K * 3 + q) (by omega), List.getElem?_eq_getElem (by rw [flatG_len, HS.out]; omega)]; rfl) (fun q hq => hrow2.frozenAt _)
        have hKI : (K : Int) ≤ (k : Int) := by omega
        have hKc : (k : Int) ≤ (c : Int) := by omega
        have HO2 := Lib.hid hrow2
        have HM := Lib.hid hM
        have HG := Lib.hid hgr
        clear hM hR hrow2 hrow1 hg1 hgr hS
        go_wp2
        go_ret
        obtain ⟨xs', h', e'⟩ := ownG_setCells (madeCells zG3 ((k - K) * 3)).toList (K * 3) wr _ HO2.out
        have h3 := ownG_cut h' (Nat.le_of_lt hKn)
        have eT : T.take k = T := by rw [HN.out, List.take_length]
        rw [e', (flatG_td S K).1, HM.out, eT] at h3
        have eM := HM.out
        rw [eT] at eM
        have eL : (T.filter (fun t : GT => !(goneQ P t.E))).length = K := by rw [← eM, List.length_take, HS.out]; omega
        rw [HT0.out] at h3 eL
        have eL2 : (Q.filter fun q => !(goneQ P q.1.E)).length = K := by rw [← eL, List.filter_map, List.length_map]; rfl
        exact ⟨_, rfl, HH.out.fewer (fun E => !(goneQ P E)) (grown_trans HG.out (grownGs_setCells _ _ _)) eL2 h3, grown_trans HG.out (grownGs_setCells _ _ _), rfl⟩
end Go.Proofs.Ytbcmoofpgffbhaa
