/-
  The library's Contains on prefixes; IndexFunc and DeleteFunc at rows of groups, for the closure of Program. Conditions: those in each contract.
-/
import Derived.Test.YtbcmoofpgffbhaaTD
namespace Go.Proofs.Ytbcmoofpgffbhaa
open Go.ChangeShapes Go.WideShapes Go.ChangeAt Go.RowKit Go.BigFrame Go.Joins
set_option linter.unusedVariables false
set_option maxRecDepth 100000
set_option linter.unusedSimpArgs false
set_option maxRecDepth 100000

theorem rowGEl {w : World} {base n c : Nat} {a : Option Addr} {S : List GT} (h : w.ownsRow base GI 3 (.slice a n c) n (flatG S)) (hS : S.length = n) (i : Nat) (hi : i < n) (t : GT) (ht : S[i]? = some t) :
    ∃ g, a = some ⟨g, 0, none⟩ ∧ w.cell? ⟨g, i * 3, none⟩ = some (.int .i64 t.E.a) ∧ w.cell? ⟨g, i * 3 + 1, none⟩ = some (.int .i64 t.E.n) ∧ w.cell? ⟨g, i * 3 + 2, none⟩ = some t.u := by
  have hrow := h
  rcases h.2 with ⟨h', e⟩ | ⟨g, cap, cur, h', hb, hg, hnc, hcm, hcs, htake⟩
  · omega
  · simp only [Value.slice.injEq, true_and] at h'
    obtain ⟨rfl, rfl⟩ := h'
    have hiS : i < S.length := by omega
    have e : S[i] = t := by rw [List.getElem?_eq_getElem hiS] at ht; exact Option.some.inj ht
    have hc : ∀ j, j < 3 → w.cell? ⟨g, i * 3 + j, none⟩ = (cellsG t)[j]? := fun j hj => by
      rw [hrow.cellAt (i * 3 + j) (by omega), flatG_get S i j hiS hj, e]
    exact ⟨g, rfl, hc 0 (by omega), hc 1 (by omega), hc 2 (by omega)⟩
abbrev zG3 : Array Value := #[.int .i64 0, .int .i64 0, .slice none 0 0]
theorem flatG_cons (s : GT) (S : List GT) : flatG (s :: S) = cellsG s ++ flatG S := by simp [flatG]
theorem flatG_set (t : GT) (S : List GT) (K : Nat) (h : K < S.length) :
    (((flatG S).set (K * 3) (.int .i64 t.E.a)).set (K * 3 + 1) (.int .i64 t.E.n)).set (K * 3 + 2) t.u = flatG (S.set K t) := by
  rw [set3 (n := S.length) (flatG_len S) h, (flatG_td S K).1, (flatG_td S (K + 1)).2, show ([.int .i64 t.E.a, .int .i64 t.E.n, t.u] : List Value) = cellsG t from rfl, List.set_eq_take_append_cons_drop, if_pos h, flatG_append]
  simp [flatG]
theorem ownG_setCells {base g n cap : Nat} : ∀ (vs : List Value) (o : Nat) (w : World) (xs : List Value), w.ownsRow base GI 3 (.slice (some ⟨g, 0, none⟩) n cap) n xs → ∃ xs', (w.setCells g o vs).ownsRow base GI 3 (.slice (some ⟨g, 0, none⟩) n cap) n xs' ∧ xs'.take o = xs.take o
  | [], o, w, xs, h => ⟨xs, h, rfl⟩
  | u :: r, o, w, xs, h => by
    obtain ⟨xs', h', e⟩ := ownG_setCells r (o + 1) (w.setCell ⟨g, o, none⟩ u) (xs.set o u) (h.stored o u).1
    refine ⟨xs', by simpa [World.setCells] using h', ?_⟩
    have e2 := congrArg (List.take o) e
    rw [List.take_take, List.take_take] at e2
    simp only [show min o (o + 1) = o by omega] at e2
    rw [e2, List.take_set_of_le (Nat.le_refl _)]
theorem grownGs_setCells {g : Nat} : ∀ (vs : List Value) (o : Nat) (w : World), w.grownBy (w.setCells g o vs) (some g)
  | [], o, w => World.grownBy.refl _ _
  | u :: r, o, w => grown_trans (grown_set w g o u) (grownGs_setCells r (o + 1) _)
theorem ownG_cut {w : World} {base g n cap K : Nat} {xs : List Value} (h : w.ownsRow base GI 3 (.slice (some ⟨g, 0, none⟩) n cap) n xs) (hK : K ≤ n) : w.ownsRow base GI 3 (.slice (some ⟨g, 0, none⟩) K cap) K (xs.take (K * 3)) := by
  rcases h.2 with ⟨h', _⟩ | ⟨g', cap', cur, h', hb, hg, hnc, hcm, hcs, htake⟩
  · simp at h'
  · simp only [Value.slice.injEq, Option.some.injEq, Addr.mk.injEq, and_true, true_and] at h'
    obtain ⟨rfl, rfl⟩ := h'
    refine ⟨by simp [h.1]; omega, .inr ⟨g, cap, cur, rfl, hb, hg, by omega, hcm, hcs, ?_⟩⟩
    rw [← htake, List.take_take, show min (K * 3) (n * 3) = K * 3 by omega]
theorem zeroG3 (w : World) : (zeroValue GI).run Try.prog w = .ok (.agg zG3) w := by
  kernel_rfl
theorem madeG_one (n : Nat) : ∀ v ∈ (madeCells zG3 (n * 3)).toList, v.oneCell' = true := by
  intro v hv
  have hv2 : v ∈ (Array.range (n * 3)).toList.map (fun x => zG3[x % zG3.size]!) := by simpa [madeCells] using hv
  obtain ⟨i, -, rfl⟩ := List.mem_map.1 hv2
  have : ∀ j : Nat, j < 3 → (zG3[j]!).oneCell' = true := fun j hj => by
    rcases j with _ | _ | _ | q
    iterate 3 rfl
    omega
  exact this _ (Nat.mod_lt _ (by decide))
theorem clear_G (w : World) (ty : TypeId) (b o n c : Nat) (hn : 0 < n) (hc : ∀ j, j < n * 3 → (w.cell? ⟨b, o + j, none⟩).isSome = true) (hf : ∀ j, j < n * 3 → w.frozen? ⟨b, o + j, none⟩ = false) :
    (Builtin.clear_ #[129] ty #[.slice (some ⟨b, o, none⟩) n c]).run Try.prog w = .ok (.tuple #[]) (w.setCells b o (madeCells zG3 (n * 3)).toList) := by
  have hzc : Builtin.zeroCells zG3 n = madeCells zG3 (n * 3) := rfl
  have hl : (madeCells zG3 (n * 3)).toList.length = n * 3 := by simp [madeCells]
  have hst := run_storeCells_cells (P := Try.prog) b o (madeCells zG3 (n * 3)).toList 0 w (by rw [hl]; simpa using hc) (by rw [hl]; simpa using hf) (madeG_one n)
  simp only [Nat.add_zero] at hst
  obtain ⟨m, rfl⟩ : ∃ m, n = m + 1 := ⟨n - 1, by omega⟩
  simp [Builtin.clear_, run_underlying Try.underlying129, zeroG3, Value.cells, hzc, hst]
theorem sameQ_neg {p q : Int × Int} (h : sameQ p q = false) : ¬ (p.1 = q.1 ∧ p.2 = q.2) := of_decide_eq_false h
set_option maxHeartbeats 1000000 in
theorem iixQ_any (v : Value) (P : List (Int × Int)) (p : Int × Int) (w : World) (h : RdP w v P) (hn1 : P.length ≤ 9223372036854775807) :
    Calls Try.prog 150 #[v, .agg #[.int .i64 p.1, .int .i64 p.2]] w fun e w' => ∃ r : Int, e = .returned (.int .i64 r) ∧ decide (0 ≤ r) = (P.any fun q => sameQ p q) ∧ Below w.heap.size w w' := by
  obtain ⟨a, c, rfl, hc⟩ := h.el
  obtain ⟨n, hn⟩ : ∃ n, n = P.length := ⟨_, rfl⟩
  rw [← hn] at hc hn1 ⊢
  have HN := Lib.hid hn
  clear h hn
  obtain ⟨x, y⟩ := p
  obtain ⟨bZ, B0, z⟩ := one w [.int .i64 x, .int .i64 y] 48
  obtain ⟨V, hV⟩ : ∃ V, V = w.alloc (.cells #[.int .i64 x, .int .i64 y] 48) := ⟨_, rfl⟩
  rw [← hV] at bZ B0
  have lZ := bZ.lt
  clear z
  dsimp only
  go_enter Try.func150, Try.ntmps150
  go_wp2
  rw [← hV]
  clear hV
  go_loopw [8] (fun q wr => ∃ k : Nat, k ≤ n ∧ q = .int .i64 k ∧ (∀ j, j < k → sameQ (x, y) (P.getD j (0, 0)) = false) ∧ Over V wr) (fun q _ => n - (intOf q).toNat)
  case atStart => exact ⟨0, Nat.zero_le _, rfl, fun j hj => by omega, over_refl V⟩
  case round =>
    obtain ⟨k, hk, rfl, hno, hB⟩ := hrel
    by_cases hlt : k < n
    · have hltI : (k : Int) < (n : Int) := by omega
      have hwi : IntKind.i64.wrap (k : Int) = (k : Int) := wrap64_in _ (by omega) (by omega)
      obtain ⟨b, o, rfl, d0, d1⟩ := hc k hlt
      obtain ⟨⟨u, t⟩, hx⟩ : ∃ q, P.getD k (0, 0) = q := ⟨_, rfl⟩
      rw [hx] at d0 d1
      dsimp only at d0 d1
      have d0 := cell_keep B0 (World.block_lt_of_cell? w _ d0) d0
      have d1 := cell_keep B0 (World.block_lt_of_cell? w _ d1) d1
      have g0 := over_cell hB (World.block_lt_of_cell? _ _ d0) d0
      have g1 := over_cell hB (World.block_lt_of_cell? _ _ d1) d1
      have z0 := over_cell hB lZ (bZ.c 0 rfl)
      have z1 := over_cell hB lZ (bZ.c 1 rfl)
      have HX := Lib.hid hx
      have HO := Lib.hid hno
      have HC := Lib.hid hc
      clear hx hno hc d0 d1
      by_cases he : x = u ∧ y = t
      · obtain ⟨rfl, rfl⟩ := he
        go_wp2
        go_region
        go_wp2
        go_ret
        refine ⟨(k : Int), rfl, ?_, below_step B0 (Below.drew hB)⟩
        rw [decide_eq_true (by omega)]
        refine (List.any_eq_true.2 ⟨P.getD k (0, 0), ?_, ?_⟩).symm
        · have hk' : k < P.length := by rw [← HN.out]; exact hlt
          simp [List.getD, hk']
        · rw [HX.out]; exact decide_eq_true ⟨rfl, rfl⟩
      · have HE2 : Hid (sameQ (x, y) (u, t) = false) := Lib.hid (decide_eq_false he)
        by_cases hx : x = u
        · have hy : ¬ y = t := fun e => he ⟨hx, e⟩
          subst hx
          clear he
          go_wp2
          go_region
          go_wp2
          go_roundw
          case rel =>
            refine ⟨k + 1, by omega, by go_num, fun j hj => ?_, Below.drew hB⟩
            by_cases q : j = k
            · subst q; rw [HX.out]; exact HE2.out
            · exact HO.out j (by omega)
          case measure => simp [intOf]; omega
        · clear he
          go_wp2
          go_region
          go_wp2
          go_roundw
          case rel =>
            refine ⟨k + 1, by omega, by go_num, fun j hj => ?_, Below.drew hB⟩
            by_cases q : j = k
            · subst q; rw [HX.out]; exact HE2.out
            · exact HO.out j (by omega)
          case measure => simp [intOf]; omega
    · have hkn : k = n := by omega
      subst hkn
      have HO := Lib.hid hno
      clear hno hc
      go_wp2
      go_ret
      refine ⟨-1, rfl, ?_, below_step B0 hB⟩
      refine (List.any_eq_false.2 fun q hq => ?_).symm
      obtain ⟨j, hj, rfl⟩ := List.mem_iff_getElem.1 hq
      have := HO.out j (by rw [HN.out]; exact hj)
      rw [show P.getD j (0, 0) = P[j] by simp [List.getD, hj]] at this
      rw [this]
      simp
theorem iconQ_any (v : Value) (P : List (Int × Int)) (p : Int × Int) (w : World) (h : RdP w v P) (hn1 : P.length ≤ 9223372036854775807) :
    Calls Try.prog 103 #[v, .agg #[.int .i64 p.1, .int .i64 p.2]] w fun e w' => e = .returned (.bool (P.any fun q => sameQ p q)) ∧ Below w.heap.size w w' := by
  obtain ⟨x, y⟩ := p
  obtain ⟨a, c, rfl⟩ := h.len
  obtain ⟨bZ, B0, z⟩ := one w [.int .i64 x, .int .i64 y] 48
  have z0 := bZ.c 0 rfl
  have z1 := bZ.c 1 rfl
  dsimp only
  go_enter Try.func103, Try.ntmps103
  go_wp2_with fail
  clear z0 z1 z
  refine (iixQ_any _ P (x, y) _ (h.keep B0) hn1).mono ?_
  rintro e w1 ⟨r, rfl, hr, hb⟩
  replace B0 := below_step B0 hb
  have HR := Lib.hid hr
  clear hr hb bZ
  go_wp2
  go_ret
  exact ⟨by rw [← HR.out]; first | rfl | simp, B0⟩
/-- the groups that stay -/
def goneQ (P : List (Int × Int)) (E : Grp) : Bool := P.any fun q => sameQ (pxG E) q
theorem iclQ_any (E : Grp) (ev pv : Value) (P : List (Int × Int)) (C : Nat) (w : World) (hC : Bl w C [pv]) (hp : RdP w pv P) (hn1 : P.length ≤ 9223372036854775807) :
    Calls Try.prog 102 #[.agg #[.int .i64 E.a, .int .i64 E.n, ev], .pointer (some ⟨C, 0, none⟩)] w fun e w' => e = .returned (.bool (goneQ P E)) ∧ Below w.heap.size w w' := by
  obtain ⟨a, c, rfl⟩ := hp.len
  obtain ⟨bZ, B0, z⟩ := one w [.int .i64 E.a, .int .i64 E.n, ev] GI
  have z0 := bZ.c 0 rfl
  have z1 := bZ.c 1 rfl
  have c0 := (hC.keep B0).c 0 rfl
  go_enter Try.func102, Try.ntmps102
  go_wp2_with fail
  clear z0 z1 z c0
  refine (iconQ_any _ P (pxG E) _ (hp.keep B0) hn1).mono ?_
  rintro e w1 ⟨rfl, hb⟩
  replace B0 := below_step B0 hb
  clear hb bZ
  go_wp2
  go_ret
  exact ⟨rfl, B0⟩
/-- the place of the first that is dropped, or none -/
def FirstQ (T : List GT) (P : List (Int × Int)) (r : Int) : Prop :=
  (r = -1 ∧ ∀ (j : Nat) (t : GT), T[j]? = some t → goneQ P t.E = false) ∨ ∃ i : Nat, i < T.length ∧ r = i ∧ (∀ j, j < i → ∀ t : GT, T[j]? = some t → goneQ P t.E = false) ∧ ∀ t : GT, T[i]? = some t → goneQ P t.E = true
set_option maxHeartbeats 1000000 in
theorem iixFQ_any (v pv : Value) (T : List GT) (P : List (Int × Int)) (C : Nat) (base : Nat) (w : World) (h : w.ownsRow base GI 3 v T.length (flatG T)) (hn1 : T.length ≤ 1048576) (hC : Bl w C [pv]) (hp : RdP w pv P) (hp1 : P.length ≤ 9223372036854775807) :
    Calls Try.prog 149 #[v, .func (.func 102) #[] #[.pointer (some ⟨C, 0, none⟩)]] w fun e w' => ∃ r : Int, e = .returned (.int .i64 r) ∧ FirstQ T P r ∧ Below w.heap.size w w' := by
  obtain ⟨a, c, rfl⟩ := row_sliceGG h
  obtain ⟨n, hn⟩ : ∃ n, n = T.length := ⟨_, rfl⟩
  rw [← hn] at h hn1 ⊢
  have hEl := rowGEl h hn.symm
  have HN := Lib.hid hn
  clear h hn
  go_enter Try.func149, Try.ntmps149
  go_wp2
  go_loopw [8] (fun q wr => ∃ k : Nat, k ≤ n ∧ q = .int .i64 k ∧ (∀ j, j < k → ∀ t, T[j]? = some t → goneQ P t.E = false) ∧ Below w.heap.size w wr) (fun q _ => n - (intOf q).toNat)
  case atStart => exact ⟨0, Nat.zero_le _, rfl, fun j hj => by omega, Below.refl _ _⟩
  case round =>
    obtain ⟨k, hk, rfl, hno, hB⟩ := hrel
    by_cases hlt : k < n
    · have hltI : (k : Int) < (n : Int) := by omega
      have hkT : k < T.length := by rw [← HN.out]; exact hlt
      obtain ⟨t, ht⟩ : ∃ t, T[k]? = some t := ⟨T[k], List.getElem?_eq_getElem hkT⟩
      obtain ⟨g, rfl, G0, G1, G2⟩ := hEl k hlt t ht
      obtain ⟨E, u⟩ := t
      dsimp only at G0 G1 G2
      have g0 := over_cell hB (World.block_lt_of_cell? _ _ G0) G0
      have g1 := over_cell hB (World.block_lt_of_cell? _ _ G1) G1
      have g2 := over_cell hB (World.block_lt_of_cell? _ _ G2) G2
      have HT := Lib.hid ht
      have HO := Lib.hid hno
      have HE := Lib.hid hEl
      clear ht hno hEl hkT G0 G1 G2
      go_wp2_with fail
      refine (iclQ_any E u pv P C wr (hC.keep hB) (hp.keep hB) hp1).mono ?_
      rintro e w1 ⟨rfl, hb1⟩
      cases hbq : goneQ P E
      · go_wp2
        go_roundw
        case rel =>
          refine ⟨k + 1, by omega, by go_num, fun j hj t ht => ?_, below_step hB hb1⟩
          by_cases hjk : j = k
          · subst hjk
            rw [HT.out] at ht
            injection ht with ht
            subst ht
            exact hbq
          · exact HO.out j (by omega) t ht
        case measure => simp [intOf]; omega
      · go_wp2
        go_ret
        exact ⟨(k : Int), rfl, .inr ⟨k, by rw [← HN.out]; exact hlt, rfl, HO.out, fun t ht => by
          rw [HT.out] at ht
          injection ht with ht
          subst ht
          exact hbq⟩, below_step hB hb1⟩
    · have hkn : k = n := by omega
      subst hkn
      have HO := Lib.hid hno
      clear hno hEl
      go_wp2
      go_ret
      exact ⟨-1, rfl, .inl ⟨rfl, fun j t ht => HO.out j (by
        have := (List.getElem?_eq_some_iff.1 ht).1
        rw [HN.out]
        exact this) t ht⟩, hB⟩
end Go.Proofs.Ytbcmoofpgffbhaa
