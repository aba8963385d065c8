/-
  Delta of the program. Conditions: those in each contract.
-/
import Derived.Test.YtbcmoofpgffbhaaDA
import Derived.Test.YtbcmoofpgffbhaaSH
import Derived.Test.YtbcmoofpgffbhaaLC
import Derived.Laws.StructEq
namespace Go.Proofs.Ytbcmoofpgffbhaa
open Go.ChangeShapes Go.WideShapes Go.ChangeAt Go.RowKit Go.BigFrame Go.Joins
set_option linter.unusedVariables false
set_option maxRecDepth 100000
set_option linter.unusedSimpArgs false
set_option maxRecDepth 100000

theorem slH_any (v u : Value) (l m : List (Int × Int)) (w : World) (h1 : RdP w v l) (h2 : RdP w u m) :
    Calls Try.prog 146 #[v, u] w fun e w' => e = .returned (.bool (decide (l = m))) ∧ Below w.heap.size w w' := by
  by_cases hlen : l.length = m.length
  · have hm1 := h1.1
    obtain ⟨a, c, rfl, hc⟩ := h1.el
    obtain ⟨a', c', rfl, hc'⟩ := h2.el
    obtain ⟨n, hn⟩ : ∃ n, n = l.length := ⟨_, rfl⟩
    have hn' : n = m.length := hn.trans hlen
    rw [← hn'] at hc' ⊢
    rw [← hn] at hc hm1 ⊢
    have HN := Lib.hid hn
    have HN' := Lib.hid hn'
    clear hn hn' hlen h1 h2
    go_enter Try.func146, Try.ntmps146
    go_wp2
    go_loopw [13] (fun i wr => ∃ k : Nat, k ≤ n ∧ i = .int .i64 k ∧ l.take k = m.take k ∧ Below w.heap.size w wr) (fun i _ => n - (intOf i).toNat)
    case atStart => exact ⟨0, Nat.zero_le _, rfl, rfl, Below.refl _ _⟩
    case round =>
      obtain ⟨k, hk, rfl, ht, hB⟩ := hrel
      have HT := Lib.hid ht
      clear ht
      by_cases hlt : k < n
      · have hltI : (k : Int) < (n : Int) := by omega
        obtain ⟨b, o, rfl, d0, d1⟩ := hc k hlt
        obtain ⟨b', o', rfl, d0', d1'⟩ := hc' k hlt
        have e0 := cell_keep hB (World.block_lt_of_cell? w _ d0) d0
        have e1 := cell_keep hB (World.block_lt_of_cell? w _ d1) d1
        have e2 := cell_keep hB (World.block_lt_of_cell? w _ d0') d0'
        have e3 := cell_keep hB (World.block_lt_of_cell? w _ d1') d1'
        obtain ⟨⟨x, y⟩, hx⟩ : ∃ q, l.getD k (0, 0) = q := ⟨_, rfl⟩
        obtain ⟨⟨x', y'⟩, hx'⟩ : ∃ q, m.getD k (0, 0) = q := ⟨_, rfl⟩
        rw [hx] at e0 e1
        rw [hx'] at e2 e3
        have HX := Lib.hid hx
        have HY := Lib.hid hx'
        clear hx hx' hc hc' d0 d1 d0' d1'
        by_cases hxy : x = x' ∧ y = y'
        · obtain ⟨rfl, rfl⟩ := hxy
          go_wp2
          go_region
          go_wp2
          go_roundw
          case rel => exact ⟨k + 1, by omega, by go_num, takeP_succ HT.out (by rw [← HN.out]; exact hlt) (by rw [← HN'.out]; exact hlt) (by rw [HX.out, HY.out]), hB.drew⟩
          case measure => simp [intOf]; omega
        · have hlm : decide (l = m) = false := by
            simp only [decide_eq_false_iff_not]
            rintro rfl
            have := HX.out.symm.trans HY.out
            cases this
            exact hxy ⟨rfl, rfl⟩
          have HL := Lib.hid hlm
          clear hlm
          by_cases hx : x = x'
          · have hy : ¬ y = y' := fun e => hxy ⟨hx, e⟩
            subst hx
            clear hxy
            go_wp2
            go_region
            go_wp2
            go_ret
            exact ⟨ret_bool HL.out.symm, hB.drew⟩
          · clear hxy
            go_wp2
            go_region
            go_wp2
            go_ret
            exact ⟨ret_bool HL.out.symm, hB.drew⟩
      · have hkn : k = n := by omega
        have hlm : decide (l = m) = true := by
          have h := HT.out
          rw [hkn, List.take_of_length_le (by rw [HN.out]; exact Nat.le_refl _), List.take_of_length_le (by rw [HN'.out]; exact Nat.le_refl _)] at h
          simp [h]
        have HL := Lib.hid hlm
        clear hlm hkn hc hc'
        go_wp2
        go_ret
        exact ⟨ret_bool HL.out.symm, hB⟩
  · have hd : decide (l = m) = false := by
      simp only [decide_eq_false_iff_not]
      rintro rfl
      exact hlen rfl
    rw [hd]
    clear hd
    obtain ⟨a, c, rfl⟩ := h1.len
    obtain ⟨a', c', rfl⟩ := h2.len
    have hne : ((l.length : Int) != (m.length : Int)) = true := by simp; omega
    clear h1 h2
    go_enter Try.func146, Try.ntmps146
    go_wp2
    go_ret
    exact ⟨rfl, Below.refl _ _⟩
theorem slH_t {v u : Value} {l m : List (Int × Int)} {b : Bool} (w : World) (h1 : RdP w v l) (h2 : RdP w u m) (H : Hid (decide (l = m) = b)) :
    Calls Try.prog 146 #[v, u] w fun e w' => e = .returned (.bool b) ∧ Below w.heap.size w w' := H.out ▸ slH_any v u l m w h1 h2
/-- a group beside the value of its hops -/
structure GT where
  E : Grp
  u : Value
def cellsG (t : GT) : List Value := [.int .i64 t.E.a, .int .i64 t.E.n, t.u]
def flatG (T : List GT) : List Value := T.flatMap cellsG
theorem flatG_len (T : List GT) : (flatG T).length = T.length * 3 := by
  induction T with
  | nil => rfl
  | cons t T ih => simp only [flatG, List.flatMap_cons, List.length_append, List.length_cons] at ih ⊢; rw [ih]; simp [cellsG]; omega
theorem flatG_append (S T : List GT) : flatG (S ++ T) = flatG S ++ flatG T := by simp [flatG]
theorem flatG_get (T : List GT) (i j : Nat) (hi : i < T.length) (hj : j < 3) : (flatG T)[i * 3 + j]? = (cellsG (T[i]'hi))[j]? := by
  induction T generalizing i with
  | nil => simp at hi
  | cons t T ih =>
    have e : flatG (t :: T) = cellsG t ++ flatG T := by simp [flatG]
    rw [e]
    cases i with
    | zero =>
      rw [Nat.zero_mul, Nat.zero_add, List.getElem?_append_left (by simp [cellsG]; omega)]
      rfl
    | succ i =>
      rw [List.getElem?_append_right (by simp [cellsG]; omega), show (i + 1) * 3 + j - (cellsG t).length = i * 3 + j by simp [cellsG]; omega, ih i (by simpa using hi)]
      rfl
def grpT (T : List GT) : List Grp := T.map (·.E)
theorem grpT_len (T : List GT) : (grpT T).length = T.length := by simp [grpT]
theorem grpT_append (S T : List GT) : grpT (S ++ T) = grpT S ++ grpT T := by simp [grpT]
theorem grpT_get {T : List GT} {i : Nat} (hi : i < T.length) : (grpT T).getD i gr0 = (T[i]'hi).E := by simp [grpT, List.getD, hi]
theorem rowG_rd {w : World} {base : Nat} {v : Value} {T : List GT} (h : w.ownsRow base GI 3 v T.length (flatG T)) (hr : ∀ t ∈ T, RdP w t.u t.E.h) : RdG w v (grpT T) := by
  rcases h.2 with ⟨rfl, hn⟩ | ⟨g, cap, cur, rfl, hb, hg, hnc, hcm, hcs, htake⟩
  · have hT : T = [] := List.eq_nil_of_length_eq_zero hn
    subst hT
    exact RdG.nil w
  · rw [← grpT_len]
    refine ⟨by rw [grpT_len]; unfold maxLen at hcm; omega, ?_⟩
    by_cases hz : T.length = 0
    · exact .inl ⟨some ⟨g, 0, none⟩, cap, by rw [grpT_len, hz], List.eq_nil_of_length_eq_zero (by rw [grpT_len, hz]), fun h => by cases h⟩
    · refine .inr ⟨g, 0, cap, rfl, by rw [grpT_len]; omega, fun i hi => ?_⟩
      rw [grpT_len] at hi
      have hm : T[i] ∈ T := List.getElem_mem hi
      rw [grpT_get hi]
      have hc : ∀ j, j < 3 → w.cell? ⟨g, 0 + i * 3 + j, none⟩ = (cellsG T[i])[j]? := fun j hj => by
        rw [Nat.zero_add, h.cellAt (i * 3 + j) (by omega), flatG_get T i j hi hj]
      exact ⟨T[i].u, hr _ hm, hc 0 (by omega), hc 1 (by omega), hc 2 (by omega)⟩
theorem rowG_keep {w w' : World} {base : Nat} {v : Value} {T : List GT} (h : w.ownsRow base GI 3 v T.length (flatG T)) (hb : Below w.heap.size w w') : w'.ownsRow base GI 3 v T.length (flatG T) :=
  World.ownsRow.kept (row := none) h ⟨hb.os, hb.tape, hb.output, hb.size, fun k hk _ => hb.block k hk⟩ (by cases v.ownBlock <;> simp)
theorem rowG_more {w : World} {base : Nat} {v : Value} {T : List GT} {t : GT} (h : w.ownsRow base GI 3 v (T.length + 1) (flatG T ++ cellsG t)) : w.ownsRow base GI 3 v (T ++ [t]).length (flatG (T ++ [t])) := by
  rw [List.length_append, flatG_append, show flatG [t] = cellsG t by simp [flatG]]
  exact h
theorem filtG_more {L : List Grp} {k : Nat} {E : Grp} (f : Grp → Bool) (hk : k < L.length) (hx : L.getD k gr0 = E) : (L.take (k + 1)).filter f = (L.take k).filter f ++ (if f E = true then [E] else []) := by
  have hg : L[k] = E := by simpa [List.getD, hk] using hx
  rw [List.take_add_one, List.getElem?_eq_getElem hk, hg, List.filter_append]
  by_cases h : f E = true
  · simp [h]
  · simp [h]
theorem filtP_more {l : List (Int × Int)} {k : Nat} {p : Int × Int} (f : Int × Int → Bool) (hk : k < l.length) (hx : l.getD k (0, 0) = p) : (l.take (k + 1)).filter f = (l.take k).filter f ++ (if f p = true then [p] else []) := by
  have hg : l[k] = p := by simpa [List.getD, hk] using hx
  rw [List.take_add_one, List.getElem?_eq_getElem hk, hg, List.filter_append]
  by_cases h : f p = true
  · simp [h]
  · simp [h]
theorem below_growD {V w w' : World} {v : Value} {base n e s : Nat} {xs : List Value} (h : Below V.heap.size V w) (ho : w.ownsRow base e s v n xs) (hb : V.heap.size ≤ base) (hg : w.grownBy w' v.ownBlock) : Below V.heap.size V w' :=
  Below.grown h hg h.size (fun k hk => Nat.le_trans hb (World.ownsRow.lt ho k hk).1)
theorem isg_any (u v : Value) (a n b m : Int) (l k : List (Int × Int)) (w : World) (hx : RdP w u l) (hy : RdP w v k) :
    Calls Try.prog 91 #[.agg #[.int .i64 a, .int .i64 n, u], .agg #[.int .i64 b, .int .i64 m, v]] w fun e w' => e = .returned (.bool (decide (a = b ∧ n = m) && decide (l = k))) ∧ Below w.heap.size w w' := by
  obtain ⟨bA, bB, B0, z⟩ := two w [.int .i64 a, .int .i64 n, u] [.int .i64 b, .int .i64 m, v] GI GI
  replace hx := hx.keep B0
  replace hy := hy.keep B0
  obtain ⟨ua, ux, rfl⟩ := hx.len
  obtain ⟨va, vx, rfl⟩ := hy.len
  clear z
  have a0 := bA.c 0 rfl
  have a1 := bA.c 1 rfl
  have a2 := bA.c 2 rfl
  have b0 := bB.c 0 rfl
  have b1 := bB.c 1 rfl
  have b2 := bB.c 2 rfl
  by_cases ha : a = b
  · by_cases hn : n = m
    · obtain ⟨g, hg⟩ : ∃ g, decide (l = k) = g := ⟨_, rfl⟩
      rw [decide_eq_true (And.intro ha hn), hg, Bool.true_and]
      have HG := Lib.hid hg
      subst ha hn
      clear hg
      go_enter Try.func91, Try.ntmps91
      go_wp2_with fail
      refine (slH_t _ hx hy HG).mono ?_
      rintro e w1 ⟨rfl, hb⟩
      replace B0 := below_step B0 hb
      go_wp2
      go_ret
      exact ⟨rfl, B0⟩
    · rw [decide_eq_false (fun q => hn q.2), Bool.false_and]
      have hb1 : (n == m) = false := by simp [hn]
      subst ha
      clear hn
      go_enter Try.func91, Try.ntmps91
      go_wp2
      go_ret
      exact ⟨rfl, B0⟩
  · rw [decide_eq_false (fun q => ha q.1), Bool.false_and]
    have hb1 : (a == b) = false := by simp [ha]
    clear ha
    go_enter Try.func91, Try.ntmps91
    go_wp2
    go_ret
    exact ⟨rfl, B0⟩
theorem isg_t {u v : Value} {x y : Grp} {g : Bool} (w : World) (hx : RdP w u x.h) (hy : RdP w v y.h) (H : Hid (sameG x y = g)) :
    Calls Try.prog 91 #[.agg #[.int .i64 x.a, .int .i64 x.n, u], .agg #[.int .i64 y.a, .int .i64 y.n, v]] w fun e w' => e = .returned (.bool g) ∧ Below w.heap.size w w' := H.out ▸ isg_any u v x.a x.n y.a y.n x.h y.h w hx hy
theorem isp_any (a n b m : Int) (w : World) :
    Calls Try.prog 94 #[.agg #[.int .i64 a, .int .i64 n], .agg #[.int .i64 b, .int .i64 m]] w fun e w' => e = .returned (.bool (decide (a = b ∧ n = m))) ∧ Below w.heap.size w w' := by
  obtain ⟨bA, bB, B0, z⟩ := two w [.int .i64 a, .int .i64 n] [.int .i64 b, .int .i64 m] PT PT
  clear z
  have a0 := bA.c 0 rfl
  have a1 := bA.c 1 rfl
  have b0 := bB.c 0 rfl
  have b1 := bB.c 1 rfl
  by_cases ha : a = b
  · by_cases hn : n = m
    · rw [decide_eq_true (And.intro ha hn)]
      subst ha hn
      go_enter Try.func94, Try.ntmps94
      go_wp2
      go_ret
      exact ⟨rfl, B0⟩
    · rw [decide_eq_false (fun q => hn q.2)]
      have hb1 : (n == m) = false := by simp [hn]
      subst ha
      clear hn
      go_enter Try.func94, Try.ntmps94
      go_wp2
      go_ret
      exact ⟨rfl, B0⟩
  · rw [decide_eq_false (fun q => ha q.1)]
    have hb1 : (a == b) = false := by simp [ha]
    clear ha
    go_enter Try.func94, Try.ntmps94
    go_wp2
    go_ret
    exact ⟨rfl, B0⟩
theorem isp_t {a n b m : Int} {g : Bool} (w : World) (H : Hid (decide (a = b ∧ n = m) = g)) :
    Calls Try.prog 94 #[.agg #[.int .i64 a, .int .i64 n], .agg #[.int .i64 b, .int .i64 m]] w fun e w' => e = .returned (.bool g) ∧ Below w.heap.size w w' := H.out ▸ isp_any a n b m w
theorem wp_apYL {ops : Array Oper} {rest : List Oper} {o : Oper} {a : Act} {Q : Exit → Act → World → Prop} {w : World} (hgd : o.guard = none) (s x : Operand)
    (ho : o.op = .call { callee := .builtin .append, args := #[s, x], argTypes := #[129, 129] })
    (base g c : Nat) (v : Value) (n : Nat) (xs : List Value) (ys : List Value) (hs : a.eval s = v) (hx : a.eval x = .slice (some ⟨g, 0, none⟩) 1 c) (hown : w.ownsRow base 70 3 v n xs)
    (h0 : Bl w g ys) (h7 : ys.length = 3) (h1 : ∀ u ∈ ys, u.oneCell' = true) (hlen : n + 1 ≤ 4294967296) (hbase : base ≤ w.heap.size)
    (h : ∀ v' w', w'.ownsRow base 70 3 v' (n + 1) (xs ++ ys) → w.grownBy w' v.ownBlock → (v'.ownBlock = v.ownBlock ∨ v'.ownBlock = some w.heap.size) → wpList Try.prog ops Q rest (a.put o.dst v') w') : wpList Try.prog ops Q (o :: rest) a w := by
  obtain ⟨i0, hi, hz0, hz1, hz2⟩ := info_parts infoOY
  refine wpList_append_own_at (w := w) hgd s x 129 ho base 70 i0 (.agg #[.int .i64 0, .int .i64 0, .slice none 0 0]) 3 40 Try.underlying129 hi hz0 hz1 hz2 rfl (by decide) v n xs hs hown ⟨g, 0, none⟩ 1 c ys hx (by omega) (fun j y hy => ?_) h1 (by unfold maxLen; omega) (by omega) hbase fun v' w' ho' hg' _ hor => h v' w' ho' hg' hor
  have hadd : ∀ j, (⟨g, 0, none⟩ : Addr).add j = ⟨g, j, none⟩ := fun j => by unfold Addr.add; split <;> simp_all
  rw [hadd]
  exact h0.c j hy
theorem wp_appLd {ops : Array Oper} {rest : List Oper} {o : Oper} {a : Act} {Q : Exit → Act → World → Prop} {w : World} (hgd : o.guard = none) (s x : Operand)
    (ho : o.op = .call { callee := .builtin .append, args := #[s, x], argTypes := #[131, 131] })
    (base g c : Nat) (v : Value) (l : List (Int × Int)) (p : Int × Int) (hs : a.eval s = v) (hx : a.eval x = .slice (some ⟨g, 0, none⟩) 1 c) (hown : OwnP w base v l)
    (h0 : w.cell? ⟨g, 0, none⟩ = some (.int .i64 p.1)) (h1 : w.cell? ⟨g, 1, none⟩ = some (.int .i64 p.2)) (hlen : l.length + 1 ≤ 4294967296) (hbase : base ≤ w.heap.size)
    (h : ∀ v' w', OwnP w' base v' (l ++ [p]) → w.grownBy w' v.ownBlock → wpList Try.prog ops Q rest (a.put o.dst v') w') : wpList Try.prog ops Q (o :: rest) a w := by
  obtain ⟨i0, hi, hz0, hz1, hz2⟩ := info_parts infoP
  have hmap : (flat l).map (Value.int .i64) ++ [.int .i64 p.1, .int .i64 p.2] = (flat (l ++ [p])).map (Value.int .i64) := by simp [flat]
  refine wpList_append_own w hgd s x 131 ho base PT i0 (.agg #[.int .i64 0, .int .i64 0]) 2 16 Try.underlying131 hi hz0 hz1 hz2 rfl (by decide) v l.length ((flat l).map (Value.int .i64)) hs hown ⟨g, 0, none⟩ 1 c [.int .i64 p.1, .int .i64 p.2] hx (by simp) (fun j y hy => ?_) (by simp [Value.oneCell']) (by unfold maxLen; omega) (by omega) hbase ?_
  · have hadd : ∀ j, (⟨g, 0, none⟩ : Addr).add j = ⟨g, j, none⟩ := fun j => by unfold Addr.add; split <;> simp_all
    rw [hadd]
    match j, hy with
    | 0, hy => simp at hy; subst hy; exact h0
    | 1, hy => simp at hy; subst hy; exact h1
  · intro v' w' ho' hg' _
    refine h v' w' ?_ hg'
    unfold OwnP
    rw [List.length_append, ← hmap]
    exact ho'
theorem iclDG_any (x : Grp) (xv : Value) (E : Grp) (ev : Value) (S X : Nat) (w : World) (hx : RdP w xv x.h) (he : RdP w ev E.h) (bS : Bl w S [.func (.func 91) #[] #[]]) (bX : Bl w X [.int .i64 x.a, .int .i64 x.n, xv]) :
    Calls Try.prog 145 #[.agg #[.int .i64 E.a, .int .i64 E.n, ev], .pointer (some ⟨S, 0, none⟩), .pointer (some ⟨X, 0, none⟩)] w fun e w' => e = .returned (.bool (sameG x E)) ∧ Below w.heap.size w w' := by
  obtain ⟨bE, B0, z⟩ := one w [.int .i64 E.a, .int .i64 E.n, ev] GI
  have s0 := (bS.keep B0).c 0 rfl
  obtain ⟨xa, xx, rfl⟩ := hx.len
  obtain ⟨ea, ex, rfl⟩ := he.len
  have hx1 := hx.keep B0
  have he1 := he.keep B0
  have x0 := (bX.keep B0).c 0 rfl
  have x1 := (bX.keep B0).c 1 rfl
  have x2 := (bX.keep B0).c 2 rfl
  have e0 := bE.c 0 rfl
  have e1 := bE.c 1 rfl
  have e2 := bE.c 2 rfl
  clear z
  obtain ⟨q, hq⟩ : ∃ q, (sameG x E) = q := ⟨_, rfl⟩
  have HQ := Lib.hid hq
  clear hq
  go_enter Try.func145, Try.ntmps145
  go_wp2_with fail
  refine (isg_t _ hx1 he1 HQ).mono ?_
  rintro e w1 ⟨rfl, hb⟩
  replace B0 := below_step B0 hb
  go_wp2
  go_ret
  exact ⟨ret_bool HQ.out.symm, B0⟩
set_option maxHeartbeats 1000000 in
theorem iixDG_any (x : Grp) (xv : Value) (v : Value) (L : List Grp) (S X : Nat) (w : World) (h : RdG w v L) (hx : RdP w xv x.h) (bS : Bl w S [.func (.func 91) #[] #[]]) (bX : Bl w X [.int .i64 x.a, .int .i64 x.n, xv]) :
    Calls Try.prog 149 #[v, .func (.func 145) #[] #[.pointer (some ⟨S, 0, none⟩), .pointer (some ⟨X, 0, none⟩)]] w fun e w' => ∃ r : Int, e = .returned (.int .i64 r) ∧ decide (0 ≤ r) = (L.any fun E => sameG x E) ∧ Below w.heap.size w w' := by
  have hm := h.1
  obtain ⟨a, c, rfl, hc⟩ := h.el
  obtain ⟨n, hn⟩ : ∃ n, n = L.length := ⟨_, rfl⟩
  rw [← hn] at hc hm ⊢
  have HN := Lib.hid hn
  clear h hn
  go_enter Try.func149, Try.ntmps149
  go_wp2
  go_loopw [8] (fun q wr => ∃ k : Nat, k ≤ n ∧ q = .int .i64 k ∧ (∀ j, j < k → (fun E => sameG x E) (L.getD j gr0) = false) ∧ Below w.heap.size w wr) (fun q _ => n - (intOf q).toNat)
  case atStart => exact ⟨0, Nat.zero_le _, rfl, fun j hj => by omega, Below.refl _ _⟩
  case round =>
    obtain ⟨k, hk, rfl, hyes, hB⟩ := hrel
    have HY := Lib.hid hyes
    clear hyes
    by_cases hlt : k < n
    · have hltI : (k : Int) < (n : Int) := by omega
      obtain ⟨b, o, rfl, hE⟩ := hc k hlt
      obtain ⟨E, hx9⟩ : ∃ E, L.getD k gr0 = E := ⟨_, rfl⟩
      rw [hx9] at hE
      obtain ⟨ev, he, g0, g1, g2⟩ := hE.keep hB
      obtain ⟨ea, ex, rfl⟩ := he.len
      clear hE
      have HX := Lib.hid hx9
      have HC := Lib.hid hc
      clear hx9 hc
      go_wp2_with fail
      refine (iclDG_any x xv E _ S X wr (hx.keep hB) he (bS.keep hB) (bX.keep hB)).mono ?_
      rintro e w1 ⟨rfl, hb1⟩
      clear g0 g1 g2 he
      obtain ⟨q, hq⟩ : ∃ q, q = (sameG x E) := ⟨_, rfl⟩
      rw [← hq]
      have HQ := Lib.hid hq
      clear hq
      cases q
      · go_wp2
        go_roundw
        case rel =>
          refine ⟨k + 1, by omega, by go_num, fun j hj => ?_, below_step hB hb1⟩
          by_cases hjk : j = k
          · subst hjk; rw [HX.out]; exact HQ.out.symm
          · exact HY.out j (by omega)
        case measure => simp [intOf]; omega
      · go_wp2
        go_ret
        refine ⟨(k : Int), rfl, ?_, below_step hB hb1⟩
        rw [show decide (0 ≤ (k : Int)) = true by simp]
        symm
        rw [List.any_eq_true]
        refine ⟨E, ?_, HQ.out.symm⟩
        rw [← HX.out, List.getD_eq_getElem?_getD, List.getElem?_eq_getElem (by rw [← HN.out]; exact hlt)]
        exact List.getElem_mem _
    · have hkn : k = n := by omega
      subst hkn
      clear hc
      go_wp2
      go_ret
      refine ⟨-1, rfl, ?_, hB⟩
      have e : (L.any fun E => sameG x E) = false := by
        rw [List.any_eq_false]
        intro E hE
        obtain ⟨i, hi, e⟩ := List.mem_iff_getElem.1 hE
        have := HY.out i (by rw [HN.out]; exact hi)
        rw [List.getD_eq_getElem?_getD, List.getElem?_eq_getElem hi] at this
        rw [← e]
        simpa using this
      rw [e]
      rfl
theorem icfDG_any (x : Grp) (xv : Value) (v : Value) (L : List Grp) (S X : Nat) (w : World) (h : RdG w v L) (hx : RdP w xv x.h) (bS : Bl w S [.func (.func 91) #[] #[]]) (bX : Bl w X [.int .i64 x.a, .int .i64 x.n, xv]) :
    Calls Try.prog 144 #[v, .func (.func 145) #[] #[.pointer (some ⟨S, 0, none⟩), .pointer (some ⟨X, 0, none⟩)]] w fun e w' => e = .returned (.bool (L.any fun E => sameG x E)) ∧ Below w.heap.size w w' := by
  obtain ⟨a, c, hv⟩ := h.len
  have hcall := iixDG_any x xv v L S X w h hx bS bX
  rw [hv] at hcall ⊢
  have HC := Lib.hid hcall
  clear hcall hv h bS bX
  go_enter Try.func144, Try.ntmps144
  go_wp2_with fail
  refine HC.out.mono ?_
  rintro e w1 ⟨r, rfl, hr, hb⟩
  have HR := Lib.hid hr
  clear hr
  go_wp2
  go_ret
  exact ⟨ret_bool HR.out, hb⟩
theorem icfDG_t {x : Grp} {xv : Value} {v : Value} {L : List Grp} {S X : Nat} {g : Bool} (w : World) (H : Hid ((L.any fun E => sameG x E) = g)) (h : RdG w v L) (hx : RdP w xv x.h) (bS : Bl w S [.func (.func 91) #[] #[]]) (bX : Bl w X [.int .i64 x.a, .int .i64 x.n, xv]) :
    Calls Try.prog 144 #[v, .func (.func 145) #[] #[.pointer (some ⟨S, 0, none⟩), .pointer (some ⟨X, 0, none⟩)]] w fun e w' => e = .returned (.bool g) ∧ Below w.heap.size w w' := H.out ▸ icfDG_any x xv v L S X w h hx bS bX
set_option maxHeartbeats 2000000 in
theorem iwoDG_any (v u : Value) (L M : List Grp) (w : World) (h : RdG w v M) (hu : RdG w u L) (hn1 : M.length ≤ 1048576) :
    Calls Try.prog 90 #[v, u, .func (.func 91) #[] #[]] w fun e w' => ∃ r, e = .returned r ∧ RdG w' r (cameL L M) ∧ Below w.heap.size w w' := by
  obtain ⟨a, c, rfl, hc⟩ := h.el
  obtain ⟨n, hn⟩ : ∃ n, n = M.length := ⟨_, rfl⟩
  rw [← hn] at hc hn1 ⊢
  have HN := Lib.hid hn
  clear h hn
  obtain ⟨bS, B0, z⟩ := one w [.func (.func 91) #[] #[]] 72
  go_enter Try.func90, Try.ntmps90
  go_wp2
  obtain ⟨W1, hW⟩ : ∃ W1, W1 = w.alloc (.cells #[.func (.func 91) #[] #[]] 72) := ⟨_, rfl⟩
  rw [← hW] at bS B0 z ⊢
  obtain ⟨S, hS⟩ : ∃ S, S = w.heap.size := ⟨_, rfl⟩
  rw [← hS] at bS
  try rw [← hS]
  have hSW : S < W1.heap.size := by omega
  have hwW : w.heap.size ≤ W1.heap.size := B0.size
  clear hW hS z
  go_loopw [7, 12] (fun lv q wr => ∃ k : Nat, k ≤ n ∧ q = .int .i64 k ∧ ∃ T : List GT, wr.ownsRow W1.heap.size GI 3 lv T.length (flatG T) ∧ grpT T = cameL L (M.take k) ∧ (∀ t ∈ T, RdP w t.u t.E.h) ∧ Below W1.heap.size W1 wr) (fun _ q _ => n - (intOf q).toNat)
  case atStart => exact ⟨0, Nat.zero_le _, rfl, [], World.ownsRow_nil _ _ _ _, rfl, (fun t ht => by cases ht), Below.refl _ _⟩
  case round =>
    obtain ⟨k, hk, rfl, T, hok, hTE, hRd, hB⟩ := hrel
    by_cases hlt : k < n
    · have hltI : (k : Int) < (n : Int) := by omega
      have BB := below_step B0 hB
      obtain ⟨b, o, rfl, hE⟩ := hc k hlt
      obtain ⟨x, hx9⟩ : ∃ x, M.getD k gr0 = x := ⟨_, rfl⟩
      rw [hx9] at hE
      obtain ⟨xv, hx, g0, g1, g2⟩ := hE
      obtain ⟨xa, xx, rfl⟩ := hx.len
      replace g0 := cell_keep BB (World.block_lt_of_cell? w _ g0) g0
      replace g1 := cell_keep BB (World.block_lt_of_cell? w _ g1) g1
      replace g2 := cell_keep BB (World.block_lt_of_cell? w _ g2) g2
      have HF := Lib.hid (filtG_more (fun x => !(L.any fun y => sameG x y)) (by rw [← HN.out]; exact hlt) hx9)
      have HLN : Hid (T.length + 1 ≤ 4294967296) := Lib.hid (by
        rw [← grpT_len, hTE]
        have := List.length_filter_le (fun x => !(L.any fun y => sameG x y)) (M.take k)
        rw [List.length_take] at this
        unfold cameL
        omega)
      have HTE := Lib.hid hTE
      have HRD := Lib.hid hRd
      clear hTE hRd
      have HCC := Lib.hid hc
      obtain ⟨g, hg⟩ : ∃ g, (L.any fun E => sameG x E) = g := ⟨_, rfl⟩
      have HG := Lib.hid hg
      clear hx9 hc hg
      have bP := Bl.new wr [.int .i64 x.a, .int .i64 x.n, .slice xa x.h.length xx] GI wr.heap.size rfl
      have A1 : Below wr.heap.size wr (wr.alloc (.cells #[.int .i64 x.a, .int .i64 x.n, .slice xa x.h.length xx] GI)) := (Below.refl _ _).alloc (Nat.le_refl _) _
      go_wp2_with fail
      clear g0 g1 g2
      obtain ⟨V, hV⟩ : ∃ V, V = wr.alloc (.cells #[.int .i64 x.a, .int .i64 x.n, .slice xa x.h.length xx] GI) := ⟨_, rfl⟩
      rw [← hV] at bP A1 ⊢
      have hVe : wr.heap.size + 1 = V.heap.size := by rw [hV]; simp
      obtain ⟨X, hX⟩ : ∃ X, X = wr.heap.size := ⟨_, rfl⟩
      rw [← hX] at bP hVe
      try rw [← hX]
      clear hV
      have hB1 : Below W1.heap.size W1 V := below_step hB A1
      have BV := below_step B0 hB1
      have hok1 := rowG_keep hok A1
      refine (icfDG_t _ HG (hu.keep BV) (hx.keep BV) (bS.keep hB1) bP).mono ?_
      rintro e w1 ⟨rfl, hb⟩
      replace bP := bP.keep hb
      have hok2 := rowG_keep hok1 hb
      have hB2 : Below W1.heap.size W1 w1 := below_step hB1 hb
      have hXw : X < w1.heap.size := bP.lt
      clear hb hok hok1 A1 hVe hX
      cases g
      · have p0 := bP.c 0 rfl
        have p1 := bP.c 1 rfl
        have p2 := bP.c 2 rfl
        go_wp2_with (at_builtin; refine Hid.out ?_)
        refine Lib.hid ?_
        clear p0 p1 p2
        obtain ⟨bQ, N2, z⟩ := one w1 [.int .i64 x.a, .int .i64 x.n, .slice xa x.h.length xx] GI
        clear z
        refine wp_apYL rfl _ _ rfl W1.heap.size w1.heap.size 1 _ T.length (flatG T) [.int .i64 x.a, .int .i64 x.n, .slice xa x.h.length xx] rfl rfl (rowG_keep hok2 N2) bQ rfl (by simp [Value.oneCell']) HLN.out (Nat.le_trans hB2.size N2.size) ?_
        intro v3 w3 o3 g3 _
        have O3 : Below W1.heap.size W1 w3 := below_growD (below_step hB2 N2) (rowG_keep hok2 N2) (Nat.le_refl _) g3
        clear g3 hok2 bQ N2
        go_wp2
        go_roundw
        case rel => exact ⟨k + 1, by omega, by go_num, T ++ [⟨x, .slice xa x.h.length xx⟩], rowG_more (t := ⟨x, .slice xa x.h.length xx⟩) o3, by rw [grpT_append, HTE.out]; unfold cameL; rw [HF.out, if_pos (by rw [HG.out]; rfl)]; rfl, (fun t ht => by
          rcases List.mem_append.1 ht with q | q
          · exact HRD.out t q
          · rw [List.mem_singleton.1 q]; exact hx), O3⟩
        case measure => simp [intOf]; omega
      · go_wp2_with fail
        go_roundw
        case rel => exact ⟨k + 1, by omega, by go_num, T, hok2, by rw [HTE.out]; unfold cameL; rw [HF.out, if_neg (by rw [HG.out]; simp), List.append_nil], HRD.out, hB2⟩
        case measure => simp [intOf]; omega
    · have hkn : k = n := by omega
      subst hkn
      have HT : Hid (M.take k = M) := Lib.hid (List.take_of_length_le (by rw [HN.out]; exact Nat.le_refl _))
      clear hc
      go_wp2
      go_ret
      have BB := below_step B0 hB
      exact ⟨_, rfl, by rw [← HT.out, ← hTE]; exact rowG_rd hok (fun t ht => (hRd t ht).keep BB), BB⟩
theorem iclDP_any (x : Int × Int) (E : Int × Int) (S X : Nat) (w : World) (bS : Bl w S [.func (.func 94) #[] #[]]) (bX : Bl w X [.int .i64 x.1, .int .i64 x.2]) :
    Calls Try.prog 148 #[.agg #[.int .i64 E.1, .int .i64 E.2], .pointer (some ⟨S, 0, none⟩), .pointer (some ⟨X, 0, none⟩)] w fun e w' => e = .returned (.bool (sameQ x E)) ∧ Below w.heap.size w w' := by
  obtain ⟨bE, B0, z⟩ := one w [.int .i64 E.1, .int .i64 E.2] PT
  have s0 := (bS.keep B0).c 0 rfl
  have x0 := (bX.keep B0).c 0 rfl
  have x1 := (bX.keep B0).c 1 rfl
  have e0 := bE.c 0 rfl
  have e1 := bE.c 1 rfl
  clear z
  obtain ⟨q, hq⟩ : ∃ q, (sameQ x E) = q := ⟨_, rfl⟩
  have HQ := Lib.hid hq
  clear hq
  go_enter Try.func148, Try.ntmps148
  go_wp2_with fail
  refine (isp_t _ HQ).mono ?_
  rintro e w1 ⟨rfl, hb⟩
  replace B0 := below_step B0 hb
  go_wp2
  go_ret
  exact ⟨ret_bool HQ.out.symm, B0⟩
set_option maxHeartbeats 1000000 in
theorem iixDP_any (x : Int × Int) (v : Value) (L : List (Int × Int)) (S X : Nat) (w : World) (h : RdP w v L) (bS : Bl w S [.func (.func 94) #[] #[]]) (bX : Bl w X [.int .i64 x.1, .int .i64 x.2]) :
    Calls Try.prog 181 #[v, .func (.func 148) #[] #[.pointer (some ⟨S, 0, none⟩), .pointer (some ⟨X, 0, none⟩)]] w fun e w' => ∃ r : Int, e = .returned (.int .i64 r) ∧ decide (0 ≤ r) = (L.any fun E => sameQ x E) ∧ Below w.heap.size w w' := by
  have hm := h.1
  obtain ⟨a, c, rfl, hc⟩ := h.el
  obtain ⟨n, hn⟩ : ∃ n, n = L.length := ⟨_, rfl⟩
  rw [← hn] at hc hm ⊢
  have HN := Lib.hid hn
  clear h hn
  go_enter Try.func181, Try.ntmps181
  go_wp2
  go_loopw [8] (fun q wr => ∃ k : Nat, k ≤ n ∧ q = .int .i64 k ∧ (∀ j, j < k → (fun E => sameQ x E) (L.getD j (0, 0)) = false) ∧ Below w.heap.size w wr) (fun q _ => n - (intOf q).toNat)
  case atStart => exact ⟨0, Nat.zero_le _, rfl, fun j hj => by omega, Below.refl _ _⟩
  case round =>
    obtain ⟨k, hk, rfl, hyes, hB⟩ := hrel
    have HY := Lib.hid hyes
    clear hyes
    by_cases hlt : k < n
    · have hltI : (k : Int) < (n : Int) := by omega
      obtain ⟨b, o, rfl, d0, d1⟩ := hc k hlt
      obtain ⟨E, hx9⟩ : ∃ E, L.getD k (0, 0) = E := ⟨_, rfl⟩
      rw [hx9] at d0 d1
      have g0 := cell_keep hB (World.block_lt_of_cell? w _ d0) d0
      have g1 := cell_keep hB (World.block_lt_of_cell? w _ d1) d1
      clear d0 d1
      have HX := Lib.hid hx9
      have HC := Lib.hid hc
      clear hx9 hc
      go_wp2_with fail
      refine (iclDP_any x E S X wr (bS.keep hB) (bX.keep hB)).mono ?_
      rintro e w1 ⟨rfl, hb1⟩
      clear g0 g1
      obtain ⟨q, hq⟩ : ∃ q, q = (sameQ x E) := ⟨_, rfl⟩
      rw [← hq]
      have HQ := Lib.hid hq
      clear hq
      cases q
      · go_wp2
        go_roundw
        case rel =>
          refine ⟨k + 1, by omega, by go_num, fun j hj => ?_, below_step hB hb1⟩
          by_cases hjk : j = k
          · subst hjk; rw [HX.out]; exact HQ.out.symm
          · exact HY.out j (by omega)
        case measure => simp [intOf]; omega
      · go_wp2
        go_ret
        refine ⟨(k : Int), rfl, ?_, below_step hB hb1⟩
        rw [show decide (0 ≤ (k : Int)) = true by simp]
        symm
        rw [List.any_eq_true]
        refine ⟨E, ?_, HQ.out.symm⟩
        rw [← HX.out, List.getD_eq_getElem?_getD, List.getElem?_eq_getElem (by rw [← HN.out]; exact hlt)]
        exact List.getElem_mem _
    · have hkn : k = n := by omega
      subst hkn
      clear hc
      go_wp2
      go_ret
      refine ⟨-1, rfl, ?_, hB⟩
      have e : (L.any fun E => sameQ x E) = false := by
        rw [List.any_eq_false]
        intro E hE
        obtain ⟨i, hi, e⟩ := List.mem_iff_getElem.1 hE
        have := HY.out i (by rw [HN.out]; exact hi)
        rw [List.getD_eq_getElem?_getD, List.getElem?_eq_getElem hi] at this
        rw [← e]
        simpa using this
      rw [e]
      rfl
theorem icfDP_any (x : Int × Int) (v : Value) (L : List (Int × Int)) (S X : Nat) (w : World) (h : RdP w v L) (bS : Bl w S [.func (.func 94) #[] #[]]) (bX : Bl w X [.int .i64 x.1, .int .i64 x.2]) :
    Calls Try.prog 147 #[v, .func (.func 148) #[] #[.pointer (some ⟨S, 0, none⟩), .pointer (some ⟨X, 0, none⟩)]] w fun e w' => e = .returned (.bool (L.any fun E => sameQ x E)) ∧ Below w.heap.size w w' := by
  obtain ⟨a, c, hv⟩ := h.len
  have hcall := iixDP_any x v L S X w h bS bX
  rw [hv] at hcall ⊢
  have HC := Lib.hid hcall
  clear hcall hv h bS bX
  go_enter Try.func147, Try.ntmps147
  go_wp2_with fail
  refine HC.out.mono ?_
  rintro e w1 ⟨r, rfl, hr, hb⟩
  have HR := Lib.hid hr
  clear hr
  go_wp2
  go_ret
  exact ⟨ret_bool HR.out, hb⟩
theorem icfDP_t {x : Int × Int} {v : Value} {L : List (Int × Int)} {S X : Nat} {g : Bool} (w : World) (H : Hid ((L.any fun E => sameQ x E) = g)) (h : RdP w v L) (bS : Bl w S [.func (.func 94) #[] #[]]) (bX : Bl w X [.int .i64 x.1, .int .i64 x.2]) :
    Calls Try.prog 147 #[v, .func (.func 148) #[] #[.pointer (some ⟨S, 0, none⟩), .pointer (some ⟨X, 0, none⟩)]] w fun e w' => e = .returned (.bool g) ∧ Below w.heap.size w w' := H.out ▸ icfDP_any x v L S X w h bS bX
set_option maxHeartbeats 2000000 in
theorem iwoDP_any (v u : Value) (L M : List (Int × Int)) (w : World) (h : RdP w v M) (hu : RdP w u L) (hn1 : M.length ≤ 1048576) (f : Int × Int → Bool) (hf : ∀ x, f x = !(L.any fun E => sameQ x E)) :
    Calls Try.prog 93 #[v, u, .func (.func 94) #[] #[]] w fun e w' => ∃ r, e = .returned r ∧ OwnP w' w.heap.size r (M.filter f) ∧ Below w.heap.size w w' := by
  obtain ⟨a, c, rfl, hc⟩ := h.el
  obtain ⟨n, hn⟩ : ∃ n, n = M.length := ⟨_, rfl⟩
  rw [← hn] at hc hn1 ⊢
  have HN := Lib.hid hn
  have HFF := Lib.hid hf
  clear hf
  clear h hn
  obtain ⟨bS, B0, z⟩ := one w [.func (.func 94) #[] #[]] 124
  go_enter Try.func93, Try.ntmps93
  go_wp2
  obtain ⟨W1, hW⟩ : ∃ W1, W1 = w.alloc (.cells #[.func (.func 94) #[] #[]] 124) := ⟨_, rfl⟩
  rw [← hW] at bS B0 z ⊢
  obtain ⟨S, hS⟩ : ∃ S, S = w.heap.size := ⟨_, rfl⟩
  rw [← hS] at bS
  try rw [← hS]
  have hSW : S < W1.heap.size := by omega
  have hwW : w.heap.size ≤ W1.heap.size := B0.size
  clear hW hS z
  go_loopw [7, 12] (fun lv q wr => ∃ k : Nat, k ≤ n ∧ q = .int .i64 k ∧ OwnP wr W1.heap.size lv ((M.take k).filter f) ∧ Below W1.heap.size W1 wr) (fun _ q _ => n - (intOf q).toNat)
  case atStart => exact ⟨0, Nat.zero_le _, rfl, World.ownsRow_nil _ _ _ _, Below.refl _ _⟩
  case round =>
    obtain ⟨k, hk, rfl, hok, hB⟩ := hrel
    by_cases hlt : k < n
    · have hltI : (k : Int) < (n : Int) := by omega
      have BB := below_step B0 hB
      obtain ⟨b, o, rfl, d0, d1⟩ := hc k hlt
      obtain ⟨x, hx9⟩ : ∃ x, M.getD k (0, 0) = x := ⟨_, rfl⟩
      rw [hx9] at d0 d1
      have g0 := cell_keep BB (World.block_lt_of_cell? w _ d0) d0
      have g1 := cell_keep BB (World.block_lt_of_cell? w _ d1) d1
      clear d0 d1
      have HF := Lib.hid (filtP_more f (by rw [← HN.out]; exact hlt) hx9)
      have HLN : Hid (((M.take k).filter f).length + 1 ≤ 4294967296) := Lib.hid (by
        have := List.length_filter_le f (M.take k)
        rw [List.length_take] at this
        omega)
      have HCC := Lib.hid hc
      obtain ⟨g, hg⟩ : ∃ g, (L.any fun E => sameQ x E) = g := ⟨_, rfl⟩
      have HG := Lib.hid hg
      clear hx9 hc hg
      have bP := Bl.new wr [.int .i64 x.1, .int .i64 x.2] PT wr.heap.size rfl
      have A1 : Below wr.heap.size wr (wr.alloc (.cells #[.int .i64 x.1, .int .i64 x.2] PT)) := (Below.refl _ _).alloc (Nat.le_refl _) _
      go_wp2_with fail
      clear g0 g1
      obtain ⟨V, hV⟩ : ∃ V, V = wr.alloc (.cells #[.int .i64 x.1, .int .i64 x.2] PT) := ⟨_, rfl⟩
      rw [← hV] at bP A1 ⊢
      have hVe : wr.heap.size + 1 = V.heap.size := by rw [hV]; simp
      obtain ⟨X, hX⟩ : ∃ X, X = wr.heap.size := ⟨_, rfl⟩
      rw [← hX] at bP hVe
      try rw [← hX]
      clear hV
      have hB1 : Below W1.heap.size W1 V := below_step hB A1
      have BV := below_step B0 hB1
      have hok1 := hok.keep A1
      refine (icfDP_t _ HG (hu.keep BV) (bS.keep hB1) bP).mono ?_
      rintro e w1 ⟨rfl, hb⟩
      replace bP := bP.keep hb
      have hok2 := hok1.keep hb
      have hB2 : Below W1.heap.size W1 w1 := below_step hB1 hb
      have hXw : X < w1.heap.size := bP.lt
      clear hb hok hok1 A1 hVe hX
      cases g
      · have p0 := bP.c 0 rfl
        have p1 := bP.c 1 rfl
        go_wp2_with (at_builtin; refine Hid.out ?_)
        refine Lib.hid ?_
        clear p0 p1
        obtain ⟨bQ, N2, z⟩ := one w1 [.int .i64 x.1, .int .i64 x.2] PT
        clear z
        refine wp_appLd rfl _ _ rfl W1.heap.size w1.heap.size 1 _ _ x rfl rfl (hok2.keep N2) (bQ.c 0 rfl) (bQ.c 1 rfl) HLN.out (Nat.le_trans hB2.size N2.size) ?_
        intro v3 w3 o3 g3
        have O3 : Below W1.heap.size W1 w3 := below_growD (below_step hB2 N2) (hok2.keep N2) (Nat.le_refl _) g3
        clear g3 hok2 bQ N2
        go_wp2
        go_roundw
        case rel => exact ⟨k + 1, by omega, by go_num, by rw [HF.out, if_pos (by rw [HFF.out, HG.out]; rfl)]; exact o3, O3⟩
        case measure => simp [intOf]; omega
      · go_wp2_with fail
        go_roundw
        case rel => exact ⟨k + 1, by omega, by go_num, by rw [HF.out, if_neg (by rw [HFF.out, HG.out]; simp), List.append_nil]; exact hok2, hB2⟩
        case measure => simp [intOf]; omega
    · have hkn : k = n := by omega
      subst hkn
      have HT : Hid (M.take k = M) := Lib.hid (List.take_of_length_le (by rw [HN.out]; exact Nat.le_refl _))
      clear hc
      go_wp2
      go_ret
      have BB := below_step B0 hB
      exact ⟨_, rfl, by rw [HT.out] at hok; exact hok.mono hwW, BB⟩
end Go.Proofs.Ytbcmoofpgffbhaa
