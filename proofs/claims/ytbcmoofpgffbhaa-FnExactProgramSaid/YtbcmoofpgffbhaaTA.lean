/-
  The library's Insert of one group into a row of groups of the call's own. Conditions: those in each contract. Conditions: those in each contract.
-/
import Derived.Test.YtbcmoofpgffbhaaDC
import Derived.Shelf.Spec.SlicesInsertGrow
namespace Go.Proofs.Ytbcmoofpgffbhaa
open Go.ChangeShapes Go.WideShapes Go.ChangeAt Go.RowKit Go.BigFrame Go.Joins
set_option linter.unusedVariables false
set_option maxRecDepth 100000
set_option linter.unusedSimpArgs false
set_option maxRecDepth 100000

theorem apLS (ty : TypeId) (s x : Value) (w : World) : (Builtin.append_ #[129, 55] ty #[s, x]).run Try.prog w = (Builtin.append_ #[129, 129] ty #[s, x]).run Try.prog w := by
  cases s <;> simp [Builtin.append_, run_underlying Try.underlying129, run_underlying Try.underlying55]
theorem wp_apLY {ops : Array Oper} {rest : List Oper} {o : Oper} {a : Act} {Q : Exit → Act → World → Prop} {w : World} (hgd : o.guard = none) (s x : Operand)
    (ho : o.op = .call { callee := .builtin .append, args := #[s, x], argTypes := #[129, 55] })
    (base g c : Nat) (v : Value) (n : Nat) (xs : List Value) (ys : List Value) (hs : a.eval s = v) (hx : a.eval x = .slice (some ⟨g, 0, none⟩) 1 c) (hown : w.ownsRow base GI 3 v n xs)
    (h0 : Bl w g ys) (h7 : ys.length = 3) (h1 : ∀ u ∈ ys, u.oneCell' = true) (hlen : n + 1 ≤ 4294967296) (hbase : base ≤ w.heap.size)
    (h : ∀ v' w', w'.ownsRow base GI 3 v' (n + 1) (xs ++ ys) → w.grownBy w' v.ownBlock → (v'.ownBlock = v.ownBlock ∨ v'.ownBlock = some w.heap.size) → wpList Try.prog ops Q rest (a.put o.dst v') w') : wpList Try.prog ops Q (o :: rest) a w := by
  obtain ⟨i0, hi, hz0, hz1, hz2⟩ := info_parts infoOY
  obtain ⟨v', w', hr, h2, h3, -, h5⟩ := run_append_own_at (P := Try.prog) w base 129 o.type GI i0 (.agg #[.int .i64 0, .int .i64 0, .slice none 0 0]) 3 40 Try.underlying129 hi hz0 hz1 hz2 rfl (by decide) v n xs hown ⟨g, 0, none⟩ 1 c ys (by omega) (fun j y hy => by
    have hadd : ∀ j, (⟨g, 0, none⟩ : Addr).add j = ⟨g, j, none⟩ := fun j => by unfold Addr.add; split <;> simp_all
    rw [hadd]
    exact h0.c j hy) h1 (by unfold maxLen; omega) (by omega) hbase
  exact Lib.wpList_append_run w hgd s x _ _ ho _ _ hs hx v' w' ((apLS _ _ _ _).trans hr) (h v' w' h2 h3 h5)
def setAllG : List Value → Nat → List Value → List Value
  | xs, _, [] => xs
  | xs, o, v :: r => setAllG (xs.set o v) (o + 1) r
theorem setAllG_at : ∀ (s p q r : List Value), q.length = s.length → setAllG (p ++ q ++ r) p.length s = p ++ s ++ r
  | [], p, q, r, h => by
    have : q = [] := List.eq_nil_of_length_eq_zero (by simpa using h)
    subst this
    rfl
  | x :: s, p, [], r, h => by simp at h
  | x :: s, p, y :: q, r, h => by
    have ih := setAllG_at s (p ++ [x]) q r (by simpa using h)
    rw [setAllG]
    have e : (p ++ y :: q ++ r).set p.length x = p ++ [x] ++ q ++ r := by
      rw [List.append_assoc, List.set_append_right _ _ (Nat.le_refl _), Nat.sub_self]
      simp
    rw [e]
    rw [List.length_append] at ih
    simpa using ih
theorem row_setCellsG {base g n cap : Nat} : ∀ (vs : List Value) (o : Nat) (xs : List Value) (w : World), w.ownsRow base GI 3 (.slice (some ⟨g, 0, none⟩) n cap) n xs →
    (w.setCells g o vs).ownsRow base GI 3 (.slice (some ⟨g, 0, none⟩) n cap) n (setAllG xs o vs)
  | [], _, _, _, h => h
  | v :: r, o, xs, w, h => row_setCellsG r (o + 1) (xs.set o v) _ (h.stored o v).1
theorem grown_setCellsG {g : Nat} : ∀ (vs : List Value) (o : Nat) (w : World), w.grownBy (w.setCells g o vs) (some g)
  | [], _, w => World.grownBy.refl w _
  | v :: r, o, w => grown_trans (grown_set w g o v) (grown_setCellsG r (o + 1) _)
theorem grown_drewG {a w : World} {row : Option Nat} (h : a.grownBy w row) : a.grownBy w.drew row := ⟨h.os, h.tape, h.output, h.size, h.block⟩
theorem grown_anyG {a w : World} {row : Option Nat} (h : a.grownBy w (some a.heap.size)) : a.grownBy w row := ⟨h.os, h.tape, h.output, h.size, fun i hi _ => h.block i hi (by simp; omega)⟩
theorem new_rowG (w : World) (cur : Array Value) (n cap : Nat) (base : Nat) (xs : List Value) (hb : base ≤ w.heap.size) (hc : cur.size = cap * 3) (hn : n ≤ cap) (hm : cap ≤ maxLen) (hx : cur.toList.take (n * 3) = xs) (hxl : xs.length = n * 3) :
    (w.alloc (.cells cur GI)).ownsRow base GI 3 (.slice (some ⟨w.heap.size, 0, none⟩) n cap) n xs :=
  ⟨hxl, .inr ⟨w.heap.size, cap, cur, rfl, hb, heap_alloc_new w _, hn, hm, hc, hx⟩⟩
theorem row_widerG {w : World} {base g n cap : Nat} {xs : List Value} (h : w.ownsRow base GI 3 (.slice (some ⟨g, 0, none⟩) n cap) n xs) (hr : n + 1 ≤ cap) :
    ∃ us : List Value, us.length = 3 ∧ w.ownsRow base GI 3 (.slice (some ⟨g, 0, none⟩) (n + 1) cap) (n + 1) (xs ++ us) := by
  rcases h.2 with ⟨hv, _⟩ | ⟨g', cap', cur, hv, hb, hg, hnc, hcm, hcs, htake⟩
  · cases hv
  · simp only [Value.slice.injEq, Option.some.injEq, Addr.mk.injEq, and_true, true_and] at hv
    obtain ⟨rfl, rfl⟩ := hv
    have hl : cur.toList.length = cap * 3 := by rw [Array.length_toList]; exact hcs
    refine ⟨(cur.toList.drop (n * 3)).take 3, by rw [List.length_take, List.length_drop, hl]; omega, ⟨by rw [List.length_append, h.1, List.length_take, List.length_drop, hl]; omega, .inr ⟨g, cap, cur, rfl, hb, hg, hr, hcm, hcs, ?_⟩⟩⟩
    rw [← htake, show (n + 1) * 3 = n * 3 + 3 by omega, List.take_add]
theorem row_thereG {w : World} {base g n cap : Nat} {xs : List Value} (h : w.ownsRow base GI 3 (.slice (some ⟨g, 0, none⟩) n cap) n xs) : (∀ j, j < cap * 3 → (w.cell? ⟨g, j, none⟩).isSome = true) ∧ w.shape? g = some (GI, cap * 3) := by
  rcases h.2 with ⟨hv, _⟩ | ⟨g', cap', cur, hv, hb, hg, hnc, hcm, hcs, htake⟩
  · cases hv
  · simp only [Value.slice.injEq, Option.some.injEq, Addr.mk.injEq, and_true, true_and] at hv
    obtain ⟨rfl, rfl⟩ := hv
    refine ⟨fun j hj => ?_, by unfold World.shape?; rw [hg]; simp; omega⟩
    have hj' : j < cur.size := by omega
    simp [World.cell?, hg, hj']
theorem run_copyG (w : World) (dT sT ty : TypeId) (b o dLen dCap : Nat) (a : Addr) (sLen sCap : Nat) (cs : List Value) (k : Nat) (hu : Try.prog.underlying dT = some (.slice GI)) (hk : k = Nat.min sLen dLen) (hn : cs.length = k * 3)
    (hsrc : ∀ j v, cs[j]? = some v → w.cell? (a.add j) = some v) (hc : ∀ j, j < cs.length → (w.cell? ⟨b, o + j, none⟩).isSome = true) (hf : ∀ j, j < cs.length → w.frozen? ⟨b, o + j, none⟩ = false) (h1 : ∀ v ∈ cs, v.oneCell' = true) :
    (Builtin.copy_ #[dT, sT] ty #[.slice (some ⟨b, o, none⟩) dLen dCap, .slice (some a) sLen sCap]).run Try.prog w = .ok (goInt k) (w.setCells b o cs) := by
  obtain ⟨i0, hi, hz0, hz1, hz2⟩ := info_parts infoOY
  have hl := run_loadCells_list (P := Try.prog) w a cs hsrc
  have hst := run_storeCells_cells (P := Try.prog) b o cs 0 w (by simpa using hc) (by simpa using hf) h1
  simp [Builtin.copy_, run_underlying hu, Builtin.lenOf, Builtin.firstCells, sizeOf, typeInfo, hi, hz1, ← hk, ← hn, hl, hst]
theorem row_formG {w : World} {base n : Nat} {v : Value} {xs : List Value} (h : w.ownsRow base GI 3 v n xs) (hn : 0 < n) : ∃ g c, v = .slice (some ⟨g, 0, none⟩) n c ∧ n ≤ c ∧ base ≤ g ∧ g < w.heap.size ∧ c ≤ 9223372036854775807 := by
  have h0 := h
  rcases h0.2 with ⟨-, e⟩ | ⟨g, c, cur, rfl, hb, hg, hnc, hcm, -, -⟩
  · omega
  · exact ⟨g, c, rfl, hnc, hb, (World.ownsRow.lt h g rfl).2, by unfold maxLen at hcm; omega⟩
theorem row_sliceGG {w : World} {base : Nat} {v : Value} {n : Nat} {xs : List Value} (h : w.ownsRow base GI 3 v n xs) : ∃ a c, v = .slice a n c := by
  rcases h.2 with ⟨hv, hn⟩ | ⟨g, cap, cur, hv, _⟩
  · exact ⟨none, 0, by rw [hv, hn]⟩
  · exact ⟨_, cap, hv⟩
/-- one element more at place i -/
def InsG (W : World) (base : Nat) (v : Value) (n : Nat) (xs ys : List Value) (i : Nat) (e : Ending) (w' : World) : Prop :=
  ∃ v', e = .returned v' ∧ w'.ownsRow base GI 3 v' (n + 1) (xs.take (i * 3) ++ (ys ++ xs.drop (i * 3))) ∧ W.grownBy w' v.ownBlock ∧ (v'.ownBlock = v.ownBlock ∨ ∃ k, v'.ownBlock = some k ∧ W.heap.size ≤ k)
set_option maxHeartbeats 2000000 in
theorem gins_end (v : Value) (n : Nat) (xs ys : List Value) (hys : ys.length = 3) (hy1 : ∀ u ∈ ys, u.oneCell' = true) (base : Nat) (W : World) (g : Nat) (h : W.ownsRow base GI 3 v n xs) (hb : base ≤ W.heap.size) (bZ : Bl W g ys) (hn : n ≤ 1048576) :
    Calls Try.prog 152 #[v, .int .i64 (n : Nat), .slice (some ⟨g, 0, none⟩) 1 1] W (InsG W base v n xs ys n) := by
  obtain ⟨a, c, rfl⟩ := row_sliceGG h
  have hS : xs.take (n * 3) ++ (ys ++ xs.drop (n * 3)) = xs ++ ys := by
    rw [List.take_of_length_le (by rw [h.1]; omega), List.drop_of_length_le (by rw [h.1]; omega), List.append_nil]
  have HS := Lib.hid hS
  clear hS
  by_cases hcn : c = n
  · subst hcn
    go_enter Try.func152, Try.ntmps152
    go_wp2_with (at_builtin; refine Hid.out ?_)
    refine Lib.hid ?_
    refine wp_apLY rfl _ _ rfl base g 1 (.slice a c c) c xs ys rfl rfl h bZ hys hy1 (by omega) hb ?_
    intro v' w' hrow hg hor
    have HR := Lib.hid hrow
    have HG := Lib.hid hg
    have HO := Lib.hid hor
    clear hrow hg hor
    go_wp2
    go_ret
    refine ⟨v', rfl, ?_, HG.out, ?_⟩
    · rw [HS.out]; exact HR.out
    · rcases HO.out with q | q
      · exact .inl q
      · exact .inr ⟨_, q, Nat.le_refl _⟩
  · go_enter Try.func152, Try.ntmps152
    go_wp2_with (at_builtin; refine Hid.out ?_)
    refine Lib.hid ?_
    refine wp_apLY rfl _ _ rfl base g 1 (.slice a n c) n xs ys rfl rfl h bZ hys hy1 (by omega) hb ?_
    intro v' w' hrow hg hor
    have HR := Lib.hid hrow
    have HG := Lib.hid hg
    have HO := Lib.hid hor
    clear hrow hg hor
    go_wp2
    go_ret
    refine ⟨v', rfl, ?_, HG.out, ?_⟩
    · rw [HS.out]; exact HR.out
    · rcases HO.out with q | q
      · exact .inl q
      · exact .inr ⟨_, q, Nat.le_refl _⟩
set_option maxHeartbeats 1000000 in
theorem gins_shift (b c i : Nat) (n : Nat) (xs ys : List Value) (hys : ys.length = 3) (hy1 : ∀ u ∈ ys, u.oneCell' = true) (base : Nat) (W : World) (g : Nat) (h : W.ownsRow base GI 3 (.slice (some ⟨b, 0, none⟩) n c) n xs) (h1c : ∀ u ∈ xs, u.oneCell' = true) (hb : base ≤ W.heap.size) (bZ : Bl W g ys) (hsa : W.shape? g = some (GI, 3)) (hfa : W.frozen? ⟨g, 0, none⟩ = false) (hfe : W.frozen? ⟨g, 3, none⟩ = false) (hgb : g ≠ b) (hn : n ≤ 1048576) (hi : i < n) (hroom : n + 1 ≤ c) :
    Calls Try.prog 152 #[.slice (some ⟨b, 0, none⟩) n c, .int .i64 (i : Nat), .slice (some ⟨g, 0, none⟩) 1 1] W (InsG W base (.slice (some ⟨b, 0, none⟩) n c) n xs ys i) := by
  obtain ⟨hthere, hshape⟩ := row_thereG h
  obtain ⟨us, hus, hwid⟩ := row_widerG h hroom
  have hfr := h.frozenAt
  have hcell := h.cellAt
  have hc63 : c ≤ 9223372036854775807 := by
    obtain ⟨g', c', e, -, -, -, q⟩ := row_formG h (by omega)
    injection e with e1 e2 e3
    omega
  have hfl := h.1
  have hdl : (xs.drop (i * 3)).length = (n - i) * 3 := by rw [List.length_drop, hfl]; omega
  have hone : ∀ u ∈ xs.drop (i * 3), u.oneCell' = true := fun t ht => h1c t (List.mem_of_mem_drop ht)
  have hfin : setAllG (setAllG (xs ++ us) ((i + 1) * 3) (xs.drop (i * 3))) (i * 3) ys = xs.take (i * 3) ++ (ys ++ xs.drop (i * 3)) := by
    have hlt : (xs.take (i * 3)).length = i * 3 := by rw [List.length_take, hfl]; omega
    have e0 : xs = xs.take (i * 3) ++ xs.drop (i * 3) := (List.take_append_drop _ _).symm
    obtain ⟨q1, q2, hq, hq1⟩ : ∃ q1 q2, xs.drop (i * 3) ++ us = q1 ++ q2 ∧ q1.length = 3 := ⟨(xs.drop (i * 3) ++ us).take 3, (xs.drop (i * 3) ++ us).drop 3, (List.take_append_drop 3 _).symm, by rw [List.length_take, List.length_append]; omega⟩
    have hq2 : q2.length = (n - i) * 3 := by
      have := congrArg List.length hq
      rw [List.length_append, List.length_append] at this
      omega
    rw [show xs ++ us = xs.take (i * 3) ++ (xs.drop (i * 3) ++ us) by rw [← List.append_assoc, List.take_append_drop], hq, ← List.append_assoc]
    have hp : (xs.take (i * 3) ++ q1).length = (i + 1) * 3 := by rw [List.length_append]; omega
    have s1 := setAllG_at (xs.drop (i * 3)) (xs.take (i * 3) ++ q1) q2 [] (by omega)
    rw [hp, List.append_nil, List.append_nil] at s1
    rw [s1]
    have s2 := setAllG_at ys (xs.take (i * 3)) q1 (xs.drop (i * 3)) (by rw [hq1, hys])
    rw [hlt] at s2
    rw [s2, List.append_assoc]
  have hov : ∀ lb cb, (callFunc 182 #[.slice (some ⟨g, 0, none⟩) 1 1, .slice (some ⟨b, (i + 1) * 3, none⟩) lb cb]).run Try.prog W = .ok (.value (.bool false)) W := fun lb cb => by
    rw [run_callFunc_extern Try.func182 (by kernel_rfl) (by kernel_rfl) (by kernel_rfl) (e := Extern.SlicesOverlaps.overlaps #[55, 55] #[4]) (by kernel_rfl),
      Lib.run_overlaps_apart W 55 4 GI Try.underlying55 3 Try.sizeOf70 ⟨g, 0, none⟩ ⟨b, (i + 1) * 3, none⟩ 1 1 lb cb hgb GI GI 3 (c * 3) hsa hshape (by omega) hfa hfe]
    rfl
  have hcp1 : ∀ ty dc sc, (Builtin.copy_ #[129, 129] ty #[.slice (some ⟨b, (i + 1) * 3, none⟩) (n - i) dc, .slice (some ⟨b, i * 3, none⟩) (n + 1 - i) sc]).run Try.prog W.drew = .ok (goInt ((n - i : Nat) : Int)) (W.drew.setCells b ((i + 1) * 3) (xs.drop (i * 3))) := fun ty dc sc =>
    run_copyG W.drew 129 129 ty b ((i + 1) * 3) (n - i) dc ⟨b, i * 3, none⟩ (n + 1 - i) sc (xs.drop (i * 3)) (n - i) Try.underlying129 (by simp only [Nat.min_def]; split <;> omega) hdl
      (fun j v hj => by
        have hj2 : j < (n - i) * 3 := by
          have := (List.getElem?_eq_some_iff.1 hj).1
          omega
        rw [Addr.add_lit]
        show W.cell? ⟨b, i * 3 + j, none⟩ = some v
        rw [hcell (i * 3 + j) (by omega), ← hj, List.getElem?_drop])
      (fun j hj => hthere _ (by omega)) (fun j hj => hfr _) hone
  obtain ⟨W1, hW1⟩ : ∃ W1, W1 = W.drew.setCells b ((i + 1) * 3) (xs.drop (i * 3)) := ⟨_, rfl⟩
  have hsp1 : ∀ k, k < c * 3 → (W1.cell? ⟨b, k, none⟩).isSome = true := fun k hk => by
    rw [hW1]
    exact isSome_setCells b (xs.drop (i * 3)) ((i + 1) * 3) W.drew (fun j hj => hthere _ (by omega)) k (hthere k hk)
  have hcp2 : ∀ (X : World), (∀ x, X.cell? x = W1.cell? x) → (∀ x, X.frozen? x = W1.frozen? x) → ∀ ty dc, (Builtin.copy_ #[129, 55] ty #[.slice (some ⟨b, i * 3, none⟩) (n + 1 - i) dc, .slice (some ⟨g, 0, none⟩) 1 1]).run Try.prog X = .ok (goInt 1) (X.setCells b (i * 3) ys) := fun X hWc hWf ty dc =>
    run_copyG X 129 55 ty b (i * 3) (n + 1 - i) dc ⟨g, 0, none⟩ 1 1 ys 1 Try.underlying129 (by simp only [Nat.min_def]; split <;> omega) hys
      (fun j v hj => by
        rw [Addr.add_lit, hWc, hW1, World.cell?_setCells_out b _ _ _ _ (fun h _ => absurd h hgb), Nat.zero_add]
        exact bZ.c j hj)
      (fun j hj => by rw [hWc]; exact hsp1 _ (by rw [hys] at hj; omega)) (fun j hj => by rw [hWf, hW1, World.frozen?_setCells]; exact hfr _) hy1
  have hr2 : W1.ownsRow base GI 3 (.slice (some ⟨b, 0, none⟩) (n + 1) c) (n + 1) (setAllG (xs ++ us) ((i + 1) * 3) (xs.drop (i * 3))) := by
    rw [hW1]
    exact row_setCellsG _ _ _ _ (World.ownsRow.drew hwid)
  have hg1 : W.grownBy W1 (some b) := by rw [hW1]; exact grown_trans (grown_drewG (World.grownBy.refl W _)) (grown_setCellsG _ _ _)
  have HFIN := Lib.hid hfin
  have HR2 := Lib.hid hr2
  have HG1 := Lib.hid hg1
  rw [← hW1] at hcp1
  have hw1 : IntKind.i64.wrap ((i : Int) + 1) = (i : Int) + 1 := wrap64_in _ (by omega) (by omega)
  have hw2 : IntKind.i64.wrap ((n : Int) + 1) = (n : Int) + 1 := wrap64_in _ (by omega) (by omega)
  have hz2 : ¬ ((i : Int) = (n : Int)) := by omega
  have hb1 : (0 : Int) ≤ (i : Int) + 1 := by omega
  have hin : i ≤ n := by omega
  have htn : ((i : Int) + 1).toNat = i + 1 := by omega
  have hb2 : ¬ (c = i + 1) := by omega
  have hb3 : (i : Int) ≤ (n : Int) + 1 := by omega
  have hb4 : ¬ (c = i) := by omega
  clear hfin hr2 hg1 hwid h hcell hfr hthere hshape hfl hdl hone hus hsp1 bZ hsa hfa hfe h1c
  go_enter Try.func152, Try.ntmps152
  go_wp2_with (simp only [hov])
  have mixed : Try.prog.follows Departure.mixedOrders = true := by kernel_rfl
  go_region_law_o (refine step_copy_runI rfl _ _ 129 129 rfl _ _ (by simp [Act.eval, Act.put]) (by simp [Act.eval, Act.put]) (hcp1 _ _ _) ?_)
  go_wp2_with (at_builtin; refine wpList_copy_runI _ rfl _ _ 129 55 rfl _ _ rfl rfl (hcp2 _ (fun _ => rfl) (fun _ => rfl) _ _) ?_)
  go_ret
  have hr2 := HR2.out
  have hg1 := HG1.out
  rw [hW1] at hr2 hg1
  refine ⟨_, rfl, ?_, grown_trans hg1 (grown_setCellsG _ _ _), .inl rfl⟩
  rw [← HFIN.out]
  exact row_setCellsG _ _ _ _ hr2
abbrev ZVG : Value := (.agg #[.int .i64 0, .int .i64 0, .slice none 0 0] : Value)
theorem zeroG_len (k : Nat) : (Builtin.zeroCells ZVG.cells k).size = k * 3 := by
  rw [size_zeroCells]
  rfl
theorem cell_ddG (W : World) (o : Obj) (vs : List Value) (g k : Nat) : ∀ x, (((W.alloc o).drew.setCells g k vs).drew).cell? x = ((W.drew.alloc o).setCells g k vs).cell? x := fun x => rfl
theorem froz_ddG (W : World) (o : Obj) (vs : List Value) (g k : Nat) : ∀ x, (((W.alloc o).drew.setCells g k vs).drew).frozen? x = ((W.drew.alloc o).setCells g k vs).frozen? x := fun x => rfl
set_option maxHeartbeats 1000000 in
theorem gins_grow (b i : Nat) (n : Nat) (xs ys : List Value) (hys : ys.length = 3) (hy1 : ∀ u ∈ ys, u.oneCell' = true) (base : Nat) (W : World) (g : Nat) (h : W.ownsRow base GI 3 (.slice (some ⟨b, 0, none⟩) n n) n xs) (h1c : ∀ u ∈ xs, u.oneCell' = true) (hb : base ≤ W.heap.size) (bZ : Bl W g ys) (hgw : g < W.heap.size) (hbw : b < W.heap.size) (hn : n ≤ 1048576) (hi : i < n) :
    Calls Try.prog 152 #[.slice (some ⟨b, 0, none⟩) n n, .int .i64 (i : Nat), .slice (some ⟨g, 0, none⟩) 1 1] W (InsG W base (.slice (some ⟨b, 0, none⟩) n n) n xs ys i) := by
  have hcell := h.cellAt
  have hfl := h.1
  have hdl : (xs.drop (i * 3)).length = (n - i) * 3 := by rw [List.length_drop, hfl]; omega
  have htl : (xs.take (i * 3)).length = i * 3 := by rw [List.length_take, hfl]; omega
  have hone : ∀ u ∈ xs.drop (i * 3), u.oneCell' = true := fun t ht => h1c t (List.mem_of_mem_drop ht)
  obtain ⟨i0, hi0, hz0, hzs, hzb⟩ := info_parts infoOY
  have hik : i + (n + 1 - i) = n + 1 := by omega
  have hold : (Builtin.firstCells i0.size i (.slice (some ⟨b, 0, none⟩) i n)).run Try.prog W.drew = .ok (xs.take (i * 3)).toArray W.drew := by
    rw [hzs]
    exact run_firstCells_some W.drew 3 i ⟨b, 0, none⟩ i n (xs.take (i * 3)) htl (fun j v hj => by
      rw [Addr.add_lit, Nat.zero_add]
      have hj2 : j < i * 3 := by
        have := (List.getElem?_eq_some_iff.1 hj).1
        omega
      rw [List.getElem?_take] at hj
      rw [if_pos hj2] at hj
      show W.cell? ⟨b, j, none⟩ = some v
      rw [hcell j (by omega)]
      exact hj)
  have hrz : ∀ ty, (Builtin.append_ #[129, 3] ty #[.slice (some ⟨b, 0, none⟩) i n, .int .i64 ((n : Int) + 1 - (i : Int))]).run Try.prog W =
      .ok (.slice (some ⟨W.heap.size, 0, none⟩) (n + 1) (grownCap W (n + 1) n GI)) (W.drew.alloc (.cells ((xs.take (i * 3)).toArray ++ Builtin.zeroCells ZVG.cells (n + 1 - i) ++ Builtin.zeroCells ZVG.cells (grownCap W (n + 1) n GI - (n + 1))) GI)) := fun ty => by
    have q := Lib.run_append_grow_zeros (P := Try.prog) W 129 3 ty GI i0 _ .i64 .i64 Try.underlying129 Try.underlying3 hi0 hz0 (some ⟨b, 0, none⟩) i n (xs.take (i * 3)) hold (n + 1 - i) (by omega) (by omega) (by omega) (by omega) (by rw [hzb]; omega) (by rw [hzb, hik]; exact growslice_fits (by omega) (by omega))
    rw [hik] at q
    rw [show (n : Int) + 1 - (i : Int) = ((n + 1 - i : Nat) : Int) by omega]
    exact q
  obtain ⟨G, hG⟩ : ∃ G, G = grownCap W (n + 1) n GI := ⟨_, rfl⟩
  obtain ⟨Z1, hZ1⟩ : ∃ Z1 : List Value, Z1 = (Builtin.zeroCells ZVG.cells (n + 1 - i)).toList := ⟨_, rfl⟩
  obtain ⟨ROW, hROW⟩ : ∃ ROW : Array Value, ROW = (xs.take (i * 3)).toArray ++ Builtin.zeroCells ZVG.cells (n + 1 - i) ++ Builtin.zeroCells ZVG.cells (G - (n + 1)) := ⟨_, rfl⟩
  rw [← hG] at hrz
  rw [← hROW] at hrz
  have hGn : n + 1 ≤ G := by rw [hG]; exact grownCap_ge W _ _ _
  have hGm : G ≤ maxLen := by rw [hG]; exact grownCap_le_maxLen W (n + 1) n GI (by unfold maxLen; omega)
  have hG63 : G ≤ 9223372036854775807 := by
    unfold maxLen at hGm
    omega
  have hZl : Z1.length = (n + 1 - i) * 3 := by rw [hZ1, Array.length_toList, zeroG_len]
  have hRs : ROW.size = G * 3 := by
    rw [hROW, Array.size_append, Array.size_append, zeroG_len, zeroG_len, List.size_toArray, htl]
    omega
  have hRt : ROW.toList.take ((n + 1) * 3) = xs.take (i * 3) ++ Z1 := by
    rw [hROW, Array.toList_append, Array.toList_append, ← hZ1, List.toList_toArray, List.take_append_of_le_length (by rw [List.length_append, htl, hZl]; omega), List.take_of_length_le (by rw [List.length_append, htl, hZl]; omega)]
  have hfin : setAllG (setAllG (xs.take (i * 3) ++ Z1) (i * 3) ys) ((i + 1) * 3) (xs.drop (i * 3)) = xs.take (i * 3) ++ (ys ++ xs.drop (i * 3)) := by
    obtain ⟨q1, q2, hq, hq1⟩ : ∃ q1 q2, Z1 = q1 ++ q2 ∧ q1.length = 3 := ⟨Z1.take 3, Z1.drop 3, (List.take_append_drop 3 _).symm, by rw [List.length_take]; omega⟩
    have hq2 : q2.length = (n - i) * 3 := by
      have := congrArg List.length hq
      rw [List.length_append] at this
      omega
    have s1 := setAllG_at ys (xs.take (i * 3)) q1 q2 (by rw [hq1, hys])
    rw [htl] at s1
    rw [hq, ← List.append_assoc, s1]
    have s2 := setAllG_at (xs.drop (i * 3)) (xs.take (i * 3) ++ ys) q2 [] (by omega)
    rw [show (xs.take (i * 3) ++ ys).length = (i + 1) * 3 by rw [List.length_append, htl]; rw [hys]; omega, List.append_nil, List.append_nil] at s2
    rw [s2, List.append_assoc]
  obtain ⟨W1, hW1⟩ : ∃ W1, W1 = W.drew.alloc (.cells ROW GI) := ⟨_, rfl⟩
  rw [← hW1] at hrz
  have hN : ∀ j, j < G * 3 → (W1.cell? ⟨W.heap.size, j, none⟩).isSome = true := fun j hj => by
    rw [hW1, World.cell?_alloc_at (w := W.drew) ROW _ W.heap.size j rfl, Array.getElem?_eq_getElem (by omega)]; rfl
  have hNf : ∀ j, W1.frozen? ⟨W.heap.size, j, none⟩ = false := fun j => by rw [hW1]; exact World.frozen?_alloc_at (w := W.drew) ROW _ W.heap.size j rfl
  have hOb : ∀ j, W1.cell? ⟨b, j, none⟩ = W.cell? ⟨b, j, none⟩ := fun j => by rw [hW1, World.cell?_alloc_past (w := W.drew) _ b j hbw]; rfl
  have hOv : ∀ j, W1.cell? ⟨g, j, none⟩ = W.cell? ⟨g, j, none⟩ := fun j => by rw [hW1, World.cell?_alloc_past (w := W.drew) _ g j hgw]; rfl
  have hbN : b ≠ W.heap.size := by omega
  have hcpA : ∀ (X : World), (∀ x, X.cell? x = W1.cell? x) → (∀ x, X.frozen? x = W1.frozen? x) → ∀ ty dc, (Builtin.copy_ #[129, 55] ty #[.slice (some ⟨W.heap.size, i * 3, none⟩) (n + 1 - i) dc, .slice (some ⟨g, 0, none⟩) 1 1]).run Try.prog X = .ok (goInt (1 : Nat)) (X.setCells W.heap.size (i * 3) ys) := fun X hWc hWf ty dc =>
    run_copyG X 129 55 ty W.heap.size (i * 3) (n + 1 - i) dc ⟨g, 0, none⟩ 1 1 ys 1 Try.underlying129 (by simp only [Nat.min_def]; split <;> omega) hys
      (fun j v hj => by
        rw [Addr.add_lit, hWc, Nat.zero_add, hOv]
        exact bZ.c j hj)
      (fun j hj => by rw [hWc]; exact hN _ (by rw [hys] at hj; omega)) (fun j hj => by rw [hWf]; exact hNf _) hy1
  have hcpB : ∀ (X : World), (∀ x, X.cell? x = (W1.setCells W.heap.size (i * 3) ys).cell? x) → (∀ x, X.frozen? x = (W1.setCells W.heap.size (i * 3) ys).frozen? x) → ∀ ty dc sc, (Builtin.copy_ #[129, 129] ty #[.slice (some ⟨W.heap.size, (i + 1) * 3, none⟩) (n - i) dc, .slice (some ⟨b, i * 3, none⟩) (n - i) sc]).run Try.prog X = .ok (goInt ((n - i : Nat) : Int)) (X.setCells W.heap.size ((i + 1) * 3) (xs.drop (i * 3))) := fun X hWc hWf ty dc sc =>
    run_copyG X 129 129 ty W.heap.size ((i + 1) * 3) (n - i) dc ⟨b, i * 3, none⟩ (n - i) sc (xs.drop (i * 3)) (n - i) Try.underlying129 (by simp only [Nat.min_def]; split <;> omega) hdl
      (fun j v hj => by
        have hj2 : j < (n - i) * 3 := by
          have := (List.getElem?_eq_some_iff.1 hj).1
          omega
        rw [Addr.add_lit, hWc, World.cell?_setCells_out _ _ _ _ _ (fun h _ => absurd h hbN)]
        show W1.cell? ⟨b, i * 3 + j, none⟩ = some v
        rw [hOb, hcell (i * 3 + j) (by omega), ← hj, List.getElem?_drop])
      (fun j hj => by rw [hWc]; exact isSome_setCells _ _ _ _ (fun t ht => hN _ (by rw [hys] at ht; omega)) _ (hN _ (by omega)))
      (fun j hj => by rw [hWf, World.frozen?_setCells]; exact hNf _) hone
  have hrow : ((W.alloc (.cells ROW GI)).drew).ownsRow base GI 3 (.slice (some ⟨W.heap.size, 0, none⟩) (n + 1) G) (n + 1) (xs.take (i * 3) ++ Z1) :=
    World.ownsRow.drew (new_rowG W ROW (n + 1) G base _ hb hRs hGn hGm hRt (by rw [List.length_append, htl, hZl]; omega))
  have hgr : W.grownBy ((W.alloc (.cells ROW GI)).drew) (some W.heap.size) := grown_drewG (World.grownBy_alloc W _ _)
  have hr2 := row_setCellsG (xs.drop (i * 3)) ((i + 1) * 3) _ _ (World.ownsRow.drew (row_setCellsG ys (i * 3) _ _ hrow))
  rw [hfin] at hr2
  have hg2 := grown_anyG (row := some b) (grown_trans (grown_drewG (grown_trans hgr (grown_setCellsG ys (i * 3) _))) (grown_setCellsG (xs.drop (i * 3)) ((i + 1) * 3) _))
  subst hW1
  have hE1 : ∀ x, ((W.alloc (.cells ROW GI)).drew).cell? x = (W.drew.alloc (.cells ROW GI)).cell? x := fun x => rfl
  have hE2 : ∀ x, ((W.alloc (.cells ROW GI)).drew).frozen? x = (W.drew.alloc (.cells ROW GI)).frozen? x := fun x => rfl
  have hF1 := cell_ddG W (.cells ROW GI) ys W.heap.size (i * 3)
  have hF2 := froz_ddG W (.cells ROW GI) ys W.heap.size (i * 3)
  have HR2 := Lib.hid hr2
  have HG2 := Lib.hid hg2
  have hw1 : IntKind.i64.wrap ((i : Int) + 1) = (i : Int) + 1 := wrap64_in _ (by omega) (by omega)
  have hw2 : IntKind.i64.wrap ((n : Int) + 1) = (n : Int) + 1 := wrap64_in _ (by omega) (by omega)
  have hw3 : IntKind.i64.wrap ((n : Int) + 1 - (i : Int)) = (n : Int) + 1 - (i : Int) := wrap64_in _ (by omega) (by omega)
  have hz2 : ¬ ((i : Int) = (n : Int)) := by omega
  have hz3 : (n : Int) < (n : Int) + 1 := by omega
  have hb1 : (0 : Int) ≤ (i : Int) + 1 := by omega
  have hin : i ≤ n := by omega
  have htn : ((i : Int) + 1).toNat = i + 1 := by omega
  have hb3 : (i : Int) ≤ (n : Int) + 1 := by omega
  have hGi : ¬ (G = i) := by omega
  have hGim : ¬ (G = i + 1) := by omega
  have hci : ¬ (n = i) := by omega
  have mixed : Try.prog.follows Departure.mixedOrders = true := by kernel_rfl
  clear hrow hgr hr2 hg2 hfin h hcell hfl hdl htl hone h1c hi0 hz0 hzs hzb hik hold hROW hG hZ1 hZl hRs hRt hN hNf hOb hOv bZ hGm
  go_enter Try.func152, Try.ntmps152
  go_wp2_with (first
    | (at_builtin; refine Lib.wpList_append_run _ rfl _ _ _ _ rfl _ _ rfl rfl _ _ (hrz _) ?_)
    | (at_builtin; refine wpList_copy_runI _ rfl _ _ 129 55 rfl _ _ rfl rfl (hcpA _ hE1 hE2 _ _) ?_)
    | (at_builtin; refine wpList_copy_runI _ rfl _ _ 129 129 rfl _ _ rfl rfl (hcpB _ hF1 hF2 _ _ _) ?_))
  go_region_law_o (refine step_copy_runI rfl _ _ 129 129 rfl (.slice (some ⟨W.heap.size, (i + 1) * 3, none⟩) (n - i) (G - (i + 1))) (.slice (some ⟨b, i * 3, none⟩) (n - i) (n - i)) (by simp [Act.eval, Act.put]) (by simp [Act.eval, Act.put]) (hcpB _ hF1 hF2 3 (G - (i + 1)) (n - i)) ?_)
  go_wp2
  go_ret
  refine ⟨_, rfl, ?_, HG2.out, .inr ⟨_, rfl, Nat.le_refl _⟩⟩
  exact HR2.out
/-- an element more at any place, room or none -/
theorem gins_any (v : Value) (i : Nat) (n : Nat) (xs ys : List Value) (hys : ys.length = 3) (hy1 : ∀ u ∈ ys, u.oneCell' = true) (base : Nat) (W : World) (g : Nat) (h : W.ownsRow base GI 3 v n xs) (h1c : ∀ u ∈ xs, u.oneCell' = true) (hb : base ≤ W.heap.size) (bZ : Bl W g ys) (hsa : W.shape? g = some (GI, 3)) (hfa : W.frozen? ⟨g, 0, none⟩ = false) (hfe : W.frozen? ⟨g, 3, none⟩ = false) (hgb : v.ownBlock ≠ some g) (hn : n ≤ 1048576) (hi : i ≤ n) :
    Calls Try.prog 152 #[v, .int .i64 (i : Nat), .slice (some ⟨g, 0, none⟩) 1 1] W (InsG W base v n xs ys i) := by
  by_cases hin : i = n
  · subst hin
    exact gins_end v _ xs ys hys hy1 base W g h hb bZ hn
  · obtain ⟨b, c, rfl, hnc, -, hbw, hcm⟩ := row_formG h (by omega)
    have hgw : g < W.heap.size := bZ.lt
    have hne : g ≠ b := fun q => hgb (by rw [q]; rfl)
    by_cases hr : n + 1 ≤ c
    · exact gins_shift b c i n xs ys hys hy1 base W g h h1c hb bZ hsa hfa hfe hne hn (by omega) hr
    · obtain rfl : c = n := (by omega)
      exact gins_grow b i _ xs ys hys hy1 base W g h h1c hb bZ hgw hbw hn (by omega)
end Go.Proofs.Ytbcmoofpgffbhaa
