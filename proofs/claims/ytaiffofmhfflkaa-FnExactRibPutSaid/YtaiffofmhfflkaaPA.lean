/-
  An element put into a row of entries of the call's own: the library's Insert, at any place, whether there is room or not. Conditions: those in each contract.
-/
import Derived.Test.YtaiffofmhfflkaaEG
import Derived.Test.YtaiffofmhfflkaaEB
import Derived.Shelf.Spec.SlicesInsertGrow
namespace Go.Proofs.Ytaiffofmhfflkaa
open Go.ChangeShapes Go.WideShapes Go.ChangeAt Go.RowKit Go.BigFrame Go.Joins
set_option linter.unusedVariables false
set_option maxRecDepth 100000
set_option linter.unusedSimpArgs false
set_option maxRecDepth 100000

abbrev cz7 : List Value := [.int .i64 0, .int .i64 0, .int .i64 0, .slice none 0 0, .int .i64 0, .slice none 0 0, .int .i64 0]
def tz : ET := ⟨e0, .slice none 0 0, .slice none 0 0⟩
theorem cells_tz : cellsT tz = cz7 := rfl
def setAll7 : List Value → Nat → List Value → List Value
  | xs, _, [] => xs
  | xs, o, v :: r => setAll7 (xs.set o v) (o + 1) r
theorem setAll7_at : ∀ (s p q r : List Value), q.length = s.length → setAll7 (p ++ q ++ r) p.length s = p ++ s ++ r
  | [], p, q, r, h => by
    have : q = [] := List.eq_nil_of_length_eq_zero (by simpa using h)
    subst this
    rfl
  | x :: s, p, [], r, h => by simp at h
  | x :: s, p, y :: q, r, h => by
    have ih := setAll7_at s (p ++ [x]) q r (by simpa using h)
    rw [setAll7]
    have e : (p ++ y :: q ++ r).set p.length x = p ++ [x] ++ q ++ r := by
      rw [List.append_assoc, List.set_append_right _ _ (Nat.le_refl _), Nat.sub_self]
      simp
    rw [e]
    rw [List.length_append] at ih
    simpa using ih
theorem row_setCells7 {base g n cap : Nat} : ∀ (vs : List Value) (o : Nat) (xs : List Value) (w : World), w.ownsRow base EI 7 (.slice (some ⟨g, 0, none⟩) n cap) n xs →
    (w.setCells g o vs).ownsRow base EI 7 (.slice (some ⟨g, 0, none⟩) n cap) n (setAll7 xs o vs)
  | [], _, _, _, h => h
  | v :: r, o, xs, w, h => row_setCells7 r (o + 1) (xs.set o v) _ (h.stored o v).1
theorem grown_setCells7 {g : Nat} : ∀ (vs : List Value) (o : Nat) (w : World), w.grownBy (w.setCells g o vs) (some g)
  | [], _, w => World.grownBy.refl w _
  | v :: r, o, w => grown_trans (grown_set w g o v) (grown_setCells7 r (o + 1) _)
theorem grown_drew7 {a w : World} {row : Option Nat} (h : a.grownBy w row) : a.grownBy w.drew row := ⟨h.os, h.tape, h.output, h.size, h.block⟩
theorem grown_any7 {a w : World} {row : Option Nat} (h : a.grownBy w (some a.heap.size)) : a.grownBy w row := ⟨h.os, h.tape, h.output, h.size, fun i hi _ => h.block i hi (by simp; omega)⟩
theorem new_row7 (w : World) (cur : Array Value) (n cap : Nat) (base : Nat) (xs : List Value) (hb : base ≤ w.heap.size) (hc : cur.size = cap * 7) (hn : n ≤ cap) (hm : cap ≤ maxLen) (hx : cur.toList.take (n * 7) = xs) (hxl : xs.length = n * 7) :
    (w.alloc (.cells cur EI)).ownsRow base EI 7 (.slice (some ⟨w.heap.size, 0, none⟩) n cap) n xs :=
  ⟨hxl, .inr ⟨w.heap.size, cap, cur, rfl, hb, heap_alloc_new w _, hn, hm, hc, hx⟩⟩
theorem row_wider7 {w : World} {base g n cap : Nat} {xs : List Value} (h : w.ownsRow base EI 7 (.slice (some ⟨g, 0, none⟩) n cap) n xs) (hr : n + 1 ≤ cap) :
    ∃ us : List Value, us.length = 7 ∧ w.ownsRow base EI 7 (.slice (some ⟨g, 0, none⟩) (n + 1) cap) (n + 1) (xs ++ us) := by
  rcases h.2 with ⟨hv, _⟩ | ⟨g', cap', cur, hv, hb, hg, hnc, hcm, hcs, htake⟩
  · cases hv
  · simp only [Value.slice.injEq, Option.some.injEq, Addr.mk.injEq, and_true, true_and] at hv
    obtain ⟨rfl, rfl⟩ := hv
    have hl : cur.toList.length = cap * 7 := by rw [Array.length_toList]; exact hcs
    refine ⟨(cur.toList.drop (n * 7)).take 7, by rw [List.length_take, List.length_drop, hl]; omega, ⟨by rw [List.length_append, h.1, List.length_take, List.length_drop, hl]; omega, .inr ⟨g, cap, cur, rfl, hb, hg, hr, hcm, hcs, ?_⟩⟩⟩
    rw [← htake, show (n + 1) * 7 = n * 7 + 7 by omega, List.take_add]
theorem row_there7 {w : World} {base g n cap : Nat} {xs : List Value} (h : w.ownsRow base EI 7 (.slice (some ⟨g, 0, none⟩) n cap) n xs) : (∀ j, j < cap * 7 → (w.cell? ⟨g, j, none⟩).isSome = true) ∧ w.shape? g = some (EI, cap * 7) := by
  rcases h.2 with ⟨hv, _⟩ | ⟨g', cap', cur, hv, hb, hg, hnc, hcm, hcs, htake⟩
  · cases hv
  · simp only [Value.slice.injEq, Option.some.injEq, Addr.mk.injEq, and_true, true_and] at hv
    obtain ⟨rfl, rfl⟩ := hv
    refine ⟨fun j hj => ?_, by unfold World.shape?; rw [hg]; simp; omega⟩
    have hj' : j < cur.size := by omega
    simp [World.cell?, hg, hj']
theorem run_copy7 (w : World) (dT sT ty : TypeId) (b o dLen dCap : Nat) (a : Addr) (sLen sCap : Nat) (cs : List Value) (k : Nat) (hu : Try.prog.underlying dT = some (.slice EI)) (hk : k = Nat.min sLen dLen) (hn : cs.length = k * 7)
    (hsrc : ∀ j v, cs[j]? = some v → w.cell? (a.add j) = some v) (hc : ∀ j, j < cs.length → (w.cell? ⟨b, o + j, none⟩).isSome = true) (hf : ∀ j, j < cs.length → w.frozen? ⟨b, o + j, none⟩ = false) (h1 : ∀ v ∈ cs, v.oneCell' = true) :
    (Builtin.copy_ #[dT, sT] ty #[.slice (some ⟨b, o, none⟩) dLen dCap, .slice (some a) sLen sCap]).run Try.prog w = .ok (goInt k) (w.setCells b o cs) := by
  obtain ⟨i0, hi, hz0, hz1, hz2⟩ := info_parts infoE2
  have hl := run_loadCells_list (P := Try.prog) w a cs hsrc
  have hst := run_storeCells_cells (P := Try.prog) b o cs 0 w (by simpa using hc) (by simpa using hf) h1
  simp [Builtin.copy_, run_underlying hu, Builtin.lenOf, Builtin.firstCells, sizeOf, typeInfo, hi, hz1, ← hk, ← hn, hl, hst]
theorem take_flat (S : List ET) (i : Nat) (h : i ≤ S.length) : (flatT S).take (i * 7) = flatT (S.take i) ∧ (flatT S).drop (i * 7) = flatT (S.drop i) := by
  have e : flatT S = flatT (S.take i) ++ flatT (S.drop i) := by rw [← flatT_append, List.take_append_drop]
  have hl : (flatT (S.take i)).length = i * 7 := by rw [flatT_len, List.length_take]; omega
  constructor
  · rw [e, List.take_append_of_le_length (by omega), List.take_of_length_le (by omega)]
  · rw [e, List.drop_append_of_le_length (by omega), List.drop_of_length_le (by omega), List.nil_append]
theorem row_slice8 {w : World} {base : Nat} {v : Value} {n : Nat} {xs : List Value} (h : w.ownsRow base EI 7 v n xs) : ∃ a c, v = .slice a n c := by
  rcases h.2 with ⟨hv, hn⟩ | ⟨g, cap, cur, hv, _⟩
  · exact ⟨none, 0, by rw [hv, hn]⟩
  · exact ⟨_, cap, hv⟩
/-- one element more at place i -/
def InsE (W : World) (base : Nat) (v : Value) (S : List ET) (i : Nat) (e : Ending) (w' : World) : Prop :=
  ∃ v', e = .returned v' ∧ w'.ownsRow base EI 7 v' (S.length + 1) (flatT (S.take i ++ tz :: S.drop i)) ∧ W.grownBy w' v.ownBlock ∧ (v'.ownBlock = v.ownBlock ∨ ∃ k, v'.ownBlock = some k ∧ W.heap.size ≤ k)
theorem one7 (S : List ET) (h : ∀ t ∈ S, t.u.oneCell' = true ∧ t.v.oneCell' = true) : ∀ x ∈ flatT S, x.oneCell' = true := by
  intro x hx
  obtain ⟨t, ht, hx⟩ := List.mem_flatMap.1 hx
  obtain ⟨h1, h2⟩ := h t ht
  simp [cellsT] at hx
  rcases hx with rfl | rfl | rfl | rfl | rfl | rfl | rfl <;> first | rfl | assumption
set_option maxHeartbeats 2000000 in
theorem iins_end (v : Value) (S : List ET) (base : Nat) (W : World) (g : Nat) (h : W.ownsRow base EI 7 v S.length (flatT S)) (hb : base ≤ W.heap.size) (bZ : Bl W g cz7) (hn : S.length ≤ 1048576) :
    Calls Try.prog 100 #[v, .int .i64 (S.length : Nat), .slice (some ⟨g, 0, none⟩) 1 1] W (InsE W base v S S.length) := by
  obtain ⟨a, c, rfl⟩ := row_slice8 h
  obtain ⟨n, hn'⟩ : ∃ n, n = S.length := ⟨_, rfl⟩
  have hS : flatT (S.take n ++ tz :: S.drop n) = flatT S ++ cz7 := by
    rw [hn', List.take_length, List.drop_length, flatT_append]
    rfl
  have HS := Lib.hid hS
  rw [← hn'] at h hn ⊢
  have HN := Lib.hid hn'
  clear hS hn'
  by_cases hcn : c = n
  · subst hcn
    go_enter Try.func100, Try.ntmps100
    go_wp2_with (at_builtin; refine Hid.out ?_)
    refine Lib.hid ?_
    refine wp_appE rfl _ _ rfl base g 1 (.slice a c c) c (flatT S) cz7 rfl rfl h bZ rfl (by simp [Value.oneCell']) (by omega) hb ?_
    intro v' w' hrow hg hor
    have HR := Lib.hid hrow
    have HG := Lib.hid hg
    have HO := Lib.hid hor
    clear hrow hg hor
    go_wp2
    go_ret
    refine ⟨v', rfl, ?_, HG.out, ?_⟩
    · rw [← HN.out, HS.out]; exact HR.out
    · rcases HO.out with q | q
      · exact .inl q
      · exact .inr ⟨_, q, Nat.le_refl _⟩
  · go_enter Try.func100, Try.ntmps100
    go_wp2_with (at_builtin; refine Hid.out ?_)
    refine Lib.hid ?_
    refine wp_appE rfl _ _ rfl base g 1 (.slice a n c) n (flatT S) cz7 rfl rfl h bZ rfl (by simp [Value.oneCell']) (by omega) hb ?_
    intro v' w' hrow hg hor
    have HR := Lib.hid hrow
    have HG := Lib.hid hg
    have HO := Lib.hid hor
    clear hrow hg hor
    go_wp2
    go_ret
    refine ⟨v', rfl, ?_, HG.out, ?_⟩
    · rw [← HN.out, HS.out]; exact HR.out
    · rcases HO.out with q | q
      · exact .inl q
      · exact .inr ⟨_, q, Nat.le_refl _⟩
set_option maxHeartbeats 1000000 in
theorem iins_shift (b c i : Nat) (S : List ET) (base : Nat) (W : World) (g : Nat) (h : W.ownsRow base EI 7 (.slice (some ⟨b, 0, none⟩) S.length c) S.length (flatT S)) (h1c : ∀ t ∈ S, t.u.oneCell' = true ∧ t.v.oneCell' = true) (hb : base ≤ W.heap.size) (bZ : Bl W g cz7) (hsa : W.shape? g = some (EI, 7)) (hfa : W.frozen? ⟨g, 0, none⟩ = false) (hfe : W.frozen? ⟨g, 7, none⟩ = false) (hgb : g ≠ b) (hn : S.length ≤ 1048576) (hi : i < S.length) (hroom : S.length + 1 ≤ c) :
    Calls Try.prog 100 #[.slice (some ⟨b, 0, none⟩) S.length c, .int .i64 (i : Nat), .slice (some ⟨g, 0, none⟩) 1 1] W (InsE W base (.slice (some ⟨b, 0, none⟩) S.length c) S i) := by
  obtain ⟨hthere, hshape⟩ := row_there7 h
  obtain ⟨us, hus, hwid⟩ := row_wider7 h hroom
  have hfr := h.frozenAt
  have hcell := h.cellAt
  have hc63 : c ≤ 9223372036854775807 := by
    obtain ⟨g', c', e, -, -, -, q⟩ := row_form h (by omega)
    injection e with e1 e2 e3
    omega
  obtain ⟨n, hn'⟩ : ∃ n, n = S.length := ⟨_, rfl⟩
  obtain ⟨td, td2⟩ := take_flat S i (by omega)
  have hfl := flatT_len S
  have hdl : (flatT (S.drop i)).length = (n - i) * 7 := by rw [flatT_len, List.length_drop, hn']
  have hone := one7 (S.drop i) (fun t ht => h1c t (List.mem_of_mem_drop ht))
  have hfin : setAll7 (setAll7 (flatT S ++ us) ((i + 1) * 7) (flatT (S.drop i))) (i * 7) cz7 = flatT (S.take i ++ tz :: S.drop i) := by
    have hlt : (flatT (S.take i)).length = i * 7 := by rw [flatT_len, List.length_take]; omega
    have e0 : flatT S = flatT (S.take i) ++ flatT (S.drop i) := by rw [← flatT_append, List.take_append_drop]
    obtain ⟨q1, q2, hq, hq1⟩ : ∃ q1 q2, flatT (S.drop i) ++ us = q1 ++ q2 ∧ q1.length = 7 := ⟨(flatT (S.drop i) ++ us).take 7, (flatT (S.drop i) ++ us).drop 7, (List.take_append_drop 7 _).symm, by rw [List.length_take, List.length_append]; omega⟩
    have hq2 : q2.length = (n - i) * 7 := by
      have := congrArg List.length hq
      rw [List.length_append, List.length_append] at this
      omega
    rw [e0, List.append_assoc, hq, ← List.append_assoc]
    have hp : (flatT (S.take i) ++ q1).length = (i + 1) * 7 := by rw [List.length_append]; omega
    have s1 := setAll7_at (flatT (S.drop i)) (flatT (S.take i) ++ q1) q2 [] (by omega)
    rw [hp, List.append_nil, List.append_nil] at s1
    rw [s1, ← hlt]
    have s2 := setAll7_at cz7 (flatT (S.take i)) q1 (flatT (S.drop i)) (by rw [hq1]; rfl)
    rw [s2, flatT_append, show tz :: S.drop i = [tz] ++ S.drop i by rfl, flatT_append, List.append_assoc]
    rfl
  rw [← hn'] at h hwid hn hi hroom ⊢
  have hov : ∀ lb cb, (callFunc 116 #[.slice (some ⟨g, 0, none⟩) 1 1, .slice (some ⟨b, (i + 1) * 7, none⟩) lb cb]).run Try.prog W = .ok (.value (.bool false)) W := fun lb cb => by
    rw [run_callFunc_extern Try.func116 (by kernel_rfl) (by kernel_rfl) (by kernel_rfl) (e := Extern.SlicesOverlaps.overlaps #[31, 31] #[4]) (by kernel_rfl),
      Lib.run_overlaps_apart W 31 4 EI Try.underlying31 7 Try.sizeOf54 ⟨g, 0, none⟩ ⟨b, (i + 1) * 7, none⟩ 1 1 lb cb hgb EI EI 7 (c * 7) hsa hshape (by omega) hfa hfe]
    rfl
  have hcp1 : ∀ ty dc sc, (Builtin.copy_ #[31, 31] ty #[.slice (some ⟨b, (i + 1) * 7, none⟩) (n - i) dc, .slice (some ⟨b, i * 7, none⟩) (n + 1 - i) sc]).run Try.prog W.drew = .ok (goInt ((n - i : Nat) : Int)) (W.drew.setCells b ((i + 1) * 7) (flatT (S.drop i))) := fun ty dc sc =>
    run_copy7 W.drew 31 31 ty b ((i + 1) * 7) (n - i) dc ⟨b, i * 7, none⟩ (n + 1 - i) sc (flatT (S.drop i)) (n - i) Try.underlying31 (by simp only [Nat.min_def]; split <;> omega) hdl
      (fun j v hj => by
        have hj2 : j < (n - i) * 7 := by
          have := (List.getElem?_eq_some_iff.1 hj).1
          omega
        rw [Addr.add_lit]
        show W.cell? ⟨b, i * 7 + j, none⟩ = some v
        rw [hcell (i * 7 + j) (by omega), ← hj, ← td2, List.getElem?_drop])
      (fun j hj => hthere _ (by omega)) (fun j hj => hfr _) hone
  obtain ⟨W1, hW1⟩ : ∃ W1, W1 = W.drew.setCells b ((i + 1) * 7) (flatT (S.drop i)) := ⟨_, rfl⟩
  have hsp1 : ∀ k, k < c * 7 → (W1.cell? ⟨b, k, none⟩).isSome = true := fun k hk => by
    rw [hW1]
    exact isSome_setCells b (flatT (S.drop i)) ((i + 1) * 7) W.drew (fun j hj => hthere _ (by omega)) k (hthere k hk)
  have hcp2 : ∀ (X : World), (∀ x, X.cell? x = W1.cell? x) → (∀ x, X.frozen? x = W1.frozen? x) → ∀ ty dc, (Builtin.copy_ #[31, 31] ty #[.slice (some ⟨b, i * 7, none⟩) (n + 1 - i) dc, .slice (some ⟨g, 0, none⟩) 1 1]).run Try.prog X = .ok (goInt 1) (X.setCells b (i * 7) cz7) := fun X hWc hWf ty dc =>
    run_copy7 X 31 31 ty b (i * 7) (n + 1 - i) dc ⟨g, 0, none⟩ 1 1 cz7 1 Try.underlying31 (by simp only [Nat.min_def]; split <;> omega) rfl
      (fun j v hj => by
        rw [Addr.add_lit, hWc, hW1, World.cell?_setCells_out b _ _ _ _ (fun h _ => absurd h hgb), Nat.zero_add]
        exact bZ.c j hj)
      (fun j hj => by rw [hWc]; exact hsp1 _ (by simp at hj; omega)) (fun j hj => by rw [hWf, hW1, World.frozen?_setCells]; exact hfr _) (by simp [Value.oneCell'])
  have hr2 : W1.ownsRow base EI 7 (.slice (some ⟨b, 0, none⟩) (n + 1) c) (n + 1) (setAll7 (flatT S ++ us) ((i + 1) * 7) (flatT (S.drop i))) := by
    rw [hW1]
    exact row_setCells7 _ _ _ _ (World.ownsRow.drew hwid)
  have hg1 : W.grownBy W1 (some b) := by rw [hW1]; exact grown_trans (grown_drew7 (World.grownBy.refl W _)) (grown_setCells7 _ _ _)
  have HFIN := Lib.hid hfin
  have HR2 := Lib.hid hr2
  have HG1 := Lib.hid hg1
  have HN := Lib.hid hn'
  rw [← hW1] at hcp1
  have hw1 : IntKind.i64.wrap ((i : Int) + 1) = (i : Int) + 1 := wrap64_in _ (by omega) (by omega)
  have hw2 : IntKind.i64.wrap ((n : Int) + 1) = (n : Int) + 1 := wrap64_in _ (by omega) (by omega)
  have hz2 : ¬ ((i : Int) = (n : Int)) := by omega
  have hb1 : (0 : Int) ≤ (i : Int) + 1 := by omega
  have hin : i ≤ n := by omega
  have htn : ((i : Int) + 1).toNat = i + 1 := by omega
  have hb2 : ¬ (c = i + 1) := by omega
  have hb3 : (i : Int) ≤ (n : Int) + 1 := by omega
  have hb4 : ¬ (c = i) := by omega
  clear hfin hr2 hg1 hwid h hcell hfr hthere hshape td td2 hfl hdl hone hus hsp1 bZ hsa hfa hfe hn' h1c
  go_enter Try.func100, Try.ntmps100
  go_wp2_with (simp only [hov])
  have mixed : Try.prog.follows Departure.mixedOrders = true := by kernel_rfl
  go_region_law_o (refine step_copy_runI rfl _ _ 31 31 rfl _ _ (by simp [Act.eval, Act.put]) (by simp [Act.eval, Act.put]) (hcp1 _ _ _) ?_)
  go_wp2_with (at_builtin; refine wpList_copy_runI _ rfl _ _ 31 31 rfl _ _ rfl rfl (hcp2 _ (fun _ => rfl) (fun _ => rfl) _ _) ?_)
  go_ret
  have hr2 := HR2.out
  have hg1 := HG1.out
  rw [hW1] at hr2 hg1
  refine ⟨_, rfl, ?_, grown_trans hg1 (grown_setCells7 _ _ _), .inl rfl⟩
  rw [← HN.out, ← HFIN.out]
  exact row_setCells7 _ _ _ _ hr2
end Go.Proofs.Ytaiffofmhfflkaa
