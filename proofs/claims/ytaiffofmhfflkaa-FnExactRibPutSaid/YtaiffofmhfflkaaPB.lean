/-
  An element put into a row of entries of the call's own, where there is no room for one more: a new row. Then in any case. Conditions: those in each contract.
-/
import Derived.Test.YtaiffofmhfflkaaPA
import Derived.Shelf.Spec.SlicesInsertGrow
namespace Go.Proofs.Ytaiffofmhfflkaa
open Go.ChangeShapes Go.WideShapes Go.ChangeAt Go.RowKit Go.BigFrame Go.Joins
set_option linter.unusedVariables false
set_option maxRecDepth 100000
set_option linter.unusedSimpArgs false
set_option maxRecDepth 100000

abbrev ZV7 : Value := (.agg #[.int .i64 0, .int .i64 0, .int .i64 0, .slice none 0 0, .int .i64 0, .slice none 0 0, .int .i64 0] : Value)
theorem zero7_len (k : Nat) : (Builtin.zeroCells ZV7.cells k).size = k * 7 := by
  rw [size_zeroCells]
  rfl
theorem cell_dd (W : World) (o : Obj) (vs : List Value) (g k : Nat) : ∀ x, (((W.alloc o).drew.setCells g k vs).drew).cell? x = ((W.drew.alloc o).setCells g k vs).cell? x := fun x => rfl
theorem froz_dd (W : World) (o : Obj) (vs : List Value) (g k : Nat) : ∀ x, (((W.alloc o).drew.setCells g k vs).drew).frozen? x = ((W.drew.alloc o).setCells g k vs).frozen? x := fun x => rfl
set_option maxHeartbeats 1000000 in
theorem iins_grow (b i : Nat) (S : List ET) (base : Nat) (W : World) (g : Nat) (h : W.ownsRow base EI 7 (.slice (some ⟨b, 0, none⟩) S.length S.length) S.length (flatT S)) (h1c : ∀ t ∈ S, t.u.oneCell' = true ∧ t.v.oneCell' = true) (hb : base ≤ W.heap.size) (bZ : Bl W g cz7) (hgw : g < W.heap.size) (hbw : b < W.heap.size) (hn : S.length ≤ 1048576) (hi : i < S.length) :
    Calls Try.prog 100 #[.slice (some ⟨b, 0, none⟩) S.length S.length, .int .i64 (i : Nat), .slice (some ⟨g, 0, none⟩) 1 1] W (InsE W base (.slice (some ⟨b, 0, none⟩) S.length S.length) S i) := by
  have hcell := h.cellAt
  obtain ⟨n, hn'⟩ : ∃ n, n = S.length := ⟨_, rfl⟩
  obtain ⟨td, td2⟩ := take_flat S i (by omega)
  have hfl := flatT_len S
  have hdl : (flatT (S.drop i)).length = (n - i) * 7 := by rw [flatT_len, List.length_drop, hn']
  have htl : (flatT (S.take i)).length = i * 7 := by rw [flatT_len, List.length_take]; omega
  have hone := one7 (S.drop i) (fun t ht => h1c t (List.mem_of_mem_drop ht))
  rw [← hn'] at hn hi hfl ⊢
  rw [← hn'] at h
  obtain ⟨i0, hi0, hz0, hzs, hzb⟩ := info_parts infoE2
  have hik : i + (n + 1 - i) = n + 1 := by omega
  have hold : (Builtin.firstCells i0.size i (.slice (some ⟨b, 0, none⟩) i n)).run Try.prog W.drew = .ok (flatT (S.take i)).toArray W.drew := by
    rw [hzs]
    exact run_firstCells_some W.drew 7 i ⟨b, 0, none⟩ i n (flatT (S.take i)) htl (fun j v hj => by
      rw [Addr.add_lit, Nat.zero_add]
      have hj2 : j < i * 7 := by
        have := (List.getElem?_eq_some_iff.1 hj).1
        omega
      rw [← td, List.getElem?_take] at hj
      rw [if_pos hj2] at hj
      show W.cell? ⟨b, j, none⟩ = some v
      rw [hcell j (by omega)]
      exact hj)
  have hrz : ∀ ty, (Builtin.append_ #[31, 3] ty #[.slice (some ⟨b, 0, none⟩) i n, .int .i64 ((n : Int) + 1 - (i : Int))]).run Try.prog W =
      .ok (.slice (some ⟨W.heap.size, 0, none⟩) (n + 1) (grownCap W (n + 1) n EI)) (W.drew.alloc (.cells ((flatT (S.take i)).toArray ++ Builtin.zeroCells ZV7.cells (n + 1 - i) ++ Builtin.zeroCells ZV7.cells (grownCap W (n + 1) n EI - (n + 1))) EI)) := fun ty => by
    have q := Lib.run_append_grow_zeros (P := Try.prog) W 31 3 ty EI i0 _ .i64 .i64 Try.underlying31 Try.underlying3 hi0 hz0 (some ⟨b, 0, none⟩) i n (flatT (S.take i)) hold (n + 1 - i) (by omega) (by omega) (by omega) (by omega) (by rw [hzb]; omega) (by rw [hzb, hik]; exact growslice_fits (by omega) (by omega))
    rw [hik] at q
    rw [show (n : Int) + 1 - (i : Int) = ((n + 1 - i : Nat) : Int) by omega]
    exact q
  obtain ⟨G, hG⟩ : ∃ G, G = grownCap W (n + 1) n EI := ⟨_, rfl⟩
  obtain ⟨Z1, hZ1⟩ : ∃ Z1 : List Value, Z1 = (Builtin.zeroCells ZV7.cells (n + 1 - i)).toList := ⟨_, rfl⟩
  obtain ⟨ROW, hROW⟩ : ∃ ROW : Array Value, ROW = (flatT (S.take i)).toArray ++ Builtin.zeroCells ZV7.cells (n + 1 - i) ++ Builtin.zeroCells ZV7.cells (G - (n + 1)) := ⟨_, rfl⟩
  rw [← hG] at hrz
  rw [← hROW] at hrz
  have hGn : n + 1 ≤ G := by rw [hG]; exact grownCap_ge W _ _ _
  have hGm : G ≤ maxLen := by rw [hG]; exact grownCap_le_maxLen W (n + 1) n EI (by unfold maxLen; omega)
  have hG63 : G ≤ 9223372036854775807 := by
    unfold maxLen at hGm
    omega
  have hZl : Z1.length = (n + 1 - i) * 7 := by rw [hZ1, Array.length_toList, zero7_len]
  have hRs : ROW.size = G * 7 := by
    rw [hROW, Array.size_append, Array.size_append, zero7_len, zero7_len, List.size_toArray, htl]
    omega
  have hRt : ROW.toList.take ((n + 1) * 7) = flatT (S.take i) ++ Z1 := by
    rw [hROW, Array.toList_append, Array.toList_append, ← hZ1, List.toList_toArray, List.take_append_of_le_length (by rw [List.length_append, htl, hZl]; omega), List.take_of_length_le (by rw [List.length_append, htl, hZl]; omega)]
  have hfin : setAll7 (setAll7 (flatT (S.take i) ++ Z1) (i * 7) cz7) ((i + 1) * 7) (flatT (S.drop i)) = flatT (S.take i ++ tz :: S.drop i) := by
    obtain ⟨q1, q2, hq, hq1⟩ : ∃ q1 q2, Z1 = q1 ++ q2 ∧ q1.length = 7 := ⟨Z1.take 7, Z1.drop 7, (List.take_append_drop 7 _).symm, by rw [List.length_take]; omega⟩
    have hq2 : q2.length = (n - i) * 7 := by
      have := congrArg List.length hq
      rw [List.length_append] at this
      omega
    have s1 := setAll7_at cz7 (flatT (S.take i)) q1 q2 (by rw [hq1]; rfl)
    rw [htl] at s1
    rw [hq, ← List.append_assoc, s1]
    have s2 := setAll7_at (flatT (S.drop i)) (flatT (S.take i) ++ cz7) q2 [] (by omega)
    rw [show (flatT (S.take i) ++ cz7).length = (i + 1) * 7 by rw [List.length_append, htl]; show i * 7 + 7 = _; omega, List.append_nil, List.append_nil] at s2
    rw [s2, flatT_append, show tz :: S.drop i = [tz] ++ S.drop i by rfl, flatT_append, List.append_assoc]
    rfl
  obtain ⟨W1, hW1⟩ : ∃ W1, W1 = W.drew.alloc (.cells ROW EI) := ⟨_, rfl⟩
  rw [← hW1] at hrz
  have hN : ∀ j, j < G * 7 → (W1.cell? ⟨W.heap.size, j, none⟩).isSome = true := fun j hj => by
    rw [hW1, World.cell?_alloc_at (w := W.drew) ROW _ W.heap.size j rfl, Array.getElem?_eq_getElem (by omega)]; rfl
  have hNf : ∀ j, W1.frozen? ⟨W.heap.size, j, none⟩ = false := fun j => by rw [hW1]; exact World.frozen?_alloc_at (w := W.drew) ROW _ W.heap.size j rfl
  have hOb : ∀ j, W1.cell? ⟨b, j, none⟩ = W.cell? ⟨b, j, none⟩ := fun j => by rw [hW1, World.cell?_alloc_past (w := W.drew) _ b j hbw]; rfl
  have hOv : ∀ j, W1.cell? ⟨g, j, none⟩ = W.cell? ⟨g, j, none⟩ := fun j => by rw [hW1, World.cell?_alloc_past (w := W.drew) _ g j hgw]; rfl
  have hbN : b ≠ W.heap.size := by omega
  have hcpA : ∀ (X : World), (∀ x, X.cell? x = W1.cell? x) → (∀ x, X.frozen? x = W1.frozen? x) → ∀ ty dc, (Builtin.copy_ #[31, 31] ty #[.slice (some ⟨W.heap.size, i * 7, none⟩) (n + 1 - i) dc, .slice (some ⟨g, 0, none⟩) 1 1]).run Try.prog X = .ok (goInt (1 : Nat)) (X.setCells W.heap.size (i * 7) cz7) := fun X hWc hWf ty dc =>
    run_copy7 X 31 31 ty W.heap.size (i * 7) (n + 1 - i) dc ⟨g, 0, none⟩ 1 1 cz7 1 Try.underlying31 (by simp only [Nat.min_def]; split <;> omega) rfl
      (fun j v hj => by
        rw [Addr.add_lit, hWc, Nat.zero_add, hOv]
        exact bZ.c j hj)
      (fun j hj => by rw [hWc]; exact hN _ (by simp at hj; omega)) (fun j hj => by rw [hWf]; exact hNf _) (by simp [Value.oneCell'])
  have hcpB : ∀ (X : World), (∀ x, X.cell? x = (W1.setCells W.heap.size (i * 7) cz7).cell? x) → (∀ x, X.frozen? x = (W1.setCells W.heap.size (i * 7) cz7).frozen? x) → ∀ ty dc sc, (Builtin.copy_ #[31, 31] ty #[.slice (some ⟨W.heap.size, (i + 1) * 7, none⟩) (n - i) dc, .slice (some ⟨b, i * 7, none⟩) (n - i) sc]).run Try.prog X = .ok (goInt ((n - i : Nat) : Int)) (X.setCells W.heap.size ((i + 1) * 7) (flatT (S.drop i))) := fun X hWc hWf ty dc sc =>
    run_copy7 X 31 31 ty W.heap.size ((i + 1) * 7) (n - i) dc ⟨b, i * 7, none⟩ (n - i) sc (flatT (S.drop i)) (n - i) Try.underlying31 (by simp only [Nat.min_def]; split <;> omega) hdl
      (fun j v hj => by
        have hj2 : j < (n - i) * 7 := by
          have := (List.getElem?_eq_some_iff.1 hj).1
          omega
        rw [Addr.add_lit, hWc, World.cell?_setCells_out _ _ _ _ _ (fun h _ => absurd h hbN)]
        show W1.cell? ⟨b, i * 7 + j, none⟩ = some v
        rw [hOb, hcell (i * 7 + j) (by omega), ← hj, ← td2, List.getElem?_drop])
      (fun j hj => by rw [hWc]; exact isSome_setCells _ _ _ _ (fun t ht => hN _ (by simp at ht; omega)) _ (hN _ (by omega)))
      (fun j hj => by rw [hWf, World.frozen?_setCells]; exact hNf _) hone
  have hrow : ((W.alloc (.cells ROW EI)).drew).ownsRow base EI 7 (.slice (some ⟨W.heap.size, 0, none⟩) (n + 1) G) (n + 1) (flatT (S.take i) ++ Z1) :=
    World.ownsRow.drew (new_row7 W ROW (n + 1) G base _ hb hRs hGn hGm hRt (by rw [List.length_append, htl, hZl]; omega))
  have hgr : W.grownBy ((W.alloc (.cells ROW EI)).drew) (some W.heap.size) := grown_drew7 (World.grownBy_alloc W _ _)
  have hr2 := row_setCells7 (flatT (S.drop i)) ((i + 1) * 7) _ _ (World.ownsRow.drew (row_setCells7 cz7 (i * 7) _ _ hrow))
  rw [hfin] at hr2
  have HN := Lib.hid hn'
  have hg2 := grown_any7 (row := some b) (grown_trans (grown_drew7 (grown_trans hgr (grown_setCells7 cz7 (i * 7) _))) (grown_setCells7 (flatT (S.drop i)) ((i + 1) * 7) _))
  subst hW1
  have hE1 : ∀ x, ((W.alloc (.cells ROW EI)).drew).cell? x = (W.drew.alloc (.cells ROW EI)).cell? x := fun x => rfl
  have hE2 : ∀ x, ((W.alloc (.cells ROW EI)).drew).frozen? x = (W.drew.alloc (.cells ROW EI)).frozen? x := fun x => rfl
  have hF1 := cell_dd W (.cells ROW EI) cz7 W.heap.size (i * 7)
  have hF2 := froz_dd W (.cells ROW EI) cz7 W.heap.size (i * 7)
  have HR2 := Lib.hid hr2
  have HG2 := Lib.hid hg2
  have hw1 : IntKind.i64.wrap ((i : Int) + 1) = (i : Int) + 1 := wrap64_in _ (by omega) (by omega)
  have hw2 : IntKind.i64.wrap ((n : Int) + 1) = (n : Int) + 1 := wrap64_in _ (by omega) (by omega)
  have hw3 : IntKind.i64.wrap ((n : Int) + 1 - (i : Int)) = (n : Int) + 1 - (i : Int) := wrap64_in _ (by omega) (by omega)
  have hz2 : ¬ ((i : Int) = (n : Int)) := by omega
  have hz3 : (n : Int) < (n : Int) + 1 := by omega
  have hb1 : (0 : Int) ≤ (i : Int) + 1 := by omega
  have hin : i ≤ n := by omega
  have htn : ((i : Int) + 1).toNat = i + 1 := by omega
  have hb3 : (i : Int) ≤ (n : Int) + 1 := by omega
  have hGi : ¬ (G = i) := by omega
  have hGim : ¬ (G = i + 1) := by omega
  have hci : ¬ (n = i) := by omega
  have mixed : Try.prog.follows Departure.mixedOrders = true := by kernel_rfl
  clear hrow hgr hr2 hg2 hfin hn' h hcell td td2 hfl hdl htl hone h1c hi0 hz0 hzs hzb hik hold hROW hG hZ1 hZl hRs hRt hN hNf hOb hOv bZ hGm
  go_enter Try.func100, Try.ntmps100
  go_wp2_with (first
    | (at_builtin; refine Lib.wpList_append_run _ rfl _ _ _ _ rfl _ _ rfl rfl _ _ (hrz _) ?_)
    | (at_builtin; refine wpList_copy_runI _ rfl _ _ 31 31 rfl _ _ rfl rfl (hcpA _ hE1 hE2 _ _) ?_)
    | (at_builtin; refine wpList_copy_runI _ rfl _ _ 31 31 rfl _ _ rfl rfl (hcpB _ hF1 hF2 _ _ _) ?_))
  go_region_law_o (refine step_copy_runI rfl _ _ 31 31 rfl (.slice (some ⟨W.heap.size, (i + 1) * 7, none⟩) (n - i) (G - (i + 1))) (.slice (some ⟨b, i * 7, none⟩) (n - i) (n - i)) (by simp [Act.eval, Act.put]) (by simp [Act.eval, Act.put]) (hcpB _ hF1 hF2 3 (G - (i + 1)) (n - i)) ?_)
  go_wp2
  go_ret
  refine ⟨_, rfl, ?_, HG2.out, .inr ⟨_, rfl, Nat.le_refl _⟩⟩
  rw [← HN.out]
  exact HR2.out
/-- an element more at any place, room or none -/
theorem iins_any (v : Value) (i : Nat) (S : List ET) (base : Nat) (W : World) (g : Nat) (h : W.ownsRow base EI 7 v S.length (flatT S)) (h1c : ∀ t ∈ S, t.u.oneCell' = true ∧ t.v.oneCell' = true) (hb : base ≤ W.heap.size) (bZ : Bl W g cz7) (hsa : W.shape? g = some (EI, 7)) (hfa : W.frozen? ⟨g, 0, none⟩ = false) (hfe : W.frozen? ⟨g, 7, none⟩ = false) (hgb : v.ownBlock ≠ some g) (hn : S.length ≤ 1048576) (hi : i ≤ S.length) :
    Calls Try.prog 100 #[v, .int .i64 (i : Nat), .slice (some ⟨g, 0, none⟩) 1 1] W (InsE W base v S i) := by
  by_cases hin : i = S.length
  · subst hin
    exact iins_end v S base W g h hb bZ hn
  · obtain ⟨b, c, rfl, hnc, -, hbw, hcm⟩ := row_form h (by omega)
    have hgw : g < W.heap.size := bZ.lt
    have hne : g ≠ b := fun q => hgb (by rw [q]; rfl)
    by_cases hr : S.length + 1 ≤ c
    · exact iins_shift b c i S base W g h h1c hb bZ hsa hfa hfe hne hn (by omega) hr
    · obtain rfl : c = S.length := (by omega)
      exact iins_grow b i S base W g h h1c hb bZ hgw hbw hn (by omega)
end Go.Proofs.Ytaiffofmhfflkaa
