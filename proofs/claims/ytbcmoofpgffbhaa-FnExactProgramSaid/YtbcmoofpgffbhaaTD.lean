/-
  A group put into its place, of the program. Conditions: those in each contract.
-/
import Derived.Test.YtbcmoofpgffbhaaTC
namespace Go.Proofs.Ytbcmoofpgffbhaa
open Go.ChangeShapes Go.WideShapes Go.ChangeAt Go.RowKit Go.BigFrame Go.Joins
set_option linter.unusedVariables false
set_option maxRecDepth 100000
set_option linter.unusedSimpArgs false
set_option maxRecDepth 100000

theorem below_own3 {N base n : Nat} {w w' : World} {v : Value} {xs : List Value} (ho : w.ownsRow base GI 3 v n xs) (hN : N ≤ base) (hs : N ≤ w.heap.size) (hg : w.grownBy w' v.ownBlock) : Below N w w' :=
  Below.grown (Below.refl N w) hg hs (fun k hk => Nat.le_trans hN (World.ownsRow.lt ho k hk).1)
theorem below_low3 {w w' : World} {N X : Nat} (h : Below N w w') (hx : X ≤ N) : Below X w w' := ⟨h.os, h.tape, h.output, h.size, fun k hk => h.block k (by omega)⟩
theorem below_trans3 {N : Nat} {a b c : World} (h : Below N a b) (k : Below N b c) : Below N a c := ⟨k.os.trans h.os, k.tape.trans h.tape, k.output.trans h.output, Nat.le_trans h.size k.size, fun i hi => (k.block i hi).trans (h.block i hi)⟩
theorem rowG_form {w : World} {base n : Nat} {v : Value} {xs : List Value} (h : w.ownsRow base GI 3 v n xs) (hn : 0 < n) : ∃ g c, v = .slice (some ⟨g, 0, none⟩) n c ∧ n ≤ c ∧ base ≤ g ∧ g < w.heap.size ∧ c ≤ 9223372036854775807 := row_formG h hn
theorem oneG {w : World} {base : Nat} {v : Value} {Q : List (GT × (Nat → Prop))} (h : OwGs w base v Q) : ∀ u ∈ flatG (Q.map (·.1)), u.oneCell' = true := by
  intro u hu
  obtain ⟨t, ht, hx⟩ := List.mem_flatMap.1 hu
  obtain ⟨q, hq, rfl⟩ := List.mem_map.1 ht
  obtain ⟨a, c, e⟩ := RdP.len (h.el q hq).2.rd
  simp only [cellsG, List.mem_cons, List.not_mem_nil, or_false] at hx
  rcases hx with rfl | rfl | rfl
  · rfl
  · rfl
  · rw [e]; rfl
theorem set3 {xs : List Value} {i n : Nat} (hx : xs.length = n * 3) (hi : i < n) (a b c : Value) : ((xs.set (i * 3) a).set (i * 3 + 1) b).set (i * 3 + 2) c = xs.take (i * 3) ++ ([a, b, c] ++ xs.drop ((i + 1) * 3)) := by
  refine List.ext_getElem? fun p => ?_
  have hl : (xs.take (i * 3)).length = i * 3 := by rw [List.length_take]; omega
  rw [List.getElem?_set, List.getElem?_set, List.getElem?_set]
  simp only [List.length_set]
  by_cases h1 : p < i * 3
  · rw [if_neg (by omega), if_neg (by omega), if_neg (by omega), List.getElem?_append_left (by omega), List.getElem?_take, if_pos h1]
  · rw [List.getElem?_append_right (by omega), hl]
    by_cases h2 : p < i * 3 + 3
    · rw [List.getElem?_append_left (by simp; omega)]
      have : p = i * 3 ∨ p = i * 3 + 1 ∨ p = i * 3 + 2 := by omega
      rcases this with rfl | rfl | rfl
      · rw [if_neg (by omega), if_neg (by omega), if_pos rfl, if_pos (by omega), Nat.sub_self]; rfl
      · rw [if_neg (by omega), if_pos rfl, if_pos (by omega), show i * 3 + 1 - i * 3 = 1 by omega]; rfl
      · rw [if_pos rfl, if_pos (by omega), show i * 3 + 2 - i * 3 = 2 by omega]; rfl
    · rw [if_neg (by omega), if_neg (by omega), if_neg (by omega), List.getElem?_append_right (by simp; omega), List.getElem?_drop]
      congr 1
      simp
      omega
/-- what put leaves -/
def PutG (base : Nat) (L : List Grp) (x : Grp) (w : World) (e : Ending) (w' : World) : Prop := ∃ v' Q', e = .returned v' ∧ OwGs w' base v' Q' ∧ grpQ Q' = putL L x ∧ Below base w w'
set_option maxHeartbeats 4000000 in
theorem iputG_any (v yv : Value) (Q : List (GT × (Nat → Prop))) (x : Grp) (S : Nat → Prop) (base : Nat) (w0 w : World) (h : OwGs w0 base v Q) (hb : base ≤ w0.heap.size) (B : Below w0.heap.size w0 w) (o : OwY w S yv x)
    (hS : ∀ b, S b → w0.heap.size ≤ b ∧ b < w.heap.size) (hs : SoG (grpQ Q)) (hP : ∀ i, i < (grpQ Q).length → pcmp ((grpQ Q).getD i gr0).a ((grpQ Q).getD i gr0).n x.a x.n = cmp2 ((grpQ Q).getD i gr0).a ((grpQ Q).getD i gr0).n x.a x.n) (hn : Q.length ≤ 1048576) :
    Calls Try.prog 104 #[v, .agg #[.int .i64 x.a, .int .i64 x.n, yv], .func (.func 106) #[] #[]] w (PutG base (grpQ Q) x w) := by
  obtain ⟨ya, yc, rfl⟩ := RdP.len o.rd
  obtain ⟨a, c, rfl⟩ := row_sliceGG h.row
  have hSea := fun V (hV : Below w.heap.size w V) => ibsG_any (.slice a Q.length c) (.slice ya x.h.length yc) (grpQ Q) x.a x.n V ((h.keep (below_step B hV)).rd) (by rw [grpQ_len]; exact hn) hP
  obtain ⟨n, hn'⟩ : ∃ n, n = Q.length := ⟨_, rfl⟩
  rw [← hn'] at hSea hn ⊢
  have HSea := Lib.hid hSea
  have HH := Lib.hid h
  have HN := Lib.hid hn'
  have HPS := Lib.hid (And.intro hs (And.intro o hS))
  have hBs := B.size
  clear hSea h hs hP o hS hn'
  obtain ⟨bP, N1, z1⟩ := one w [.int .i64 x.a, .int .i64 x.n, .slice ya x.h.length yc] GI
  have p0 := bP.c 0 rfl
  have p1 := bP.c 1 rfl
  have p2 := bP.c 2 rfl
  go_enter Try.func104, Try.ntmps104
  go_wp2_with fail
  clear p0 p1 p2
  obtain ⟨W1, hW1⟩ : ∃ W1, W1 = w.alloc (.cells #[.int .i64 x.a, .int .i64 x.n, .slice ya x.h.length yc] GI) := ⟨_, rfl⟩
  rw [← hW1] at bP N1 z1 ⊢
  clear z1 hW1
  refine (HSea.out W1 N1).mono ?_
  rintro e w1 ⟨i, f, rfl, hat, hb1⟩
  obtain ⟨m, hm, hi, hfi, hput, -⟩ := at_put HPS.out.1 hat
  rw [grpQ_len, ← HN.out] at hi hfi
  replace bP := bP.keep hb1
  have O1 := below_step N1 hb1
  have h1 := HH.out.keep (below_step B O1)
  have HM := Lib.hid hm
  have HPUT := Lib.hid hput
  have HAT := Lib.hid hat
  have H1 := Lib.hid h1
  clear hm hput hat hb1 N1
  cases f
  · have p0 := bP.c 0 rfl
    have p1 := bP.c 1 rfl
    have p2 := bP.c 2 rfl
    obtain ⟨bZ, N2, z2⟩ := one w1 [.int .i64 x.a, .int .i64 x.n, .slice ya x.h.length yc] GI
    have hsa : (w1.alloc (.cells #[.int .i64 x.a, .int .i64 x.n, .slice ya x.h.length yc] GI)).shape? w1.heap.size = some (GI, 3) := by unfold World.shape?; rw [heap_alloc_new w1 _]; rfl
    have hfa : ∀ j, (w1.alloc (.cells #[.int .i64 x.a, .int .i64 x.n, .slice ya x.h.length yc] GI)).frozen? ⟨w1.heap.size, j, none⟩ = false := fun j => World.frozen?_alloc_at (w := w1) #[.int .i64 x.a, .int .i64 x.n, .slice ya x.h.length yc] _ w1.heap.size j rfl
    go_wp2_with fail
    clear p0 p1 p2
    obtain ⟨W2, hW2⟩ : ∃ W2, W2 = w1.alloc (.cells #[.int .i64 x.a, .int .i64 x.n, .slice ya x.h.length yc] GI) := ⟨_, rfl⟩
    rw [← hW2] at bZ N2 z2 hsa hfa ⊢
    clear z2 hW2
    have O2 := below_step O1 N2
    have h2 := HH.out.keep (below_step B O2)
    have hlt := World.ownsRow.lt h2.row
    have hlt0 := World.ownsRow.lt H1.out.row
    have hrow := h2.row
    rw [← HN.out] at hrow
    refine (gins_any (.slice a n c) i n (flatG (Q.map (·.1))) [.int .i64 x.a, .int .i64 x.n, .slice ya x.h.length yc] rfl (by simp [Value.oneCell']) base W2 w1.heap.size hrow (oneG h2) (by have := O2.size; omega) bZ hsa (hfa 0) (hfa 3) (fun q => by
      have := (hlt0 w1.heap.size (by rw [← HN.out]; exact q)).2; omega) hn hi).mono ?_
    rintro e w3 ⟨v', rfl, hr3, hg3, hor3⟩
    have hO := HPS.out.2.1
    have hspl : OwGs w3 base v' (splQ Q ⟨x, .slice ya x.h.length yc⟩ S i i) := OwGs.spl (w1 := W2) HH.out hb (below_step B O2) (OwY.agr hO (.of_below O2)) (fun b q => ⟨(HPS.out.2.2 b q).1, by have := (HPS.out.2.2 b q).2; have := O2.size; omega⟩) (Nat.le_refl _)
      (by rw [splQ_flat, show (splQ Q ⟨x, .slice ya x.h.length yc⟩ S i i).length = n + 1 by rw [splQ, List.length_append, List.length_take, List.length_cons, List.length_drop, ← HN.out]; omega]; exact hr3) (by rw [← HN.out]; exact hg3) (by rw [← HN.out]; exact hor3)
    have hBl := below_trans3 (below_low3 O2 (by omega)) (below_own3 hrow (Nat.le_refl _) (by have := O2.size; omega) hg3)
    have HR := Lib.hid (And.intro hspl hBl)
    clear hspl hBl hr3 hg3 hor3 hrow h2 hlt hlt0 bZ hsa hfa N2 bP
    go_wp2
    go_ret
    exact ⟨_, _, rfl, HR.out.1, by rw [splQ_grp, HPUT.out, HM.out]; rfl, HR.out.2⟩
  · have hin := hfi rfl
    have hinI : (i : Int) < (n : Int) := by omega
    have hrow := h1.row
    rw [← HN.out] at hrow
    obtain ⟨g, c', hv, hnc, hbg, hgw, hcm⟩ := rowG_form hrow (by omega)
    simp only [Value.slice.injEq, true_and] at hv
    obtain ⟨rfl, rfl⟩ := hv
    have p0 := bP.c 0 rfl
    have p1 := bP.c 1 rfl
    have p2 := bP.c 2 rfl
    obtain ⟨hth, -⟩ := row_thereG hrow
    obtain ⟨y0, e0⟩ := Option.isSome_iff_exists.1 (hth (i * 3) (by omega))
    obtain ⟨y1, e1⟩ := Option.isSome_iff_exists.1 (hth (i * 3 + 1) (by omega))
    obtain ⟨y2, e2⟩ := Option.isSome_iff_exists.1 (hth (i * 3 + 2) (by omega))
    have f0 := hrow.frozenAt (i * 3)
    have f1 := hrow.frozenAt (i * 3 + 1)
    have f2 := hrow.frozenAt (i * 3 + 2)
    have hst := (((hrow.stored (i * 3) (.int .i64 x.a)).1.stored (i * 3 + 1) (.int .i64 x.n)).1.stored (i * 3 + 2) (.slice ya x.h.length yc)).1
    rw [set3 hrow.1 hin] at hst
    have hgs := grown_trans (grown_trans (grown_set w1 g (i * 3) (.int .i64 x.a)) (grown_set _ g (i * 3 + 1) (.int .i64 x.n))) (grown_set _ g (i * 3 + 2) (.slice ya x.h.length yc))
    have hO := HPS.out.2.1
    have hspl : OwGs _ base (.slice (some ⟨g, 0, none⟩) n c) (splQ Q ⟨x, .slice ya x.h.length yc⟩ S i (i + 1)) := OwGs.spl (w1 := w1) HH.out hb (below_step B O1) (OwY.agr hO (.of_below O1)) (fun b q => ⟨(HPS.out.2.2 b q).1, by have := (HPS.out.2.2 b q).2; have := O1.size; omega⟩) (Nat.le_succ _)
      (by rw [splQ_flat, show (splQ Q ⟨x, .slice ya x.h.length yc⟩ S i (i + 1)).length = n by rw [splQ, List.length_append, List.length_take, List.length_cons, List.length_drop, ← HN.out]; omega]; exact hst) (by rw [← HN.out]; exact hgs) (.inl (by rw [← HN.out]))
    have hBl := below_trans3 (below_low3 O1 (by omega)) (below_own3 hrow (Nat.le_refl _) (by have := O1.size; omega) hgs)
    have HR := Lib.hid (And.intro hspl hBl)
    clear hspl hBl hst hgs hrow hth h1
    go_wp2
    go_ret
    exact ⟨_, _, rfl, HR.out.1, by rw [splQ_grp, HPUT.out, HM.out]; rfl, HR.out.2⟩
end Go.Proofs.Ytbcmoofpgffbhaa
