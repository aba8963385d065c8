/-
  The library's heap: Push and Pop on a queue of at most four shares. Conditions: those in each contract.
-/
import Derived.Test.YtbcmoofpgffbhaaQA
namespace Go.Proofs.Ytbcmoofpgffbhaa
open Go.ChangeShapes Go.WideShapes Go.ChangeAt Go.RowKit Go.BigFrame Go.Joins
set_option linter.unusedVariables false
set_option maxRecDepth 100000
set_option linter.unusedSimpArgs false
set_option maxRecDepth 100000

theorem PuSt.keep {w w' : World} {base G : Nat} {S : List (Int × Int)} (h : PuSt w base G S) (hb : Below w.heap.size w w') : PuSt w' base G S := by
  obtain ⟨h1, v, bG, hr⟩ := h
  exact ⟨h1, v, bG.keep hb, World.ownsRow.kept (row := none) hr ⟨hb.os, hb.tape, hb.output, hb.size, fun k hk _ => hb.block k hk⟩ (by cases v.ownBlock <;> simp)⟩
theorem PuSt.form {w : World} {base G : Nat} {S : List (Int × Int)} (h : PuSt w base G S) (hn : 0 < S.length) : ∃ g c, Bl w G [.slice (some ⟨g, 0, none⟩) S.length c] ∧ Bl w g ((flat S).map (Value.int .i64)) ∧ G ≠ g ∧ base ≤ g ∧ S.length ≤ c ∧ c ≤ 9223372036854775807 := by
  obtain ⟨h1, v, bG, hr⟩ := h
  have hr0 := hr
  rcases hr.2 with ⟨hv, hn0⟩ | ⟨g, cap, cur, rfl, hb, hg, hnc, hcm, rest⟩
  · omega
  · have hgl := (World.ownsRow.lt hr0 g rfl).2
    refine ⟨g, cap, bG, ⟨hgl, fun i x e => ?_, fun i hi => World.ownsRow.frozenAt hr0 i⟩, by omega, hb, hnc, by unfold maxLen at hcm; omega⟩
    have hil : i < ((flat S).map (Value.int .i64)).length := (List.getElem?_eq_some_iff.1 e).1
    exact (World.ownsRow.cellAt hr0 i (by rw [← hr0.1]; exact hil)).trans e
theorem sh_at {S : List (Int × Int)} {i : Nat} (h : i < S.length) : ((flat S).map (Value.int .i64))[i * 2]? = some (.int .i64 (S.getD i (0, 0)).1) ∧ ((flat S).map (Value.int .i64))[i * 2 + 1]? = some (.int .i64 (S.getD i (0, 0)).2) := by
  have f := flat_get S i h
  exact ⟨by rw [List.getElem?_map, f.1]; rfl, by rw [List.getElem?_map, f.2]; rfl⟩
theorem iup_any (base G j : Nat) (S : List (Int × Int)) (w : World) (h : PuSt w base G S) (hj : S.length = j + 1) (hn : S.length ≤ 4294967296) (hasc : ∀ i, i < j → ¬ (S.getD j (0, 0)).1 < (S.getD i (0, 0)).1) :
    Calls Try.prog 139 #[.iface QuP (.pointer (some ⟨G, 0, none⟩)), .int .i64 j] w fun e w' => e = .returned (.tuple #[]) ∧ Below w.heap.size w w' := by
  obtain ⟨g, c, bG, bQ, hne, -⟩ := h.form (by omega)
  have g0 := bG.c 0 rfl
  have ql := mLess g0
  clear h
  cases j with
  | zero =>
    clear bQ hasc
    go_enter Try.func139, Try.ntmps139
    go_wp2
    refine wp_loop_rounds 1 ?_
    rw [rounds_succ]
    go_wp2
    go_end0
    exact ⟨rfl, Below.refl _ _⟩
  | succ m =>
    obtain ⟨i, hi⟩ : ∃ i, i = m / 2 := ⟨_, rfl⟩
    obtain ⟨k, hk⟩ : ∃ k, k = m + 1 := ⟨_, rfl⟩
    rw [← hk] at hj hasc ⊢
    have hik : i < k := by omega
    have hlt := hasc i hik
    obtain ⟨x0, x1⟩ := sh_at (S := S) (i := i) (by omega)
    obtain ⟨y0, y1⟩ := sh_at (S := S) (i := k) (by omega)
    have c0 := bQ.c _ x0
    have c1 := bQ.c _ x1
    have c2 := bQ.c _ y0
    have c3 := bQ.c _ y1
    have HLT : Hid (decide ((S.getD k (0, 0)).1 < (S.getD i (0, 0)).1) = false) := Lib.hid (decide_eq_false hlt)
    have hw1 : IntKind.i64.wrap ((k : Int) - 1) = (m : Int) := by rw [show (k : Int) - 1 = (m : Int) by omega]; exact wrap64_in _ (by omega) (by omega)
    have hq : (m : Int).tdiv 2 = (i : Int) := by rw [Int.tdiv_eq_ediv_of_nonneg (by omega)]; omega
    have hw2 : IntKind.i64.wrap (i : Int) = (i : Int) := wrap64_in _ (by omega) (by omega)
    have hb1 : ((i : Int) == (k : Int)) = false := by simp; omega
    obtain ⟨n, hn'⟩ : ∃ n, n = S.length := ⟨_, rfl⟩
    rw [← hn'] at bG g0 ql hj hn
    have HNK := Lib.hid (And.intro hj hn)
    clear hasc hlt hi hk hn' hj hn bQ x0 x1 y0 y1
    go_enter Try.func139, Try.ntmps139
    go_wp2
    refine wp_loop_rounds 1 ?_
    rw [rounds_succ]
    go_wp2_with fail
    refine (iqless_t w HLT (by have := HNK.out; omega) (by have := HNK.out; omega) (by have := HNK.out; omega) c2 c3 c0 c1).mono ?_
    rintro e w1 ⟨rfl, hb⟩
    go_wp2
    go_end0
    exact ⟨rfl, hb⟩
theorem ihpush_any (base G : Nat) (S : List (Int × Int)) (x y : Int) (V w : World) (h : PuSt w base G S) (hl : S.length + 1 ≤ 4294967296) (hbw : base ≤ w.heap.size) (hV : Below V.heap.size V w) (hVG : V.heap.size ≤ G) (hasc : ∀ i, i < S.length → ¬ x < (S.getD i (0, 0)).1) :
    Calls Try.prog 81 #[.iface QuP (.pointer (some ⟨G, 0, none⟩)), .iface ShT (.agg #[.int .i64 x, .int .i64 y])] w fun e w' => e = .returned (.tuple #[]) ∧ PuSt w' base G (S ++ [(x, y)]) ∧ Below V.heap.size V w' ∧ (∀ B ys, Bl w B ys → B < base → B ≠ G → Bl w' B ys) ∧ w.heap.size ≤ w'.heap.size := by
  have qp := mPush
  go_enter Try.func81, Try.ntmps81
  go_wp2_with fail
  refine (iqpush_any base G S x y V w h hl hbw hV hVG).mono ?_
  rintro e w1 ⟨rfl, h1, hV1, ho1, hs1⟩
  obtain ⟨g, c, bG, -⟩ := h1.form (by simp)
  have g0 := bG.c 0 rfl
  have ql := mLen g0
  obtain ⟨n, hn⟩ : ∃ n, n = (S ++ [(x, y)]).length := ⟨_, rfl⟩
  rw [← hn] at g0 ql
  have hw1 : IntKind.i64.wrap ((n : Int) - 1) = ((S.length : Nat) : Int) := by rw [hn, List.length_append]; simp; exact wrap64_in _ (by omega) (by omega)
  have HU := Lib.hid (iup_any base G S.length (S ++ [(x, y)]) w1 h1 (by simp) (by simpa using hl) (fun i hi => by
    rw [show (S ++ [(x, y)]).getD S.length (0, 0) = (x, y) by simp [List.getD], show (S ++ [(x, y)]).getD i (0, 0) = S.getD i (0, 0) by simp [List.getD, List.getElem?_append_left hi]]
    have := hasc i hi
    dsimp only
    omega))
  have HH := Lib.hid (And.intro h1 (And.intro hV1 (And.intro ho1 hs1)))
  clear h h1 hV1 ho1 hs1 hn bG hasc hl hV hbw hVG
  go_wp2_with fail
  refine (iqlen_any _ n c w1).mono ?_
  rintro e w2 ⟨rfl, hw2⟩
  subst hw2
  go_wp2_with fail
  refine HU.out.mono ?_
  rintro e w3 ⟨rfl, hb⟩
  obtain ⟨h1, hV1, ho1, hs1⟩ := HH.out
  have HR := Lib.hid (And.intro (h1.keep hb) (And.intro (below_step hV1 hb) (And.intro (fun B ys (q : Bl w B ys) l1 l2 => (ho1 B ys q l1 l2).keep hb) (Nat.le_trans hs1 hb.size))))
  clear h1 hV1 ho1 hs1 hb g0 ql hw1
  go_wp2
  go_end0
  exact ⟨rfl, HR.out⟩
/-- only blocks G and g, and none below b0, have turned -/
def Fr (b0 G g : Nat) (w w' : World) : Prop := Below b0 w w' ∧ ∀ B ys, Bl w B ys → B ≠ G → B ≠ g → Bl w' B ys
theorem Fr.refl (b0 G g : Nat) (w : World) : Fr b0 G g w w := ⟨Below.refl _ _, fun _ _ h _ _ => h⟩
theorem Fr.trans {b0 G g : Nat} {a b c : World} (h : Fr b0 G g a b) (k : Fr b0 G g b c) : Fr b0 G g a c := ⟨Below.trans h.1 k.1, fun B ys q l m => k.2 B ys (h.2 B ys q l m) l m⟩
theorem Fr.of_below {b0 G g : Nat} {w w' : World} (h : Below w.heap.size w w') (hb : b0 ≤ w.heap.size) : Fr b0 G g w w' := ⟨⟨h.os, h.tape, h.output, h.size, fun i hi => h.block i (by omega)⟩, fun B ys q _ _ => q.keep h⟩
theorem Fr.of_grown {b0 G g : Nat} {w w' : World} (h : w.grownBy w' (some g)) (hb : b0 ≤ g) (hg : g ≤ w.heap.size) : Fr b0 G g w w' := ⟨⟨h.os, h.tape, h.output, h.size, fun i hi => h.block i (by omega) (by intro e; cases e; omega)⟩, fun B ys q _ l => q.grown h (fun e => l (by cases e; rfl))⟩
theorem Fr.of_grownG {b0 G g : Nat} {w w' : World} (h : w.grownBy w' (some G)) (hb : b0 ≤ G) (hg : G ≤ w.heap.size) : Fr b0 G g w w' := ⟨⟨h.os, h.tape, h.output, h.size, fun i hi => h.block i (by omega) (by intro e; cases e; omega)⟩, fun B ys q l _ => q.grown h (fun e => l (by cases e; rfl))⟩
theorem iqpop_any (b0 G g n c : Nat) (a p : Int) (xs : List Value) (w : World) (hn : 0 < n) (hnc : n ≤ c) (hcm : c ≤ 9223372036854775807) (bG : Bl w G [.slice (some ⟨g, 0, none⟩) n c]) (bQ : Bl w g xs) (hne : G ≠ g) (hbG : b0 ≤ G) (X0 : xs[(n - 1) * 2]? = some (.int .i64 a)) (X1 : xs[(n - 1) * 2 + 1]? = some (.int .i64 p)) :
    Calls Try.prog 229 #[.pointer (some ⟨G, 0, none⟩)] w fun e w' => e = .returned (.iface ShT (.agg #[.int .i64 a, .int .i64 p])) ∧ Bl w' G [.slice (some ⟨g, 0, none⟩) (n - 1) c] ∧ Bl w' g xs ∧ Fr b0 G g w w' := by
  obtain ⟨k, hk⟩ : ∃ k, k = n - 1 := ⟨_, rfl⟩
  rw [← hk] at X0 X1 ⊢
  have hw1 : IntKind.i64.wrap ((n : Int) - 1) = (k : Int) := by rw [show (n : Int) - 1 = (k : Int) by omega]; exact wrap64_in _ (by omega) (by omega)
  have hkI : (k : Int) < (n : Int) := by omega
  have hkn : k < n := by omega
  have hk0 : (0 : Int) ≤ (k : Int) := by omega
  have hkc : (k : Int) ≤ (c : Int) := by omega
  have hkc2 : k ≤ c := by omega
  have g0 := bG.c 0 rfl
  have f0 := bG.f 0 rfl
  have x0 := bQ.c _ X0
  have x1 := bQ.c _ X1
  have hGl := bG.lt
  obtain ⟨bN, N1, zN⟩ := one w [.int .i64 a, .int .i64 p] ShT
  have g1 := (bG.keep N1).c 0 rfl
  have f1 := (bG.keep N1).f 0 rfl
  have e0 := bN.c 0 rfl
  have e1 := bN.c 1 rfl
  have HNX := Lib.hid (And.intro N1 zN)
  have HB := Lib.hid (And.intro bG bQ)
  clear hk X0 X1 N1 zN hnc hcm
  go_enter Try.func229, Try.ntmps229
  go_wp2
  go_ret
  obtain ⟨N1, zN⟩ := HNX.out
  obtain ⟨bG, bQ⟩ := HB.out
  have N3 : Below (w.setCell ⟨G, 0, none⟩ (.slice (some ⟨g, 0, none⟩) k c)).heap.size (w.setCell ⟨G, 0, none⟩ (.slice (some ⟨g, 0, none⟩) k c)) ((w.setCell ⟨G, 0, none⟩ (.slice (some ⟨g, 0, none⟩) k c)).alloc (.cells #[.int .i64 a, .int .i64 p] ShT)) := (Below.refl _ _).alloc (Nat.le_refl _) _
  have hs9 : b0 ≤ (w.setCell ⟨G, 0, none⟩ (.slice (some ⟨g, 0, none⟩) k c)).heap.size := by have := bG.lt; simp; omega
  exact ⟨rfl, (bG.set 0 (.slice (some ⟨g, 0, none⟩) k c)).keep N3, (bQ.far hne.symm).keep N3, (Fr.of_grownG (grown_set w G 0 (.slice (some ⟨g, 0, none⟩) k c)) hbG (Nat.le_of_lt bG.lt)).trans (Fr.of_below N3 hs9)⟩
theorem idown_0 (G n : Nat) (w : World) (hn : n ≤ 1) : Calls Try.prog 140 #[.iface QuP (.pointer (some ⟨G, 0, none⟩)), .int .i64 0, .int .i64 n] w fun e w' => e = .returned (.bool false) ∧ w' = w := by
  have h1 : (1 : Int) ≥ (n : Int) := by omega
  go_enter Try.func140, Try.ntmps140
  go_wp2
  refine wp_loop_rounds 1 ?_
  rw [rounds_succ]
  go_wp2
  go_ret
  exact ⟨rfl, rfl⟩
theorem idown_2t (b0 G g c : Nat) (a0 p0 a1 p1 a2 p2 : Int) (zs : List Value) (w : World) (bG : Bl w G [.slice (some ⟨g, 0, none⟩) 3 c]) (bQ : Bl w g (.int .i64 a0 :: .int .i64 p0 :: .int .i64 a1 :: .int .i64 p1 :: .int .i64 a2 :: .int .i64 p2 :: zs)) (hne : G ≠ g) (hbg : b0 ≤ g) (h10 : a1 < a0) :
    Calls Try.prog 140 #[.iface QuP (.pointer (some ⟨G, 0, none⟩)), .int .i64 0, .int .i64 2] w fun e w' => e = .returned (.bool true) ∧ Bl w' g (.int .i64 a1 :: .int .i64 p1 :: .int .i64 a0 :: .int .i64 p0 :: .int .i64 a2 :: .int .i64 p2 :: zs) ∧ Bl w' G [.slice (some ⟨g, 0, none⟩) 3 c] ∧ Fr b0 G g w w' := by
  have H10 : Hid (decide (a1 < a0) = true) := Lib.hid (decide_eq_true h10)
  have HL := Lib.hid (And.intro bG.lt bQ.lt)
  clear h10
  have g0 := bG.c 0 rfl
  have ql := mLess g0
  go_enter Try.func140, Try.ntmps140
  go_wp2
  refine wp_loop_rounds 2 ?_
  rw [rounds_succ]
  go_wp2_with fail
  refine (iqless_t (i := 1) (j := 0) w H10 (by decide) (by decide) (by decide) (bQ.c 2 rfl) (bQ.c 3 rfl) (bQ.c 0 rfl) (bQ.c 1 rfl)).mono ?_
  rintro e w1 ⟨rfl, hb⟩
  have F1 : Fr b0 G g w w1 := .of_below hb (by have := bQ.lt; omega)
  replace bG := bG.keep hb
  replace bQ := bQ.keep hb
  clear hb g0 ql
  have g0 := bG.c 0 rfl
  have ql := mLess g0
  have FF := F1
  clear F1
  clear ql
  have ql := mSwap g0
  have HF := Lib.hid FF
  clear FF
  go_wp2_with fail
  refine (iqswap_any g 3 c 0 1 a0 p0 a1 p1 _ w1 (by decide) (by decide) (by decide) bQ rfl rfl rfl rfl).mono ?_
  rintro e ws ⟨rfl, bS, hg⟩
  have bG2 := bG.grown hg (by intro e; cases e; exact hne rfl)
  have FE := Lib.hid (HF.out.trans (.of_grown hg hbg (Nat.le_of_lt bQ.lt)))
  have BS := Lib.hid bS
  have BG2 := Lib.hid bG2
  clear bS bG2 hg bG bQ g0 ql
  go_wp2
  rw [rounds_succ]
  go_wp2
  go_ret
  exact ⟨rfl, BS.out, BG2.out, FE.out⟩
theorem idown_2f (b0 G g c : Nat) (a0 p0 a1 p1 a2 p2 : Int) (zs : List Value) (w : World) (bG : Bl w G [.slice (some ⟨g, 0, none⟩) 3 c]) (bQ : Bl w g (.int .i64 a0 :: .int .i64 p0 :: .int .i64 a1 :: .int .i64 p1 :: .int .i64 a2 :: .int .i64 p2 :: zs)) (hne : G ≠ g) (hbg : b0 ≤ g) (h10 : ¬ a1 < a0) :
    Calls Try.prog 140 #[.iface QuP (.pointer (some ⟨G, 0, none⟩)), .int .i64 0, .int .i64 2] w fun e w' => e = .returned (.bool false) ∧ Bl w' g (.int .i64 a0 :: .int .i64 p0 :: .int .i64 a1 :: .int .i64 p1 :: .int .i64 a2 :: .int .i64 p2 :: zs) ∧ Bl w' G [.slice (some ⟨g, 0, none⟩) 3 c] ∧ Fr b0 G g w w' := by
  have H10 : Hid (decide (a1 < a0) = false) := Lib.hid (decide_eq_false h10)
  have HL := Lib.hid (And.intro bG.lt bQ.lt)
  clear h10
  have g0 := bG.c 0 rfl
  have ql := mLess g0
  go_enter Try.func140, Try.ntmps140
  go_wp2
  refine wp_loop_rounds 1 ?_
  rw [rounds_succ]
  go_wp2_with fail
  refine (iqless_t (i := 1) (j := 0) w H10 (by decide) (by decide) (by decide) (bQ.c 2 rfl) (bQ.c 3 rfl) (bQ.c 0 rfl) (bQ.c 1 rfl)).mono ?_
  rintro e w1 ⟨rfl, hb⟩
  have F1 : Fr b0 G g w w1 := .of_below hb (by have := bQ.lt; omega)
  replace bG := bG.keep hb
  replace bQ := bQ.keep hb
  clear hb g0 ql
  have g0 := bG.c 0 rfl
  have ql := mLess g0
  have FF := F1
  clear F1
  have FE := Lib.hid FF
  have BS := Lib.hid bQ
  have BG2 := Lib.hid bG
  clear FF bG bQ g0 ql
  go_wp2
  go_ret
  exact ⟨rfl, BS.out, BG2.out, FE.out⟩
theorem idown_3t (b0 G g c : Nat) (a0 p0 a1 p1 a2 p2 a3 p3 : Int) (zs : List Value) (w : World) (bG : Bl w G [.slice (some ⟨g, 0, none⟩) 4 c]) (bQ : Bl w g (.int .i64 a0 :: .int .i64 p0 :: .int .i64 a1 :: .int .i64 p1 :: .int .i64 a2 :: .int .i64 p2 :: .int .i64 a3 :: .int .i64 p3 :: zs)) (hne : G ≠ g) (hbg : b0 ≤ g) (h21 : ¬ a2 < a1) (h10 : a1 < a0) :
    Calls Try.prog 140 #[.iface QuP (.pointer (some ⟨G, 0, none⟩)), .int .i64 0, .int .i64 3] w fun e w' => e = .returned (.bool true) ∧ Bl w' g (.int .i64 a1 :: .int .i64 p1 :: .int .i64 a0 :: .int .i64 p0 :: .int .i64 a2 :: .int .i64 p2 :: .int .i64 a3 :: .int .i64 p3 :: zs) ∧ Bl w' G [.slice (some ⟨g, 0, none⟩) 4 c] ∧ Fr b0 G g w w' := by
  have H21 : Hid (decide (a2 < a1) = false) := Lib.hid (decide_eq_false h21)
  have H10 : Hid (decide (a1 < a0) = true) := Lib.hid (decide_eq_true h10)
  have HL := Lib.hid (And.intro bG.lt bQ.lt)
  clear h21 h10
  have g0 := bG.c 0 rfl
  have ql := mLess g0
  go_enter Try.func140, Try.ntmps140
  go_wp2
  refine wp_loop_rounds 2 ?_
  rw [rounds_succ]
  go_wp2_with fail
  refine (iqless_t (i := 2) (j := 1) w H21 (by decide) (by decide) (by decide) (bQ.c 4 rfl) (bQ.c 5 rfl) (bQ.c 2 rfl) (bQ.c 3 rfl)).mono ?_
  rintro e w1 ⟨rfl, hb⟩
  have F1 : Fr b0 G g w w1 := .of_below hb (by have := bQ.lt; omega)
  replace bG := bG.keep hb
  replace bQ := bQ.keep hb
  clear hb g0 ql
  have g0 := bG.c 0 rfl
  have ql := mLess g0
  have FF := F1
  clear F1
  go_wp2_with fail
  refine (iqless_t (i := 1) (j := 0) w1 H10 (by decide) (by decide) (by decide) (bQ.c 2 rfl) (bQ.c 3 rfl) (bQ.c 0 rfl) (bQ.c 1 rfl)).mono ?_
  rintro e w2 ⟨rfl, hb⟩
  have F2 : Fr b0 G g w1 w2 := .of_below hb (by have := bQ.lt; omega)
  replace bG := bG.keep hb
  replace bQ := bQ.keep hb
  clear hb g0 ql
  have g0 := bG.c 0 rfl
  have ql := mLess g0
  replace FF := FF.trans F2
  clear F2
  clear ql
  have ql := mSwap g0
  have HF := Lib.hid FF
  clear FF
  go_wp2_with fail
  refine (iqswap_any g 4 c 0 1 a0 p0 a1 p1 _ w2 (by decide) (by decide) (by decide) bQ rfl rfl rfl rfl).mono ?_
  rintro e ws ⟨rfl, bS, hg⟩
  have bG2 := bG.grown hg (by intro e; cases e; exact hne rfl)
  have FE := Lib.hid (HF.out.trans (.of_grown hg hbg (Nat.le_of_lt bQ.lt)))
  have BS := Lib.hid bS
  have BG2 := Lib.hid bG2
  clear bS bG2 hg bG bQ g0 ql
  go_wp2
  rw [rounds_succ]
  go_wp2
  go_ret
  exact ⟨rfl, BS.out, BG2.out, FE.out⟩
theorem ihpop_2 (b0 G g c : Nat) (a0 p0 a1 p1 : Int) (zs : List Value) (w : World) (hnc : 2 ≤ c) (hcm : c ≤ 9223372036854775807) (bG : Bl w G [.slice (some ⟨g, 0, none⟩) 2 c]) (bQ : Bl w g (.int .i64 a0 :: .int .i64 p0 :: .int .i64 a1 :: .int .i64 p1 :: zs)) (hne : G ≠ g) (hbG : b0 ≤ G) (hbg : b0 ≤ g)  :
    Calls Try.prog 82 #[.iface QuP (.pointer (some ⟨G, 0, none⟩))] w fun e w' => (∃ v, e = .returned (.iface ShT v)) ∧ Bl w' g (.int .i64 a1 :: .int .i64 p1 :: .int .i64 a0 :: .int .i64 p0 :: zs) ∧ Bl w' G [.slice (some ⟨g, 0, none⟩) 1 c] ∧ Fr b0 G g w w' := by
  have qp := mPop
  have g0 := bG.c 0 rfl
  have ql := mLen g0
  go_enter Try.func82, Try.ntmps82
  go_wp2_with fail
  refine (iqlen_any _ 2 c w).mono ?_
  rintro e w1 ⟨rfl, hw1⟩
  subst hw1
  clear ql
  have ql := mSwap g0
  go_wp2_with fail
  refine (iqswap_any g 2 c 0 1 a0 p0 a1 p1 _ w1 (by decide) (by decide) (by decide) bQ rfl rfl rfl rfl).mono ?_
  rintro e w2 ⟨rfl, bS, hg⟩
  have F1 : Fr b0 G g w1 w2 := .of_grown hg hbg (Nat.le_of_lt bQ.lt)
  have bG2 := bG.grown hg (by intro e; cases e; exact hne rfl)
  clear bQ bG hg g0 ql
  have bQ : Bl w2 g (.int .i64 a1 :: .int .i64 p1 :: .int .i64 a0 :: .int .i64 p0 :: zs) := bS
  have bG := bG2
  clear bS bG2
  go_wp2_with fail
  refine (idown_0 G 1 w2 (by decide)).mono ?_
  rintro e w3 ⟨rfl, hw3⟩
  subst hw3
  have F2 := F1
  clear F1
  have HF := Lib.hid F2
  clear F2
  go_wp2_with fail
  refine (iqpop_any b0 G g 2 c _ _ _ w3 (by decide) hnc hcm bG bQ hne hbG rfl rfl).mono ?_
  rintro e w4 ⟨rfl, bG3, bQ3, F3⟩
  have HE := Lib.hid (And.intro bQ3 (And.intro bG3 (HF.out.trans F3)))
  clear bG3 bQ3 F3 bG bQ
  go_wp2
  go_ret
  exact ⟨⟨_, rfl⟩, HE.out⟩
theorem ihpop_3t (b0 G g c : Nat) (a0 p0 a1 p1 a2 p2 : Int) (zs : List Value) (w : World) (hnc : 3 ≤ c) (hcm : c ≤ 9223372036854775807) (bG : Bl w G [.slice (some ⟨g, 0, none⟩) 3 c]) (bQ : Bl w g (.int .i64 a0 :: .int .i64 p0 :: .int .i64 a1 :: .int .i64 p1 :: .int .i64 a2 :: .int .i64 p2 :: zs)) (hne : G ≠ g) (hbG : b0 ≤ G) (hbg : b0 ≤ g) (h : a1 < a2) :
    Calls Try.prog 82 #[.iface QuP (.pointer (some ⟨G, 0, none⟩))] w fun e w' => (∃ v, e = .returned (.iface ShT v)) ∧ Bl w' g (.int .i64 a1 :: .int .i64 p1 :: .int .i64 a2 :: .int .i64 p2 :: .int .i64 a0 :: .int .i64 p0 :: zs) ∧ Bl w' G [.slice (some ⟨g, 0, none⟩) 2 c] ∧ Fr b0 G g w w' := by
  have qp := mPop
  have g0 := bG.c 0 rfl
  have ql := mLen g0
  go_enter Try.func82, Try.ntmps82
  go_wp2_with fail
  refine (iqlen_any _ 3 c w).mono ?_
  rintro e w1 ⟨rfl, hw1⟩
  subst hw1
  clear ql
  have ql := mSwap g0
  go_wp2_with fail
  refine (iqswap_any g 3 c 0 2 a0 p0 a2 p2 _ w1 (by decide) (by decide) (by decide) bQ rfl rfl rfl rfl).mono ?_
  rintro e w2 ⟨rfl, bS, hg⟩
  have F1 : Fr b0 G g w1 w2 := .of_grown hg hbg (Nat.le_of_lt bQ.lt)
  have bG2 := bG.grown hg (by intro e; cases e; exact hne rfl)
  clear bQ bG hg g0 ql
  have bQ : Bl w2 g (.int .i64 a2 :: .int .i64 p2 :: .int .i64 a1 :: .int .i64 p1 :: .int .i64 a0 :: .int .i64 p0 :: zs) := bS
  have bG := bG2
  clear bS bG2
  go_wp2_with fail
  refine (idown_2t b0 G g c a2 p2 a1 p1 a0 p0 zs w2 bG bQ hne hbg (by omega)).mono ?_
  rintro e w3 ⟨rfl, bS, bG2, FF⟩
  have F2 := F1.trans FF
  clear bQ bG FF
  have bQ := bS
  have bG := bG2
  clear bS bG2
  clear F1
  have HF := Lib.hid F2
  clear F2
  go_wp2_with fail
  refine (iqpop_any b0 G g 3 c _ _ _ w3 (by decide) hnc hcm bG bQ hne hbG rfl rfl).mono ?_
  rintro e w4 ⟨rfl, bG3, bQ3, F3⟩
  have HE := Lib.hid (And.intro bQ3 (And.intro bG3 (HF.out.trans F3)))
  clear bG3 bQ3 F3 bG bQ
  go_wp2
  go_ret
  exact ⟨⟨_, rfl⟩, HE.out⟩
theorem ihpop_3f (b0 G g c : Nat) (a0 p0 a1 p1 a2 p2 : Int) (zs : List Value) (w : World) (hnc : 3 ≤ c) (hcm : c ≤ 9223372036854775807) (bG : Bl w G [.slice (some ⟨g, 0, none⟩) 3 c]) (bQ : Bl w g (.int .i64 a0 :: .int .i64 p0 :: .int .i64 a1 :: .int .i64 p1 :: .int .i64 a2 :: .int .i64 p2 :: zs)) (hne : G ≠ g) (hbG : b0 ≤ G) (hbg : b0 ≤ g) (h : ¬ a1 < a2) :
    Calls Try.prog 82 #[.iface QuP (.pointer (some ⟨G, 0, none⟩))] w fun e w' => (∃ v, e = .returned (.iface ShT v)) ∧ Bl w' g (.int .i64 a2 :: .int .i64 p2 :: .int .i64 a1 :: .int .i64 p1 :: .int .i64 a0 :: .int .i64 p0 :: zs) ∧ Bl w' G [.slice (some ⟨g, 0, none⟩) 2 c] ∧ Fr b0 G g w w' := by
  have qp := mPop
  have g0 := bG.c 0 rfl
  have ql := mLen g0
  go_enter Try.func82, Try.ntmps82
  go_wp2_with fail
  refine (iqlen_any _ 3 c w).mono ?_
  rintro e w1 ⟨rfl, hw1⟩
  subst hw1
  clear ql
  have ql := mSwap g0
  go_wp2_with fail
  refine (iqswap_any g 3 c 0 2 a0 p0 a2 p2 _ w1 (by decide) (by decide) (by decide) bQ rfl rfl rfl rfl).mono ?_
  rintro e w2 ⟨rfl, bS, hg⟩
  have F1 : Fr b0 G g w1 w2 := .of_grown hg hbg (Nat.le_of_lt bQ.lt)
  have bG2 := bG.grown hg (by intro e; cases e; exact hne rfl)
  clear bQ bG hg g0 ql
  have bQ : Bl w2 g (.int .i64 a2 :: .int .i64 p2 :: .int .i64 a1 :: .int .i64 p1 :: .int .i64 a0 :: .int .i64 p0 :: zs) := bS
  have bG := bG2
  clear bS bG2
  go_wp2_with fail
  refine (idown_2f b0 G g c a2 p2 a1 p1 a0 p0 zs w2 bG bQ hne hbg (by omega)).mono ?_
  rintro e w3 ⟨rfl, bS, bG2, FF⟩
  have F2 := F1.trans FF
  clear bQ bG FF
  have bQ := bS
  have bG := bG2
  clear bS bG2
  clear F1
  have HF := Lib.hid F2
  clear F2
  go_wp2_with fail
  refine (iqpop_any b0 G g 3 c _ _ _ w3 (by decide) hnc hcm bG bQ hne hbG rfl rfl).mono ?_
  rintro e w4 ⟨rfl, bG3, bQ3, F3⟩
  have HE := Lib.hid (And.intro bQ3 (And.intro bG3 (HF.out.trans F3)))
  clear bG3 bQ3 F3 bG bQ
  go_wp2
  go_ret
  exact ⟨⟨_, rfl⟩, HE.out⟩
theorem ihpop_4 (b0 G g c : Nat) (a0 p0 a1 p1 a2 p2 a3 p3 : Int) (zs : List Value) (w : World) (hnc : 4 ≤ c) (hcm : c ≤ 9223372036854775807) (bG : Bl w G [.slice (some ⟨g, 0, none⟩) 4 c]) (bQ : Bl w g (.int .i64 a0 :: .int .i64 p0 :: .int .i64 a1 :: .int .i64 p1 :: .int .i64 a2 :: .int .i64 p2 :: .int .i64 a3 :: .int .i64 p3 :: zs)) (hne : G ≠ g) (hbG : b0 ≤ G) (hbg : b0 ≤ g) (h : ¬ a2 < a1) (k : a1 < a3) :
    Calls Try.prog 82 #[.iface QuP (.pointer (some ⟨G, 0, none⟩))] w fun e w' => (∃ v, e = .returned (.iface ShT v)) ∧ Bl w' g (.int .i64 a1 :: .int .i64 p1 :: .int .i64 a3 :: .int .i64 p3 :: .int .i64 a2 :: .int .i64 p2 :: .int .i64 a0 :: .int .i64 p0 :: zs) ∧ Bl w' G [.slice (some ⟨g, 0, none⟩) 3 c] ∧ Fr b0 G g w w' := by
  have qp := mPop
  have g0 := bG.c 0 rfl
  have ql := mLen g0
  go_enter Try.func82, Try.ntmps82
  go_wp2_with fail
  refine (iqlen_any _ 4 c w).mono ?_
  rintro e w1 ⟨rfl, hw1⟩
  subst hw1
  clear ql
  have ql := mSwap g0
  go_wp2_with fail
  refine (iqswap_any g 4 c 0 3 a0 p0 a3 p3 _ w1 (by decide) (by decide) (by decide) bQ rfl rfl rfl rfl).mono ?_
  rintro e w2 ⟨rfl, bS, hg⟩
  have F1 : Fr b0 G g w1 w2 := .of_grown hg hbg (Nat.le_of_lt bQ.lt)
  have bG2 := bG.grown hg (by intro e; cases e; exact hne rfl)
  clear bQ bG hg g0 ql
  have bQ : Bl w2 g (.int .i64 a3 :: .int .i64 p3 :: .int .i64 a1 :: .int .i64 p1 :: .int .i64 a2 :: .int .i64 p2 :: .int .i64 a0 :: .int .i64 p0 :: zs) := bS
  have bG := bG2
  clear bS bG2
  go_wp2_with fail
  refine (idown_3t b0 G g c a3 p3 a1 p1 a2 p2 a0 p0 zs w2 bG bQ hne hbg (by omega) (by omega)).mono ?_
  rintro e w3 ⟨rfl, bS, bG2, FF⟩
  have F2 := F1.trans FF
  clear bQ bG FF
  have bQ := bS
  have bG := bG2
  clear bS bG2
  clear F1
  have HF := Lib.hid F2
  clear F2
  go_wp2_with fail
  refine (iqpop_any b0 G g 4 c _ _ _ w3 (by decide) hnc hcm bG bQ hne hbG rfl rfl).mono ?_
  rintro e w4 ⟨rfl, bG3, bQ3, F3⟩
  have HE := Lib.hid (And.intro bQ3 (And.intro bG3 (HF.out.trans F3)))
  clear bG3 bQ3 F3 bG bQ
  go_wp2
  go_ret
  exact ⟨⟨_, rfl⟩, HE.out⟩
end Go.Proofs.Ytbcmoofpgffbhaa
