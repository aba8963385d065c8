/-
  The text of attributes, as the program writes it. Condition: the library's table of powers of ten reads as it is laid.
-/
import Derived.Test.YtcmbajphholliabDoorJ1
import Derived.Test.YtcmbajphholliabDoorB4
import Derived.Test.YtcmbajphholliabDoorT3
import Derived.Test.YtcmbajphholliabDoorI8
import Derived.Test.YtcmbajphholliabDoorShelf
import Derived.Deep.RegionHeld3
namespace Go.Proofs.YtcmbajphholliabDoor
open Go.ChangeShapes Go.WideShapes Go.ChangeAt Go.RowKit Go.BigFrame
set_option linter.unusedVariables false
set_option maxRecDepth 100000
set_option linter.unusedSimpArgs false

def prefS : ByteArray := ⟨#[112, 114, 101, 102]⟩
def bwS : ByteArray := ⟨#[98, 119]⟩
def pathS : ByteArray := ⟨#[112, 97, 116, 104]⟩
def marksS : ByteArray := ⟨#[109, 97, 114, 107, 115]⟩
def wordsL (p : List Int) (pr : Int) (c : List Int) (bw : Int) : List ByteArray := [prefS, numS pr, bwS, numS bw, pathS] ++ p.map numS ++ (if c = [] then [] else marksS :: c.map numS)
/-- numbers behind spaces -/
def spaced (l : List Int) : List Int := (l.map fun x => 32 :: dgI x).flatten
/-- the text of valid attributes -/
def atxt (p : List Int) (pr : Int) (c : List Int) (bw : Int) : List Int :=
  [112, 114, 101, 102, 32] ++ dgI pr ++ [32, 98, 119, 32] ++ dgI bw ++ [32, 112, 97, 116, 104] ++ spaced p ++ (if c = [] then [] else [32, 109, 97, 114, 107, 115] ++ spaced c)
def atextL (p : List Int) (pr : Int) (c : List Int) (bw : Int) : List Int := if aokB p pr c bw = true then atxt p pr c bw else []
theorem dgI_len5 (n : Int) (h0 : 0 ≤ n) (h1 : n < 100000) : (dgI n).length ≤ 5 := by
  by_cases c1 : n < 10
  · rw [dgI_small h0 c1]; simp
  · rw [dgI_big h0 c1]
    by_cases c2 : n < 100
    · rw [dgI_small (by omega) (by omega : n / 10 < 10)]; simp
    · rw [dgI_big (by omega) (by omega : ¬ n / 10 < 10)]
      have := dg_len (n / 10 / 10).toNat (by omega)
      simp [dgI] at this ⊢
      omega
theorem spaced_len (l : List Int) (h : ∀ x ∈ l, 0 ≤ x ∧ x ≤ 65535) : (spaced l).length ≤ 6 * l.length := by
  induction l with
  | nil => simp [spaced]
  | cons x l ih =>
    have q := ih (fun y hy => h y (by simp [hy]))
    have r := dgI_len5 x (h x (by simp)).1 (by have := (h x (by simp)).2; omega)
    have e : spaced (x :: l) = (32 :: dgI x) ++ spaced l := by simp [spaced]
    rw [e]
    simp at r ⊢
    omega
theorem nums_mem {l : List Int} (h : numsB l = true) : ∀ x ∈ l, 0 ≤ x ∧ x ≤ 65535 := by
  intro x hx
  obtain ⟨i, hi, rfl⟩ := List.getElem_of_mem hx
  have := of_decide_eq_true h i hi
  rw [show l.getD i 0 = l[i] by simp [List.getD, hi]] at this
  unfold asB inB at this
  have := of_decide_eq_true this
  omega
theorem aok_bw {p c : List Int} {pr bw : Int} (h : aokB p pr c bw = true) : (0 ≤ pr ∧ pr ≤ 1000) ∧ 0 ≤ bw ∧ bw ≤ 1000 := by
  unfold aokB inB at h
  simp only [Bool.and_eq_true, decide_eq_true_eq] at h
  exact ⟨h.1.1.1.2, h.1.1.2⟩
theorem atxt_len {p c : List Int} {pr bw : Int} (h : aokB p pr c bw = true) : (atxt p pr c bw).length ≤ 200 := by
  obtain ⟨h1, h2, -, h3, h4⟩ := aok_p h
  obtain ⟨h5, h6⟩ := aok_bw h
  have q1 := spaced_len p (nums_mem h3)
  have q2 := spaced_len c (nums_mem h4)
  have q3 := dgI_len5 pr h5.1 (by omega)
  have q4 := dgI_len5 bw h6.1 (by omega)
  unfold atxt
  split <;> simp only [List.length_append, List.length_cons, List.length_nil] <;> omega
theorem sb_data (s : ByteArray) : sb s = s.data.toList.map fun b => (b.toNat : Int) := rfl
theorem numS_list (n : Int) : ((numS n).data.toList.map fun b => (b.toNat : Int)) = dgI n := by simp [numS, dgI, dg]
theorem joinTail_nums (l : List Int) : ((Lib.joinTail [32] ((l.map numS).map (·.data.toList))).map fun b => (b.toNat : Int)) = spaced l := by
  induction l with
  | nil => rfl
  | cons x l ih =>
    simp only [Lib.joinTail, List.map_cons, List.flatten_cons, List.map_append] at ih ⊢
    rw [ih, numS_list]
    simp [spaced]
theorem joinTail_app (sep : List UInt8) (a b : List (List UInt8)) : Lib.joinTail sep (a ++ b) = Lib.joinTail sep a ++ Lib.joinTail sep b := by simp [Lib.joinTail]
theorem join_words (p : List Int) (pr : Int) (c : List Int) (bw : Int) : sb ⟨(Lib.join ((wordsL p pr c bw).map (·.data.toList)) [32]).toArray⟩ = atxt p pr c bw := by
  rw [sb_data]
  show (Lib.join ((wordsL p pr c bw).map (·.data.toList)) [32]).map (fun b => (b.toNat : Int)) = _
  have e : wordsL p pr c bw = prefS :: ([numS pr, bwS, numS bw, pathS] ++ (p.map numS ++ (if c = [] then [] else [marksS] ++ c.map numS))) := by
    unfold wordsL; split <;> simp
  have f (a b c d : ByteArray) : (Lib.joinTail [32] ([a, b, c, d].map (·.data.toList))).map (fun b => (b.toNat : Int)) = 32 :: (sb a ++ 32 :: (sb b ++ 32 :: (sb c ++ 32 :: sb d))) := by simp [Lib.joinTail, sb]
  have g (a : ByteArray) : (Lib.joinTail [32] ([a].map (·.data.toList))).map (fun b => (b.toNat : Int)) = 32 :: sb a := by simp [Lib.joinTail, sb]
  rw [e, List.map_cons, Lib.join_cons, List.map_append, List.map_append, List.map_append, joinTail_app, joinTail_app, List.map_append, List.map_append, f, joinTail_nums]
  unfold atxt
  by_cases hc : c = []
  · subst hc
    simp only [if_true, List.map_nil, List.append_nil]
    rw [show sb (numS pr) = dgI pr from numS_list pr, show sb (numS bw) = dgI bw from numS_list bw]
    simp [prefS, bwS, pathS, sb, Lib.joinTail]
  · rw [if_neg hc, if_neg hc, List.map_append, joinTail_app, List.map_append, g, joinTail_nums]
    rw [show sb (numS pr) = dgI pr from numS_list pr, show sb (numS bw) = dgI bw from numS_list bw]
    simp [prefS, bwS, pathS, marksS, sb]
theorem join_len (p : List Int) (pr : Int) (c : List Int) (bw : Int) : (Lib.join ((wordsL p pr c bw).map (·.data.toList)) [32]).length = (atxt p pr c bw).length := by
  rw [← join_words, sb_data, List.length_map]
theorem sjoin_any (g cap : Nat) (p : List Int) (pr : Int) (c : List Int) (bw : Int) (w : World) (hcs : ∀ (j : Nat) x, (wordsL p pr c bw)[j]? = some x → w.cell? ⟨g, 0 + j, none⟩ = some (.string x)) (hg : g < w.heap.size) (hcap : (wordsL p pr c bw).length ≤ cap)
    (hlen : (atxt p pr c bw).length ≤ 200) (hp : p.length ≤ 8) (hc : c.length ≤ 4) :
    Calls Tryd.prog 59 #[.slice (some ⟨g, 0, none⟩) (wordsL p pr c bw).length cap, .string ⟨#[32]⟩] w fun e w' => ∃ s : ByteArray, e = .returned (.string s) ∧ sb s = atxt p pr c bw ∧ s.size = (atxt p pr c bw).length ∧ Below w.heap.size w w' := by
  have hjl := join_len p pr c bw
  refine (Tryd.strings_Join g 0 cap (wordsL p pr c bw) ⟨#[32]⟩ w hcs hg (by unfold wordsL; split <;> simp <;> omega) hcap (by show (Lib.join ((wordsL p pr c bw).map (·.data.toList)) [32]).length ≤ _; rw [hjl]; omega)).mono ?_
  rintro e w' ⟨rfl, hb⟩
  refine ⟨_, rfl, join_words p pr c bw, ?_, hb⟩
  rw [← hjl]; rfl
/-- append inside a region: s is the call's own, the strings ms lie at ad -/
theorem step_appS {ops : Array Oper} {o : Oper} {a : Act} {K : Act → World → Prop} {Q : Exit → Act → World → Prop} {E : Prop} {w : World} (hgd : o.guard = none) (s x : Operand)
    (ho : o.op = .call { callee := .builtin .append, args := #[s, x], argTypes := #[92, 92] })
    (base : Nat) (v : Value) (xs ms : List ByteArray) (ad : Addr) (c : Nat) (hs : a.eval s = v) (hx : a.eval x = .slice (some ad) ms.length c) (hown : OwnS w base v xs) (hc : ∀ j y, (ms.map Value.string)[j]? = some y → w.cell? (ad.add j) = some y)
    (hlen : xs.length + ms.length ≤ 4294967296) (hbase : base ≤ w.heap.size)
    (h : ∀ v' w', OwnS w' base v' (xs ++ ms) → w.grownBy w' v.ownBlock → K (a.put o.dst v') w') : if Region.wanted o (yielded ops a.tmps) = true then Oper.wp Tryd.prog o a w K Q else E := by
  have hw : Region.wanted o (yielded ops a.tmps) = true := by simp [Region.wanted, hgd]
  rw [if_pos hw]
  obtain ⟨i0, hi, hz0, hz1, hz2⟩ := info_parts infoS
  refine wp_append_own w s x 92 ho base ST i0 (.string ⟨#[]⟩) 1 16 Tryd.underlying92 hi hz0 hz1 hz2 rfl (by decide) v xs.length (xs.map Value.string) hs hown ad ms.length c (ms.map Value.string) hx (by simp) hc (by simp [Value.oneCell']) (by unfold maxLen; omega) (by omega) hbase ?_
  intro v' w' ho' hg' _
  refine h v' w' ?_ hg'
  unfold OwnS
  rw [List.length_append, List.map_append]
  exact ho'
theorem lit1_at (w : World) (s : ByteArray) (g : Nat) (hg : g = w.heap.size) : ∀ j y, ([s].map Value.string)[j]? = some y → (w.alloc (.cells #[.string s] ST)).cell? ((⟨g, 0, none⟩ : Addr).add j) = some y := by
  subst hg
  intro j y hy
  match j, hy with
  | 0, hy => simp at hy; subst hy; simp [Addr.add]
theorem heldU {V w : World} {A : Nat} {u : Value} (lt : A < V.heap.size) (c2 : V.cell? ⟨A, 2, none⟩ = some u) (h : Over V w) :
    Over V w ∧ w.cell? ⟨A, 2, none⟩ = some u := ⟨h, over_cell h lt c2⟩
theorem OwnS.lit {base : Nat} (w : World) (cs : Array Value) (xs : List ByteArray) (hb : base ≤ w.heap.size) (hm : xs.length ≤ maxLen) (h : cs.toList = xs.map Value.string) :
    OwnS (w.alloc (.cells cs ST)) base (.slice (some ⟨w.heap.size, 0, none⟩) xs.length xs.length) xs := by
  have hs : cs.size = xs.length * 1 := by rw [← Array.length_toList, h]; simp
  have := World.ownsRow_lit (e := ST) (size := 1) w cs xs.length hb hm hs
  rw [h] at this
  exact this
theorem OwnS.cells {w : World} {base : Nat} {v : Value} {xs : List ByteArray} (h : OwnS w base v xs) (hp : 0 < xs.length) :
    ∃ g cap, v = .slice (some ⟨g, 0, none⟩) xs.length cap ∧ g < w.heap.size ∧ xs.length ≤ cap ∧ ∀ (j : Nat) x, xs[j]? = some x → w.cell? ⟨g, 0 + j, none⟩ = some (.string x) := by
  have hl := World.ownsRow.lt h
  have hcell := fun g => World.ownsRow.cells (g := g) h
  rcases h.2 with ⟨rfl, h0⟩ | ⟨g, cap, cur, rfl, hb, hg, hn, hm, hs, ht⟩
  · omega
  · refine ⟨g, cap, rfl, (hl g rfl).2, hn, fun j x hx => ?_⟩
    have := hcell g rfl j (.string x) (by rw [List.getElem?_map, hx]; rfl)
    rw [Nat.zero_add]
    rwa [show (⟨g, 0, none⟩ : Addr).add j = ⟨g, j, none⟩ by unfold Addr.add; split <;> simp_all] at this
theorem heldT {V w : World} {A : Nat} {u v : Value} (lt : A < V.heap.size) (c1 : V.cell? ⟨A, 1, none⟩ = some u) (c3 : V.cell? ⟨A, 3, none⟩ = some v) (h : Over V w) :
    Over V w ∧ w.cell? ⟨A, 1, none⟩ = some u ∧ w.cell? ⟨A, 3, none⟩ = some v := ⟨h, over_cell h lt c1, over_cell h lt c3⟩

set_option maxHeartbeats 2000000 in
theorem iatext_any (pv cv : Value) (p c : List Int) (pr bw : Int) (w : World) (hp : RdI w pv p) (hc : RdI w cv c) (ht : Tab w) :
    Calls Tryd.prog 26 #[.agg #[pv, .int .i64 pr, cv, .int .i64 bw]] w (TextB w (atextL p pr c bw)) := by
  obtain ⟨pa, pd, rfl⟩ := hp.len
  obtain ⟨ca, cd, rfl⟩ := hc.len
  have E0 : Below w.heap.size w (w.alloc (.cells #[.slice pa p.length pd, .int .i64 pr, .slice ca c.length cd, .int .i64 bw] 36)) := (Below.refl _ _).alloc (Nat.le_refl _) _
  obtain ⟨A, hA⟩ : ∃ A, A = w.heap.size := ⟨_, rfl⟩
  have bA := Bx.new w (.slice pa p.length pd) (.int .i64 pr) (.slice ca c.length cd) (.int .i64 bw) 36 A hA
  have hconv := fun (W : World) (s : ByteArray) => Lib.run_convert_string_bytes (P := Tryd.prog) W 9 22 BT s Tryd.underlying9 Tryd.underlying22 Tryd.underlying5
  go_enter Tryd.func26, Tryd.ntmps26
  go_wp2_with fail
  rw [← hA]
  generalize w.alloc (.cells #[.slice pa p.length pd, .int .i64 pr, .slice ca c.length cd, .int .i64 bw] 36) = w0 at E0 bA ⊢
  clear hA
  refine (iaok_any _ _ p c pr bw _ (hp.keep E0) (hc.keep E0)).mono ?_
  rintro e w1 ⟨rfl, hb1⟩
  replace bA := bA.keep hb1
  replace E0 := below_step E0 hb1
  clear hb1
  cases hk : aokB p pr c bw
  · have HL : Hid (atextL p pr c bw = []) := Lib.hid (by simp [atextL, hk])
    clear hk
    go_wp2_with fail
    go_ret
    rw [HL.out]
    exact ⟨_, rfl, ⟨by simp, by simp, .inl ⟨none, 0, rfl, rfl, fun _ => rfl⟩⟩, E0⟩
  · have HL : Hid (atextL p pr c bw = atxt p pr c bw) := Lib.hid (by simp [atextL, hk])
    obtain ⟨p8, c4, -, np, nc⟩ := aok_p hk
    obtain ⟨⟨r0, r1⟩, b0, b1⟩ := aok_bw hk
    have hlen := atxt_len hk
    replace np := nums_mem np
    replace nc := nums_mem nc
    clear hk
    obtain ⟨lA, a0, a1, a2, a3, -, -, -, -⟩ := bA
    go_wp2_with fail
    go_region_held3 (fun w' => Over w1 w' ∧ w'.cell? ⟨A, 1, none⟩ = some (.int .i64 pr) ∧ w'.cell? ⟨A, 3, none⟩ = some (.int .i64 bw))
      ((first | exact heldT lA a1 a3 (over_drew _) | assumption | exact heldT lA a1 a3 (over_step (‹Over w1 _ ∧ _›.1) (by assumption)) | exact heldT lA a1 a3 (over_alloc (‹Over w1 _ ∧ _›.1) _)))
      ((first | (go_at_call 57; guard_target = Calls _ _ #[.int .i64 pr] _ _; refine (itoa_is (numS pr) pr _ (Lib.hid rfl) r0 (by omega) (ht.keep (below_step E0 (over_below (‹Over w1 _ ∧ _›.1))))).mono ?_; rintro e w2 ⟨rfl, hb2⟩) | (go_at_call 57; refine (itoa_is (numS bw) bw _ (Lib.hid rfl) b0 (by omega) (ht.keep (below_step E0 (over_below (‹Over w1 _ ∧ _›.1))))).mono ?_; rintro e w3 ⟨rfl, hb3⟩)))
    rename_i hH
    have o4 := hH.1
    have z3 : w1.heap.size ≤ w3.heap.size := (over_below ((over_step (over_step (over_drew w1) hb2) hb3))).size
    have own4 : OwnS (w3.alloc (.cells #[.string prefS, .string (numS pr), .string bwS, .string (numS bw), .string pathS] ST)) w1.heap.size (.slice (some ⟨w3.heap.size, 0, none⟩) 5 5) [prefS, numS pr, bwS, numS bw, pathS] := OwnS.lit w3 _ [prefS, numS pr, bwS, numS bw, pathS] z3 (by simp [maxLen]) rfl
    have z4 : w1.heap.size ≤ (w3.alloc (.cells #[.string prefS, .string (numS pr), .string bwS, .string (numS bw), .string pathS] ST)).heap.size := Nat.le_trans z3 (by simp)
    have q0 := over_cell o4 lA a0
    clear hH hb2 hb3
    go_wp2_with fail
    refine (appnum_any w1 _ _ [prefS, numS pr, bwS, numS bw, pathS] p w1.heap.size _ (hp.keep E0) np (by omega) (by simp) o4 own4 (Nat.le_refl _) z4 (ht.keep E0)).mono ?_
    rintro e w5 ⟨v5, rfl, own5, o5, z5⟩
    have q2 := over_cell o5 lA a2
    clear q0 own4
    by_cases hc0 : c = []
    · have hw : [prefS, numS pr, bwS, numS bw, pathS] ++ p.map numS = wordsL p pr c bw := by simp [wordsL, hc0]
      rw [hw] at own5
      have hcl : ¬ (0 : Int) < (c.length : Int) := by rw [hc0]; simp
      have hcl2 : ¬ 0 < c.length := by rw [hc0]; simp
      have hcl3 : c.length = 0 := by rw [hc0]; rfl
      clear hw hc0
      have hwl : 0 < (wordsL p pr c bw).length := by unfold wordsL; simp
      obtain ⟨g, cap, rfl, hg, hcap, hcs⟩ := OwnS.cells own5 hwl
      have HCS := Lib.hid hcs
      clear hcs
      go_wp2_with fail
      refine (sjoin_any g cap p pr c bw _ HCS.out hg hcap hlen p8 c4).mono ?_
      rintro e w8 ⟨s, rfl, hsb, hsz, hb8⟩
      have hz : s.size ≤ 200 := by omega
      have ho := bytesWorld_own w8 s (by unfold maxLen; omega) (grownCap w8 s.size 0 BT)
      rw [hsb] at ho
      have oz := over_step o5 hb8
      have z8 : w.heap.size ≤ w8.heap.size := Nat.le_trans E0.size (over_below oz).size
      have HB := below_step E0 (over_below (over_step oz (bytesWorld_below w8 BT s)))
      clear hsb hsz HCS hb8
      go_wp2_with fail
      go_ret
      rw [HL.out]
      exact ⟨_, rfl, ho.mono z8, HB⟩
    · have hcl : (0 : Int) < (c.length : Int) := by have := List.length_pos_iff.2 hc0; omega
      have hcl2 : 0 < c.length := by omega
      have hcl3 : ¬ c.length = 0 := by omega
      have HC0 := Lib.hid hc0
      clear hc0
      go_wp2_with fail
      have own6 : OwnS (w5.drew.alloc (.cells #[.string marksS] ST)) w1.heap.size v5 ([prefS, numS pr, bwS, numS bw, pathS] ++ p.map numS) := OwnS.keep (OwnS.keep own5 (over_drew w5)) ((Below.refl _ _).alloc (Nat.le_refl _) _)
      have o6 : Over w1 (w5.drew.alloc (.cells #[.string marksS] ST)) := over_alloc (over_trans o5 (over_drew w5)) _
      have z6 : w1.heap.size ≤ (w5.drew.alloc (.cells #[.string marksS] ST)).heap.size := Nat.le_trans z5 (by simp)
      have hc6 := lit1_at w5.drew marksS w5.heap.size (by simp)
      go_region_held3 (fun w' => Over w1 w' ∧ w'.cell? ⟨A, 2, none⟩ = some (.slice ca c.length cd))
        ((first | exact heldU lA a2 (over_trans o5 (over_drew w5)) | exact heldU lA a2 o6 | assumption | exact heldU lA a2 (by assumption)))
        ((first | (go_at_call 58; refine (appnum_any w1 v7 _ _ c w1.heap.size _ (hc.keep E0) nc (by omega) (by simp; omega) o7 own7 (Nat.le_refl _) z7 (ht.keep E0)).mono ?_; rintro e w9 ⟨v9, rfl, own9, o9, z9⟩) | (refine step_appS ?_ (.tmp 22) (.tmp 23) ?_ w1.heap.size v5 _ [marksS] ⟨w5.heap.size, 0, none⟩ 1 ?_ ?_ own6 hc6 ?_ z6 ?_; rfl; rfl; rfl; rfl; (simp; omega); intro v7 w7 own7 hg7; have o7 := over_grownS o6 own6 (Nat.le_refl _) hg7; have z7 := Nat.le_trans z6 hg7.size)))
      have hw : [prefS, numS pr, bwS, numS bw, pathS] ++ p.map numS ++ [marksS] ++ c.map numS = wordsL p pr c bw := by simp [wordsL, HC0.out]
      rw [hw] at own9
      clear hw own6 o6 z6 hc6 own7 o7 z7 hg7
      have hwl : 0 < (wordsL p pr c bw).length := by unfold wordsL; simp
      obtain ⟨g, cap, rfl, hg, hcap, hcs⟩ := OwnS.cells own9 hwl
      have HCS := Lib.hid hcs
      clear hcs
      go_wp2_with fail
      refine (sjoin_any g cap p pr c bw _ HCS.out hg hcap hlen p8 c4).mono ?_
      rintro e w8 ⟨s, rfl, hsb, hsz, hb8⟩
      have hz : s.size ≤ 200 := by omega
      have ho := bytesWorld_own w8 s (by unfold maxLen; omega) (grownCap w8 s.size 0 BT)
      rw [hsb] at ho
      have oz := over_step o9 hb8
      have z8 : w.heap.size ≤ w8.heap.size := Nat.le_trans E0.size (over_below oz).size
      have HB := below_step E0 (over_below (over_step oz (bytesWorld_below w8 BT s)))
      clear hsb hsz HCS hb8
      go_wp2_with fail
      go_ret
      rw [HL.out]
      exact ⟨_, rfl, ho.mono z8, HB⟩
end Go.Proofs.YtcmbajphholliabDoor
