/-
  An int put into an ascending list: lists alone, and the model's own loop. Conditions: those in each contract.
-/
import Derived.Test.YtcmbajphholliabDoorI17
namespace Go.Proofs.YtcmbajphholliabDoor
open Go.ChangeShapes Go.WideShapes Go.ChangeAt Go.RowKit Go.BigFrame Go.Joins
set_option linter.unusedVariables false
set_option maxRecDepth 100000

theorem filt_lt_take (l : List Int) (n : Int) (h : l.Pairwise (· < ·)) : l.take (l.countP (· < n)) = l.filter (· < n) ∧ l.drop (l.countP (· < n)) = l.filter (fun x => !decide (x < n)) := by
  induction l with
  | nil => simp
  | cons x t ih =>
    obtain ⟨h1, h2⟩ := List.pairwise_cons.1 h
    obtain ⟨i1, i2⟩ := ih h2
    by_cases hx : x < n
    · simp [hx, i1, i2]
    · have hall : ∀ y ∈ t, ¬ y < n := fun y hy => by have := h1 y hy; omega
      have hc : t.countP (· < n) = 0 := by
        rw [List.countP_eq_zero]
        intro y hy
        simpa using hall y hy
      have hf : t.filter (· < n) = [] := by
        rw [List.filter_eq_nil_iff]
        intro y hy
        simpa using hall y hy
      have hg : t.filter (fun x => !decide (x < n)) = t := by
        rw [List.filter_eq_self]
        intro y hy
        simpa using hall y hy
      simp [hx, hc, hf, hg]
def insL (l : List Int) (n : Int) : List Int := l.filter (· < n) ++ n :: l.filter (fun x => decide (n < x))
theorem ge_split (l : List Int) (n : Int) (h : l.Pairwise (· < ·)) : l.filter (fun x => !decide (x < n)) = if n ∈ l then n :: l.filter (fun x => decide (n < x)) else l.filter (fun x => decide (n < x)) := by
  induction l with
  | nil => simp
  | cons x t ih =>
    obtain ⟨h1, h2⟩ := List.pairwise_cons.1 h
    have ih := ih h2
    by_cases hx : x < n
    · have e1 : ¬ n < x := by omega
      have e2 : n ≠ x := by omega
      simp only [List.filter_cons, hx, e1, decide_true, decide_false, Bool.not_true, if_false, Bool.false_eq_true, List.mem_cons, e2, false_or]
      exact ih
    · by_cases hn : n = x
      · subst hn
        have hall : ∀ y ∈ t, n < y := h1
        have hg : t.filter (fun x => !decide (x < n)) = t := by
          rw [List.filter_eq_self]
          intro y hy
          have := hall y hy
          simp
          omega
        have hk : t.filter (fun x => decide (n < x)) = t := by
          rw [List.filter_eq_self]
          intro y hy
          simpa using hall y hy
        simp [hg, hk]
      · have hlt : n < x := by omega
        have hnt : n ∉ t := fun hm => by have := h1 n hm; omega
        rw [if_neg (by simp [hn, hnt])]
        rw [if_neg hnt] at ih
        simp [hx, hlt, ih]
theorem ins_found (l : List Int) (n : Int) (h : l.Pairwise (· < ·)) (hm : n ∈ l) : insL l n = l := by
  obtain ⟨a, b⟩ := filt_lt_take l n h
  rw [ge_split l n h, if_pos hm] at b
  unfold insL
  rw [← a, ← b, List.take_append_drop]
theorem ins_new (l : List Int) (n : Int) (h : l.Pairwise (· < ·)) (hm : n ∉ l) : insL l n = l.take (l.countP (· < n)) ++ n :: l.drop (l.countP (· < n)) := by
  obtain ⟨a, b⟩ := filt_lt_take l n h
  rw [ge_split l n h, if_neg hm] at b
  unfold insL
  rw [← a, ← b]
/-- what stands after the first k of them -/
def insK (q : List Int) (n : Int) : List Int := q.filter (· < n) ++ (if q.any (fun x => decide (n ≤ x)) then n :: q.filter (fun x => decide (n < x)) else [])
theorem insK_end (l : List Int) (n : Int) : (if l.any (fun x => decide (n ≤ x)) then insK l n else insK l n ++ [n]) = insL l n := by
  unfold insK insL
  split
  · rfl
  · rename_i h
    have : l.filter (fun x => decide (n < x)) = [] := by
      rw [List.filter_eq_nil_iff]
      intro y hy
      simp only [List.any_eq_true, decide_eq_true_eq, not_exists, not_and] at h
      have := h y hy
      simp
      omega
    simp [this]
theorem insK_put {q : List Int} {n x : Int} (hs : ∀ y ∈ q, y < x) (hp : q.any (fun x => decide (n ≤ x)) = true) : insK (q ++ [x]) n = insK q n ++ [x] ∧ (q ++ [x]).any (fun x => decide (n ≤ x)) = true ∧ x ≠ n := by
  simp only [List.any_eq_true, decide_eq_true_eq] at hp
  obtain ⟨y, hy, hny⟩ := hp
  have hx := hs y hy
  have h1 : ¬ x < n := by omega
  have h2 : n < x := by omega
  have ha : q.any (fun x => decide (n ≤ x)) = true := by simp only [List.any_eq_true, decide_eq_true_eq]; exact ⟨y, hy, hny⟩
  refine ⟨?_, by simp [ha], by omega⟩
  unfold insK
  simp [List.filter_append, h1, h2, ha]
theorem insK_no {q : List Int} {n x : Int} (hp : q.any (fun x => decide (n ≤ x)) = false) :
    (x < n → insK (q ++ [x]) n = insK q n ++ [x] ∧ (q ++ [x]).any (fun x => decide (n ≤ x)) = false) ∧
    (n < x → insK (q ++ [x]) n = insK q n ++ [n] ++ [x] ∧ (q ++ [x]).any (fun x => decide (n ≤ x)) = true) ∧
    (x = n → insK (q ++ [x]) n = insK q n ++ [n] ∧ (q ++ [x]).any (fun x => decide (n ≤ x)) = true) := by
  have hf : q.filter (fun x => decide (n < x)) = [] := by
    rw [List.filter_eq_nil_iff]
    intro y hy
    simp only [List.any_eq_false, decide_eq_true_eq] at hp
    have := hp y hy
    simp
    omega
  refine ⟨fun h => ?_, fun h => ?_, fun h => ?_⟩
  · have h2 : ¬ n ≤ x := by omega
    unfold insK
    simp [List.filter_append, hp, h, h2]
  · have h1 : ¬ x < n := by omega
    have h2 : n ≤ x := by omega
    unfold insK
    simp [List.filter_append, hp, h, h1, h2, hf]
  · subst h
    unfold insK
    simp [List.filter_append, hp, hf]

theorem insK_len (l : List Int) (n : Int) (k : Nat) : (insK (l.take k) n).length ≤ 2 * l.length + 1 := by
  unfold insK
  have h1 := List.length_filter_le (fun x => decide (x < n)) (l.take k)
  have h2 := List.length_filter_le (fun x => decide (n < x)) (l.take k)
  have h3 : (l.take k).length ≤ l.length := by rw [List.length_take]; omega
  rw [List.length_append]
  split
  · rw [List.length_cons]; omega
  · simp; omega
theorem pair_take {l : List Int} {k : Nat} {x : Int} (h : l.Pairwise (· < ·)) (hk : k < l.length) (hx : l.getD k 0 = x) : ∀ y ∈ l.take k, y < x := by
  intro y hy
  obtain ⟨i, hi, e⟩ := List.mem_iff_getElem.1 hy
  rw [List.length_take] at hi
  rw [List.getElem_take] at e
  have e2 : l.getD k 0 = l[k] := by simp [List.getD, hk]
  have := List.pairwise_iff_getElem.1 h i k (by omega) hk (by omega)
  rw [← e, ← hx, e2]
  exact this
set_option maxHeartbeats 1000000 in
theorem insert_loop_any (v : Value) (l : List Int) (n : Int) (w : World) (h : RdI w v l) (hs : l.Pairwise (· < ·)) (hn : I64 n) (hl : l.length ≤ 1048576) :
    Calls Tryd.prog 101 #[v, .int .i64 n] w (NewI w (insL l n)) := by
  have hm := h.2.1
  unfold maxLen at hm
  have hbd := getD_bd_I h.1
  obtain ⟨a, c, rfl, hc⟩ := h.el
  obtain ⟨N, hN⟩ : ∃ N, N = l.length := ⟨_, rfl⟩
  rw [← hN] at hc hm hl ⊢
  have HN := Lib.hid hN
  have HS := Lib.hid hs
  clear h hN hs
  go_enter Tryd.func101, Tryd.ntmps101
  go_wp2
  go_loopw [5, 6, 7] (fun u q i wr => ∃ k : Nat, k ≤ N ∧ i = .int .i64 k ∧ q = .bool ((l.take k).any (fun x => decide (n ≤ x))) ∧ OwnI wr w.heap.size u (insK (l.take k) n) ∧ Below w.heap.size w wr) (fun _ _ i _ => N - (intOf i).toNat)
  case atStart => exact ⟨0, Nat.zero_le _, rfl, rfl, World.ownsRow_nil _ _ _ _, Below.refl _ _⟩
  case round =>
    obtain ⟨k, hk, rfl, rfl, ho, hB⟩ := hrel
    obtain ⟨Q, hQ⟩ : ∃ Q, insK (l.take k) n = Q := ⟨_, rfl⟩
    rw [hQ] at ho
    obtain ⟨oa, oc, rfl⟩ := ho.len
    have hQlen : Q.length ≤ 2 * N + 1 := by rw [← hQ, HN.out]; exact insK_len l n k
    by_cases hlt : k < N
    · have hltI : (k : Int) < (N : Int) := by omega
      obtain ⟨b, o, rfl, e0⟩ := hc k hlt
      obtain ⟨x, hx⟩ : ∃ x, l.getD k 0 = x := ⟨_, rfl⟩
      rw [hx] at e0
      have e1 := cell_keep hB (World.block_lt_of_cell? w _ e0) e0
      have hxb : I64 x := by rw [← hx]; exact hbd k
      have HX := Lib.hid hx
      have hlast : l.take (k + 1) = l.take k ++ [x] := by
        have hk' : k < l.length := by rw [← HN.out]; exact hlt
        rw [List.take_succ_eq_append_getElem hk']
        have e2 : l.getD k 0 = l[k] := by simp [List.getD, hk']
        rw [← e2, hx]
      have hpre := pair_take HS.out (by rw [← HN.out]; exact hlt) hx
      have HL := Lib.hid hlast
      have HQ := Lib.hid hQ
      have HP := Lib.hid hpre
      clear hx hc hlast hQ hpre
      have HQL := Lib.hid hQlen
      have HQL := Lib.hid hQlen
      have HQL := Lib.hid hQlen
      cases hp : (l.take k).any (fun x => decide (n ≤ x))
      · have HK := Lib.hid (insK_no (x := x) hp)
        by_cases hxn : n < x
        · have g1 : n ≤ x := by omega
          have g2 : (x != n) = true := by simp; omega
          have HC := Lib.hid hxn
          clear hp hxn
          go_wp2_with (at_builtin; refine Hid.out ?_)
          refine Lib.hid ?_
          refine wp_appI rfl (.tmp 24) (.tmp 26) rfl w.heap.size (.slice oa (Q.length) oc) (.slice (some ⟨wr.heap.size, 0, none⟩) 1 1) (Q) [n] rfl rfl (ho.alloc _) ((own_lit1_I wr n wr.heap.size rfl).rd (by simpa [I64] using hn)) (by have := HQL.out; simp; omega) (Nat.le_trans hB.size (by simp)) ?_
          intro v1 w1 ho1 hg1
          obtain ⟨oa1, oc1, hv1⟩ := ho1.len
          simp only [List.length_append, List.length_singleton] at hv1
          subst hv1
          have hB1 := Below.grown (hB.alloc hB.size (.cells #[.int .i64 n] IT)) hg1 (Nat.le_trans hB.size (by simp)) (fun k hk => (World.ownsRow.lt ho k hk).1)
          clear hg1
          replace e1 := cell_keep hB1 (World.block_lt_of_cell? w _ e0) e0
          go_wp2_with (at_builtin; refine Hid.out ?_)
          refine Lib.hid ?_
          refine wp_appI rfl (.tmp 34) (.tmp 39) rfl w.heap.size (.slice oa1 (Q.length + 1) oc1) (.slice (some ⟨w1.heap.size, 0, none⟩) 1 1) (Q ++ [n]) [x] rfl rfl (ho1.alloc _) ((own_lit1_I w1 x w1.heap.size rfl).rd (by simpa [I64] using hxb)) (by have := HQL.out; simp; omega) (Nat.le_trans hB1.size (by simp)) ?_
          intro v2 w2 ho2 hg2
          obtain ⟨oa2, oc2, hv2⟩ := ho2.len
          simp only [List.length_append, List.length_singleton] at hv2
          subst hv2
          have hB2 := Below.grown (hB1.alloc hB1.size (.cells #[.int .i64 x] IT)) hg2 (Nat.le_trans hB1.size (by simp)) (fun k hk => (World.ownsRow.lt ho1 k hk).1)
          clear hg2
          go_wp2
          go_roundw
          case rel => exact ⟨k + 1, by omega, by go_num, by rw [HL.out, (HK.out.2.1 HC.out).2], by rw [HL.out, (HK.out.2.1 HC.out).1, HQ.out]; exact ho2, hB2⟩
          case measure => simp [intOf]; omega
        · by_cases hxe : x = n
          · have g1 : n ≤ x := by omega
            have g2 : (x != n) = false := by simp [hxe]
            have HC := Lib.hid hxe
            clear hp hxn hxe
            go_wp2_with (at_builtin; refine Hid.out ?_)
            refine Lib.hid ?_
            refine wp_appI rfl (.tmp 24) (.tmp 26) rfl w.heap.size (.slice oa (Q.length) oc) (.slice (some ⟨wr.heap.size, 0, none⟩) 1 1) (Q) [n] rfl rfl (ho.alloc _) ((own_lit1_I wr n wr.heap.size rfl).rd (by simpa [I64] using hn)) (by have := HQL.out; simp; omega) (Nat.le_trans hB.size (by simp)) ?_
            intro v1 w1 ho1 hg1
            obtain ⟨oa1, oc1, hv1⟩ := ho1.len
            simp only [List.length_append, List.length_singleton] at hv1
            subst hv1
            have hB1 := Below.grown (hB.alloc hB.size (.cells #[.int .i64 n] IT)) hg1 (Nat.le_trans hB.size (by simp)) (fun k hk => (World.ownsRow.lt ho k hk).1)
            clear hg1
            replace e1 := cell_keep hB1 (World.block_lt_of_cell? w _ e0) e0
            go_wp2
            go_roundw
            case rel => exact ⟨k + 1, by omega, by go_num, by rw [HL.out, (HK.out.2.2 HC.out).2], by rw [HL.out, (HK.out.2.2 HC.out).1, HQ.out]; exact ho1, hB1⟩
            case measure => simp [intOf]; omega
          · have hxl : x < n := by omega
            have g1 : ¬ n ≤ x := by omega
            have g2 : (x != n) = true := by simp [hxe]
            have HC := Lib.hid hxl
            clear hp hxn hxe hxl
            go_wp2_with (at_builtin; refine Hid.out ?_)
            refine Lib.hid ?_
            refine wp_appI rfl (.tmp 34) (.tmp 39) rfl w.heap.size (.slice oa (Q.length) oc) (.slice (some ⟨wr.heap.size, 0, none⟩) 1 1) (Q) [x] rfl rfl (ho.alloc _) ((own_lit1_I wr x wr.heap.size rfl).rd (by simpa [I64] using hxb)) (by have := HQL.out; simp; omega) (Nat.le_trans hB.size (by simp)) ?_
            intro v1 w1 ho1 hg1
            obtain ⟨oa1, oc1, hv1⟩ := ho1.len
            simp only [List.length_append, List.length_singleton] at hv1
            subst hv1
            have hB1 := Below.grown (hB.alloc hB.size (.cells #[.int .i64 x] IT)) hg1 (Nat.le_trans hB.size (by simp)) (fun k hk => (World.ownsRow.lt ho k hk).1)
            clear hg1
            go_wp2
            go_roundw
            case rel => exact ⟨k + 1, by omega, by go_num, by rw [HL.out, (HK.out.1 HC.out).2], by rw [HL.out, (HK.out.1 HC.out).1, HQ.out]; exact ho1, hB1⟩
            case measure => simp [intOf]; omega
      · obtain ⟨k1, k2, k3⟩ := insK_put HP.out hp
        have g2 : (x != n) = true := by simp [k3]
        have HK := Lib.hid (And.intro k1 k2)
        clear hp k1 k2 k3
        go_wp2_with (at_builtin; refine Hid.out ?_)
        refine Lib.hid ?_
        refine wp_appI rfl (.tmp 34) (.tmp 39) rfl w.heap.size (.slice oa (Q.length) oc) (.slice (some ⟨wr.heap.size, 0, none⟩) 1 1) (Q) [x] rfl rfl (ho.alloc _) ((own_lit1_I wr x wr.heap.size rfl).rd (by simpa [I64] using hxb)) (by have := HQL.out; simp; omega) (Nat.le_trans hB.size (by simp)) ?_
        intro v1 w1 ho1 hg1
        obtain ⟨oa1, oc1, hv1⟩ := ho1.len
        simp only [List.length_append, List.length_singleton] at hv1
        subst hv1
        have hB1 := Below.grown (hB.alloc hB.size (.cells #[.int .i64 x] IT)) hg1 (Nat.le_trans hB.size (by simp)) (fun k hk => (World.ownsRow.lt ho k hk).1)
        clear hg1
        go_wp2
        go_roundw
        case rel => exact ⟨k + 1, by omega, by go_num, by rw [HL.out, HK.out.2], by rw [HL.out, HK.out.1, HQ.out]; exact ho1, hB1⟩
        case measure => simp [intOf]; omega
    · have hkN : k = N := by omega
      have hall : l.take k = l := by rw [hkN, HN.out, List.take_length]
      rw [hall] at hQ ⊢
      have HE := insK_end l n
      have HQL := Lib.hid hQlen
      cases hp : l.any (fun x => decide (n ≤ x))
      · rw [hp] at HE
        simp only [Bool.false_eq_true, if_false] at HE
        have HF := Lib.hid HE
        have HQ := Lib.hid hQ
        clear HE hp hQ hall hkN hc hQlen
        go_wp2_with (at_builtin; refine Hid.out ?_)
        refine Lib.hid ?_
        refine wp_appI rfl (.tmp 43) (.tmp 45) rfl w.heap.size (.slice oa (Q.length) oc) (.slice (some ⟨wr.heap.size, 0, none⟩) 1 1) (Q) [n] rfl rfl (ho.alloc _) ((own_lit1_I wr n wr.heap.size rfl).rd (by simpa [I64] using hn)) (by have := HQL.out; simp; omega) (Nat.le_trans hB.size (by simp)) ?_
        intro v1 w1 ho1 hg1
        obtain ⟨oa1, oc1, hv1⟩ := ho1.len
        simp only [List.length_append, List.length_singleton] at hv1
        subst hv1
        have hB1 := Below.grown (hB.alloc hB.size (.cells #[.int .i64 n] IT)) hg1 (Nat.le_trans hB.size (by simp)) (fun k hk => (World.ownsRow.lt ho k hk).1)
        clear hg1
        go_wp2
        go_ret
        refine ⟨oa1, oc1, ?_, ?_, hB1⟩
        · rw [← HF.out, HQ.out, List.length_append]; rfl
        · rw [← HF.out, HQ.out, List.length_append]; exact ho1
      · rw [hp] at HE
        simp only [if_true] at HE
        have HF := Lib.hid HE
        have HQ := Lib.hid hQ
        clear HE hp hQ hall hkN hc hQlen
        go_wp2
        go_ret
        refine ⟨oa, oc, ?_, ?_, hB⟩
        · rw [← HF.out, HQ.out]; rfl
        · rw [← HF.out, HQ.out]; exact ho
end Go.Proofs.YtcmbajphholliabDoor
