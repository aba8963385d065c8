/-
  AttrCmp, of the program and of the model. Conditions: those in each contract.
-/
import Derived.Test.YtaiffofmhfflkaaGreatI11
namespace Go.Proofs.YtaiffofmhfflkaaGreat
open Go.ChangeShapes Go.WideShapes Go.ChangeAt Go.RowKit Go.BigFrame Go.Joins
set_option linter.unusedVariables false
set_option maxRecDepth 100000

/-- the first that is not zero -/
def or4 (a b c d : Int) : Int := if a ≠ 0 then a else if b ≠ 0 then b else if c ≠ 0 then c else d
def firstNZ : List Int → Int
  | [] => 0
  | x :: t => if x ≠ 0 then x else firstNZ t
theorem or4_first (a b c d : Int) : or4 a b c d = firstNZ [a, b, c, d] := by
  unfold or4 firstNZ firstNZ firstNZ firstNZ firstNZ
  repeat' split
  all_goals first | rfl | omega
theorem first_drop : ∀ (k : Nat) (l : List Int), (∀ i, i < k → l.getD i 0 = 0) → firstNZ l = firstNZ (l.drop k)
  | 0, l, _ => by simp
  | k + 1, [], _ => by simp
  | k + 1, x :: l, h => by
    have h0 := h 0 (by omega)
    simp at h0
    subst h0
    rw [List.drop_succ_cons, ← first_drop k l (fun i hi => by have := h (i + 1) (by omega); simpa using this)]
    simp [firstNZ]
theorem first_at {l : List Int} {k : Nat} {x : Int} (h : ∀ i, i < k → l.getD i 0 = 0) (hk : k < l.length) (hx : l.getD k 0 = x) (hn : x ≠ 0) : firstNZ l = x := by
  rw [first_drop k l h, List.drop_eq_getElem_cons hk]
  have e : l.getD k 0 = l[k] := by simp [List.getD, hk]
  rw [e] at hx
  rw [hx]
  simp [firstNZ, hn]
theorem first_none {l : List Int} {n : Nat} (hn : n = l.length) (h : ∀ i, i < n → l.getD i 0 = 0) : firstNZ l = 0 := by
  rw [first_drop n l h, List.drop_eq_nil_of_le (by omega)]
  rfl
theorem orI_any (v : Value) (l : List Int) (w : World) (h : RdI w v l) :
    Calls Tryz.prog 199 #[v] w fun e w' => e = .returned (.int .i64 (firstNZ l)) ∧ Below w.heap.size w w' := by
  have hm := h.2.1
  unfold maxLen at hm
  obtain ⟨a, c, rfl, hc⟩ := h.el
  obtain ⟨n, hn⟩ : ∃ n, n = l.length := ⟨_, rfl⟩
  rw [← hn] at hc hm ⊢
  have HN := Lib.hid hn
  clear h hn
  go_enter Tryz.func199, Tryz.ntmps199
  go_wp2
  go_loop [8] (fun q => ∃ k : Nat, k ≤ n ∧ q = .int .i64 k ∧ ∀ i, i < k → l.getD i 0 = 0) (fun q => n - (intOf q).toNat)
  case atStart => exact ⟨0, Nat.zero_le _, rfl, fun i hi => by omega⟩
  case round =>
    obtain ⟨k, hk, rfl, hall⟩ := hrel
    have HA := Lib.hid hall
    clear hall
    by_cases hlt : k < n
    · have hltI : (k : Int) < (n : Int) := by omega
      obtain ⟨b, o, rfl, e1⟩ := hc k hlt
      obtain ⟨x, hx⟩ : ∃ x, l.getD k 0 = x := ⟨_, rfl⟩
      rw [hx] at e1
      have HX := Lib.hid hx
      clear hx hc
      by_cases h0 : x = 0
      · subst h0
        go_wp2
        go_round
        case rel => exact ⟨k + 1, by omega, by go_num, fun i hi => by
            by_cases e : i = k
            · rw [e, HX.out]
            · exact HA.out i (by omega)⟩
        case measure => simp [intOf]; omega
      · have hne : (x != 0) = true := by simp [h0]
        have HF := Lib.hid (first_at HA.out (by rw [← HN.out]; exact hlt) HX.out h0)
        clear h0
        go_wp2
        go_ret
        exact ⟨ret_int HF.out.symm, Below.refl _ _⟩
    · have hkn : k = n := by omega
      have HF := Lib.hid (first_none HN.out (by rw [← hkn]; exact HA.out))
      have hltI : ¬ (k : Int) < (n : Int) := by omega
      clear hkn hc
      go_wp2
      go_ret
      exact ⟨ret_int HF.out.symm, Below.refl _ _⟩
theorem rdI_lit4 (w : World) (a b c d : Int) (g : Nat) (hg : g = w.heap.size) (ha : I64 a) (hb : I64 b) (hc : I64 c) (hd : I64 d) : RdI (w.alloc (.cells #[.int .i64 a, .int .i64 b, .int .i64 c, .int .i64 d] IT)) (.slice (some ⟨g, 0, none⟩) 4 4) [a, b, c, d] := by
  subst hg
  have := OwnI.lit (base := w.heap.size) w #[.int .i64 a, .int .i64 b, .int .i64 c, .int .i64 d] [a, b, c, d] (Nat.le_refl _) (by simp [maxLen]) (by simp)
  exact this.rd (by
    intro x hx
    simp only [List.mem_cons, List.not_mem_nil, or_false] at hx
    unfold I64 at *
    rcases hx with rfl | rfl | rfl | rfl <;> assumption)
theorem nm_bd (a b : Int) : I64 (nm a b) := by
  unfold nm Lib.compareInt I64
  split
  · omega
  · split <;> omega
theorem rk_bd (pr : Int) (pl : Nat) (pr' : Int) (pl' : Nat) : I64 (rk pr pl pr' pl') := by
  unfold rk
  split
  · exact nm_bd _ _
  · exact nm_bd _ _
theorem lx_bd : ∀ (l m : List Int), I64 (lx l m)
  | [], [] => by unfold lx I64; omega
  | [], _ :: _ => by unfold lx I64; omega
  | _ :: _, [] => by unfold lx I64; omega
  | x :: l, y :: m => by
    unfold lx
    split
    · exact lx_bd l m
    · exact nm_bd x y
theorem sl2cmp_any (pa ca qa da : Option Addr) (pd cd qd dd : Nat) (p c q d : List Int) (pr bw pr' bw' : Int) (w : World) (hp : RdI w (.slice pa p.length pd) p) (hc : RdI w (.slice ca c.length cd) c) (hq : RdI w (.slice qa q.length qd) q) (hd : RdI w (.slice da d.length dd) d) (hpl : p.length ≤ 8) (hql : q.length ≤ 8) :
    Calls Tryz.prog 107 #[.agg #[.slice pa p.length pd, .int .i64 pr, .slice ca c.length cd, .int .i64 bw], .agg #[.slice qa q.length qd, .int .i64 pr', .slice da d.length dd, .int .i64 bw']] w fun e w' => e = .returned (.int .i64 (or4 (rk pr p.length pr' q.length) (lx p q) (lx c d) (nm bw bw'))) ∧ Below w.heap.size w w' := by
  have bA := Bx.new w (.slice pa p.length pd) (.int .i64 pr) (.slice ca c.length cd) (.int .i64 bw) 133 w.heap.size rfl
  have z0 : (w.alloc (.cells #[.slice pa p.length pd, .int .i64 pr, .slice ca c.length cd, .int .i64 bw] 133)).heap.size = w.heap.size + 1 := by simp
  have bB := Bx.new (w.alloc (.cells #[.slice pa p.length pd, .int .i64 pr, .slice ca c.length cd, .int .i64 bw] 133)) (.slice qa q.length qd) (.int .i64 pr') (.slice da d.length dd) (.int .i64 bw') 133 (w.heap.size + 1) z0.symm
  replace bA := bA.alloc (.cells #[.slice qa q.length qd, .int .i64 pr', .slice da d.length dd, .int .i64 bw'] 133)
  have B1 : Below w.heap.size w ((w.alloc (.cells #[.slice pa p.length pd, .int .i64 pr, .slice ca c.length cd, .int .i64 bw] 133)).alloc (.cells #[.slice qa q.length qd, .int .i64 pr', .slice da d.length dd, .int .i64 bw'] 133)) := ((Below.refl _ _).alloc (Nat.le_refl _) _).alloc (by rw [z0]; omega) _
  clear z0
  replace hp := hp.keep B1
  replace hc := hc.keep B1
  replace hq := hq.keep B1
  replace hd := hd.keep B1
  obtain ⟨z0, e0⟩ : ∃ z, rk pr p.length pr' q.length = z := ⟨_, rfl⟩
  rw [e0]
  have H0 := Lib.hid e0
  clear e0
  obtain ⟨z1, e1⟩ : ∃ z, lx p q = z := ⟨_, rfl⟩
  rw [e1]
  have H1 := Lib.hid e1
  clear e1
  obtain ⟨z2, e2⟩ : ∃ z, lx c d = z := ⟨_, rfl⟩
  rw [e2]
  have H2 := Lib.hid e2
  clear e2
  by_cases h0 : z0 = 0
  · subst h0
    by_cases h1 : z1 = 0
    · subst h1
      by_cases h2 : z2 = 0
      · subst h2
        rw [show or4 0 0 0 (nm bw bw') = nm bw bw' by simp [or4]]
        go_enter Tryz.func107, Tryz.ntmps107
        have kA0 := bA.c0
        have kA1 := bA.c1
        have kA2 := bA.c2
        have kA3 := bA.c3
        have kB0 := bB.c0
        have kB1 := bB.c1
        have kB2 := bB.c2
        have kB3 := bB.c3
        go_wp2_with fail
        clear kA0 kA1 kA2 kA3 kB0 kB1 kB2 kB3
        refine (srank_any pa ca qa da pd cd qd dd p c q d pr bw pr' bw' _ hpl hql).mono ?_
        rintro e w1 ⟨rfl, hb⟩
        replace bA := bA.keep hb
        replace bB := bB.keep hb
        replace hp := hp.keep hb
        replace hc := hc.keep hb
        replace hq := hq.keep hb
        replace hd := hd.keep hb
        replace B1 := below_step B1 hb
        clear hb
        rw [H0.out]
        have kA0 := bA.c0
        have kA1 := bA.c1
        have kA2 := bA.c2
        have kA3 := bA.c3
        have kB0 := bB.c0
        have kB1 := bB.c1
        have kB2 := bB.c2
        have kB3 := bB.c3
        go_wp2_with fail
        clear kA0 kA1 kA2 kA3 kB0 kB1 kB2 kB3
        refine (slist_any _ _ p q _ hp hq).mono ?_
        rintro e w2 ⟨rfl, hb⟩
        replace bA := bA.keep hb
        replace bB := bB.keep hb
        replace hp := hp.keep hb
        replace hc := hc.keep hb
        replace hq := hq.keep hb
        replace hd := hd.keep hb
        replace B1 := below_step B1 hb
        clear hb
        rw [H1.out]
        have kA0 := bA.c0
        have kA1 := bA.c1
        have kA2 := bA.c2
        have kA3 := bA.c3
        have kB0 := bB.c0
        have kB1 := bB.c1
        have kB2 := bB.c2
        have kB3 := bB.c3
        go_wp2_with fail
        clear kA0 kA1 kA2 kA3 kB0 kB1 kB2 kB3
        refine (slist_any _ _ c d _ hc hd).mono ?_
        rintro e w3 ⟨rfl, hb⟩
        replace bA := bA.keep hb
        replace bB := bB.keep hb
        replace hp := hp.keep hb
        replace hc := hc.keep hb
        replace hq := hq.keep hb
        replace hd := hd.keep hb
        replace B1 := below_step B1 hb
        clear hb
        rw [H2.out]
        have kA0 := bA.c0
        have kA1 := bA.c1
        have kA2 := bA.c2
        have kA3 := bA.c3
        have kB0 := bB.c0
        have kB1 := bB.c1
        have kB2 := bB.c2
        have kB3 := bB.c3
        go_wp2_with fail
        clear kA0 kA1 kA2 kA3 kB0 kB1 kB2 kB3
        refine (snum_any _ _ _).mono ?_
        rintro e w4 ⟨rfl, rfl⟩
        go_wp2
        go_ret
        exact ⟨rfl, B1⟩
      · have n2 : (z2 != 0) = true := by simp [h2]
        rw [show or4 0 0 z2 (nm bw bw') = z2 by simp [or4, h2]]
        go_enter Tryz.func107, Tryz.ntmps107
        have kA0 := bA.c0
        have kA1 := bA.c1
        have kA2 := bA.c2
        have kA3 := bA.c3
        have kB0 := bB.c0
        have kB1 := bB.c1
        have kB2 := bB.c2
        have kB3 := bB.c3
        go_wp2_with fail
        clear kA0 kA1 kA2 kA3 kB0 kB1 kB2 kB3
        refine (srank_any pa ca qa da pd cd qd dd p c q d pr bw pr' bw' _ hpl hql).mono ?_
        rintro e w1 ⟨rfl, hb⟩
        replace bA := bA.keep hb
        replace bB := bB.keep hb
        replace hp := hp.keep hb
        replace hc := hc.keep hb
        replace hq := hq.keep hb
        replace hd := hd.keep hb
        replace B1 := below_step B1 hb
        clear hb
        rw [H0.out]
        have kA0 := bA.c0
        have kA1 := bA.c1
        have kA2 := bA.c2
        have kA3 := bA.c3
        have kB0 := bB.c0
        have kB1 := bB.c1
        have kB2 := bB.c2
        have kB3 := bB.c3
        go_wp2_with fail
        clear kA0 kA1 kA2 kA3 kB0 kB1 kB2 kB3
        refine (slist_any _ _ p q _ hp hq).mono ?_
        rintro e w2 ⟨rfl, hb⟩
        replace bA := bA.keep hb
        replace bB := bB.keep hb
        replace hp := hp.keep hb
        replace hc := hc.keep hb
        replace hq := hq.keep hb
        replace hd := hd.keep hb
        replace B1 := below_step B1 hb
        clear hb
        rw [H1.out]
        have kA0 := bA.c0
        have kA1 := bA.c1
        have kA2 := bA.c2
        have kA3 := bA.c3
        have kB0 := bB.c0
        have kB1 := bB.c1
        have kB2 := bB.c2
        have kB3 := bB.c3
        go_wp2_with fail
        clear kA0 kA1 kA2 kA3 kB0 kB1 kB2 kB3
        refine (slist_any _ _ c d _ hc hd).mono ?_
        rintro e w3 ⟨rfl, hb⟩
        replace bA := bA.keep hb
        replace bB := bB.keep hb
        replace hp := hp.keep hb
        replace hc := hc.keep hb
        replace hq := hq.keep hb
        replace hd := hd.keep hb
        replace B1 := below_step B1 hb
        clear hb
        rw [H2.out]
        go_wp2
        go_ret
        exact ⟨rfl, B1⟩
    · have n1 : (z1 != 0) = true := by simp [h1]
      rw [show or4 0 z1 z2 (nm bw bw') = z1 by simp [or4, h1]]
      go_enter Tryz.func107, Tryz.ntmps107
      have kA0 := bA.c0
      have kA1 := bA.c1
      have kA2 := bA.c2
      have kA3 := bA.c3
      have kB0 := bB.c0
      have kB1 := bB.c1
      have kB2 := bB.c2
      have kB3 := bB.c3
      go_wp2_with fail
      clear kA0 kA1 kA2 kA3 kB0 kB1 kB2 kB3
      refine (srank_any pa ca qa da pd cd qd dd p c q d pr bw pr' bw' _ hpl hql).mono ?_
      rintro e w1 ⟨rfl, hb⟩
      replace bA := bA.keep hb
      replace bB := bB.keep hb
      replace hp := hp.keep hb
      replace hc := hc.keep hb
      replace hq := hq.keep hb
      replace hd := hd.keep hb
      replace B1 := below_step B1 hb
      clear hb
      rw [H0.out]
      have kA0 := bA.c0
      have kA1 := bA.c1
      have kA2 := bA.c2
      have kA3 := bA.c3
      have kB0 := bB.c0
      have kB1 := bB.c1
      have kB2 := bB.c2
      have kB3 := bB.c3
      go_wp2_with fail
      clear kA0 kA1 kA2 kA3 kB0 kB1 kB2 kB3
      refine (slist_any _ _ p q _ hp hq).mono ?_
      rintro e w2 ⟨rfl, hb⟩
      replace bA := bA.keep hb
      replace bB := bB.keep hb
      replace hp := hp.keep hb
      replace hc := hc.keep hb
      replace hq := hq.keep hb
      replace hd := hd.keep hb
      replace B1 := below_step B1 hb
      clear hb
      rw [H1.out]
      go_wp2
      go_ret
      exact ⟨rfl, B1⟩
  · have n0 : (z0 != 0) = true := by simp [h0]
    rw [show or4 z0 z1 z2 (nm bw bw') = z0 by simp [or4, h0]]
    go_enter Tryz.func107, Tryz.ntmps107
    have kA0 := bA.c0
    have kA1 := bA.c1
    have kA2 := bA.c2
    have kA3 := bA.c3
    have kB0 := bB.c0
    have kB1 := bB.c1
    have kB2 := bB.c2
    have kB3 := bB.c3
    go_wp2_with fail
    clear kA0 kA1 kA2 kA3 kB0 kB1 kB2 kB3
    refine (srank_any pa ca qa da pd cd qd dd p c q d pr bw pr' bw' _ hpl hql).mono ?_
    rintro e w1 ⟨rfl, hb⟩
    replace bA := bA.keep hb
    replace bB := bB.keep hb
    replace hp := hp.keep hb
    replace hc := hc.keep hb
    replace hq := hq.keep hb
    replace hd := hd.keep hb
    replace B1 := below_step B1 hb
    clear hb
    rw [H0.out]
    go_wp2
    go_ret
    exact ⟨rfl, B1⟩
end Go.Proofs.YtaiffofmhfflkaaGreat
