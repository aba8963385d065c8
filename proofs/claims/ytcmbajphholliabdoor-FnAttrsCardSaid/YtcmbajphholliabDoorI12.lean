/-
  AttrCmp, of the program and of the model. Conditions: those in each contract.
-/
import Derived.Test.YtcmbajphholliabDoorI11
namespace Go.Proofs.YtcmbajphholliabDoor
open Go.ChangeShapes Go.WideShapes Go.ChangeAt Go.RowKit Go.BigFrame Go.Joins
set_option linter.unusedVariables false
set_option maxRecDepth 100000

/-- the first that is not zero -/
def or4 (a b c d : Int) : Int := if a ≠ 0 then a else if b ≠ 0 then b else if c ≠ 0 then c else d
def firstNZ : List Int → Int
  | [] => 0
  | x :: t => if x ≠ 0 then x else firstNZ t
theorem or4_first (a b c d : Int) : or4 a b c d = firstNZ [a, b, c, d] := by
  unfold or4 firstNZ firstNZ firstNZ firstNZ firstNZ
  repeat' split
  all_goals first | rfl | omega
theorem first_drop : ∀ (k : Nat) (l : List Int), (∀ i, i < k → l.getD i 0 = 0) → firstNZ l = firstNZ (l.drop k)
  | 0, l, _ => by simp
  | k + 1, [], _ => by simp
  | k + 1, x :: l, h => by
    have h0 := h 0 (by omega)
    simp at h0
    subst h0
    rw [List.drop_succ_cons, ← first_drop k l (fun i hi => by have := h (i + 1) (by omega); simpa using this)]
    simp [firstNZ]
theorem first_at {l : List Int} {k : Nat} {x : Int} (h : ∀ i, i < k → l.getD i 0 = 0) (hk : k < l.length) (hx : l.getD k 0 = x) (hn : x ≠ 0) : firstNZ l = x := by
  rw [first_drop k l h, List.drop_eq_getElem_cons hk]
  have e : l.getD k 0 = l[k] := by simp [List.getD, hk]
  rw [e] at hx
  rw [hx]
  simp [firstNZ, hn]
theorem first_none {l : List Int} {n : Nat} (hn : n = l.length) (h : ∀ i, i < n → l.getD i 0 = 0) : firstNZ l = 0 := by
  rw [first_drop n l h, List.drop_eq_nil_of_le (by omega)]
  rfl
theorem or_any (v : Value) (l : List Int) (w : World) (h : RdI w v l) :
    Calls Tryd.prog 44 #[v] w fun e w' => e = .returned (.int .i64 (firstNZ l)) ∧ Below w.heap.size w w' := by
  have hm := h.2.1
  unfold maxLen at hm
  obtain ⟨a, c, rfl, hc⟩ := h.el
  obtain ⟨n, hn⟩ : ∃ n, n = l.length := ⟨_, rfl⟩
  rw [← hn] at hc hm ⊢
  have HN := Lib.hid hn
  clear h hn
  go_enter Tryd.func44, Tryd.ntmps44
  go_wp2
  go_loop [8] (fun q => ∃ k : Nat, k ≤ n ∧ q = .int .i64 k ∧ ∀ i, i < k → l.getD i 0 = 0) (fun q => n - (intOf q).toNat)
  case atStart => exact ⟨0, Nat.zero_le _, rfl, fun i hi => by omega⟩
  case round =>
    obtain ⟨k, hk, rfl, hall⟩ := hrel
    have HA := Lib.hid hall
    clear hall
    by_cases hlt : k < n
    · have hltI : (k : Int) < (n : Int) := by omega
      obtain ⟨b, o, rfl, e1⟩ := hc k hlt
      obtain ⟨x, hx⟩ : ∃ x, l.getD k 0 = x := ⟨_, rfl⟩
      rw [hx] at e1
      have HX := Lib.hid hx
      clear hx hc
      by_cases h0 : x = 0
      · subst h0
        go_wp2
        go_round
        case rel => exact ⟨k + 1, by omega, by go_num, fun i hi => by
            by_cases e : i = k
            · rw [e, HX.out]
            · exact HA.out i (by omega)⟩
        case measure => simp [intOf]; omega
      · have hne : (x != 0) = true := by simp [h0]
        have HF := Lib.hid (first_at HA.out (by rw [← HN.out]; exact hlt) HX.out h0)
        clear h0
        go_wp2
        go_ret
        exact ⟨ret_int HF.out.symm, Below.refl _ _⟩
    · have hkn : k = n := by omega
      have HF := Lib.hid (first_none HN.out (by rw [← hkn]; exact HA.out))
      have hltI : ¬ (k : Int) < (n : Int) := by omega
      clear hkn hc
      go_wp2
      go_ret
      exact ⟨ret_int HF.out.symm, Below.refl _ _⟩
theorem rdI_lit4 (w : World) (a b c d : Int) (g : Nat) (hg : g = w.heap.size) (ha : I64 a) (hb : I64 b) (hc : I64 c) (hd : I64 d) : RdI (w.alloc (.cells #[.int .i64 a, .int .i64 b, .int .i64 c, .int .i64 d] IT)) (.slice (some ⟨g, 0, none⟩) 4 4) [a, b, c, d] := by
  subst hg
  have := OwnI.lit (base := w.heap.size) w #[.int .i64 a, .int .i64 b, .int .i64 c, .int .i64 d] [a, b, c, d] (Nat.le_refl _) (by simp [maxLen]) (by simp)
  exact this.rd (by
    intro x hx
    simp only [List.mem_cons, List.not_mem_nil, or_false] at hx
    unfold I64 at *
    rcases hx with rfl | rfl | rfl | rfl <;> assumption)
theorem nm_bd (a b : Int) : I64 (nm a b) := by
  unfold nm Lib.compareInt I64
  split
  · omega
  · split <;> omega
theorem rk_bd (pr : Int) (pl : Nat) (pr' : Int) (pl' : Nat) : I64 (rk pr pl pr' pl') := by
  unfold rk
  split
  · exact nm_bd _ _
  · exact nm_bd _ _
theorem lx_bd : ∀ (l m : List Int), I64 (lx l m)
  | [], [] => by unfold lx I64; omega
  | [], _ :: _ => by unfold lx I64; omega
  | _ :: _, [] => by unfold lx I64; omega
  | x :: l, y :: m => by
    unfold lx
    split
    · exact lx_bd l m
    · exact nm_bd x y
theorem iattrcmp_any (pa ca qa da : Option Addr) (pd cd qd dd : Nat) (p c q d : List Int) (pr bw pr' bw' : Int) (w : World) (hp : RdI w (.slice pa p.length pd) p) (hc : RdI w (.slice ca c.length cd) c) (hq : RdI w (.slice qa q.length qd) q) (hd : RdI w (.slice da d.length dd) d) :
    Calls Tryd.prog 16 #[.agg #[.slice pa p.length pd, .int .i64 pr, .slice ca c.length cd, .int .i64 bw], .agg #[.slice qa q.length qd, .int .i64 pr', .slice da d.length dd, .int .i64 bw']] w fun e w' => e = .returned (.int .i64 (if aokB p pr c bw && aokB q pr' d bw' then or4 (rk pr p.length pr' q.length) (lx p q) (lx c d) (nm bw bw') else 0)) ∧ Below w.heap.size w w' := by
  have bA := Bx.new w (.slice pa p.length pd) (.int .i64 pr) (.slice ca c.length cd) (.int .i64 bw) 36 w.heap.size rfl
  have z0 : (w.alloc (.cells #[.slice pa p.length pd, .int .i64 pr, .slice ca c.length cd, .int .i64 bw] 36)).heap.size = w.heap.size + 1 := by simp
  have bB := Bx.new (w.alloc (.cells #[.slice pa p.length pd, .int .i64 pr, .slice ca c.length cd, .int .i64 bw] 36)) (.slice qa q.length qd) (.int .i64 pr') (.slice da d.length dd) (.int .i64 bw') 36 (w.heap.size + 1) z0.symm
  replace bA := bA.alloc (.cells #[.slice qa q.length qd, .int .i64 pr', .slice da d.length dd, .int .i64 bw'] 36)
  have B1 : Below w.heap.size w ((w.alloc (.cells #[.slice pa p.length pd, .int .i64 pr, .slice ca c.length cd, .int .i64 bw] 36)).alloc (.cells #[.slice qa q.length qd, .int .i64 pr', .slice da d.length dd, .int .i64 bw'] 36)) := ((Below.refl _ _).alloc (Nat.le_refl _) _).alloc (by rw [z0]; omega) _
  clear z0
  replace hp := hp.keep B1
  replace hc := hc.keep B1
  replace hq := hq.keep B1
  replace hd := hd.keep B1
  cases hA : aokB p pr c bw
  · rw [show (if (false && aokB q pr' d bw') = true then or4 (rk pr p.length pr' q.length) (lx p q) (lx c d) (nm bw bw') else 0) = 0 from rfl]
    have HA := Lib.hid hA
    clear hA
    go_enter Tryd.func16, Tryd.ntmps16
    have kA0 := bA.c0
    have kA1 := bA.c1
    have kA2 := bA.c2
    have kA3 := bA.c3
    have kB0 := bB.c0
    have kB1 := bB.c1
    have kB2 := bB.c2
    have kB3 := bB.c3
    go_wp2_with fail
    clear kA0 kA1 kA2 kA3 kB0 kB1 kB2 kB3
    refine (iaok_t _ hp hc HA).mono ?_
    rintro e w1 ⟨rfl, hb⟩
    replace bA := bA.keep hb
    replace bB := bB.keep hb
    replace hp := hp.keep hb
    replace hc := hc.keep hb
    replace hq := hq.keep hb
    replace hd := hd.keep hb
    replace B1 := below_step B1 hb
    clear hb
    go_wp2
    go_ret
    exact ⟨rfl, B1⟩
  · have hpl := (aok_p hA).1
    have HA := Lib.hid hA
    clear hA
    cases hB : aokB q pr' d bw'
    · rw [show (if (true && false) = true then or4 (rk pr p.length pr' q.length) (lx p q) (lx c d) (nm bw bw') else 0) = 0 from rfl]
      have HB := Lib.hid hB
      clear hB
      go_enter Tryd.func16, Tryd.ntmps16
      have kA0 := bA.c0
      have kA1 := bA.c1
      have kA2 := bA.c2
      have kA3 := bA.c3
      have kB0 := bB.c0
      have kB1 := bB.c1
      have kB2 := bB.c2
      have kB3 := bB.c3
      go_wp2_with fail
      clear kA0 kA1 kA2 kA3 kB0 kB1 kB2 kB3
      refine (iaok_t _ hp hc HA).mono ?_
      rintro e w1 ⟨rfl, hb⟩
      replace bA := bA.keep hb
      replace bB := bB.keep hb
      replace hp := hp.keep hb
      replace hc := hc.keep hb
      replace hq := hq.keep hb
      replace hd := hd.keep hb
      replace B1 := below_step B1 hb
      clear hb
      have kA0 := bA.c0
      have kA1 := bA.c1
      have kA2 := bA.c2
      have kA3 := bA.c3
      have kB0 := bB.c0
      have kB1 := bB.c1
      have kB2 := bB.c2
      have kB3 := bB.c3
      go_wp2_with fail
      clear kA0 kA1 kA2 kA3 kB0 kB1 kB2 kB3
      refine (iaok_t _ hq hd HB).mono ?_
      rintro e w2 ⟨rfl, hb⟩
      replace bA := bA.keep hb
      replace bB := bB.keep hb
      replace hp := hp.keep hb
      replace hc := hc.keep hb
      replace hq := hq.keep hb
      replace hd := hd.keep hb
      replace B1 := below_step B1 hb
      clear hb
      go_wp2
      go_ret
      exact ⟨rfl, B1⟩
    · have hql := (aok_p hB).1
      have HB := Lib.hid hB
      clear hB
      rw [show (if (true && true) = true then or4 (rk pr p.length pr' q.length) (lx p q) (lx c d) (nm bw bw') else 0) = or4 (rk pr p.length pr' q.length) (lx p q) (lx c d) (nm bw bw') from rfl]
      go_enter Tryd.func16, Tryd.ntmps16
      have kA0 := bA.c0
      have kA1 := bA.c1
      have kA2 := bA.c2
      have kA3 := bA.c3
      have kB0 := bB.c0
      have kB1 := bB.c1
      have kB2 := bB.c2
      have kB3 := bB.c3
      go_wp2_with fail
      clear kA0 kA1 kA2 kA3 kB0 kB1 kB2 kB3
      refine (iaok_t _ hp hc HA).mono ?_
      rintro e w1 ⟨rfl, hb⟩
      replace bA := bA.keep hb
      replace bB := bB.keep hb
      replace hp := hp.keep hb
      replace hc := hc.keep hb
      replace hq := hq.keep hb
      replace hd := hd.keep hb
      replace B1 := below_step B1 hb
      clear hb
      have kA0 := bA.c0
      have kA1 := bA.c1
      have kA2 := bA.c2
      have kA3 := bA.c3
      have kB0 := bB.c0
      have kB1 := bB.c1
      have kB2 := bB.c2
      have kB3 := bB.c3
      go_wp2_with fail
      clear kA0 kA1 kA2 kA3 kB0 kB1 kB2 kB3
      refine (iaok_t _ hq hd HB).mono ?_
      rintro e w2 ⟨rfl, hb⟩
      replace bA := bA.keep hb
      replace bB := bB.keep hb
      replace hp := hp.keep hb
      replace hc := hc.keep hb
      replace hq := hq.keep hb
      replace hd := hd.keep hb
      replace B1 := below_step B1 hb
      clear hb
      go_wp2_with fail
      obtain ⟨B, eB⟩ : ∃ B, B = w.heap.size + 1 := ⟨_, rfl⟩
      rw [← eB] at bB
      try rw [← eB]
      clear eB
      obtain ⟨A, eA⟩ : ∃ A, A = w.heap.size := ⟨_, rfl⟩
      rw [← eA] at bA
      try simp only [← eA]
      clear eA
      go_region_held3 (fun w' => Over w2 w' ∧ w'.cell? ⟨A, 0, none⟩ = some (.slice pa p.length pd) ∧ w'.cell? ⟨A, 1, none⟩ = some (.int .i64 pr) ∧ w'.cell? ⟨A, 2, none⟩ = some (.slice ca c.length cd) ∧ w'.cell? ⟨A, 3, none⟩ = some (.int .i64 bw) ∧ w'.cell? ⟨B, 0, none⟩ = some (.slice qa q.length qd) ∧ w'.cell? ⟨B, 1, none⟩ = some (.int .i64 pr') ∧ w'.cell? ⟨B, 2, none⟩ = some (.slice da d.length dd) ∧ w'.cell? ⟨B, 3, none⟩ = some (.int .i64 bw'))
        ((first | assumption | exact held8_0 bA bB | exact held8_S bA bB (by assumption) (by assumption) | exact held8_S bA bB (by assumption) ((Below.refl _ _).alloc (Nat.le_refl _) _)))
        ((first | (go_at_call 45; refine (irank_any pa ca qa da pd cd qd dd p c q d pr bw pr' bw' _ hpl hql).mono ?_; rintro e w3 ⟨rfl, hb3⟩) | (go_at_call 46; (first | (guard_target = Calls _ _ #[.slice pa _ _, _] _ _; refine (icompare_any _ _ p q _ (rdI_over hp (‹Over w2 _ ∧ _›).1) (rdI_over hq (‹Over w2 _ ∧ _›).1)).mono ?_; rintro e w4 ⟨rfl, hb4⟩) | (guard_target = Calls _ _ #[.slice ca _ _, _] _ _; refine (icompare_any _ _ c d _ (rdI_over hc (‹Over w2 _ ∧ _›).1) (rdI_over hd (‹Over w2 _ ∧ _›).1)).mono ?_; rintro e w5 ⟨rfl, hb5⟩))) | (go_at_call 47; refine (inum_any bw bw' _).mono ?_; rintro e w6 ⟨rfl, rfl⟩) | (go_at_call 44; refine (or_any _ [rk pr p.length pr' q.length, lx p q, lx c d, nm bw bw'] _ (rdI_lit4 _ _ _ _ _ _ rfl (rk_bd _ _ _ _) (lx_bd _ _) (lx_bd _ _) (nm_bd _ _))).mono ?_; rintro e w7 ⟨rfl, hb7⟩)))
      rename_i hH
      rw [← or4_first]
      replace B1 := below_step B1 hH.1
      go_wp2
      go_ret
      exact ⟨rfl, B1⟩
theorem iattrcmp_t (pa ca qa da : Option Addr) (pd cd qd dd : Nat) (p c q d : List Int) (pr bw pr' bw' : Int) (w : World) (hp : RdI w (.slice pa p.length pd) p) (hc : RdI w (.slice ca c.length cd) c) (hq : RdI w (.slice qa q.length qd) q) (hd : RdI w (.slice da d.length dd) d) {r : Int} (H : Hid ((if aokB p pr c bw && aokB q pr' d bw' then or4 (rk pr p.length pr' q.length) (lx p q) (lx c d) (nm bw bw') else 0) = r)) :
    Calls Tryd.prog 16 #[.agg #[.slice pa p.length pd, .int .i64 pr, .slice ca c.length cd, .int .i64 bw], .agg #[.slice qa q.length qd, .int .i64 pr', .slice da d.length dd, .int .i64 bw']] w fun e w' => e = .returned (.int .i64 r) ∧ Below w.heap.size w w' := H.out ▸ iattrcmp_any pa ca qa da pd cd qd dd p c q d pr bw pr' bw' w hp hc hq hd
end Go.Proofs.YtcmbajphholliabDoor
