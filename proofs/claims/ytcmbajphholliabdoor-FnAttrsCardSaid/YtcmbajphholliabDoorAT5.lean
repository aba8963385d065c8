/-
  The law on attributes: its walk. Conditions: those in each contract.
-/
import Derived.Test.YtcmbajphholliabDoorAT4
import Derived.Test.YtcmbajphholliabDoorI10
import Derived.Test.YtcmbajphholliabDoorI12
import Derived.Test.YtcmbajphholliabDoorJ2
import Derived.Test.YtcmbajphholliabDoorR3
import Derived.Test.YtcmbajphholliabDoorG2
import Derived.Deep.Cut
import Derived.Deep.CutRange
namespace Go.Proofs.YtcmbajphholliabDoor
open Go.ChangeShapes Go.WideShapes Go.ChangeAt Go.RowKit Go.BigFrame Go.Joins
set_option linter.unusedVariables false
set_option maxRecDepth 100000
set_option linter.unusedSimpArgs false
set_option maxRecDepth 100000

theorem nm_tri (a b : Int) : (nm a b = -1 ∧ a < b) ∨ (nm a b = 0 ∧ a = b) ∨ (nm a b = 1 ∧ b < a) := by
  by_cases h : a < b
  · exact .inl ⟨nm_lt h, h⟩
  · by_cases h2 : b < a
    · exact .inr (.inr ⟨nm_gt h2, h2⟩)
    · exact .inr (.inl ⟨(nm_zero a b).2 (by omega), by omega⟩)
theorem nm_neg (a b : Int) : nm b a = - nm a b := by
  rcases nm_tri a b with ⟨h, h2⟩ | ⟨h, h2⟩ | ⟨h, h2⟩
  · rw [h, nm_gt h2]; rfl
  · rw [h, (nm_zero b a).2 h2.symm]; rfl
  · rw [h, nm_lt h2]
theorem rk_neg (pr : Int) (pl : Nat) (pr' : Int) (pl' : Nat) : rk pr' pl' pr pl = - rk pr pl pr' pl' := by
  unfold rk
  by_cases h : pr = pr'
  · rw [if_pos h, if_pos h.symm, nm_neg]
  · rw [if_neg h, if_neg (fun e => h e.symm), nm_neg]
theorem rk_tri (pr : Int) (pl : Nat) (pr' : Int) (pl' : Nat) : rk pr pl pr' pl' = -1 ∨ rk pr pl pr' pl' = 0 ∨ rk pr pl pr' pl' = 1 := by
  unfold rk
  split
  · rcases nm_tri (pl : Int) (pl' : Int) with ⟨h, _⟩ | ⟨h, _⟩ | ⟨h, _⟩ <;> simp [h]
  · rcases nm_tri pr' pr with ⟨h, _⟩ | ⟨h, _⟩ | ⟨h, _⟩ <;> simp [h]
theorem lx_neg : ∀ (l m : List Int), lx m l = - lx l m
  | [], [] => by simp [lx]
  | [], y :: m => by simp [lx]
  | x :: l, [] => by simp [lx]
  | x :: l, y :: m => by
    have ih := lx_neg l m
    by_cases h : x = y
    · subst h
      have h0 := (nm_zero x x).2 rfl
      simp [lx, h0, ih]
    · by_cases h2 : x < y
      · have h3 : ¬ y < x := by omega
        simp [lx, h, h2, h3, Ne.symm h, nm_lt, nm_gt, ih]
      · have h3 : y < x := by omega
        simp [lx, h, h2, h3, Ne.symm h, nm_lt, nm_gt, ih]
theorem lx_tri : ∀ (l m : List Int), lx l m = -1 ∨ lx l m = 0 ∨ lx l m = 1
  | [], [] => by simp [lx]
  | [], y :: m => by simp [lx]
  | x :: l, [] => by simp [lx]
  | x :: l, y :: m => by
    have ih := lx_tri l m
    by_cases h : x = y
    · subst h
      have h0 := (nm_zero x x).2 rfl
      simpa [lx, h0] using ih
    · by_cases h2 : x < y
      · simp [lx, h, h2, nm_lt]
      · have h3 : y < x := by omega
        simp [lx, h, h2, h3, nm_gt]
theorem or4_neg (a b c d : Int) : or4 (-a) (-b) (-c) (-d) = - or4 a b c d := by
  unfold or4
  by_cases ha : a = 0
  · subst ha
    by_cases hb : b = 0
    · subst hb
      by_cases hc : c = 0
      · subst hc; simp
      · simp [hc]
    · simp [hb]
  · simp [ha]
theorem or4_tri {a b c d : Int} (ha : a = -1 ∨ a = 0 ∨ a = 1) (hb : b = -1 ∨ b = 0 ∨ b = 1) (hc : c = -1 ∨ c = 0 ∨ c = 1) (hd : d = -1 ∨ d = 0 ∨ d = 1) : or4 a b c d = -1 ∨ or4 a b c d = 0 ∨ or4 a b c d = 1 := by
  unfold or4
  repeat' split
  all_goals assumption
theorem nm_tri1 (a b : Int) : nm a b = -1 ∨ nm a b = 0 ∨ nm a b = 1 := by
  rcases nm_tri a b with ⟨h, _⟩ | ⟨h, _⟩ | ⟨h, _⟩ <;> simp [h]
theorem cmp_cases (p c q d : List Int) (pr bw pr2 bw2 : Int) : ∃ (B E : Bool) (r : Int), decide (rk pr p.length pr2 q.length < 0) = B ∧ (rk pr p.length pr2 q.length == 0) = E ∧ (rk pr2 q.length pr p.length == 0) = E ∧ or4 (rk pr p.length pr2 q.length) (lx p q) (lx c d) (nm bw bw2) = r ∧ or4 (rk pr2 q.length pr p.length) (lx q p) (lx d c) (nm bw2 bw) = -r ∧
    ((B = true ∧ E = false ∧ r = -1) ∨ (B = false ∧ E = true ∧ r = -1) ∨ (B = false ∧ E = true ∧ r = 0) ∨ (B = false ∧ E = true ∧ r = 1) ∨ (B = false ∧ E = false ∧ r = 1)) := by
  have hn : or4 (rk pr2 q.length pr p.length) (lx q p) (lx d c) (nm bw2 bw) = - (or4 (rk pr p.length pr2 q.length) (lx p q) (lx c d) (nm bw bw2)) := by rw [rk_neg pr p.length pr2 q.length, lx_neg p q, lx_neg c d, nm_neg bw bw2, or4_neg]
  have ht := or4_tri (rk_tri pr p.length pr2 q.length) (lx_tri p q) (lx_tri c d) (nm_tri1 bw bw2)
  have hr := rk_neg pr p.length pr2 q.length
  obtain ⟨r, hR⟩ : ∃ r, or4 (rk pr p.length pr2 q.length) (lx p q) (lx c d) (nm bw bw2) = r := ⟨_, rfl⟩
  rw [hR] at hn ht
  refine ⟨_, _, r, rfl, rfl, ?_, hR, hn, ?_⟩
  · rw [hr]
    rcases rk_tri pr p.length pr2 q.length with h | h | h <;> simp [h]
  · rcases rk_tri pr p.length pr2 q.length with h | h | h
    · left
      have : r = -1 := by rw [← hR]; unfold or4; rw [h]; rfl
      simp [h, this]
    · right
      rcases ht with t | t | t <;> simp [h, t]
    · right; right; right; right
      have : r = 1 := by rw [← hR]; unfold or4; rw [h]; rfl
      simp [h, this]
theorem prep_full (pv cv : Value) (p c : List Int) (pr bw an : Int) (w : World) (hp : RdI w pv p) (hc : RdI w cv c) (han : I64 an) (h : Hid ((aokB p pr c bw && asB an) = true)) (h8 : Hid (p.length = 8)) :
    Calls Tryd.prog 22 #[.agg #[pv, .int .i64 pr, cv, .int .i64 bw], .int .i64 an] w (NewA2 w p pr c bw false) := by
  have := iprepend_any pv cv p c pr bw an w hp hc han
  simpa only [h.out, if_true, if_pos h8.out, Bool.true_and, show (!decide (p.length = 8)) = false by simp [h8.out]] using this
theorem prep_yes (pv cv : Value) (p c : List Int) (pr bw an : Int) (w : World) (hp : RdI w pv p) (hc : RdI w cv c) (han : I64 an) (h : Hid ((aokB p pr c bw && asB an) = true)) (h8 : Hid (¬ p.length = 8)) :
    Calls Tryd.prog 22 #[.agg #[pv, .int .i64 pr, cv, .int .i64 bw], .int .i64 an] w (NewA2 w (an :: p) pr c bw true) := by
  have := iprepend_any pv cv p c pr bw an w hp hc han
  simpa only [h.out, if_true, if_neg h8.out, Bool.true_and, show (!decide (p.length = 8)) = true by simp [h8.out]] using this
theorem comm_yes (pv cv : Value) (p c : List Int) (pr bw an : Int) (w : World) (hp : RdI w pv p) (hc : RdI w cv c) (han : I64 an) (hcap : ∃ a cc, cv = .slice a c.length cc ∧ c.length ≤ cc) (h : Hid ((aokB p pr c bw && asB an) = true)) (h4 : Hid ((insL c an).length ≤ 4)) {C : List Int} (HC : Hid (insL c an = C)) :
    Calls Tryd.prog 23 #[.agg #[pv, .int .i64 pr, cv, .int .i64 bw], .int .i64 an] w (NewA2 w p pr C bw true) := by
  refine iwithc_t (Lib.hid ?_) han pv cv p c pr bw an w hp hc hcap
  have h4' := h4.out
  rw [HC.out] at h4'
  simp only [h.out, HC.out, if_true, if_pos h4', Bool.true_and, decide_eq_true_eq, and_self, true_and]
  exact h4'
theorem comm_no (pv cv : Value) (p c : List Int) (pr bw an : Int) (w : World) (hp : RdI w pv p) (hc : RdI w cv c) (han : I64 an) (hcap : ∃ a cc, cv = .slice a c.length cc ∧ c.length ≤ cc) (h : Hid ((aokB p pr c bw && asB an) = true)) (h4 : Hid (¬ (insL c an).length ≤ 4)) :
    Calls Tryd.prog 23 #[.agg #[pv, .int .i64 pr, cv, .int .i64 bw], .int .i64 an] w (NewA2 w p pr c bw false) := by
  refine iwithc_t (Lib.hid ?_) han pv cv p c pr bw an w hp hc hcap
  simp only [h.out, if_true, if_neg h4.out, Bool.true_and, decide_eq_false_iff_not, and_self, true_and]
  exact h4.out
theorem shut_yes (pv cv : Value) (p c : List Int) (pr bw : Int) (w : World) (hp : RdI w pv p) (hc : RdI w cv c) (h : Hid (aokB p pr c bw = true)) {s : Int} (hs : Hid (shutP pr c = s)) :
    Calls Tryd.prog 25 #[.agg #[pv, .int .i64 pr, cv, .int .i64 bw]] w (NewA w p s c bw) := by
  have := ishut_any pv cv p c pr bw w hp hc
  simpa only [h.out, if_true, hs.out] using this
theorem bet_t {pa ca qa da : Option Addr} {pd cd qd dd : Nat} {p c q d : List Int} {pr bw pr' bw' : Int} {b : Bool} (w : World) (hp : RdI w (.slice pa p.length pd) p) (hc : RdI w (.slice ca c.length cd) c) (hq : RdI w (.slice qa q.length qd) q) (hd : RdI w (.slice da d.length dd) d) (H : Hid ((aokB p pr c bw && aokB q pr' d bw' && decide (rk pr p.length pr' q.length < 0)) = b)) :
    Calls Tryd.prog 18 #[.agg #[.slice pa p.length pd, .int .i64 pr, .slice ca c.length cd, .int .i64 bw], .agg #[.slice qa q.length qd, .int .i64 pr', .slice da d.length dd, .int .i64 bw']] w fun e w' => e = .returned (.bool b) ∧ Below w.heap.size w w' := H.out ▸ ibetter_any pa ca qa da pd cd qd dd p c q d pr bw pr' bw' w hp hc hq hd
theorem eql_t {pa ca qa da : Option Addr} {pd cd qd dd : Nat} {p c q d : List Int} {pr bw pr' bw' : Int} {b : Bool} (w : World) (hp : RdI w (.slice pa p.length pd) p) (hc : RdI w (.slice ca c.length cd) c) (hq : RdI w (.slice qa q.length qd) q) (hd : RdI w (.slice da d.length dd) d) (H : Hid ((aokB p pr c bw && aokB q pr' d bw' && (rk pr p.length pr' q.length == 0)) = b)) :
    Calls Tryd.prog 19 #[.agg #[.slice pa p.length pd, .int .i64 pr, .slice ca c.length cd, .int .i64 bw], .agg #[.slice qa q.length qd, .int .i64 pr', .slice da d.length dd, .int .i64 bw']] w fun e w' => e = .returned (.bool b) ∧ Below w.heap.size w w' := H.out ▸ iequal_any pa ca qa da pd cd qd dd p c q d pr bw pr' bw' w hp hc hq hd
theorem path_t {pv cv : Value} {p c : List Int} {pr bw an : Int} {b : Bool} (w : World) (hp : RdI w pv p) (hc : RdI w cv c) (H : Hid ((aokB p pr c bw && decide (an ∈ p)) = b)) :
    Calls Tryd.prog 24 #[.agg #[pv, .int .i64 pr, cv, .int .i64 bw], .int .i64 an] w fun e w' => e = .returned (.bool b) ∧ Below w.heap.size w w' := H.out ▸ ipath_any pv cv p c pr bw an w hp hc
theorem text_yes (pv cv : Value) (p c : List Int) (pr bw : Int) (w : World) (hp : RdI w pv p) (hc : RdI w cv c) (ht : Tab w) (h : Hid (aokB p pr c bw = true)) :
    Calls Tryd.prog 26 #[.agg #[pv, .int .i64 pr, cv, .int .i64 bw]] w fun e w' => ∃ a n x, e = .returned (.slice a (n + 1) x) ∧ Below w.heap.size w w' := by
  refine (iatext_any pv cv p c pr bw w hp hc ht).mono ?_
  rintro e w' ⟨u, he, ho, hb⟩
  obtain ⟨a, x, rfl⟩ := ho.rd.len
  have hpos : 0 < (atextL p pr c bw).length := by
    unfold atextL
    rw [if_pos h.out]
    unfold atxt
    simp only [List.length_append, List.length_cons]
    omega
  have hl : ∃ n, (atextL p pr c bw).length = n + 1 := ⟨(atextL p pr c bw).length - 1, by omega⟩
  obtain ⟨n, hn⟩ := hl
  rw [hn] at he
  exact ⟨a, n, x, he, hb⟩
theorem aok_cons {p c : List Int} {pr bw x : Int} (h : aokB p pr c bw = true) (h8 : ¬ p.length = 8) (hx : asB x = true) : aokB (x :: p) pr c bw = true := by
  have h1 := (aok_p h).1
  have h2 := (aok_p h).2.2.2.1
  have h3 : numsB (x :: p) = true := nums_yes rfl (fun i hi => by
    cases i with
    | zero => simpa using hx
    | succ i =>
      unfold numsB at h2
      simp only [decide_eq_true_eq] at h2
      simpa using h2 i (by simpa using hi))
  unfold aokB at h ⊢
  simp only [Bool.and_eq_true, decide_eq_true_eq] at h ⊢
  simp only [List.length_cons]
  refine ⟨⟨⟨⟨⟨by omega, h3⟩, h.1.1.1.2⟩, h.1.1.2⟩, h.1.2⟩, h.2⟩
theorem aok_ins {p c : List Int} {pr bw x : Int} (h : aokB p pr c bw = true) (h4 : (insL c x).length ≤ 4) (hx : asB x = true) : aokB p pr (insL c x) bw = true := by
  have hpw := insL_pair (n := x) (asc_pair (aok_p h).2.2.1)
  have h2 := (aok_p h).2.2.2.2
  unfold numsB at h2
  simp only [decide_eq_true_eq] at h2
  have h3 : numsB (insL c x) = true := nums_yes rfl (fun i hi => by
    have hm : (insL c x).getD i 0 ∈ insL c x := by simp [List.getD, hi]
    rcases List.mem_append.1 hm with q | q
    · obtain ⟨j, hj, e⟩ := List.getElem_of_mem (List.mem_filter.1 q).1
      have := h2 j hj
      rw [show c.getD j 0 = c[j] by simp [List.getD, hj], e] at this
      exact this
    · rcases List.mem_cons.1 q with q | q
      · rw [q]; exact hx
      · obtain ⟨j, hj, e⟩ := List.getElem_of_mem (List.mem_filter.1 q).1
        have := h2 j hj
        rw [show c.getD j 0 = c[j] by simp [List.getD, hj], e] at this
        exact this)
  have h5 : ascB (insL c x) = true := asc_yes rfl (fun i hi => by
    have := List.pairwise_iff_getElem.1 hpw i (i + 1) (by omega) hi (by omega)
    rw [show (insL c x).getD i 0 = (insL c x)[i] by simp [List.getD, show i < (insL c x).length by omega], show (insL c x).getD (i + 1) 0 = (insL c x)[i + 1] by simp [List.getD, hi]]
    exact this)
  unfold aokB at h ⊢
  simp only [Bool.and_eq_true, decide_eq_true_eq] at h ⊢
  exact ⟨⟨⟨⟨⟨h.1.1.1.1.1, h.1.1.1.1.2⟩, h.1.1.1.2⟩, h.1.1.2⟩, h4, h3⟩, h5⟩
theorem mem_insL (c : List Int) (x : Int) : x ∈ insL c x := by unfold insL; simp
theorem rk_longer (pr : Int) (n : Nat) : rk pr n pr (n + 1) = -1 := by
  unfold rk
  rw [if_pos rfl]
  exact nm_lt (by omega)
set_option maxHeartbeats 16000000 in
theorem attrs_walk (W : World) (v : Value) (hv : ∃ ls, Rd W v ls) (ht : Tab W) :
    Calls Tryd.prog 5 #[v] W fun e w' => e = .returned (.bool true) ∧ Below W.heap.size W w' := by
  obtain ⟨ls, hr⟩ : ∃ ls, Rd W v ls := hv
  go_enter Tryd.func5, Tryd.ntmps5
  go_wp2_with fail
  refine (drawAttrCmp_any v ls _ hr).mono ?_
  rintro e w1 ⟨pa, px, ca, cx, qa, qx, da, dx, pr, bw, pr2, bw2, p, c, q, d, rfl, hp, hc, hq, hd, hpr, hbw, hpr2, hbw2, hcx, hb⟩
  have B0 := hb
  replace ht := ht.keep hb
  clear hb hr
  have bP := Bl.new w1 [.slice pa p.length px, .int .i64 pr, .slice ca c.length cx, .int .i64 bw] 36 (w1.heap.size) (by simp)
  replace hp := hp.alloc (.cells #[.slice pa p.length px, .int .i64 pr, .slice ca c.length cx, .int .i64 bw] 36)
  replace hc := hc.alloc (.cells #[.slice pa p.length px, .int .i64 pr, .slice ca c.length cx, .int .i64 bw] 36)
  replace hq := hq.alloc (.cells #[.slice pa p.length px, .int .i64 pr, .slice ca c.length cx, .int .i64 bw] 36)
  replace hd := hd.alloc (.cells #[.slice pa p.length px, .int .i64 pr, .slice ca c.length cx, .int .i64 bw] 36)
  replace ht := ht.keep ((Below.refl _ _).alloc (Nat.le_refl _) (.cells #[.slice pa p.length px, .int .i64 pr, .slice ca c.length cx, .int .i64 bw] 36))
  replace B0 := B0.alloc B0.size (.cells #[.slice pa p.length px, .int .i64 pr, .slice ca c.length cx, .int .i64 bw] 36)
  have bQ := Bl.new (w1.alloc (.cells #[.slice pa p.length px, .int .i64 pr, .slice ca c.length cx, .int .i64 bw] 36)) [.slice qa q.length qx, .int .i64 pr2, .slice da d.length dx, .int .i64 bw2] 36 (w1.heap.size + 1) (by simp)
  replace bP := bP.alloc (.cells #[.slice qa q.length qx, .int .i64 pr2, .slice da d.length dx, .int .i64 bw2] 36)
  replace hp := hp.alloc (.cells #[.slice qa q.length qx, .int .i64 pr2, .slice da d.length dx, .int .i64 bw2] 36)
  replace hc := hc.alloc (.cells #[.slice qa q.length qx, .int .i64 pr2, .slice da d.length dx, .int .i64 bw2] 36)
  replace hq := hq.alloc (.cells #[.slice qa q.length qx, .int .i64 pr2, .slice da d.length dx, .int .i64 bw2] 36)
  replace hd := hd.alloc (.cells #[.slice qa q.length qx, .int .i64 pr2, .slice da d.length dx, .int .i64 bw2] 36)
  replace ht := ht.keep ((Below.refl _ _).alloc (Nat.le_refl _) (.cells #[.slice qa q.length qx, .int .i64 pr2, .slice da d.length dx, .int .i64 bw2] 36))
  replace B0 := B0.alloc B0.size (.cells #[.slice qa q.length qx, .int .i64 pr2, .slice da d.length dx, .int .i64 bw2] 36)
  have kP0 := bP.c 0 rfl
  have kP1 := bP.c 1 rfl
  have kP2 := bP.c 2 rfl
  have kP3 := bP.c 3 rfl
  have kQ0 := bQ.c 0 rfl
  have kQ1 := bQ.c 1 rfl
  have kQ2 := bQ.c 2 rfl
  have kQ3 := bQ.c 3 rfl
  go_wp2_with fail
  clear kP0 kP1 kP2 kP3 kQ0 kQ1 kQ2 kQ3
  obtain ⟨Q, eQ⟩ : ∃ Q, Q = (w1.heap.size + 1) := ⟨_, rfl⟩
  rw [← eQ] at bQ
  try rw [← eQ]
  clear eQ
  obtain ⟨P, eP⟩ : ∃ P, P = (w1.heap.size) := ⟨_, rfl⟩
  rw [← eP] at bP
  try rw [← eP]
  clear eP
  have HZ : Hid (aokB [] 0 [] 0 = true) := Lib.hid (by decide)
  have RN : ∀ {w : World}, RdI w (.slice none ([] : List Int).length 0) [] := fun {w} => ⟨by simp, by simp, .inl ⟨none, 0, rfl, rfl, fun _ => rfl⟩⟩
  cases ha : aokB p pr c bw
  · have HA := Lib.hid ha
    have HC := Lib.hid (show (if aokB p pr c bw && aokB q pr2 d bw2 then or4 (rk pr p.length pr2 q.length) (lx p q) (lx c d) (nm bw bw2) else 0) = 0 by rw [ha]; rfl)
    have HB := Lib.hid (show (aokB p pr c bw && aokB q pr2 d bw2 && decide (rk pr p.length pr2 q.length < 0)) = false by rw [ha]; rfl)
    have HE := Lib.hid (show (aokB p pr c bw && aokB q pr2 d bw2 && (rk pr p.length pr2 q.length == 0)) = false by rw [ha]; rfl)
    clear ha
    refine (iattrcmp_t _ _ _ _ _ _ _ _ p c q d pr bw pr2 bw2 _ hp hc hq hd HC).mono ?_
    rintro e w2 ⟨rfl, hb⟩
    replace bP := bP.keep hb
    replace bQ := bQ.keep hb
    replace hp := hp.keep hb
    replace hc := hc.keep hb
    replace hq := hq.keep hb
    replace hd := hd.keep hb
    replace ht := ht.keep hb
    replace B0 := below_step B0 hb
    clear hb
    have kP0 := bP.c 0 rfl
    have kP1 := bP.c 1 rfl
    have kP2 := bP.c 2 rfl
    have kP3 := bP.c 3 rfl
    have kQ0 := bQ.c 0 rfl
    have kQ1 := bQ.c 1 rfl
    have kQ2 := bQ.c 2 rfl
    have kQ3 := bQ.c 3 rfl
    go_wp2_with fail
    clear kP0 kP1 kP2 kP3 kQ0 kQ1 kQ2 kQ3
    refine (saok_t _ hp hc HA).mono ?_
    rintro e w3 ⟨rfl, hb⟩
    replace bP := bP.keep hb
    replace bQ := bQ.keep hb
    replace hp := hp.keep hb
    replace hc := hc.keep hb
    replace hq := hq.keep hb
    replace hd := hd.keep hb
    replace ht := ht.keep hb
    replace B0 := below_step B0 hb
    clear hb
    have kP0 := bP.c 0 rfl
    have kP1 := bP.c 1 rfl
    have kP2 := bP.c 2 rfl
    have kP3 := bP.c 3 rfl
    have kQ0 := bQ.c 0 rfl
    have kQ1 := bQ.c 1 rfl
    have kQ2 := bQ.c 2 rfl
    have kQ3 := bQ.c 3 rfl
    go_wp2_with fail
    clear kP0 kP1 kP2 kP3 kQ0 kQ1 kQ2 kQ3
    refine (bet_t _ hp hc hq hd HB).mono ?_
    rintro e w4 ⟨rfl, hb⟩
    replace bP := bP.keep hb
    replace bQ := bQ.keep hb
    replace hp := hp.keep hb
    replace hc := hc.keep hb
    replace hq := hq.keep hb
    replace hd := hd.keep hb
    replace ht := ht.keep hb
    replace B0 := below_step B0 hb
    clear hb
    have kP0 := bP.c 0 rfl
    have kP1 := bP.c 1 rfl
    have kP2 := bP.c 2 rfl
    have kP3 := bP.c 3 rfl
    have kQ0 := bQ.c 0 rfl
    have kQ1 := bQ.c 1 rfl
    have kQ2 := bQ.c 2 rfl
    have kQ3 := bQ.c 3 rfl
    go_wp2_with fail
    clear kP0 kP1 kP2 kP3 kQ0 kQ1 kQ2 kQ3
    refine (eql_t _ hp hc hq hd HE).mono ?_
    rintro e w5 ⟨rfl, hb⟩
    replace bP := bP.keep hb
    replace bQ := bQ.keep hb
    replace hp := hp.keep hb
    replace hc := hc.keep hb
    replace hq := hq.keep hb
    replace hd := hd.keep hb
    replace ht := ht.keep hb
    replace B0 := below_step B0 hb
    clear hb
    have kP0 := bP.c 0 rfl
    have kP1 := bP.c 1 rfl
    have kP2 := bP.c 2 rfl
    have kP3 := bP.c 3 rfl
    have kQ0 := bQ.c 0 rfl
    have kQ1 := bQ.c 1 rfl
    have kQ2 := bQ.c 2 rfl
    have kQ3 := bQ.c 3 rfl
    go_wp2_with fail
    clear kP0 kP1 kP2 kP3 kQ0 kQ1 kQ2 kQ3
    refine (words_any _ ht).mono ?_
    rintro e w6 ⟨rfl, hb⟩
    replace bP := bP.keep hb
    replace bQ := bQ.keep hb
    replace hp := hp.keep hb
    replace hc := hc.keep hb
    replace hq := hq.keep hb
    replace hd := hd.keep hb
    replace ht := ht.keep hb
    replace B0 := below_step B0 hb
    clear hb
    have kP0 := bP.c 0 rfl
    have kP1 := bP.c 1 rfl
    have kP2 := bP.c 2 rfl
    have kP3 := bP.c 3 rfl
    have kQ0 := bQ.c 0 rfl
    have kQ1 := bQ.c 1 rfl
    have kQ2 := bQ.c 2 rfl
    have kQ3 := bQ.c 3 rfl
    go_wp2_with fail
    clear kP0 kP1 kP2 kP3 kQ0 kQ1 kQ2 kQ3
    refine (iaok_t _ RN RN HZ).mono ?_
    rintro e w7 ⟨rfl, hb⟩
    replace bP := bP.keep hb
    replace bQ := bQ.keep hb
    replace hp := hp.keep hb
    replace hc := hc.keep hb
    replace hq := hq.keep hb
    replace hd := hd.keep hb
    replace ht := ht.keep hb
    replace B0 := below_step B0 hb
    clear hb
    go_wp2
    go_ret
    exact ⟨rfl, B0⟩
  · cases hb2 : aokB q pr2 d bw2
    · have HA := Lib.hid ha
      have HB2 := Lib.hid hb2
      have HC := Lib.hid (show (if aokB p pr c bw && aokB q pr2 d bw2 then or4 (rk pr p.length pr2 q.length) (lx p q) (lx c d) (nm bw bw2) else 0) = 0 by rw [ha, hb2]; rfl)
      have HB := Lib.hid (show (aokB p pr c bw && aokB q pr2 d bw2 && decide (rk pr p.length pr2 q.length < 0)) = false by rw [ha, hb2]; rfl)
      have HE := Lib.hid (show (aokB p pr c bw && aokB q pr2 d bw2 && (rk pr p.length pr2 q.length == 0)) = false by rw [ha, hb2]; rfl)
      clear ha hb2
      refine (iattrcmp_t _ _ _ _ _ _ _ _ p c q d pr bw pr2 bw2 _ hp hc hq hd HC).mono ?_
      rintro e w2 ⟨rfl, hb⟩
      replace bP := bP.keep hb
      replace bQ := bQ.keep hb
      replace hp := hp.keep hb
      replace hc := hc.keep hb
      replace hq := hq.keep hb
      replace hd := hd.keep hb
      replace ht := ht.keep hb
      replace B0 := below_step B0 hb
      clear hb
      have kP0 := bP.c 0 rfl
      have kP1 := bP.c 1 rfl
      have kP2 := bP.c 2 rfl
      have kP3 := bP.c 3 rfl
      have kQ0 := bQ.c 0 rfl
      have kQ1 := bQ.c 1 rfl
      have kQ2 := bQ.c 2 rfl
      have kQ3 := bQ.c 3 rfl
      go_wp2_with fail
      clear kP0 kP1 kP2 kP3 kQ0 kQ1 kQ2 kQ3
      refine (saok_t _ hp hc HA).mono ?_
      rintro e w3 ⟨rfl, hb⟩
      replace bP := bP.keep hb
      replace bQ := bQ.keep hb
      replace hp := hp.keep hb
      replace hc := hc.keep hb
      replace hq := hq.keep hb
      replace hd := hd.keep hb
      replace ht := ht.keep hb
      replace B0 := below_step B0 hb
      clear hb
      have kP0 := bP.c 0 rfl
      have kP1 := bP.c 1 rfl
      have kP2 := bP.c 2 rfl
      have kP3 := bP.c 3 rfl
      have kQ0 := bQ.c 0 rfl
      have kQ1 := bQ.c 1 rfl
      have kQ2 := bQ.c 2 rfl
      have kQ3 := bQ.c 3 rfl
      go_wp2_with fail
      clear kP0 kP1 kP2 kP3 kQ0 kQ1 kQ2 kQ3
      refine (saok_t _ hq hd HB2).mono ?_
      rintro e w4 ⟨rfl, hb⟩
      replace bP := bP.keep hb
      replace bQ := bQ.keep hb
      replace hp := hp.keep hb
      replace hc := hc.keep hb
      replace hq := hq.keep hb
      replace hd := hd.keep hb
      replace ht := ht.keep hb
      replace B0 := below_step B0 hb
      clear hb
      have kP0 := bP.c 0 rfl
      have kP1 := bP.c 1 rfl
      have kP2 := bP.c 2 rfl
      have kP3 := bP.c 3 rfl
      have kQ0 := bQ.c 0 rfl
      have kQ1 := bQ.c 1 rfl
      have kQ2 := bQ.c 2 rfl
      have kQ3 := bQ.c 3 rfl
      go_wp2_with fail
      clear kP0 kP1 kP2 kP3 kQ0 kQ1 kQ2 kQ3
      refine (bet_t _ hp hc hq hd HB).mono ?_
      rintro e w5 ⟨rfl, hb⟩
      replace bP := bP.keep hb
      replace bQ := bQ.keep hb
      replace hp := hp.keep hb
      replace hc := hc.keep hb
      replace hq := hq.keep hb
      replace hd := hd.keep hb
      replace ht := ht.keep hb
      replace B0 := below_step B0 hb
      clear hb
      have kP0 := bP.c 0 rfl
      have kP1 := bP.c 1 rfl
      have kP2 := bP.c 2 rfl
      have kP3 := bP.c 3 rfl
      have kQ0 := bQ.c 0 rfl
      have kQ1 := bQ.c 1 rfl
      have kQ2 := bQ.c 2 rfl
      have kQ3 := bQ.c 3 rfl
      go_wp2_with fail
      clear kP0 kP1 kP2 kP3 kQ0 kQ1 kQ2 kQ3
      refine (eql_t _ hp hc hq hd HE).mono ?_
      rintro e w6 ⟨rfl, hb⟩
      replace bP := bP.keep hb
      replace bQ := bQ.keep hb
      replace hp := hp.keep hb
      replace hc := hc.keep hb
      replace hq := hq.keep hb
      replace hd := hd.keep hb
      replace ht := ht.keep hb
      replace B0 := below_step B0 hb
      clear hb
      have kP0 := bP.c 0 rfl
      have kP1 := bP.c 1 rfl
      have kP2 := bP.c 2 rfl
      have kP3 := bP.c 3 rfl
      have kQ0 := bQ.c 0 rfl
      have kQ1 := bQ.c 1 rfl
      have kQ2 := bQ.c 2 rfl
      have kQ3 := bQ.c 3 rfl
      go_wp2_with fail
      clear kP0 kP1 kP2 kP3 kQ0 kQ1 kQ2 kQ3
      refine (words_any _ ht).mono ?_
      rintro e w7 ⟨rfl, hb⟩
      replace bP := bP.keep hb
      replace bQ := bQ.keep hb
      replace hp := hp.keep hb
      replace hc := hc.keep hb
      replace hq := hq.keep hb
      replace hd := hd.keep hb
      replace ht := ht.keep hb
      replace B0 := below_step B0 hb
      clear hb
      have kP0 := bP.c 0 rfl
      have kP1 := bP.c 1 rfl
      have kP2 := bP.c 2 rfl
      have kP3 := bP.c 3 rfl
      have kQ0 := bQ.c 0 rfl
      have kQ1 := bQ.c 1 rfl
      have kQ2 := bQ.c 2 rfl
      have kQ3 := bQ.c 3 rfl
      go_wp2_with fail
      clear kP0 kP1 kP2 kP3 kQ0 kQ1 kQ2 kQ3
      refine (iaok_t _ RN RN HZ).mono ?_
      rintro e w8 ⟨rfl, hb⟩
      replace bP := bP.keep hb
      replace bQ := bQ.keep hb
      replace hp := hp.keep hb
      replace hc := hc.keep hb
      replace hq := hq.keep hb
      replace hd := hd.keep hb
      replace ht := ht.keep hb
      replace B0 := below_step B0 hb
      clear hb
      go_wp2
      go_ret
      exact ⟨rfl, B0⟩
    · obtain ⟨B, E, r, hB, hE, hE2, hr1, hr2, hcase⟩ := cmp_cases p c q d pr bw pr2 bw2
      have h77 : I64 77 := ⟨by decide, by decide⟩
      have h1000 : I64 1000 := ⟨by decide, by decide⟩
      have HCX := Lib.hid hcx
      have HA := Lib.hid ha
      have HB2 := Lib.hid hb2
      have hw1 : IntKind.i64.wrap (-1) = -1 := by decide
      have hw2 : IntKind.i64.wrap (- -1) = 1 := by decide
      have hw3 : IntKind.i64.wrap 1 = 1 := by decide
      have hw0 : IntKind.i64.wrap (-0) = 0 := by decide
      have hw4 : IntKind.i64.wrap 0 = 0 := by decide
      have HC := Lib.hid (show (if aokB p pr c bw && aokB q pr2 d bw2 then or4 (rk pr p.length pr2 q.length) (lx p q) (lx c d) (nm bw bw2) else 0) = r by rw [ha, hb2]; exact hr1)
      have HP7 := Lib.hid (show (aokB p pr c bw && asB 77) = true by rw [ha]; decide)
      have HP1 := Lib.hid (show (aokB p pr c bw && asB 1000) = true by rw [ha]; decide)
      have HC2 := Lib.hid (show (if aokB q pr2 d bw2 && aokB p pr c bw then or4 (rk pr2 q.length pr p.length) (lx q p) (lx d c) (nm bw2 bw) else 0) = -r by rw [ha, hb2]; exact hr2)
      have HB := Lib.hid (show (aokB p pr c bw && aokB q pr2 d bw2 && decide (rk pr p.length pr2 q.length < 0)) = B by rw [ha, hb2, hB]; rfl)
      have HE := Lib.hid (show (aokB p pr c bw && aokB q pr2 d bw2 && (rk pr p.length pr2 q.length == 0)) = E by rw [ha, hb2, hE]; rfl)
      have HE2 := Lib.hid (show (aokB q pr2 d bw2 && aokB p pr c bw && (rk pr2 q.length pr p.length == 0)) = E by rw [ha, hb2, hE2]; rfl)
      have HCASE := Lib.hid hcase
      have HAA := Lib.hid ha
      clear hB hE hE2 hr1 hr2 hb2 hcase ha
      refine (iattrcmp_t _ _ _ _ _ _ _ _ p c q d pr bw pr2 bw2 _ hp hc hq hd HC).mono ?_
      rintro e w2 ⟨rfl, hb⟩
      replace bP := bP.keep hb
      replace bQ := bQ.keep hb
      replace hp := hp.keep hb
      replace hc := hc.keep hb
      replace hq := hq.keep hb
      replace hd := hd.keep hb
      replace ht := ht.keep hb
      replace B0 := below_step B0 hb
      clear hb
      have kP0 := bP.c 0 rfl
      have kP1 := bP.c 1 rfl
      have kP2 := bP.c 2 rfl
      have kP3 := bP.c 3 rfl
      have kQ0 := bQ.c 0 rfl
      have kQ1 := bQ.c 1 rfl
      have kQ2 := bQ.c 2 rfl
      have kQ3 := bQ.c 3 rfl
      go_wp2_with fail
      clear kP0 kP1 kP2 kP3 kQ0 kQ1 kQ2 kQ3
      refine (saok_t _ hp hc HA).mono ?_
      rintro e w3 ⟨rfl, hb⟩
      replace bP := bP.keep hb
      replace bQ := bQ.keep hb
      replace hp := hp.keep hb
      replace hc := hc.keep hb
      replace hq := hq.keep hb
      replace hd := hd.keep hb
      replace ht := ht.keep hb
      replace B0 := below_step B0 hb
      clear hb
      have kP0 := bP.c 0 rfl
      have kP1 := bP.c 1 rfl
      have kP2 := bP.c 2 rfl
      have kP3 := bP.c 3 rfl
      have kQ0 := bQ.c 0 rfl
      have kQ1 := bQ.c 1 rfl
      have kQ2 := bQ.c 2 rfl
      have kQ3 := bQ.c 3 rfl
      go_wp2_with fail
      clear kP0 kP1 kP2 kP3 kQ0 kQ1 kQ2 kQ3
      refine (saok_t _ hq hd HB2).mono ?_
      rintro e w4 ⟨rfl, hb⟩
      replace bP := bP.keep hb
      replace bQ := bQ.keep hb
      replace hp := hp.keep hb
      replace hc := hc.keep hb
      replace hq := hq.keep hb
      replace hd := hd.keep hb
      replace ht := ht.keep hb
      replace B0 := below_step B0 hb
      clear hb
      have kP0 := bP.c 0 rfl
      have kP1 := bP.c 1 rfl
      have kP2 := bP.c 2 rfl
      have kP3 := bP.c 3 rfl
      have kQ0 := bQ.c 0 rfl
      have kQ1 := bQ.c 1 rfl
      have kQ2 := bQ.c 2 rfl
      have kQ3 := bQ.c 3 rfl
      go_wp2_with fail
      clear kP0 kP1 kP2 kP3 kQ0 kQ1 kQ2 kQ3
      go_cut [91] from 48 (fun s91 wx => s91 = Value.bool false ∧ Over w4 wx)
      case first =>
        rcases HCASE.out with ⟨rfl, rfl, rfl⟩ | ⟨rfl, rfl, rfl⟩ | ⟨rfl, rfl, rfl⟩ | ⟨rfl, rfl, rfl⟩ | ⟨rfl, rfl, rfl⟩
        · refine wp_region_class (C := Over (w4)) (by kernel_rfl) (by kernel_rfl) (over_drew _) ?_
          repeat (first | go_big_quiet_skip | (go_big_quiet_want; go_big_quiet_op; go_big_quiet_on) | (go_big_quiet_want; go_big_quiet_op; apply Exists.intro; refine ⟨fun w' hC => ?_, ?_⟩; ((first | (go_at_call 16; refine (iattrcmp_t _ _ _ _ _ _ _ _ q d p c pr2 bw2 pr bw _ (rdI_over hq hC) (rdI_over hd hC) (rdI_over hp hC) (rdI_over hc hC) HC2).mono ?_; rintro e w1 ⟨rfl, hb1⟩; exact ⟨rfl, over_step hC hb1⟩) | (go_at_call 18; refine (bet_t _ (rdI_over hp hC) (rdI_over hc hC) (rdI_over hq hC) (rdI_over hd hC) HB).mono ?_; rintro e w1 ⟨rfl, hb1⟩; exact ⟨rfl, over_step hC hb1⟩) | (go_at_call 19; (first | (guard_target = Calls _ _ #[.agg #[.slice pa _ _, _, _, _], _] _ _; refine (eql_t _ (rdI_over hp hC) (rdI_over hc hC) (rdI_over hq hC) (rdI_over hd hC) HE).mono ?_; rintro e w1 ⟨rfl, hb1⟩; exact ⟨rfl, over_step hC hb1⟩) | (guard_target = Calls _ _ #[.agg #[.slice qa _ _, _, _, _], _] _ _; refine (eql_t _ (rdI_over hq hC) (rdI_over hd hC) (rdI_over hp hC) (rdI_over hc hC) HE2).mono ?_; rintro e w1 ⟨rfl, hb1⟩; exact ⟨rfl, over_step hC hb1⟩))))); go_big_quiet_on) | (go_big_quiet_want; apply Exists.intro; refine ⟨fun w' hC => ?_, ?_⟩; (have k0 := over_cell hC bP.lt (bP.c 0 rfl); have k1 := over_cell hC bP.lt (bP.c 1 rfl); have k2 := over_cell hC bP.lt (bP.c 2 rfl); have k3 := over_cell hC bP.lt (bP.c 3 rfl); have k4 := over_cell hC bQ.lt (bQ.c 0 rfl); have k5 := over_cell hC bQ.lt (bQ.c 1 rfl); have k6 := over_cell hC bQ.lt (bQ.c 2 rfl); have k7 := over_cell hC bQ.lt (bQ.c 3 rfl); simp [Oper.quietAt, Oper.quietUpon, go_sem, k0, k1, k2, k3, k4, k5, k6, k7, hw0, hw1, hw2, hw3, hw4]; first | done | rfl); go_big_quiet_on; simp only [Act.put, List.setIfInBounds_toArray, List.set_cons_zero, List.set_cons_succ]))
          refine wpQuiet_nil ?_
          intro ws hC
          have k0 := over_cell hC bP.lt (bP.c 0 rfl)
          have k1 := over_cell hC bP.lt (bP.c 1 rfl)
          have k2 := over_cell hC bP.lt (bP.c 2 rfl)
          have k3 := over_cell hC bP.lt (bP.c 3 rfl)
          have k4 := over_cell hC bQ.lt (bQ.c 0 rfl)
          have k5 := over_cell hC bQ.lt (bQ.c 1 rfl)
          have k6 := over_cell hC bQ.lt (bQ.c 2 rfl)
          have k7 := over_cell hC bQ.lt (bQ.c 3 rfl)
          go_wp2_with fail
          go_meet
          case rel => exact ⟨rfl, hC⟩
        · refine wp_region_class (C := Over (w4)) (by kernel_rfl) (by kernel_rfl) (over_drew _) ?_
          repeat (first | go_big_quiet_skip | (go_big_quiet_want; go_big_quiet_op; go_big_quiet_on) | (go_big_quiet_want; go_big_quiet_op; apply Exists.intro; refine ⟨fun w' hC => ?_, ?_⟩; ((first | (go_at_call 16; refine (iattrcmp_t _ _ _ _ _ _ _ _ q d p c pr2 bw2 pr bw _ (rdI_over hq hC) (rdI_over hd hC) (rdI_over hp hC) (rdI_over hc hC) HC2).mono ?_; rintro e w1 ⟨rfl, hb1⟩; exact ⟨rfl, over_step hC hb1⟩) | (go_at_call 18; refine (bet_t _ (rdI_over hp hC) (rdI_over hc hC) (rdI_over hq hC) (rdI_over hd hC) HB).mono ?_; rintro e w1 ⟨rfl, hb1⟩; exact ⟨rfl, over_step hC hb1⟩) | (go_at_call 19; (first | (guard_target = Calls _ _ #[.agg #[.slice pa _ _, _, _, _], _] _ _; refine (eql_t _ (rdI_over hp hC) (rdI_over hc hC) (rdI_over hq hC) (rdI_over hd hC) HE).mono ?_; rintro e w1 ⟨rfl, hb1⟩; exact ⟨rfl, over_step hC hb1⟩) | (guard_target = Calls _ _ #[.agg #[.slice qa _ _, _, _, _], _] _ _; refine (eql_t _ (rdI_over hq hC) (rdI_over hd hC) (rdI_over hp hC) (rdI_over hc hC) HE2).mono ?_; rintro e w1 ⟨rfl, hb1⟩; exact ⟨rfl, over_step hC hb1⟩))))); go_big_quiet_on) | (go_big_quiet_want; apply Exists.intro; refine ⟨fun w' hC => ?_, ?_⟩; (have k0 := over_cell hC bP.lt (bP.c 0 rfl); have k1 := over_cell hC bP.lt (bP.c 1 rfl); have k2 := over_cell hC bP.lt (bP.c 2 rfl); have k3 := over_cell hC bP.lt (bP.c 3 rfl); have k4 := over_cell hC bQ.lt (bQ.c 0 rfl); have k5 := over_cell hC bQ.lt (bQ.c 1 rfl); have k6 := over_cell hC bQ.lt (bQ.c 2 rfl); have k7 := over_cell hC bQ.lt (bQ.c 3 rfl); simp [Oper.quietAt, Oper.quietUpon, go_sem, k0, k1, k2, k3, k4, k5, k6, k7, hw0, hw1, hw2, hw3, hw4]; first | done | rfl); go_big_quiet_on; simp only [Act.put, List.setIfInBounds_toArray, List.set_cons_zero, List.set_cons_succ]))
          refine wpQuiet_nil ?_
          intro ws hC
          have k0 := over_cell hC bP.lt (bP.c 0 rfl)
          have k1 := over_cell hC bP.lt (bP.c 1 rfl)
          have k2 := over_cell hC bP.lt (bP.c 2 rfl)
          have k3 := over_cell hC bP.lt (bP.c 3 rfl)
          have k4 := over_cell hC bQ.lt (bQ.c 0 rfl)
          have k5 := over_cell hC bQ.lt (bQ.c 1 rfl)
          have k6 := over_cell hC bQ.lt (bQ.c 2 rfl)
          have k7 := over_cell hC bQ.lt (bQ.c 3 rfl)
          go_wp2_with fail
          go_meet
          case rel => exact ⟨rfl, hC⟩
        · refine wp_region_class (C := Over (w4)) (by kernel_rfl) (by kernel_rfl) (over_drew _) ?_
          repeat (first | go_big_quiet_skip | (go_big_quiet_want; go_big_quiet_op; go_big_quiet_on) | (go_big_quiet_want; go_big_quiet_op; apply Exists.intro; refine ⟨fun w' hC => ?_, ?_⟩; ((first | (go_at_call 16; refine (iattrcmp_t _ _ _ _ _ _ _ _ q d p c pr2 bw2 pr bw _ (rdI_over hq hC) (rdI_over hd hC) (rdI_over hp hC) (rdI_over hc hC) HC2).mono ?_; rintro e w1 ⟨rfl, hb1⟩; exact ⟨rfl, over_step hC hb1⟩) | (go_at_call 18; refine (bet_t _ (rdI_over hp hC) (rdI_over hc hC) (rdI_over hq hC) (rdI_over hd hC) HB).mono ?_; rintro e w1 ⟨rfl, hb1⟩; exact ⟨rfl, over_step hC hb1⟩) | (go_at_call 19; (first | (guard_target = Calls _ _ #[.agg #[.slice pa _ _, _, _, _], _] _ _; refine (eql_t _ (rdI_over hp hC) (rdI_over hc hC) (rdI_over hq hC) (rdI_over hd hC) HE).mono ?_; rintro e w1 ⟨rfl, hb1⟩; exact ⟨rfl, over_step hC hb1⟩) | (guard_target = Calls _ _ #[.agg #[.slice qa _ _, _, _, _], _] _ _; refine (eql_t _ (rdI_over hq hC) (rdI_over hd hC) (rdI_over hp hC) (rdI_over hc hC) HE2).mono ?_; rintro e w1 ⟨rfl, hb1⟩; exact ⟨rfl, over_step hC hb1⟩))))); go_big_quiet_on) | (go_big_quiet_want; apply Exists.intro; refine ⟨fun w' hC => ?_, ?_⟩; (have k0 := over_cell hC bP.lt (bP.c 0 rfl); have k1 := over_cell hC bP.lt (bP.c 1 rfl); have k2 := over_cell hC bP.lt (bP.c 2 rfl); have k3 := over_cell hC bP.lt (bP.c 3 rfl); have k4 := over_cell hC bQ.lt (bQ.c 0 rfl); have k5 := over_cell hC bQ.lt (bQ.c 1 rfl); have k6 := over_cell hC bQ.lt (bQ.c 2 rfl); have k7 := over_cell hC bQ.lt (bQ.c 3 rfl); simp [Oper.quietAt, Oper.quietUpon, go_sem, k0, k1, k2, k3, k4, k5, k6, k7, hw0, hw1, hw2, hw3, hw4]; first | done | rfl); go_big_quiet_on; simp only [Act.put, List.setIfInBounds_toArray, List.set_cons_zero, List.set_cons_succ]))
          refine wpQuiet_nil ?_
          intro ws hC
          have k0 := over_cell hC bP.lt (bP.c 0 rfl)
          have k1 := over_cell hC bP.lt (bP.c 1 rfl)
          have k2 := over_cell hC bP.lt (bP.c 2 rfl)
          have k3 := over_cell hC bP.lt (bP.c 3 rfl)
          have k4 := over_cell hC bQ.lt (bQ.c 0 rfl)
          have k5 := over_cell hC bQ.lt (bQ.c 1 rfl)
          have k6 := over_cell hC bQ.lt (bQ.c 2 rfl)
          have k7 := over_cell hC bQ.lt (bQ.c 3 rfl)
          go_wp2_with fail
          go_meet
          case rel => exact ⟨rfl, hC⟩
        · refine wp_region_class (C := Over (w4)) (by kernel_rfl) (by kernel_rfl) (over_drew _) ?_
          repeat (first | go_big_quiet_skip | (go_big_quiet_want; go_big_quiet_op; go_big_quiet_on) | (go_big_quiet_want; go_big_quiet_op; apply Exists.intro; refine ⟨fun w' hC => ?_, ?_⟩; ((first | (go_at_call 16; refine (iattrcmp_t _ _ _ _ _ _ _ _ q d p c pr2 bw2 pr bw _ (rdI_over hq hC) (rdI_over hd hC) (rdI_over hp hC) (rdI_over hc hC) HC2).mono ?_; rintro e w1 ⟨rfl, hb1⟩; exact ⟨rfl, over_step hC hb1⟩) | (go_at_call 18; refine (bet_t _ (rdI_over hp hC) (rdI_over hc hC) (rdI_over hq hC) (rdI_over hd hC) HB).mono ?_; rintro e w1 ⟨rfl, hb1⟩; exact ⟨rfl, over_step hC hb1⟩) | (go_at_call 19; (first | (guard_target = Calls _ _ #[.agg #[.slice pa _ _, _, _, _], _] _ _; refine (eql_t _ (rdI_over hp hC) (rdI_over hc hC) (rdI_over hq hC) (rdI_over hd hC) HE).mono ?_; rintro e w1 ⟨rfl, hb1⟩; exact ⟨rfl, over_step hC hb1⟩) | (guard_target = Calls _ _ #[.agg #[.slice qa _ _, _, _, _], _] _ _; refine (eql_t _ (rdI_over hq hC) (rdI_over hd hC) (rdI_over hp hC) (rdI_over hc hC) HE2).mono ?_; rintro e w1 ⟨rfl, hb1⟩; exact ⟨rfl, over_step hC hb1⟩))))); go_big_quiet_on) | (go_big_quiet_want; apply Exists.intro; refine ⟨fun w' hC => ?_, ?_⟩; (have k0 := over_cell hC bP.lt (bP.c 0 rfl); have k1 := over_cell hC bP.lt (bP.c 1 rfl); have k2 := over_cell hC bP.lt (bP.c 2 rfl); have k3 := over_cell hC bP.lt (bP.c 3 rfl); have k4 := over_cell hC bQ.lt (bQ.c 0 rfl); have k5 := over_cell hC bQ.lt (bQ.c 1 rfl); have k6 := over_cell hC bQ.lt (bQ.c 2 rfl); have k7 := over_cell hC bQ.lt (bQ.c 3 rfl); simp [Oper.quietAt, Oper.quietUpon, go_sem, k0, k1, k2, k3, k4, k5, k6, k7, hw0, hw1, hw2, hw3, hw4]; first | done | rfl); go_big_quiet_on; simp only [Act.put, List.setIfInBounds_toArray, List.set_cons_zero, List.set_cons_succ]))
          refine wpQuiet_nil ?_
          intro ws hC
          have k0 := over_cell hC bP.lt (bP.c 0 rfl)
          have k1 := over_cell hC bP.lt (bP.c 1 rfl)
          have k2 := over_cell hC bP.lt (bP.c 2 rfl)
          have k3 := over_cell hC bP.lt (bP.c 3 rfl)
          have k4 := over_cell hC bQ.lt (bQ.c 0 rfl)
          have k5 := over_cell hC bQ.lt (bQ.c 1 rfl)
          have k6 := over_cell hC bQ.lt (bQ.c 2 rfl)
          have k7 := over_cell hC bQ.lt (bQ.c 3 rfl)
          go_wp2_with fail
          go_meet
          case rel => exact ⟨rfl, hC⟩
        · refine wp_region_class (C := Over (w4)) (by kernel_rfl) (by kernel_rfl) (over_drew _) ?_
          repeat (first | go_big_quiet_skip | (go_big_quiet_want; go_big_quiet_op; go_big_quiet_on) | (go_big_quiet_want; go_big_quiet_op; apply Exists.intro; refine ⟨fun w' hC => ?_, ?_⟩; ((first | (go_at_call 16; refine (iattrcmp_t _ _ _ _ _ _ _ _ q d p c pr2 bw2 pr bw _ (rdI_over hq hC) (rdI_over hd hC) (rdI_over hp hC) (rdI_over hc hC) HC2).mono ?_; rintro e w1 ⟨rfl, hb1⟩; exact ⟨rfl, over_step hC hb1⟩) | (go_at_call 18; refine (bet_t _ (rdI_over hp hC) (rdI_over hc hC) (rdI_over hq hC) (rdI_over hd hC) HB).mono ?_; rintro e w1 ⟨rfl, hb1⟩; exact ⟨rfl, over_step hC hb1⟩) | (go_at_call 19; (first | (guard_target = Calls _ _ #[.agg #[.slice pa _ _, _, _, _], _] _ _; refine (eql_t _ (rdI_over hp hC) (rdI_over hc hC) (rdI_over hq hC) (rdI_over hd hC) HE).mono ?_; rintro e w1 ⟨rfl, hb1⟩; exact ⟨rfl, over_step hC hb1⟩) | (guard_target = Calls _ _ #[.agg #[.slice qa _ _, _, _, _], _] _ _; refine (eql_t _ (rdI_over hq hC) (rdI_over hd hC) (rdI_over hp hC) (rdI_over hc hC) HE2).mono ?_; rintro e w1 ⟨rfl, hb1⟩; exact ⟨rfl, over_step hC hb1⟩))))); go_big_quiet_on) | (go_big_quiet_want; apply Exists.intro; refine ⟨fun w' hC => ?_, ?_⟩; (have k0 := over_cell hC bP.lt (bP.c 0 rfl); have k1 := over_cell hC bP.lt (bP.c 1 rfl); have k2 := over_cell hC bP.lt (bP.c 2 rfl); have k3 := over_cell hC bP.lt (bP.c 3 rfl); have k4 := over_cell hC bQ.lt (bQ.c 0 rfl); have k5 := over_cell hC bQ.lt (bQ.c 1 rfl); have k6 := over_cell hC bQ.lt (bQ.c 2 rfl); have k7 := over_cell hC bQ.lt (bQ.c 3 rfl); simp [Oper.quietAt, Oper.quietUpon, go_sem, k0, k1, k2, k3, k4, k5, k6, k7, hw0, hw1, hw2, hw3, hw4]; first | done | rfl); go_big_quiet_on; simp only [Act.put, List.setIfInBounds_toArray, List.set_cons_zero, List.set_cons_succ]))
          refine wpQuiet_nil ?_
          intro ws hC
          have k0 := over_cell hC bP.lt (bP.c 0 rfl)
          have k1 := over_cell hC bP.lt (bP.c 1 rfl)
          have k2 := over_cell hC bP.lt (bP.c 2 rfl)
          have k3 := over_cell hC bP.lt (bP.c 3 rfl)
          have k4 := over_cell hC bQ.lt (bQ.c 0 rfl)
          have k5 := over_cell hC bQ.lt (bQ.c 1 rfl)
          have k6 := over_cell hC bQ.lt (bQ.c 2 rfl)
          have k7 := over_cell hC bQ.lt (bQ.c 3 rfl)
          go_wp2_with fail
          go_meet
          case rel => exact ⟨rfl, hC⟩
      case rest =>
        obtain ⟨rfl, hC⟩ := hcut
        obtain ⟨w5, rfl⟩ : ∃ x : World, x = wc := ⟨_, rfl⟩
        replace bP := bP.keep hC
        replace bQ := bQ.keep hC
        replace hp := hp.keep hC
        replace hc := hc.keep hC
        replace hq := hq.keep hC
        replace hd := hd.keep hC
        replace ht := ht.keep hC
        replace B0 := below_step B0 hC
        clear hC
        have ha := HAA.out
        by_cases h8 : p.length = 8
        · by_cases h4 : (insL c 1000).length ≤ 4
          · have H8 := Lib.hid h8
            have H4 := Lib.hid h4
            obtain ⟨C, hC0⟩ : ∃ C, insL c 1000 = C := ⟨_, rfl⟩
            have HI := Lib.hid hC0
            have HY := Lib.hid (show aokB p pr C bw = true by rw [← hC0]; exact aok_ins ha h4 (by decide))
            have HCB : Hid (∀ z ∈ C, -9223372036854775808 ≤ z ∧ z ≤ 9223372036854775807) := Lib.hid (by
              rw [← hC0]
              intro z hz
              unfold insL at hz
              rcases List.mem_append.1 hz with k | k
              · exact hc.1 z (List.mem_filter.1 k).1
              · rcases List.mem_cons.1 k with rfl | k
                · exact ⟨by decide, by decide⟩
                · exact hc.1 z (List.mem_filter.1 k).1)
            have HS := Lib.hid (show shutP pr C = 0 by rw [← hC0]; unfold shutP; rw [if_pos (mem_insL c 1000)])
            clear hC0
            clear ha h8 h4 hcx
            have kP0 := bP.c 0 rfl
            have kP1 := bP.c 1 rfl
            have kP2 := bP.c 2 rfl
            have kP3 := bP.c 3 rfl
            have kQ0 := bQ.c 0 rfl
            have kQ1 := bQ.c 1 rfl
            have kQ2 := bQ.c 2 rfl
            have kQ3 := bQ.c 3 rfl
            go_wp2_with fail
            clear kP0 kP1 kP2 kP3 kQ0 kQ1 kQ2 kQ3
            refine (prep_full _ _ p c pr bw 77 _ hp hc h77 HP7 H8).mono ?_
            rintro e w6 ⟨xa, xx, ya, yx, rfl, hxo, hyo, -, hb⟩
            replace bP := bP.keep hb
            replace bQ := bQ.keep hb
            replace hp := hp.keep hb
            replace hc := hc.keep hb
            replace hq := hq.keep hb
            replace hd := hd.keep hb
            replace ht := ht.keep hb
            replace B0 := below_step B0 hb
            clear hb
            have hx := hxo.rd hp.1
            have hy := hyo.rd hc.1
            clear hxo hyo
            have bX := Bl.new w6 [.slice xa p.length xx, .int .i64 pr, .slice ya c.length yx, .int .i64 bw] 36 (w6.heap.size) (by simp)
            replace bP := bP.alloc (.cells #[.slice xa p.length xx, .int .i64 pr, .slice ya c.length yx, .int .i64 bw] 36)
            replace bQ := bQ.alloc (.cells #[.slice xa p.length xx, .int .i64 pr, .slice ya c.length yx, .int .i64 bw] 36)
            replace hp := hp.alloc (.cells #[.slice xa p.length xx, .int .i64 pr, .slice ya c.length yx, .int .i64 bw] 36)
            replace hc := hc.alloc (.cells #[.slice xa p.length xx, .int .i64 pr, .slice ya c.length yx, .int .i64 bw] 36)
            replace hq := hq.alloc (.cells #[.slice xa p.length xx, .int .i64 pr, .slice ya c.length yx, .int .i64 bw] 36)
            replace hd := hd.alloc (.cells #[.slice xa p.length xx, .int .i64 pr, .slice ya c.length yx, .int .i64 bw] 36)
            replace hx := hx.alloc (.cells #[.slice xa p.length xx, .int .i64 pr, .slice ya c.length yx, .int .i64 bw] 36)
            replace hy := hy.alloc (.cells #[.slice xa p.length xx, .int .i64 pr, .slice ya c.length yx, .int .i64 bw] 36)
            replace ht := ht.keep ((Below.refl _ _).alloc (Nat.le_refl _) (.cells #[.slice xa p.length xx, .int .i64 pr, .slice ya c.length yx, .int .i64 bw] 36))
            replace B0 := B0.alloc B0.size (.cells #[.slice xa p.length xx, .int .i64 pr, .slice ya c.length yx, .int .i64 bw] 36)
            have kP0 := bP.c 0 rfl
            have kP1 := bP.c 1 rfl
            have kP2 := bP.c 2 rfl
            have kP3 := bP.c 3 rfl
            have kQ0 := bQ.c 0 rfl
            have kQ1 := bQ.c 1 rfl
            have kQ2 := bQ.c 2 rfl
            have kQ3 := bQ.c 3 rfl
            have kX0 := bX.c 0 rfl
            have kX1 := bX.c 1 rfl
            have kX2 := bX.c 2 rfl
            have kX3 := bX.c 3 rfl
            go_wp2_with fail
            clear kP0 kP1 kP2 kP3 kQ0 kQ1 kQ2 kQ3 kX0 kX1 kX2 kX3
            obtain ⟨X, eX⟩ : ∃ X, X = (w6.heap.size) := ⟨_, rfl⟩
            rw [← eX] at bX
            try rw [← eX]
            clear eX
            refine (comm_yes _ _ p c pr bw 1000 _ hp hc h1000 ⟨_, _, rfl, HCX.out⟩ HP1 H4 HI).mono ?_
            rintro e w7 ⟨sa, sx, ua, ux, rfl, hso, huo, -, hb⟩
            replace bP := bP.keep hb
            replace bQ := bQ.keep hb
            replace bX := bX.keep hb
            replace hp := hp.keep hb
            replace hc := hc.keep hb
            replace hq := hq.keep hb
            replace hd := hd.keep hb
            replace hx := hx.keep hb
            replace hy := hy.keep hb
            replace ht := ht.keep hb
            replace B0 := below_step B0 hb
            clear hb
            have hs := hso.rd hp.1
            have hu := huo.rd HCB.out
            clear hso huo
            have bY := Bl.new w7 [.slice sa p.length sx, .int .i64 pr, .slice ua C.length ux, .int .i64 bw] 36 (w7.heap.size) (by simp)
            replace bP := bP.alloc (.cells #[.slice sa p.length sx, .int .i64 pr, .slice ua C.length ux, .int .i64 bw] 36)
            replace bQ := bQ.alloc (.cells #[.slice sa p.length sx, .int .i64 pr, .slice ua C.length ux, .int .i64 bw] 36)
            replace bX := bX.alloc (.cells #[.slice sa p.length sx, .int .i64 pr, .slice ua C.length ux, .int .i64 bw] 36)
            replace hp := hp.alloc (.cells #[.slice sa p.length sx, .int .i64 pr, .slice ua C.length ux, .int .i64 bw] 36)
            replace hc := hc.alloc (.cells #[.slice sa p.length sx, .int .i64 pr, .slice ua C.length ux, .int .i64 bw] 36)
            replace hq := hq.alloc (.cells #[.slice sa p.length sx, .int .i64 pr, .slice ua C.length ux, .int .i64 bw] 36)
            replace hd := hd.alloc (.cells #[.slice sa p.length sx, .int .i64 pr, .slice ua C.length ux, .int .i64 bw] 36)
            replace hx := hx.alloc (.cells #[.slice sa p.length sx, .int .i64 pr, .slice ua C.length ux, .int .i64 bw] 36)
            replace hy := hy.alloc (.cells #[.slice sa p.length sx, .int .i64 pr, .slice ua C.length ux, .int .i64 bw] 36)
            replace hs := hs.alloc (.cells #[.slice sa p.length sx, .int .i64 pr, .slice ua C.length ux, .int .i64 bw] 36)
            replace hu := hu.alloc (.cells #[.slice sa p.length sx, .int .i64 pr, .slice ua C.length ux, .int .i64 bw] 36)
            replace ht := ht.keep ((Below.refl _ _).alloc (Nat.le_refl _) (.cells #[.slice sa p.length sx, .int .i64 pr, .slice ua C.length ux, .int .i64 bw] 36))
            replace B0 := B0.alloc B0.size (.cells #[.slice sa p.length sx, .int .i64 pr, .slice ua C.length ux, .int .i64 bw] 36)
            have kP0 := bP.c 0 rfl
            have kP1 := bP.c 1 rfl
            have kP2 := bP.c 2 rfl
            have kP3 := bP.c 3 rfl
            have kQ0 := bQ.c 0 rfl
            have kQ1 := bQ.c 1 rfl
            have kQ2 := bQ.c 2 rfl
            have kQ3 := bQ.c 3 rfl
            have kX0 := bX.c 0 rfl
            have kX1 := bX.c 1 rfl
            have kX2 := bX.c 2 rfl
            have kX3 := bX.c 3 rfl
            have kY0 := bY.c 0 rfl
            have kY1 := bY.c 1 rfl
            have kY2 := bY.c 2 rfl
            have kY3 := bY.c 3 rfl
            go_wp2_with fail
            clear kP0 kP1 kP2 kP3 kQ0 kQ1 kQ2 kQ3 kX0 kX1 kX2 kX3 kY0 kY1 kY2 kY3
            obtain ⟨Y, eY⟩ : ∃ Y, Y = (w7.heap.size) := ⟨_, rfl⟩
            rw [← eY] at bY
            try rw [← eY]
            clear eY
            refine (shut_yes _ _ p C pr bw _ hs hu HY HS).mono ?_
            rintro e w8 ⟨za, zx, va, vx, rfl, -, -, -, hb⟩
            replace bP := bP.keep hb
            replace bQ := bQ.keep hb
            replace bX := bX.keep hb
            replace bY := bY.keep hb
            replace hp := hp.keep hb
            replace hc := hc.keep hb
            replace hq := hq.keep hb
            replace hd := hd.keep hb
            replace hx := hx.keep hb
            replace hy := hy.keep hb
            replace hs := hs.keep hb
            replace hu := hu.keep hb
            replace ht := ht.keep hb
            replace B0 := below_step B0 hb
            clear hb
            have bZ := Bl.new w8 [.slice za p.length zx, .int .i64 0, .slice va C.length vx, .int .i64 bw] 36 (w8.heap.size) (by simp)
            replace bP := bP.alloc (.cells #[.slice za p.length zx, .int .i64 0, .slice va C.length vx, .int .i64 bw] 36)
            replace bQ := bQ.alloc (.cells #[.slice za p.length zx, .int .i64 0, .slice va C.length vx, .int .i64 bw] 36)
            replace bX := bX.alloc (.cells #[.slice za p.length zx, .int .i64 0, .slice va C.length vx, .int .i64 bw] 36)
            replace bY := bY.alloc (.cells #[.slice za p.length zx, .int .i64 0, .slice va C.length vx, .int .i64 bw] 36)
            replace hp := hp.alloc (.cells #[.slice za p.length zx, .int .i64 0, .slice va C.length vx, .int .i64 bw] 36)
            replace hc := hc.alloc (.cells #[.slice za p.length zx, .int .i64 0, .slice va C.length vx, .int .i64 bw] 36)
            replace hq := hq.alloc (.cells #[.slice za p.length zx, .int .i64 0, .slice va C.length vx, .int .i64 bw] 36)
            replace hd := hd.alloc (.cells #[.slice za p.length zx, .int .i64 0, .slice va C.length vx, .int .i64 bw] 36)
            replace hx := hx.alloc (.cells #[.slice za p.length zx, .int .i64 0, .slice va C.length vx, .int .i64 bw] 36)
            replace hy := hy.alloc (.cells #[.slice za p.length zx, .int .i64 0, .slice va C.length vx, .int .i64 bw] 36)
            replace hs := hs.alloc (.cells #[.slice za p.length zx, .int .i64 0, .slice va C.length vx, .int .i64 bw] 36)
            replace hu := hu.alloc (.cells #[.slice za p.length zx, .int .i64 0, .slice va C.length vx, .int .i64 bw] 36)
            replace ht := ht.keep ((Below.refl _ _).alloc (Nat.le_refl _) (.cells #[.slice za p.length zx, .int .i64 0, .slice va C.length vx, .int .i64 bw] 36))
            replace B0 := B0.alloc B0.size (.cells #[.slice za p.length zx, .int .i64 0, .slice va C.length vx, .int .i64 bw] 36)
            have kP0 := bP.c 0 rfl
            have kP1 := bP.c 1 rfl
            have kP2 := bP.c 2 rfl
            have kP3 := bP.c 3 rfl
            have kQ0 := bQ.c 0 rfl
            have kQ1 := bQ.c 1 rfl
            have kQ2 := bQ.c 2 rfl
            have kQ3 := bQ.c 3 rfl
            have kX0 := bX.c 0 rfl
            have kX1 := bX.c 1 rfl
            have kX2 := bX.c 2 rfl
            have kX3 := bX.c 3 rfl
            have kY0 := bY.c 0 rfl
            have kY1 := bY.c 1 rfl
            have kY2 := bY.c 2 rfl
            have kY3 := bY.c 3 rfl
            have kZ0 := bZ.c 0 rfl
            have kZ1 := bZ.c 1 rfl
            have kZ2 := bZ.c 2 rfl
            have kZ3 := bZ.c 3 rfl
            go_wp2_with fail
            clear kP0 kP1 kP2 kP3 kQ0 kQ1 kQ2 kQ3 kX0 kX1 kX2 kX3 kY0 kY1 kY2 kY3 kZ0 kZ1 kZ2 kZ3
            obtain ⟨Z, eZ⟩ : ∃ Z, Z = (w8.heap.size) := ⟨_, rfl⟩
            rw [← eZ] at bZ
            try rw [← eZ]
            clear eZ
            refine (iaok_t _ hs hu HY).mono ?_
            rintro e w9 ⟨rfl, hb⟩
            replace bP := bP.keep hb
            replace bQ := bQ.keep hb
            replace bX := bX.keep hb
            replace bY := bY.keep hb
            replace bZ := bZ.keep hb
            replace hp := hp.keep hb
            replace hc := hc.keep hb
            replace hq := hq.keep hb
            replace hd := hd.keep hb
            replace hx := hx.keep hb
            replace hy := hy.keep hb
            replace hs := hs.keep hb
            replace hu := hu.keep hb
            replace ht := ht.keep hb
            replace B0 := below_step B0 hb
            clear hb
            have kP0 := bP.c 0 rfl
            have kP1 := bP.c 1 rfl
            have kP2 := bP.c 2 rfl
            have kP3 := bP.c 3 rfl
            have kQ0 := bQ.c 0 rfl
            have kQ1 := bQ.c 1 rfl
            have kQ2 := bQ.c 2 rfl
            have kQ3 := bQ.c 3 rfl
            have kX0 := bX.c 0 rfl
            have kX1 := bX.c 1 rfl
            have kX2 := bX.c 2 rfl
            have kX3 := bX.c 3 rfl
            have kY0 := bY.c 0 rfl
            have kY1 := bY.c 1 rfl
            have kY2 := bY.c 2 rfl
            have kY3 := bY.c 3 rfl
            have kZ0 := bZ.c 0 rfl
            have kZ1 := bZ.c 1 rfl
            have kZ2 := bZ.c 2 rfl
            have kZ3 := bZ.c 3 rfl
            go_wp2_with fail
            clear kP0 kP1 kP2 kP3 kQ0 kQ1 kQ2 kQ3 kX0 kX1 kX2 kX3 kY0 kY1 kY2 kY3 kZ0 kZ1 kZ2 kZ3
            refine (iaok_t _ hp hc HA).mono ?_
            rintro e w10 ⟨rfl, hb⟩
            replace bP := bP.keep hb
            replace bQ := bQ.keep hb
            replace bX := bX.keep hb
            replace bY := bY.keep hb
            replace bZ := bZ.keep hb
            replace hp := hp.keep hb
            replace hc := hc.keep hb
            replace hq := hq.keep hb
            replace hd := hd.keep hb
            replace hx := hx.keep hb
            replace hy := hy.keep hb
            replace hs := hs.keep hb
            replace hu := hu.keep hb
            replace ht := ht.keep hb
            replace B0 := below_step B0 hb
            clear hb
            have kP0 := bP.c 0 rfl
            have kP1 := bP.c 1 rfl
            have kP2 := bP.c 2 rfl
            have kP3 := bP.c 3 rfl
            have kQ0 := bQ.c 0 rfl
            have kQ1 := bQ.c 1 rfl
            have kQ2 := bQ.c 2 rfl
            have kQ3 := bQ.c 3 rfl
            have kX0 := bX.c 0 rfl
            have kX1 := bX.c 1 rfl
            have kX2 := bX.c 2 rfl
            have kX3 := bX.c 3 rfl
            have kY0 := bY.c 0 rfl
            have kY1 := bY.c 1 rfl
            have kY2 := bY.c 2 rfl
            have kY3 := bY.c 3 rfl
            have kZ0 := bZ.c 0 rfl
            have kZ1 := bZ.c 1 rfl
            have kZ2 := bZ.c 2 rfl
            have kZ3 := bZ.c 3 rfl
            go_wp2_with fail
            clear kP0 kP1 kP2 kP3 kQ0 kQ1 kQ2 kQ3 kX0 kX1 kX2 kX3 kY0 kY1 kY2 kY3 kZ0 kZ1 kZ2 kZ3
            refine (text_yes _ _ p c pr bw _ hp hc ht HA).mono ?_
            rintro e w11 ⟨ta, tn, tx, rfl, hb⟩
            replace bP := bP.keep hb
            replace bQ := bQ.keep hb
            replace bX := bX.keep hb
            replace bY := bY.keep hb
            replace bZ := bZ.keep hb
            replace hp := hp.keep hb
            replace hc := hc.keep hb
            replace hq := hq.keep hb
            replace hd := hd.keep hb
            replace hx := hx.keep hb
            replace hy := hy.keep hb
            replace hs := hs.keep hb
            replace hu := hu.keep hb
            replace ht := ht.keep hb
            replace B0 := below_step B0 hb
            clear hb
            have htn : (0 : Int) < (tn : Int) + 1 := by omega
            have kP0 := bP.c 0 rfl
            have kP1 := bP.c 1 rfl
            have kP2 := bP.c 2 rfl
            have kP3 := bP.c 3 rfl
            have kQ0 := bQ.c 0 rfl
            have kQ1 := bQ.c 1 rfl
            have kQ2 := bQ.c 2 rfl
            have kQ3 := bQ.c 3 rfl
            have kX0 := bX.c 0 rfl
            have kX1 := bX.c 1 rfl
            have kX2 := bX.c 2 rfl
            have kX3 := bX.c 3 rfl
            have kY0 := bY.c 0 rfl
            have kY1 := bY.c 1 rfl
            have kY2 := bY.c 2 rfl
            have kY3 := bY.c 3 rfl
            have kZ0 := bZ.c 0 rfl
            have kZ1 := bZ.c 1 rfl
            have kZ2 := bZ.c 2 rfl
            have kZ3 := bZ.c 3 rfl
            go_wp2_with fail
            clear kP0 kP1 kP2 kP3 kQ0 kQ1 kQ2 kQ3 kX0 kX1 kX2 kX3 kY0 kY1 kY2 kY3 kZ0 kZ1 kZ2 kZ3
            refine (words_any _ ht).mono ?_
            rintro e w12 ⟨rfl, hb⟩
            replace bP := bP.keep hb
            replace bQ := bQ.keep hb
            replace bX := bX.keep hb
            replace bY := bY.keep hb
            replace bZ := bZ.keep hb
            replace hp := hp.keep hb
            replace hc := hc.keep hb
            replace hq := hq.keep hb
            replace hd := hd.keep hb
            replace hx := hx.keep hb
            replace hy := hy.keep hb
            replace hs := hs.keep hb
            replace hu := hu.keep hb
            replace ht := ht.keep hb
            replace B0 := below_step B0 hb
            clear hb
            go_wp2
            go_ret
            exact ⟨rfl, B0⟩
          · have H8 := Lib.hid h8
            have H4 := Lib.hid h4
            have HY := Lib.hid ha
            obtain ⟨s, hs0⟩ : ∃ s, shutP pr c = s := ⟨_, rfl⟩
            have HS := Lib.hid hs0
            clear hs0
            clear ha h8 h4 hcx
            have kP0 := bP.c 0 rfl
            have kP1 := bP.c 1 rfl
            have kP2 := bP.c 2 rfl
            have kP3 := bP.c 3 rfl
            have kQ0 := bQ.c 0 rfl
            have kQ1 := bQ.c 1 rfl
            have kQ2 := bQ.c 2 rfl
            have kQ3 := bQ.c 3 rfl
            go_wp2_with fail
            clear kP0 kP1 kP2 kP3 kQ0 kQ1 kQ2 kQ3
            refine (prep_full _ _ p c pr bw 77 _ hp hc h77 HP7 H8).mono ?_
            rintro e w6 ⟨xa, xx, ya, yx, rfl, hxo, hyo, -, hb⟩
            replace bP := bP.keep hb
            replace bQ := bQ.keep hb
            replace hp := hp.keep hb
            replace hc := hc.keep hb
            replace hq := hq.keep hb
            replace hd := hd.keep hb
            replace ht := ht.keep hb
            replace B0 := below_step B0 hb
            clear hb
            have hx := hxo.rd hp.1
            have hy := hyo.rd hc.1
            clear hxo hyo
            have bX := Bl.new w6 [.slice xa p.length xx, .int .i64 pr, .slice ya c.length yx, .int .i64 bw] 36 (w6.heap.size) (by simp)
            replace bP := bP.alloc (.cells #[.slice xa p.length xx, .int .i64 pr, .slice ya c.length yx, .int .i64 bw] 36)
            replace bQ := bQ.alloc (.cells #[.slice xa p.length xx, .int .i64 pr, .slice ya c.length yx, .int .i64 bw] 36)
            replace hp := hp.alloc (.cells #[.slice xa p.length xx, .int .i64 pr, .slice ya c.length yx, .int .i64 bw] 36)
            replace hc := hc.alloc (.cells #[.slice xa p.length xx, .int .i64 pr, .slice ya c.length yx, .int .i64 bw] 36)
            replace hq := hq.alloc (.cells #[.slice xa p.length xx, .int .i64 pr, .slice ya c.length yx, .int .i64 bw] 36)
            replace hd := hd.alloc (.cells #[.slice xa p.length xx, .int .i64 pr, .slice ya c.length yx, .int .i64 bw] 36)
            replace hx := hx.alloc (.cells #[.slice xa p.length xx, .int .i64 pr, .slice ya c.length yx, .int .i64 bw] 36)
            replace hy := hy.alloc (.cells #[.slice xa p.length xx, .int .i64 pr, .slice ya c.length yx, .int .i64 bw] 36)
            replace ht := ht.keep ((Below.refl _ _).alloc (Nat.le_refl _) (.cells #[.slice xa p.length xx, .int .i64 pr, .slice ya c.length yx, .int .i64 bw] 36))
            replace B0 := B0.alloc B0.size (.cells #[.slice xa p.length xx, .int .i64 pr, .slice ya c.length yx, .int .i64 bw] 36)
            have kP0 := bP.c 0 rfl
            have kP1 := bP.c 1 rfl
            have kP2 := bP.c 2 rfl
            have kP3 := bP.c 3 rfl
            have kQ0 := bQ.c 0 rfl
            have kQ1 := bQ.c 1 rfl
            have kQ2 := bQ.c 2 rfl
            have kQ3 := bQ.c 3 rfl
            have kX0 := bX.c 0 rfl
            have kX1 := bX.c 1 rfl
            have kX2 := bX.c 2 rfl
            have kX3 := bX.c 3 rfl
            go_wp2_with fail
            clear kP0 kP1 kP2 kP3 kQ0 kQ1 kQ2 kQ3 kX0 kX1 kX2 kX3
            obtain ⟨X, eX⟩ : ∃ X, X = (w6.heap.size) := ⟨_, rfl⟩
            rw [← eX] at bX
            try rw [← eX]
            clear eX
            refine (comm_no _ _ p c pr bw 1000 _ hp hc h1000 ⟨_, _, rfl, HCX.out⟩ HP1 H4).mono ?_
            rintro e w7 ⟨sa, sx, ua, ux, rfl, hso, huo, -, hb⟩
            replace bP := bP.keep hb
            replace bQ := bQ.keep hb
            replace bX := bX.keep hb
            replace hp := hp.keep hb
            replace hc := hc.keep hb
            replace hq := hq.keep hb
            replace hd := hd.keep hb
            replace hx := hx.keep hb
            replace hy := hy.keep hb
            replace ht := ht.keep hb
            replace B0 := below_step B0 hb
            clear hb
            have hs := hso.rd hp.1
            have hu := huo.rd hc.1
            clear hso huo
            have bY := Bl.new w7 [.slice sa p.length sx, .int .i64 pr, .slice ua c.length ux, .int .i64 bw] 36 (w7.heap.size) (by simp)
            replace bP := bP.alloc (.cells #[.slice sa p.length sx, .int .i64 pr, .slice ua c.length ux, .int .i64 bw] 36)
            replace bQ := bQ.alloc (.cells #[.slice sa p.length sx, .int .i64 pr, .slice ua c.length ux, .int .i64 bw] 36)
            replace bX := bX.alloc (.cells #[.slice sa p.length sx, .int .i64 pr, .slice ua c.length ux, .int .i64 bw] 36)
            replace hp := hp.alloc (.cells #[.slice sa p.length sx, .int .i64 pr, .slice ua c.length ux, .int .i64 bw] 36)
            replace hc := hc.alloc (.cells #[.slice sa p.length sx, .int .i64 pr, .slice ua c.length ux, .int .i64 bw] 36)
            replace hq := hq.alloc (.cells #[.slice sa p.length sx, .int .i64 pr, .slice ua c.length ux, .int .i64 bw] 36)
            replace hd := hd.alloc (.cells #[.slice sa p.length sx, .int .i64 pr, .slice ua c.length ux, .int .i64 bw] 36)
            replace hx := hx.alloc (.cells #[.slice sa p.length sx, .int .i64 pr, .slice ua c.length ux, .int .i64 bw] 36)
            replace hy := hy.alloc (.cells #[.slice sa p.length sx, .int .i64 pr, .slice ua c.length ux, .int .i64 bw] 36)
            replace hs := hs.alloc (.cells #[.slice sa p.length sx, .int .i64 pr, .slice ua c.length ux, .int .i64 bw] 36)
            replace hu := hu.alloc (.cells #[.slice sa p.length sx, .int .i64 pr, .slice ua c.length ux, .int .i64 bw] 36)
            replace ht := ht.keep ((Below.refl _ _).alloc (Nat.le_refl _) (.cells #[.slice sa p.length sx, .int .i64 pr, .slice ua c.length ux, .int .i64 bw] 36))
            replace B0 := B0.alloc B0.size (.cells #[.slice sa p.length sx, .int .i64 pr, .slice ua c.length ux, .int .i64 bw] 36)
            have kP0 := bP.c 0 rfl
            have kP1 := bP.c 1 rfl
            have kP2 := bP.c 2 rfl
            have kP3 := bP.c 3 rfl
            have kQ0 := bQ.c 0 rfl
            have kQ1 := bQ.c 1 rfl
            have kQ2 := bQ.c 2 rfl
            have kQ3 := bQ.c 3 rfl
            have kX0 := bX.c 0 rfl
            have kX1 := bX.c 1 rfl
            have kX2 := bX.c 2 rfl
            have kX3 := bX.c 3 rfl
            have kY0 := bY.c 0 rfl
            have kY1 := bY.c 1 rfl
            have kY2 := bY.c 2 rfl
            have kY3 := bY.c 3 rfl
            go_wp2_with fail
            clear kP0 kP1 kP2 kP3 kQ0 kQ1 kQ2 kQ3 kX0 kX1 kX2 kX3 kY0 kY1 kY2 kY3
            obtain ⟨Y, eY⟩ : ∃ Y, Y = (w7.heap.size) := ⟨_, rfl⟩
            rw [← eY] at bY
            try rw [← eY]
            clear eY
            refine (shut_yes _ _ p c pr bw _ hs hu HY HS).mono ?_
            rintro e w8 ⟨za, zx, va, vx, rfl, -, -, -, hb⟩
            replace bP := bP.keep hb
            replace bQ := bQ.keep hb
            replace bX := bX.keep hb
            replace bY := bY.keep hb
            replace hp := hp.keep hb
            replace hc := hc.keep hb
            replace hq := hq.keep hb
            replace hd := hd.keep hb
            replace hx := hx.keep hb
            replace hy := hy.keep hb
            replace hs := hs.keep hb
            replace hu := hu.keep hb
            replace ht := ht.keep hb
            replace B0 := below_step B0 hb
            clear hb
            have bZ := Bl.new w8 [.slice za p.length zx, .int .i64 s, .slice va c.length vx, .int .i64 bw] 36 (w8.heap.size) (by simp)
            replace bP := bP.alloc (.cells #[.slice za p.length zx, .int .i64 s, .slice va c.length vx, .int .i64 bw] 36)
            replace bQ := bQ.alloc (.cells #[.slice za p.length zx, .int .i64 s, .slice va c.length vx, .int .i64 bw] 36)
            replace bX := bX.alloc (.cells #[.slice za p.length zx, .int .i64 s, .slice va c.length vx, .int .i64 bw] 36)
            replace bY := bY.alloc (.cells #[.slice za p.length zx, .int .i64 s, .slice va c.length vx, .int .i64 bw] 36)
            replace hp := hp.alloc (.cells #[.slice za p.length zx, .int .i64 s, .slice va c.length vx, .int .i64 bw] 36)
            replace hc := hc.alloc (.cells #[.slice za p.length zx, .int .i64 s, .slice va c.length vx, .int .i64 bw] 36)
            replace hq := hq.alloc (.cells #[.slice za p.length zx, .int .i64 s, .slice va c.length vx, .int .i64 bw] 36)
            replace hd := hd.alloc (.cells #[.slice za p.length zx, .int .i64 s, .slice va c.length vx, .int .i64 bw] 36)
            replace hx := hx.alloc (.cells #[.slice za p.length zx, .int .i64 s, .slice va c.length vx, .int .i64 bw] 36)
            replace hy := hy.alloc (.cells #[.slice za p.length zx, .int .i64 s, .slice va c.length vx, .int .i64 bw] 36)
            replace hs := hs.alloc (.cells #[.slice za p.length zx, .int .i64 s, .slice va c.length vx, .int .i64 bw] 36)
            replace hu := hu.alloc (.cells #[.slice za p.length zx, .int .i64 s, .slice va c.length vx, .int .i64 bw] 36)
            replace ht := ht.keep ((Below.refl _ _).alloc (Nat.le_refl _) (.cells #[.slice za p.length zx, .int .i64 s, .slice va c.length vx, .int .i64 bw] 36))
            replace B0 := B0.alloc B0.size (.cells #[.slice za p.length zx, .int .i64 s, .slice va c.length vx, .int .i64 bw] 36)
            have kP0 := bP.c 0 rfl
            have kP1 := bP.c 1 rfl
            have kP2 := bP.c 2 rfl
            have kP3 := bP.c 3 rfl
            have kQ0 := bQ.c 0 rfl
            have kQ1 := bQ.c 1 rfl
            have kQ2 := bQ.c 2 rfl
            have kQ3 := bQ.c 3 rfl
            have kX0 := bX.c 0 rfl
            have kX1 := bX.c 1 rfl
            have kX2 := bX.c 2 rfl
            have kX3 := bX.c 3 rfl
            have kY0 := bY.c 0 rfl
            have kY1 := bY.c 1 rfl
            have kY2 := bY.c 2 rfl
            have kY3 := bY.c 3 rfl
            have kZ0 := bZ.c 0 rfl
            have kZ1 := bZ.c 1 rfl
            have kZ2 := bZ.c 2 rfl
            have kZ3 := bZ.c 3 rfl
            go_wp2_with fail
            clear kP0 kP1 kP2 kP3 kQ0 kQ1 kQ2 kQ3 kX0 kX1 kX2 kX3 kY0 kY1 kY2 kY3 kZ0 kZ1 kZ2 kZ3
            obtain ⟨Z, eZ⟩ : ∃ Z, Z = (w8.heap.size) := ⟨_, rfl⟩
            rw [← eZ] at bZ
            try rw [← eZ]
            clear eZ
            refine (iaok_t _ hp hc HA).mono ?_
            rintro e w9 ⟨rfl, hb⟩
            replace bP := bP.keep hb
            replace bQ := bQ.keep hb
            replace bX := bX.keep hb
            replace bY := bY.keep hb
            replace bZ := bZ.keep hb
            replace hp := hp.keep hb
            replace hc := hc.keep hb
            replace hq := hq.keep hb
            replace hd := hd.keep hb
            replace hx := hx.keep hb
            replace hy := hy.keep hb
            replace hs := hs.keep hb
            replace hu := hu.keep hb
            replace ht := ht.keep hb
            replace B0 := below_step B0 hb
            clear hb
            have kP0 := bP.c 0 rfl
            have kP1 := bP.c 1 rfl
            have kP2 := bP.c 2 rfl
            have kP3 := bP.c 3 rfl
            have kQ0 := bQ.c 0 rfl
            have kQ1 := bQ.c 1 rfl
            have kQ2 := bQ.c 2 rfl
            have kQ3 := bQ.c 3 rfl
            have kX0 := bX.c 0 rfl
            have kX1 := bX.c 1 rfl
            have kX2 := bX.c 2 rfl
            have kX3 := bX.c 3 rfl
            have kY0 := bY.c 0 rfl
            have kY1 := bY.c 1 rfl
            have kY2 := bY.c 2 rfl
            have kY3 := bY.c 3 rfl
            have kZ0 := bZ.c 0 rfl
            have kZ1 := bZ.c 1 rfl
            have kZ2 := bZ.c 2 rfl
            have kZ3 := bZ.c 3 rfl
            go_wp2_with fail
            clear kP0 kP1 kP2 kP3 kQ0 kQ1 kQ2 kQ3 kX0 kX1 kX2 kX3 kY0 kY1 kY2 kY3 kZ0 kZ1 kZ2 kZ3
            refine (text_yes _ _ p c pr bw _ hp hc ht HA).mono ?_
            rintro e w10 ⟨ta, tn, tx, rfl, hb⟩
            replace bP := bP.keep hb
            replace bQ := bQ.keep hb
            replace bX := bX.keep hb
            replace bY := bY.keep hb
            replace bZ := bZ.keep hb
            replace hp := hp.keep hb
            replace hc := hc.keep hb
            replace hq := hq.keep hb
            replace hd := hd.keep hb
            replace hx := hx.keep hb
            replace hy := hy.keep hb
            replace hs := hs.keep hb
            replace hu := hu.keep hb
            replace ht := ht.keep hb
            replace B0 := below_step B0 hb
            clear hb
            have htn : (0 : Int) < (tn : Int) + 1 := by omega
            have kP0 := bP.c 0 rfl
            have kP1 := bP.c 1 rfl
            have kP2 := bP.c 2 rfl
            have kP3 := bP.c 3 rfl
            have kQ0 := bQ.c 0 rfl
            have kQ1 := bQ.c 1 rfl
            have kQ2 := bQ.c 2 rfl
            have kQ3 := bQ.c 3 rfl
            have kX0 := bX.c 0 rfl
            have kX1 := bX.c 1 rfl
            have kX2 := bX.c 2 rfl
            have kX3 := bX.c 3 rfl
            have kY0 := bY.c 0 rfl
            have kY1 := bY.c 1 rfl
            have kY2 := bY.c 2 rfl
            have kY3 := bY.c 3 rfl
            have kZ0 := bZ.c 0 rfl
            have kZ1 := bZ.c 1 rfl
            have kZ2 := bZ.c 2 rfl
            have kZ3 := bZ.c 3 rfl
            go_wp2_with fail
            clear kP0 kP1 kP2 kP3 kQ0 kQ1 kQ2 kQ3 kX0 kX1 kX2 kX3 kY0 kY1 kY2 kY3 kZ0 kZ1 kZ2 kZ3
            refine (words_any _ ht).mono ?_
            rintro e w11 ⟨rfl, hb⟩
            replace bP := bP.keep hb
            replace bQ := bQ.keep hb
            replace bX := bX.keep hb
            replace bY := bY.keep hb
            replace bZ := bZ.keep hb
            replace hp := hp.keep hb
            replace hc := hc.keep hb
            replace hq := hq.keep hb
            replace hd := hd.keep hb
            replace hx := hx.keep hb
            replace hy := hy.keep hb
            replace hs := hs.keep hb
            replace hu := hu.keep hb
            replace ht := ht.keep hb
            replace B0 := below_step B0 hb
            clear hb
            go_wp2
            go_ret
            exact ⟨rfl, B0⟩
        · by_cases h4 : (insL c 1000).length ≤ 4
          · have H8 := Lib.hid h8
            have H4 := Lib.hid h4
            obtain ⟨C, hC0⟩ : ∃ C, insL c 1000 = C := ⟨_, rfl⟩
            have HI := Lib.hid hC0
            have HY := Lib.hid (show aokB p pr C bw = true by rw [← hC0]; exact aok_ins ha h4 (by decide))
            have HCB : Hid (∀ z ∈ C, -9223372036854775808 ≤ z ∧ z ≤ 9223372036854775807) := Lib.hid (by
              rw [← hC0]
              intro z hz
              unfold insL at hz
              rcases List.mem_append.1 hz with k | k
              · exact hc.1 z (List.mem_filter.1 k).1
              · rcases List.mem_cons.1 k with rfl | k
                · exact ⟨by decide, by decide⟩
                · exact hc.1 z (List.mem_filter.1 k).1)
            have HS := Lib.hid (show shutP pr C = 0 by rw [← hC0]; unfold shutP; rw [if_pos (mem_insL c 1000)])
            clear hC0
            have HBX := Lib.hid (show (aokB p pr c bw && aokB (77 :: p) pr c bw && decide (rk pr p.length pr (77 :: p).length < 0)) = true by rw [ha, aok_cons ha h8 (by decide), List.length_cons, rk_longer]; rfl)
            have HPX := Lib.hid (show (aokB (77 :: p) pr c bw && decide ((77 : Int) ∈ 77 :: p)) = true by rw [aok_cons ha h8 (by decide)]; simp)
            have hpl8 := (aok_p ha).1
            have hwpl : IntKind.i64.wrap ((p.length : Int) + 1) = (p.length : Int) + 1 := wrap64_in _ (by omega) (by omega)
            clear hpl8
            clear ha h8 h4 hcx
            have kP0 := bP.c 0 rfl
            have kP1 := bP.c 1 rfl
            have kP2 := bP.c 2 rfl
            have kP3 := bP.c 3 rfl
            have kQ0 := bQ.c 0 rfl
            have kQ1 := bQ.c 1 rfl
            have kQ2 := bQ.c 2 rfl
            have kQ3 := bQ.c 3 rfl
            go_wp2_with fail
            clear kP0 kP1 kP2 kP3 kQ0 kQ1 kQ2 kQ3
            refine (prep_yes _ _ p c pr bw 77 _ hp hc h77 HP7 H8).mono ?_
            rintro e w6 ⟨xa, xx, ya, yx, rfl, hxo, hyo, -, hb⟩
            replace bP := bP.keep hb
            replace bQ := bQ.keep hb
            replace hp := hp.keep hb
            replace hc := hc.keep hb
            replace hq := hq.keep hb
            replace hd := hd.keep hb
            replace ht := ht.keep hb
            replace B0 := below_step B0 hb
            clear hb
            have hx := hxo.rd (l := 77 :: p) (by
              intro z hz
              rcases List.mem_cons.1 hz with rfl | hz
              · exact ⟨by decide, by decide⟩
              · exact hp.1 z hz)
            have hy := hyo.rd hc.1
            rw [List.length_cons] at hx
            clear hxo hyo
            have bX := Bl.new w6 [.slice xa (p.length + 1) xx, .int .i64 pr, .slice ya c.length yx, .int .i64 bw] 36 (w6.heap.size) (by simp)
            replace bP := bP.alloc (.cells #[.slice xa (p.length + 1) xx, .int .i64 pr, .slice ya c.length yx, .int .i64 bw] 36)
            replace bQ := bQ.alloc (.cells #[.slice xa (p.length + 1) xx, .int .i64 pr, .slice ya c.length yx, .int .i64 bw] 36)
            replace hp := hp.alloc (.cells #[.slice xa (p.length + 1) xx, .int .i64 pr, .slice ya c.length yx, .int .i64 bw] 36)
            replace hc := hc.alloc (.cells #[.slice xa (p.length + 1) xx, .int .i64 pr, .slice ya c.length yx, .int .i64 bw] 36)
            replace hq := hq.alloc (.cells #[.slice xa (p.length + 1) xx, .int .i64 pr, .slice ya c.length yx, .int .i64 bw] 36)
            replace hd := hd.alloc (.cells #[.slice xa (p.length + 1) xx, .int .i64 pr, .slice ya c.length yx, .int .i64 bw] 36)
            replace hx := hx.alloc (.cells #[.slice xa (p.length + 1) xx, .int .i64 pr, .slice ya c.length yx, .int .i64 bw] 36)
            replace hy := hy.alloc (.cells #[.slice xa (p.length + 1) xx, .int .i64 pr, .slice ya c.length yx, .int .i64 bw] 36)
            replace ht := ht.keep ((Below.refl _ _).alloc (Nat.le_refl _) (.cells #[.slice xa (p.length + 1) xx, .int .i64 pr, .slice ya c.length yx, .int .i64 bw] 36))
            replace B0 := B0.alloc B0.size (.cells #[.slice xa (p.length + 1) xx, .int .i64 pr, .slice ya c.length yx, .int .i64 bw] 36)
            have kP0 := bP.c 0 rfl
            have kP1 := bP.c 1 rfl
            have kP2 := bP.c 2 rfl
            have kP3 := bP.c 3 rfl
            have kQ0 := bQ.c 0 rfl
            have kQ1 := bQ.c 1 rfl
            have kQ2 := bQ.c 2 rfl
            have kQ3 := bQ.c 3 rfl
            have kX0 := bX.c 0 rfl
            have kX1 := bX.c 1 rfl
            have kX2 := bX.c 2 rfl
            have kX3 := bX.c 3 rfl
            go_wp2_with fail
            clear kP0 kP1 kP2 kP3 kQ0 kQ1 kQ2 kQ3 kX0 kX1 kX2 kX3
            obtain ⟨X, eX⟩ : ∃ X, X = (w6.heap.size) := ⟨_, rfl⟩
            rw [← eX] at bX
            try rw [← eX]
            clear eX
            refine (comm_yes _ _ p c pr bw 1000 _ hp hc h1000 ⟨_, _, rfl, HCX.out⟩ HP1 H4 HI).mono ?_
            rintro e w7 ⟨sa, sx, ua, ux, rfl, hso, huo, -, hb⟩
            replace bP := bP.keep hb
            replace bQ := bQ.keep hb
            replace bX := bX.keep hb
            replace hp := hp.keep hb
            replace hc := hc.keep hb
            replace hq := hq.keep hb
            replace hd := hd.keep hb
            replace hx := hx.keep hb
            replace hy := hy.keep hb
            replace ht := ht.keep hb
            replace B0 := below_step B0 hb
            clear hb
            have hs := hso.rd hp.1
            have hu := huo.rd HCB.out
            clear hso huo
            have bY := Bl.new w7 [.slice sa p.length sx, .int .i64 pr, .slice ua C.length ux, .int .i64 bw] 36 (w7.heap.size) (by simp)
            replace bP := bP.alloc (.cells #[.slice sa p.length sx, .int .i64 pr, .slice ua C.length ux, .int .i64 bw] 36)
            replace bQ := bQ.alloc (.cells #[.slice sa p.length sx, .int .i64 pr, .slice ua C.length ux, .int .i64 bw] 36)
            replace bX := bX.alloc (.cells #[.slice sa p.length sx, .int .i64 pr, .slice ua C.length ux, .int .i64 bw] 36)
            replace hp := hp.alloc (.cells #[.slice sa p.length sx, .int .i64 pr, .slice ua C.length ux, .int .i64 bw] 36)
            replace hc := hc.alloc (.cells #[.slice sa p.length sx, .int .i64 pr, .slice ua C.length ux, .int .i64 bw] 36)
            replace hq := hq.alloc (.cells #[.slice sa p.length sx, .int .i64 pr, .slice ua C.length ux, .int .i64 bw] 36)
            replace hd := hd.alloc (.cells #[.slice sa p.length sx, .int .i64 pr, .slice ua C.length ux, .int .i64 bw] 36)
            replace hx := hx.alloc (.cells #[.slice sa p.length sx, .int .i64 pr, .slice ua C.length ux, .int .i64 bw] 36)
            replace hy := hy.alloc (.cells #[.slice sa p.length sx, .int .i64 pr, .slice ua C.length ux, .int .i64 bw] 36)
            replace hs := hs.alloc (.cells #[.slice sa p.length sx, .int .i64 pr, .slice ua C.length ux, .int .i64 bw] 36)
            replace hu := hu.alloc (.cells #[.slice sa p.length sx, .int .i64 pr, .slice ua C.length ux, .int .i64 bw] 36)
            replace ht := ht.keep ((Below.refl _ _).alloc (Nat.le_refl _) (.cells #[.slice sa p.length sx, .int .i64 pr, .slice ua C.length ux, .int .i64 bw] 36))
            replace B0 := B0.alloc B0.size (.cells #[.slice sa p.length sx, .int .i64 pr, .slice ua C.length ux, .int .i64 bw] 36)
            have kP0 := bP.c 0 rfl
            have kP1 := bP.c 1 rfl
            have kP2 := bP.c 2 rfl
            have kP3 := bP.c 3 rfl
            have kQ0 := bQ.c 0 rfl
            have kQ1 := bQ.c 1 rfl
            have kQ2 := bQ.c 2 rfl
            have kQ3 := bQ.c 3 rfl
            have kX0 := bX.c 0 rfl
            have kX1 := bX.c 1 rfl
            have kX2 := bX.c 2 rfl
            have kX3 := bX.c 3 rfl
            have kY0 := bY.c 0 rfl
            have kY1 := bY.c 1 rfl
            have kY2 := bY.c 2 rfl
            have kY3 := bY.c 3 rfl
            go_wp2_with fail
            clear kP0 kP1 kP2 kP3 kQ0 kQ1 kQ2 kQ3 kX0 kX1 kX2 kX3 kY0 kY1 kY2 kY3
            obtain ⟨Y, eY⟩ : ∃ Y, Y = (w7.heap.size) := ⟨_, rfl⟩
            rw [← eY] at bY
            try rw [← eY]
            clear eY
            refine (bet_t (p := p) (c := c) (q := 77 :: p) (d := c) (pr := pr) (bw := bw) (pr' := pr) (bw' := bw) _ hp hc hx hy HBX).mono ?_
            rintro e w8 ⟨rfl, hb⟩
            replace bP := bP.keep hb
            replace bQ := bQ.keep hb
            replace bX := bX.keep hb
            replace bY := bY.keep hb
            replace hp := hp.keep hb
            replace hc := hc.keep hb
            replace hq := hq.keep hb
            replace hd := hd.keep hb
            replace hx := hx.keep hb
            replace hy := hy.keep hb
            replace hs := hs.keep hb
            replace hu := hu.keep hb
            replace ht := ht.keep hb
            replace B0 := below_step B0 hb
            clear hb
            have kP0 := bP.c 0 rfl
            have kP1 := bP.c 1 rfl
            have kP2 := bP.c 2 rfl
            have kP3 := bP.c 3 rfl
            have kQ0 := bQ.c 0 rfl
            have kQ1 := bQ.c 1 rfl
            have kQ2 := bQ.c 2 rfl
            have kQ3 := bQ.c 3 rfl
            have kX0 := bX.c 0 rfl
            have kX1 := bX.c 1 rfl
            have kX2 := bX.c 2 rfl
            have kX3 := bX.c 3 rfl
            have kY0 := bY.c 0 rfl
            have kY1 := bY.c 1 rfl
            have kY2 := bY.c 2 rfl
            have kY3 := bY.c 3 rfl
            go_wp2_with fail
            clear kP0 kP1 kP2 kP3 kQ0 kQ1 kQ2 kQ3 kX0 kX1 kX2 kX3 kY0 kY1 kY2 kY3
            refine (path_t (p := 77 :: p) _ hx hy HPX).mono ?_
            rintro e w9 ⟨rfl, hb⟩
            replace bP := bP.keep hb
            replace bQ := bQ.keep hb
            replace bX := bX.keep hb
            replace bY := bY.keep hb
            replace hp := hp.keep hb
            replace hc := hc.keep hb
            replace hq := hq.keep hb
            replace hd := hd.keep hb
            replace hx := hx.keep hb
            replace hy := hy.keep hb
            replace hs := hs.keep hb
            replace hu := hu.keep hb
            replace ht := ht.keep hb
            replace B0 := below_step B0 hb
            clear hb
            have kP0 := bP.c 0 rfl
            have kP1 := bP.c 1 rfl
            have kP2 := bP.c 2 rfl
            have kP3 := bP.c 3 rfl
            have kQ0 := bQ.c 0 rfl
            have kQ1 := bQ.c 1 rfl
            have kQ2 := bQ.c 2 rfl
            have kQ3 := bQ.c 3 rfl
            have kX0 := bX.c 0 rfl
            have kX1 := bX.c 1 rfl
            have kX2 := bX.c 2 rfl
            have kX3 := bX.c 3 rfl
            have kY0 := bY.c 0 rfl
            have kY1 := bY.c 1 rfl
            have kY2 := bY.c 2 rfl
            have kY3 := bY.c 3 rfl
            go_wp2_with fail
            clear kP0 kP1 kP2 kP3 kQ0 kQ1 kQ2 kQ3 kX0 kX1 kX2 kX3 kY0 kY1 kY2 kY3
            refine (shut_yes _ _ p C pr bw _ hs hu HY HS).mono ?_
            rintro e w10 ⟨za, zx, va, vx, rfl, -, -, -, hb⟩
            replace bP := bP.keep hb
            replace bQ := bQ.keep hb
            replace bX := bX.keep hb
            replace bY := bY.keep hb
            replace hp := hp.keep hb
            replace hc := hc.keep hb
            replace hq := hq.keep hb
            replace hd := hd.keep hb
            replace hx := hx.keep hb
            replace hy := hy.keep hb
            replace hs := hs.keep hb
            replace hu := hu.keep hb
            replace ht := ht.keep hb
            replace B0 := below_step B0 hb
            clear hb
            have bZ := Bl.new w10 [.slice za p.length zx, .int .i64 0, .slice va C.length vx, .int .i64 bw] 36 (w10.heap.size) (by simp)
            replace bP := bP.alloc (.cells #[.slice za p.length zx, .int .i64 0, .slice va C.length vx, .int .i64 bw] 36)
            replace bQ := bQ.alloc (.cells #[.slice za p.length zx, .int .i64 0, .slice va C.length vx, .int .i64 bw] 36)
            replace bX := bX.alloc (.cells #[.slice za p.length zx, .int .i64 0, .slice va C.length vx, .int .i64 bw] 36)
            replace bY := bY.alloc (.cells #[.slice za p.length zx, .int .i64 0, .slice va C.length vx, .int .i64 bw] 36)
            replace hp := hp.alloc (.cells #[.slice za p.length zx, .int .i64 0, .slice va C.length vx, .int .i64 bw] 36)
            replace hc := hc.alloc (.cells #[.slice za p.length zx, .int .i64 0, .slice va C.length vx, .int .i64 bw] 36)
            replace hq := hq.alloc (.cells #[.slice za p.length zx, .int .i64 0, .slice va C.length vx, .int .i64 bw] 36)
            replace hd := hd.alloc (.cells #[.slice za p.length zx, .int .i64 0, .slice va C.length vx, .int .i64 bw] 36)
            replace hx := hx.alloc (.cells #[.slice za p.length zx, .int .i64 0, .slice va C.length vx, .int .i64 bw] 36)
            replace hy := hy.alloc (.cells #[.slice za p.length zx, .int .i64 0, .slice va C.length vx, .int .i64 bw] 36)
            replace hs := hs.alloc (.cells #[.slice za p.length zx, .int .i64 0, .slice va C.length vx, .int .i64 bw] 36)
            replace hu := hu.alloc (.cells #[.slice za p.length zx, .int .i64 0, .slice va C.length vx, .int .i64 bw] 36)
            replace ht := ht.keep ((Below.refl _ _).alloc (Nat.le_refl _) (.cells #[.slice za p.length zx, .int .i64 0, .slice va C.length vx, .int .i64 bw] 36))
            replace B0 := B0.alloc B0.size (.cells #[.slice za p.length zx, .int .i64 0, .slice va C.length vx, .int .i64 bw] 36)
            have kP0 := bP.c 0 rfl
            have kP1 := bP.c 1 rfl
            have kP2 := bP.c 2 rfl
            have kP3 := bP.c 3 rfl
            have kQ0 := bQ.c 0 rfl
            have kQ1 := bQ.c 1 rfl
            have kQ2 := bQ.c 2 rfl
            have kQ3 := bQ.c 3 rfl
            have kX0 := bX.c 0 rfl
            have kX1 := bX.c 1 rfl
            have kX2 := bX.c 2 rfl
            have kX3 := bX.c 3 rfl
            have kY0 := bY.c 0 rfl
            have kY1 := bY.c 1 rfl
            have kY2 := bY.c 2 rfl
            have kY3 := bY.c 3 rfl
            have kZ0 := bZ.c 0 rfl
            have kZ1 := bZ.c 1 rfl
            have kZ2 := bZ.c 2 rfl
            have kZ3 := bZ.c 3 rfl
            go_wp2_with fail
            clear kP0 kP1 kP2 kP3 kQ0 kQ1 kQ2 kQ3 kX0 kX1 kX2 kX3 kY0 kY1 kY2 kY3 kZ0 kZ1 kZ2 kZ3
            obtain ⟨Z, eZ⟩ : ∃ Z, Z = (w10.heap.size) := ⟨_, rfl⟩
            rw [← eZ] at bZ
            try rw [← eZ]
            clear eZ
            refine (iaok_t _ hs hu HY).mono ?_
            rintro e w11 ⟨rfl, hb⟩
            replace bP := bP.keep hb
            replace bQ := bQ.keep hb
            replace bX := bX.keep hb
            replace bY := bY.keep hb
            replace bZ := bZ.keep hb
            replace hp := hp.keep hb
            replace hc := hc.keep hb
            replace hq := hq.keep hb
            replace hd := hd.keep hb
            replace hx := hx.keep hb
            replace hy := hy.keep hb
            replace hs := hs.keep hb
            replace hu := hu.keep hb
            replace ht := ht.keep hb
            replace B0 := below_step B0 hb
            clear hb
            have kP0 := bP.c 0 rfl
            have kP1 := bP.c 1 rfl
            have kP2 := bP.c 2 rfl
            have kP3 := bP.c 3 rfl
            have kQ0 := bQ.c 0 rfl
            have kQ1 := bQ.c 1 rfl
            have kQ2 := bQ.c 2 rfl
            have kQ3 := bQ.c 3 rfl
            have kX0 := bX.c 0 rfl
            have kX1 := bX.c 1 rfl
            have kX2 := bX.c 2 rfl
            have kX3 := bX.c 3 rfl
            have kY0 := bY.c 0 rfl
            have kY1 := bY.c 1 rfl
            have kY2 := bY.c 2 rfl
            have kY3 := bY.c 3 rfl
            have kZ0 := bZ.c 0 rfl
            have kZ1 := bZ.c 1 rfl
            have kZ2 := bZ.c 2 rfl
            have kZ3 := bZ.c 3 rfl
            go_wp2_with fail
            clear kP0 kP1 kP2 kP3 kQ0 kQ1 kQ2 kQ3 kX0 kX1 kX2 kX3 kY0 kY1 kY2 kY3 kZ0 kZ1 kZ2 kZ3
            refine (iaok_t _ hp hc HA).mono ?_
            rintro e w12 ⟨rfl, hb⟩
            replace bP := bP.keep hb
            replace bQ := bQ.keep hb
            replace bX := bX.keep hb
            replace bY := bY.keep hb
            replace bZ := bZ.keep hb
            replace hp := hp.keep hb
            replace hc := hc.keep hb
            replace hq := hq.keep hb
            replace hd := hd.keep hb
            replace hx := hx.keep hb
            replace hy := hy.keep hb
            replace hs := hs.keep hb
            replace hu := hu.keep hb
            replace ht := ht.keep hb
            replace B0 := below_step B0 hb
            clear hb
            have kP0 := bP.c 0 rfl
            have kP1 := bP.c 1 rfl
            have kP2 := bP.c 2 rfl
            have kP3 := bP.c 3 rfl
            have kQ0 := bQ.c 0 rfl
            have kQ1 := bQ.c 1 rfl
            have kQ2 := bQ.c 2 rfl
            have kQ3 := bQ.c 3 rfl
            have kX0 := bX.c 0 rfl
            have kX1 := bX.c 1 rfl
            have kX2 := bX.c 2 rfl
            have kX3 := bX.c 3 rfl
            have kY0 := bY.c 0 rfl
            have kY1 := bY.c 1 rfl
            have kY2 := bY.c 2 rfl
            have kY3 := bY.c 3 rfl
            have kZ0 := bZ.c 0 rfl
            have kZ1 := bZ.c 1 rfl
            have kZ2 := bZ.c 2 rfl
            have kZ3 := bZ.c 3 rfl
            go_wp2_with fail
            clear kP0 kP1 kP2 kP3 kQ0 kQ1 kQ2 kQ3 kX0 kX1 kX2 kX3 kY0 kY1 kY2 kY3 kZ0 kZ1 kZ2 kZ3
            refine (text_yes _ _ p c pr bw _ hp hc ht HA).mono ?_
            rintro e w13 ⟨ta, tn, tx, rfl, hb⟩
            replace bP := bP.keep hb
            replace bQ := bQ.keep hb
            replace bX := bX.keep hb
            replace bY := bY.keep hb
            replace bZ := bZ.keep hb
            replace hp := hp.keep hb
            replace hc := hc.keep hb
            replace hq := hq.keep hb
            replace hd := hd.keep hb
            replace hx := hx.keep hb
            replace hy := hy.keep hb
            replace hs := hs.keep hb
            replace hu := hu.keep hb
            replace ht := ht.keep hb
            replace B0 := below_step B0 hb
            clear hb
            have htn : (0 : Int) < (tn : Int) + 1 := by omega
            have kP0 := bP.c 0 rfl
            have kP1 := bP.c 1 rfl
            have kP2 := bP.c 2 rfl
            have kP3 := bP.c 3 rfl
            have kQ0 := bQ.c 0 rfl
            have kQ1 := bQ.c 1 rfl
            have kQ2 := bQ.c 2 rfl
            have kQ3 := bQ.c 3 rfl
            have kX0 := bX.c 0 rfl
            have kX1 := bX.c 1 rfl
            have kX2 := bX.c 2 rfl
            have kX3 := bX.c 3 rfl
            have kY0 := bY.c 0 rfl
            have kY1 := bY.c 1 rfl
            have kY2 := bY.c 2 rfl
            have kY3 := bY.c 3 rfl
            have kZ0 := bZ.c 0 rfl
            have kZ1 := bZ.c 1 rfl
            have kZ2 := bZ.c 2 rfl
            have kZ3 := bZ.c 3 rfl
            go_wp2_with fail
            clear kP0 kP1 kP2 kP3 kQ0 kQ1 kQ2 kQ3 kX0 kX1 kX2 kX3 kY0 kY1 kY2 kY3 kZ0 kZ1 kZ2 kZ3
            refine (words_any _ ht).mono ?_
            rintro e w14 ⟨rfl, hb⟩
            replace bP := bP.keep hb
            replace bQ := bQ.keep hb
            replace bX := bX.keep hb
            replace bY := bY.keep hb
            replace bZ := bZ.keep hb
            replace hp := hp.keep hb
            replace hc := hc.keep hb
            replace hq := hq.keep hb
            replace hd := hd.keep hb
            replace hx := hx.keep hb
            replace hy := hy.keep hb
            replace hs := hs.keep hb
            replace hu := hu.keep hb
            replace ht := ht.keep hb
            replace B0 := below_step B0 hb
            clear hb
            go_wp2
            go_ret
            exact ⟨rfl, B0⟩
          · have H8 := Lib.hid h8
            have H4 := Lib.hid h4
            have HY := Lib.hid ha
            obtain ⟨s, hs0⟩ : ∃ s, shutP pr c = s := ⟨_, rfl⟩
            have HS := Lib.hid hs0
            clear hs0
            have HBX := Lib.hid (show (aokB p pr c bw && aokB (77 :: p) pr c bw && decide (rk pr p.length pr (77 :: p).length < 0)) = true by rw [ha, aok_cons ha h8 (by decide), List.length_cons, rk_longer]; rfl)
            have HPX := Lib.hid (show (aokB (77 :: p) pr c bw && decide ((77 : Int) ∈ 77 :: p)) = true by rw [aok_cons ha h8 (by decide)]; simp)
            have hpl8 := (aok_p ha).1
            have hwpl : IntKind.i64.wrap ((p.length : Int) + 1) = (p.length : Int) + 1 := wrap64_in _ (by omega) (by omega)
            clear hpl8
            clear ha h8 h4 hcx
            have kP0 := bP.c 0 rfl
            have kP1 := bP.c 1 rfl
            have kP2 := bP.c 2 rfl
            have kP3 := bP.c 3 rfl
            have kQ0 := bQ.c 0 rfl
            have kQ1 := bQ.c 1 rfl
            have kQ2 := bQ.c 2 rfl
            have kQ3 := bQ.c 3 rfl
            go_wp2_with fail
            clear kP0 kP1 kP2 kP3 kQ0 kQ1 kQ2 kQ3
            refine (prep_yes _ _ p c pr bw 77 _ hp hc h77 HP7 H8).mono ?_
            rintro e w6 ⟨xa, xx, ya, yx, rfl, hxo, hyo, -, hb⟩
            replace bP := bP.keep hb
            replace bQ := bQ.keep hb
            replace hp := hp.keep hb
            replace hc := hc.keep hb
            replace hq := hq.keep hb
            replace hd := hd.keep hb
            replace ht := ht.keep hb
            replace B0 := below_step B0 hb
            clear hb
            have hx := hxo.rd (l := 77 :: p) (by
              intro z hz
              rcases List.mem_cons.1 hz with rfl | hz
              · exact ⟨by decide, by decide⟩
              · exact hp.1 z hz)
            have hy := hyo.rd hc.1
            rw [List.length_cons] at hx
            clear hxo hyo
            have bX := Bl.new w6 [.slice xa (p.length + 1) xx, .int .i64 pr, .slice ya c.length yx, .int .i64 bw] 36 (w6.heap.size) (by simp)
            replace bP := bP.alloc (.cells #[.slice xa (p.length + 1) xx, .int .i64 pr, .slice ya c.length yx, .int .i64 bw] 36)
            replace bQ := bQ.alloc (.cells #[.slice xa (p.length + 1) xx, .int .i64 pr, .slice ya c.length yx, .int .i64 bw] 36)
            replace hp := hp.alloc (.cells #[.slice xa (p.length + 1) xx, .int .i64 pr, .slice ya c.length yx, .int .i64 bw] 36)
            replace hc := hc.alloc (.cells #[.slice xa (p.length + 1) xx, .int .i64 pr, .slice ya c.length yx, .int .i64 bw] 36)
            replace hq := hq.alloc (.cells #[.slice xa (p.length + 1) xx, .int .i64 pr, .slice ya c.length yx, .int .i64 bw] 36)
            replace hd := hd.alloc (.cells #[.slice xa (p.length + 1) xx, .int .i64 pr, .slice ya c.length yx, .int .i64 bw] 36)
            replace hx := hx.alloc (.cells #[.slice xa (p.length + 1) xx, .int .i64 pr, .slice ya c.length yx, .int .i64 bw] 36)
            replace hy := hy.alloc (.cells #[.slice xa (p.length + 1) xx, .int .i64 pr, .slice ya c.length yx, .int .i64 bw] 36)
            replace ht := ht.keep ((Below.refl _ _).alloc (Nat.le_refl _) (.cells #[.slice xa (p.length + 1) xx, .int .i64 pr, .slice ya c.length yx, .int .i64 bw] 36))
            replace B0 := B0.alloc B0.size (.cells #[.slice xa (p.length + 1) xx, .int .i64 pr, .slice ya c.length yx, .int .i64 bw] 36)
            have kP0 := bP.c 0 rfl
            have kP1 := bP.c 1 rfl
            have kP2 := bP.c 2 rfl
            have kP3 := bP.c 3 rfl
            have kQ0 := bQ.c 0 rfl
            have kQ1 := bQ.c 1 rfl
            have kQ2 := bQ.c 2 rfl
            have kQ3 := bQ.c 3 rfl
            have kX0 := bX.c 0 rfl
            have kX1 := bX.c 1 rfl
            have kX2 := bX.c 2 rfl
            have kX3 := bX.c 3 rfl
            go_wp2_with fail
            clear kP0 kP1 kP2 kP3 kQ0 kQ1 kQ2 kQ3 kX0 kX1 kX2 kX3
            obtain ⟨X, eX⟩ : ∃ X, X = (w6.heap.size) := ⟨_, rfl⟩
            rw [← eX] at bX
            try rw [← eX]
            clear eX
            refine (comm_no _ _ p c pr bw 1000 _ hp hc h1000 ⟨_, _, rfl, HCX.out⟩ HP1 H4).mono ?_
            rintro e w7 ⟨sa, sx, ua, ux, rfl, hso, huo, -, hb⟩
            replace bP := bP.keep hb
            replace bQ := bQ.keep hb
            replace bX := bX.keep hb
            replace hp := hp.keep hb
            replace hc := hc.keep hb
            replace hq := hq.keep hb
            replace hd := hd.keep hb
            replace hx := hx.keep hb
            replace hy := hy.keep hb
            replace ht := ht.keep hb
            replace B0 := below_step B0 hb
            clear hb
            have hs := hso.rd hp.1
            have hu := huo.rd hc.1
            clear hso huo
            have bY := Bl.new w7 [.slice sa p.length sx, .int .i64 pr, .slice ua c.length ux, .int .i64 bw] 36 (w7.heap.size) (by simp)
            replace bP := bP.alloc (.cells #[.slice sa p.length sx, .int .i64 pr, .slice ua c.length ux, .int .i64 bw] 36)
            replace bQ := bQ.alloc (.cells #[.slice sa p.length sx, .int .i64 pr, .slice ua c.length ux, .int .i64 bw] 36)
            replace bX := bX.alloc (.cells #[.slice sa p.length sx, .int .i64 pr, .slice ua c.length ux, .int .i64 bw] 36)
            replace hp := hp.alloc (.cells #[.slice sa p.length sx, .int .i64 pr, .slice ua c.length ux, .int .i64 bw] 36)
            replace hc := hc.alloc (.cells #[.slice sa p.length sx, .int .i64 pr, .slice ua c.length ux, .int .i64 bw] 36)
            replace hq := hq.alloc (.cells #[.slice sa p.length sx, .int .i64 pr, .slice ua c.length ux, .int .i64 bw] 36)
            replace hd := hd.alloc (.cells #[.slice sa p.length sx, .int .i64 pr, .slice ua c.length ux, .int .i64 bw] 36)
            replace hx := hx.alloc (.cells #[.slice sa p.length sx, .int .i64 pr, .slice ua c.length ux, .int .i64 bw] 36)
            replace hy := hy.alloc (.cells #[.slice sa p.length sx, .int .i64 pr, .slice ua c.length ux, .int .i64 bw] 36)
            replace hs := hs.alloc (.cells #[.slice sa p.length sx, .int .i64 pr, .slice ua c.length ux, .int .i64 bw] 36)
            replace hu := hu.alloc (.cells #[.slice sa p.length sx, .int .i64 pr, .slice ua c.length ux, .int .i64 bw] 36)
            replace ht := ht.keep ((Below.refl _ _).alloc (Nat.le_refl _) (.cells #[.slice sa p.length sx, .int .i64 pr, .slice ua c.length ux, .int .i64 bw] 36))
            replace B0 := B0.alloc B0.size (.cells #[.slice sa p.length sx, .int .i64 pr, .slice ua c.length ux, .int .i64 bw] 36)
            have kP0 := bP.c 0 rfl
            have kP1 := bP.c 1 rfl
            have kP2 := bP.c 2 rfl
            have kP3 := bP.c 3 rfl
            have kQ0 := bQ.c 0 rfl
            have kQ1 := bQ.c 1 rfl
            have kQ2 := bQ.c 2 rfl
            have kQ3 := bQ.c 3 rfl
            have kX0 := bX.c 0 rfl
            have kX1 := bX.c 1 rfl
            have kX2 := bX.c 2 rfl
            have kX3 := bX.c 3 rfl
            have kY0 := bY.c 0 rfl
            have kY1 := bY.c 1 rfl
            have kY2 := bY.c 2 rfl
            have kY3 := bY.c 3 rfl
            go_wp2_with fail
            clear kP0 kP1 kP2 kP3 kQ0 kQ1 kQ2 kQ3 kX0 kX1 kX2 kX3 kY0 kY1 kY2 kY3
            obtain ⟨Y, eY⟩ : ∃ Y, Y = (w7.heap.size) := ⟨_, rfl⟩
            rw [← eY] at bY
            try rw [← eY]
            clear eY
            refine (bet_t (p := p) (c := c) (q := 77 :: p) (d := c) (pr := pr) (bw := bw) (pr' := pr) (bw' := bw) _ hp hc hx hy HBX).mono ?_
            rintro e w8 ⟨rfl, hb⟩
            replace bP := bP.keep hb
            replace bQ := bQ.keep hb
            replace bX := bX.keep hb
            replace bY := bY.keep hb
            replace hp := hp.keep hb
            replace hc := hc.keep hb
            replace hq := hq.keep hb
            replace hd := hd.keep hb
            replace hx := hx.keep hb
            replace hy := hy.keep hb
            replace hs := hs.keep hb
            replace hu := hu.keep hb
            replace ht := ht.keep hb
            replace B0 := below_step B0 hb
            clear hb
            have kP0 := bP.c 0 rfl
            have kP1 := bP.c 1 rfl
            have kP2 := bP.c 2 rfl
            have kP3 := bP.c 3 rfl
            have kQ0 := bQ.c 0 rfl
            have kQ1 := bQ.c 1 rfl
            have kQ2 := bQ.c 2 rfl
            have kQ3 := bQ.c 3 rfl
            have kX0 := bX.c 0 rfl
            have kX1 := bX.c 1 rfl
            have kX2 := bX.c 2 rfl
            have kX3 := bX.c 3 rfl
            have kY0 := bY.c 0 rfl
            have kY1 := bY.c 1 rfl
            have kY2 := bY.c 2 rfl
            have kY3 := bY.c 3 rfl
            go_wp2_with fail
            clear kP0 kP1 kP2 kP3 kQ0 kQ1 kQ2 kQ3 kX0 kX1 kX2 kX3 kY0 kY1 kY2 kY3
            refine (path_t (p := 77 :: p) _ hx hy HPX).mono ?_
            rintro e w9 ⟨rfl, hb⟩
            replace bP := bP.keep hb
            replace bQ := bQ.keep hb
            replace bX := bX.keep hb
            replace bY := bY.keep hb
            replace hp := hp.keep hb
            replace hc := hc.keep hb
            replace hq := hq.keep hb
            replace hd := hd.keep hb
            replace hx := hx.keep hb
            replace hy := hy.keep hb
            replace hs := hs.keep hb
            replace hu := hu.keep hb
            replace ht := ht.keep hb
            replace B0 := below_step B0 hb
            clear hb
            have kP0 := bP.c 0 rfl
            have kP1 := bP.c 1 rfl
            have kP2 := bP.c 2 rfl
            have kP3 := bP.c 3 rfl
            have kQ0 := bQ.c 0 rfl
            have kQ1 := bQ.c 1 rfl
            have kQ2 := bQ.c 2 rfl
            have kQ3 := bQ.c 3 rfl
            have kX0 := bX.c 0 rfl
            have kX1 := bX.c 1 rfl
            have kX2 := bX.c 2 rfl
            have kX3 := bX.c 3 rfl
            have kY0 := bY.c 0 rfl
            have kY1 := bY.c 1 rfl
            have kY2 := bY.c 2 rfl
            have kY3 := bY.c 3 rfl
            go_wp2_with fail
            clear kP0 kP1 kP2 kP3 kQ0 kQ1 kQ2 kQ3 kX0 kX1 kX2 kX3 kY0 kY1 kY2 kY3
            refine (shut_yes _ _ p c pr bw _ hs hu HY HS).mono ?_
            rintro e w10 ⟨za, zx, va, vx, rfl, -, -, -, hb⟩
            replace bP := bP.keep hb
            replace bQ := bQ.keep hb
            replace bX := bX.keep hb
            replace bY := bY.keep hb
            replace hp := hp.keep hb
            replace hc := hc.keep hb
            replace hq := hq.keep hb
            replace hd := hd.keep hb
            replace hx := hx.keep hb
            replace hy := hy.keep hb
            replace hs := hs.keep hb
            replace hu := hu.keep hb
            replace ht := ht.keep hb
            replace B0 := below_step B0 hb
            clear hb
            have bZ := Bl.new w10 [.slice za p.length zx, .int .i64 s, .slice va c.length vx, .int .i64 bw] 36 (w10.heap.size) (by simp)
            replace bP := bP.alloc (.cells #[.slice za p.length zx, .int .i64 s, .slice va c.length vx, .int .i64 bw] 36)
            replace bQ := bQ.alloc (.cells #[.slice za p.length zx, .int .i64 s, .slice va c.length vx, .int .i64 bw] 36)
            replace bX := bX.alloc (.cells #[.slice za p.length zx, .int .i64 s, .slice va c.length vx, .int .i64 bw] 36)
            replace bY := bY.alloc (.cells #[.slice za p.length zx, .int .i64 s, .slice va c.length vx, .int .i64 bw] 36)
            replace hp := hp.alloc (.cells #[.slice za p.length zx, .int .i64 s, .slice va c.length vx, .int .i64 bw] 36)
            replace hc := hc.alloc (.cells #[.slice za p.length zx, .int .i64 s, .slice va c.length vx, .int .i64 bw] 36)
            replace hq := hq.alloc (.cells #[.slice za p.length zx, .int .i64 s, .slice va c.length vx, .int .i64 bw] 36)
            replace hd := hd.alloc (.cells #[.slice za p.length zx, .int .i64 s, .slice va c.length vx, .int .i64 bw] 36)
            replace hx := hx.alloc (.cells #[.slice za p.length zx, .int .i64 s, .slice va c.length vx, .int .i64 bw] 36)
            replace hy := hy.alloc (.cells #[.slice za p.length zx, .int .i64 s, .slice va c.length vx, .int .i64 bw] 36)
            replace hs := hs.alloc (.cells #[.slice za p.length zx, .int .i64 s, .slice va c.length vx, .int .i64 bw] 36)
            replace hu := hu.alloc (.cells #[.slice za p.length zx, .int .i64 s, .slice va c.length vx, .int .i64 bw] 36)
            replace ht := ht.keep ((Below.refl _ _).alloc (Nat.le_refl _) (.cells #[.slice za p.length zx, .int .i64 s, .slice va c.length vx, .int .i64 bw] 36))
            replace B0 := B0.alloc B0.size (.cells #[.slice za p.length zx, .int .i64 s, .slice va c.length vx, .int .i64 bw] 36)
            have kP0 := bP.c 0 rfl
            have kP1 := bP.c 1 rfl
            have kP2 := bP.c 2 rfl
            have kP3 := bP.c 3 rfl
            have kQ0 := bQ.c 0 rfl
            have kQ1 := bQ.c 1 rfl
            have kQ2 := bQ.c 2 rfl
            have kQ3 := bQ.c 3 rfl
            have kX0 := bX.c 0 rfl
            have kX1 := bX.c 1 rfl
            have kX2 := bX.c 2 rfl
            have kX3 := bX.c 3 rfl
            have kY0 := bY.c 0 rfl
            have kY1 := bY.c 1 rfl
            have kY2 := bY.c 2 rfl
            have kY3 := bY.c 3 rfl
            have kZ0 := bZ.c 0 rfl
            have kZ1 := bZ.c 1 rfl
            have kZ2 := bZ.c 2 rfl
            have kZ3 := bZ.c 3 rfl
            go_wp2_with fail
            clear kP0 kP1 kP2 kP3 kQ0 kQ1 kQ2 kQ3 kX0 kX1 kX2 kX3 kY0 kY1 kY2 kY3 kZ0 kZ1 kZ2 kZ3
            obtain ⟨Z, eZ⟩ : ∃ Z, Z = (w10.heap.size) := ⟨_, rfl⟩
            rw [← eZ] at bZ
            try rw [← eZ]
            clear eZ
            refine (iaok_t _ hp hc HA).mono ?_
            rintro e w11 ⟨rfl, hb⟩
            replace bP := bP.keep hb
            replace bQ := bQ.keep hb
            replace bX := bX.keep hb
            replace bY := bY.keep hb
            replace bZ := bZ.keep hb
            replace hp := hp.keep hb
            replace hc := hc.keep hb
            replace hq := hq.keep hb
            replace hd := hd.keep hb
            replace hx := hx.keep hb
            replace hy := hy.keep hb
            replace hs := hs.keep hb
            replace hu := hu.keep hb
            replace ht := ht.keep hb
            replace B0 := below_step B0 hb
            clear hb
            have kP0 := bP.c 0 rfl
            have kP1 := bP.c 1 rfl
            have kP2 := bP.c 2 rfl
            have kP3 := bP.c 3 rfl
            have kQ0 := bQ.c 0 rfl
            have kQ1 := bQ.c 1 rfl
            have kQ2 := bQ.c 2 rfl
            have kQ3 := bQ.c 3 rfl
            have kX0 := bX.c 0 rfl
            have kX1 := bX.c 1 rfl
            have kX2 := bX.c 2 rfl
            have kX3 := bX.c 3 rfl
            have kY0 := bY.c 0 rfl
            have kY1 := bY.c 1 rfl
            have kY2 := bY.c 2 rfl
            have kY3 := bY.c 3 rfl
            have kZ0 := bZ.c 0 rfl
            have kZ1 := bZ.c 1 rfl
            have kZ2 := bZ.c 2 rfl
            have kZ3 := bZ.c 3 rfl
            go_wp2_with fail
            clear kP0 kP1 kP2 kP3 kQ0 kQ1 kQ2 kQ3 kX0 kX1 kX2 kX3 kY0 kY1 kY2 kY3 kZ0 kZ1 kZ2 kZ3
            refine (text_yes _ _ p c pr bw _ hp hc ht HA).mono ?_
            rintro e w12 ⟨ta, tn, tx, rfl, hb⟩
            replace bP := bP.keep hb
            replace bQ := bQ.keep hb
            replace bX := bX.keep hb
            replace bY := bY.keep hb
            replace bZ := bZ.keep hb
            replace hp := hp.keep hb
            replace hc := hc.keep hb
            replace hq := hq.keep hb
            replace hd := hd.keep hb
            replace hx := hx.keep hb
            replace hy := hy.keep hb
            replace hs := hs.keep hb
            replace hu := hu.keep hb
            replace ht := ht.keep hb
            replace B0 := below_step B0 hb
            clear hb
            have htn : (0 : Int) < (tn : Int) + 1 := by omega
            have kP0 := bP.c 0 rfl
            have kP1 := bP.c 1 rfl
            have kP2 := bP.c 2 rfl
            have kP3 := bP.c 3 rfl
            have kQ0 := bQ.c 0 rfl
            have kQ1 := bQ.c 1 rfl
            have kQ2 := bQ.c 2 rfl
            have kQ3 := bQ.c 3 rfl
            have kX0 := bX.c 0 rfl
            have kX1 := bX.c 1 rfl
            have kX2 := bX.c 2 rfl
            have kX3 := bX.c 3 rfl
            have kY0 := bY.c 0 rfl
            have kY1 := bY.c 1 rfl
            have kY2 := bY.c 2 rfl
            have kY3 := bY.c 3 rfl
            have kZ0 := bZ.c 0 rfl
            have kZ1 := bZ.c 1 rfl
            have kZ2 := bZ.c 2 rfl
            have kZ3 := bZ.c 3 rfl
            go_wp2_with fail
            clear kP0 kP1 kP2 kP3 kQ0 kQ1 kQ2 kQ3 kX0 kX1 kX2 kX3 kY0 kY1 kY2 kY3 kZ0 kZ1 kZ2 kZ3
            refine (words_any _ ht).mono ?_
            rintro e w13 ⟨rfl, hb⟩
            replace bP := bP.keep hb
            replace bQ := bQ.keep hb
            replace bX := bX.keep hb
            replace bY := bY.keep hb
            replace bZ := bZ.keep hb
            replace hp := hp.keep hb
            replace hc := hc.keep hb
            replace hq := hq.keep hb
            replace hd := hd.keep hb
            replace hx := hx.keep hb
            replace hy := hy.keep hb
            replace hs := hs.keep hb
            replace hu := hu.keep hb
            replace ht := ht.keep hb
            replace B0 := below_step B0 hb
            clear hb
            go_wp2
            go_ret
            exact ⟨rfl, B0⟩
end Go.Proofs.YtcmbajphholliabDoor
