/-
  Validity of attributes, of the program and of the model. Conditions: those in each contract.
  AttrOk, of the program and of the model. Conditions: those in each contract.
  AttrOk of the model. Conditions: those in each contract.
  Ints appended to a slice that the call made; copies of attributes. Conditions: those in each statement.
  Rows of entries that the call made and that grow: what they hold, append, copies of entries. Conditions: those in each statement.
  Copies of entries and of whole tables, of the program. Conditions: those in each contract.
  Copies of tables, of the program and of the model. Conditions: those in each contract.
  The directions of a link, and of all links of a fabric: of the program. Conditions: those in each contract.
  Contracts of PrefixCmp of the program and of the model. Conditions: those in each contract.
  Lists of prefixes: contracts of the program's and the model's test that they are valid and ascending, of the program's comparison of two lists. Conditions: those in each contract.
-/
import Derived.Test.YtkodnipmogdgkabGreatFCa
import Derived.Laws.AppendOwnNone
import Derived.Test.YtkodnipmogdgkabGreatFCb
import Derived.Maps.AppendAt
import Derived.Deep.RegionHeld
import Derived.Deep.MidRow
import Derived.Test.YtkodnipmogdgkabGreatFCc
import Derived.Deep.Cut
import Derived.Deep.CutRange
import Derived.StillTailTactics
import Derived.LoopN
namespace Go.Proofs.YtkodnipmogdgkabGreat
open Go.ChangeShapes Go.WideShapes Go.ChangeAt Go.RowKit Go.BigFrame Go.Joins
set_option linter.unusedVariables false
set_option maxRecDepth 100000
set_option maxRecDepth 100000

/-- a slice of ints: its length, and its elements where there are any -/
theorem RdI.el {w : World} {v : Value} {l : List Int} (h : RdI w v l) : ∃ a c, v = .slice a l.length c ∧ ∀ i, i < l.length → ∃ b o, a = some ⟨b, o, none⟩ ∧ w.cell? ⟨b, o + i, none⟩ = some (.int .i64 (l.getD i 0)) := by
  rcases h.2.2 with ⟨a, c, rfl, rfl, hac⟩ | ⟨b, o, c, rfl, hp, hc⟩
  · exact ⟨a, c, rfl, fun i hi => by simp at hi⟩
  · exact ⟨_, c, rfl, fun i hi => ⟨b, o, rfl, hc i hi⟩⟩
def inB (n lo hi : Int) : Bool := decide (lo ≤ n ∧ n ≤ hi)
def asB (n : Int) : Bool := inB n 1 65535
def numsB (l : List Int) : Bool := decide (∀ i, i < l.length → asB (l.getD i 0) = true)
def ascB (l : List Int) : Bool := decide (∀ i, i < l.length - 1 → l.getD i 0 < l.getD (i + 1) 0)
def aokB (p : List Int) (pr : Int) (c : List Int) (bw : Int) : Bool :=
  decide (p.length ≤ 8) && numsB p && inB pr 0 1000 && inB bw 0 1000 && (decide (c.length ≤ 4) && numsB c) && ascB c

theorem within_any (n lo hi : Int) (w : World) : Calls Tryz.prog 38 #[.int .i64 n, .int .i64 lo, .int .i64 hi] w fun e w' => e = .returned (.bool (inB n lo hi)) ∧ w = w' := by
  by_cases h0 : lo ≤ n
  all_goals
    go_enter Tryz.func38, Tryz.ntmps38
    go_wp2
    go_ret
    exact ⟨ret_bool (by unfold inB; first | (congr 1; simp; omega) | (simp; omega)), rfl⟩
theorem sas_any (n : Int) (w : World) : Calls Tryz.prog 45 #[.int .i64 n] w fun e w' => e = .returned (.bool (asB n)) ∧ w = w' := by
  by_cases h0 : 1 ≤ n
  all_goals
    go_enter Tryz.func45, Tryz.ntmps45
    go_wp2
    go_ret
    exact ⟨ret_bool (by unfold asB inB; first | (congr 1; simp; omega) | (simp; omega)), rfl⟩
theorem numok_any (n : Int) (w : World) : Calls Tryz.prog 112 #[.int .i64 n] w fun e w' => e = .returned (.bool (asB n)) ∧ w = w' := by
  go_enter Tryz.func112, Tryz.ntmps112
  go_wp2_with fail; refine (within_any n 1 65535 _).mono ?_; rintro e w1 ⟨rfl, rfl⟩; go_wp2
  go_ret
  exact ⟨rfl, rfl⟩
theorem nums_any (v : Value) (l : List Int) (most : Int) (w : World) (h : RdI w v l) :
    Calls Tryz.prog 211 #[v, .int .i64 most] w fun e w' => e = .returned (.bool (decide ((l.length : Int) ≤ most) && numsB l)) ∧ Below w.heap.size w w' := by
  have hm := h.2.1; unfold maxLen at hm; obtain ⟨a, c, rfl, hc⟩ := h.el; have hb := getD_bd_I h.1; obtain ⟨n, hn⟩ : ∃ n, n = l.length := ⟨_, rfl⟩; rw [← hn] at hc hm ⊢; have HN := Lib.hid hn; clear h hn
  by_cases hmost : (n : Int) ≤ most
  · have e : decide ((n : Int) ≤ most) = true := by simp [hmost]
    rw [e, Bool.true_and]; clear e
    go_enter Tryz.func211, Tryz.ntmps211
    go_wp2
    go_loop [13] (fun q => ∃ k : Nat, k ≤ n ∧ q = .int .i64 k ∧ ∀ i, i < k → asB (l.getD i 0) = true) (fun q => n - (intOf q).toNat)
    case atStart => exact ⟨0, Nat.zero_le _, rfl, fun i hi => by omega⟩
    case round =>
      obtain ⟨k, hk, rfl, hall⟩ := hrel; have HA := Lib.hid hall; clear hall
      by_cases hlt : k < n
      · have hltI : (k : Int) < (n : Int) := by omega
        obtain ⟨b, o, rfl, e1⟩ := hc k hlt; obtain ⟨x, hx⟩ : ∃ x, l.getD k 0 = x := ⟨_, rfl⟩; rw [hx] at e1; have HX := Lib.hid hx; clear hx hc hb; cases has : asB x
        · have hno : numsB l = false := by
            unfold numsB; simp only [decide_eq_false_iff_not]; intro h; have := h k (by rw [← HN.out]; exact hlt); rw [HX.out, has] at this; cases this
          have HF := Lib.hid hno; have HS := Lib.hid has; clear hno has; go_wp2_with fail; refine (numok_any x _).mono ?_; rintro e w1 ⟨rfl, rfl⟩; rw [HS.out]; go_wp2
          go_ret
          exact ⟨ret_bool HF.out.symm, Below.refl _ _⟩
        · have HS := Lib.hid has
          clear has; go_wp2_with fail; refine (numok_any x _).mono ?_; rintro e w1 ⟨rfl, rfl⟩; rw [HS.out]; go_wp2
          go_round
          case rel => exact ⟨k + 1, by omega, by go_num, fun i hi => by
            by_cases e : i = k
            · rw [e, HX.out]; exact HS.out
            · exact HA.out i (by omega)⟩
          case measure => simp [intOf]; omega
      · have hkn : k = n := by omega
        have hyes : numsB l = true := by
          unfold numsB; simp only [decide_eq_true_eq]; intro i hi
          exact HA.out i (by rw [hkn, HN.out]; exact hi)
        have HF := Lib.hid hyes; clear hyes hkn hc hb; go_wp2
        go_ret
        exact ⟨ret_bool HF.out.symm, Below.refl _ _⟩
  · have e : (decide ((n : Int) ≤ most) && numsB l) = false := by simp [hmost]
    rw [e]; clear e
    go_enter Tryz.func211, Tryz.ntmps211
    go_wp2
    go_ret
    exact ⟨rfl, Below.refl _ _⟩
theorem asc_any (v : Value) (l : List Int) (w : World) (h : RdI w v l) :
    Calls Tryz.prog 212 #[v] w fun e w' => e = .returned (.bool (ascB l)) ∧ Below w.heap.size w w' := by
  have hm := h.2.1; unfold maxLen at hm; obtain ⟨a, c, rfl, hc⟩ := h.el; obtain ⟨n, hn⟩ : ∃ n, n = l.length := ⟨_, rfl⟩; rw [← hn] at hc hm ⊢; have HN := Lib.hid hn; clear h hn
  go_enter Tryz.func212, Tryz.ntmps212
  go_wp2
  go_loopw [3] (fun q wr => ∃ k : Nat, (k + 1 ≤ n ∨ k = 0) ∧ q = .int .i64 ((k : Int) + 1) ∧ (∀ i, i < k → l.getD i 0 < l.getD (i + 1) 0) ∧ Below w.heap.size w wr) (fun q _ => n + 1 - (intOf q).toNat)
  case atStart => exact ⟨0, .inr rfl, rfl, fun i hi => by omega, Below.refl _ _⟩
  case round =>
    obtain ⟨k, hk, rfl, hall, hB⟩ := hrel; have HA := Lib.hid hall; clear hall
    by_cases hlt : k + 1 < n
    · have hltI : (k : Int) + 1 < (n : Int) := by omega
      obtain ⟨b, o, hae, e1⟩ := hc k (by omega); obtain ⟨b', o', hae', e2⟩ := hc (k + 1) hlt; rw [hae] at hae'
      injection hae' with hae'
      injection hae' with hb1 ho1
      subst hb1 ho1 hae; replace e1 := cell_keep hB (World.block_lt_of_cell? w _ e1) e1; replace e2 := cell_keep hB (World.block_lt_of_cell? w _ e2) e2; obtain ⟨x, hx⟩ : ∃ x, l.getD k 0 = x := ⟨_, rfl⟩; obtain ⟨y, hy⟩ : ∃ y, l.getD (k + 1) 0 = y := ⟨_, rfl⟩; rw [hx] at e1; rw [hy] at e2; have HX := Lib.hid hx; have HY := Lib.hid hy; clear hx hy hc
      by_cases hxy : x < y
      · have hge : decide (y ≤ x) = false := by simp; omega
        have HL := Lib.hid hxy; clear hxy; go_wp2
        go_quiet (fail)
        go_wp2
        go_roundw
        case rel => exact ⟨k + 1, .inl (by omega), by go_num, fun i hi => by
            by_cases e : i = k
            · rw [e, HX.out, HY.out]; exact HL.out
            · exact HA.out i (by omega), hB.trans ⟨rfl, rfl, rfl, Nat.le_refl _, fun _ _ => rfl⟩⟩
        case measure => simp [intOf]; omega
      · have hge : decide (y ≤ x) = true := by simp; omega
        have hno : ascB l = false := by
          unfold ascB; simp only [decide_eq_false_iff_not]; intro h; have := h k (by rw [← HN.out]; omega); rw [HX.out, HY.out] at this
          exact hxy this
        have HF := Lib.hid hno; clear hno hxy; go_wp2
        go_quiet (fail)
        go_wp2
        go_ret
        exact ⟨ret_bool HF.out.symm, hB.trans ⟨rfl, rfl, rfl, Nat.le_refl _, fun _ _ => rfl⟩⟩
    · have hltI : ¬ ((k : Int) + 1 < (n : Int)) := by omega
      have hyes : ascB l = true := by
        unfold ascB; simp only [decide_eq_true_eq]; intro i hi
        exact HA.out i (by rw [← HN.out] at hi; omega)
      have HF := Lib.hid hyes; clear hyes hc; go_wp2
      go_ret
      exact ⟨ret_bool HF.out.symm, hB⟩
end Go.Proofs.YtkodnipmogdgkabGreat
namespace Go.Proofs.YtkodnipmogdgkabGreat
open Go.ChangeShapes Go.WideShapes Go.ChangeAt Go.RowKit Go.BigFrame Go.Joins
set_option linter.unusedVariables false
set_option maxRecDepth 100000

theorem nums_t {v : Value} {l : List Int} {most : Int} {b : Bool} (w : World) (h : RdI w v l) (H : Hid ((decide ((l.length : Int) ≤ most) && numsB l) = b)) :
    Calls Tryz.prog 211 #[v, .int .i64 most] w fun e w' => e = .returned (.bool b) ∧ Below w.heap.size w w' := H.out ▸ nums_any v l most w h
theorem asc_t {v : Value} {l : List Int} {b : Bool} (w : World) (h : RdI w v l) (H : Hid (ascB l = b)) :
    Calls Tryz.prog 212 #[v] w fun e w' => e = .returned (.bool b) ∧ Below w.heap.size w w' := H.out ▸ asc_any v l w h
theorem within_t {n lo hi : Int} {b : Bool} (w : World) (H : Hid (inB n lo hi = b)) : Calls Tryz.prog 38 #[.int .i64 n, .int .i64 lo, .int .i64 hi] w fun e w' => e = .returned (.bool b) ∧ w = w' := H.out ▸ within_any n lo hi w
theorem iaok_any (pv cv : Value) (p c : List Int) (pr bw : Int) (w : World) (hp : RdI w pv p) (hc : RdI w cv c) :
    Calls Tryz.prog 183 #[.agg #[pv, .int .i64 pr, cv, .int .i64 bw]] w fun e w' => e = .returned (.bool (aokB p pr c bw)) ∧ Below w.heap.size w w' := by
  obtain ⟨c0, c1, c2, c3, lt, B0⟩ := box4 w pv (.int .i64 pr) cv (.int .i64 bw) 93; have hp1 := hp.alloc (.cells #[pv, .int .i64 pr, cv, .int .i64 bw] 93); have hc1 := hc.alloc (.cells #[pv, .int .i64 pr, cv, .int .i64 bw] 93)
  have hE : aokB p pr c bw = ((decide ((p.length : Int) ≤ 8) && numsB p) && inB pr 0 1000 && inB bw 0 1000 && (decide ((c.length : Int) ≤ 4) && numsB c) && ascB c) := by
    have q8 : decide ((p.length : Int) ≤ 8) = decide (p.length ≤ 8) := by congr 1; simp; omega
    have q4 : decide ((c.length : Int) ≤ 4) = decide (c.length ≤ 4) := by congr 1; simp; omega
    unfold aokB; rw [q8, q4]
  rw [hE]; clear hE; cases h0 : (decide ((p.length : Int) ≤ 8) && numsB p)
  · rw [show (false && inB pr 0 1000 && inB bw 0 1000 && (decide ((c.length : Int) ≤ 4) && numsB c) && ascB c) = false from rfl]
    have H0 := Lib.hid h0; clear h0
    go_enter Tryz.func183, Tryz.ntmps183
    go_wp2_with fail; refine (nums_t _ hp1 H0).mono ?_; rintro e w1 ⟨rfl, hb⟩; replace c0 := cell_keep hb lt c0; replace c1 := cell_keep hb lt c1; replace c2 := cell_keep hb lt c2; replace c3 := cell_keep hb lt c3; replace lt := Nat.lt_of_lt_of_le lt hb.size; replace hp1 := hp1.keep hb; replace hc1 := hc1.keep hb; replace B0 := below_step B0 hb; clear hb; go_wp2
    go_ret
    exact ⟨rfl, B0⟩
  · rw [show (true && inB pr 0 1000 && inB bw 0 1000 && (decide ((c.length : Int) ≤ 4) && numsB c) && ascB c) = (inB pr 0 1000 && inB bw 0 1000 && (decide ((c.length : Int) ≤ 4) && numsB c) && ascB c) from rfl]
    have H0 := Lib.hid h0; clear h0; cases h1 : inB pr 0 1000
    · rw [show (false && inB bw 0 1000 && (decide ((c.length : Int) ≤ 4) && numsB c) && ascB c) = false from rfl]
      have H1 := Lib.hid h1; clear h1
      go_enter Tryz.func183, Tryz.ntmps183
      go_wp2_with fail; refine (nums_t _ hp1 H0).mono ?_; rintro e w1 ⟨rfl, hb⟩; replace c0 := cell_keep hb lt c0; replace c1 := cell_keep hb lt c1; replace c2 := cell_keep hb lt c2; replace c3 := cell_keep hb lt c3; replace lt := Nat.lt_of_lt_of_le lt hb.size; replace hp1 := hp1.keep hb; replace hc1 := hc1.keep hb; replace B0 := below_step B0 hb; clear hb; go_wp2_with fail; refine (within_t _ H1).mono ?_; rintro e w2 ⟨rfl, rfl⟩; go_wp2
      go_ret
      exact ⟨rfl, B0⟩
    · rw [show (true && inB bw 0 1000 && (decide ((c.length : Int) ≤ 4) && numsB c) && ascB c) = (inB bw 0 1000 && (decide ((c.length : Int) ≤ 4) && numsB c) && ascB c) from rfl]
      have H1 := Lib.hid h1; clear h1; cases h2 : inB bw 0 1000
      · rw [show (false && (decide ((c.length : Int) ≤ 4) && numsB c) && ascB c) = false from rfl]
        have H2 := Lib.hid h2; clear h2
        go_enter Tryz.func183, Tryz.ntmps183
        go_wp2_with fail; refine (nums_t _ hp1 H0).mono ?_; rintro e w1 ⟨rfl, hb⟩; replace c0 := cell_keep hb lt c0; replace c1 := cell_keep hb lt c1; replace c2 := cell_keep hb lt c2; replace c3 := cell_keep hb lt c3; replace lt := Nat.lt_of_lt_of_le lt hb.size; replace hp1 := hp1.keep hb; replace hc1 := hc1.keep hb; replace B0 := below_step B0 hb; clear hb; go_wp2_with fail; refine (within_t _ H1).mono ?_; rintro e w2 ⟨rfl, rfl⟩; go_wp2_with fail; refine (within_t _ H2).mono ?_; rintro e w3 ⟨rfl, rfl⟩; go_wp2
        go_ret
        exact ⟨rfl, B0⟩
      · rw [show (true && (decide ((c.length : Int) ≤ 4) && numsB c) && ascB c) = ((decide ((c.length : Int) ≤ 4) && numsB c) && ascB c) from rfl]
        have H2 := Lib.hid h2; clear h2; cases h3 : (decide ((c.length : Int) ≤ 4) && numsB c)
        · rw [show (false && ascB c) = false from rfl]
          have H3 := Lib.hid h3; clear h3
          go_enter Tryz.func183, Tryz.ntmps183
          go_wp2_with fail; refine (nums_t _ hp1 H0).mono ?_; rintro e w1 ⟨rfl, hb⟩; replace c0 := cell_keep hb lt c0; replace c1 := cell_keep hb lt c1; replace c2 := cell_keep hb lt c2; replace c3 := cell_keep hb lt c3; replace lt := Nat.lt_of_lt_of_le lt hb.size; replace hp1 := hp1.keep hb; replace hc1 := hc1.keep hb; replace B0 := below_step B0 hb; clear hb; go_wp2_with fail; refine (within_t _ H1).mono ?_; rintro e w2 ⟨rfl, rfl⟩; go_wp2_with fail; refine (within_t _ H2).mono ?_; rintro e w3 ⟨rfl, rfl⟩; go_wp2_with fail; refine (nums_t _ hc1 H3).mono ?_; rintro e w4 ⟨rfl, hb⟩; replace c0 := cell_keep hb lt c0; replace c1 := cell_keep hb lt c1; replace c2 := cell_keep hb lt c2; replace c3 := cell_keep hb lt c3; replace lt := Nat.lt_of_lt_of_le lt hb.size; replace hp1 := hp1.keep hb; replace hc1 := hc1.keep hb; replace B0 := below_step B0 hb; clear hb; go_wp2
          go_ret
          exact ⟨rfl, B0⟩
        · rw [show (true && ascB c) = (ascB c) from rfl]
          have H3 := Lib.hid h3; clear h3; cases h4 : ascB c
          · have H4 := Lib.hid h4
            clear h4
            go_enter Tryz.func183, Tryz.ntmps183
            go_wp2_with fail; refine (nums_t _ hp1 H0).mono ?_; rintro e w1 ⟨rfl, hb⟩; replace c0 := cell_keep hb lt c0; replace c1 := cell_keep hb lt c1; replace c2 := cell_keep hb lt c2; replace c3 := cell_keep hb lt c3; replace lt := Nat.lt_of_lt_of_le lt hb.size; replace hp1 := hp1.keep hb; replace hc1 := hc1.keep hb; replace B0 := below_step B0 hb; clear hb; go_wp2_with fail; refine (within_t _ H1).mono ?_; rintro e w2 ⟨rfl, rfl⟩; go_wp2_with fail; refine (within_t _ H2).mono ?_; rintro e w3 ⟨rfl, rfl⟩; go_wp2_with fail; refine (nums_t _ hc1 H3).mono ?_; rintro e w4 ⟨rfl, hb⟩; replace c0 := cell_keep hb lt c0; replace c1 := cell_keep hb lt c1; replace c2 := cell_keep hb lt c2; replace c3 := cell_keep hb lt c3; replace lt := Nat.lt_of_lt_of_le lt hb.size; replace hp1 := hp1.keep hb; replace hc1 := hc1.keep hb; replace B0 := below_step B0 hb; clear hb; go_wp2_with fail; refine (asc_t _ hc1 H4).mono ?_; rintro e w5 ⟨rfl, hb⟩; replace c0 := cell_keep hb lt c0; replace c1 := cell_keep hb lt c1; replace c2 := cell_keep hb lt c2; replace c3 := cell_keep hb lt c3; replace lt := Nat.lt_of_lt_of_le lt hb.size; replace hp1 := hp1.keep hb; replace hc1 := hc1.keep hb; replace B0 := below_step B0 hb; clear hb; go_wp2
            go_ret
            exact ⟨rfl, B0⟩
          · have H4 := Lib.hid h4
            clear h4
            go_enter Tryz.func183, Tryz.ntmps183
            go_wp2_with fail; refine (nums_t _ hp1 H0).mono ?_; rintro e w1 ⟨rfl, hb⟩; replace c0 := cell_keep hb lt c0; replace c1 := cell_keep hb lt c1; replace c2 := cell_keep hb lt c2; replace c3 := cell_keep hb lt c3; replace lt := Nat.lt_of_lt_of_le lt hb.size; replace hp1 := hp1.keep hb; replace hc1 := hc1.keep hb; replace B0 := below_step B0 hb; clear hb; go_wp2_with fail; refine (within_t _ H1).mono ?_; rintro e w2 ⟨rfl, rfl⟩; go_wp2_with fail; refine (within_t _ H2).mono ?_; rintro e w3 ⟨rfl, rfl⟩; go_wp2_with fail; refine (nums_t _ hc1 H3).mono ?_; rintro e w4 ⟨rfl, hb⟩; replace c0 := cell_keep hb lt c0; replace c1 := cell_keep hb lt c1; replace c2 := cell_keep hb lt c2; replace c3 := cell_keep hb lt c3; replace lt := Nat.lt_of_lt_of_le lt hb.size; replace hp1 := hp1.keep hb; replace hc1 := hc1.keep hb; replace B0 := below_step B0 hb; clear hb; go_wp2_with fail; refine (asc_t _ hc1 H4).mono ?_; rintro e w5 ⟨rfl, hb⟩; replace c0 := cell_keep hb lt c0; replace c1 := cell_keep hb lt c1; replace c2 := cell_keep hb lt c2; replace c3 := cell_keep hb lt c3; replace lt := Nat.lt_of_lt_of_le lt hb.size; replace hp1 := hp1.keep hb; replace hc1 := hc1.keep hb; replace B0 := below_step B0 hb; clear hb; go_wp2
            go_ret
            exact ⟨rfl, B0⟩
end Go.Proofs.YtkodnipmogdgkabGreat
namespace Go.Proofs.YtkodnipmogdgkabGreat
open Go.ChangeShapes Go.WideShapes Go.ChangeAt Go.RowKit Go.BigFrame Go.Joins
set_option linter.unusedVariables false
set_option maxRecDepth 100000

theorem nums_no {l : List Int} {k : Nat} {x : Int} (hk : k < l.length) (hx : l.getD k 0 = x) (h : asB x = false) : numsB l = false := by
  unfold numsB; simp only [decide_eq_false_iff_not]; intro g; have := g k hk; rw [hx, h] at this; cases this
theorem nums_yes {l : List Int} {n : Nat} (hn : n = l.length) (h : ∀ i, i < n → asB (l.getD i 0) = true) : numsB l = true := by
  unfold numsB; simp only [decide_eq_true_eq]; intro i hi
  exact h i (by omega)
theorem asc_no {l : List Int} {k : Nat} {x y : Int} (hk : k + 1 < l.length) (hx : l.getD k 0 = x) (hy : l.getD (k + 1) 0 = y) (h : ¬ x < y) : ascB l = false := by
  unfold ascB; simp only [decide_eq_false_iff_not]; intro g; have := g k (by omega); rw [hx, hy] at this
  exact h this
theorem asc_yes {l : List Int} {n : Nat} (hn : n = l.length) (h : ∀ i, i + 1 < n → l.getD i 0 < l.getD (i + 1) 0) : ascB l = true := by
  unfold ascB; simp only [decide_eq_true_eq]; intro i hi
  exact h i (by omega)
theorem all_succ {l : List Int} {k : Nat} {x : Int} (h : ∀ i, i < k → asB (l.getD i 0) = true) (hx : l.getD k 0 = x) (hs : asB x = true) : ∀ i, i < k + 1 → asB (l.getD i 0) = true := by
  intro i hi
  by_cases e : i = k
  · rw [e, hx]; exact hs
  · exact h i (by omega)
theorem sas_t {n : Int} {b : Bool} (w : World) (H : Hid (asB n = b)) : Calls Tryz.prog 45 #[.int .i64 n] w fun e w' => e = .returned (.bool b) ∧ w = w' := H.out ▸ sas_any n w
theorem aok_eq {p c : List Int} {pr bw : Int} (h1 : p.length ≤ 8) (h2 : c.length ≤ 4) (h3 : 0 ≤ pr) (h4 : pr ≤ 1000) (h5 : 0 ≤ bw) (h6 : bw ≤ 1000) : aokB p pr c bw = (numsB p && (numsB c && ascB c)) := by
  simp [aokB, inB, h1, h2, h3, h4, h5, h6, Bool.and_assoc]

set_option maxHeartbeats 1000000 in
theorem saok_any (pv cv : Value) (p c : List Int) (pr bw : Int) (w : World) (hp : RdI w pv p) (hc : RdI w cv c) :
    Calls Tryz.prog 80 #[.agg #[pv, .int .i64 pr, cv, .int .i64 bw]] w fun e w' => e = .returned (.bool (aokB p pr c bw)) ∧ Below w.heap.size w w' := by
  have hp1 := hp.alloc (.cells #[pv, .int .i64 pr, cv, .int .i64 bw] 93); have hc1 := hc.alloc (.cells #[pv, .int .i64 pr, cv, .int .i64 bw] 93); have hpm := hp.2.1; have hcm := hc.2.1; unfold maxLen at hpm hcm; have pb := getD_bd_I hp.1; have cb := getD_bd_I hc.1; obtain ⟨pa, pc, rfl, hpe⟩ := hp1.el; obtain ⟨ca, cc, rfl, hce⟩ := hc1.el; obtain ⟨c0, c1, c2, c3, lt, B0⟩ := box4 w (.slice pa p.length pc) (.int .i64 pr) (.slice ca c.length cc) (.int .i64 bw) 93; clear hp hc hp1 hc1
  by_cases h0 : p.length ≤ 8
  · have g0 : ¬ ((8 : Int) < (p.length : Int)) := by omega
    by_cases h1 : c.length ≤ 4
    · have g1 : ¬ ((4 : Int) < (c.length : Int)) := by omega
      by_cases h2 : 0 ≤ pr
      · have g2 : ¬ (pr < 0) := by omega
        by_cases h3 : pr ≤ 1000
        · have g3 : ¬ (1000 < pr) := by omega
          by_cases h4 : 0 ≤ bw
          · have g4 : ¬ (bw < 0) := by omega
            by_cases h5 : bw ≤ 1000
            · have g5 : ¬ (1000 < bw) := by omega
              rw [aok_eq h0 h1 h2 h3 h4 h5]; clear h2 h3 h4 h5; obtain ⟨n, hn⟩ : ∃ n, n = p.length := ⟨_, rfl⟩; obtain ⟨m, hm⟩ : ∃ m, m = c.length := ⟨_, rfl⟩; rw [← hn] at hpe hpm c0 c1 c2 c3 g0 h0 lt B0 ⊢; rw [← hm] at hce hcm c0 c1 c2 c3 g1 h1 lt B0 hpe ⊢; rw [← hn] at hce; have HN := Lib.hid hn; have HM := Lib.hid hm; clear hn hm
              go_enter Tryz.func80, Tryz.ntmps80
              go_wp2; clear g0 g1 g2 g3 g4 g5
              go_loop [3] (fun q => ∃ k : Nat, k ≤ n ∧ q = .int .i64 k ∧ ∀ i, i < k → asB (p.getD i 0) = true) (fun q => n - (intOf q).toNat)
              case atStart => exact ⟨0, Nat.zero_le _, rfl, fun i hi => by omega⟩
              case round =>
                obtain ⟨k, hk, rfl, hall⟩ := hrel; have HA := Lib.hid hall; clear hall
                by_cases hlt : k < n
                · have hltI : (k : Int) < (n : Int) := by omega
                  obtain ⟨b, o, rfl, e1⟩ := hpe k hlt; obtain ⟨x, hx⟩ : ∃ x, p.getD k 0 = x := ⟨_, rfl⟩; rw [hx] at e1; have HX := Lib.hid hx; clear hx hpe hce pb cb; cases has : asB x
                  · have HF := Lib.hid (nums_no (by rw [← HN.out]; exact hlt) HX.out has)
                    have HS := Lib.hid has; clear has; go_wp2_with fail; refine (sas_any x _).mono ?_; rintro e w1 ⟨rfl, rfl⟩; rw [HS.out]; go_wp2
                    go_ret
                    exact ⟨ret_bool (by rw [HF.out]; rfl), B0⟩
                  · have HS := Lib.hid has
                    clear has; go_wp2_with fail; refine (sas_any x _).mono ?_; rintro e w1 ⟨rfl, rfl⟩; rw [HS.out]; go_wp2
                    go_round
                    case rel => exact ⟨k + 1, by omega, by go_num, all_succ HA.out HX.out HS.out⟩
                    case measure => simp [intOf]; omega
                · have hkn : k = n := by omega
                  have hyes := nums_yes HN.out (by rw [← hkn]; exact HA.out); have HY := Lib.hid hyes; clear hyes hkn hpe pb HA; go_wp2
                  go_loopw [4] (fun q wr => ∃ j : Nat, j ≤ m ∧ q = .int .i64 j ∧ (∀ i, i < j → asB (c.getD i 0) = true) ∧ (∀ i, i + 1 < j → c.getD i 0 < c.getD (i + 1) 0) ∧ wr.cell? ⟨w.heap.size, 2, none⟩ = some (.slice ca m cc) ∧ Over (w.alloc (.cells #[.slice pa n pc, .int .i64 pr, .slice ca m cc, .int .i64 bw] 93)) wr) (fun q _ => m - (intOf q).toNat)
                  case atStart => exact ⟨0, Nat.zero_le _, rfl, fun i hi => by omega, fun i hi => by omega, c2, over_refl _⟩
                  case round =>
                    obtain ⟨j, hj, rfl, hall, hasc, d2, hB⟩ := hrel; have HA := Lib.hid hall; have HB := Lib.hid hasc; clear hall hasc
                    by_cases hlt2 : j < m
                    · have hltJ : (j : Int) < (m : Int) := by omega
                      obtain ⟨b, o, hca, e1⟩ := hce j hlt2; obtain ⟨x, hx⟩ : ∃ x, c.getD j 0 = x := ⟨_, rfl⟩; rw [hx] at e1; replace e1 := over_cell hB (World.block_lt_of_cell? _ _ e1) e1; have HX := Lib.hid hx; clear hx cb; cases has : asB x
                      · have HF := Lib.hid (nums_no (by rw [← HM.out]; exact hlt2) HX.out has)
                        have HS := Lib.hid has; clear has hce; subst hca; go_wp2_with fail
                        go_quiet ((go_at_call 45; exact q_of (sas_t _ HS)))
                        go_wp2
                        go_ret
                        exact ⟨ret_bool (by rw [HY.out, HF.out]; rfl), below_step B0 (below_drewN hB _)⟩
                      · have HS := Lib.hid has
                        clear has
                        by_cases hj0 : j = 0
                        · have hnj : ¬ 0 < j := by omega
                          have HJ := Lib.hid hj0; clear hce hj0; subst hca; go_wp2_with fail
                          go_quiet ((go_at_call 45; exact q_of (sas_t _ HS)))
                          go_wp2
                          go_roundw
                          case rel => exact ⟨j + 1, by omega, by go_num, all_succ HA.out HX.out HS.out, fun i hi => by have := HJ.out; omega, d2, below_drewN hB _⟩
                          case measure => simp [intOf]; omega
                        · obtain ⟨i, rfl⟩ : ∃ i, j = i + 1 := ⟨j - 1, by omega⟩
                          obtain ⟨b', o', hca', e2⟩ := hce i (by omega); obtain ⟨y, hy⟩ : ∃ y, c.getD i 0 = y := ⟨_, rfl⟩; rw [hy] at e2; have HV := Lib.hid hy; replace e2 := over_cell hB (World.block_lt_of_cell? _ _ e2) e2; rw [hca] at hca'
                          injection hca' with hca'
                          injection hca' with hb1 ho1
                          clear hce hy; subst hb1 ho1 hca; have hj1 : ((i + 1 : Nat) : Int) - 1 = (i : Int) := by omega
                          have hj2 : (0 : Int) < ((i + 1 : Nat) : Int) := by omega
                          by_cases hyx : y < x
                          · have hge : decide (x ≤ y) = false := by simp; omega
                            have hge2 : ¬ x ≤ y := by omega
                            have HL := Lib.hid hyx; clear hyx; go_wp2_with fail
                            go_quiet ((go_at_call 45; exact q_of (sas_t _ HS)))
                            go_wp2
                            go_roundw
                            case rel => exact ⟨i + 1 + 1, by omega, by go_num, all_succ HA.out HX.out HS.out, fun t ht => by
                              by_cases e : t = i
                              · rw [e, HV.out, HX.out]; exact HL.out
                              · exact HB.out t (by omega), d2, below_drewN hB _⟩
                            case measure => simp [intOf]; omega
                          · have hge : decide (x ≤ y) = true := by simp; omega
                            have hge2 : x ≤ y := by omega
                            have HF := Lib.hid (asc_no (by rw [← HM.out]; exact hlt2) HV.out HX.out hyx); clear hyx; go_wp2_with fail
                            go_quiet ((go_at_call 45; exact q_of (sas_t _ HS)))
                            go_wp2
                            go_ret
                            exact ⟨ret_bool (by rw [HY.out, HF.out, Bool.and_false]; rfl), below_step B0 (below_drewN hB _)⟩
                    · have hkn : j = m := by omega
                      have hyes := nums_yes HM.out (by rw [← hkn]; exact HA.out); have hasc := asc_yes HM.out (by rw [← hkn]; exact HB.out); have HZ := Lib.hid hyes; have HW := Lib.hid hasc; clear hyes hasc hkn hce cb HA HB; go_wp2
                      go_ret
                      exact ⟨ret_bool (by rw [HY.out, HZ.out, HW.out]; rfl), below_step B0 hB⟩
            · have e : aokB p pr c bw = false := by simp [aokB, inB, h5]
              rw [e]; have g5 : 1000 < bw := by omega
              clear e hpe hce h5 pb cb
              go_enter Tryz.func80, Tryz.ntmps80
              go_wp2
              go_ret
              exact ⟨rfl, B0⟩
          · have e : aokB p pr c bw = false := by simp [aokB, inB, h4]
            rw [e]; have g4 : bw < 0 := by omega
            clear e hpe hce h4 pb cb
            go_enter Tryz.func80, Tryz.ntmps80
            go_wp2
            go_ret
            exact ⟨rfl, B0⟩
        · have e : aokB p pr c bw = false := by simp [aokB, inB, h3]
          rw [e]; have g3 : 1000 < pr := by omega
          clear e hpe hce h3 pb cb
          go_enter Tryz.func80, Tryz.ntmps80
          go_wp2
          go_ret
          exact ⟨rfl, B0⟩
      · have e : aokB p pr c bw = false := by simp [aokB, inB, h2]
        rw [e]; have g2 : pr < 0 := by omega
        clear e hpe hce h2 pb cb
        go_enter Tryz.func80, Tryz.ntmps80
        go_wp2
        go_ret
        exact ⟨rfl, B0⟩
    · have e : aokB p pr c bw = false := by simp [aokB, inB, h1]
      rw [e]; have g1 : (4 : Int) < (c.length : Int) := by omega
      clear e hpe hce h1 pb cb
      go_enter Tryz.func80, Tryz.ntmps80
      go_wp2
      go_ret
      exact ⟨rfl, B0⟩
  · have e : aokB p pr c bw = false := by simp [aokB, inB, h0]
    rw [e]; have g0 : (8 : Int) < (p.length : Int) := by omega
    clear e hpe hce h0 pb cb
    go_enter Tryz.func80, Tryz.ntmps80
    go_wp2
    go_ret
    exact ⟨rfl, B0⟩
end Go.Proofs.YtkodnipmogdgkabGreat
namespace Go.Proofs.YtkodnipmogdgkabGreat
open Go.ChangeShapes Go.WideShapes Go.ChangeAt Go.RowKit Go.BigFrame Go.Joins
set_option linter.unusedVariables false
set_option maxRecDepth 100000

end Go.Proofs.YtkodnipmogdgkabGreat
namespace Go.Proofs.YtkodnipmogdgkabGreat
open Go.ChangeShapes Go.WideShapes Go.ChangeAt Go.RowKit Go.BigFrame Go.Joins
set_option linter.unusedVariables false
set_option maxRecDepth 100000
set_option linter.unusedSimpArgs false
set_option maxRecDepth 100000

/-- an entry beside the values of its two slices -/
structure ET where
  E : Ent
  u : Value
  v : Value
def cellsT (t : ET) : List Value := [.int .i64 t.E.a, .int .i64 t.E.n, .int .i64 t.E.pe, t.u, .int .i64 t.E.pr, t.v, .int .i64 t.E.bw]
def flatT (T : List ET) : List Value := T.flatMap cellsT
theorem flatT_append (S T : List ET) : flatT (S ++ T) = flatT S ++ flatT T := by simp [flatT]
theorem flatT_get (T : List ET) (i j : Nat) (hi : i < T.length) (hj : j < 7) : (flatT T)[i * 7 + j]? = (cellsT (T[i]'hi))[j]? := by
  induction T generalizing i with
  | nil => simp at hi
  | cons t T ih =>
    have e : flatT (t :: T) = cellsT t ++ flatT T := by simp [flatT]
    rw [e]; cases i with
    | zero =>
      rw [Nat.zero_mul, Nat.zero_add, List.getElem?_append_left (by simp [cellsT]; omega)]
      rfl
    | succ i =>
      rw [List.getElem?_append_right (by simp [cellsT]; omega), show (i + 1) * 7 + j - (cellsT t).length = i * 7 + j by simp [cellsT]; omega, ih i (by simpa using hi)]
      rfl
/-- all their rows -/
def rowsT (T : List ET) : List Value := T.flatMap fun t => [t.u, t.v]
def entT (T : List ET) : List Ent := T.map (·.E)
theorem entT_len (T : List ET) : (entT T).length = T.length := by simp [entT]
theorem entT_append (S T : List ET) : entT (S ++ T) = entT S ++ entT T := by simp [entT]
theorem entT_get {T : List ET} {i : Nat} (hi : i < T.length) : (entT T).getD i e0 = (T[i]'hi).E := by simp [entT, List.getD, hi]
/-- a row of entries of the call's own; their slices are rows of its own too, all apart -/
structure OwnT (w : World) (base : Nat) (v : Value) (T : List ET) : Prop where
  row : w.ownsRow base EI 7 v T.length (flatT T)
  own : ∀ t ∈ T, OwnI w base t.u t.E.p ∧ OwnI w base t.v t.E.c
  len : ∀ t ∈ T, (∃ a c, t.u = .slice a t.E.p.length c) ∧ ∃ a c, t.v = .slice a t.E.c.length c
  sep : ∀ t ∈ T, (t.u.ownBlock = none ∨ t.u.ownBlock ≠ v.ownBlock) ∧ (t.v.ownBlock = none ∨ t.v.ownBlock ≠ v.ownBlock)
  apart : (rowsT T).Pairwise Apart
theorem OwnT.nil (w : World) (base : Nat) : OwnT w base (.slice none 0 0) [] := ⟨World.ownsRow_nil _ _ _ _, by simp, by simp, by simp, by simp [rowsT]⟩
theorem OwnT.kept {w w' : World} {base : Nat} {v : Value} {T : List ET} {row : Option Nat} (h : OwnT w base v T) (hg : w.grownBy w' row) (h1 : v.ownBlock = none ∨ v.ownBlock ≠ row) (h2 : ∀ t ∈ T, (t.u.ownBlock = none ∨ t.u.ownBlock ≠ row) ∧ (t.v.ownBlock = none ∨ t.v.ownBlock ≠ row)) : OwnT w' base v T :=
  ⟨World.ownsRow.kept h.row hg h1, fun t ht => ⟨(h.own t ht).1.kept hg (h2 t ht).1, (h.own t ht).2.kept hg (h2 t ht).2⟩, h.len, h.sep, h.apart⟩
theorem OwnT.keep {w w' : World} {base : Nat} {v : Value} {T : List ET} (h : OwnT w base v T) (hb : Below w.heap.size w w') : OwnT w' base v T :=
  ⟨World.ownsRow.kept (row := none) h.row ⟨hb.os, hb.tape, hb.output, hb.size, fun k hk _ => hb.block k hk⟩ (by cases v.ownBlock <;> simp), fun t ht => ⟨(h.own t ht).1.keep hb, (h.own t ht).2.keep hb⟩, h.len, h.sep, h.apart⟩
theorem OwnT.lt {w : World} {base : Nat} {v : Value} {T : List ET} (h : OwnT w base v T) : ∀ t ∈ T, (∀ k, t.u.ownBlock = some k → base ≤ k ∧ k < w.heap.size) ∧ ∀ k, t.v.ownBlock = some k → base ≤ k ∧ k < w.heap.size :=
  fun t ht => ⟨fun k hk => World.ownsRow.lt (h.own t ht).1 k hk, fun k hk => World.ownsRow.lt (h.own t ht).2 k hk⟩
theorem OwnT.far {w : World} {base : Nat} {v u : Value} {T : List ET} {B o : Nat} (h : OwnT w base v T) (hB : B < base) : OwnT (w.setCell ⟨B, o, none⟩ u) base v T := by
  have ne : ∀ {x : Value}, (∀ k, x.ownBlock = some k → base ≤ k) → x.ownBlock = none ∨ x.ownBlock ≠ some B := fun {x} hx => by
    cases hv : x.ownBlock with
    | none => exact .inl rfl
    | some k => exact .inr (by have := hx k hv; intro e; cases e; omega)
  exact h.kept (grown_set w B o u) (ne fun k hk => (World.ownsRow.lt h.row k hk).1) fun t ht => ⟨ne fun k hk => ((h.lt t ht).1 k hk).1, ne fun k hk => ((h.lt t ht).2 k hk).1⟩
theorem OwnT.mono {w : World} {base base' : Nat} {v : Value} {T : List ET} (h : OwnT w base v T) (hb : base' ≤ base) : OwnT w base' v T := by
  refine ⟨⟨h.row.1, ?_⟩, fun t ht => ⟨(h.own t ht).1.mono hb, (h.own t ht).2.mono hb⟩, h.len, h.sep, h.apart⟩
  rcases h.row.2 with hn | ⟨g, cap, cur, hv, hg, rest⟩
  · exact .inl hn
  · exact .inr ⟨g, cap, cur, hv, by omega, rest⟩
/-- it reads as its entries -/
theorem OwnT.rd {w : World} {base : Nat} {v : Value} {T : List ET} (h : OwnT w base v T) (hd : ∀ t ∈ T, BdE t.E) : RdE w v (entT T) := by
  rcases h.row.2 with ⟨rfl, hn⟩ | ⟨g, cap, cur, rfl, hb, hg, hnc, hcm, hcs, htake⟩
  · have hT : T = [] := List.eq_nil_of_length_eq_zero hn
    subst hT
    exact RdE.nil w
  · rw [← entT_len]
    refine ⟨by rw [entT_len]; unfold maxLen at hcm; omega, ?_⟩
    by_cases hz : T.length = 0
    · exact .inl ⟨some ⟨g, 0, none⟩, cap, by rw [entT_len, hz], List.eq_nil_of_length_eq_zero (by rw [entT_len, hz]), fun h => by cases h⟩
    · refine .inr ⟨g, 0, cap, rfl, by rw [entT_len]; omega, fun i hi => ?_⟩
      rw [entT_len] at hi; have hm : T[i] ∈ T := List.getElem_mem hi; rw [entT_get hi]
      have hc : ∀ j, j < 7 → w.cell? ⟨g, 0 + i * 7 + j, none⟩ = (cellsT T[i])[j]? := fun j hj => by
        rw [Nat.zero_add, h.row.cellAt (i * 7 + j) (by omega), flatT_get T i j hi hj]
      exact ⟨T[i].u, T[i].v, (h.own _ hm).1.rd (hd _ hm).1, (h.own _ hm).2.rd (hd _ hm).2, hc 0 (by omega), hc 1 (by omega), hc 2 (by omega), hc 3 (by omega), hc 4 (by omega), hc 5 (by omega), hc 6 (by omega)⟩
theorem infoE2 : (Tryz.prog.info? EI).map (fun i => (i.zero, i.size, i.bytes)) = some (some (.agg #[.int .i64 0, .int .i64 0, .int .i64 0, .slice none 0 0, .int .i64 0, .slice none 0 0, .int .i64 0]), 7, 88) := by kernel_rfl
end Go.Proofs.YtkodnipmogdgkabGreat
namespace Go.Proofs.YtkodnipmogdgkabGreat
open Go.ChangeShapes Go.WideShapes Go.ChangeAt Go.RowKit Go.BigFrame Go.Joins
set_option linter.unusedVariables false
set_option maxRecDepth 100000
set_option linter.unusedSimpArgs false
set_option maxRecDepth 100000

/-- append(s, E): the slice it is handed over in has been made just now -/
theorem wp_appE {ops : Array Oper} {rest : List Oper} {o : Oper} {a : Act} {Q : Exit → Act → World → Prop} {w : World} (hgd : o.guard = none) (s x : Operand)
    (ho : o.op = .call { callee := .builtin .append, args := #[s, x], argTypes := #[67, 67] })
    (base g c : Nat) (v : Value) (n : Nat) (xs : List Value) (ys : List Value) (hs : a.eval s = v) (hx : a.eval x = .slice (some ⟨g, 0, none⟩) 1 c) (hown : w.ownsRow base EI 7 v n xs)
    (h0 : Bl w g ys) (h7 : ys.length = 7) (h1 : ∀ u ∈ ys, u.oneCell' = true) (hlen : n + 1 ≤ 4294967296) (hbase : base ≤ w.heap.size)
    (h : ∀ v' w', w'.ownsRow base EI 7 v' (n + 1) (xs ++ ys) → w.grownBy w' v.ownBlock → (v'.ownBlock = v.ownBlock ∨ v'.ownBlock = some w.heap.size) → wpList Tryz.prog ops Q rest (a.put o.dst v') w') : wpList Tryz.prog ops Q (o :: rest) a w := by
  obtain ⟨i0, hi, hz0, hz1, hz2⟩ := info_parts infoE2; refine wpList_append_own_at (w := w) hgd s x 67 ho base EI i0 (.agg #[.int .i64 0, .int .i64 0, .int .i64 0, .slice none 0 0, .int .i64 0, .slice none 0 0, .int .i64 0]) 7 88 Tryz.underlying67 hi hz0 hz1 hz2 rfl (by decide) v n xs hs hown ⟨g, 0, none⟩ 1 c ys hx (by omega) (fun j y hy => ?_) h1 (by unfold maxLen; omega) (by omega) hbase fun v' w' ho' hg' _ hor => h v' w' ho' hg' hor
  have hadd : ∀ j, (⟨g, 0, none⟩ : Addr).add j = ⟨g, j, none⟩ := fun j => by unfold Addr.add; split <;> simp_all
  rw [hadd]
  exact h0.c j hy
end Go.Proofs.YtkodnipmogdgkabGreat
namespace Go.Proofs.YtkodnipmogdgkabGreat
open Go.ChangeShapes Go.WideShapes Go.ChangeAt Go.RowKit Go.BigFrame Go.Joins
set_option linter.unusedVariables false
set_option maxRecDepth 100000
set_option linter.unusedSimpArgs false
set_option maxRecDepth 100000

theorem below_growT {V w w' : World} {v : Value} {base n : Nat} {xs : List Value} (h : Below V.heap.size V w) (ho : w.ownsRow base EI 7 v n xs) (hb : V.heap.size ≤ base) (hg : w.grownBy w' v.ownBlock) : Below V.heap.size V w' :=
  Below.grown h hg h.size (fun k hk => Nat.le_trans hb (World.ownsRow.lt ho k hk).1)
end Go.Proofs.YtkodnipmogdgkabGreat
namespace Go.Proofs.YtkodnipmogdgkabGreat
open Go.ChangeShapes Go.WideShapes Go.ChangeAt Go.RowKit Go.BigFrame Go.Joins
set_option linter.unusedVariables false
set_option maxRecDepth 100000
set_option linter.unusedSimpArgs false
set_option maxRecDepth 100000

/-- one direction of a link -/
structure Wy where
  fn : Int
  fi : Int
  tn : Int
  ti : Int
  up : Bool
  tr : List Mg
def y0 : Wy := ⟨0, 0, 0, 0, false, []⟩
instance : Inhabited Wy := ⟨y0⟩
/-- a pointer to a list of messages -/
def RdPt (w : World) (p : Value) (tr : List Mg) : Prop := ∃ b o v, p = .pointer (some ⟨b, o, none⟩) ∧ w.cell? ⟨b, o, none⟩ = some v ∧ RdMS w v tr
theorem RdPt.keep {w w' : World} {p : Value} {tr : List Mg} (h : RdPt w p tr) (hb : Below w.heap.size w w') : RdPt w' p tr := by
  obtain ⟨b, o, v, rfl, hc, hm⟩ := h
  exact ⟨b, o, v, rfl, cell_keep hb (World.block_lt_of_cell? w _ hc) hc, hm.keep hb⟩
def RdW (w : World) (pv : Value) (x : Wy) : Prop := RdPt w pv x.tr
theorem RdW.keep {w w' : World} {pv : Value} {x : Wy} (h : RdW w pv x) (hb : Below w.heap.size w w') : RdW w' pv x := by
  have h0 := h
  exact RdPt.keep h0 hb
/-- the cells of block b from o on hold it -/
def AtW (w : World) (b o : Nat) (x : Wy) : Prop :=
  ∃ pv, RdW w pv x ∧ w.cell? ⟨b, o, none⟩ = some (.int .i64 x.fn) ∧ w.cell? ⟨b, o + 1, none⟩ = some (.int .i64 x.fi) ∧ w.cell? ⟨b, o + 2, none⟩ = some (.int .i64 x.tn) ∧ w.cell? ⟨b, o + 3, none⟩ = some (.int .i64 x.ti) ∧ w.cell? ⟨b, o + 4, none⟩ = some (.bool x.up) ∧ w.cell? ⟨b, o + 5, none⟩ = some (pv)
theorem AtW.keep {w w' : World} {b o : Nat} {x : Wy} (h : AtW w b o x) (hb : Below w.heap.size w w') : AtW w' b o x := by
  obtain ⟨pv, hr, k0, k1, k2, k3, k4, k5⟩ := h
  exact ⟨pv, hr.keep hb, cell_keep hb (World.block_lt_of_cell? w _ k0) k0, cell_keep hb (World.block_lt_of_cell? w _ k1) k1, cell_keep hb (World.block_lt_of_cell? w _ k2) k2, cell_keep hb (World.block_lt_of_cell? w _ k3) k3, cell_keep hb (World.block_lt_of_cell? w _ k4) k4, cell_keep hb (World.block_lt_of_cell? w _ k5) k5⟩
def RdWS (w : World) (v : Value) (L : List Wy) : Prop :=
  L.length ≤ 9223372036854775807 ∧
  ((∃ a c, v = .slice a 0 c ∧ L = [] ∧ (a = none → c = 0)) ∨
   ∃ b o c, v = .slice (some ⟨b, o, none⟩) L.length c ∧ 0 < L.length ∧ ∀ i, i < L.length → AtW w b (o + i * 6) (L.getD i y0))
theorem RdWS.keep {w w' : World} {v : Value} {L : List Wy} (h : RdWS w v L) (hb : Below w.heap.size w w') : RdWS w' v L := by
  obtain ⟨h2, h3⟩ := h; refine ⟨h2, ?_⟩
  rcases h3 with h3 | ⟨b, o, c, hv, hp, hc⟩
  · exact .inl h3
  · exact .inr ⟨b, o, c, hv, hp, fun i hi => (hc i hi).keep hb⟩
theorem RdWS.len {w : World} {v : Value} {L : List Wy} (h : RdWS w v L) : ∃ a c, v = .slice a L.length c := by
  rcases h.2 with ⟨a, c, rfl, rfl, hac⟩ | ⟨b, o, c, rfl, _⟩
  · exact ⟨a, c, rfl⟩
  · exact ⟨_, c, rfl⟩
theorem RdWS.el {w : World} {v : Value} {L : List Wy} (h : RdWS w v L) : ∃ a c, v = .slice a L.length c ∧ ∀ i, i < L.length → ∃ b o, a = some ⟨b, o, none⟩ ∧ AtW w b (o + i * 6) (L.getD i y0) := by
  rcases h.2 with ⟨a, c, rfl, rfl, -⟩ | ⟨b, o, c, rfl, -, hc⟩
  · exact ⟨a, c, rfl, fun i hi => absurd hi (by simp)⟩
  · exact ⟨_, c, rfl, fun i hi => ⟨b, o, rfl, hc i hi⟩⟩
theorem RdWS.nil (w : World) : RdWS w (.slice none 0 0) [] := ⟨by simp, .inl ⟨none, 0, rfl, rfl, fun _ => rfl⟩⟩
def waysOf (x : Lk) : List Wy := [⟨x.a, x.ai, x.b, x.bi, x.up, x.ab⟩, ⟨x.b, x.bi, x.a, x.ai, x.up, x.ba⟩]
def waysL (L : List Lk) : List Wy := L.flatMap waysOf
theorem waysL_len (L : List Lk) : (waysL L).length = 2 * L.length := by
  induction L with
  | nil => rfl
  | cons x L ih => simp only [waysL, List.flatMap_cons, List.length_append, List.length_cons] at ih ⊢; rw [ih]; simp [waysOf]; omega
theorem waysL_take {L : List Lk} {k : Nat} (hk : k < L.length) : waysL (L.take (k + 1)) = waysL (L.take k) ++ waysOf (L.getD k l0) := by
  have hg : L[k] = L.getD k l0 := by simp [List.getD, hk]
  rw [List.take_add_one, List.getElem?_eq_getElem hk, hg]
  simp [waysL]
/-- a direction beside the pointer to its messages -/
structure WT where
  x : Wy
  p : Value
def cellsW (t : WT) : List Value := [.int .i64 t.x.fn, .int .i64 t.x.fi, .int .i64 t.x.tn, .int .i64 t.x.ti, .bool t.x.up, t.p]
def flatW (T : List WT) : List Value := T.flatMap cellsW
theorem flatW_append (S T : List WT) : flatW (S ++ T) = flatW S ++ flatW T := by simp [flatW]
theorem flatW_get (T : List WT) (i j : Nat) (hi : i < T.length) (hj : j < 6) : (flatW T)[i * 6 + j]? = (cellsW (T[i]'hi))[j]? := by
  induction T generalizing i with
  | nil => simp at hi
  | cons t T ih =>
    have e : flatW (t :: T) = cellsW t ++ flatW T := by simp [flatW]
    rw [e]; cases i with
    | zero =>
      rw [Nat.zero_mul, Nat.zero_add, List.getElem?_append_left (by simp [cellsW]; omega)]
      rfl
    | succ i =>
      rw [List.getElem?_append_right (by simp [cellsW]; omega), show (i + 1) * 6 + j - (cellsW t).length = i * 6 + j by simp [cellsW]; omega, ih i (by simpa using hi)]
      rfl
def wysT (T : List WT) : List Wy := T.map (·.x)
theorem wysT_len (T : List WT) : (wysT T).length = T.length := by simp [wysT]
theorem wysT_get {T : List WT} {i : Nat} (hi : i < T.length) : (wysT T).getD i y0 = (T[i]'hi).x := by simp [wysT, List.getD, hi]
theorem rowW_rd {w : World} {base : Nat} {v : Value} {T : List WT} (h : w.ownsRow base 115 6 v T.length (flatW T)) (hr : ∀ t ∈ T, RdPt w t.p t.x.tr) : RdWS w v (wysT T) := by
  rcases h.2 with ⟨rfl, hn⟩ | ⟨g, cap, cur, rfl, hb, hg, hnc, hcm, hcs, htake⟩
  · have hT : T = [] := List.eq_nil_of_length_eq_zero hn
    subst hT
    exact RdWS.nil w
  · rw [← wysT_len]
    refine ⟨by rw [wysT_len]; unfold maxLen at hcm; omega, ?_⟩
    by_cases hz : T.length = 0
    · exact .inl ⟨some ⟨g, 0, none⟩, cap, by rw [wysT_len, hz], List.eq_nil_of_length_eq_zero (by rw [wysT_len, hz]), fun h => by cases h⟩
    · refine .inr ⟨g, 0, cap, rfl, by rw [wysT_len]; omega, fun i hi => ?_⟩
      rw [wysT_len] at hi; have hm : T[i] ∈ T := List.getElem_mem hi; rw [wysT_get hi]
      have hc : ∀ j, j < 6 → w.cell? ⟨g, 0 + i * 6 + j, none⟩ = (cellsW T[i])[j]? := fun j hj => by
        rw [Nat.zero_add, h.cellAt (i * 6 + j) (by omega), flatW_get T i j hi hj]
      exact ⟨T[i].p, hr _ hm, hc 0 (by omega), hc 1 (by omega), hc 2 (by omega), hc 3 (by omega), hc 4 (by omega), hc 5 (by omega)⟩
theorem rowW_keep {w w' : World} {base n : Nat} {v : Value} {xs : List Value} (h : w.ownsRow base 115 6 v n xs) (hb : Below w.heap.size w w') : w'.ownsRow base 115 6 v n xs :=
  World.ownsRow.kept (row := none) h ⟨hb.os, hb.tape, hb.output, hb.size, fun k hk _ => hb.block k hk⟩ (by cases v.ownBlock <;> simp)
theorem below_growW {V w w' : World} {v : Value} {base n : Nat} {xs : List Value} (h : Below V.heap.size V w) (ho : w.ownsRow base 115 6 v n xs) (hb : V.heap.size ≤ base) (hg : w.grownBy w' v.ownBlock) : Below V.heap.size V w' :=
  Below.grown h hg h.size (fun k hk => Nat.le_trans hb (World.ownsRow.lt ho k hk).1)
theorem infoW2 : (Tryz.prog.info? 115).map (fun i => (i.zero, i.size, i.bytes)) = some (some (.agg #[.int .i64 0, .int .i64 0, .int .i64 0, .int .i64 0, .bool false, .pointer none]), 6, 48) := by kernel_rfl
/-- append(s, ways[:]...) -/
theorem wp_appW {ops : Array Oper} {rest : List Oper} {o : Oper} {a : Act} {Q : Exit → Act → World → Prop} {w : World} (hgd : o.guard = none) (s x : Operand)
    (ho : o.op = .call { callee := .builtin .append, args := #[s, x], argTypes := #[148, 148] })
    (base g c : Nat) (v : Value) (n : Nat) (xs : List Value) (ys : List Value) (hs : a.eval s = v) (hx : a.eval x = .slice (some ⟨g, 0, none⟩) 2 c) (hown : w.ownsRow base 115 6 v n xs)
    (h0 : Bl w g ys) (h7 : ys.length = 12) (h1 : ∀ u ∈ ys, u.oneCell' = true) (hlen : n + 2 ≤ 4294967296) (hbase : base ≤ w.heap.size)
    (h : ∀ v' w', w'.ownsRow base 115 6 v' (n + 2) (xs ++ ys) → w.grownBy w' v.ownBlock → wpList Tryz.prog ops Q rest (a.put o.dst v') w') : wpList Tryz.prog ops Q (o :: rest) a w := by
  obtain ⟨i0, hi, hz0, hz1, hz2⟩ := info_parts infoW2; refine wpList_append_own_at (w := w) hgd s x 148 ho base 115 i0 (.agg #[.int .i64 0, .int .i64 0, .int .i64 0, .int .i64 0, .bool false, .pointer none]) 6 48 Tryz.underlying148 hi hz0 hz1 hz2 rfl (by decide) v n xs hs hown ⟨g, 0, none⟩ 2 c ys hx (by omega) (fun j y hy => ?_) h1 (by unfold maxLen; omega) (by omega) hbase fun v' w' ho' hg' _ hor => h v' w' ho' hg'
  have hadd : ∀ j, (⟨g, 0, none⟩ : Addr).add j = ⟨g, j, none⟩ := fun j => by unfold Addr.add; split <;> simp_all
  rw [hadd]
  exact h0.c j hy
theorem cell_far {w : World} {B C o o' : Nat} {u v : Value} (h : C ≠ B) (e : w.cell? ⟨B, o', none⟩ = some v) : (w.setCell ⟨C, o, none⟩ u).cell? ⟨B, o', none⟩ = some v := by
  rw [World.cell?_setCell_other _ _ _ _ (by intro q; cases q; exact h rfl)]
  exact e
/-- what the first statement leaves: both ends in boxes of their own -/
def KeptEnds (V wx : World) (x : Lk) (p q : Value) : Prop := ∃ B C, p = .pointer (some ⟨B, 0, none⟩) ∧ q = .pointer (some ⟨C, 0, none⟩) ∧ Over V wx ∧ Bl wx B [.int .i64 x.a, .int .i64 x.ai] ∧ Bl wx C [.int .i64 x.b, .int .i64 x.bi] ∧ V.heap.size ≤ B ∧ V.heap.size ≤ C
set_option maxHeartbeats 4000000 in
theorem lways_any (b o : Nat) (x : Lk) (w : World) (h : AtL w b o x) :
    Calls Tryz.prog 59 #[.pointer (some ⟨b, o, none⟩)] w fun e w' => e = .returned (.agg #[.int .i64 x.a, .int .i64 x.ai, .int .i64 x.b, .int .i64 x.bi, .bool x.up, .pointer (some ⟨b, o + 5, none⟩), .int .i64 x.b, .int .i64 x.bi, .int .i64 x.a, .int .i64 x.ai, .bool x.up, .pointer (some ⟨b, o + 6, none⟩)]) ∧ Below w.heap.size w w' := by
  obtain ⟨av, bv, hr, k0, k1, k2, k3, k4, k5, k6⟩ := h; clear hr; have hbw := World.block_lt_of_cell? w _ k0; obtain ⟨bR, B0, z⟩ := one w [.int .i64 0, .int .i64 0, .int .i64 0, .int .i64 0, .bool false, .pointer none, .int .i64 0, .int .i64 0, .int .i64 0, .int .i64 0, .bool false, .pointer none] 116; replace k0 := cell_keep B0 hbw k0; replace k1 := cell_keep B0 hbw k1; replace k2 := cell_keep B0 hbw k2; replace k3 := cell_keep B0 hbw k3; replace k4 := cell_keep B0 hbw k4; replace k5 := cell_keep B0 hbw k5; replace k6 := cell_keep B0 hbw k6
  go_enter Tryz.func59, Tryz.ntmps59
  go_wp2_with fail; obtain ⟨V, hV⟩ : ∃ V, V = w.alloc (.cells #[.int .i64 0, .int .i64 0, .int .i64 0, .int .i64 0, .bool false, .pointer none, .int .i64 0, .int .i64 0, .int .i64 0, .int .i64 0, .bool false, .pointer none] 116) := ⟨_, rfl⟩; obtain ⟨R, hR⟩ : ∃ R, R = w.heap.size := ⟨_, rfl⟩; rw [← hV] at bR B0 z k0 k1 k2 k3 k4 k5 k6 ⊢; rw [← hR] at bR ⊢; have hRw : w.heap.size ≤ R := Nat.le_of_eq hR.symm; have hbV : b < V.heap.size := by omega
  have hRV := bR.lt; clear hV hR z
  go_cut [3, 4] from 5 to 22 (fun s3 s4 wx => KeptEnds V wx x s3 s4)
  case first =>
    refine wp_region_held_drew (S := fun w' => Over V w') (by kernel_rfl) (over_drew V) (fun hHeld => ?_); obtain ⟨u0, e0'⟩ : ∃ u, u = V.drew := ⟨_, rfl⟩; have O : Over V u0 := by rw [e0']; exact over_drew V
    rw [← e0']; clear e0' hHeld; refine wpAnyH_take (i := 0) (v := ?_) rfl (by kernel_rfl) (by kernel_rfl) (by kernel_rfl) (fun _ _ _ h => h) (Or.inl ⟨by rfl, ?_⟩) O ?_
    rotate_left
    · intro wq hSq
      (try dsimp only at hSq)

      go_simp
      try rfl
    change wpAnyH _ _ _ _ _ _ _ (Act.put _ (some 5) _) _
    simp only [Act.put, List.setIfInBounds_toArray, List.set_cons_succ, List.set_cons_zero]; refine wpAnyH_take (i := 1) (v := ?_) rfl (by kernel_rfl) (by kernel_rfl) (by kernel_rfl) (fun _ _ _ h => h) (Or.inl ⟨by rfl, ?_⟩) O ?_
    rotate_left
    · intro wq hSq
      (try dsimp only at hSq)

      go_simp
      try rfl
    change wpAnyH _ _ _ _ _ _ _ (Act.put _ (some 6) _) _
    simp only [Act.put, List.setIfInBounds_toArray, List.set_cons_succ, List.set_cons_zero]; refine wpAnyH_take (i := 2) (v := ?_) rfl (by kernel_rfl) (by kernel_rfl) (by kernel_rfl) (fun _ _ _ h => h) (Or.inl ⟨by rfl, ?_⟩) O ?_
    rotate_left
    · intro wq hSq
      (try dsimp only at hSq)

      go_simp
      try rfl
    change wpAnyH _ _ _ _ _ _ _ (Act.put _ (some 7) _) _
    simp only [Act.put, List.setIfInBounds_toArray, List.set_cons_succ, List.set_cons_zero]; refine wpAnyH_take (i := 3) (v := ?_) rfl (by kernel_rfl) (by kernel_rfl) (by kernel_rfl) (fun _ _ _ h => h) (Or.inl ⟨by rfl, ?_⟩) O ?_
    rotate_left
    · intro wq hSq
      (try dsimp only at hSq)
      have e0 := cell_keep hSq hbV k0
      go_simp
      try rfl
    change wpAnyH _ _ _ _ _ _ _ (Act.put _ (some 8) _) _
    simp only [Act.put, List.setIfInBounds_toArray, List.set_cons_succ, List.set_cons_zero]; refine wpAnyH_take (i := 4) (v := ?_) rfl (by kernel_rfl) (by kernel_rfl) (by kernel_rfl) (fun _ _ _ h => h) (Or.inl ⟨by rfl, ?_⟩) O ?_
    rotate_left
    · intro wq hSq
      (try dsimp only at hSq)

      go_simp
      try rfl
    change wpAnyH _ _ _ _ _ _ _ (Act.put _ (some 9) _) _
    simp only [Act.put, List.setIfInBounds_toArray, List.set_cons_succ, List.set_cons_zero]; refine wpAnyH_take (i := 5) (v := ?_) rfl (by kernel_rfl) (by kernel_rfl) (by kernel_rfl) (fun _ _ _ h => h) (Or.inl ⟨by rfl, ?_⟩) O ?_
    rotate_left
    · intro wq hSq
      (try dsimp only at hSq)

      go_simp
      try rfl
    change wpAnyH _ _ _ _ _ _ _ (Act.put _ (some 10) _) _
    simp only [Act.put, List.setIfInBounds_toArray, List.set_cons_succ, List.set_cons_zero]; refine wpAnyH_take (i := 6) (v := ?_) rfl (by kernel_rfl) (by kernel_rfl) (by kernel_rfl) (fun _ _ _ h => h) (Or.inl ⟨by rfl, ?_⟩) O ?_
    rotate_left
    · intro wq hSq
      (try dsimp only at hSq)

      go_simp
      try rfl
    change wpAnyH _ _ _ _ _ _ _ (Act.put _ (some 11) _) _
    simp only [Act.put, List.setIfInBounds_toArray, List.set_cons_succ, List.set_cons_zero]; refine wpAnyH_take (i := 7) (v := ?_) rfl (by kernel_rfl) (by kernel_rfl) (by kernel_rfl) (fun _ _ _ h => h) (Or.inl ⟨by rfl, ?_⟩) O ?_
    rotate_left
    · intro wq hSq
      (try dsimp only at hSq)
      have e1 := cell_keep hSq hbV k1
      go_simp
      try rfl
    change wpAnyH _ _ _ _ _ _ _ (Act.put _ (some 12) _) _
    simp only [Act.put, List.setIfInBounds_toArray, List.set_cons_succ, List.set_cons_zero]; refine wpAnyH_take (i := 8) (v := ?_) rfl (by kernel_rfl) (by kernel_rfl) (by kernel_rfl) (fun _ _ _ h => h) (Or.inl ⟨by rfl, ?_⟩) O ?_
    rotate_left
    · intro wq hSq
      (try dsimp only at hSq)

      go_simp
      try rfl
    change wpAnyH _ _ _ _ _ _ _ (Act.put _ (some 13) _) _
    simp only [Act.put, List.setIfInBounds_toArray, List.set_cons_succ, List.set_cons_zero]; refine wpAnyH_take (i := 9) (v := ?_) rfl (by kernel_rfl) (by kernel_rfl) (by kernel_rfl) (fun _ _ _ h => h) (Or.inl ⟨by rfl, ?_⟩) O ?_
    rotate_left
    · intro wq hSq
      (try dsimp only at hSq)

      go_simp
      try rfl
    change wpAnyH _ _ _ _ _ _ _ (Act.put _ (some 14) _) _
    simp only [Act.put, List.setIfInBounds_toArray, List.set_cons_succ, List.set_cons_zero]; refine wpAnyH_take (i := 10) (v := ?_) rfl (by kernel_rfl) (by kernel_rfl) (by kernel_rfl) (fun _ _ _ h => h) (Or.inl ⟨by rfl, ?_⟩) O ?_
    rotate_left
    · intro wq hSq
      (try dsimp only at hSq)

      go_simp
      try rfl
    change wpAnyH _ _ _ _ _ _ _ (Act.put _ (some 15) _) _
    simp only [Act.put, List.setIfInBounds_toArray, List.set_cons_succ, List.set_cons_zero]; refine wpAnyH_take (i := 11) (v := ?_) rfl (by kernel_rfl) (by kernel_rfl) (by kernel_rfl) (fun _ _ _ h => h) (Or.inl ⟨by rfl, ?_⟩) O ?_
    rotate_left
    · intro wq hSq
      (try dsimp only at hSq)

      go_simp
      try rfl
    change wpAnyH _ _ _ _ _ _ _ (Act.put _ (some 16) _) _
    simp only [Act.put, List.setIfInBounds_toArray, List.set_cons_succ, List.set_cons_zero]; refine wpAnyH_take (i := 12) (v := ?_) rfl (by kernel_rfl) (by kernel_rfl) (by kernel_rfl) (fun _ _ _ h => h) (Or.inl ⟨by rfl, ?_⟩) O ?_
    rotate_left
    · intro wq hSq
      (try dsimp only at hSq)
      have e2 := cell_keep hSq hbV k2
      go_simp
      try rfl
    change wpAnyH _ _ _ _ _ _ _ (Act.put _ (some 17) _) _
    simp only [Act.put, List.setIfInBounds_toArray, List.set_cons_succ, List.set_cons_zero]; refine wpAnyH_take (i := 13) (v := ?_) rfl (by kernel_rfl) (by kernel_rfl) (by kernel_rfl) (fun _ _ _ h => h) (Or.inl ⟨by rfl, ?_⟩) O ?_
    rotate_left
    · intro wq hSq
      (try dsimp only at hSq)

      go_simp
      try rfl
    change wpAnyH _ _ _ _ _ _ _ (Act.put _ (some 18) _) _
    simp only [Act.put, List.setIfInBounds_toArray, List.set_cons_succ, List.set_cons_zero]; refine wpAnyH_take (i := 14) (v := ?_) rfl (by kernel_rfl) (by kernel_rfl) (by kernel_rfl) (fun _ _ _ h => h) (Or.inl ⟨by rfl, ?_⟩) O ?_
    rotate_left
    · intro wq hSq
      (try dsimp only at hSq)

      go_simp
      try rfl
    change wpAnyH _ _ _ _ _ _ _ (Act.put _ (some 19) _) _
    simp only [Act.put, List.setIfInBounds_toArray, List.set_cons_succ, List.set_cons_zero]; refine wpAnyH_take (i := 15) (v := ?_) rfl (by kernel_rfl) (by kernel_rfl) (by kernel_rfl) (fun _ _ _ h => h) (Or.inl ⟨by rfl, ?_⟩) O ?_
    rotate_left
    · intro wq hSq
      (try dsimp only at hSq)

      go_simp
      try rfl
    change wpAnyH _ _ _ _ _ _ _ (Act.put _ (some 20) _) _
    simp only [Act.put, List.setIfInBounds_toArray, List.set_cons_succ, List.set_cons_zero]; refine wpAnyH_take (i := 16) (v := ?_) rfl (by kernel_rfl) (by kernel_rfl) (by kernel_rfl) (fun _ _ _ h => h) (Or.inl ⟨by rfl, ?_⟩) O ?_
    rotate_left
    · intro wq hSq
      (try dsimp only at hSq)
      have e3 := cell_keep hSq hbV k3
      go_simp
      try rfl
    change wpAnyH _ _ _ _ _ _ _ (Act.put _ (some 21) _) _
    simp only [Act.put, List.setIfInBounds_toArray, List.set_cons_succ, List.set_cons_zero]; refine wpAnyH_take (i := 17) (v := ?_) rfl (by kernel_rfl) (by kernel_rfl) (by kernel_rfl) (fun _ _ _ h => h) (Or.inl ⟨by rfl, ?_⟩) O ?_
    rotate_left
    · intro wq hSq
      (try dsimp only at hSq)

      go_simp
      try rfl
    change wpAnyH _ _ _ _ _ _ _ (Act.put _ (some 22) _) _
    simp only [Act.put, List.setIfInBounds_toArray, List.set_cons_succ, List.set_cons_zero]; refine wpAnyH_ready (rs := [18, 19]) (by kernel_rfl) (by simp) ?_; refine (AllReadyH.cons rfl (fun K hK => ?_) (AllReadyH.cons rfl (fun K hK => ?_) AllReadyH.nil))
    · go_simp
      have hOB := O.size; obtain ⟨bB, hb, z⟩ := one u0 [.int .i64 0, .int .i64 0] 112; replace O := over_step O hb; clear z hb; refine hK.out _ _ O (fun _ => ?_); clear hK K
      try simp only [Act.put, List.setIfInBounds_toArray, List.set_cons_zero, List.set_cons_succ]
      obtain ⟨B, eB⟩ : ∃ B, B = u0.heap.size := ⟨_, rfl⟩; have hVB : V.heap.size ≤ B := by rw [eB]; exact hOB
      obtain ⟨u1, eW⟩ : ∃ u, u = u0.alloc (.cells #[.int .i64 0, .int .i64 0] 112) := ⟨_, rfl⟩; rw [← eW] at bB O ⊢; rw [← eB] at bB ⊢; clear eW eB hOB; refine wpAnyH_ready (rs := [19]) (by kernel_rfl) (by simp) ?_; refine (AllReadyH.cons rfl (fun K hK => ?_) AllReadyH.nil)
      go_simp
      have hOC := O.size; have hlB := bB.lt; obtain ⟨bC, hb, z⟩ := one u1 [.int .i64 0, .int .i64 0] 112; replace O := over_step O hb; replace bB := bB.keep hb; have hltB := bB.lt; clear z hb; refine hK.out _ _ O (fun _ => ?_); clear hK K
      try simp only [Act.put, List.setIfInBounds_toArray, List.set_cons_zero, List.set_cons_succ]
      obtain ⟨C, eC⟩ : ∃ B, B = u1.heap.size := ⟨_, rfl⟩; have hVC : V.heap.size ≤ C := by rw [eC]; exact hOC
      obtain ⟨u2, eW⟩ : ∃ u, u = u1.alloc (.cells #[.int .i64 0, .int .i64 0] 112) := ⟨_, rfl⟩; rw [← eW] at bC O bB ⊢; rw [← eC] at bC ⊢; have hneq : B ≠ C := by omega
      clear eW eC hOC; have hBC : B ≠ C := hneq; have r0 := bB.c 0 rfl; have rf0 := bB.f 0 rfl; have r1 := bB.c 1 rfl; have rf1 := bB.f 1 rfl; refine wpAnyH_ready (rs := [20]) (by kernel_rfl) (by simp) ?_; refine (AllReadyH.cons rfl (fun K hK => ?_) AllReadyH.nil)
      go_simp
      have O2 := Below.setCell (Below.setCell O (p := ⟨B, 0, none⟩) hVB (.int .i64 x.a)) (p := ⟨B, 1, none⟩) hVB (.int .i64 x.ai); refine hK.out _ _ O2 (fun _ => ?_); clear hK K r0 rf0 r1 rf1
      try simp only [Act.put, List.setIfInBounds_toArray, List.set_cons_zero, List.set_cons_succ]
      have bC1 := (bC.far (o := 0) (u := .int .i64 x.a) hBC.symm).far (o := 1) (u := .int .i64 x.ai) hBC.symm; have bB1 := (bB.set 0 (.int .i64 x.a)).set 1 (.int .i64 x.ai); have r0 := bC1.c 0 rfl; have rf0 := bC1.f 0 rfl; have r1 := bC1.c 1 rfl; have rf1 := bC1.f 1 rfl; refine wpAnyH_ready (rs := [21]) (by kernel_rfl) (by simp) ?_; refine (AllReadyH.cons rfl (fun K hK => ?_) AllReadyH.nil)
      go_simp
      have O3 := Below.setCell (Below.setCell O2 (p := ⟨C, 0, none⟩) hVC (.int .i64 x.b)) (p := ⟨C, 1, none⟩) hVC (.int .i64 x.bi); refine hK.out _ _ O3 (fun _ => ?_); clear hK K r0 rf0 r1 rf1
      try simp only [Act.put, List.setIfInBounds_toArray, List.set_cons_zero, List.set_cons_succ]
      have bB2 := (bB1.far (o := 0) (u := .int .i64 x.b) hBC).far (o := 1) (u := .int .i64 x.bi) hBC; have bC2 := (bC1.set 0 (.int .i64 x.b)).set 1 (.int .i64 x.bi); refine wpAnyH_done (by kernel_rfl) ?_ _; go_wp2_with fail
      go_meet
      case rel => exact ⟨B, C, rfl, rfl, O3, bB2, bC2, hVB, hVC⟩
    · go_simp
      have hOC := O.size; obtain ⟨bC, hb, z⟩ := one u0 [.int .i64 0, .int .i64 0] 112; replace O := over_step O hb; clear z hb; refine hK.out _ _ O (fun _ => ?_); clear hK K
      try simp only [Act.put, List.setIfInBounds_toArray, List.set_cons_zero, List.set_cons_succ]
      obtain ⟨C, eC⟩ : ∃ B, B = u0.heap.size := ⟨_, rfl⟩; have hVC : V.heap.size ≤ C := by rw [eC]; exact hOC
      obtain ⟨u1, eW⟩ : ∃ u, u = u0.alloc (.cells #[.int .i64 0, .int .i64 0] 112) := ⟨_, rfl⟩; rw [← eW] at bC O ⊢; rw [← eC] at bC ⊢; clear eW eC hOC; refine wpAnyH_ready (rs := [18]) (by kernel_rfl) (by simp) ?_; refine (AllReadyH.cons rfl (fun K hK => ?_) AllReadyH.nil)
      go_simp
      have hOB := O.size; have hlC := bC.lt; obtain ⟨bB, hb, z⟩ := one u1 [.int .i64 0, .int .i64 0] 112; replace O := over_step O hb; replace bC := bC.keep hb; clear z hb; refine hK.out _ _ O (fun _ => ?_); clear hK K
      try simp only [Act.put, List.setIfInBounds_toArray, List.set_cons_zero, List.set_cons_succ]
      obtain ⟨B, eB⟩ : ∃ B, B = u1.heap.size := ⟨_, rfl⟩; have hVB : V.heap.size ≤ B := by rw [eB]; exact hOB
      obtain ⟨u2, eW⟩ : ∃ u, u = u1.alloc (.cells #[.int .i64 0, .int .i64 0] 112) := ⟨_, rfl⟩; rw [← eW] at bB O bC ⊢; rw [← eB] at bB ⊢; have hneq : B ≠ C := by omega
      clear eW eB hOB; have hBC : B ≠ C := hneq; have r0 := bB.c 0 rfl; have rf0 := bB.f 0 rfl; have r1 := bB.c 1 rfl; have rf1 := bB.f 1 rfl; refine wpAnyH_ready (rs := [20]) (by kernel_rfl) (by simp) ?_; refine (AllReadyH.cons rfl (fun K hK => ?_) AllReadyH.nil)
      go_simp
      have O2 := Below.setCell (Below.setCell O (p := ⟨B, 0, none⟩) hVB (.int .i64 x.a)) (p := ⟨B, 1, none⟩) hVB (.int .i64 x.ai); refine hK.out _ _ O2 (fun _ => ?_); clear hK K r0 rf0 r1 rf1
      try simp only [Act.put, List.setIfInBounds_toArray, List.set_cons_zero, List.set_cons_succ]
      have bC1 := (bC.far (o := 0) (u := .int .i64 x.a) hBC.symm).far (o := 1) (u := .int .i64 x.ai) hBC.symm; have bB1 := (bB.set 0 (.int .i64 x.a)).set 1 (.int .i64 x.ai); have r0 := bC1.c 0 rfl; have rf0 := bC1.f 0 rfl; have r1 := bC1.c 1 rfl; have rf1 := bC1.f 1 rfl; refine wpAnyH_ready (rs := [21]) (by kernel_rfl) (by simp) ?_; refine (AllReadyH.cons rfl (fun K hK => ?_) AllReadyH.nil)
      go_simp
      have O3 := Below.setCell (Below.setCell O2 (p := ⟨C, 0, none⟩) hVC (.int .i64 x.b)) (p := ⟨C, 1, none⟩) hVC (.int .i64 x.bi); refine hK.out _ _ O3 (fun _ => ?_); clear hK K r0 rf0 r1 rf1
      try simp only [Act.put, List.setIfInBounds_toArray, List.set_cons_zero, List.set_cons_succ]
      have bB2 := (bB1.far (o := 0) (u := .int .i64 x.b) hBC).far (o := 1) (u := .int .i64 x.bi) hBC; have bC2 := (bC1.set 0 (.int .i64 x.b)).set 1 (.int .i64 x.bi); refine wpAnyH_done (by kernel_rfl) ?_ _; go_wp2_with fail
      go_meet
      case rel => exact ⟨B, C, rfl, rfl, O3, bB2, bC2, hVB, hVC⟩
  case rest =>
    obtain ⟨V2, rfl⟩ : ∃ x : World, x = wc := ⟨_, rfl⟩; obtain ⟨B, C, rfl, rfl, OV, bB, bC, hVB, hVC⟩ := hcut; replace k0 := cell_keep OV hbV k0; replace k1 := cell_keep OV hbV k1; replace k2 := cell_keep OV hbV k2; replace k3 := cell_keep OV hbV k3; replace k4 := cell_keep OV hbV k4; replace k5 := cell_keep OV hbV k5; replace k6 := cell_keep OV hbV k6; replace bR := bR.keep OV; replace B0 := below_step B0 OV; have hbR : b ≠ R := by omega
    have hBR : B ≠ R := by omega
    have hCR : C ≠ R := by omega
    go_wp2_with fail; refine wp_region_held_drew (S := fun w' => Bl w' B [.int .i64 x.a, .int .i64 x.ai] ∧ Bl w' C [.int .i64 x.b, .int .i64 x.bi] ∧ w'.cell? ⟨b, o, none⟩ = some (.int .i64 x.a) ∧ w'.cell? ⟨b, o + 1, none⟩ = some (.int .i64 x.ai) ∧ w'.cell? ⟨b, o + 2, none⟩ = some (.int .i64 x.b) ∧ w'.cell? ⟨b, o + 3, none⟩ = some (.int .i64 x.bi) ∧ w'.cell? ⟨b, o + 4, none⟩ = some (.bool x.up) ∧ w'.cell? ⟨b, o + 5, none⟩ = some (av) ∧ w'.cell? ⟨b, o + 6, none⟩ = some (bv)) (by kernel_rfl) ⟨bB.keep (over_drew V2), bC.keep (over_drew V2), cell_keep (over_drew V2) (by have := OV.size; omega) k0, cell_keep (over_drew V2) (by have := OV.size; omega) k1, cell_keep (over_drew V2) (by have := OV.size; omega) k2, cell_keep (over_drew V2) (by have := OV.size; omega) k3, cell_keep (over_drew V2) (by have := OV.size; omega) k4, cell_keep (over_drew V2) (by have := OV.size; omega) k5, cell_keep (over_drew V2) (by have := OV.size; omega) k6⟩ (fun hHeld => ?_); obtain ⟨u0, e0'⟩ : ∃ u, u = V2.drew := ⟨_, rfl⟩; have O2 : Over V2 u0 := by rw [e0']; exact over_drew V2
    rw [← e0']; clear e0' hHeld; replace bB := bB.keep O2; replace bC := bC.keep O2; replace bR := bR.keep O2; replace B0 := below_step B0 O2; replace k0 := cell_keep O2 (by have := OV.size; omega) k0; replace k1 := cell_keep O2 (by have := OV.size; omega) k1; replace k2 := cell_keep O2 (by have := OV.size; omega) k2; replace k3 := cell_keep O2 (by have := OV.size; omega) k3; replace k4 := cell_keep O2 (by have := OV.size; omega) k4; replace k5 := cell_keep O2 (by have := OV.size; omega) k5; replace k6 := cell_keep O2 (by have := OV.size; omega) k6; have O : Bl u0 B [.int .i64 x.a, .int .i64 x.ai] ∧ Bl u0 C [.int .i64 x.b, .int .i64 x.bi] ∧ u0.cell? ⟨b, o, none⟩ = some (.int .i64 x.a) ∧ u0.cell? ⟨b, o + 1, none⟩ = some (.int .i64 x.ai) ∧ u0.cell? ⟨b, o + 2, none⟩ = some (.int .i64 x.b) ∧ u0.cell? ⟨b, o + 3, none⟩ = some (.int .i64 x.bi) ∧ u0.cell? ⟨b, o + 4, none⟩ = some (.bool x.up) ∧ u0.cell? ⟨b, o + 5, none⟩ = some (av) ∧ u0.cell? ⟨b, o + 6, none⟩ = some (bv) := ⟨bB, bC, k0, k1, k2, k3, k4, k5, k6⟩; refine wpAnyH_take (i := 0) (v := ?_) rfl (by kernel_rfl) (by kernel_rfl) (by kernel_rfl) (fun _ _ _ h => h) (Or.inl ⟨by rfl, ?_⟩) O ?_
    rotate_left
    · intro wq hSq
      (try dsimp only at hSq)
      obtain ⟨hq1, hq2, e0, e1, e2, e3, e4, e5, e6⟩ := hSq; have m0 := hq1.c 0 rfl; have m1 := hq1.c 1 rfl; have n0 := hq2.c 0 rfl; have n1 := hq2.c 1 rfl
      go_simp
      try rfl
    change wpAnyH _ _ _ _ _ _ _ (Act.put _ (some 23) _) _
    simp only [Act.put, List.setIfInBounds_toArray, List.set_cons_succ, List.set_cons_zero]; refine wpAnyH_take (i := 1) (v := ?_) rfl (by kernel_rfl) (by kernel_rfl) (by kernel_rfl) (fun _ _ _ h => h) (Or.inl ⟨by rfl, ?_⟩) O ?_
    rotate_left
    · intro wq hSq
      (try dsimp only at hSq)
      obtain ⟨hq1, hq2, e0, e1, e2, e3, e4, e5, e6⟩ := hSq; have m0 := hq1.c 0 rfl; have m1 := hq1.c 1 rfl; have n0 := hq2.c 0 rfl; have n1 := hq2.c 1 rfl
      go_simp
      try rfl
    change wpAnyH _ _ _ _ _ _ _ (Act.put _ (some 24) _) _
    simp only [Act.put, List.setIfInBounds_toArray, List.set_cons_succ, List.set_cons_zero]; refine wpAnyH_take (i := 2) (v := ?_) rfl (by kernel_rfl) (by kernel_rfl) (by kernel_rfl) (fun _ _ _ h => h) (Or.inl ⟨by rfl, ?_⟩) O ?_
    rotate_left
    · intro wq hSq
      (try dsimp only at hSq)

      go_simp
      try rfl
    change wpAnyH _ _ _ _ _ _ _ (Act.put _ (some 25) _) _
    simp only [Act.put, List.setIfInBounds_toArray, List.set_cons_succ, List.set_cons_zero]; refine wpAnyH_take (i := 3) (v := ?_) rfl (by kernel_rfl) (by kernel_rfl) (by kernel_rfl) (fun _ _ _ h => h) (Or.inl ⟨by rfl, ?_⟩) O ?_
    rotate_left
    · intro wq hSq
      (try dsimp only at hSq)

      go_simp
      try rfl
    change wpAnyH _ _ _ _ _ _ _ (Act.put _ (some 26) _) _
    simp only [Act.put, List.setIfInBounds_toArray, List.set_cons_succ, List.set_cons_zero]; refine wpAnyH_take (i := 4) (v := ?_) rfl (by kernel_rfl) (by kernel_rfl) (by kernel_rfl) (fun _ _ _ h => h) (Or.inl ⟨by rfl, ?_⟩) O ?_
    rotate_left
    · intro wq hSq
      (try dsimp only at hSq)

      go_simp
      try rfl
    change wpAnyH _ _ _ _ _ _ _ (Act.put _ (some 27) _) _
    simp only [Act.put, List.setIfInBounds_toArray, List.set_cons_succ, List.set_cons_zero]; refine wpAnyH_take (i := 5) (v := ?_) rfl (by kernel_rfl) (by kernel_rfl) (by kernel_rfl) (fun _ _ _ h => h) (Or.inl ⟨by rfl, ?_⟩) O ?_
    rotate_left
    · intro wq hSq
      (try dsimp only at hSq)
      obtain ⟨hq1, hq2, e0, e1, e2, e3, e4, e5, e6⟩ := hSq; have m0 := hq1.c 0 rfl; have m1 := hq1.c 1 rfl; have n0 := hq2.c 0 rfl; have n1 := hq2.c 1 rfl
      go_simp
      try rfl
    change wpAnyH _ _ _ _ _ _ _ (Act.put _ (some 28) _) _
    simp only [Act.put, List.setIfInBounds_toArray, List.set_cons_succ, List.set_cons_zero]; refine wpAnyH_take (i := 6) (v := ?_) rfl (by kernel_rfl) (by kernel_rfl) (by kernel_rfl) (fun _ _ _ h => h) (Or.inl ⟨by rfl, ?_⟩) O ?_
    rotate_left
    · intro wq hSq
      (try dsimp only at hSq)

      go_simp
      try rfl
    change wpAnyH _ _ _ _ _ _ _ (Act.put _ (some 29) _) _
    simp only [Act.put, List.setIfInBounds_toArray, List.set_cons_succ, List.set_cons_zero]; refine wpAnyH_take (i := 7) (v := ?_) rfl (by kernel_rfl) (by kernel_rfl) (by kernel_rfl) (fun _ _ _ h => h) (Or.inl ⟨by rfl, ?_⟩) O ?_
    rotate_left
    · intro wq hSq
      (try dsimp only at hSq)

      go_simp
      try rfl
    change wpAnyH _ _ _ _ _ _ _ (Act.put _ (some 30) _) _
    simp only [Act.put, List.setIfInBounds_toArray, List.set_cons_succ, List.set_cons_zero]; refine wpAnyH_take (i := 8) (v := ?_) rfl (by kernel_rfl) (by kernel_rfl) (by kernel_rfl) (fun _ _ _ h => h) (Or.inl ⟨by rfl, ?_⟩) O ?_
    rotate_left
    · intro wq hSq
      (try dsimp only at hSq)

      go_simp
      try rfl
    change wpAnyH _ _ _ _ _ _ _ (Act.put _ (some 31) _) _
    simp only [Act.put, List.setIfInBounds_toArray, List.set_cons_succ, List.set_cons_zero]; refine wpAnyH_take (i := 9) (v := ?_) rfl (by kernel_rfl) (by kernel_rfl) (by kernel_rfl) (fun _ _ _ h => h) (Or.inl ⟨by rfl, ?_⟩) O ?_
    rotate_left
    · intro wq hSq
      (try dsimp only at hSq)

      go_simp
      try rfl
    change wpAnyH _ _ _ _ _ _ _ (Act.put _ (some 32) _) _
    simp only [Act.put, List.setIfInBounds_toArray, List.set_cons_succ, List.set_cons_zero]; refine wpAnyH_take (i := 10) (v := ?_) rfl (by kernel_rfl) (by kernel_rfl) (by kernel_rfl) (fun _ _ _ h => h) (Or.inl ⟨by rfl, ?_⟩) O ?_
    rotate_left
    · intro wq hSq
      (try dsimp only at hSq)
      obtain ⟨hq1, hq2, e0, e1, e2, e3, e4, e5, e6⟩ := hSq; have m0 := hq1.c 0 rfl; have m1 := hq1.c 1 rfl; have n0 := hq2.c 0 rfl; have n1 := hq2.c 1 rfl
      go_simp
      try rfl
    change wpAnyH _ _ _ _ _ _ _ (Act.put _ (some 33) _) _
    simp only [Act.put, List.setIfInBounds_toArray, List.set_cons_succ, List.set_cons_zero]; refine wpAnyH_take (i := 11) (v := ?_) rfl (by kernel_rfl) (by kernel_rfl) (by kernel_rfl) (fun _ _ _ h => h) (Or.inl ⟨by rfl, ?_⟩) O ?_
    rotate_left
    · intro wq hSq
      (try dsimp only at hSq)
      obtain ⟨hq1, hq2, e0, e1, e2, e3, e4, e5, e6⟩ := hSq; have m0 := hq1.c 0 rfl; have m1 := hq1.c 1 rfl; have n0 := hq2.c 0 rfl; have n1 := hq2.c 1 rfl
      go_simp
      try rfl
    change wpAnyH _ _ _ _ _ _ _ (Act.put _ (some 34) _) _
    simp only [Act.put, List.setIfInBounds_toArray, List.set_cons_succ, List.set_cons_zero]; refine wpAnyH_take (i := 12) (v := ?_) rfl (by kernel_rfl) (by kernel_rfl) (by kernel_rfl) (fun _ _ _ h => h) (Or.inl ⟨by rfl, ?_⟩) O ?_
    rotate_left
    · intro wq hSq
      (try dsimp only at hSq)

      go_simp
      try rfl
    change wpAnyH _ _ _ _ _ _ _ (Act.put _ (some 35) _) _
    simp only [Act.put, List.setIfInBounds_toArray, List.set_cons_succ, List.set_cons_zero]; refine wpAnyH_take (i := 13) (v := ?_) rfl (by kernel_rfl) (by kernel_rfl) (by kernel_rfl) (fun _ _ _ h => h) (Or.inl ⟨by rfl, ?_⟩) O ?_
    rotate_left
    · intro wq hSq
      (try dsimp only at hSq)

      go_simp
      try rfl
    change wpAnyH _ _ _ _ _ _ _ (Act.put _ (some 36) _) _
    simp only [Act.put, List.setIfInBounds_toArray, List.set_cons_succ, List.set_cons_zero]; refine wpAnyH_take (i := 14) (v := ?_) rfl (by kernel_rfl) (by kernel_rfl) (by kernel_rfl) (fun _ _ _ h => h) (Or.inl ⟨by rfl, ?_⟩) O ?_
    rotate_left
    · intro wq hSq
      (try dsimp only at hSq)

      go_simp
      try rfl
    change wpAnyH _ _ _ _ _ _ _ (Act.put _ (some 37) _) _
    simp only [Act.put, List.setIfInBounds_toArray, List.set_cons_succ, List.set_cons_zero]; refine wpAnyH_take (i := 15) (v := ?_) rfl (by kernel_rfl) (by kernel_rfl) (by kernel_rfl) (fun _ _ _ h => h) (Or.inl ⟨by rfl, ?_⟩) O ?_
    rotate_left
    · intro wq hSq
      (try dsimp only at hSq)
      obtain ⟨hq1, hq2, e0, e1, e2, e3, e4, e5, e6⟩ := hSq; have m0 := hq1.c 0 rfl; have m1 := hq1.c 1 rfl; have n0 := hq2.c 0 rfl; have n1 := hq2.c 1 rfl
      go_simp
      try rfl
    change wpAnyH _ _ _ _ _ _ _ (Act.put _ (some 38) _) _
    simp only [Act.put, List.setIfInBounds_toArray, List.set_cons_succ, List.set_cons_zero]; refine wpAnyH_take (i := 16) (v := ?_) rfl (by kernel_rfl) (by kernel_rfl) (by kernel_rfl) (fun _ _ _ h => h) (Or.inl ⟨by rfl, ?_⟩) O ?_
    rotate_left
    · intro wq hSq
      (try dsimp only at hSq)

      go_simp
      try rfl
    change wpAnyH _ _ _ _ _ _ _ (Act.put _ (some 39) _) _
    simp only [Act.put, List.setIfInBounds_toArray, List.set_cons_succ, List.set_cons_zero]; refine wpAnyH_take (i := 17) (v := ?_) rfl (by kernel_rfl) (by kernel_rfl) (by kernel_rfl) (fun _ _ _ h => h) (Or.inl ⟨by rfl, ?_⟩) O ?_
    rotate_left
    · intro wq hSq
      (try dsimp only at hSq)

      go_simp
      try rfl
    change wpAnyH _ _ _ _ _ _ _ (Act.put _ (some 40) _) _
    simp only [Act.put, List.setIfInBounds_toArray, List.set_cons_succ, List.set_cons_zero]; refine wpAnyH_take (i := 18) (v := ?_) rfl (by kernel_rfl) (by kernel_rfl) (by kernel_rfl) (fun _ _ _ h => h) (Or.inl ⟨by rfl, ?_⟩) O ?_
    rotate_left
    · intro wq hSq
      (try dsimp only at hSq)

      go_simp
      try rfl
    change wpAnyH _ _ _ _ _ _ _ (Act.put _ (some 41) _) _
    simp only [Act.put, List.setIfInBounds_toArray, List.set_cons_succ, List.set_cons_zero]; refine wpAnyH_take (i := 19) (v := ?_) rfl (by kernel_rfl) (by kernel_rfl) (by kernel_rfl) (fun _ _ _ h => h) (Or.inl ⟨by rfl, ?_⟩) O ?_
    rotate_left
    · intro wq hSq
      (try dsimp only at hSq)

      go_simp
      try rfl
    change wpAnyH _ _ _ _ _ _ _ (Act.put _ (some 42) _) _
    simp only [Act.put, List.setIfInBounds_toArray, List.set_cons_succ, List.set_cons_zero]; refine wpAnyH_take (i := 20) (v := ?_) rfl (by kernel_rfl) (by kernel_rfl) (by kernel_rfl) (fun _ _ _ h => h) (Or.inl ⟨by rfl, ?_⟩) O ?_
    rotate_left
    · intro wq hSq
      (try dsimp only at hSq)

      go_simp
      try rfl
    change wpAnyH _ _ _ _ _ _ _ (Act.put _ (some 43) _) _
    simp only [Act.put, List.setIfInBounds_toArray, List.set_cons_succ, List.set_cons_zero]; have r0 := bR.c 0 rfl; have rf0 := bR.f 0 rfl; have r1 := bR.c 1 rfl; have rf1 := bR.f 1 rfl; have r2 := bR.c 2 rfl; have rf2 := bR.f 2 rfl; have r3 := bR.c 3 rfl; have rf3 := bR.f 3 rfl; have r4 := bR.c 4 rfl; have rf4 := bR.f 4 rfl; have r5 := bR.c 5 rfl; have rf5 := bR.f 5 rfl; have r6 := bR.c 6 rfl; have rf6 := bR.f 6 rfl; have r7 := bR.c 7 rfl; have rf7 := bR.f 7 rfl; have r8 := bR.c 8 rfl; have rf8 := bR.f 8 rfl; have r9 := bR.c 9 rfl; have rf9 := bR.f 9 rfl; have r10 := bR.c 10 rfl; have rf10 := bR.f 10 rfl; have r11 := bR.c 11 rfl; have rf11 := bR.f 11 rfl; refine wpAnyH_ready (rs := [21]) (by kernel_rfl) (by simp) ?_; refine (AllReadyH.cons rfl (fun K hK => ?_) AllReadyH.nil)
    go_simp
    refine hK.out _ _ ⟨((((((((((((bB.far (o := 0) (u := .int .i64 x.a) hBR).far (o := 1) (u := .int .i64 x.ai) hBR).far (o := 2) (u := .int .i64 x.b) hBR).far (o := 3) (u := .int .i64 x.bi) hBR).far (o := 4) (u := .bool x.up) hBR).far (o := 5) (u := .pointer (some ⟨b, o + 5, none⟩)) hBR).far (o := 6) (u := .int .i64 x.b) hBR).far (o := 7) (u := .int .i64 x.bi) hBR).far (o := 8) (u := .int .i64 x.a) hBR).far (o := 9) (u := .int .i64 x.ai) hBR).far (o := 10) (u := .bool x.up) hBR).far (o := 11) (u := .pointer (some ⟨b, o + 6, none⟩)) hBR), ((((((((((((bC.far (o := 0) (u := .int .i64 x.a) hCR).far (o := 1) (u := .int .i64 x.ai) hCR).far (o := 2) (u := .int .i64 x.b) hCR).far (o := 3) (u := .int .i64 x.bi) hCR).far (o := 4) (u := .bool x.up) hCR).far (o := 5) (u := .pointer (some ⟨b, o + 5, none⟩)) hCR).far (o := 6) (u := .int .i64 x.b) hCR).far (o := 7) (u := .int .i64 x.bi) hCR).far (o := 8) (u := .int .i64 x.a) hCR).far (o := 9) (u := .int .i64 x.ai) hCR).far (o := 10) (u := .bool x.up) hCR).far (o := 11) (u := .pointer (some ⟨b, o + 6, none⟩)) hCR), (cell_far (u := .pointer (some ⟨b, o + 6, none⟩)) (o := 11) hbR.symm (cell_far (u := .bool x.up) (o := 10) hbR.symm (cell_far (u := .int .i64 x.ai) (o := 9) hbR.symm (cell_far (u := .int .i64 x.a) (o := 8) hbR.symm (cell_far (u := .int .i64 x.bi) (o := 7) hbR.symm (cell_far (u := .int .i64 x.b) (o := 6) hbR.symm (cell_far (u := .pointer (some ⟨b, o + 5, none⟩)) (o := 5) hbR.symm (cell_far (u := .bool x.up) (o := 4) hbR.symm (cell_far (u := .int .i64 x.bi) (o := 3) hbR.symm (cell_far (u := .int .i64 x.b) (o := 2) hbR.symm (cell_far (u := .int .i64 x.ai) (o := 1) hbR.symm (cell_far (u := .int .i64 x.a) (o := 0) hbR.symm k0)))))))))))), (cell_far (u := .pointer (some ⟨b, o + 6, none⟩)) (o := 11) hbR.symm (cell_far (u := .bool x.up) (o := 10) hbR.symm (cell_far (u := .int .i64 x.ai) (o := 9) hbR.symm (cell_far (u := .int .i64 x.a) (o := 8) hbR.symm (cell_far (u := .int .i64 x.bi) (o := 7) hbR.symm (cell_far (u := .int .i64 x.b) (o := 6) hbR.symm (cell_far (u := .pointer (some ⟨b, o + 5, none⟩)) (o := 5) hbR.symm (cell_far (u := .bool x.up) (o := 4) hbR.symm (cell_far (u := .int .i64 x.bi) (o := 3) hbR.symm (cell_far (u := .int .i64 x.b) (o := 2) hbR.symm (cell_far (u := .int .i64 x.ai) (o := 1) hbR.symm (cell_far (u := .int .i64 x.a) (o := 0) hbR.symm k1)))))))))))), (cell_far (u := .pointer (some ⟨b, o + 6, none⟩)) (o := 11) hbR.symm (cell_far (u := .bool x.up) (o := 10) hbR.symm (cell_far (u := .int .i64 x.ai) (o := 9) hbR.symm (cell_far (u := .int .i64 x.a) (o := 8) hbR.symm (cell_far (u := .int .i64 x.bi) (o := 7) hbR.symm (cell_far (u := .int .i64 x.b) (o := 6) hbR.symm (cell_far (u := .pointer (some ⟨b, o + 5, none⟩)) (o := 5) hbR.symm (cell_far (u := .bool x.up) (o := 4) hbR.symm (cell_far (u := .int .i64 x.bi) (o := 3) hbR.symm (cell_far (u := .int .i64 x.b) (o := 2) hbR.symm (cell_far (u := .int .i64 x.ai) (o := 1) hbR.symm (cell_far (u := .int .i64 x.a) (o := 0) hbR.symm k2)))))))))))), (cell_far (u := .pointer (some ⟨b, o + 6, none⟩)) (o := 11) hbR.symm (cell_far (u := .bool x.up) (o := 10) hbR.symm (cell_far (u := .int .i64 x.ai) (o := 9) hbR.symm (cell_far (u := .int .i64 x.a) (o := 8) hbR.symm (cell_far (u := .int .i64 x.bi) (o := 7) hbR.symm (cell_far (u := .int .i64 x.b) (o := 6) hbR.symm (cell_far (u := .pointer (some ⟨b, o + 5, none⟩)) (o := 5) hbR.symm (cell_far (u := .bool x.up) (o := 4) hbR.symm (cell_far (u := .int .i64 x.bi) (o := 3) hbR.symm (cell_far (u := .int .i64 x.b) (o := 2) hbR.symm (cell_far (u := .int .i64 x.ai) (o := 1) hbR.symm (cell_far (u := .int .i64 x.a) (o := 0) hbR.symm k3)))))))))))), (cell_far (u := .pointer (some ⟨b, o + 6, none⟩)) (o := 11) hbR.symm (cell_far (u := .bool x.up) (o := 10) hbR.symm (cell_far (u := .int .i64 x.ai) (o := 9) hbR.symm (cell_far (u := .int .i64 x.a) (o := 8) hbR.symm (cell_far (u := .int .i64 x.bi) (o := 7) hbR.symm (cell_far (u := .int .i64 x.b) (o := 6) hbR.symm (cell_far (u := .pointer (some ⟨b, o + 5, none⟩)) (o := 5) hbR.symm (cell_far (u := .bool x.up) (o := 4) hbR.symm (cell_far (u := .int .i64 x.bi) (o := 3) hbR.symm (cell_far (u := .int .i64 x.b) (o := 2) hbR.symm (cell_far (u := .int .i64 x.ai) (o := 1) hbR.symm (cell_far (u := .int .i64 x.a) (o := 0) hbR.symm k4)))))))))))), (cell_far (u := .pointer (some ⟨b, o + 6, none⟩)) (o := 11) hbR.symm (cell_far (u := .bool x.up) (o := 10) hbR.symm (cell_far (u := .int .i64 x.ai) (o := 9) hbR.symm (cell_far (u := .int .i64 x.a) (o := 8) hbR.symm (cell_far (u := .int .i64 x.bi) (o := 7) hbR.symm (cell_far (u := .int .i64 x.b) (o := 6) hbR.symm (cell_far (u := .pointer (some ⟨b, o + 5, none⟩)) (o := 5) hbR.symm (cell_far (u := .bool x.up) (o := 4) hbR.symm (cell_far (u := .int .i64 x.bi) (o := 3) hbR.symm (cell_far (u := .int .i64 x.b) (o := 2) hbR.symm (cell_far (u := .int .i64 x.ai) (o := 1) hbR.symm (cell_far (u := .int .i64 x.a) (o := 0) hbR.symm k5)))))))))))), (cell_far (u := .pointer (some ⟨b, o + 6, none⟩)) (o := 11) hbR.symm (cell_far (u := .bool x.up) (o := 10) hbR.symm (cell_far (u := .int .i64 x.ai) (o := 9) hbR.symm (cell_far (u := .int .i64 x.a) (o := 8) hbR.symm (cell_far (u := .int .i64 x.bi) (o := 7) hbR.symm (cell_far (u := .int .i64 x.b) (o := 6) hbR.symm (cell_far (u := .pointer (some ⟨b, o + 5, none⟩)) (o := 5) hbR.symm (cell_far (u := .bool x.up) (o := 4) hbR.symm (cell_far (u := .int .i64 x.bi) (o := 3) hbR.symm (cell_far (u := .int .i64 x.b) (o := 2) hbR.symm (cell_far (u := .int .i64 x.ai) (o := 1) hbR.symm (cell_far (u := .int .i64 x.a) (o := 0) hbR.symm k6))))))))))))⟩ (fun _ => ?_); clear hK K r0 rf0 r1 rf1 r2 rf2 r3 rf3 r4 rf4 r5 rf5 r6 rf6 r7 rf7 r8 rf8 r9 rf9 r10 rf10 r11 rf11
    try simp only [Act.put, List.setIfInBounds_toArray, List.set_cons_zero, List.set_cons_succ]
    refine wpAnyH_done (by kernel_rfl) ?_ _; have bE := ((((((((((((bR.set 0 (.int .i64 x.a)).set 1 (.int .i64 x.ai)).set 2 (.int .i64 x.b)).set 3 (.int .i64 x.bi)).set 4 (.bool x.up)).set 5 (.pointer (some ⟨b, o + 5, none⟩))).set 6 (.int .i64 x.b)).set 7 (.int .i64 x.bi)).set 8 (.int .i64 x.a)).set 9 (.int .i64 x.ai)).set 10 (.bool x.up)).set 11 (.pointer (some ⟨b, o + 6, none⟩))); have y0 := bE.c 0 rfl; have y1 := bE.c 1 rfl; have y2 := bE.c 2 rfl; have y3 := bE.c 3 rfl; have y4 := bE.c 4 rfl; have y5 := bE.c 5 rfl; have y6 := bE.c 6 rfl; have y7 := bE.c 7 rfl; have y8 := bE.c 8 rfl; have y9 := bE.c 9 rfl; have y10 := bE.c 10 rfl; have y11 := bE.c 11 rfl; go_wp2_with fail
    exact bodyPost_ret (v := .agg #[.int .i64 x.a, .int .i64 x.ai, .int .i64 x.b, .int .i64 x.bi, .bool x.up, .pointer (some ⟨b, o + 5, none⟩), .int .i64 x.b, .int .i64 x.bi, .int .i64 x.a, .int .i64 x.ai, .bool x.up, .pointer (some ⟨b, o + 6, none⟩)]) (by simp [results, Tryz.results59, go_sem, y0, y1, y2, y3, y4, y5, y6, y7, y8, y9, y10, y11]) rfl ⟨rfl, (Below.setCell (Below.setCell (Below.setCell (Below.setCell (Below.setCell (Below.setCell (Below.setCell (Below.setCell (Below.setCell (Below.setCell (Below.setCell (Below.setCell B0 (p := ⟨R, 0, none⟩) hRw (.int .i64 x.a)) (p := ⟨R, 1, none⟩) hRw (.int .i64 x.ai)) (p := ⟨R, 2, none⟩) hRw (.int .i64 x.b)) (p := ⟨R, 3, none⟩) hRw (.int .i64 x.bi)) (p := ⟨R, 4, none⟩) hRw (.bool x.up)) (p := ⟨R, 5, none⟩) hRw (.pointer (some ⟨b, o + 5, none⟩))) (p := ⟨R, 6, none⟩) hRw (.int .i64 x.b)) (p := ⟨R, 7, none⟩) hRw (.int .i64 x.bi)) (p := ⟨R, 8, none⟩) hRw (.int .i64 x.a)) (p := ⟨R, 9, none⟩) hRw (.int .i64 x.ai)) (p := ⟨R, 10, none⟩) hRw (.bool x.up)) (p := ⟨R, 11, none⟩) hRw (.pointer (some ⟨b, o + 6, none⟩)))⟩
end Go.Proofs.YtkodnipmogdgkabGreat
namespace Go.Proofs.YtkodnipmogdgkabGreat
open Go.ChangeShapes Go.WideShapes Go.ChangeAt Go.RowKit Go.BigFrame
set_option linter.unusedVariables false
set_option maxRecDepth 100000

def cmp1 (a b : Int) : Int := if a < b then -1 else if b < a then 1 else 0
def orv (x y : Int) : Int := if x ≠ 0 then x else y
def cmp2 (a n b m : Int) : Int := orv (cmp1 a b) (cmp1 n m)
def pcmp (a n b m : Int) : Int := if pokB a n && pokB b m then cmp2 a n b m else 0
theorem cmp1_lt {a b : Int} (h : a < b) : cmp1 a b = -1 := by simp [cmp1, h]
theorem cmp1_gt {a b : Int} (h : b < a) : cmp1 a b = 1 := by unfold cmp1; rw [if_neg (by omega), if_pos h]
theorem cmp1_eq (a : Int) : cmp1 a a = 0 := by simp [cmp1]

theorem nan_any (a : Int) (w : World) : Calls Tryz.prog 210 #[.int .i64 a] w fun e w' => e = .returned (.bool false) ∧ w = w' := by
  go_enter Tryz.func210, Tryz.ntmps210
  go_wp2
  go_ret
  exact ⟨ret_bool (by simp), rfl⟩
theorem compare_any (a b : Int) (w : World) : Calls Tryz.prog 182 #[.int .i64 a, .int .i64 b] w fun e w' => e = .returned (.int .i64 (cmp1 a b)) ∧ w = w' := by
  rcases Int.lt_trichotomy a b with h | h | h
  · rw [cmp1_lt h]
    go_enter Tryz.func182, Tryz.ntmps182
    go_wp2_with (go_at_call 210; refine (nan_any _ _).mono ?_; rintro e w' ⟨rfl, rfl⟩)
    go_ret
    exact ⟨rfl, rfl⟩
  · subst h
    rw [cmp1_eq]
    go_enter Tryz.func182, Tryz.ntmps182
    go_wp2_with (go_at_call 210; refine (nan_any _ _).mono ?_; rintro e w' ⟨rfl, rfl⟩)
    go_ret
    exact ⟨rfl, rfl⟩
  · rw [cmp1_gt h]
    have h' : ¬ a < b := by omega
    go_enter Tryz.func182, Tryz.ntmps182
    go_wp2_with (go_at_call 210; refine (nan_any _ _).mono ?_; rintro e w' ⟨rfl, rfl⟩)
    go_ret
    exact ⟨rfl, rfl⟩
/-- cmp.Or of two numbers that lie in a row -/
theorem or_any (x y : Int) (g : Nat) (w : World) (c0 : w.cell? ⟨g, 0, none⟩ = some (.int .i64 x)) (c1 : w.cell? ⟨g, 1, none⟩ = some (.int .i64 y)) :
    Calls Tryz.prog 181 #[.slice (some ⟨g, 0, none⟩) 2 2] w fun e w' => e = .returned (.int .i64 (orv x y)) ∧ w = w' := by
  by_cases hx : x = 0
  · subst hx
    rw [show orv 0 y = y by simp [orv]]
    by_cases hy : y = 0
    · subst hy
      go_enter Tryz.func181, Tryz.ntmps181
      go_wp2; refine wp_loop_rounds 3 ?_; rw [rounds_succ]; go_wp2; rw [rounds_succ]; go_wp2; rw [rounds_succ]; go_wp2
      go_ret
      exact ⟨rfl, rfl⟩
    · have hy' : (y == 0) = false := by simp [hy]
      have hy2 : (y != 0) = true := by simp [hy]
      go_enter Tryz.func181, Tryz.ntmps181
      go_wp2; refine wp_loop_rounds 2 ?_; rw [rounds_succ]; go_wp2; rw [rounds_succ]; go_wp2
      go_ret
      exact ⟨rfl, rfl⟩
  · have hx' : (x == 0) = false := by simp [hx]
    have hx2 : (x != 0) = true := by simp [hx]
    rw [show orv x y = x from if_pos hx]; clear hx
    go_enter Tryz.func181, Tryz.ntmps181
    go_wp2; refine wp_loop_rounds 1 ?_; rw [rounds_succ]; go_wp2
    go_ret
    exact ⟨rfl, rfl⟩

theorem scmp_l (a n b m : Int) (w : World) : Calls Tryz.prog 73 #[.agg #[.int .i64 a, .int .i64 n], .agg #[.int .i64 b, .int .i64 m]] w fun e w' => e = .returned (.int .i64 (cmp2 a n b m)) ∧ Below w.heap.size w w' := by
  rcases Int.lt_trichotomy a b with h | h | h
  · rw [show cmp2 a n b m = -1 by unfold cmp2; rw [cmp1_lt h]; rfl]
    have hne : (a != b) = true := by simp; omega
    obtain ⟨c0, c1, lt, B0⟩ := box2 w (.int .i64 a) (.int .i64 n) 90; obtain ⟨d0, d1, ld, D0⟩ := box2 (w.alloc (.cells #[.int .i64 a, .int .i64 n] 90)) (.int .i64 b) (.int .i64 m) 90; have lt2 := Nat.lt_of_lt_of_le lt D0.size; have e0 := cell_keep D0 lt c0; have e1 := cell_keep D0 lt c1; have BD := below_step B0 D0; clear c0 c1 lt B0 D0; have q0 : (w.alloc (.cells #[.int .i64 a, .int .i64 n] 90)).heap.size = w.heap.size + 1 := by simp
    rw [q0] at d0 d1 ld; clear q0
    go_enter Tryz.func73, Tryz.ntmps73
    go_wp2
    go_ret
    exact ⟨rfl, BD⟩
  · subst h
    rcases Int.lt_trichotomy n m with h | h | h
    · rw [show cmp2 a n a m = -1 by unfold cmp2; rw [cmp1_eq, cmp1_lt h]; rfl]
      obtain ⟨c0, c1, lt, B0⟩ := box2 w (.int .i64 a) (.int .i64 n) 90; obtain ⟨d0, d1, ld, D0⟩ := box2 (w.alloc (.cells #[.int .i64 a, .int .i64 n] 90)) (.int .i64 a) (.int .i64 m) 90; have lt2 := Nat.lt_of_lt_of_le lt D0.size; have e0 := cell_keep D0 lt c0; have e1 := cell_keep D0 lt c1; have BD := below_step B0 D0; clear c0 c1 lt B0 D0; have q0 : (w.alloc (.cells #[.int .i64 a, .int .i64 n] 90)).heap.size = w.heap.size + 1 := by simp
      rw [q0] at d0 d1 ld; clear q0
      go_enter Tryz.func73, Tryz.ntmps73
      go_wp2
      go_ret
      exact ⟨rfl, BD⟩
    · subst h
      rw [show cmp2 a n a n = 0 by unfold cmp2; rw [cmp1_eq, cmp1_eq]; rfl]; obtain ⟨c0, c1, lt, B0⟩ := box2 w (.int .i64 a) (.int .i64 n) 90; obtain ⟨d0, d1, ld, D0⟩ := box2 (w.alloc (.cells #[.int .i64 a, .int .i64 n] 90)) (.int .i64 a) (.int .i64 n) 90; have lt2 := Nat.lt_of_lt_of_le lt D0.size; have e0 := cell_keep D0 lt c0; have e1 := cell_keep D0 lt c1; have BD := below_step B0 D0; clear c0 c1 lt B0 D0; have q0 : (w.alloc (.cells #[.int .i64 a, .int .i64 n] 90)).heap.size = w.heap.size + 1 := by simp
      rw [q0] at d0 d1 ld; clear q0
      go_enter Tryz.func73, Tryz.ntmps73
      go_wp2
      go_ret
      exact ⟨rfl, BD⟩
    · rw [show cmp2 a n a m = 1 by unfold cmp2; rw [cmp1_eq, cmp1_gt h]; rfl]
      have h' : ¬ n < m := by omega
      obtain ⟨c0, c1, lt, B0⟩ := box2 w (.int .i64 a) (.int .i64 n) 90; obtain ⟨d0, d1, ld, D0⟩ := box2 (w.alloc (.cells #[.int .i64 a, .int .i64 n] 90)) (.int .i64 a) (.int .i64 m) 90; have lt2 := Nat.lt_of_lt_of_le lt D0.size; have e0 := cell_keep D0 lt c0; have e1 := cell_keep D0 lt c1; have BD := below_step B0 D0; clear c0 c1 lt B0 D0; have q0 : (w.alloc (.cells #[.int .i64 a, .int .i64 n] 90)).heap.size = w.heap.size + 1 := by simp
      rw [q0] at d0 d1 ld; clear q0
      go_enter Tryz.func73, Tryz.ntmps73
      go_wp2
      go_ret
      exact ⟨rfl, BD⟩
  · rw [show cmp2 a n b m = 1 by unfold cmp2; rw [cmp1_gt h]; rfl]
    have hne : (a != b) = true := by simp; omega
    have h' : ¬ a < b := by omega
    obtain ⟨c0, c1, lt, B0⟩ := box2 w (.int .i64 a) (.int .i64 n) 90; obtain ⟨d0, d1, ld, D0⟩ := box2 (w.alloc (.cells #[.int .i64 a, .int .i64 n] 90)) (.int .i64 b) (.int .i64 m) 90; have lt2 := Nat.lt_of_lt_of_le lt D0.size; have e0 := cell_keep D0 lt c0; have e1 := cell_keep D0 lt c1; have BD := below_step B0 D0; clear c0 c1 lt B0 D0; have q0 : (w.alloc (.cells #[.int .i64 a, .int .i64 n] 90)).heap.size = w.heap.size + 1 := by simp
    rw [q0] at d0 d1 ld; clear q0
    go_enter Tryz.func73, Tryz.ntmps73
    go_wp2
    go_ret
    exact ⟨rfl, BD⟩
set_option maxRecDepth 100000 in
theorem icmp_any (a n b m : Int) (w : World) : Calls Tryz.prog 144 #[.agg #[.int .i64 a, .int .i64 n], .agg #[.int .i64 b, .int .i64 m]] w fun e w' => e = .returned (.int .i64 (pcmp a n b m)) ∧ Below w.heap.size w w' := by
  cases hp : pokB a n
  · rw [show pcmp a n b m = 0 by simp [pcmp, hp]]
    have H1 := Lib.hid hp; clear hp; obtain ⟨c0, c1, lt, B0⟩ := box2 w (.int .i64 a) (.int .i64 n) 90; obtain ⟨d0, d1, ld, D0⟩ := box2 (w.alloc (.cells #[.int .i64 a, .int .i64 n] 90)) (.int .i64 b) (.int .i64 m) 90; have lt2 := Nat.lt_of_lt_of_le lt D0.size; have e0 := cell_keep D0 lt c0; have e1 := cell_keep D0 lt c1; have BD := below_step B0 D0; clear c0 c1 lt B0 D0; have q0 : (w.alloc (.cells #[.int .i64 a, .int .i64 n] 90)).heap.size = w.heap.size + 1 := by simp
    rw [q0] at d0 d1 ld; clear q0
    go_enter Tryz.func144, Tryz.ntmps144
    go_wp2_with fail; refine (ipok_t _ H1).mono ?_; rintro e w1 ⟨rfl, hb⟩; replace BD := below_step BD hb; clear hb e0 e1 d0 d1; go_wp2_with fail
    go_ret
    exact ⟨rfl, BD⟩
  · cases hq : pokB b m
    · rw [show pcmp a n b m = 0 by simp [pcmp, hq]]
      have H1 := Lib.hid hp; have H2 := Lib.hid hq; clear hp hq; obtain ⟨c0, c1, lt, B0⟩ := box2 w (.int .i64 a) (.int .i64 n) 90; obtain ⟨d0, d1, ld, D0⟩ := box2 (w.alloc (.cells #[.int .i64 a, .int .i64 n] 90)) (.int .i64 b) (.int .i64 m) 90; have lt2 := Nat.lt_of_lt_of_le lt D0.size; have e0 := cell_keep D0 lt c0; have e1 := cell_keep D0 lt c1; have BD := below_step B0 D0; clear c0 c1 lt B0 D0; have q0 : (w.alloc (.cells #[.int .i64 a, .int .i64 n] 90)).heap.size = w.heap.size + 1 := by simp
      rw [q0] at d0 d1 ld; clear q0
      go_enter Tryz.func144, Tryz.ntmps144
      go_wp2_with fail; refine (ipok_t _ H1).mono ?_; rintro e w1 ⟨rfl, hb⟩; replace BD := below_step BD hb; replace e0 := cell_keep hb lt2 e0; replace e1 := cell_keep hb lt2 e1; replace d0 := cell_keep hb ld d0; replace d1 := cell_keep hb ld d1; replace lt2 := Nat.lt_of_lt_of_le lt2 hb.size; replace ld := Nat.lt_of_lt_of_le ld hb.size; clear hb; go_wp2_with fail; refine (ipok_t _ H2).mono ?_; rintro e w2 ⟨rfl, hb⟩; replace BD := below_step BD hb; replace e0 := cell_keep hb lt2 e0; replace e1 := cell_keep hb lt2 e1; replace d0 := cell_keep hb ld d0; replace d1 := cell_keep hb ld d1; replace lt2 := Nat.lt_of_lt_of_le lt2 hb.size; replace ld := Nat.lt_of_lt_of_le ld hb.size; clear hb; go_wp2_with fail
      go_ret
      exact ⟨rfl, BD⟩
    · rw [show pcmp a n b m = cmp2 a n b m by simp [pcmp, hp, hq]]
      have H1 := Lib.hid hp; have H2 := Lib.hid hq; clear hp hq; obtain ⟨c0, c1, lt, B0⟩ := box2 w (.int .i64 a) (.int .i64 n) 90; obtain ⟨d0, d1, ld, D0⟩ := box2 (w.alloc (.cells #[.int .i64 a, .int .i64 n] 90)) (.int .i64 b) (.int .i64 m) 90; have lt2 := Nat.lt_of_lt_of_le lt D0.size; have e0 := cell_keep D0 lt c0; have e1 := cell_keep D0 lt c1; have BD := below_step B0 D0; clear c0 c1 lt B0 D0; have q0 : (w.alloc (.cells #[.int .i64 a, .int .i64 n] 90)).heap.size = w.heap.size + 1 := by simp
      rw [q0] at d0 d1 ld; clear q0
      go_enter Tryz.func144, Tryz.ntmps144
      go_wp2_with fail; refine (ipok_t _ H1).mono ?_; rintro e w1 ⟨rfl, hb⟩; replace BD := below_step BD hb; replace e0 := cell_keep hb lt2 e0; replace e1 := cell_keep hb lt2 e1; replace d0 := cell_keep hb ld d0; replace d1 := cell_keep hb ld d1; replace lt2 := Nat.lt_of_lt_of_le lt2 hb.size; replace ld := Nat.lt_of_lt_of_le ld hb.size; clear hb; go_wp2_with fail; refine (ipok_t _ H2).mono ?_; rintro e w2 ⟨rfl, hb⟩; replace BD := below_step BD hb; replace e0 := cell_keep hb lt2 e0; replace e1 := cell_keep hb lt2 e1; replace d0 := cell_keep hb ld d0; replace d1 := cell_keep hb ld d1; replace lt2 := Nat.lt_of_lt_of_le lt2 hb.size; replace ld := Nat.lt_of_lt_of_le ld hb.size; clear hb; go_wp2_with fail; refine wp_region_still_tail 10 (by kernel_rfl) (by kernel_rfl) ?_; simp only [List.take_succ_cons, List.take_zero, List.drop_succ_cons, List.drop_zero]
      repeat (first | still_step | (refine wpStill_step (fun K hK => ?_); go_simp; refine ⟨_, (compare_any _ _ _).mono (fun _ _ h => ⟨h.1, h.2.symm⟩), hK _ ?_⟩; clear hK K))
      refine wpStill_nil ?_
      change wpList _ _ _ _ _ w2.drew
      have BD2 : Below w.heap.size w w2.drew := BD.drew
      generalize w2.drew = w3 at BD2
      clear e0 e1 d0 d1 BD lt2 ld; go_wp2_with fail; refine (or_any (cmp1 a b) (cmp1 n m) w3.heap.size _ (by simp) (by simp)).mono ?_; rintro e w4 ⟨rfl, rfl⟩; go_wp2_with fail
      go_ret
      exact ⟨rfl, BD2.alloc BD2.size _⟩

end Go.Proofs.YtkodnipmogdgkabGreat
namespace Go.Proofs.YtkodnipmogdgkabGreat
open Go.ChangeShapes Go.WideShapes Go.ChangeAt Go.RowKit Go.BigFrame
set_option linter.unusedVariables false
set_option maxRecDepth 100000
set_option linter.unusedSimpArgs false

def okAt (l : List (Int × Int)) (i : Nat) : Prop := pokB (l.getD i (0, 0)).1 (l.getD i (0, 0)).2 = true
def upAt (l : List (Int × Int)) (i : Nat) : Prop := cmp2 (l.getD i (0, 0)).1 (l.getD i (0, 0)).2 (l.getD (i + 1) (0, 0)).1 (l.getD (i + 1) (0, 0)).2 < 0
instance (l : List (Int × Int)) (i : Nat) : Decidable (okAt l i) := by unfold okAt; infer_instance
instance (l : List (Int × Int)) (i : Nat) : Decidable (upAt l i) := by unfold upAt; infer_instance
/-- valid and ascending -/
def pfxB (l : List (Int × Int)) : Bool := decide ((∀ i, i < l.length → okAt l i) ∧ ∀ i, i < l.length - 1 → upAt l i)
theorem pfxB_yes {l : List (Int × Int)} {n : Nat} (hn : n = l.length) (h : ∀ i, i < n → okAt l i) (h2 : ∀ i, i + 1 < n → upAt l i) : pfxB l = true := by
  subst hn; simp only [pfxB, decide_eq_true_eq]
  exact ⟨h, fun i hi => h2 i (by omega)⟩
theorem pfxB_ok {l : List (Int × Int)} {k : Nat} {x y : Int} (hk : k < l.length) (hx : l.getD k (0, 0) = (x, y)) (h : pokB x y = false) : pfxB l = false := by
  simp only [pfxB, decide_eq_false_iff_not]; rintro ⟨h1, -⟩; have := h1 k hk; unfold okAt at this; rw [hx] at this; rw [this] at h; cases h
theorem pfxB_up {l : List (Int × Int)} {k : Nat} {a b x y : Int} (hk : k + 1 < l.length) (ha : l.getD k (0, 0) = (a, b)) (hx : l.getD (k + 1) (0, 0) = (x, y)) (h : ¬ cmp2 a b x y < 0) : pfxB l = false := by
  simp only [pfxB, decide_eq_false_iff_not]; rintro ⟨-, h1⟩; have := h1 k (by omega); unfold upAt at this; rw [ha, hx] at this
  exact h this
theorem icmp_t {a n b m r : Int} (w : World) (h : Hid (pcmp a n b m = r)) : Calls Tryz.prog 144 #[.agg #[.int .i64 a, .int .i64 n], .agg #[.int .i64 b, .int .i64 m]] w fun e w' => e = .returned (.int .i64 r) ∧ Below w.heap.size w w' :=
  h.out ▸ icmp_any a n b m w
theorem scmp_t {a n b m r : Int} (w : World) (h : Hid (cmp2 a n b m = r)) : Calls Tryz.prog 73 #[.agg #[.int .i64 a, .int .i64 n], .agg #[.int .i64 b, .int .i64 m]] w fun e w' => e = .returned (.int .i64 r) ∧ Below w.heap.size w w' :=
  h.out ▸ scmp_l a n b m w
theorem ipfx_any (v : Value) (l : List (Int × Int)) (most : Int) (w : World) (h : RdP w v l) :
    Calls Tryz.prog 113 #[v, .int .i64 most] w fun e w' => e = .returned (.bool (decide ((l.length : Int) ≤ most) && pfxB l)) ∧ Below w.heap.size w w' := by
  have hm := h.1; obtain ⟨a, c, rfl, hc⟩ := h.el; obtain ⟨n, hn⟩ : ∃ n, n = l.length := ⟨_, rfl⟩; rw [← hn] at hc hm ⊢; have HN := Lib.hid hn; clear h hn
  by_cases hmost : (n : Int) ≤ most
  · have e : decide ((n : Int) ≤ most) = true := by simp [hmost]
    rw [e, Bool.true_and]; clear e
    go_enter Tryz.func113, Tryz.ntmps113
    go_wp2
    go_loopw [13] (fun q wr => ∃ k : Nat, k ≤ n ∧ q = .int .i64 k ∧ (∀ i, i < k → okAt l i) ∧ (∀ i, i + 1 < k → upAt l i) ∧ Below w.heap.size w wr) (fun q _ => n - (intOf q).toNat)
    case atStart => exact ⟨0, Nat.zero_le _, rfl, fun i hi => by omega, fun i hi => by omega, Below.refl _ _⟩
    case round =>
      obtain ⟨k, hk, rfl, hok, hup, hB⟩ := hrel; have HO := Lib.hid hok; have HU := Lib.hid hup; clear hok hup
      by_cases hlt : k < n
      · have hltI : (k : Int) < (n : Int) := by omega
        obtain ⟨b, o, rfl, d0, d1⟩ := hc k hlt; have e0 := cell_keep hB (World.block_lt_of_cell? w _ d0) d0; have e1 := cell_keep hB (World.block_lt_of_cell? w _ d1) d1; obtain ⟨⟨x, y⟩, hx⟩ : ∃ q, l.getD k (0, 0) = q := ⟨_, rfl⟩; rw [hx] at e0 e1; have HX := Lib.hid hx; have HCC := Lib.hid hc; clear hx hc d0 d1; cases hp : pokB x y
        · have HP := Lib.hid hp
          have HF := Lib.hid (pfxB_ok (by rw [← HN.out]; exact hlt) HX.out hp); clear hp; have bP := Bl.new wr [.int .i64 x, .int .i64 y] PT wr.heap.size rfl; have hB2 : Below w.heap.size w (wr.alloc (.cells #[.int .i64 x, .int .i64 y] PT)) := hB.alloc hB.size _; go_wp2; refine wp_region_class (C := Over ((wr.alloc (.cells #[.int .i64 x, .int .i64 y] PT)))) (by kernel_rfl) (by kernel_rfl) (over_drew _) ?_
          repeat (first | go_big_quiet_skip | (go_big_quiet_want; go_big_quiet_op; go_big_quiet_on) | (go_big_quiet_want; go_big_quiet_op; apply Exists.intro; refine ⟨fun w' hC => ?_, ?_⟩; ((first | (go_at_call 143; refine (ipok_t _ HP).mono ?_; rintro e w1 ⟨rfl, hb1⟩; exact ⟨rfl, over_step hC hb1⟩))); go_big_quiet_on) | (go_big_quiet_want; apply Exists.intro; refine ⟨fun w' hC => ?_, ?_⟩; (have k0 := over_cell hC bP.lt (bP.c 0 rfl); have k1 := over_cell hC bP.lt (bP.c 1 rfl); simp [Oper.quietAt, Oper.quietUpon, go_sem, k0, k1]; first | done | rfl); go_big_quiet_on; simp only [Act.put, List.setIfInBounds_toArray, List.set_cons_zero, List.set_cons_succ]))
          refine wpQuiet_nil ?_; intro wr hC; have k0 := over_cell hC bP.lt (bP.c 0 rfl); have k1 := over_cell hC bP.lt (bP.c 1 rfl); go_wp2
          go_ret
          exact ⟨ret_bool HF.out.symm, below_step hB2 hC⟩
        · have HP := Lib.hid hp
          have HOK : Hid (∀ i, i < k + 1 → okAt l i) := Lib.hid fun i hi => by
            by_cases e : i = k
            · unfold okAt; rw [e, HX.out]; exact hp
            · exact HO.out i (by omega)
          clear hp
          rcases Nat.eq_zero_or_pos k with rfl | hpos
          · 
            simp only [Nat.zero_mul, Nat.add_zero] at e0 e1; have bP := Bl.new wr [.int .i64 x, .int .i64 y] PT wr.heap.size rfl; have hB2 : Below w.heap.size w (wr.alloc (.cells #[.int .i64 x, .int .i64 y] PT)) := hB.alloc hB.size _; go_wp2; refine wp_region_class (C := Over ((wr.alloc (.cells #[.int .i64 x, .int .i64 y] PT)))) (by kernel_rfl) (by kernel_rfl) (over_drew _) ?_
            repeat (first | go_big_quiet_skip | (go_big_quiet_want; go_big_quiet_op; go_big_quiet_on) | (go_big_quiet_want; go_big_quiet_op; apply Exists.intro; refine ⟨fun w' hC => ?_, ?_⟩; ((first | (go_at_call 143; refine (ipok_t _ HP).mono ?_; rintro e w1 ⟨rfl, hb1⟩; exact ⟨rfl, over_step hC hb1⟩))); go_big_quiet_on) | (go_big_quiet_want; apply Exists.intro; refine ⟨fun w' hC => ?_, ?_⟩; (have k0 := over_cell hC bP.lt (bP.c 0 rfl); have k1 := over_cell hC bP.lt (bP.c 1 rfl); simp [Oper.quietAt, Oper.quietUpon, go_sem, k0, k1]; first | done | rfl); go_big_quiet_on; simp only [Act.put, List.setIfInBounds_toArray, List.set_cons_zero, List.set_cons_succ]))
            refine wpQuiet_nil ?_; intro wr hC; have k0 := over_cell hC bP.lt (bP.c 0 rfl); have k1 := over_cell hC bP.lt (bP.c 1 rfl); go_wp2
            go_roundw
            case rel => exact ⟨0 + 1, by omega, by go_num, HOK.out, fun i hi => by omega, below_step hB2 hC⟩
            case measure => simp [intOf]; omega
          · obtain ⟨j, rfl⟩ : ∃ j, k = j + 1 := ⟨k - 1, by omega⟩
            obtain ⟨b', o', hbo, d2, d3⟩ := HCC.out j (by omega); obtain ⟨rfl, rfl⟩ : b = b' ∧ o = o' := by simpa using hbo
            clear hbo; obtain ⟨⟨s, t⟩, hs⟩ : ∃ q, l.getD j (0, 0) = q := ⟨_, rfl⟩; rw [hs] at d2 d3; have HS := Lib.hid hs
            have hr0 : pcmp s t x y = cmp2 s t x y := by
              have h1 := HO.out j (by omega); unfold okAt at h1; rw [hs] at h1; unfold pcmp; rw [h1, HP.out]
              rfl
            obtain ⟨r, hr⟩ : ∃ r, pcmp s t x y = r := ⟨_, rfl⟩; have HR := Lib.hid hr; rw [hr] at hr0; have HR0 := Lib.hid hr0; clear hs hr hr0
            by_cases hneg : r < 0
            · have HUP : Hid (∀ i, i + 1 < j + 1 + 1 → upAt l i) := Lib.hid fun i hi => by
                by_cases e : i = j
                · unfold upAt; rw [e, HS.out, HX.out, ← HR0.out]; exact hneg
                · exact HU.out i (by omega)
              have bP := Bl.new wr [.int .i64 x, .int .i64 y] PT wr.heap.size rfl; have hB2 : Below w.heap.size w (wr.alloc (.cells #[.int .i64 x, .int .i64 y] PT)) := hB.alloc hB.size _; have f0 := cell_keep hB2 (World.block_lt_of_cell? w _ d2) d2; have f1 := cell_keep hB2 (World.block_lt_of_cell? w _ d3) d3; clear d2 d3; have hwj : IntKind.i64.wrap (j : Int) = j := wrap64_in _ (by omega) (by omega); have hjI : (j : Int) < (n : Int) := by omega
              have hjN : j < n := by omega
              go_wp2; refine wp_region_class (C := Over ((wr.alloc (.cells #[.int .i64 x, .int .i64 y] PT)))) (by kernel_rfl) (by kernel_rfl) (over_drew _) ?_
              repeat (first | go_big_quiet_skip | (go_big_quiet_want; go_big_quiet_op; go_big_quiet_on) | (go_big_quiet_want; go_big_quiet_op; apply Exists.intro; refine ⟨fun w' hC => ?_, ?_⟩; ((first | (go_at_call 143; refine (ipok_t _ HP).mono ?_; rintro e w1 ⟨rfl, hb1⟩; exact ⟨rfl, over_step hC hb1⟩) | (go_at_call 144; refine (icmp_t _ HR).mono ?_; rintro e w1 ⟨rfl, hb1⟩; exact ⟨rfl, over_step hC hb1⟩))); go_big_quiet_on) | (go_big_quiet_want; apply Exists.intro; refine ⟨fun w' hC => ?_, ?_⟩; (have k0 := over_cell hC bP.lt (bP.c 0 rfl); have k1 := over_cell hC bP.lt (bP.c 1 rfl); have k2 := over_cell hC (World.block_lt_of_cell? _ _ f0) f0; have k3 := over_cell hC (World.block_lt_of_cell? _ _ f1) f1; simp [Oper.quietAt, Oper.quietUpon, go_sem, k0, k1, k2, k3, hwj, hjI, hjN]; first | done | rfl); go_big_quiet_on; simp only [Act.put, List.setIfInBounds_toArray, List.set_cons_zero, List.set_cons_succ]))
              refine wpQuiet_nil ?_; intro wr hC; have k0 := over_cell hC bP.lt (bP.c 0 rfl); have k1 := over_cell hC bP.lt (bP.c 1 rfl); have k2 := over_cell hC (World.block_lt_of_cell? _ _ f0) f0; have k3 := over_cell hC (World.block_lt_of_cell? _ _ f1) f1; go_wp2
              go_roundw
              case rel => exact ⟨j + 1 + 1, by omega, by go_num, HOK.out, HUP.out, below_step hB2 hC⟩
              case measure => simp [intOf]; omega
            · have HF := Lib.hid (pfxB_up (by rw [← HN.out]; exact hlt) HS.out HX.out (by rw [← HR0.out]; exact hneg))
              have bP := Bl.new wr [.int .i64 x, .int .i64 y] PT wr.heap.size rfl; have hB2 : Below w.heap.size w (wr.alloc (.cells #[.int .i64 x, .int .i64 y] PT)) := hB.alloc hB.size _; have f0 := cell_keep hB2 (World.block_lt_of_cell? w _ d2) d2; have f1 := cell_keep hB2 (World.block_lt_of_cell? w _ d3) d3; clear d2 d3; have hwj : IntKind.i64.wrap (j : Int) = j := wrap64_in _ (by omega) (by omega); have hjI : (j : Int) < (n : Int) := by omega
              have hjN : j < n := by omega
              go_wp2; refine wp_region_class (C := Over ((wr.alloc (.cells #[.int .i64 x, .int .i64 y] PT)))) (by kernel_rfl) (by kernel_rfl) (over_drew _) ?_
              repeat (first | go_big_quiet_skip | (go_big_quiet_want; go_big_quiet_op; go_big_quiet_on) | (go_big_quiet_want; go_big_quiet_op; apply Exists.intro; refine ⟨fun w' hC => ?_, ?_⟩; ((first | (go_at_call 143; refine (ipok_t _ HP).mono ?_; rintro e w1 ⟨rfl, hb1⟩; exact ⟨rfl, over_step hC hb1⟩) | (go_at_call 144; refine (icmp_t _ HR).mono ?_; rintro e w1 ⟨rfl, hb1⟩; exact ⟨rfl, over_step hC hb1⟩))); go_big_quiet_on) | (go_big_quiet_want; apply Exists.intro; refine ⟨fun w' hC => ?_, ?_⟩; (have k0 := over_cell hC bP.lt (bP.c 0 rfl); have k1 := over_cell hC bP.lt (bP.c 1 rfl); have k2 := over_cell hC (World.block_lt_of_cell? _ _ f0) f0; have k3 := over_cell hC (World.block_lt_of_cell? _ _ f1) f1; simp [Oper.quietAt, Oper.quietUpon, go_sem, k0, k1, k2, k3, hwj, hjI, hjN]; first | done | rfl); go_big_quiet_on; simp only [Act.put, List.setIfInBounds_toArray, List.set_cons_zero, List.set_cons_succ]))
              refine wpQuiet_nil ?_; intro wr hC; have k0 := over_cell hC bP.lt (bP.c 0 rfl); have k1 := over_cell hC bP.lt (bP.c 1 rfl); have k2 := over_cell hC (World.block_lt_of_cell? _ _ f0) f0; have k3 := over_cell hC (World.block_lt_of_cell? _ _ f1) f1; go_wp2
              go_ret
              exact ⟨ret_bool HF.out.symm, below_step hB2 hC⟩
      · have hkn : k = n := by omega
        subst hkn; have HF := Lib.hid (pfxB_yes HN.out HO.out HU.out); clear hc; go_wp2
        go_ret
        exact ⟨ret_bool HF.out.symm, hB⟩
  · have e : (decide ((n : Int) ≤ most) && pfxB l) = false := by simp [hmost]
    rw [e]; clear e
    go_enter Tryz.func113, Tryz.ntmps113
    go_wp2
    go_ret
    exact ⟨rfl, Below.refl _ _⟩
end Go.Proofs.YtkodnipmogdgkabGreat
