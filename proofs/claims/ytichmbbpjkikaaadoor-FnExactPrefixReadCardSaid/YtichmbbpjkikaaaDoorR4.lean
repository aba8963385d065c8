/-
  A number of up to three figures, as the model reads it. Conditions: those in each statement.
-/
import Derived.Test.YtichmbbpjkikaaaDoorR2
namespace Go.Proofs.YtichmbbpjkikaaaDoor
open Go.ChangeShapes Go.WideShapes Go.ChangeAt Go.RowKit Go.BigFrame
set_option linter.unusedVariables false
set_option maxRecDepth 100000
set_option linter.unusedSimpArgs false

/-- the number that stands at i, and where it ends; at most k figures more -/
def numL (l : List Int) : Nat → Nat → Int → Int × Nat
  | 0, i, x => (x, i)
  | k + 1, i, x => if i < l.length ∧ 48 ≤ l.getD i 0 ∧ l.getD i 0 ≤ 57 then numL l k (i + 1) (10 * x + (l.getD i 0 - 48)) else (x, i)
/-- what l1num answers -/
def numV (l : List Int) (i : Nat) : Int × Int := if (numL l 3 i 0).2 = i then (0, -1) else ((numL l 3 i 0).1, ((numL l 3 i 0).2 : Int))

theorem num_stop {l : List Int} {k i : Nat} {x : Int} (h : k = 0 ∨ ¬ (i < l.length ∧ 48 ≤ l.getD i 0 ∧ l.getD i 0 ≤ 57)) : numL l k i x = (x, i) := by
  cases k with
  | zero => rfl
  | succ k => exact if_neg (h.resolve_left (by simp))
theorem num_any (v : Value) (l : List Int) (p : Nat) (w : World) (h : Rd w v l) (hl : l.length ≤ 1048576) (hp : p ≤ l.length + 1) :
    Calls Tryd.prog 80 #[v, .int .i64 p] w fun e w' => e = .returned (.tuple #[.int .i64 (numV l p).1, .int .i64 (numV l p).2]) ∧ w = w' := by
  obtain ⟨m1, -, ⟨a, c, rfl, rfl, -⟩ | ⟨b, o, c, rfl, hpos, hc⟩⟩ := h
  · rw [show numV [] p = (0, -1) by unfold numV; rw [num_stop (.inr (by simp))]; simp]
    have hp0 : ¬ (p : Int) < 0 := by omega
    go_enter Tryd.func80, Tryd.ntmps80
    go_wp2
    refine wp_loop_rounds 1 ?_
    rw [rounds_succ]
    go_wp2
    exact bodyPost_ret (v := .tuple #[.int .i64 0, .int .i64 (-1)]) (by simp [results, Tryd.results80, go_sem]) rfl ⟨rfl, rfl⟩
  · obtain ⟨n, hn⟩ : ∃ n, n = l.length := ⟨_, rfl⟩
    rw [← hn] at hpos hc hl hp ⊢
    have HN := Lib.hid hn
    clear hn hpos
    have hb (i : Nat) := getD_bd m1 i
    clear m1
    go_enter Tryd.func80, Tryd.ntmps80
    go_wp2
    go_loopw [6, 7] (fun nn i wr => ∃ (k : Nat) (x : Int), i = .int .i64 (k : Int) ∧ nn = .int .i64 x ∧ 0 ≤ x ∧ ((k = p ∧ x = 0) ∨ (k = p + 1 ∧ x ≤ 9) ∨ (k = p + 2 ∧ x ≤ 99) ∨ (k = p + 3 ∧ x ≤ 999)) ∧ k ≤ n + 1 ∧ numL l (p + 3 - k) k x = numL l 3 p 0 ∧ w = wr) (fun _ i _ => p + 3 - (intOf i).toNat)
    case atStart => exact ⟨p, 0, rfl, rfl, by omega, .inl ⟨rfl, rfl⟩, hp, by rw [show p + 3 - p = 3 by omega], rfl⟩
    case round =>
      obtain ⟨k, x, rfl, rfl, hx0, hx, hkn, hN, rfl⟩ := hrel
      have hpk : p ≤ k ∧ k ≤ p + 3 := by omega
      have hx9 : x ≤ 999 := by omega
      by_cases hlt : k < n
      · have hltI : (k : Int) < (n : Int) := by omega
        by_cases h3 : k < p + 3
        · have h3I : (k : Int) < (p : Int) + 3 := by omega
          have e1 := hc k hlt
          obtain ⟨d0, d1⟩ := hb k
          obtain ⟨d, hd⟩ : ∃ d, l.getD k 0 = d := ⟨_, rfl⟩
          rw [hd] at e1 d0 d1
          have HD := Lib.hid hd
          clear hd hc hb
          by_cases h48 : 48 ≤ d
          · by_cases h57 : d ≤ 57
            · rw [show p + 3 - k = (p + 3 - (k + 1)) + 1 by omega, numL, HD.out, if_pos ⟨by have := HN.out; omega, h48, h57⟩] at hN
              have q1 : IntKind.u8.wrap (d - 48) = d - 48 := by rw [IntKind.wrap_u8]; omega
              have q2 : wrap64 (10 * x) = 10 * x := by unfold Go.RowKit.wrap64; omega
              go_wp2_with fail
              go_roundw
              case rel => exact ⟨k + 1, 10 * x + (d - 48), by simp, rfl, by omega, by omega, by omega, hN, (by first | trivial | rfl)⟩
              case measure => simp [intOf]; omega
            · have hN1 : numL l (p + 3 - k) k x = (x, k) := num_stop (.inr (by rw [HD.out]; omega))
              rw [hN1] at hN
              have hv : numV l p = if k = p then (0, -1) else (x, (k : Int)) := by
                unfold numV
                rw [← hN]
              by_cases hkp : k = p
              · subst hkp
                rw [if_pos rfl] at hv
                have HV := Lib.hid hv
                clear hv
                go_wp2
                exact bodyPost_ret (v := .tuple #[.int .i64 0, .int .i64 (-1)]) (by simp [results, Tryd.results80, go_sem]) rfl ⟨by rw [HV.out], rfl⟩
              · have hkpI : ¬ (k : Int) = (p : Int) := by omega
                rw [if_neg hkp] at hv
                have HV := Lib.hid hv
                clear hv
                go_wp2
                exact bodyPost_ret (v := .tuple #[.int .i64 x, .int .i64 (k : Int)]) (by simp [results, Tryd.results80, go_sem]) rfl ⟨by rw [HV.out], rfl⟩
          · have hN1 : numL l (p + 3 - k) k x = (x, k) := num_stop (.inr (by rw [HD.out]; omega))
            rw [hN1] at hN
            have hv : numV l p = if k = p then (0, -1) else (x, (k : Int)) := by
              unfold numV
              rw [← hN]
            by_cases hkp : k = p
            · subst hkp
              rw [if_pos rfl] at hv
              have HV := Lib.hid hv
              clear hv
              go_wp2
              exact bodyPost_ret (v := .tuple #[.int .i64 0, .int .i64 (-1)]) (by simp [results, Tryd.results80, go_sem]) rfl ⟨by rw [HV.out], rfl⟩
            · have hkpI : ¬ (k : Int) = (p : Int) := by omega
              rw [if_neg hkp] at hv
              have HV := Lib.hid hv
              clear hv
              go_wp2
              exact bodyPost_ret (v := .tuple #[.int .i64 x, .int .i64 (k : Int)]) (by simp [results, Tryd.results80, go_sem]) rfl ⟨by rw [HV.out], rfl⟩
        · have h3I : ¬ (k : Int) < (p : Int) + 3 := by omega
          have hN1 : numL l (p + 3 - k) k x = (x, k) := num_stop (.inl (by omega))
          rw [hN1] at hN
          have hv : numV l p = if k = p then (0, -1) else (x, (k : Int)) := by
            unfold numV
            rw [← hN]
          by_cases hkp : k = p
          · subst hkp
            rw [if_pos rfl] at hv
            have HV := Lib.hid hv
            clear hv
            go_wp2
            exact bodyPost_ret (v := .tuple #[.int .i64 0, .int .i64 (-1)]) (by simp [results, Tryd.results80, go_sem]) rfl ⟨by rw [HV.out], rfl⟩
          · have hkpI : ¬ (k : Int) = (p : Int) := by omega
            rw [if_neg hkp] at hv
            have HV := Lib.hid hv
            clear hv
            go_wp2
            exact bodyPost_ret (v := .tuple #[.int .i64 x, .int .i64 (k : Int)]) (by simp [results, Tryd.results80, go_sem]) rfl ⟨by rw [HV.out], rfl⟩
      · have hltI : ¬ (k : Int) < (n : Int) := by omega
        have hN1 : numL l (p + 3 - k) k x = (x, k) := num_stop (.inr (by have := HN.out; rintro ⟨q, _⟩; omega))
        rw [hN1] at hN
        have hv : numV l p = if k = p then (0, -1) else (x, (k : Int)) := by
          unfold numV
          rw [← hN]
        by_cases hkp : k = p
        · subst hkp
          rw [if_pos rfl] at hv
          have HV := Lib.hid hv
          clear hv
          go_wp2
          exact bodyPost_ret (v := .tuple #[.int .i64 0, .int .i64 (-1)]) (by simp [results, Tryd.results80, go_sem]) rfl ⟨by rw [HV.out], rfl⟩
        · have hkpI : ¬ (k : Int) = (p : Int) := by omega
          rw [if_neg hkp] at hv
          have HV := Lib.hid hv
          clear hv
          go_wp2
          exact bodyPost_ret (v := .tuple #[.int .i64 x, .int .i64 (k : Int)]) (by simp [results, Tryd.results80, go_sem]) rfl ⟨by rw [HV.out], rfl⟩
end Go.Proofs.YtichmbbpjkikaaaDoor
