/-
  AttrOk, of the program and of the model. Conditions: those in each contract.
-/
import Derived.Test.YtbcmoofpgffbhaaI3
namespace Go.Proofs.Ytbcmoofpgffbhaa
open Go.ChangeShapes Go.WideShapes Go.ChangeAt Go.RowKit Go.BigFrame Go.Joins
set_option linter.unusedVariables false
set_option maxRecDepth 100000

theorem nums_t {v : Value} {l : List Int} {most : Int} {b : Bool} (w : World) (h : RdI w v l) (H : Hid ((decide ((l.length : Int) ≤ most) && numsB l) = b)) :
    Calls Try.prog 170 #[v, .int .i64 most] w fun e w' => e = .returned (.bool b) ∧ Below w.heap.size w w' := H.out ▸ nums_any v l most w h
theorem asc_t {v : Value} {l : List Int} {b : Bool} (w : World) (h : RdI w v l) (H : Hid (ascB l = b)) :
    Calls Try.prog 171 #[v] w fun e w' => e = .returned (.bool b) ∧ Below w.heap.size w w' := H.out ▸ asc_any v l w h
theorem within_t {n lo hi : Int} {b : Bool} (w : World) (H : Hid (inB n lo hi = b)) : Calls Try.prog 73 #[.int .i64 n, .int .i64 lo, .int .i64 hi] w fun e w' => e = .returned (.bool b) ∧ w = w' := H.out ▸ within_any n lo hi w
theorem iaok_any (pv cv : Value) (p c : List Int) (pr bw : Int) (w : World) (hp : RdI w pv p) (hc : RdI w cv c) :
    Calls Try.prog 127 #[.agg #[pv, .int .i64 pr, cv, .int .i64 bw]] w fun e w' => e = .returned (.bool (aokB p pr c bw)) ∧ Below w.heap.size w w' := by
  obtain ⟨c0, c1, c2, c3, lt, B0⟩ := box4 w pv (.int .i64 pr) cv (.int .i64 bw) 26
  have hp1 := hp.alloc (.cells #[pv, .int .i64 pr, cv, .int .i64 bw] 26)
  have hc1 := hc.alloc (.cells #[pv, .int .i64 pr, cv, .int .i64 bw] 26)
  have hE : aokB p pr c bw = ((decide ((p.length : Int) ≤ 8) && numsB p) && inB pr 0 1000 && inB bw 0 1000 && (decide ((c.length : Int) ≤ 4) && numsB c) && ascB c) := by
    have q8 : decide ((p.length : Int) ≤ 8) = decide (p.length ≤ 8) := by congr 1; simp; omega
    have q4 : decide ((c.length : Int) ≤ 4) = decide (c.length ≤ 4) := by congr 1; simp; omega
    unfold aokB
    rw [q8, q4]
  rw [hE]
  clear hE
  cases h0 : (decide ((p.length : Int) ≤ 8) && numsB p)
  · rw [show (false && inB pr 0 1000 && inB bw 0 1000 && (decide ((c.length : Int) ≤ 4) && numsB c) && ascB c) = false from rfl]
    have H0 := Lib.hid h0
    clear h0
    go_enter Try.func127, Try.ntmps127
    go_wp2_with fail
    refine (nums_t _ hp1 H0).mono ?_
    rintro e w1 ⟨rfl, hb⟩
    replace c0 := cell_keep hb lt c0
    replace c1 := cell_keep hb lt c1
    replace c2 := cell_keep hb lt c2
    replace c3 := cell_keep hb lt c3
    replace lt := Nat.lt_of_lt_of_le lt hb.size
    replace hp1 := hp1.keep hb
    replace hc1 := hc1.keep hb
    replace B0 := below_step B0 hb
    clear hb
    go_wp2
    go_ret
    exact ⟨rfl, B0⟩
  · rw [show (true && inB pr 0 1000 && inB bw 0 1000 && (decide ((c.length : Int) ≤ 4) && numsB c) && ascB c) = (inB pr 0 1000 && inB bw 0 1000 && (decide ((c.length : Int) ≤ 4) && numsB c) && ascB c) from rfl]
    have H0 := Lib.hid h0
    clear h0
    cases h1 : inB pr 0 1000
    · rw [show (false && inB bw 0 1000 && (decide ((c.length : Int) ≤ 4) && numsB c) && ascB c) = false from rfl]
      have H1 := Lib.hid h1
      clear h1
      go_enter Try.func127, Try.ntmps127
      go_wp2_with fail
      refine (nums_t _ hp1 H0).mono ?_
      rintro e w1 ⟨rfl, hb⟩
      replace c0 := cell_keep hb lt c0
      replace c1 := cell_keep hb lt c1
      replace c2 := cell_keep hb lt c2
      replace c3 := cell_keep hb lt c3
      replace lt := Nat.lt_of_lt_of_le lt hb.size
      replace hp1 := hp1.keep hb
      replace hc1 := hc1.keep hb
      replace B0 := below_step B0 hb
      clear hb
      go_wp2_with fail
      refine (within_t _ H1).mono ?_
      rintro e w2 ⟨rfl, rfl⟩
      go_wp2
      go_ret
      exact ⟨rfl, B0⟩
    · rw [show (true && inB bw 0 1000 && (decide ((c.length : Int) ≤ 4) && numsB c) && ascB c) = (inB bw 0 1000 && (decide ((c.length : Int) ≤ 4) && numsB c) && ascB c) from rfl]
      have H1 := Lib.hid h1
      clear h1
      cases h2 : inB bw 0 1000
      · rw [show (false && (decide ((c.length : Int) ≤ 4) && numsB c) && ascB c) = false from rfl]
        have H2 := Lib.hid h2
        clear h2
        go_enter Try.func127, Try.ntmps127
        go_wp2_with fail
        refine (nums_t _ hp1 H0).mono ?_
        rintro e w1 ⟨rfl, hb⟩
        replace c0 := cell_keep hb lt c0
        replace c1 := cell_keep hb lt c1
        replace c2 := cell_keep hb lt c2
        replace c3 := cell_keep hb lt c3
        replace lt := Nat.lt_of_lt_of_le lt hb.size
        replace hp1 := hp1.keep hb
        replace hc1 := hc1.keep hb
        replace B0 := below_step B0 hb
        clear hb
        go_wp2_with fail
        refine (within_t _ H1).mono ?_
        rintro e w2 ⟨rfl, rfl⟩
        go_wp2_with fail
        refine (within_t _ H2).mono ?_
        rintro e w3 ⟨rfl, rfl⟩
        go_wp2
        go_ret
        exact ⟨rfl, B0⟩
      · rw [show (true && (decide ((c.length : Int) ≤ 4) && numsB c) && ascB c) = ((decide ((c.length : Int) ≤ 4) && numsB c) && ascB c) from rfl]
        have H2 := Lib.hid h2
        clear h2
        cases h3 : (decide ((c.length : Int) ≤ 4) && numsB c)
        · rw [show (false && ascB c) = false from rfl]
          have H3 := Lib.hid h3
          clear h3
          go_enter Try.func127, Try.ntmps127
          go_wp2_with fail
          refine (nums_t _ hp1 H0).mono ?_
          rintro e w1 ⟨rfl, hb⟩
          replace c0 := cell_keep hb lt c0
          replace c1 := cell_keep hb lt c1
          replace c2 := cell_keep hb lt c2
          replace c3 := cell_keep hb lt c3
          replace lt := Nat.lt_of_lt_of_le lt hb.size
          replace hp1 := hp1.keep hb
          replace hc1 := hc1.keep hb
          replace B0 := below_step B0 hb
          clear hb
          go_wp2_with fail
          refine (within_t _ H1).mono ?_
          rintro e w2 ⟨rfl, rfl⟩
          go_wp2_with fail
          refine (within_t _ H2).mono ?_
          rintro e w3 ⟨rfl, rfl⟩
          go_wp2_with fail
          refine (nums_t _ hc1 H3).mono ?_
          rintro e w4 ⟨rfl, hb⟩
          replace c0 := cell_keep hb lt c0
          replace c1 := cell_keep hb lt c1
          replace c2 := cell_keep hb lt c2
          replace c3 := cell_keep hb lt c3
          replace lt := Nat.lt_of_lt_of_le lt hb.size
          replace hp1 := hp1.keep hb
          replace hc1 := hc1.keep hb
          replace B0 := below_step B0 hb
          clear hb
          go_wp2
          go_ret
          exact ⟨rfl, B0⟩
        · rw [show (true && ascB c) = (ascB c) from rfl]
          have H3 := Lib.hid h3
          clear h3
          cases h4 : ascB c
          · have H4 := Lib.hid h4
            clear h4
            go_enter Try.func127, Try.ntmps127
            go_wp2_with fail
            refine (nums_t _ hp1 H0).mono ?_
            rintro e w1 ⟨rfl, hb⟩
            replace c0 := cell_keep hb lt c0
            replace c1 := cell_keep hb lt c1
            replace c2 := cell_keep hb lt c2
            replace c3 := cell_keep hb lt c3
            replace lt := Nat.lt_of_lt_of_le lt hb.size
            replace hp1 := hp1.keep hb
            replace hc1 := hc1.keep hb
            replace B0 := below_step B0 hb
            clear hb
            go_wp2_with fail
            refine (within_t _ H1).mono ?_
            rintro e w2 ⟨rfl, rfl⟩
            go_wp2_with fail
            refine (within_t _ H2).mono ?_
            rintro e w3 ⟨rfl, rfl⟩
            go_wp2_with fail
            refine (nums_t _ hc1 H3).mono ?_
            rintro e w4 ⟨rfl, hb⟩
            replace c0 := cell_keep hb lt c0
            replace c1 := cell_keep hb lt c1
            replace c2 := cell_keep hb lt c2
            replace c3 := cell_keep hb lt c3
            replace lt := Nat.lt_of_lt_of_le lt hb.size
            replace hp1 := hp1.keep hb
            replace hc1 := hc1.keep hb
            replace B0 := below_step B0 hb
            clear hb
            go_wp2_with fail
            refine (asc_t _ hc1 H4).mono ?_
            rintro e w5 ⟨rfl, hb⟩
            replace c0 := cell_keep hb lt c0
            replace c1 := cell_keep hb lt c1
            replace c2 := cell_keep hb lt c2
            replace c3 := cell_keep hb lt c3
            replace lt := Nat.lt_of_lt_of_le lt hb.size
            replace hp1 := hp1.keep hb
            replace hc1 := hc1.keep hb
            replace B0 := below_step B0 hb
            clear hb
            go_wp2
            go_ret
            exact ⟨rfl, B0⟩
          · have H4 := Lib.hid h4
            clear h4
            go_enter Try.func127, Try.ntmps127
            go_wp2_with fail
            refine (nums_t _ hp1 H0).mono ?_
            rintro e w1 ⟨rfl, hb⟩
            replace c0 := cell_keep hb lt c0
            replace c1 := cell_keep hb lt c1
            replace c2 := cell_keep hb lt c2
            replace c3 := cell_keep hb lt c3
            replace lt := Nat.lt_of_lt_of_le lt hb.size
            replace hp1 := hp1.keep hb
            replace hc1 := hc1.keep hb
            replace B0 := below_step B0 hb
            clear hb
            go_wp2_with fail
            refine (within_t _ H1).mono ?_
            rintro e w2 ⟨rfl, rfl⟩
            go_wp2_with fail
            refine (within_t _ H2).mono ?_
            rintro e w3 ⟨rfl, rfl⟩
            go_wp2_with fail
            refine (nums_t _ hc1 H3).mono ?_
            rintro e w4 ⟨rfl, hb⟩
            replace c0 := cell_keep hb lt c0
            replace c1 := cell_keep hb lt c1
            replace c2 := cell_keep hb lt c2
            replace c3 := cell_keep hb lt c3
            replace lt := Nat.lt_of_lt_of_le lt hb.size
            replace hp1 := hp1.keep hb
            replace hc1 := hc1.keep hb
            replace B0 := below_step B0 hb
            clear hb
            go_wp2_with fail
            refine (asc_t _ hc1 H4).mono ?_
            rintro e w5 ⟨rfl, hb⟩
            replace c0 := cell_keep hb lt c0
            replace c1 := cell_keep hb lt c1
            replace c2 := cell_keep hb lt c2
            replace c3 := cell_keep hb lt c3
            replace lt := Nat.lt_of_lt_of_le lt hb.size
            replace hp1 := hp1.keep hb
            replace hc1 := hc1.keep hb
            replace B0 := below_step B0 hb
            clear hb
            go_wp2
            go_ret
            exact ⟨rfl, B0⟩
end Go.Proofs.Ytbcmoofpgffbhaa
