/-
  Better and Equal, of the program and of the model. Conditions: those in each contract.
-/
import Derived.Test.YtaiffofmhfflkaaI9
namespace Go.Proofs.Ytaiffofmhfflkaa
open Go.ChangeShapes Go.WideShapes Go.ChangeAt Go.RowKit Go.BigFrame Go.Joins
set_option linter.unusedVariables false
set_option maxRecDepth 100000

theorem ibetter_any (pa ca qa da : Option Addr) (pd cd qd dd : Nat) (p c q d : List Int) (pr bw pr' bw' : Int) (w : World) (hp : RdI w (.slice pa p.length pd) p) (hc : RdI w (.slice ca c.length cd) c) (hq : RdI w (.slice qa q.length qd) q) (hd : RdI w (.slice da d.length dd) d) :
    Calls Try.prog 76 #[.agg #[.slice pa p.length pd, .int .i64 pr, .slice ca c.length cd, .int .i64 bw], .agg #[.slice qa q.length qd, .int .i64 pr', .slice da d.length dd, .int .i64 bw']] w fun e w' => e = .returned (.bool (aokB p pr c bw && aokB q pr' d bw' && decide (rk pr p.length pr' q.length < 0))) ∧ Below w.heap.size w w' := by
  have bA := Bx.new w (.slice pa p.length pd) (.int .i64 pr) (.slice ca c.length cd) (.int .i64 bw) 52 w.heap.size rfl
  have z0 : (w.alloc (.cells #[.slice pa p.length pd, .int .i64 pr, .slice ca c.length cd, .int .i64 bw] 52)).heap.size = w.heap.size + 1 := by simp
  have bB := Bx.new (w.alloc (.cells #[.slice pa p.length pd, .int .i64 pr, .slice ca c.length cd, .int .i64 bw] 52)) (.slice qa q.length qd) (.int .i64 pr') (.slice da d.length dd) (.int .i64 bw') 52 (w.heap.size + 1) z0.symm
  replace bA := bA.alloc (.cells #[.slice qa q.length qd, .int .i64 pr', .slice da d.length dd, .int .i64 bw'] 52)
  have B1 : Below w.heap.size w ((w.alloc (.cells #[.slice pa p.length pd, .int .i64 pr, .slice ca c.length cd, .int .i64 bw] 52)).alloc (.cells #[.slice qa q.length qd, .int .i64 pr', .slice da d.length dd, .int .i64 bw'] 52)) := ((Below.refl _ _).alloc (Nat.le_refl _) _).alloc (by rw [z0]; omega) _
  clear z0
  replace hp := hp.keep B1
  replace hc := hc.keep B1
  replace hq := hq.keep B1
  replace hd := hd.keep B1
  cases hA : aokB p pr c bw
  · rw [show (false && aokB q pr' d bw' && decide (rk pr p.length pr' q.length < 0)) = false from rfl]
    have HA := Lib.hid hA
    clear hA
    go_enter Try.func76, Try.ntmps76
    have kA0 := bA.c0
    have kA1 := bA.c1
    have kA2 := bA.c2
    have kA3 := bA.c3
    have kB0 := bB.c0
    have kB1 := bB.c1
    have kB2 := bB.c2
    have kB3 := bB.c3
    go_wp2_with fail
    clear kA0 kA1 kA2 kA3 kB0 kB1 kB2 kB3
    refine (iaok_t _ hp hc HA).mono ?_
    rintro e w1 ⟨rfl, hb⟩
    replace bA := bA.keep hb
    replace bB := bB.keep hb
    replace hp := hp.keep hb
    replace hc := hc.keep hb
    replace hq := hq.keep hb
    replace hd := hd.keep hb
    replace B1 := below_step B1 hb
    clear hb
    go_wp2
    go_ret
    exact ⟨rfl, B1⟩
  · have hpl := (aok_p hA).1
    have HA := Lib.hid hA
    clear hA
    cases hB : aokB q pr' d bw'
    · rw [show (true && false && decide (rk pr p.length pr' q.length < 0)) = false from rfl]
      have HB := Lib.hid hB
      clear hB
      go_enter Try.func76, Try.ntmps76
      have kA0 := bA.c0
      have kA1 := bA.c1
      have kA2 := bA.c2
      have kA3 := bA.c3
      have kB0 := bB.c0
      have kB1 := bB.c1
      have kB2 := bB.c2
      have kB3 := bB.c3
      go_wp2_with fail
      clear kA0 kA1 kA2 kA3 kB0 kB1 kB2 kB3
      refine (iaok_t _ hp hc HA).mono ?_
      rintro e w1 ⟨rfl, hb⟩
      replace bA := bA.keep hb
      replace bB := bB.keep hb
      replace hp := hp.keep hb
      replace hc := hc.keep hb
      replace hq := hq.keep hb
      replace hd := hd.keep hb
      replace B1 := below_step B1 hb
      clear hb
      have kA0 := bA.c0
      have kA1 := bA.c1
      have kA2 := bA.c2
      have kA3 := bA.c3
      have kB0 := bB.c0
      have kB1 := bB.c1
      have kB2 := bB.c2
      have kB3 := bB.c3
      go_wp2_with fail
      clear kA0 kA1 kA2 kA3 kB0 kB1 kB2 kB3
      refine (iaok_t _ hq hd HB).mono ?_
      rintro e w2 ⟨rfl, hb⟩
      replace bA := bA.keep hb
      replace bB := bB.keep hb
      replace hp := hp.keep hb
      replace hc := hc.keep hb
      replace hq := hq.keep hb
      replace hd := hd.keep hb
      replace B1 := below_step B1 hb
      clear hb
      go_wp2
      go_ret
      exact ⟨rfl, B1⟩
    · have hql := (aok_p hB).1
      have HB := Lib.hid hB
      clear hB
      rw [show (true && true && decide (rk pr p.length pr' q.length < 0)) = decide (rk pr p.length pr' q.length < 0) from rfl]
      obtain ⟨z, hz⟩ : ∃ z, rk pr p.length pr' q.length = z := ⟨_, rfl⟩
      rw [hz]
      have HZ := Lib.hid hz
      clear hz
      go_enter Try.func76, Try.ntmps76
      have kA0 := bA.c0
      have kA1 := bA.c1
      have kA2 := bA.c2
      have kA3 := bA.c3
      have kB0 := bB.c0
      have kB1 := bB.c1
      have kB2 := bB.c2
      have kB3 := bB.c3
      go_wp2_with fail
      clear kA0 kA1 kA2 kA3 kB0 kB1 kB2 kB3
      refine (iaok_t _ hp hc HA).mono ?_
      rintro e w1 ⟨rfl, hb⟩
      replace bA := bA.keep hb
      replace bB := bB.keep hb
      replace hp := hp.keep hb
      replace hc := hc.keep hb
      replace hq := hq.keep hb
      replace hd := hd.keep hb
      replace B1 := below_step B1 hb
      clear hb
      have kA0 := bA.c0
      have kA1 := bA.c1
      have kA2 := bA.c2
      have kA3 := bA.c3
      have kB0 := bB.c0
      have kB1 := bB.c1
      have kB2 := bB.c2
      have kB3 := bB.c3
      go_wp2_with fail
      clear kA0 kA1 kA2 kA3 kB0 kB1 kB2 kB3
      refine (iaok_t _ hq hd HB).mono ?_
      rintro e w2 ⟨rfl, hb⟩
      replace bA := bA.keep hb
      replace bB := bB.keep hb
      replace hp := hp.keep hb
      replace hc := hc.keep hb
      replace hq := hq.keep hb
      replace hd := hd.keep hb
      replace B1 := below_step B1 hb
      clear hb
      have kA0 := bA.c0
      have kA1 := bA.c1
      have kA2 := bA.c2
      have kA3 := bA.c3
      have kB0 := bB.c0
      have kB1 := bB.c1
      have kB2 := bB.c2
      have kB3 := bB.c3
      go_wp2_with fail
      clear kA0 kA1 kA2 kA3 kB0 kB1 kB2 kB3
      refine (irank_any pa ca qa da pd cd qd dd p c q d pr bw pr' bw' _ hpl hql).mono ?_
      rintro e w3 ⟨rfl, hb⟩
      replace bA := bA.keep hb
      replace bB := bB.keep hb
      replace hp := hp.keep hb
      replace hc := hc.keep hb
      replace hq := hq.keep hb
      replace hd := hd.keep hb
      replace B1 := below_step B1 hb
      clear hb
      rw [HZ.out]
      go_wp2
      go_ret
      exact ⟨rfl, B1⟩
theorem szA_le (p c : List Int) (h : ¬ szA 1048576 p c < 0) : szA 1048576 p c ≤ 1048576 := by
  unfold szA szN at *
  split at h
  · exact absurd (by decide) h
  · split at h
    · exact absurd (by decide) h
    · rename_i h1 h2
      simp only [h1, h2, if_false]
      omega
theorem szA_p2 {t : Int} {p c : List Int} (ht : t ≤ 1048576) (h : ¬ szA t p c < 0) : p.length ≤ 1048576 := by
  unfold szA at h
  split at h
  · exact absurd (by decide) h
  · omega
theorem szA_c2 {t : Int} {p c : List Int} (ht : t ≤ 1048576) (h : ¬ szA t p c < 0) : c.length ≤ 1048576 := by
  unfold szA szN at h
  split at h
  · exact absurd (by decide) h
  · split at h
    · exact absurd (by decide) h
    · omega
end Go.Proofs.Ytaiffofmhfflkaa
