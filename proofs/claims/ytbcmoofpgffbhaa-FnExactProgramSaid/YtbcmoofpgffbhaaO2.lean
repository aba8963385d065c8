/-
  An argument that is a slice of bytes reads as a list of bytes; contracts in the form in which the laws' walks take them. No condition beside those in each contract.
-/
import Derived.Test.YtbcmoofpgffbhaaO1
import Derived.Test.YtbcmoofpgffbhaaB1
namespace Go.Proofs.Ytbcmoofpgffbhaa
open Go.ChangeShapes Go.WideShapes Go.ChangeAt Go.RowKit Go.BigFrame
set_option linter.unusedVariables false
set_option maxRecDepth 100000

theorem Is_bytes.rd {W : World} {v : Value} (h : Is_bytes W v) : ∃ l, Rd W v l := by
  rcases h with rfl | ⟨x, len, cap, zs, rfl, hl, hm, hz, hc, hwf⟩
  · exact ⟨[], by simp, by simp, .inl ⟨none, 0, rfl, rfl, fun _ => rfl⟩⟩
  · have hlen : (zs.take len).length = len := by simp; omega
    refine ⟨zs.take len, fun y hy => bounds_u8 (hwf y (List.mem_of_mem_take hy)), by omega, ?_⟩
    by_cases h0 : len = 0
    · subst h0
      exact .inl ⟨some x, cap, by simp, by simp, fun h => by cases h⟩
    · obtain ⟨b, off, spot⟩ := x
      have hspot : spot = none := by
        have h1 := hc 0 (by omega)
        simpa [Addr.add] using World.cell?_spot h1
      subst hspot
      refine .inr ⟨b, off, cap, by rw [hlen], by omega, fun i hi => ?_⟩
      rw [hlen] at hi
      have h1 := hc i (by omega)
      have e1 : (zs.take len).getD i 0 = zs.getD i 0 := by simp [List.getD, hi]
      rw [e1]
      have hadd : (⟨b, off, none⟩ : Addr).add i = ⟨b, off + i, none⟩ := by unfold Addr.add; split <;> simp_all
      rw [hadd] at h1
      exact h1

theorem Rd.alloc {w : World} {v : Value} {l : List Int} (h : Rd w v l) (o : Obj) : Rd (w.alloc o) v l := h.keep ((Below.refl _ _).alloc (Nat.le_refl _) _)
theorem Own.alloc {w : World} {base : Nat} {v : Value} {l : List Int} (h : Own w base v l) (o : Obj) : Own (w.alloc o) base v l := h.keep ((Below.refl _ _).alloc (Nat.le_refl _) _)
/-- a fresh copy -/
def NewB (w : World) (l : List Int) (e : Ending) (w' : World) : Prop := ∃ u, e = .returned u ∧ Own w' w.heap.size u l ∧ Below w.heap.size w w'
theorem toB_new (v : Value) (l : List Int) (w : World) (h : Rd w v l) (hn : l.length ≤ 1048576) : Calls Try.prog 10 #[v] w (NewB w l) :=
  (toB_any v l w h hn).mono fun _ _ ⟨he, ho, hb⟩ => ⟨_, he, ho, hb⟩
theorem eqB_same (v u : Value) (l : List Int) (w : World) (h1 : Rd w v l) (h2 : Rd w u l) :
    Calls Try.prog 13 #[v, u] w fun e w' => e = .returned (.bool true) ∧ Below w.heap.size w w' :=
  (eqB_any v u l l w h1 h2).mono fun _ _ ⟨he, hb⟩ => ⟨by rw [he]; simp, hb⟩
theorem eqP_same (a n : Int) (w : World) : Calls Try.prog 83 #[.agg #[.int .i64 a, .int .i64 n], .agg #[.int .i64 a, .int .i64 n]] w fun e w' => e = .returned (.bool true) ∧ Below w.heap.size w w' := by
  have ha : (a != a) = false := by simp
  have hn : (n != n) = false := by simp
  go_enter Try.func83, Try.ntmps83
  go_wp2
  go_ret
  exact ⟨rfl, ((Below.refl _ _).alloc (Nat.le_refl _) _).alloc (by simp) _⟩
end Go.Proofs.Ytbcmoofpgffbhaa
