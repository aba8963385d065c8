/-
  Ints appended to a slice that the call made; copies of attributes. Conditions: those in each statement.
-/
import Derived.Test.YtgelmpojbaiddaaI5
import Derived.Laws.AppendOwnNone
namespace Go.Proofs.Ytgelmpojbaiddaa
open Go.ChangeShapes Go.WideShapes Go.ChangeAt Go.RowKit Go.BigFrame Go.Joins
set_option linter.unusedVariables false
set_option maxRecDepth 100000

/-- append(s, x...): s is the call's own, x reads as m -/
theorem wp_appI {ops : Array Oper} {rest : List Oper} {o : Oper} {a : Act} {Q : Exit → Act → World → Prop} {w : World} (hgd : o.guard = none) (s x : Operand)
    (ho : o.op = .call { callee := .builtin .append, args := #[s, x], argTypes := #[47, 47] })
    (base : Nat) (v u : Value) (l m : List Int) (hs : a.eval s = v) (hx : a.eval x = u) (hown : OwnI w base v l) (hu : RdI w u m) (hlen : l.length + m.length ≤ 4294967296) (hbase : base ≤ w.heap.size)
    (h : ∀ v' w', OwnI w' base v' (l ++ m) → w.grownBy w' v.ownBlock → wpList Try.prog ops Q rest (a.put o.dst v') w') : wpList Try.prog ops Q (o :: rest) a w := by
  obtain ⟨i0, hi, hz0, hz1, hz2⟩ := info_parts infoB_I
  have hmap : l.map (Value.int .i64) ++ m.map (Value.int .i64) = (l ++ m).map (Value.int .i64) := by simp
  have hl2 : (l ++ m).length = l.length + m.length := by simp
  have done : ∀ (ad : Addr) (c : Nat), u = .slice (some ad) m.length c → (∀ j y, (m.map (Value.int .i64))[j]? = some y → w.cell? (ad.add j) = some y) → wpList Try.prog ops Q (o :: rest) a w := by
    intro ad c hv hc
    refine wpList_append_own w hgd s x 47 ho base IT i0 (.int .i64 0) 1 8 Try.underlying47 hi hz0 hz1 hz2 rfl (by decide) v l.length (l.map (Value.int .i64)) hs hown ad m.length c (m.map (Value.int .i64)) (hx.trans hv) (by simp) hc (by simp [Value.oneCell']) (by unfold maxLen; omega) (by omega) hbase ?_
    intro v' w' ho' hg' _
    refine h v' w' ?_ hg'
    unfold OwnI
    rw [hl2, ← hmap]
    exact ho'
  obtain ⟨hb, hm, ⟨p, c, hv, rfl, hac⟩ | ⟨b, off, c, hv, hp, hc⟩⟩ := hu
  · cases p with
    | none =>
      have hc0 := hac rfl
      subst hc0
      refine wpList_append_own_none hgd s x 47 ho base IT i0 1 Try.underlying47 hi v l.length (l.map (Value.int .i64)) hs hown (hx.trans hv) ?_
      exact h v w (by simpa using hown) ⟨rfl, rfl, rfl, Nat.le_refl _, fun _ _ _ => rfl⟩
    | some ad => exact done ad c hv (by simp)
  · refine done ⟨b, off, none⟩ c hv (fun j y hy => ?_)
    have hj : j < m.length := by
      have := (List.getElem?_eq_some_iff.1 hy).1
      simpa using this
    have hadd : (⟨b, off, none⟩ : Addr).add j = ⟨b, off + j, none⟩ := by unfold Addr.add; split <;> simp_all
    rw [hadd, hc j hj]
    simpa [List.getD, hj] using hy

theorem own_empty_I (w : World) (base g : Nat) (hg : g = w.heap.size) (hb : base ≤ g) : OwnI (w.alloc (.cells #[] IT)) base (.slice (some ⟨g, 0, none⟩) 0 0) [] := by
  subst hg; exact OwnI.lit w #[] [] hb (by simp) (by simp)
theorem own_lit1_I (w : World) (z : Int) (g : Nat) (hg : g = w.heap.size) : OwnI (w.alloc (.cells #[.int .i64 z] IT)) g (.slice (some ⟨g, 0, none⟩) 1 1) [z] := by
  subst hg; exact OwnI.lit w #[.int .i64 z] [z] (Nat.le_refl _) (by simp [maxLen]) (by simp)
end Go.Proofs.Ytgelmpojbaiddaa
