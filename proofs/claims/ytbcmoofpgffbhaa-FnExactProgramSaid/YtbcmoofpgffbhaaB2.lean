/-
  Bytes appended to a slice that the call made; bytes.Clone. Conditions: those in each statement.
-/
import Derived.Test.YtbcmoofpgffbhaaO2
import Derived.Laws.AppendOwnNone
namespace Go.Proofs.Ytbcmoofpgffbhaa
open Go.ChangeShapes Go.WideShapes Go.ChangeAt Go.RowKit Go.BigFrame
set_option linter.unusedVariables false
set_option maxRecDepth 100000

/-- append(s, x...): s is the call's own, x reads as m -/
theorem wp_app {ops : Array Oper} {rest : List Oper} {o : Oper} {a : Act} {Q : Exit → Act → World → Prop} {w : World} (hgd : o.guard = none) (s x : Operand)
    (ho : o.op = .call { callee := .builtin .append, args := #[s, x], argTypes := #[22, 22] })
    (base : Nat) (v u : Value) (l m : List Int) (hs : a.eval s = v) (hx : a.eval x = u) (hown : Own w base v l) (hu : Rd w u m) (hlen : l.length + m.length ≤ 4294967296) (hbase : base ≤ w.heap.size)
    (h : ∀ v' w', Own w' base v' (l ++ m) → w.grownBy w' v.ownBlock → wpList Try.prog ops Q rest (a.put o.dst v') w') : wpList Try.prog ops Q (o :: rest) a w := by
  obtain ⟨i0, hi, hz0, hz1, hz2⟩ := info_parts infoB
  have hmap : l.map (Value.int .u8) ++ m.map (Value.int .u8) = (l ++ m).map (Value.int .u8) := by simp
  have hl2 : (l ++ m).length = l.length + m.length := by simp
  have done : ∀ (ad : Addr) (c : Nat), u = .slice (some ad) m.length c → (∀ j y, (m.map (Value.int .u8))[j]? = some y → w.cell? (ad.add j) = some y) → wpList Try.prog ops Q (o :: rest) a w := by
    intro ad c hv hc
    refine wpList_append_own w hgd s x 22 ho base BT i0 (.int .u8 0) 1 1 Try.underlying22 hi hz0 hz1 hz2 rfl (by decide) v l.length (l.map (Value.int .u8)) hs hown ad m.length c (m.map (Value.int .u8)) (hx.trans hv) (by simp) hc (by simp [Value.oneCell']) (by unfold maxLen; omega) (by omega) hbase ?_
    intro v' w' ho' hg' _
    refine h v' w' ?_ hg'
    unfold Own
    rw [hl2, ← hmap]
    exact ho'
  obtain ⟨hb, hm, ⟨p, c, hv, rfl, hac⟩ | ⟨b, off, c, hv, hp, hc⟩⟩ := hu
  · cases p with
    | none =>
      have hc0 := hac rfl
      subst hc0
      refine wpList_append_own_none hgd s x 22 ho base BT i0 1 Try.underlying22 hi v l.length (l.map (Value.int .u8)) hs hown (hx.trans hv) ?_
      exact h v w (by simpa using hown) ⟨rfl, rfl, rfl, Nat.le_refl _, fun _ _ _ => rfl⟩
    | some ad => exact done ad c hv (by simp)
  · refine done ⟨b, off, none⟩ c hv (fun j y hy => ?_)
    have hj : j < m.length := by
      have := (List.getElem?_eq_some_iff.1 hy).1
      simpa using this
    have hadd : (⟨b, off, none⟩ : Addr).add j = ⟨b, off + j, none⟩ := by unfold Addr.add; split <;> simp_all
    rw [hadd, hc j hj]
    simpa [List.getD, hj] using hy

/-- one byte more -/
theorem rd_lit1 (w : World) (z : Int) (h : 0 ≤ z ∧ z ≤ 255) : Rd (w.alloc (.cells #[.int .u8 z] BT)) (.slice (some ⟨w.heap.size, 0, none⟩) 1 1) [z] :=
  ⟨by simpa using h, by simp [maxLen], .inr ⟨w.heap.size, 0, 1, rfl, by simp, fun i hi => by
    have : i = 0 := by simp at hi; omega
    subst this; simp⟩⟩
theorem own_empty (w : World) (base : Nat) (hb : base ≤ w.heap.size) : Own (w.alloc (.cells #[] BT)) base (.slice (some ⟨w.heap.size, 0, none⟩) 0 0) [] :=
  Own.lit w #[] [] hb (by simp) (by simp)
theorem own_empty_at (w : World) (base g : Nat) (hg : g = w.heap.size) (hb : base ≤ g) : Own (w.alloc (.cells #[] BT)) base (.slice (some ⟨g, 0, none⟩) 0 0) [] := by
  subst hg; exact own_empty w base hb
theorem over_grown {V w w' : World} {v : Value} {l : List Int} {base : Nat} (h : Over V w) (ho : Own w base v l) (hb : V.heap.size ≤ base) (hg : w.grownBy w' v.ownBlock) : Over V w' :=
  Below.grown h hg h.size (fun k hk => Nat.le_trans hb (World.ownsRow.lt ho k hk).1)

/-- bytes.Clone: a copy of its own -/
theorem clone_any (v : Value) (l : List Int) (w : World) (h : Rd w v l) (hn : l.length ≤ 1048576) : Calls Try.prog 248 #[v] w (NewB w l) := by
  have hE := fun (w : World) (a : Option Addr) (n c n' c' : Nat) => Lib.run_eql_slice_nil (P := Try.prog) w 22 BT a n c n' c' Try.underlying22
  obtain ⟨p, c, hv⟩ := h.len
  cases p with
  | none =>
    have hl : l = [] := by
      rcases h.2.2 with ⟨a, c', hv', rfl, _⟩ | ⟨b, o, c', hv', _⟩
      · rfl
      · rw [hv] at hv'; cases hv'
    subst hl
    subst hv
    clear h
    go_enter Try.func248, Try.ntmps248
    go_wp2_with fail
    go_ret
    exact ⟨_, rfl, World.ownsRow_nil _ _ _ _, Below.refl _ _⟩
  | some ad =>
    subst hv
    go_enter Try.func248, Try.ntmps248
    go_wp2_with (at_builtin; refine wp_app rfl (.tmp 5) (.tmp 6) rfl w.heap.size _ _ [] l rfl rfl (own_empty w _ (Nat.le_refl _)) (h.alloc _) (by simp; omega) (by simp) ?_; intro v' w1 ho1 hg1)
    go_ret
    exact ⟨_, rfl, ho1, Below.grown ((Below.refl _ _).alloc (Nat.le_refl _) _) hg1 (by simp) (fun k hk => (World.ownsRow.lt (own_empty w _ (Nat.le_refl _)) k hk).1)⟩
end Go.Proofs.Ytbcmoofpgffbhaa
