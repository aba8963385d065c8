/-
  Contracts of PrefixText of the model: the same text. Conditions: those in each contract.
-/
import Derived.Test.YtcmbajphholliabDoorT1
import Derived.Deep.RegionHeld3
namespace Go.Proofs.YtcmbajphholliabDoor
open Go.ChangeShapes Go.WideShapes Go.ChangeAt Go.RowKit Go.BigFrame
set_option linter.unusedVariables false
set_option maxRecDepth 100000

/-- append inside a region: s is the call's own, x reads as m -/
theorem step_app {ops : Array Oper} {o : Oper} {a : Act} {K : Act → World → Prop} {Q : Exit → Act → World → Prop} {E : Prop} {w : World} (hgd : o.guard = none) (s x : Operand)
    (ho : o.op = .call { callee := .builtin .append, args := #[s, x], argTypes := #[22, 22] })
    (base : Nat) (v u : Value) (l m : List Int) (hs : a.eval s = v) (hx : a.eval x = u) (hown : Own w base v l) (hu : Rd w u m) (hm : 0 < m.length) (hlen : l.length + m.length ≤ 4294967296) (hbase : base ≤ w.heap.size)
    (h : ∀ v' w', Own w' base v' (l ++ m) → w.grownBy w' v.ownBlock → K (a.put o.dst v') w') : if Region.wanted o (yielded ops a.tmps) = true then Oper.wp Tryd.prog o a w K Q else E := by
  have hw : Region.wanted o (yielded ops a.tmps) = true := by simp [Region.wanted, hgd]
  rw [if_pos hw]
  obtain ⟨i0, hi, hz0, hz1, hz2⟩ := info_parts infoB
  have hmap : l.map (Value.int .u8) ++ m.map (Value.int .u8) = (l ++ m).map (Value.int .u8) := by simp
  have hl2 : (l ++ m).length = l.length + m.length := by simp
  obtain ⟨hb, _, ⟨p, c, hv, rfl, hac⟩ | ⟨b, off, c, hv, hp, hc⟩⟩ := hu
  · simp at hm
  · refine wp_append_own w s x 22 ho base BT i0 (.int .u8 0) 1 1 Tryd.underlying22 hi hz0 hz1 hz2 rfl (by decide) v l.length (l.map (Value.int .u8)) hs hown ⟨b, off, none⟩ m.length c (m.map (Value.int .u8)) (hx.trans hv) (by simp) (fun j y hy => ?_) (by simp [Value.oneCell']) (by unfold maxLen; omega) (by omega) hbase ?_
    · have hj : j < m.length := by
        have := (List.getElem?_eq_some_iff.1 hy).1
        simpa using this
      have hadd : (⟨b, off, none⟩ : Addr).add j = ⟨b, off + j, none⟩ := by unfold Addr.add; split <;> simp_all
      rw [hadd, hc j hj]
      simpa [List.getD, hj] using hy
    · intro v' w' ho' hg' _
      refine h v' w' ?_ hg'
      unfold Own
      rw [hl2, ← hmap]
      exact ho'
theorem rd_lit1_at (w : World) (g : Nat) (z : Int) (hg : g = w.heap.size) (h : 0 ≤ z ∧ z ≤ 255) : Rd (w.alloc (.cells #[.int .u8 z] BT)) (.slice (some ⟨g, 0, none⟩) 1 1) [z] := by
  subst hg; exact rd_lit1 w z h
def dgI (n : Int) : List Int := dg n.toNat
theorem dgI_small {n : Int} (h0 : 0 ≤ n) (h : n < 10) : dgI n = [48 + n] := by
  unfold dgI
  rw [dg_small (by omega)]
  congr 1
  omega
theorem dgI_big {n : Int} (h0 : 0 ≤ n) (h : ¬ n < 10) : dgI n = dgI (n / 10) ++ [48 + n % 10] := by
  unfold dgI
  rw [dg_big (by omega), show (n / 10).toNat = n.toNat / 10 by omega]
  congr 2
  omega
theorem dg_len (n : Nat) (h : n < 1000) : (dg n).length ≤ 3 := by unfold dg; rw [List.length_map]; exact dd_len h
theorem dgI_bd (n : Int) : ∀ x ∈ dgI n, 0 ≤ x ∧ x ≤ 255 := dg_bd _
theorem dg_pos (n : Nat) : 0 < (dg n).length := by
  unfold dg
  rw [Lib.decDigits]
  split <;> simp
theorem dgI_pos (n : Int) : 0 < (dgI n).length := dg_pos _
theorem textL_is (a n : Int) (h : pokB a n = true) : textL a n = ((dgI (a / 256) ++ [46]) ++ dgI (a % 256)) ++ [47] ++ dgI n := by
  rw [textL, if_pos h]
  simp [dgI]
theorem textL_len (a n : Int) : (textL a n).length ≤ 16 := by
  unfold textL
  split
  · next h =>
    obtain ⟨h0, h1, h2, h3, -⟩ := pok_of h
    have q1 := dg_len (a / 256).toNat (by omega)
    have q2 := dg_len (a % 256).toNat (by omega)
    have q3 := dg_len n.toNat (by omega)
    simp only [List.length_append, List.length_cons]
    omega
  · simp
end Go.Proofs.YtcmbajphholliabDoor
