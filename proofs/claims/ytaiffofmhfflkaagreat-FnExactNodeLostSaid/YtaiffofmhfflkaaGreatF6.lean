/-
  The prefixes of a table: contracts of the model's functions that list them. Conditions: those in each contract.
-/
import Derived.Test.YtaiffofmhfflkaaGreatF3
import Derived.Deep.CutRange
namespace Go.Proofs.YtaiffofmhfflkaaGreat
open Go.ChangeShapes Go.WideShapes Go.ChangeAt Go.RowKit Go.BigFrame Go.Joins
set_option linter.unusedVariables false
set_option maxRecDepth 100000
set_option linter.unusedSimpArgs false
set_option maxRecDepth 100000

/-- append(s, p): s is the call's own -/
theorem wp_appP {ops : Array Oper} {rest : List Oper} {o : Oper} {a : Act} {Q : Exit → Act → World → Prop} {w : World} (hgd : o.guard = none) (s x : Operand)
    (ho : o.op = .call { callee := .builtin .append, args := #[s, x], argTypes := #[29, 29] })
    (base g c : Nat) (v : Value) (l : List (Int × Int)) (p : Int × Int) (hs : a.eval s = v) (hx : a.eval x = .slice (some ⟨g, 0, none⟩) 1 c) (hown : OwnP w base v l)
    (h0 : w.cell? ⟨g, 0, none⟩ = some (.int .i64 p.1)) (h1 : w.cell? ⟨g, 1, none⟩ = some (.int .i64 p.2)) (hlen : l.length + 1 ≤ 4294967296) (hbase : base ≤ w.heap.size)
    (h : ∀ v' w', OwnP w' base v' (l ++ [p]) → w.grownBy w' v.ownBlock → wpList Tryz.prog ops Q rest (a.put o.dst v') w') : wpList Tryz.prog ops Q (o :: rest) a w := by
  obtain ⟨i0, hi, hz0, hz1, hz2⟩ := info_parts infoP
  have hmap : (flat l).map (Value.int .i64) ++ [.int .i64 p.1, .int .i64 p.2] = (flat (l ++ [p])).map (Value.int .i64) := by simp [flat]
  refine wpList_append_own w hgd s x 29 ho base PT i0 (.agg #[.int .i64 0, .int .i64 0]) 2 16 Tryz.underlying29 hi hz0 hz1 hz2 rfl (by decide) v l.length ((flat l).map (Value.int .i64)) hs hown ⟨g, 0, none⟩ 1 c [.int .i64 p.1, .int .i64 p.2] hx (by simp) (fun j y hy => ?_) (by simp [Value.oneCell']) (by unfold maxLen; omega) (by omega) hbase ?_
  · have hadd : ∀ j, (⟨g, 0, none⟩ : Addr).add j = ⟨g, j, none⟩ := fun j => by unfold Addr.add; split <;> simp_all
    rw [hadd]
    match j, hy with
    | 0, hy => simp at hy; subst hy; exact h0
    | 1, hy => simp at hy; subst hy; exact h1
  · intro v' w' ho' hg' _
    refine h v' w' ?_ hg'
    unfold OwnP
    rw [List.length_append, ← hmap]
    exact ho'
theorem over_grownP {V w w' : World} {v : Value} {l : List (Int × Int)} {base : Nat} (h : Over V w) (ho : OwnP w base v l) (hb : V.heap.size ≤ base) (hg : w.grownBy w' v.ownBlock) : Over V w' :=
  Below.grown h hg h.size (fun k hk => Nat.le_trans hb (World.ownsRow.lt ho k hk).1)
/-- the prefixes of a table, one for each entry -/
def pfx (L : List Ent) : List (Int × Int) := L.map fun E => (E.a, E.n)
theorem pfx_len (L : List Ent) : (pfx L).length = L.length := by simp [pfx]
theorem pfx_get (L : List Ent) (k : Nat) : (pfx L).getD k (0, 0) = ((L.getD k e0).a, (L.getD k e0).n) := by
  simp only [pfx, List.getD_eq_getElem?_getD, List.getElem?_map]
  cases L[k]? <;> simp [e0]
/-- the first k of a list without those that are the same as the one ahead -/
def kp (l : List (Int × Int)) : Nat → List (Int × Int)
  | 0 => []
  | k + 1 => if k = 0 ∨ l.getD (k - 1) (0, 0) ≠ l.getD k (0, 0) then kp l k ++ [l.getD k (0, 0)] else kp l k
theorem kp_len (l : List (Int × Int)) : ∀ k, (kp l k).length ≤ k
  | 0 => Nat.le_refl _
  | k + 1 => by
    have := kp_len l k
    unfold kp
    split <;> simp <;> omega
theorem kp_first (l : List (Int × Int)) : kp l 1 = [l.getD 0 (0, 0)] := by simp [kp]
theorem kp_new {l : List (Int × Int)} {k : Nat} (h : l.getD k (0, 0) ≠ l.getD (k + 1) (0, 0)) : kp l (k + 1 + 1) = kp l (k + 1) ++ [l.getD (k + 1) (0, 0)] := by
  rw [kp]
  simp only [Nat.add_sub_cancel]
  rw [if_pos (.inr h)]
theorem kp_old {l : List (Int × Int)} {k : Nat} (h : l.getD k (0, 0) = l.getD (k + 1) (0, 0)) : kp l (k + 1 + 1) = kp l (k + 1) := by
  rw [kp]
  simp only [Nat.add_sub_cancel]
  rw [if_neg (by rintro (h1 | h1); omega; exact h1 h)]
end Go.Proofs.YtaiffofmhfflkaaGreat
