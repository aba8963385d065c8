/-
  Greet of the model: words. Conditions: those in each contract.
-/
import Derived.Test.YtcmbajphholliabDoorZ8
import Derived.Test.YtcmbajphholliabDoorS17
namespace Go.Proofs.YtcmbajphholliabDoor
open Go.ChangeShapes Go.WideShapes Go.ChangeAt Go.RowKit Go.BigFrame Go.Joins
set_option linter.unusedVariables false
set_option maxRecDepth 100000
set_option linter.unusedSimpArgs false

theorem Row.cap1e {w : World} {base : Nat} {v : Value} {m : Bm} (h : Row w base v [m]) : ∃ g o c, v = .slice (some ⟨g, o, none⟩) 1 c ∧ 1 ≤ c ∧ g < w.heap.size ∧ ∀ j x, m.cells[j]? = some x → w.cell? ⟨g, o + j, none⟩ = some x := by
  rcases h with ⟨-, h⟩ | ⟨g, o, c, rfl, c1, c2, c3, c4, c5, c6, c7⟩
  · cases h
  · exact ⟨g, o, c, rfl, by simpa using c1, c4, fun j x hj => c5 j x (by simpa [flatM] using hj)⟩
theorem Row.cap2e {w : World} {base : Nat} {v : Value} {m m2 : Bm} (h : Row w base v [m, m2]) : ∃ g o c, v = .slice (some ⟨g, o, none⟩) 2 c ∧ 2 ≤ c ∧ g < w.heap.size ∧ ∀ j x, m.cells[j]? = some x → w.cell? ⟨g, o + j, none⟩ = some x := by
  rcases h with ⟨-, h⟩ | ⟨g, o, c, rfl, c1, c2, c3, c4, c5, c6, c7⟩
  · cases h
  · refine ⟨g, o, c, rfl, by simpa using c1, c4, fun j x hj => c5 j x ?_⟩
    have e : flatM [m, m2] = m.cells ++ m2.cells := by simp [flatM]
    rw [e, List.getElem?_append_left (List.getElem?_eq_some_iff.1 hj).1]
    exact hj
theorem Row.cap0e {w : World} {base : Nat} {v : Value} (h : Row w base v []) : ∃ a c, v = .slice a 0 c := by
  obtain ⟨a, c, h⟩ := h.cap
  exact ⟨a, c, h⟩
theorem run_appRn {w : World} (ty : TypeId) (base : Nat) (v : Value) (l : List Bm) (hown : Row w base v l) (xa : Option Addr) (xc : Nat) :
    (Builtin.append_ #[44, 44] ty #[v, .slice xa 0 xc]).run Tryd.prog w = .ok v w := by
  obtain ⟨i0, hi, hz0, hz1, hz2⟩ := info_parts infoG
  have ht := Tryd.underlying44
  rcases hown with ⟨rfl, rfl⟩ | ⟨g0, o, cap, rfl, c1, c2, -⟩
  · cases xa <;> simp [Builtin.append_, run_underlying ht, sizeOf, typeInfo, hi, Builtin.lenOf, Builtin.firstCells, loadCells, loadCellsFrom]
  · cases xa <;> simp [Builtin.append_, run_underlying ht, sizeOf, typeInfo, hi, Builtin.lenOf, Builtin.firstCells, loadCells, loadCellsFrom, c1, storeCells]
/-- append(s, t...): t holds one message at the most -/
theorem wp_appT {ops : Array Oper} {rest : List Oper} {o : Oper} {a : Act} {Q : Exit → Act → World → Prop} {w : World} (hgd : o.guard = none) (s x : Operand)
    (ho : o.op = .call { callee := .builtin .append, args := #[s, x], argTypes := #[44, 44] })
    (base b2 : Nat) (v u : Value) (l l2 : List Bm) (hs : a.eval s = v) (hx : a.eval x = u) (hown : Row w base v l) (hu : Row w b2 u l2) (hl2 : l2.length ≤ 1) (hlen : l.length ≤ 1000) (hbase : base ≤ w.heap.size)
    (h : ∀ v' w', Row w' base v' (l ++ l2) → w.grownBy w' v.ownBlock → (v'.ownBlock = v.ownBlock ∨ ∀ k, v'.ownBlock = some k → w.heap.size ≤ k) → wpList Tryd.prog ops Q rest (a.put o.dst v') w') : wpList Tryd.prog ops Q (o :: rest) a w := by
  refine wpList_plain hgd fun K hK => ?_
  match l2, hl2 with
  | [], _ =>
    obtain ⟨xa, xc, rfl⟩ := Row.cap0e hu
    have hr := run_appRn o.type base v l hown xa xc
    unfold Oper.wp execOp
    simp only [ho, resolve, invoke, builtin, Sem.run_bind, Sem.run_pure, Result.andThen_ok, List.map_toArray, List.map_cons, List.map_nil, hs, hx, hr]
    exact hK _ _ (h v w (by rw [List.append_nil]; exact hown) (World.grownBy.refl w _) (.inl rfl))
  | [m], _ =>
    obtain ⟨g, o2, c, rfl, -, -, hc⟩ := Row.cap1e hu
    obtain ⟨v', w', hr, h2, h3, h5⟩ := run_appR o.type base g o2 c v l m hown hc (by omega) hbase
    unfold Oper.wp execOp
    simp only [ho, resolve, invoke, builtin, Sem.run_bind, Sem.run_pure, Result.andThen_ok, List.map_toArray, List.map_cons, List.map_nil, hs, hx, hr]
    exact hK _ _ (h v' w' h2 h3 h5)
section
variable {w0 w w1 : World} {base X F : Nat} {xs fs : Value → List Value} {va ra : Option Addr} {vn vc rn rc : Nat} {l k : List Bm}
theorem grown_set5 (w1 : World) (X : Nat) (y0 y1 y2 y3 y4 : Value) : w1.grownBy (((((w1.setCell ⟨X, 0, none⟩ (y0)).setCell ⟨X, 1, none⟩ (y1)).setCell ⟨X, 2, none⟩ (y2)).setCell ⟨X, 3, none⟩ (y3)).setCell ⟨X, 4, none⟩ (y4)) (some X) :=
  grown_trans (grown_trans (grown_trans (grown_trans (grown_set w1 X 0 y0) (grown_set _ X 1 y1)) (grown_set _ X 2 y2)) (grown_set _ X 3 y3)) (grown_set _ X 4 y4)
/-- a call makes new blocks, and its answer is stored in X -/
theorem GS.put {x0 x1 x2 x3 x4 : Value} (H : GS w0 w base X F (fun _ => [x0, x1, x2, x3, x4]) fs va ra vn vc rn rc l k) (hb : Below w.heap.size w w1) (y0 y1 y2 y3 y4 : Value) :
    GS w0 (((((w1.setCell ⟨X, 0, none⟩ (y0)).setCell ⟨X, 1, none⟩ (y1)).setCell ⟨X, 2, none⟩ (y2)).setCell ⟨X, 3, none⟩ (y3)).setCell ⟨X, 4, none⟩ (y4)) base X F (fun _ => [y0, y1, y2, y3, y4]) fs va ra vn vc rn rc l k := by
  have H1 := H.below hb
  have g := grown_set5 w1 X y0 y1 y2 y3 y4
  exact H1.hear (xs' := fun _ => [y0, y1, y2, y3, y4]) (H1.bX.set5 y0 y1 y2 y3 y4) ⟨H1.sX.r.grown g H1.sX.x, Gr.of g _, .inl (own_slice _ _ _)⟩ H1.sX.n
/-- what X has sent is another row now -/
theorem GS.app {xc : List Value} (H : GS w0 w base X F (fun _ => xc) fs va ra vn vc rn rc l k) {a' : Option Addr} {n' c' : Nat} {l' : List Bm} (R : Row w1 base (.slice a' n' c') l') (g : w.grownBy w1 (Value.slice va vn vc).ownBlock) (ow : (Value.slice a' n' c').ownBlock = (Value.slice va vn vc).ownBlock ∨ ∀ j, (Value.slice a' n' c').ownBlock = some j → w.heap.size ≤ j) (hl : l'.length ≤ 1000) :
    GS w0 w1 base X F (fun _ => xc) fs a' ra n' c' rn rc l' k := by
  rw [own_slice va] at g ow
  refine H.hear (xs' := fun _ => xc) (H.bX.grown g (fun e => ?_)) ⟨R, Gr.own g X, ow⟩ hl
  have := (own_row H.sX.r X e.symm).1
  have := H.sX.x
  omega
/-- the first of what F has sent is cut off -/
theorem GS.drop {fc : List Value} {m : Bm} (H : GS w0 w base X F xs (fun _ => fc) va ra vn vc rn rc l (m :: k)) {ra' : Option Addr} {rn' rc' : Nat} (hv : Row w base (.slice ra' rn' rc') k) (hr : rowOf ra' = rowOf ra) :
    GS w0 w base X F xs (fun _ => fc) va ra' vn vc rn' rc' l k :=
  ⟨H.bX, H.bF, H.sX, ⟨H.sF.x, H.sF.b, hv, by have := H.sF.n; simp at this; omega⟩, H.ne, fun j hj => by rw [hr]; exact H.ap j hj, H.kp, H.lX, H.lF⟩
/-- a call makes new blocks, its answer is stored in X, its messages are what X has sent -/
theorem GS.link {x0 x1 x2 x3 x4 : Value} (H : GS w0 w base X F (fun _ => [x0, x1, x2, x3, x4]) fs none ra 0 0 rn rc [] k) (hb : Below w.heap.size w w1) {a' : Option Addr} {n' c' : Nat} {l' : List Bm} (o : OwnG w1 w.heap.size (.slice a' n' c') l') (hl : l'.length ≤ 1000) (y0 y1 y2 y3 y4 : Value) :
    GS w0 (((((w1.setCell ⟨X, 0, none⟩ (y0)).setCell ⟨X, 1, none⟩ (y1)).setCell ⟨X, 2, none⟩ (y2)).setCell ⟨X, 3, none⟩ (y3)).setCell ⟨X, 4, none⟩ (y4)) base X F (fun _ => [y0, y1, y2, y3, y4]) fs a' ra n' c' rn rc l' k := by
  have g := grown_set5 w1 X y0 y1 y2 y3 y4
  have hx := H.sX.x
  refine H.hear (xs' := fun _ => [y0, y1, y2, y3, y4]) ((H.bX.keep hb).set5 y0 y1 y2 y3 y4) ⟨((Row.of o).mono H.sX.b).grown g hx, (Gr.of (grown_below hb (some X)) _).trans (Gr.of g _) (.inl rfl), .inr fun j hj => ((Row.of o).lt j hj).1⟩ hl
end
theorem first_ok (xa xi xh oa oh : Int) (acc : Bool) (R : St) (hR : R = stepF xa xi xh 2 xh 0 0 0 4 0 1 oa oh acc) (hx : 3 ≤ xh ∧ xh ≤ 255) (ho : 3 ≤ oh ∧ oh ≤ 255) : (0 ≤ R.a ∧ R.a ≤ 4) ∧ (2 ≤ R.a → 3 ≤ R.b ∧ R.b ≤ 255 ∧ 0 ≤ R.c ∧ R.c < R.b) ∧ (3 ≤ R.a → 1 ≤ R.d ∧ R.d ≤ 255) := by
  subst hR
  cases acc
  · simp [stepF, fallF]
  · by_cases h : xh ≤ oh
    · simp [stepF, fallF, h]
      omega
    · simp [stepF, fallF, h]
      omega
end Go.Proofs.YtcmbajphholliabDoor
