/-
  Contracts of Covers, Inside and PrefixCmp of the program and of the model. Conditions: those in each contract.
-/
import Derived.Test.YtbcmoofpgffbhaaW1
namespace Go.Proofs.Ytbcmoofpgffbhaa
open Go.ChangeShapes Go.WideShapes Go.ChangeAt Go.RowKit Go.BigFrame
set_option linter.unusedVariables false
set_option maxRecDepth 100000

def covB (a n x : Int) : Bool := pokB a n && addrB x && (hd x n == a)
theorem ipok_t {a n : Int} {b : Bool} (w : World) (h : Hid (pokB a n = b)) : Calls Try.prog 136 #[.agg #[.int .i64 a, .int .i64 n]] w fun e w' => e = .returned (.bool b) ∧ Below w.heap.size w w' :=
  h.out ▸ ipok_any a n w
theorem spok_t {a n : Int} {b : Bool} (w : World) (h : Hid (pokB a n = b)) : Calls Try.prog 134 #[.agg #[.int .i64 a, .int .i64 n]] w fun e w' => e = .returned (.bool b) ∧ Below w.heap.size w w' :=
  h.out ▸ spok_any a n w
theorem wp_region_class {P : Program} {C : World → Prop} {id : Nat} {Q : Exit → Act → World → Prop} {a : Act} {w : World} {l : List Oper} (hm : P.follows .mixedOrders = true) (hB : Region.lexB .any l.toArray = true) (hC : C w.drew)
    (h : wpQuiet P l.toArray C (fun a' => ∀ w', C w' → Q .normal a' w') l a) : (Code.region id l.toArray true).wp P Q a w :=
  wp_region_quiet hm hB hC (by simpa using h)
/-- a world in which all that was there in V is as it was -/
def Over (V w : World) : Prop := Below V.heap.size V w
theorem over_drew (V : World) : Over V V.drew := (Below.refl _ _).drew
theorem over_step {V w w1 : World} (h : Over V w) (hb : Below w.heap.size w w1) : Over V w1 := below_step h hb
theorem over_cell {V w : World} {b o : Nat} {v : Value} (h : Over V w) (hl : b < V.heap.size) (hc : V.cell? ⟨b, o, none⟩ = some v) : w.cell? ⟨b, o, none⟩ = some v := cell_keep h hl hc
theorem over_below {V w : World} (h : Over V w) : Below V.heap.size V w := h
/-- the cells of a struct of two fields in a new block -/
theorem box2 (w : World) (u v : Value) (T : TypeId) : (w.alloc (.cells #[u, v] T)).cell? ⟨w.heap.size, 0, none⟩ = some u ∧ (w.alloc (.cells #[u, v] T)).cell? ⟨w.heap.size, 1, none⟩ = some v ∧ w.heap.size < (w.alloc (.cells #[u, v] T)).heap.size ∧ Below w.heap.size w (w.alloc (.cells #[u, v] T)) :=
  ⟨by simp, by simp, by simp, (Below.refl _ _).alloc (Nat.le_refl _) _⟩

def insB (a n b m : Int) : Bool := pokB a n && pokB b m && decide (m ≤ n) && (hd a m == b)
end Go.Proofs.Ytbcmoofpgffbhaa
