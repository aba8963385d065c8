/-
  Contracts of Covers, Inside and PrefixCmp of the program and of the model. Conditions: those in each contract.
-/
import Derived.Test.YtaiffofmhfflkaaGreatW1
namespace Go.Proofs.YtaiffofmhfflkaaGreat
open Go.ChangeShapes Go.WideShapes Go.ChangeAt Go.RowKit Go.BigFrame
set_option linter.unusedVariables false
set_option maxRecDepth 100000

def covB (a n x : Int) : Bool := pokB a n && addrB x && (hd x n == a)
theorem ipok_t {a n : Int} {b : Bool} (w : World) (h : Hid (pokB a n = b)) : Calls Tryz.prog 177 #[.agg #[.int .i64 a, .int .i64 n]] w fun e w' => e = .returned (.bool b) ∧ Below w.heap.size w w' :=
  h.out ▸ ipok_any a n w
theorem spok_t {a n : Int} {b : Bool} (w : World) (h : Hid (pokB a n = b)) : Calls Tryz.prog 157 #[.agg #[.int .i64 a, .int .i64 n]] w fun e w' => e = .returned (.bool b) ∧ Below w.heap.size w w' :=
  h.out ▸ spok_any a n w
theorem wp_region_class {P : Program} {C : World → Prop} {id : Nat} {Q : Exit → Act → World → Prop} {a : Act} {w : World} {l : List Oper} (hm : P.follows .mixedOrders = true) (hB : Region.lexB .any l.toArray = true) (hC : C w.drew)
    (h : wpQuiet P l.toArray C (fun a' => ∀ w', C w' → Q .normal a' w') l a) : (Code.region id l.toArray true).wp P Q a w :=
  wp_region_quiet hm hB hC (by simpa using h)
/-- a world in which all that was there in V is as it was -/
def Over (V w : World) : Prop := Below V.heap.size V w
theorem over_drew (V : World) : Over V V.drew := (Below.refl _ _).drew
theorem over_step {V w w1 : World} (h : Over V w) (hb : Below w.heap.size w w1) : Over V w1 := below_step h hb
theorem over_cell {V w : World} {b o : Nat} {v : Value} (h : Over V w) (hl : b < V.heap.size) (hc : V.cell? ⟨b, o, none⟩ = some v) : w.cell? ⟨b, o, none⟩ = some v := cell_keep h hl hc
theorem over_below {V w : World} (h : Over V w) : Below V.heap.size V w := h
/-- the cells of a struct of two fields in a new block -/
theorem box2 (w : World) (u v : Value) (T : TypeId) : (w.alloc (.cells #[u, v] T)).cell? ⟨w.heap.size, 0, none⟩ = some u ∧ (w.alloc (.cells #[u, v] T)).cell? ⟨w.heap.size, 1, none⟩ = some v ∧ w.heap.size < (w.alloc (.cells #[u, v] T)).heap.size ∧ Below w.heap.size w (w.alloc (.cells #[u, v] T)) :=
  ⟨by simp, by simp, by simp, (Below.refl _ _).alloc (Nat.le_refl _) _⟩

theorem icov_any (a n x : Int) (w : World) : Calls Tryz.prog 142 #[.agg #[.int .i64 a, .int .i64 n], .int .i64 x] w fun e w' => e = .returned (.bool (covB a n x)) ∧ Below w.heap.size w w' := by
  cases hp : pokB a n
  · have e : covB a n x = false := by simp [covB, hp]
    rw [e]
    clear e
    have H1 := Lib.hid hp
    clear hp
    go_enter Tryz.func142, Tryz.ntmps142
    go_wp2_with fail
    obtain ⟨c0, c1, lt, B0⟩ := box2 w (.int .i64 a) (.int .i64 n) 118
    refine wp_region_class (C := Over (w.alloc (.cells #[.int .i64 a, .int .i64 n] 118))) (by kernel_rfl) (by kernel_rfl) (over_drew _) ?_
    repeat (first | go_big_quiet_skip | (go_big_quiet_want; go_big_quiet_op; go_big_quiet_on) | (go_big_quiet_want; go_big_quiet_op; apply Exists.intro; refine ⟨fun w' hC => ?_, ?_⟩; ((first | (go_at_call 177; refine (ipok_t _ H1).mono ?_; rintro e w1 ⟨rfl, hb1⟩; exact ⟨rfl, over_step hC hb1⟩))); go_big_quiet_on) | (go_big_quiet_want; apply Exists.intro; refine ⟨fun w' hC => ?_, ?_⟩; (have k0 := over_cell hC lt c0; have k1 := over_cell hC lt c1; simp [Oper.quietAt, Oper.quietUpon, go_sem, k0, k1]; first | done | rfl); go_big_quiet_on; simp only [Act.put, List.setIfInBounds_toArray, List.set_cons_zero, List.set_cons_succ]))
    refine wpQuiet_nil ?_
    intro wr hC
    have k0 := over_cell hC lt c0
    have k1 := over_cell hC lt c1
    go_wp2
    go_ret
    exact ⟨rfl, below_step B0 (over_below hC)⟩
  · cases hx : addrB x
    · have e : covB a n x = false := by simp [covB, hx]
      rw [e]
      clear e
      have H1 := Lib.hid hp
      have H2 := Lib.hid hx
      clear hp hx
      go_enter Tryz.func142, Tryz.ntmps142
      go_wp2_with fail
      obtain ⟨c0, c1, lt, B0⟩ := box2 w (.int .i64 a) (.int .i64 n) 118
      refine wp_region_class (C := Over (w.alloc (.cells #[.int .i64 a, .int .i64 n] 118))) (by kernel_rfl) (by kernel_rfl) (over_drew _) ?_
      repeat (first | go_big_quiet_skip | (go_big_quiet_want; go_big_quiet_op; go_big_quiet_on) | (go_big_quiet_want; go_big_quiet_op; apply Exists.intro; refine ⟨fun w' hC => ?_, ?_⟩; ((first | (go_at_call 177; refine (ipok_t _ H1).mono ?_; rintro e w1 ⟨rfl, hb1⟩; exact ⟨rfl, over_step hC hb1⟩) | (go_at_call 190; refine (iaddr_t _ H2).mono ?_; rintro e w1 ⟨rfl, rfl⟩; exact ⟨rfl, hC⟩))); go_big_quiet_on) | (go_big_quiet_want; apply Exists.intro; refine ⟨fun w' hC => ?_, ?_⟩; (have k0 := over_cell hC lt c0; have k1 := over_cell hC lt c1; simp [Oper.quietAt, Oper.quietUpon, go_sem, k0, k1]; first | done | rfl); go_big_quiet_on; simp only [Act.put, List.setIfInBounds_toArray, List.set_cons_zero, List.set_cons_succ]))
      refine wpQuiet_nil ?_
      intro wr hC
      have k0 := over_cell hC lt c0
      have k1 := over_cell hC lt c1
      go_wp2
      go_ret
      exact ⟨rfl, below_step B0 (over_below hC)⟩
    · obtain ⟨_, _, hn0, hn1, _⟩ := pok_of hp
      obtain ⟨hx0, hx1⟩ := addr_of hx
      have e : covB a n x = (hd x n == a) := by simp [covB, hx, hp]
      rw [e]
      clear e
      have H1 := Lib.hid hp
      have H2 := Lib.hid hx
      clear hp hx
      go_enter Tryz.func142, Tryz.ntmps142
      go_wp2_with fail
      obtain ⟨c0, c1, lt, B0⟩ := box2 w (.int .i64 a) (.int .i64 n) 118
      refine wp_region_class (C := Over (w.alloc (.cells #[.int .i64 a, .int .i64 n] 118))) (by kernel_rfl) (by kernel_rfl) (over_drew _) ?_
      repeat (first | go_big_quiet_skip | (go_big_quiet_want; go_big_quiet_op; go_big_quiet_on) | (go_big_quiet_want; go_big_quiet_op; apply Exists.intro; refine ⟨fun w' hC => ?_, ?_⟩; ((first | (go_at_call 177; refine (ipok_t _ H1).mono ?_; rintro e w1 ⟨rfl, hb1⟩; exact ⟨rfl, over_step hC hb1⟩) | (go_at_call 190; refine (iaddr_t _ H2).mono ?_; rintro e w1 ⟨rfl, rfl⟩; exact ⟨rfl, hC⟩) | (go_at_call 191; refine (head_any x n _ hx0 hx1 hn0 hn1).mono ?_; rintro e w1 ⟨rfl, rfl⟩; exact ⟨rfl, hC⟩))); go_big_quiet_on) | (go_big_quiet_want; apply Exists.intro; refine ⟨fun w' hC => ?_, ?_⟩; (have k0 := over_cell hC lt c0; have k1 := over_cell hC lt c1; simp [Oper.quietAt, Oper.quietUpon, go_sem, k0, k1]; first | done | rfl); go_big_quiet_on; simp only [Act.put, List.setIfInBounds_toArray, List.set_cons_zero, List.set_cons_succ]))
      refine wpQuiet_nil ?_
      intro wr hC
      have k0 := over_cell hC lt c0
      have k1 := over_cell hC lt c1
      go_wp2
      go_ret
      exact ⟨rfl, below_step B0 (over_below hC)⟩

theorem slc_any (a n x : Int) (w : World) (hn0 : 0 ≤ n) (hn1 : n ≤ 16) (hx0 : 0 ≤ x) (hx1 : x ≤ 65535) : Calls Tryz.prog 89 #[.agg #[.int .i64 a, .int .i64 n], .int .i64 x] w fun e w' => e = .returned (.bool (hd x n == a)) ∧ Below w.heap.size w w' := by
  rw [← and_mask x n hx0 hx1 hn0 hn1]
  go_enter Tryz.func89, Tryz.ntmps89
  go_wp2_with fail
  obtain ⟨c0, c1, lt, B0⟩ := box2 w (.int .i64 a) (.int .i64 n) 118
  refine wp_region_class (C := Over (w.alloc (.cells #[.int .i64 a, .int .i64 n] 118))) (by kernel_rfl) (by kernel_rfl) (over_drew _) ?_
  repeat (first | go_big_quiet_skip | (go_big_quiet_want; go_big_quiet_op; go_big_quiet_on) | (go_big_quiet_want; go_big_quiet_op; apply Exists.intro; refine ⟨fun w' hC => ?_, ?_⟩; ((first | (go_at_call 141; refine (mask_any n _ hn0 hn1).mono ?_; rintro e w1 ⟨rfl, rfl⟩; exact ⟨rfl, hC⟩))); go_big_quiet_on) | (go_big_quiet_want; apply Exists.intro; refine ⟨fun w' hC => ?_, ?_⟩; (have k0 := over_cell hC lt c0; have k1 := over_cell hC lt c1; simp [Oper.quietAt, Oper.quietUpon, go_sem, k0, k1]; first | done | rfl); go_big_quiet_on; simp only [Act.put, List.setIfInBounds_toArray, List.set_cons_zero, List.set_cons_succ]))
  refine wpQuiet_nil ?_
  intro wr hC
  have k0 := over_cell hC lt c0
  have k1 := over_cell hC lt c1
  go_wp2
  go_ret
  exact ⟨rfl, below_step B0 (over_below hC)⟩
def insB (a n b m : Int) : Bool := pokB a n && pokB b m && decide (m ≤ n) && (hd a m == b)
end Go.Proofs.YtaiffofmhfflkaaGreat
