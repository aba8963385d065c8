/-
  Two slices of bytes that read the same: the laws' word on it. Conditions: those in the statement.
-/
import Derived.Test.YtichmbbpjkikaaaDoorE5
namespace Go.Proofs.YtichmbbpjkikaaaDoor
open Go.ChangeShapes Go.WideShapes Go.ChangeAt Go.RowKit Go.BigFrame
set_option linter.unusedVariables false
set_option maxRecDepth 100000
set_option linter.unusedSimpArgs false

theorem same_any (v u : Value) (l : List Int) (w : World) (h1 : Rd w v l) (h2 : Rd w u l) :
    Calls Tryd.prog 18 #[v, u] w fun e w' => e = .returned (.bool true) ∧ Below w.heap.size w w' := by
  obtain ⟨a1, c1, rfl⟩ := h1.len
  obtain ⟨a2, c2, rfl⟩ := h2.len
  have k1 := conv_rd h1
  have k2 := conv_rd h2
  go_enter Tryd.func18, Tryd.ntmps18
  go_wp2
  go_ret
  exact ⟨rfl, Below.refl _ _⟩
theorem same_t {v u : Value} {l : List Int} (w : World) (h1 : Rd w v l) (h2 : Rd w u l) : Calls Tryd.prog 18 #[v, u] w fun e w' => e = .returned (.bool true) ∧ Below w.heap.size w w' := same_any v u l w h1 h2
theorem heldX {V w : World} {A B : Nat} {u0 u1 v0 v1 : Value} (lA : A < V.heap.size) (a0 : V.cell? ⟨A, 0, none⟩ = some u0) (a1 : V.cell? ⟨A, 1, none⟩ = some u1) (lB : B < V.heap.size) (b0 : V.cell? ⟨B, 0, none⟩ = some v0) (b1 : V.cell? ⟨B, 1, none⟩ = some v1) (h : Over V w) :
    Over V w ∧ w.cell? ⟨A, 0, none⟩ = some u0 ∧ w.cell? ⟨A, 1, none⟩ = some u1 ∧ w.cell? ⟨B, 0, none⟩ = some v0 ∧ w.cell? ⟨B, 1, none⟩ = some v1 := ⟨h, over_cell h lA a0, over_cell h lA a1, over_cell h lB b0, over_cell h lB b1⟩
theorem Rd.cut {w : World} {a : Option Addr} {c : Nat} {ys : List Int} (h : Rd w (.slice a ys.length c) ys) (k m : Nat) (hk : k < m) (hm : m ≤ ys.length) : ∃ b o, a = some ⟨b, o, none⟩ ∧ ∀ cc, Rd w (.slice (some ⟨b, o + k, none⟩) (m - k) cc) ((ys.take m).drop k) := by
  obtain ⟨b, o, rfl, hc⟩ := h.bytesIn (by omega)
  refine ⟨b, o, rfl, fun cc => ⟨fun x hx => h.1 x (List.mem_of_mem_take (List.mem_of_mem_drop hx)), Nat.le_trans (by rw [List.length_drop, List.length_take]; omega) h.2.1, .inr ⟨b, o + k, cc, ?_, ?_, fun i hi => ?_⟩⟩⟩
  · rw [List.length_drop, List.length_take, Nat.min_eq_left hm]
  · rw [List.length_drop, List.length_take]; omega
  · rw [List.length_drop, List.length_take, Nat.min_eq_left hm] at hi
    rw [Nat.add_assoc, hc (k + i) (by omega)]
    congr 2
    simp [List.getD, List.getElem?_drop, List.getElem?_take, show k + i < m by omega]
end Go.Proofs.YtichmbbpjkikaaaDoor
