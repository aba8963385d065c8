/-
  The reactions of the program's machine, as a map. Conditions: those in each contract.
-/
import Derived.Test.YtcmbajphholliabDoorS13
import Derived.WideMake
namespace Go.Proofs.YtcmbajphholliabDoor
open Go.ChangeShapes Go.WideShapes Go.ChangeAt Go.RowKit Go.BigFrame Go.Joins
set_option linter.unusedVariables false
set_option maxRecDepth 100000
set_option linter.unusedSimpArgs false

theorem checkK (k : Int) (b : Bool) (w : World) : (Instr.checkKey b 10000 3 (.int .i64 k)).run Tryd.prog w = .ok () w := MapKept.run_checkKey (k := .int .i64 k) Tryd.underlying3 (by simp [MapKept.IsKey]) b 9999
theorem push_set (a : Array Obj) (x y : Obj) : (a.push x).setIfInBounds a.size y = a.push y := by
  apply Array.ext
  · simp
  · intro i h1 h2
    rw [Array.getElem_setIfInBounds (by simpa using h1)]
    by_cases h : a.size = i
    · subst h
      simp
    · rw [if_neg h, Array.getElem_push, Array.getElem_push]
      have : i < a.size := by
        simp at h2
        omega
      simp [this]
/-- a new key in a map that is the newest block -/
theorem upd_new (es : Array MapEntry) (c : Nat) (k : Int) (x : Value) (w : World) (hf : Instr.findNow (.int .i64) (.int .i64 k) es.toList 0 = some none) :
    (Instr.mapUpdate 100 (.map (some w.heap.size)) (.int .i64 k) x).run Tryd.prog (w.alloc (.map es c)) = .ok () (w.alloc (.map (es.push ⟨.int .i64 k, x, c⟩) (c + 1))) := by
  have hb : (w.alloc (.map es c)).heap[w.heap.size]? = some (.map es c) := Array.getElem?_push_size
  have e : (w.alloc (.map es c)).heap.setIfInBounds w.heap.size (.map (es.push ⟨.int .i64 k, x, c⟩) (c + 1)) = (w.alloc (.map (es.push ⟨.int .i64 k, x, c⟩) (c + 1))).heap := push_set _ _ _
  simp only [Instr.mapUpdate, Sem.run_bind, run_underlying Tryd.underlying100, Result.andThen_ok, MapKept.run_getObj_map hb, checkK, MapKept.run_findKey Tryd.underlying3 hf, MapKept.run_setObj_map _ hb, e]
  rfl
theorem look_yes (es : Array MapEntry) (c r i : Nat) (k : Int) (x : Value) (w : World) (hb : w.heap[r]? = some (.map es c)) (hf : Instr.findNow (.int .i64) (.int .i64 k) es.toList 0 = some (some (i, x))) :
    (Instr.lookup 100 (.map (some r)) (.int .i64 k) true).run Tryd.prog w = .ok (.tuple #[x, .bool true]) w := by
  simp [Instr.lookup, run_underlying Tryd.underlying100, MapKept.run_getObj_map hb, checkK, MapKept.run_findKey Tryd.underlying3 hf, Result.andThen]
theorem look_no (es : Array MapEntry) (c r : Nat) (k : Int) (w : World) (hb : w.heap[r]? = some (.map es c)) (hf : Instr.findNow (.int .i64) (.int .i64 k) es.toList 0 = some none) :
    (Instr.lookup 100 (.map (some r)) (.int .i64 k) true).run Tryd.prog w = .ok (.tuple #[.nilFunc, .bool false]) w := by
  have hz : (zeroValue 98).run Tryd.prog w = .ok .nilFunc w := by kernel_rfl
  simp [Instr.lookup, run_underlying Tryd.underlying100, MapKept.run_getObj_map hb, checkK, MapKept.run_findKey Tryd.underlying3 hf, hz, Result.andThen]
set_option maxHeartbeats 4000000 in
theorem reac_0 (X : Nat) (xa xi xh xp s1 s2 s3 s4 : Int) (w : World) (hX : Bl w X [.int .i64 xa, .int .i64 xi, .int .i64 xh, .int .i64 xp, .int .i64 0, .int .i64 s1, .int .i64 s2, .int .i64 s3, .int .i64 s4, .slice none 0 0]) :
    Calls Tryd.prog 62 #[.pointer (some ⟨X, 0, none⟩)] w fun e w' => e = .returned (.map (some w.heap.size)) ∧ w'.heap[w.heap.size]? = some (.map #[⟨.int .i64 1, (.func (.func 86) #[.pointer (some ⟨X, 0, none⟩)] #[]), 0⟩, ⟨.int .i64 3, (.func (.func 87) #[.pointer (some ⟨X, 0, none⟩)] #[]), 1⟩, ⟨.int .i64 6, (.func (.func 88) #[.pointer (some ⟨X, 0, none⟩)] #[]), 2⟩, ⟨.int .i64 0, (.func (.func 89) #[.pointer (some ⟨X, 0, none⟩)] #[]), 3⟩] 4) ∧ Below w.heap.size w w' := by
  have hmm := @run_makeMap Tryd.prog
  have hmf : ∀ (fn : Fn) (first cap : Array Value) (w : World), (Instr.makeFunc fn first cap).run Tryd.prog w = .ok (.func fn first cap) w := fun _ _ _ _ => rfl
  have u0 : ∀ (v0 : Value) (w : World), (Instr.mapUpdate 100 (.map (some w.heap.size)) (.int .i64 1) v0).run Tryd.prog (w.alloc (.map #[] 0)) = .ok () (w.alloc (.map #[⟨.int .i64 1, v0, 0⟩] 1)) := fun v0 w => upd_new #[] 0 1 v0 w rfl
  have u1 : ∀ (v0 v1 : Value) (w : World), (Instr.mapUpdate 100 (.map (some w.heap.size)) (.int .i64 3) v1).run Tryd.prog (w.alloc (.map #[⟨.int .i64 1, v0, 0⟩] 1)) = .ok () (w.alloc (.map #[⟨.int .i64 1, v0, 0⟩, ⟨.int .i64 3, v1, 1⟩] 2)) := fun v0 v1 w => upd_new #[⟨.int .i64 1, v0, 0⟩] 1 3 v1 w rfl
  have u2 : ∀ (v0 v1 v2 : Value) (w : World), (Instr.mapUpdate 100 (.map (some w.heap.size)) (.int .i64 6) v2).run Tryd.prog (w.alloc (.map #[⟨.int .i64 1, v0, 0⟩, ⟨.int .i64 3, v1, 1⟩] 2)) = .ok () (w.alloc (.map #[⟨.int .i64 1, v0, 0⟩, ⟨.int .i64 3, v1, 1⟩, ⟨.int .i64 6, v2, 2⟩] 3)) := fun v0 v1 v2 w => upd_new #[⟨.int .i64 1, v0, 0⟩, ⟨.int .i64 3, v1, 1⟩] 2 6 v2 w rfl
  have u3 : ∀ (v0 v1 v2 v3 : Value) (w : World), (Instr.mapUpdate 100 (.map (some w.heap.size)) (.int .i64 0) v3).run Tryd.prog (w.alloc (.map #[⟨.int .i64 1, v0, 0⟩, ⟨.int .i64 3, v1, 1⟩, ⟨.int .i64 6, v2, 2⟩] 3)) = .ok () (w.alloc (.map #[⟨.int .i64 1, v0, 0⟩, ⟨.int .i64 3, v1, 1⟩, ⟨.int .i64 6, v2, 2⟩, ⟨.int .i64 0, v3, 3⟩] 4)) := fun v0 v1 v2 v3 w => upd_new #[⟨.int .i64 1, v0, 0⟩, ⟨.int .i64 3, v1, 1⟩, ⟨.int .i64 6, v2, 2⟩] 3 0 v3 w rfl
  have xq : ∀ o, (w.alloc o).cell? ⟨X, 4, none⟩ = some (.int .i64 0) := fun o => (hX.alloc o).c 4 rfl
  go_enter Tryd.func62, Tryd.ntmps62
  go_wp2
  go_ret
  exact ⟨rfl, Array.getElem?_push_size, (Below.refl _ _).alloc (Nat.le_refl _) _⟩
set_option maxHeartbeats 4000000 in
theorem reac_1 (X : Nat) (xa xi xh xp s1 s2 s3 s4 : Int) (w : World) (hX : Bl w X [.int .i64 xa, .int .i64 xi, .int .i64 xh, .int .i64 xp, .int .i64 1, .int .i64 s1, .int .i64 s2, .int .i64 s3, .int .i64 s4, .slice none 0 0]) :
    Calls Tryd.prog 62 #[.pointer (some ⟨X, 0, none⟩)] w fun e w' => e = .returned (.map (some w.heap.size)) ∧ w'.heap[w.heap.size]? = some (.map #[⟨.int .i64 1, (.func (.func 86) #[.pointer (some ⟨X, 0, none⟩)] #[]), 0⟩, ⟨.int .i64 3, (.func (.func 87) #[.pointer (some ⟨X, 0, none⟩)] #[]), 1⟩, ⟨.int .i64 6, (.func (.func 88) #[.pointer (some ⟨X, 0, none⟩)] #[]), 2⟩, ⟨.int .i64 2, (.func (.func 90) #[.pointer (some ⟨X, 0, none⟩)] #[]), 3⟩] 4) ∧ Below w.heap.size w w' := by
  have hmm := @run_makeMap Tryd.prog
  have hmf : ∀ (fn : Fn) (first cap : Array Value) (w : World), (Instr.makeFunc fn first cap).run Tryd.prog w = .ok (.func fn first cap) w := fun _ _ _ _ => rfl
  have u0 : ∀ (v0 : Value) (w : World), (Instr.mapUpdate 100 (.map (some w.heap.size)) (.int .i64 1) v0).run Tryd.prog (w.alloc (.map #[] 0)) = .ok () (w.alloc (.map #[⟨.int .i64 1, v0, 0⟩] 1)) := fun v0 w => upd_new #[] 0 1 v0 w rfl
  have u1 : ∀ (v0 v1 : Value) (w : World), (Instr.mapUpdate 100 (.map (some w.heap.size)) (.int .i64 3) v1).run Tryd.prog (w.alloc (.map #[⟨.int .i64 1, v0, 0⟩] 1)) = .ok () (w.alloc (.map #[⟨.int .i64 1, v0, 0⟩, ⟨.int .i64 3, v1, 1⟩] 2)) := fun v0 v1 w => upd_new #[⟨.int .i64 1, v0, 0⟩] 1 3 v1 w rfl
  have u2 : ∀ (v0 v1 v2 : Value) (w : World), (Instr.mapUpdate 100 (.map (some w.heap.size)) (.int .i64 6) v2).run Tryd.prog (w.alloc (.map #[⟨.int .i64 1, v0, 0⟩, ⟨.int .i64 3, v1, 1⟩] 2)) = .ok () (w.alloc (.map #[⟨.int .i64 1, v0, 0⟩, ⟨.int .i64 3, v1, 1⟩, ⟨.int .i64 6, v2, 2⟩] 3)) := fun v0 v1 v2 w => upd_new #[⟨.int .i64 1, v0, 0⟩, ⟨.int .i64 3, v1, 1⟩] 2 6 v2 w rfl
  have u3 : ∀ (v0 v1 v2 v3 : Value) (w : World), (Instr.mapUpdate 100 (.map (some w.heap.size)) (.int .i64 2) v3).run Tryd.prog (w.alloc (.map #[⟨.int .i64 1, v0, 0⟩, ⟨.int .i64 3, v1, 1⟩, ⟨.int .i64 6, v2, 2⟩] 3)) = .ok () (w.alloc (.map #[⟨.int .i64 1, v0, 0⟩, ⟨.int .i64 3, v1, 1⟩, ⟨.int .i64 6, v2, 2⟩, ⟨.int .i64 2, v3, 3⟩] 4)) := fun v0 v1 v2 v3 w => upd_new #[⟨.int .i64 1, v0, 0⟩, ⟨.int .i64 3, v1, 1⟩, ⟨.int .i64 6, v2, 2⟩] 3 2 v3 w rfl
  have xq : ∀ o, (w.alloc o).cell? ⟨X, 4, none⟩ = some (.int .i64 1) := fun o => (hX.alloc o).c 4 rfl
  go_enter Tryd.func62, Tryd.ntmps62
  go_wp2
  go_ret
  exact ⟨rfl, Array.getElem?_push_size, (Below.refl _ _).alloc (Nat.le_refl _) _⟩
set_option maxHeartbeats 4000000 in
theorem reac_2 (X : Nat) (xa xi xh xp s1 s2 s3 s4 : Int) (w : World) (hX : Bl w X [.int .i64 xa, .int .i64 xi, .int .i64 xh, .int .i64 xp, .int .i64 2, .int .i64 s1, .int .i64 s2, .int .i64 s3, .int .i64 s4, .slice none 0 0]) :
    Calls Tryd.prog 62 #[.pointer (some ⟨X, 0, none⟩)] w fun e w' => e = .returned (.map (some w.heap.size)) ∧ w'.heap[w.heap.size]? = some (.map #[⟨.int .i64 1, (.func (.func 86) #[.pointer (some ⟨X, 0, none⟩)] #[]), 0⟩, ⟨.int .i64 3, (.func (.func 87) #[.pointer (some ⟨X, 0, none⟩)] #[]), 1⟩, ⟨.int .i64 6, (.func (.func 88) #[.pointer (some ⟨X, 0, none⟩)] #[]), 2⟩, ⟨.int .i64 4, (.func (.func 91) #[.pointer (some ⟨X, 0, none⟩)] #[]), 3⟩, ⟨.int .i64 5, (.func (.func 92) #[.pointer (some ⟨X, 0, none⟩)] #[]), 4⟩] 5) ∧ Below w.heap.size w w' := by
  have hmm := @run_makeMap Tryd.prog
  have hmf : ∀ (fn : Fn) (first cap : Array Value) (w : World), (Instr.makeFunc fn first cap).run Tryd.prog w = .ok (.func fn first cap) w := fun _ _ _ _ => rfl
  have u0 : ∀ (v0 : Value) (w : World), (Instr.mapUpdate 100 (.map (some w.heap.size)) (.int .i64 1) v0).run Tryd.prog (w.alloc (.map #[] 0)) = .ok () (w.alloc (.map #[⟨.int .i64 1, v0, 0⟩] 1)) := fun v0 w => upd_new #[] 0 1 v0 w rfl
  have u1 : ∀ (v0 v1 : Value) (w : World), (Instr.mapUpdate 100 (.map (some w.heap.size)) (.int .i64 3) v1).run Tryd.prog (w.alloc (.map #[⟨.int .i64 1, v0, 0⟩] 1)) = .ok () (w.alloc (.map #[⟨.int .i64 1, v0, 0⟩, ⟨.int .i64 3, v1, 1⟩] 2)) := fun v0 v1 w => upd_new #[⟨.int .i64 1, v0, 0⟩] 1 3 v1 w rfl
  have u2 : ∀ (v0 v1 v2 : Value) (w : World), (Instr.mapUpdate 100 (.map (some w.heap.size)) (.int .i64 6) v2).run Tryd.prog (w.alloc (.map #[⟨.int .i64 1, v0, 0⟩, ⟨.int .i64 3, v1, 1⟩] 2)) = .ok () (w.alloc (.map #[⟨.int .i64 1, v0, 0⟩, ⟨.int .i64 3, v1, 1⟩, ⟨.int .i64 6, v2, 2⟩] 3)) := fun v0 v1 v2 w => upd_new #[⟨.int .i64 1, v0, 0⟩, ⟨.int .i64 3, v1, 1⟩] 2 6 v2 w rfl
  have u3 : ∀ (v0 v1 v2 v3 : Value) (w : World), (Instr.mapUpdate 100 (.map (some w.heap.size)) (.int .i64 4) v3).run Tryd.prog (w.alloc (.map #[⟨.int .i64 1, v0, 0⟩, ⟨.int .i64 3, v1, 1⟩, ⟨.int .i64 6, v2, 2⟩] 3)) = .ok () (w.alloc (.map #[⟨.int .i64 1, v0, 0⟩, ⟨.int .i64 3, v1, 1⟩, ⟨.int .i64 6, v2, 2⟩, ⟨.int .i64 4, v3, 3⟩] 4)) := fun v0 v1 v2 v3 w => upd_new #[⟨.int .i64 1, v0, 0⟩, ⟨.int .i64 3, v1, 1⟩, ⟨.int .i64 6, v2, 2⟩] 3 4 v3 w rfl
  have u4 : ∀ (v0 v1 v2 v3 v4 : Value) (w : World), (Instr.mapUpdate 100 (.map (some w.heap.size)) (.int .i64 5) v4).run Tryd.prog (w.alloc (.map #[⟨.int .i64 1, v0, 0⟩, ⟨.int .i64 3, v1, 1⟩, ⟨.int .i64 6, v2, 2⟩, ⟨.int .i64 4, v3, 3⟩] 4)) = .ok () (w.alloc (.map #[⟨.int .i64 1, v0, 0⟩, ⟨.int .i64 3, v1, 1⟩, ⟨.int .i64 6, v2, 2⟩, ⟨.int .i64 4, v3, 3⟩, ⟨.int .i64 5, v4, 4⟩] 5)) := fun v0 v1 v2 v3 v4 w => upd_new #[⟨.int .i64 1, v0, 0⟩, ⟨.int .i64 3, v1, 1⟩, ⟨.int .i64 6, v2, 2⟩, ⟨.int .i64 4, v3, 3⟩] 4 5 v4 w rfl
  have xq : ∀ o, (w.alloc o).cell? ⟨X, 4, none⟩ = some (.int .i64 2) := fun o => (hX.alloc o).c 4 rfl
  go_enter Tryd.func62, Tryd.ntmps62
  go_wp2
  go_ret
  exact ⟨rfl, Array.getElem?_push_size, (Below.refl _ _).alloc (Nat.le_refl _) _⟩
set_option maxHeartbeats 4000000 in
theorem reac_3 (X : Nat) (xa xi xh xp s1 s2 s3 s4 : Int) (w : World) (hX : Bl w X [.int .i64 xa, .int .i64 xi, .int .i64 xh, .int .i64 xp, .int .i64 3, .int .i64 s1, .int .i64 s2, .int .i64 s3, .int .i64 s4, .slice none 0 0]) :
    Calls Tryd.prog 62 #[.pointer (some ⟨X, 0, none⟩)] w fun e w' => e = .returned (.map (some w.heap.size)) ∧ w'.heap[w.heap.size]? = some (.map #[⟨.int .i64 1, (.func (.func 86) #[.pointer (some ⟨X, 0, none⟩)] #[]), 0⟩, ⟨.int .i64 3, (.func (.func 87) #[.pointer (some ⟨X, 0, none⟩)] #[]), 1⟩, ⟨.int .i64 6, (.func (.func 88) #[.pointer (some ⟨X, 0, none⟩)] #[]), 2⟩, ⟨.int .i64 4, (.func (.func 93) #[.pointer (some ⟨X, 0, none⟩)] #[]), 3⟩, ⟨.int .i64 5, (.func (.func 94) #[.pointer (some ⟨X, 0, none⟩)] #[]), 4⟩] 5) ∧ Below w.heap.size w w' := by
  have hmm := @run_makeMap Tryd.prog
  have hmf : ∀ (fn : Fn) (first cap : Array Value) (w : World), (Instr.makeFunc fn first cap).run Tryd.prog w = .ok (.func fn first cap) w := fun _ _ _ _ => rfl
  have u0 : ∀ (v0 : Value) (w : World), (Instr.mapUpdate 100 (.map (some w.heap.size)) (.int .i64 1) v0).run Tryd.prog (w.alloc (.map #[] 0)) = .ok () (w.alloc (.map #[⟨.int .i64 1, v0, 0⟩] 1)) := fun v0 w => upd_new #[] 0 1 v0 w rfl
  have u1 : ∀ (v0 v1 : Value) (w : World), (Instr.mapUpdate 100 (.map (some w.heap.size)) (.int .i64 3) v1).run Tryd.prog (w.alloc (.map #[⟨.int .i64 1, v0, 0⟩] 1)) = .ok () (w.alloc (.map #[⟨.int .i64 1, v0, 0⟩, ⟨.int .i64 3, v1, 1⟩] 2)) := fun v0 v1 w => upd_new #[⟨.int .i64 1, v0, 0⟩] 1 3 v1 w rfl
  have u2 : ∀ (v0 v1 v2 : Value) (w : World), (Instr.mapUpdate 100 (.map (some w.heap.size)) (.int .i64 6) v2).run Tryd.prog (w.alloc (.map #[⟨.int .i64 1, v0, 0⟩, ⟨.int .i64 3, v1, 1⟩] 2)) = .ok () (w.alloc (.map #[⟨.int .i64 1, v0, 0⟩, ⟨.int .i64 3, v1, 1⟩, ⟨.int .i64 6, v2, 2⟩] 3)) := fun v0 v1 v2 w => upd_new #[⟨.int .i64 1, v0, 0⟩, ⟨.int .i64 3, v1, 1⟩] 2 6 v2 w rfl
  have u3 : ∀ (v0 v1 v2 v3 : Value) (w : World), (Instr.mapUpdate 100 (.map (some w.heap.size)) (.int .i64 4) v3).run Tryd.prog (w.alloc (.map #[⟨.int .i64 1, v0, 0⟩, ⟨.int .i64 3, v1, 1⟩, ⟨.int .i64 6, v2, 2⟩] 3)) = .ok () (w.alloc (.map #[⟨.int .i64 1, v0, 0⟩, ⟨.int .i64 3, v1, 1⟩, ⟨.int .i64 6, v2, 2⟩, ⟨.int .i64 4, v3, 3⟩] 4)) := fun v0 v1 v2 v3 w => upd_new #[⟨.int .i64 1, v0, 0⟩, ⟨.int .i64 3, v1, 1⟩, ⟨.int .i64 6, v2, 2⟩] 3 4 v3 w rfl
  have u4 : ∀ (v0 v1 v2 v3 v4 : Value) (w : World), (Instr.mapUpdate 100 (.map (some w.heap.size)) (.int .i64 5) v4).run Tryd.prog (w.alloc (.map #[⟨.int .i64 1, v0, 0⟩, ⟨.int .i64 3, v1, 1⟩, ⟨.int .i64 6, v2, 2⟩, ⟨.int .i64 4, v3, 3⟩] 4)) = .ok () (w.alloc (.map #[⟨.int .i64 1, v0, 0⟩, ⟨.int .i64 3, v1, 1⟩, ⟨.int .i64 6, v2, 2⟩, ⟨.int .i64 4, v3, 3⟩, ⟨.int .i64 5, v4, 4⟩] 5)) := fun v0 v1 v2 v3 v4 w => upd_new #[⟨.int .i64 1, v0, 0⟩, ⟨.int .i64 3, v1, 1⟩, ⟨.int .i64 6, v2, 2⟩, ⟨.int .i64 4, v3, 3⟩] 4 5 v4 w rfl
  have xq : ∀ o, (w.alloc o).cell? ⟨X, 4, none⟩ = some (.int .i64 3) := fun o => (hX.alloc o).c 4 rfl
  go_enter Tryd.func62, Tryd.ntmps62
  go_wp2
  go_ret
  exact ⟨rfl, Array.getElem?_push_size, (Below.refl _ _).alloc (Nat.le_refl _) _⟩
set_option maxHeartbeats 4000000 in
theorem reac_4 (X : Nat) (xa xi xh xp s1 s2 s3 s4 : Int) (w : World) (hX : Bl w X [.int .i64 xa, .int .i64 xi, .int .i64 xh, .int .i64 xp, .int .i64 4, .int .i64 s1, .int .i64 s2, .int .i64 s3, .int .i64 s4, .slice none 0 0]) :
    Calls Tryd.prog 62 #[.pointer (some ⟨X, 0, none⟩)] w fun e w' => e = .returned (.map (some w.heap.size)) ∧ w'.heap[w.heap.size]? = some (.map #[⟨.int .i64 1, (.func (.func 86) #[.pointer (some ⟨X, 0, none⟩)] #[]), 0⟩, ⟨.int .i64 3, (.func (.func 87) #[.pointer (some ⟨X, 0, none⟩)] #[]), 1⟩, ⟨.int .i64 6, (.func (.func 88) #[.pointer (some ⟨X, 0, none⟩)] #[]), 2⟩, ⟨.int .i64 4, (.func (.func 95) #[.pointer (some ⟨X, 0, none⟩)] #[]), 3⟩, ⟨.int .i64 5, (.func (.func 94) #[.pointer (some ⟨X, 0, none⟩)] #[]), 4⟩] 5) ∧ Below w.heap.size w w' := by
  have hmm := @run_makeMap Tryd.prog
  have hmf : ∀ (fn : Fn) (first cap : Array Value) (w : World), (Instr.makeFunc fn first cap).run Tryd.prog w = .ok (.func fn first cap) w := fun _ _ _ _ => rfl
  have u0 : ∀ (v0 : Value) (w : World), (Instr.mapUpdate 100 (.map (some w.heap.size)) (.int .i64 1) v0).run Tryd.prog (w.alloc (.map #[] 0)) = .ok () (w.alloc (.map #[⟨.int .i64 1, v0, 0⟩] 1)) := fun v0 w => upd_new #[] 0 1 v0 w rfl
  have u1 : ∀ (v0 v1 : Value) (w : World), (Instr.mapUpdate 100 (.map (some w.heap.size)) (.int .i64 3) v1).run Tryd.prog (w.alloc (.map #[⟨.int .i64 1, v0, 0⟩] 1)) = .ok () (w.alloc (.map #[⟨.int .i64 1, v0, 0⟩, ⟨.int .i64 3, v1, 1⟩] 2)) := fun v0 v1 w => upd_new #[⟨.int .i64 1, v0, 0⟩] 1 3 v1 w rfl
  have u2 : ∀ (v0 v1 v2 : Value) (w : World), (Instr.mapUpdate 100 (.map (some w.heap.size)) (.int .i64 6) v2).run Tryd.prog (w.alloc (.map #[⟨.int .i64 1, v0, 0⟩, ⟨.int .i64 3, v1, 1⟩] 2)) = .ok () (w.alloc (.map #[⟨.int .i64 1, v0, 0⟩, ⟨.int .i64 3, v1, 1⟩, ⟨.int .i64 6, v2, 2⟩] 3)) := fun v0 v1 v2 w => upd_new #[⟨.int .i64 1, v0, 0⟩, ⟨.int .i64 3, v1, 1⟩] 2 6 v2 w rfl
  have u3 : ∀ (v0 v1 v2 v3 : Value) (w : World), (Instr.mapUpdate 100 (.map (some w.heap.size)) (.int .i64 4) v3).run Tryd.prog (w.alloc (.map #[⟨.int .i64 1, v0, 0⟩, ⟨.int .i64 3, v1, 1⟩, ⟨.int .i64 6, v2, 2⟩] 3)) = .ok () (w.alloc (.map #[⟨.int .i64 1, v0, 0⟩, ⟨.int .i64 3, v1, 1⟩, ⟨.int .i64 6, v2, 2⟩, ⟨.int .i64 4, v3, 3⟩] 4)) := fun v0 v1 v2 v3 w => upd_new #[⟨.int .i64 1, v0, 0⟩, ⟨.int .i64 3, v1, 1⟩, ⟨.int .i64 6, v2, 2⟩] 3 4 v3 w rfl
  have u4 : ∀ (v0 v1 v2 v3 v4 : Value) (w : World), (Instr.mapUpdate 100 (.map (some w.heap.size)) (.int .i64 5) v4).run Tryd.prog (w.alloc (.map #[⟨.int .i64 1, v0, 0⟩, ⟨.int .i64 3, v1, 1⟩, ⟨.int .i64 6, v2, 2⟩, ⟨.int .i64 4, v3, 3⟩] 4)) = .ok () (w.alloc (.map #[⟨.int .i64 1, v0, 0⟩, ⟨.int .i64 3, v1, 1⟩, ⟨.int .i64 6, v2, 2⟩, ⟨.int .i64 4, v3, 3⟩, ⟨.int .i64 5, v4, 4⟩] 5)) := fun v0 v1 v2 v3 v4 w => upd_new #[⟨.int .i64 1, v0, 0⟩, ⟨.int .i64 3, v1, 1⟩, ⟨.int .i64 6, v2, 2⟩, ⟨.int .i64 4, v3, 3⟩] 4 5 v4 w rfl
  have xq : ∀ o, (w.alloc o).cell? ⟨X, 4, none⟩ = some (.int .i64 4) := fun o => (hX.alloc o).c 4 rfl
  go_enter Tryd.func62, Tryd.ntmps62
  go_wp2
  go_ret
  exact ⟨rfl, Array.getElem?_push_size, (Below.refl _ _).alloc (Nat.le_refl _) _⟩
end Go.Proofs.YtcmbajphholliabDoor
