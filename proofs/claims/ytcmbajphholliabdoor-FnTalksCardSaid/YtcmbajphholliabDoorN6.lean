/-
  Messages: how the program unpacks and packs one. Conditions: those in each contract.
-/
import Derived.Test.YtcmbajphholliabDoorN2
namespace Go.Proofs.YtcmbajphholliabDoor
open Go.ChangeShapes Go.WideShapes Go.ChangeAt Go.RowKit Go.BigFrame
set_option linter.unusedVariables false
set_option maxRecDepth 100000
set_option linter.unusedSimpArgs false

theorem hit_O (v : Value) (w : World) : (Instr.typeAssert (.iface 70 v) 106 70 true).run Tryd.prog w = .ok (.tuple #[v, .bool true]) w := by kernel_rfl
theorem hit_U (v : Value) (w : World) : (Instr.typeAssert (.iface 108 v) 106 108 true).run Tryd.prog w = .ok (.tuple #[v, .bool true]) w := by kernel_rfl
theorem miss_UO (v : Value) (w : World) : (Instr.typeAssert (.iface 108 v) 106 70 true).run Tryd.prog w = .ok (.tuple #[.agg #[.int .i64 0, .int .i64 0, .int .i64 0], .bool false]) w := by kernel_rfl
theorem hit_N (v : Value) (w : World) : (Instr.typeAssert (.iface 110 v) 106 110 true).run Tryd.prog w = .ok (.tuple #[v, .bool true]) w := by kernel_rfl
theorem miss_NO (v : Value) (w : World) : (Instr.typeAssert (.iface 110 v) 106 70 true).run Tryd.prog w = .ok (.tuple #[.agg #[.int .i64 0, .int .i64 0, .int .i64 0], .bool false]) w := by kernel_rfl
theorem miss_NU (v : Value) (w : World) : (Instr.typeAssert (.iface 110 v) 106 108 true).run Tryd.prog w = .ok (.tuple #[.agg #[.slice none 0 0, .slice none 0 0, .slice none 0 0, .int .i64 0, .slice none 0 0, .int .i64 0], .bool false]) w := by kernel_rfl
theorem hit_K (v : Value) (w : World) : (Instr.typeAssert (.iface 112 v) 106 112 true).run Tryd.prog w = .ok (.tuple #[v, .bool true]) w := by kernel_rfl
theorem miss_KO (v : Value) (w : World) : (Instr.typeAssert (.iface 112 v) 106 70 true).run Tryd.prog w = .ok (.tuple #[.agg #[.int .i64 0, .int .i64 0, .int .i64 0], .bool false]) w := by kernel_rfl
theorem miss_KU (v : Value) (w : World) : (Instr.typeAssert (.iface 112 v) 106 108 true).run Tryd.prog w = .ok (.tuple #[.agg #[.slice none 0 0, .slice none 0 0, .slice none 0 0, .int .i64 0, .slice none 0 0, .int .i64 0], .bool false]) w := by kernel_rfl
theorem miss_KN (v : Value) (w : World) : (Instr.typeAssert (.iface 112 v) 106 110 true).run Tryd.prog w = .ok (.tuple #[.agg #[.int .i64 0], .bool false]) w := by kernel_rfl
theorem unpack_O (ga ca pa ma : Option Addr) (gx cx px mx n m a b : Nat) (kn sa ho ix pr bw er : Int) (w : World)  :
    Calls Tryd.prog 98 #[.agg #[.int .i64 1, .int .i64 sa, .int .i64 ho, .int .i64 ix, .slice ga n gx, .slice ca m cx, .slice pa a px, .int .i64 pr, .slice ma b mx, .int .i64 bw, .int .i64 er]] w fun e w' => e = .returned (.tuple #[.iface 70 (.agg #[.int .i64 sa, .int .i64 ho, .int .i64 ix]), .bool true]) ∧ Below w.heap.size w w' := by
  go_enter Tryd.func98, Tryd.ntmps98
  go_wp2
  exact bodyPost_ret (v := .tuple #[.iface 70 (.agg #[.int .i64 sa, .int .i64 ho, .int .i64 ix]), .bool true]) (by simp [results, Tryd.results98, go_sem]) rfl ⟨rfl, by repeat' (first | exact Below.refl _ _ | (refine Below.setCell ?_ (by simp) _) | (refine Below.alloc ?_ (by simp) _) | (refine Below.drew ?_))⟩
theorem unpack_U1 (ga ca pa ma : Option Addr) (gx cx px mx n m a b : Nat) (kn sa ho ix pr bw er : Int) (w : World) (hm : 0 < m) :
    Calls Tryd.prog 98 #[.agg #[.int .i64 2, .int .i64 sa, .int .i64 ho, .int .i64 ix, .slice ga n gx, .slice ca m cx, .slice pa a px, .int .i64 pr, .slice ma b mx, .int .i64 bw, .int .i64 er]] w fun e w' => e = .returned (.tuple #[.iface 108 (.agg #[.slice ga n gx, .slice ca m cx, .slice pa a px, .int .i64 pr, .slice ma b mx, .int .i64 bw]), .bool true]) ∧ Below w.heap.size w w' := by
  have hmI : (0 : Int) < m := by omega
  go_enter Tryd.func98, Tryd.ntmps98
  go_wp2
  exact bodyPost_ret (v := .tuple #[.iface 108 (.agg #[.slice ga n gx, .slice ca m cx, .slice pa a px, .int .i64 pr, .slice ma b mx, .int .i64 bw]), .bool true]) (by simp [results, Tryd.results98, go_sem]) rfl ⟨rfl, by repeat' (first | exact Below.refl _ _ | (refine Below.setCell ?_ (by simp) _) | (refine Below.alloc ?_ (by simp) _) | (refine Below.drew ?_))⟩
theorem unpack_U0 (ga ca pa ma : Option Addr) (gx cx px mx n m a b : Nat) (kn sa ho ix pr bw er : Int) (w : World)  :
    Calls Tryd.prog 98 #[.agg #[.int .i64 2, .int .i64 sa, .int .i64 ho, .int .i64 ix, .slice ga n gx, .slice ca 0 cx, .slice pa a px, .int .i64 pr, .slice ma b mx, .int .i64 bw, .int .i64 er]] w fun e w' => e = .returned (.tuple #[.iface 108 (.agg #[.slice ga n gx, .slice ca 0 cx, .slice none 0 0, .int .i64 0, .slice none 0 0, .int .i64 0]), .bool true]) ∧ Below w.heap.size w w' := by
  go_enter Tryd.func98, Tryd.ntmps98
  go_wp2
  exact bodyPost_ret (v := .tuple #[.iface 108 (.agg #[.slice ga n gx, .slice ca 0 cx, .slice none 0 0, .int .i64 0, .slice none 0 0, .int .i64 0]), .bool true]) (by simp [results, Tryd.results98, go_sem]) rfl ⟨rfl, by repeat' (first | exact Below.refl _ _ | (refine Below.setCell ?_ (by simp) _) | (refine Below.alloc ?_ (by simp) _) | (refine Below.drew ?_))⟩
theorem unpack_N (ga ca pa ma : Option Addr) (gx cx px mx n m a b : Nat) (kn sa ho ix pr bw er : Int) (w : World)  :
    Calls Tryd.prog 98 #[.agg #[.int .i64 3, .int .i64 sa, .int .i64 ho, .int .i64 ix, .slice ga n gx, .slice ca m cx, .slice pa a px, .int .i64 pr, .slice ma b mx, .int .i64 bw, .int .i64 er]] w fun e w' => e = .returned (.tuple #[.iface 110 (.agg #[.int .i64 er]), .bool true]) ∧ Below w.heap.size w w' := by
  go_enter Tryd.func98, Tryd.ntmps98
  go_wp2
  exact bodyPost_ret (v := .tuple #[.iface 110 (.agg #[.int .i64 er]), .bool true]) (by simp [results, Tryd.results98, go_sem]) rfl ⟨rfl, by repeat' (first | exact Below.refl _ _ | (refine Below.setCell ?_ (by simp) _) | (refine Below.alloc ?_ (by simp) _) | (refine Below.drew ?_))⟩
theorem unpack_K (ga ca pa ma : Option Addr) (gx cx px mx n m a b : Nat) (kn sa ho ix pr bw er : Int) (w : World)  :
    Calls Tryd.prog 98 #[.agg #[.int .i64 4, .int .i64 sa, .int .i64 ho, .int .i64 ix, .slice ga n gx, .slice ca m cx, .slice pa a px, .int .i64 pr, .slice ma b mx, .int .i64 bw, .int .i64 er]] w fun e w' => e = .returned (.tuple #[.iface 112 (.agg #[]), .bool true]) ∧ Below w.heap.size w w' := by
  go_enter Tryd.func98, Tryd.ntmps98
  go_wp2
  exact bodyPost_ret (v := .tuple #[.iface 112 (.agg #[]), .bool true]) (by simp [results, Tryd.results98, go_sem]) rfl ⟨rfl, by repeat' (first | exact Below.refl _ _ | (refine Below.setCell ?_ (by simp) _) | (refine Below.alloc ?_ (by simp) _) | (refine Below.drew ?_))⟩
theorem unpack_no (ga ca pa ma : Option Addr) (gx cx px mx n m a b : Nat) (kn sa ho ix pr bw er : Int) (w : World) (h : ¬ (1 ≤ kn ∧ kn ≤ 4)) :
    Calls Tryd.prog 98 #[.agg #[.int .i64 kn, .int .i64 sa, .int .i64 ho, .int .i64 ix, .slice ga n gx, .slice ca m cx, .slice pa a px, .int .i64 pr, .slice ma b mx, .int .i64 bw, .int .i64 er]] w fun e w' => e = .returned (.tuple #[.nilIface, .bool false]) ∧ Below w.heap.size w w' := by
  have h1 : (kn == 1) = false := beq_eq_false_iff_ne.mpr (by omega)
  have h2 : (kn == 2) = false := beq_eq_false_iff_ne.mpr (by omega)
  have h3 : (kn == 3) = false := beq_eq_false_iff_ne.mpr (by omega)
  have h4 : (kn == 4) = false := beq_eq_false_iff_ne.mpr (by omega)
  clear h
  go_enter Tryd.func98, Tryd.ntmps98
  go_wp2
  exact bodyPost_ret (v := .tuple #[.nilIface, .bool false]) (by simp [results, Tryd.results98, go_sem]) rfl ⟨rfl, by repeat' (first | exact Below.refl _ _ | (refine Below.setCell ?_ (by simp) _) | (refine Below.alloc ?_ (by simp) _) | (refine Below.drew ?_))⟩
theorem pack_O (sa ho ix : Int) (w : World) :
    Calls Tryd.prog 35 #[.iface 70 (.agg #[.int .i64 sa, .int .i64 ho, .int .i64 ix])] w fun e w' => e = .returned (.agg #[.int .i64 1, .int .i64 sa, .int .i64 ho, .int .i64 ix, .slice none 0 0, .slice none 0 0, .slice none 0 0, .int .i64 0, .slice none 0 0, .int .i64 0, .int .i64 0]) ∧ Below w.heap.size w w' := by
  have q0 := hit_O
  go_enter Tryd.func35, Tryd.ntmps35
  go_wp2
  exact bodyPost_ret (v := .agg #[.int .i64 1, .int .i64 sa, .int .i64 ho, .int .i64 ix, .slice none 0 0, .slice none 0 0, .slice none 0 0, .int .i64 0, .slice none 0 0, .int .i64 0, .int .i64 0]) (by simp [results, Tryd.results35, go_sem]) rfl ⟨rfl, by repeat' (first | exact Below.refl _ _ | (refine Below.setCell ?_ (by simp) _) | (refine Below.alloc ?_ (by simp) _) | (refine Below.drew ?_))⟩
theorem pack_U (ga ca pa ma : Option Addr) (gx cx px mx n m a b : Nat) (pr bw : Int) (w : World) :
    Calls Tryd.prog 35 #[.iface 108 (.agg #[.slice ga n gx, .slice ca m cx, .slice pa a px, .int .i64 pr, .slice ma b mx, .int .i64 bw])] w fun e w' => e = .returned (.agg #[.int .i64 2, .int .i64 0, .int .i64 0, .int .i64 0, .slice ga n gx, .slice ca m cx, .slice pa a px, .int .i64 pr, .slice ma b mx, .int .i64 bw, .int .i64 0]) ∧ Below w.heap.size w w' := by
  have q0 := miss_UO
  have q1 := hit_U
  go_enter Tryd.func35, Tryd.ntmps35
  go_wp2
  exact bodyPost_ret (v := .agg #[.int .i64 2, .int .i64 0, .int .i64 0, .int .i64 0, .slice ga n gx, .slice ca m cx, .slice pa a px, .int .i64 pr, .slice ma b mx, .int .i64 bw, .int .i64 0]) (by simp [results, Tryd.results35, go_sem]) rfl ⟨rfl, by repeat' (first | exact Below.refl _ _ | (refine Below.setCell ?_ (by simp) _) | (refine Below.alloc ?_ (by simp) _) | (refine Below.drew ?_))⟩
theorem pack_N (er : Int) (w : World) :
    Calls Tryd.prog 35 #[.iface 110 (.agg #[.int .i64 er])] w fun e w' => e = .returned (.agg #[.int .i64 3, .int .i64 0, .int .i64 0, .int .i64 0, .slice none 0 0, .slice none 0 0, .slice none 0 0, .int .i64 0, .slice none 0 0, .int .i64 0, .int .i64 er]) ∧ Below w.heap.size w w' := by
  have q0 := miss_NO
  have q1 := miss_NU
  have q2 := hit_N
  go_enter Tryd.func35, Tryd.ntmps35
  go_wp2
  exact bodyPost_ret (v := .agg #[.int .i64 3, .int .i64 0, .int .i64 0, .int .i64 0, .slice none 0 0, .slice none 0 0, .slice none 0 0, .int .i64 0, .slice none 0 0, .int .i64 0, .int .i64 er]) (by simp [results, Tryd.results35, go_sem]) rfl ⟨rfl, by repeat' (first | exact Below.refl _ _ | (refine Below.setCell ?_ (by simp) _) | (refine Below.alloc ?_ (by simp) _) | (refine Below.drew ?_))⟩
theorem pack_K  (w : World) :
    Calls Tryd.prog 35 #[.iface 112 (.agg #[])] w fun e w' => e = .returned (.agg #[.int .i64 4, .int .i64 0, .int .i64 0, .int .i64 0, .slice none 0 0, .slice none 0 0, .slice none 0 0, .int .i64 0, .slice none 0 0, .int .i64 0, .int .i64 0]) ∧ Below w.heap.size w w' := by
  have q0 := miss_KO
  have q1 := miss_KU
  have q2 := miss_KN
  have q3 := hit_K
  go_enter Tryd.func35, Tryd.ntmps35
  go_wp2
  exact bodyPost_ret (v := .agg #[.int .i64 4, .int .i64 0, .int .i64 0, .int .i64 0, .slice none 0 0, .slice none 0 0, .slice none 0 0, .int .i64 0, .slice none 0 0, .int .i64 0, .int .i64 0]) (by simp [results, Tryd.results35, go_sem]) rfl ⟨rfl, by repeat' (first | exact Below.refl _ _ | (refine Below.setCell ?_ (by simp) _) | (refine Below.alloc ?_ (by simp) _) | (refine Below.drew ?_))⟩
end Go.Proofs.YtcmbajphholliabDoor
