/-
  The reactions of the program's machine that call or send. Conditions: those in each contract.
-/
import Derived.Test.YtcmbajphholliabDoorS11
namespace Go.Proofs.YtcmbajphholliabDoor
open Go.ChangeShapes Go.WideShapes Go.ChangeAt Go.RowKit Go.BigFrame Go.Joins
set_option linter.unusedVariables false
set_option maxRecDepth 100000
set_option linter.unusedSimpArgs false

theorem connect_any (X : Nat) (xa xi xh xp s0 s1 s2 s3 s4 : Int) (ga ca pa ma : Option Addr) (gx cx px mx : Nat) (gs cs : List (Int × Int)) (ps ms : List Int) (ek ee kn sa ho ix pr bw er : Int) (w : World) (hX : Bl w X [.int .i64 xa, .int .i64 xi, .int .i64 xh, .int .i64 xp, .int .i64 s0, .int .i64 s1, .int .i64 s2, .int .i64 s3, .int .i64 s4, .slice none 0 0])  :
    Calls Tryd.prog 90 #[.pointer (some ⟨X, 0, none⟩), .agg #[.int .i64 ek, .int .i64 kn, .int .i64 sa, .int .i64 ho, .int .i64 ix, .slice ga gs.length gx, .slice ca cs.length cx, .slice pa ps.length px, .int .i64 pr, .slice ma ms.length mx, .int .i64 bw, .int .i64 er, .int .i64 ee]] w fun e w' => e = .returned (.nilIface) ∧ ∃ v, Bl w' X [.int .i64 xa, .int .i64 xi, .int .i64 xh, .int .i64 xp, .int .i64 2, .int .i64 xh, .int .i64 0, .int .i64 0, .int .i64 0, v] ∧ OwnG w' w.heap.size v [⟨1, xa, xh, xi, 0⟩] ∧ w.grownBy w' (some X) := by
  obtain ⟨bE, B0, z⟩ := one w [.int .i64 ek, .int .i64 kn, .int .i64 sa, .int .i64 ho, .int .i64 ix, .slice ga gs.length gx, .slice ca cs.length cx, .slice pa ps.length px, .int .i64 pr, .slice ma ms.length mx, .int .i64 bw, .int .i64 er, .int .i64 ee] 48
  have hne : X ≠ w.heap.size := Nat.ne_of_lt hX.lt
  have hne' : w.heap.size ≠ X := Nat.ne_of_gt hX.lt
  replace hX := hX.keep B0
  have g0 := grown_below B0 (some X)
  clear z
  have x0 := hX.c 0 rfl
  have xf0 := hX.f 0 (x := _) rfl
  have x1 := hX.c 1 rfl
  have xf1 := hX.f 1 (x := _) rfl
  have x2 := hX.c 2 rfl
  have xf2 := hX.f 2 (x := _) rfl
  have x3 := hX.c 3 rfl
  have xf3 := hX.f 3 (x := _) rfl
  have x4 := hX.c 4 rfl
  have xf4 := hX.f 4 (x := _) rfl
  have x5 := hX.c 5 rfl
  have xf5 := hX.f 5 (x := _) rfl
  have x6 := hX.c 6 rfl
  have xf6 := hX.f 6 (x := _) rfl
  have x7 := hX.c 7 rfl
  have xf7 := hX.f 7 (x := _) rfl
  have x8 := hX.c 8 rfl
  have xf8 := hX.f 8 (x := _) rfl
  have x9 := hX.c 9 rfl
  have xf9 := hX.f 9 (x := _) rfl
  go_enter Tryd.func90, Tryd.ntmps90
  go_wp2_with fail
  clear x0 xf0 x1 xf1 x2 xf2 x3 xf3 x4 xf4 x5 xf5 x6 xf6 x7 xf7 x8 xf8 x9 xf9
  have hX1 := (((((hX.set 4 (.int .i64 2)).set 5 (.int .i64 xh)).set 6 (.int .i64 0)).set 7 (.int .i64 0)).set 8 (.int .i64 0))
  have g1 := (grown_trans (grown_trans (grown_trans (grown_trans (grown_trans g0 (grown_set _ X 4 (.int .i64 2))) (grown_set _ X 5 (.int .i64 xh))) (grown_set _ X 6 (.int .i64 0))) (grown_set _ X 7 (.int .i64 0))) (grown_set _ X 8 (.int .i64 0)))
  simp only [List.set_cons_zero, List.set_cons_succ] at hX1
  refine (iopen_any xa xi xh xp _).mono ?_
  rintro e w1 ⟨rfl, hb⟩
  have hX2 := hX1.keep hb
  have g2 := grow_row g1 (grown_below hb none) (fun k hk => by cases hk)
  clear hb g1 hX1 hX
  go_wp2_with fail
  refine (send_any X xa xi xh xp (2) (xh) (0) (0) (0) ⟨1, xa, xh, xi, 0⟩ _ _ (fun w => pack_O xa xh xi w) hX2).mono ?_
  rintro e w9 ⟨rfl, v9, hX9, o9, g9⟩
  have G9 := grown_trans g2 g9
  have O9 := o9.mono (base' := w.heap.size) g2.size
  clear o9 g9 hX2
  go_wp2
  go_ret
  exact ⟨rfl, v9, hX9, O9, G9⟩
set_option maxHeartbeats 1000000 in
theorem hearMore_gone (X : Nat) (xa xi xh xp s0 s1 s2 s3 s4 : Int) (ga ca pa ma : Option Addr) (gx cx px mx : Nat) (gs cs : List (Int × Int)) (ps ms : List Int) (ek ee kn sa ho ix pr bw er : Int) (w : World) (hX : Bl w X [.int .i64 xa, .int .i64 xi, .int .i64 xh, .int .i64 xp, .int .i64 s0, .int .i64 s1, .int .i64 s2, .int .i64 s3, .int .i64 s4, .slice none 0 0]) (u : Value) (hu : w.cell? ⟨0, 0, none⟩ = some (.iface 194 u)) (h3 : kn = 3) :
    Calls Tryd.prog 95 #[.pointer (some ⟨X, 0, none⟩), .agg #[.int .i64 ek, .int .i64 kn, .int .i64 sa, .int .i64 ho, .int .i64 ix, .slice ga gs.length gx, .slice ca cs.length cx, .slice pa ps.length px, .int .i64 pr, .slice ma ms.length mx, .int .i64 bw, .int .i64 er, .int .i64 ee]] w fun e w' => e = .returned (.iface 194 u) ∧ Bl w' X [.int .i64 xa, .int .i64 xi, .int .i64 xh, .int .i64 xp, .int .i64 s0, .int .i64 s1, .int .i64 s2, .int .i64 s3, .int .i64 s4, .slice none 0 0] ∧ w.grownBy w' (some X) := by
  obtain ⟨bE, B0, z⟩ := one w [.int .i64 ek, .int .i64 kn, .int .i64 sa, .int .i64 ho, .int .i64 ix, .slice ga gs.length gx, .slice ca cs.length cx, .slice pa ps.length px, .int .i64 pr, .slice ma ms.length mx, .int .i64 bw, .int .i64 er, .int .i64 ee] 48
  have hne : X ≠ w.heap.size := Nat.ne_of_lt hX.lt
  have hne' : w.heap.size ≠ X := Nat.ne_of_gt hX.lt
  replace hX := hX.keep B0
  have g0 := grown_below B0 (some X)
  clear z
  have hv := cell_keep B0 (World.block_lt_of_cell? w _ hu) hu
  have HIF : Hid ((if kn = 3 then .iface 194 u else if kn ∈ [2, 4] then Value.nilIface else .iface 138 (.int .i64 5)) = .iface 194 u) := Lib.hid (if_pos h3)
  clear h3
  have fe0 := bE.c 0 rfl
  have fe1 := bE.c 1 rfl
  have fe2 := bE.c 2 rfl
  have fe3 := bE.c 3 rfl
  have fe4 := bE.c 4 rfl
  have fe5 := bE.c 5 rfl
  have fe6 := bE.c 6 rfl
  have fe7 := bE.c 7 rfl
  have fe8 := bE.c 8 rfl
  have fe9 := bE.c 9 rfl
  have fe10 := bE.c 10 rfl
  have fe11 := bE.c 11 rfl
  have fe12 := bE.c 12 rfl
  go_enter Tryd.func95, Tryd.ntmps95
  go_wp2_with fail
  clear fe0 fe1 fe2 fe3 fe4 fe5 fe6 fe7 fe8 fe9 fe10 fe11 fe12
  have hv2 := cell_keep ((Below.refl (w.alloc (.cells #[.int .i64 ek, .int .i64 kn, .int .i64 sa, .int .i64 ho, .int .i64 ix, .slice ga gs.length gx, .slice ca cs.length cx, .slice pa ps.length px, .int .i64 pr, .slice ma ms.length mx, .int .i64 bw, .int .i64 er, .int .i64 ee] 48)).heap.size (w.alloc (.cells #[.int .i64 ek, .int .i64 kn, .int .i64 sa, .int .i64 ho, .int .i64 ix, .slice ga gs.length gx, .slice ca cs.length cx, .slice pa ps.length px, .int .i64 pr, .slice ma ms.length mx, .int .i64 bw, .int .i64 er, .int .i64 ee] 48))).alloc (Nat.le_refl _) (.cells #[.int .i64 2, .int .i64 4] 3)) (World.block_lt_of_cell? _ _ hv) hv
  refine (refusal2 ga ca pa ma gx cx px mx gs cs ps ms kn sa ho ix pr bw er _ 2 4 u _ hv2 (by simp) (by simp)).mono ?_
  rw [HIF.out]
  rintro e w1 ⟨rfl, hb⟩
  have hX1 := (hX.alloc (.cells #[.int .i64 2, .int .i64 4] 3)).keep hb
  have bE1 := (bE.alloc (.cells #[.int .i64 2, .int .i64 4] 3)).keep hb
  have g1 := grow_row (grow_row g0 (grown_alloc (World.grownBy.refl _ none) (.cells #[.int .i64 2, .int .i64 4] 3)) (fun k hk => by cases hk)) (grown_below hb none) (fun k hk => by cases hk)
  have B1 := below_step (B0.alloc B0.size (.cells #[.int .i64 2, .int .i64 4] 3)) hb
  clear hv hv2 hb hX bE g0 B0
  go_wp2
  go_ret
  exact ⟨rfl, hX1, g1⟩
set_option maxHeartbeats 1000000 in
theorem hearMore_no (X : Nat) (xa xi xh xp s0 s1 s2 s3 s4 : Int) (ga ca pa ma : Option Addr) (gx cx px mx : Nat) (gs cs : List (Int × Int)) (ps ms : List Int) (ek ee kn sa ho ix pr bw er : Int) (w : World) (hX : Bl w X [.int .i64 xa, .int .i64 xi, .int .i64 xh, .int .i64 xp, .int .i64 s0, .int .i64 s1, .int .i64 s2, .int .i64 s3, .int .i64 s4, .slice none 0 0]) (u : Value) (hu : w.cell? ⟨0, 0, none⟩ = some (.iface 194 u)) (h3 : kn ≠ 3) (hk : ¬ kn ∈ [2, 4]) :
    Calls Tryd.prog 95 #[.pointer (some ⟨X, 0, none⟩), .agg #[.int .i64 ek, .int .i64 kn, .int .i64 sa, .int .i64 ho, .int .i64 ix, .slice ga gs.length gx, .slice ca cs.length cx, .slice pa ps.length px, .int .i64 pr, .slice ma ms.length mx, .int .i64 bw, .int .i64 er, .int .i64 ee]] w fun e w' => e = .returned (.iface 138 (.int .i64 5)) ∧ Bl w' X [.int .i64 xa, .int .i64 xi, .int .i64 xh, .int .i64 xp, .int .i64 s0, .int .i64 s1, .int .i64 s2, .int .i64 s3, .int .i64 s4, .slice none 0 0] ∧ w.grownBy w' (some X) := by
  obtain ⟨bE, B0, z⟩ := one w [.int .i64 ek, .int .i64 kn, .int .i64 sa, .int .i64 ho, .int .i64 ix, .slice ga gs.length gx, .slice ca cs.length cx, .slice pa ps.length px, .int .i64 pr, .slice ma ms.length mx, .int .i64 bw, .int .i64 er, .int .i64 ee] 48
  have hne : X ≠ w.heap.size := Nat.ne_of_lt hX.lt
  have hne' : w.heap.size ≠ X := Nat.ne_of_gt hX.lt
  replace hX := hX.keep B0
  have g0 := grown_below B0 (some X)
  clear z
  have hv := cell_keep B0 (World.block_lt_of_cell? w _ hu) hu
  have HIF : Hid ((if kn = 3 then .iface 194 u else if kn ∈ [2, 4] then Value.nilIface else .iface 138 (.int .i64 5)) = .iface 138 (.int .i64 5)) := Lib.hid ((if_neg h3).trans (if_neg hk))
  clear h3 hk
  have fe0 := bE.c 0 rfl
  have fe1 := bE.c 1 rfl
  have fe2 := bE.c 2 rfl
  have fe3 := bE.c 3 rfl
  have fe4 := bE.c 4 rfl
  have fe5 := bE.c 5 rfl
  have fe6 := bE.c 6 rfl
  have fe7 := bE.c 7 rfl
  have fe8 := bE.c 8 rfl
  have fe9 := bE.c 9 rfl
  have fe10 := bE.c 10 rfl
  have fe11 := bE.c 11 rfl
  have fe12 := bE.c 12 rfl
  go_enter Tryd.func95, Tryd.ntmps95
  go_wp2_with fail
  clear fe0 fe1 fe2 fe3 fe4 fe5 fe6 fe7 fe8 fe9 fe10 fe11 fe12
  have hv2 := cell_keep ((Below.refl (w.alloc (.cells #[.int .i64 ek, .int .i64 kn, .int .i64 sa, .int .i64 ho, .int .i64 ix, .slice ga gs.length gx, .slice ca cs.length cx, .slice pa ps.length px, .int .i64 pr, .slice ma ms.length mx, .int .i64 bw, .int .i64 er, .int .i64 ee] 48)).heap.size (w.alloc (.cells #[.int .i64 ek, .int .i64 kn, .int .i64 sa, .int .i64 ho, .int .i64 ix, .slice ga gs.length gx, .slice ca cs.length cx, .slice pa ps.length px, .int .i64 pr, .slice ma ms.length mx, .int .i64 bw, .int .i64 er, .int .i64 ee] 48))).alloc (Nat.le_refl _) (.cells #[.int .i64 2, .int .i64 4] 3)) (World.block_lt_of_cell? _ _ hv) hv
  refine (refusal2 ga ca pa ma gx cx px mx gs cs ps ms kn sa ho ix pr bw er _ 2 4 u _ hv2 (by simp) (by simp)).mono ?_
  rw [HIF.out]
  rintro e w1 ⟨rfl, hb⟩
  have hX1 := (hX.alloc (.cells #[.int .i64 2, .int .i64 4] 3)).keep hb
  have bE1 := (bE.alloc (.cells #[.int .i64 2, .int .i64 4] 3)).keep hb
  have g1 := grow_row (grow_row g0 (grown_alloc (World.grownBy.refl _ none) (.cells #[.int .i64 2, .int .i64 4] 3)) (fun k hk => by cases hk)) (grown_below hb none) (fun k hk => by cases hk)
  have B1 := below_step (B0.alloc B0.size (.cells #[.int .i64 2, .int .i64 4] 3)) hb
  clear hv hv2 hb hX bE g0 B0
  go_wp2
  go_ret
  exact ⟨rfl, hX1, g1⟩
set_option maxHeartbeats 2000000 in
theorem hearMore_yes (X : Nat) (xa xi xh xp s0 s1 s2 s3 s4 : Int) (ga ca pa ma : Option Addr) (gx cx px mx : Nat) (gs cs : List (Int × Int)) (ps ms : List Int) (ek ee kn sa ho ix pr bw er : Int) (w : World) (hX : Bl w X [.int .i64 xa, .int .i64 xi, .int .i64 xh, .int .i64 xp, .int .i64 s0, .int .i64 s1, .int .i64 s2, .int .i64 s3, .int .i64 s4, .slice none 0 0]) (u : Value) (hu : w.cell? ⟨0, 0, none⟩ = some (.iface 194 u)) (h3 : kn ≠ 3) (hk : kn ∈ [2, 4])  :
    Calls Tryd.prog 95 #[.pointer (some ⟨X, 0, none⟩), .agg #[.int .i64 ek, .int .i64 kn, .int .i64 sa, .int .i64 ho, .int .i64 ix, .slice ga gs.length gx, .slice ca cs.length cx, .slice pa ps.length px, .int .i64 pr, .slice ma ms.length mx, .int .i64 bw, .int .i64 er, .int .i64 ee]] w fun e w' => e = .returned (.nilIface) ∧ Bl w' X [.int .i64 xa, .int .i64 xi, .int .i64 xh, .int .i64 xp, .int .i64 s0, .int .i64 s1, .int .i64 0, .int .i64 s3, .int .i64 s4, .slice none 0 0] ∧ w.grownBy w' (some X) := by
  obtain ⟨bE, B0, z⟩ := one w [.int .i64 ek, .int .i64 kn, .int .i64 sa, .int .i64 ho, .int .i64 ix, .slice ga gs.length gx, .slice ca cs.length cx, .slice pa ps.length px, .int .i64 pr, .slice ma ms.length mx, .int .i64 bw, .int .i64 er, .int .i64 ee] 48
  have hne : X ≠ w.heap.size := Nat.ne_of_lt hX.lt
  have hne' : w.heap.size ≠ X := Nat.ne_of_gt hX.lt
  replace hX := hX.keep B0
  have g0 := grown_below B0 (some X)
  clear z
  have hv := cell_keep B0 (World.block_lt_of_cell? w _ hu) hu
  have HIF : Hid ((if kn = 3 then .iface 194 u else if kn ∈ [2, 4] then Value.nilIface else .iface 138 (.int .i64 5)) = .nilIface) := Lib.hid ((if_neg h3).trans (if_pos hk))
  clear h3 hk
  have fe0 := bE.c 0 rfl
  have fe1 := bE.c 1 rfl
  have fe2 := bE.c 2 rfl
  have fe3 := bE.c 3 rfl
  have fe4 := bE.c 4 rfl
  have fe5 := bE.c 5 rfl
  have fe6 := bE.c 6 rfl
  have fe7 := bE.c 7 rfl
  have fe8 := bE.c 8 rfl
  have fe9 := bE.c 9 rfl
  have fe10 := bE.c 10 rfl
  have fe11 := bE.c 11 rfl
  have fe12 := bE.c 12 rfl
  go_enter Tryd.func95, Tryd.ntmps95
  go_wp2_with fail
  clear fe0 fe1 fe2 fe3 fe4 fe5 fe6 fe7 fe8 fe9 fe10 fe11 fe12
  have hv2 := cell_keep ((Below.refl (w.alloc (.cells #[.int .i64 ek, .int .i64 kn, .int .i64 sa, .int .i64 ho, .int .i64 ix, .slice ga gs.length gx, .slice ca cs.length cx, .slice pa ps.length px, .int .i64 pr, .slice ma ms.length mx, .int .i64 bw, .int .i64 er, .int .i64 ee] 48)).heap.size (w.alloc (.cells #[.int .i64 ek, .int .i64 kn, .int .i64 sa, .int .i64 ho, .int .i64 ix, .slice ga gs.length gx, .slice ca cs.length cx, .slice pa ps.length px, .int .i64 pr, .slice ma ms.length mx, .int .i64 bw, .int .i64 er, .int .i64 ee] 48))).alloc (Nat.le_refl _) (.cells #[.int .i64 2, .int .i64 4] 3)) (World.block_lt_of_cell? _ _ hv) hv
  refine (refusal2 ga ca pa ma gx cx px mx gs cs ps ms kn sa ho ix pr bw er _ 2 4 u _ hv2 (by simp) (by simp)).mono ?_
  rw [HIF.out]
  rintro e w1 ⟨rfl, hb⟩
  have hX1 := (hX.alloc (.cells #[.int .i64 2, .int .i64 4] 3)).keep hb
  have bE1 := (bE.alloc (.cells #[.int .i64 2, .int .i64 4] 3)).keep hb
  have g1 := grow_row (grow_row g0 (grown_alloc (World.grownBy.refl _ none) (.cells #[.int .i64 2, .int .i64 4] 3)) (fun k hk => by cases hk)) (grown_below hb none) (fun k hk => by cases hk)
  have B1 := below_step (B0.alloc B0.size (.cells #[.int .i64 2, .int .i64 4] 3)) hb
  clear hv hv2 hb hX bE g0 B0
  have x6 := hX1.c 6 rfl
  have xf6 := hX1.f 6 (x := _) rfl
  go_wp2
  go_ret
  exact ⟨rfl, (by simpa only [List.set_cons_zero, List.set_cons_succ] using hX1.set 6 (.int .i64 0)), grown_trans g1 (grown_set _ X 6 _)⟩
set_option maxHeartbeats 1000000 in
theorem hearKeep_gone (X : Nat) (xa xi xh xp s0 s1 s2 s3 s4 : Int) (ga ca pa ma : Option Addr) (gx cx px mx : Nat) (gs cs : List (Int × Int)) (ps ms : List Int) (ek ee kn sa ho ix pr bw er : Int) (w : World) (hX : Bl w X [.int .i64 xa, .int .i64 xi, .int .i64 xh, .int .i64 xp, .int .i64 s0, .int .i64 s1, .int .i64 s2, .int .i64 s3, .int .i64 s4, .slice none 0 0]) (u : Value) (hu : w.cell? ⟨0, 0, none⟩ = some (.iface 194 u)) (h3 : kn = 3) :
    Calls Tryd.prog 93 #[.pointer (some ⟨X, 0, none⟩), .agg #[.int .i64 ek, .int .i64 kn, .int .i64 sa, .int .i64 ho, .int .i64 ix, .slice ga gs.length gx, .slice ca cs.length cx, .slice pa ps.length px, .int .i64 pr, .slice ma ms.length mx, .int .i64 bw, .int .i64 er, .int .i64 ee]] w fun e w' => e = .returned (.iface 194 u) ∧ Bl w' X [.int .i64 xa, .int .i64 xi, .int .i64 xh, .int .i64 xp, .int .i64 s0, .int .i64 s1, .int .i64 s2, .int .i64 s3, .int .i64 s4, .slice none 0 0] ∧ w.grownBy w' (some X) := by
  obtain ⟨bE, B0, z⟩ := one w [.int .i64 ek, .int .i64 kn, .int .i64 sa, .int .i64 ho, .int .i64 ix, .slice ga gs.length gx, .slice ca cs.length cx, .slice pa ps.length px, .int .i64 pr, .slice ma ms.length mx, .int .i64 bw, .int .i64 er, .int .i64 ee] 48
  have hne : X ≠ w.heap.size := Nat.ne_of_lt hX.lt
  have hne' : w.heap.size ≠ X := Nat.ne_of_gt hX.lt
  replace hX := hX.keep B0
  have g0 := grown_below B0 (some X)
  clear z
  have hv := cell_keep B0 (World.block_lt_of_cell? w _ hu) hu
  have HIF : Hid ((if kn = 3 then .iface 194 u else if kn ∈ [4] then Value.nilIface else .iface 138 (.int .i64 5)) = .iface 194 u) := Lib.hid (if_pos h3)
  clear h3
  have fe0 := bE.c 0 rfl
  have fe1 := bE.c 1 rfl
  have fe2 := bE.c 2 rfl
  have fe3 := bE.c 3 rfl
  have fe4 := bE.c 4 rfl
  have fe5 := bE.c 5 rfl
  have fe6 := bE.c 6 rfl
  have fe7 := bE.c 7 rfl
  have fe8 := bE.c 8 rfl
  have fe9 := bE.c 9 rfl
  have fe10 := bE.c 10 rfl
  have fe11 := bE.c 11 rfl
  have fe12 := bE.c 12 rfl
  go_enter Tryd.func93, Tryd.ntmps93
  go_wp2_with fail
  clear fe0 fe1 fe2 fe3 fe4 fe5 fe6 fe7 fe8 fe9 fe10 fe11 fe12
  have hv2 := cell_keep ((Below.refl (w.alloc (.cells #[.int .i64 ek, .int .i64 kn, .int .i64 sa, .int .i64 ho, .int .i64 ix, .slice ga gs.length gx, .slice ca cs.length cx, .slice pa ps.length px, .int .i64 pr, .slice ma ms.length mx, .int .i64 bw, .int .i64 er, .int .i64 ee] 48)).heap.size (w.alloc (.cells #[.int .i64 ek, .int .i64 kn, .int .i64 sa, .int .i64 ho, .int .i64 ix, .slice ga gs.length gx, .slice ca cs.length cx, .slice pa ps.length px, .int .i64 pr, .slice ma ms.length mx, .int .i64 bw, .int .i64 er, .int .i64 ee] 48))).alloc (Nat.le_refl _) (.cells #[.int .i64 4] 3)) (World.block_lt_of_cell? _ _ hv) hv
  refine (refusal1 ga ca pa ma gx cx px mx gs cs ps ms kn sa ho ix pr bw er _ 4 u _ hv2 (by simp)).mono ?_
  rw [HIF.out]
  rintro e w1 ⟨rfl, hb⟩
  have hX1 := (hX.alloc (.cells #[.int .i64 4] 3)).keep hb
  have bE1 := (bE.alloc (.cells #[.int .i64 4] 3)).keep hb
  have g1 := grow_row (grow_row g0 (grown_alloc (World.grownBy.refl _ none) (.cells #[.int .i64 4] 3)) (fun k hk => by cases hk)) (grown_below hb none) (fun k hk => by cases hk)
  have B1 := below_step (B0.alloc B0.size (.cells #[.int .i64 4] 3)) hb
  clear hv hv2 hb hX bE g0 B0
  go_wp2
  go_ret
  exact ⟨rfl, hX1, g1⟩
set_option maxHeartbeats 1000000 in
theorem hearKeep_no (X : Nat) (xa xi xh xp s0 s1 s2 s3 s4 : Int) (ga ca pa ma : Option Addr) (gx cx px mx : Nat) (gs cs : List (Int × Int)) (ps ms : List Int) (ek ee kn sa ho ix pr bw er : Int) (w : World) (hX : Bl w X [.int .i64 xa, .int .i64 xi, .int .i64 xh, .int .i64 xp, .int .i64 s0, .int .i64 s1, .int .i64 s2, .int .i64 s3, .int .i64 s4, .slice none 0 0]) (u : Value) (hu : w.cell? ⟨0, 0, none⟩ = some (.iface 194 u)) (h3 : kn ≠ 3) (hk : ¬ kn ∈ [4]) :
    Calls Tryd.prog 93 #[.pointer (some ⟨X, 0, none⟩), .agg #[.int .i64 ek, .int .i64 kn, .int .i64 sa, .int .i64 ho, .int .i64 ix, .slice ga gs.length gx, .slice ca cs.length cx, .slice pa ps.length px, .int .i64 pr, .slice ma ms.length mx, .int .i64 bw, .int .i64 er, .int .i64 ee]] w fun e w' => e = .returned (.iface 138 (.int .i64 5)) ∧ Bl w' X [.int .i64 xa, .int .i64 xi, .int .i64 xh, .int .i64 xp, .int .i64 s0, .int .i64 s1, .int .i64 s2, .int .i64 s3, .int .i64 s4, .slice none 0 0] ∧ w.grownBy w' (some X) := by
  obtain ⟨bE, B0, z⟩ := one w [.int .i64 ek, .int .i64 kn, .int .i64 sa, .int .i64 ho, .int .i64 ix, .slice ga gs.length gx, .slice ca cs.length cx, .slice pa ps.length px, .int .i64 pr, .slice ma ms.length mx, .int .i64 bw, .int .i64 er, .int .i64 ee] 48
  have hne : X ≠ w.heap.size := Nat.ne_of_lt hX.lt
  have hne' : w.heap.size ≠ X := Nat.ne_of_gt hX.lt
  replace hX := hX.keep B0
  have g0 := grown_below B0 (some X)
  clear z
  have hv := cell_keep B0 (World.block_lt_of_cell? w _ hu) hu
  have HIF : Hid ((if kn = 3 then .iface 194 u else if kn ∈ [4] then Value.nilIface else .iface 138 (.int .i64 5)) = .iface 138 (.int .i64 5)) := Lib.hid ((if_neg h3).trans (if_neg hk))
  clear h3 hk
  have fe0 := bE.c 0 rfl
  have fe1 := bE.c 1 rfl
  have fe2 := bE.c 2 rfl
  have fe3 := bE.c 3 rfl
  have fe4 := bE.c 4 rfl
  have fe5 := bE.c 5 rfl
  have fe6 := bE.c 6 rfl
  have fe7 := bE.c 7 rfl
  have fe8 := bE.c 8 rfl
  have fe9 := bE.c 9 rfl
  have fe10 := bE.c 10 rfl
  have fe11 := bE.c 11 rfl
  have fe12 := bE.c 12 rfl
  go_enter Tryd.func93, Tryd.ntmps93
  go_wp2_with fail
  clear fe0 fe1 fe2 fe3 fe4 fe5 fe6 fe7 fe8 fe9 fe10 fe11 fe12
  have hv2 := cell_keep ((Below.refl (w.alloc (.cells #[.int .i64 ek, .int .i64 kn, .int .i64 sa, .int .i64 ho, .int .i64 ix, .slice ga gs.length gx, .slice ca cs.length cx, .slice pa ps.length px, .int .i64 pr, .slice ma ms.length mx, .int .i64 bw, .int .i64 er, .int .i64 ee] 48)).heap.size (w.alloc (.cells #[.int .i64 ek, .int .i64 kn, .int .i64 sa, .int .i64 ho, .int .i64 ix, .slice ga gs.length gx, .slice ca cs.length cx, .slice pa ps.length px, .int .i64 pr, .slice ma ms.length mx, .int .i64 bw, .int .i64 er, .int .i64 ee] 48))).alloc (Nat.le_refl _) (.cells #[.int .i64 4] 3)) (World.block_lt_of_cell? _ _ hv) hv
  refine (refusal1 ga ca pa ma gx cx px mx gs cs ps ms kn sa ho ix pr bw er _ 4 u _ hv2 (by simp)).mono ?_
  rw [HIF.out]
  rintro e w1 ⟨rfl, hb⟩
  have hX1 := (hX.alloc (.cells #[.int .i64 4] 3)).keep hb
  have bE1 := (bE.alloc (.cells #[.int .i64 4] 3)).keep hb
  have g1 := grow_row (grow_row g0 (grown_alloc (World.grownBy.refl _ none) (.cells #[.int .i64 4] 3)) (fun k hk => by cases hk)) (grown_below hb none) (fun k hk => by cases hk)
  have B1 := below_step (B0.alloc B0.size (.cells #[.int .i64 4] 3)) hb
  clear hv hv2 hb hX bE g0 B0
  go_wp2
  go_ret
  exact ⟨rfl, hX1, g1⟩
set_option maxHeartbeats 2000000 in
theorem hearKeep_yes (X : Nat) (xa xi xh xp s0 s1 s2 s3 s4 : Int) (ga ca pa ma : Option Addr) (gx cx px mx : Nat) (gs cs : List (Int × Int)) (ps ms : List Int) (ek ee kn sa ho ix pr bw er : Int) (w : World) (hX : Bl w X [.int .i64 xa, .int .i64 xi, .int .i64 xh, .int .i64 xp, .int .i64 s0, .int .i64 s1, .int .i64 s2, .int .i64 s3, .int .i64 s4, .slice none 0 0]) (u : Value) (hu : w.cell? ⟨0, 0, none⟩ = some (.iface 194 u)) (h3 : kn ≠ 3) (hk : kn ∈ [4])  :
    Calls Tryd.prog 93 #[.pointer (some ⟨X, 0, none⟩), .agg #[.int .i64 ek, .int .i64 kn, .int .i64 sa, .int .i64 ho, .int .i64 ix, .slice ga gs.length gx, .slice ca cs.length cx, .slice pa ps.length px, .int .i64 pr, .slice ma ms.length mx, .int .i64 bw, .int .i64 er, .int .i64 ee]] w fun e w' => e = .returned (.nilIface) ∧ Bl w' X [.int .i64 xa, .int .i64 xi, .int .i64 xh, .int .i64 xp, .int .i64 4, .int .i64 s1, .int .i64 0, .int .i64 s3, .int .i64 s4, .slice none 0 0] ∧ w.grownBy w' (some X) := by
  obtain ⟨bE, B0, z⟩ := one w [.int .i64 ek, .int .i64 kn, .int .i64 sa, .int .i64 ho, .int .i64 ix, .slice ga gs.length gx, .slice ca cs.length cx, .slice pa ps.length px, .int .i64 pr, .slice ma ms.length mx, .int .i64 bw, .int .i64 er, .int .i64 ee] 48
  have hne : X ≠ w.heap.size := Nat.ne_of_lt hX.lt
  have hne' : w.heap.size ≠ X := Nat.ne_of_gt hX.lt
  replace hX := hX.keep B0
  have g0 := grown_below B0 (some X)
  clear z
  have hv := cell_keep B0 (World.block_lt_of_cell? w _ hu) hu
  have HIF : Hid ((if kn = 3 then .iface 194 u else if kn ∈ [4] then Value.nilIface else .iface 138 (.int .i64 5)) = .nilIface) := Lib.hid ((if_neg h3).trans (if_pos hk))
  clear h3 hk
  have fe0 := bE.c 0 rfl
  have fe1 := bE.c 1 rfl
  have fe2 := bE.c 2 rfl
  have fe3 := bE.c 3 rfl
  have fe4 := bE.c 4 rfl
  have fe5 := bE.c 5 rfl
  have fe6 := bE.c 6 rfl
  have fe7 := bE.c 7 rfl
  have fe8 := bE.c 8 rfl
  have fe9 := bE.c 9 rfl
  have fe10 := bE.c 10 rfl
  have fe11 := bE.c 11 rfl
  have fe12 := bE.c 12 rfl
  go_enter Tryd.func93, Tryd.ntmps93
  go_wp2_with fail
  clear fe0 fe1 fe2 fe3 fe4 fe5 fe6 fe7 fe8 fe9 fe10 fe11 fe12
  have hv2 := cell_keep ((Below.refl (w.alloc (.cells #[.int .i64 ek, .int .i64 kn, .int .i64 sa, .int .i64 ho, .int .i64 ix, .slice ga gs.length gx, .slice ca cs.length cx, .slice pa ps.length px, .int .i64 pr, .slice ma ms.length mx, .int .i64 bw, .int .i64 er, .int .i64 ee] 48)).heap.size (w.alloc (.cells #[.int .i64 ek, .int .i64 kn, .int .i64 sa, .int .i64 ho, .int .i64 ix, .slice ga gs.length gx, .slice ca cs.length cx, .slice pa ps.length px, .int .i64 pr, .slice ma ms.length mx, .int .i64 bw, .int .i64 er, .int .i64 ee] 48))).alloc (Nat.le_refl _) (.cells #[.int .i64 4] 3)) (World.block_lt_of_cell? _ _ hv) hv
  refine (refusal1 ga ca pa ma gx cx px mx gs cs ps ms kn sa ho ix pr bw er _ 4 u _ hv2 (by simp)).mono ?_
  rw [HIF.out]
  rintro e w1 ⟨rfl, hb⟩
  have hX1 := (hX.alloc (.cells #[.int .i64 4] 3)).keep hb
  have bE1 := (bE.alloc (.cells #[.int .i64 4] 3)).keep hb
  have g1 := grow_row (grow_row g0 (grown_alloc (World.grownBy.refl _ none) (.cells #[.int .i64 4] 3)) (fun k hk => by cases hk)) (grown_below hb none) (fun k hk => by cases hk)
  have B1 := below_step (B0.alloc B0.size (.cells #[.int .i64 4] 3)) hb
  clear hv hv2 hb hX bE g0 B0
  have x4 := hX1.c 4 rfl
  have xf4 := hX1.f 4 (x := _) rfl
  have x6 := hX1.c 6 rfl
  have xf6 := hX1.f 6 (x := _) rfl
  go_wp2
  go_ret
  exact ⟨rfl, (by simpa only [List.set_cons_zero, List.set_cons_succ] using (hX1.set 4 (.int .i64 4)).set 6 (.int .i64 0)), grown_trans (grown_trans g1 (grown_set _ X 4 _)) (grown_set _ X 6 _)⟩
set_option maxHeartbeats 2000000 in
theorem hearOpen_gone (X : Nat) (xa xi xh xp s0 s1 s2 s3 s4 : Int) (ga ca pa ma : Option Addr) (gx cx px mx : Nat) (gs cs : List (Int × Int)) (ps ms : List Int) (ek ee kn sa ho ix pr bw er : Int) (w : World) (hX : Bl w X [.int .i64 xa, .int .i64 xi, .int .i64 xh, .int .i64 xp, .int .i64 s0, .int .i64 s1, .int .i64 s2, .int .i64 s3, .int .i64 s4, .slice none 0 0]) (u : Value) (hu : w.cell? ⟨0, 0, none⟩ = some (.iface 194 u)) (h3 : kn = 3) :
    Calls Tryd.prog 91 #[.pointer (some ⟨X, 0, none⟩), .agg #[.int .i64 ek, .int .i64 kn, .int .i64 sa, .int .i64 ho, .int .i64 ix, .slice ga gs.length gx, .slice ca cs.length cx, .slice pa ps.length px, .int .i64 pr, .slice ma ms.length mx, .int .i64 bw, .int .i64 er, .int .i64 ee]] w fun e w' => e = .returned (.iface 194 u) ∧ Bl w' X [.int .i64 xa, .int .i64 xi, .int .i64 xh, .int .i64 xp, .int .i64 s0, .int .i64 s1, .int .i64 s2, .int .i64 s3, .int .i64 s4, .slice none 0 0] ∧ w.grownBy w' (some X) := by
  obtain ⟨bE, B0, z⟩ := one w [.int .i64 ek, .int .i64 kn, .int .i64 sa, .int .i64 ho, .int .i64 ix, .slice ga gs.length gx, .slice ca cs.length cx, .slice pa ps.length px, .int .i64 pr, .slice ma ms.length mx, .int .i64 bw, .int .i64 er, .int .i64 ee] 48
  have hne : X ≠ w.heap.size := Nat.ne_of_lt hX.lt
  have hne' : w.heap.size ≠ X := Nat.ne_of_gt hX.lt
  replace hX := hX.keep B0
  have g0 := grown_below B0 (some X)
  clear z
  have hv := cell_keep B0 (World.block_lt_of_cell? w _ hu) hu
  have HIF : Hid ((if kn = 3 then .iface 194 u else if kn ∈ [1] then Value.nilIface else .iface 138 (.int .i64 5)) = .iface 194 u) := Lib.hid (if_pos h3)
  clear h3
  have fe0 := bE.c 0 rfl
  have fe1 := bE.c 1 rfl
  have fe2 := bE.c 2 rfl
  have fe3 := bE.c 3 rfl
  have fe4 := bE.c 4 rfl
  have fe5 := bE.c 5 rfl
  have fe6 := bE.c 6 rfl
  have fe7 := bE.c 7 rfl
  have fe8 := bE.c 8 rfl
  have fe9 := bE.c 9 rfl
  have fe10 := bE.c 10 rfl
  have fe11 := bE.c 11 rfl
  have fe12 := bE.c 12 rfl
  go_enter Tryd.func91, Tryd.ntmps91
  go_wp2_with fail
  clear fe0 fe1 fe2 fe3 fe4 fe5 fe6 fe7 fe8 fe9 fe10 fe11 fe12
  have hv2 := cell_keep ((Below.refl (w.alloc (.cells #[.int .i64 ek, .int .i64 kn, .int .i64 sa, .int .i64 ho, .int .i64 ix, .slice ga gs.length gx, .slice ca cs.length cx, .slice pa ps.length px, .int .i64 pr, .slice ma ms.length mx, .int .i64 bw, .int .i64 er, .int .i64 ee] 48)).heap.size (w.alloc (.cells #[.int .i64 ek, .int .i64 kn, .int .i64 sa, .int .i64 ho, .int .i64 ix, .slice ga gs.length gx, .slice ca cs.length cx, .slice pa ps.length px, .int .i64 pr, .slice ma ms.length mx, .int .i64 bw, .int .i64 er, .int .i64 ee] 48))).alloc (Nat.le_refl _) (.cells #[.int .i64 1] 3)) (World.block_lt_of_cell? _ _ hv) hv
  refine (refusal1 ga ca pa ma gx cx px mx gs cs ps ms kn sa ho ix pr bw er _ 1 u _ hv2 (by simp)).mono ?_
  rw [HIF.out]
  rintro e w1 ⟨rfl, hb⟩
  have hX1 := (hX.alloc (.cells #[.int .i64 1] 3)).keep hb
  have bE1 := (bE.alloc (.cells #[.int .i64 1] 3)).keep hb
  have g1 := grow_row (grow_row g0 (grown_alloc (World.grownBy.refl _ none) (.cells #[.int .i64 1] 3)) (fun k hk => by cases hk)) (grown_below hb none) (fun k hk => by cases hk)
  have B1 := below_step (B0.alloc B0.size (.cells #[.int .i64 1] 3)) hb
  clear hv hv2 hb hX bE g0 B0
  go_wp2
  go_ret
  exact ⟨rfl, hX1, g1⟩
set_option maxHeartbeats 2000000 in
theorem hearOpen_no (X : Nat) (xa xi xh xp s0 s1 s2 s3 s4 : Int) (ga ca pa ma : Option Addr) (gx cx px mx : Nat) (gs cs : List (Int × Int)) (ps ms : List Int) (ek ee kn sa ho ix pr bw er : Int) (w : World) (hX : Bl w X [.int .i64 xa, .int .i64 xi, .int .i64 xh, .int .i64 xp, .int .i64 s0, .int .i64 s1, .int .i64 s2, .int .i64 s3, .int .i64 s4, .slice none 0 0]) (u : Value) (hu : w.cell? ⟨0, 0, none⟩ = some (.iface 194 u)) (h3 : kn ≠ 3) (hk : ¬ kn ∈ [1]) :
    Calls Tryd.prog 91 #[.pointer (some ⟨X, 0, none⟩), .agg #[.int .i64 ek, .int .i64 kn, .int .i64 sa, .int .i64 ho, .int .i64 ix, .slice ga gs.length gx, .slice ca cs.length cx, .slice pa ps.length px, .int .i64 pr, .slice ma ms.length mx, .int .i64 bw, .int .i64 er, .int .i64 ee]] w fun e w' => e = .returned (.iface 138 (.int .i64 5)) ∧ Bl w' X [.int .i64 xa, .int .i64 xi, .int .i64 xh, .int .i64 xp, .int .i64 s0, .int .i64 s1, .int .i64 s2, .int .i64 s3, .int .i64 s4, .slice none 0 0] ∧ w.grownBy w' (some X) := by
  obtain ⟨bE, B0, z⟩ := one w [.int .i64 ek, .int .i64 kn, .int .i64 sa, .int .i64 ho, .int .i64 ix, .slice ga gs.length gx, .slice ca cs.length cx, .slice pa ps.length px, .int .i64 pr, .slice ma ms.length mx, .int .i64 bw, .int .i64 er, .int .i64 ee] 48
  have hne : X ≠ w.heap.size := Nat.ne_of_lt hX.lt
  have hne' : w.heap.size ≠ X := Nat.ne_of_gt hX.lt
  replace hX := hX.keep B0
  have g0 := grown_below B0 (some X)
  clear z
  have hv := cell_keep B0 (World.block_lt_of_cell? w _ hu) hu
  have HIF : Hid ((if kn = 3 then .iface 194 u else if kn ∈ [1] then Value.nilIface else .iface 138 (.int .i64 5)) = .iface 138 (.int .i64 5)) := Lib.hid ((if_neg h3).trans (if_neg hk))
  clear h3 hk
  have fe0 := bE.c 0 rfl
  have fe1 := bE.c 1 rfl
  have fe2 := bE.c 2 rfl
  have fe3 := bE.c 3 rfl
  have fe4 := bE.c 4 rfl
  have fe5 := bE.c 5 rfl
  have fe6 := bE.c 6 rfl
  have fe7 := bE.c 7 rfl
  have fe8 := bE.c 8 rfl
  have fe9 := bE.c 9 rfl
  have fe10 := bE.c 10 rfl
  have fe11 := bE.c 11 rfl
  have fe12 := bE.c 12 rfl
  go_enter Tryd.func91, Tryd.ntmps91
  go_wp2_with fail
  clear fe0 fe1 fe2 fe3 fe4 fe5 fe6 fe7 fe8 fe9 fe10 fe11 fe12
  have hv2 := cell_keep ((Below.refl (w.alloc (.cells #[.int .i64 ek, .int .i64 kn, .int .i64 sa, .int .i64 ho, .int .i64 ix, .slice ga gs.length gx, .slice ca cs.length cx, .slice pa ps.length px, .int .i64 pr, .slice ma ms.length mx, .int .i64 bw, .int .i64 er, .int .i64 ee] 48)).heap.size (w.alloc (.cells #[.int .i64 ek, .int .i64 kn, .int .i64 sa, .int .i64 ho, .int .i64 ix, .slice ga gs.length gx, .slice ca cs.length cx, .slice pa ps.length px, .int .i64 pr, .slice ma ms.length mx, .int .i64 bw, .int .i64 er, .int .i64 ee] 48))).alloc (Nat.le_refl _) (.cells #[.int .i64 1] 3)) (World.block_lt_of_cell? _ _ hv) hv
  refine (refusal1 ga ca pa ma gx cx px mx gs cs ps ms kn sa ho ix pr bw er _ 1 u _ hv2 (by simp)).mono ?_
  rw [HIF.out]
  rintro e w1 ⟨rfl, hb⟩
  have hX1 := (hX.alloc (.cells #[.int .i64 1] 3)).keep hb
  have bE1 := (bE.alloc (.cells #[.int .i64 1] 3)).keep hb
  have g1 := grow_row (grow_row g0 (grown_alloc (World.grownBy.refl _ none) (.cells #[.int .i64 1] 3)) (fun k hk => by cases hk)) (grown_below hb none) (fun k hk => by cases hk)
  have B1 := below_step (B0.alloc B0.size (.cells #[.int .i64 1] 3)) hb
  clear hv hv2 hb hX bE g0 B0
  go_wp2
  go_ret
  exact ⟨rfl, hX1, g1⟩
set_option maxHeartbeats 2000000 in
theorem hearOpen_bad (X : Nat) (xa xi xh xp s0 s1 s2 s3 s4 : Int) (ga ca pa ma : Option Addr) (gx cx px mx : Nat) (gs cs : List (Int × Int)) (ps ms : List Int) (ek ee kn sa ho ix pr bw er : Int) (w : World) (hX : Bl w X [.int .i64 xa, .int .i64 xi, .int .i64 xh, .int .i64 xp, .int .i64 s0, .int .i64 s1, .int .i64 s2, .int .i64 s3, .int .i64 s4, .slice none 0 0]) (u : Value) (hu : w.cell? ⟨0, 0, none⟩ = some (.iface 194 u)) (h3 : kn ≠ 3) (hk : kn ∈ [1]) (hg : RdP w (.slice ga gs.length gx) gs) (hc : RdP w (.slice ca cs.length cx) cs) (hp : RdI w (.slice pa ps.length px) ps) (hm : RdI w (.slice ma ms.length mx) ms) (HA : Hid (accB xa xi xh xp gs cs ps ms kn sa ho ix pr bw er = false)) :
    Calls Tryd.prog 91 #[.pointer (some ⟨X, 0, none⟩), .agg #[.int .i64 ek, .int .i64 kn, .int .i64 sa, .int .i64 ho, .int .i64 ix, .slice ga gs.length gx, .slice ca cs.length cx, .slice pa ps.length px, .int .i64 pr, .slice ma ms.length mx, .int .i64 bw, .int .i64 er, .int .i64 ee]] w fun e w' => e = .returned (.iface 138 (.int .i64 2)) ∧ Bl w' X [.int .i64 xa, .int .i64 xi, .int .i64 xh, .int .i64 xp, .int .i64 s0, .int .i64 s1, .int .i64 s2, .int .i64 s3, .int .i64 s4, .slice none 0 0] ∧ w.grownBy w' (some X) := by
  obtain ⟨bE, B0, z⟩ := one w [.int .i64 ek, .int .i64 kn, .int .i64 sa, .int .i64 ho, .int .i64 ix, .slice ga gs.length gx, .slice ca cs.length cx, .slice pa ps.length px, .int .i64 pr, .slice ma ms.length mx, .int .i64 bw, .int .i64 er, .int .i64 ee] 48
  have hne : X ≠ w.heap.size := Nat.ne_of_lt hX.lt
  have hne' : w.heap.size ≠ X := Nat.ne_of_gt hX.lt
  replace hX := hX.keep B0
  have g0 := grown_below B0 (some X)
  clear z
  have hv := cell_keep B0 (World.block_lt_of_cell? w _ hu) hu
  have HIF : Hid ((if kn = 3 then .iface 194 u else if kn ∈ [1] then Value.nilIface else .iface 138 (.int .i64 5)) = .nilIface) := Lib.hid ((if_neg h3).trans (if_pos hk))
  clear h3 hk
  have fe0 := bE.c 0 rfl
  have fe1 := bE.c 1 rfl
  have fe2 := bE.c 2 rfl
  have fe3 := bE.c 3 rfl
  have fe4 := bE.c 4 rfl
  have fe5 := bE.c 5 rfl
  have fe6 := bE.c 6 rfl
  have fe7 := bE.c 7 rfl
  have fe8 := bE.c 8 rfl
  have fe9 := bE.c 9 rfl
  have fe10 := bE.c 10 rfl
  have fe11 := bE.c 11 rfl
  have fe12 := bE.c 12 rfl
  go_enter Tryd.func91, Tryd.ntmps91
  go_wp2_with fail
  clear fe0 fe1 fe2 fe3 fe4 fe5 fe6 fe7 fe8 fe9 fe10 fe11 fe12
  have hv2 := cell_keep ((Below.refl (w.alloc (.cells #[.int .i64 ek, .int .i64 kn, .int .i64 sa, .int .i64 ho, .int .i64 ix, .slice ga gs.length gx, .slice ca cs.length cx, .slice pa ps.length px, .int .i64 pr, .slice ma ms.length mx, .int .i64 bw, .int .i64 er, .int .i64 ee] 48)).heap.size (w.alloc (.cells #[.int .i64 ek, .int .i64 kn, .int .i64 sa, .int .i64 ho, .int .i64 ix, .slice ga gs.length gx, .slice ca cs.length cx, .slice pa ps.length px, .int .i64 pr, .slice ma ms.length mx, .int .i64 bw, .int .i64 er, .int .i64 ee] 48))).alloc (Nat.le_refl _) (.cells #[.int .i64 1] 3)) (World.block_lt_of_cell? _ _ hv) hv
  refine (refusal1 ga ca pa ma gx cx px mx gs cs ps ms kn sa ho ix pr bw er _ 1 u _ hv2 (by simp)).mono ?_
  rw [HIF.out]
  rintro e w1 ⟨rfl, hb⟩
  have hX1 := (hX.alloc (.cells #[.int .i64 1] 3)).keep hb
  have bE1 := (bE.alloc (.cells #[.int .i64 1] 3)).keep hb
  have g1 := grow_row (grow_row g0 (grown_alloc (World.grownBy.refl _ none) (.cells #[.int .i64 1] 3)) (fun k hk => by cases hk)) (grown_below hb none) (fun k hk => by cases hk)
  have B1 := below_step (B0.alloc B0.size (.cells #[.int .i64 1] 3)) hb
  clear hv hv2 hb hX bE g0 B0
  replace hg := hg.keep B1
  replace hc := hc.keep B1
  replace hp := hp.keep B1
  replace hm := hm.keep B1
  go_wp2_with fail
  refine wp_region_class (C := Over (w1)) (by kernel_rfl) (by kernel_rfl) (over_drew _) ?_
  repeat (first | go_big_quiet_skip | (go_big_quiet_want; go_big_quiet_op; go_big_quiet_on) | (go_big_quiet_want; go_big_quiet_op; apply Exists.intro; refine ⟨fun w' hC => ?_, ?_⟩; ((first | (go_at_call 12; refine (iAcc_t _ (hg.keep hC) (hc.keep hC) (hp.keep hC) (hm.keep hC) HA).mono ?_; rintro e w1 ⟨rfl, hb1⟩; exact ⟨rfl, over_step hC hb1⟩))); go_big_quiet_on) | (go_big_quiet_want; apply Exists.intro; refine ⟨fun w' hC => ?_, ?_⟩; (have k0 := over_cell hC hX1.lt (hX1.c 0 rfl); have k1 := over_cell hC hX1.lt (hX1.c 1 rfl); have k2 := over_cell hC hX1.lt (hX1.c 2 rfl); have k3 := over_cell hC hX1.lt (hX1.c 3 rfl); have k4 := over_cell hC bE1.lt (bE1.c 1 rfl); have k5 := over_cell hC bE1.lt (bE1.c 2 rfl); have k6 := over_cell hC bE1.lt (bE1.c 3 rfl); have k7 := over_cell hC bE1.lt (bE1.c 4 rfl); have k8 := over_cell hC bE1.lt (bE1.c 5 rfl); have k9 := over_cell hC bE1.lt (bE1.c 6 rfl); have k10 := over_cell hC bE1.lt (bE1.c 7 rfl); have k11 := over_cell hC bE1.lt (bE1.c 8 rfl); have k12 := over_cell hC bE1.lt (bE1.c 9 rfl); have k13 := over_cell hC bE1.lt (bE1.c 10 rfl); have k14 := over_cell hC bE1.lt (bE1.c 11 rfl); simp [Oper.quietAt, Oper.quietUpon, go_sem, k0, k1, k2, k3, k4, k5, k6, k7, k8, k9, k10, k11, k12, k13, k14]; first | done | rfl); go_big_quiet_on; simp only [Act.put, List.setIfInBounds_toArray, List.set_cons_zero, List.set_cons_succ]))
  refine wpQuiet_nil ?_
  intro w2 hC
  have k0 := over_cell hC hX1.lt (hX1.c 0 rfl)
  have k1 := over_cell hC hX1.lt (hX1.c 1 rfl)
  have k2 := over_cell hC hX1.lt (hX1.c 2 rfl)
  have k3 := over_cell hC hX1.lt (hX1.c 3 rfl)
  have k4 := over_cell hC bE1.lt (bE1.c 1 rfl)
  have k5 := over_cell hC bE1.lt (bE1.c 2 rfl)
  have k6 := over_cell hC bE1.lt (bE1.c 3 rfl)
  have k7 := over_cell hC bE1.lt (bE1.c 4 rfl)
  have k8 := over_cell hC bE1.lt (bE1.c 5 rfl)
  have k9 := over_cell hC bE1.lt (bE1.c 6 rfl)
  have k10 := over_cell hC bE1.lt (bE1.c 7 rfl)
  have k11 := over_cell hC bE1.lt (bE1.c 8 rfl)
  have k12 := over_cell hC bE1.lt (bE1.c 9 rfl)
  have k13 := over_cell hC bE1.lt (bE1.c 10 rfl)
  have k14 := over_cell hC bE1.lt (bE1.c 11 rfl)
  clear k0 k1 k2 k3 k4 k5 k6 k7 k8 k9 k10 k11 k12 k13 k14
  have hb := over_below hC
  have hX2 := hX1.keep hb
  have bE2 := bE1.keep hb
  have g2 := grow_row g1 (grown_below hb none) (fun k hk => by cases hk)
  clear hb hC hX1 bE1 g1 B1 hg hc hp hm
  go_wp2
  go_ret
  exact ⟨rfl, hX2, g2⟩
set_option maxHeartbeats 2000000 in
theorem hearOpen_mine (X : Nat) (xa xi xh xp s0 s1 s2 s3 s4 : Int) (ga ca pa ma : Option Addr) (gx cx px mx : Nat) (gs cs : List (Int × Int)) (ps ms : List Int) (ek ee kn sa ho ix pr bw er : Int) (w : World) (hX : Bl w X [.int .i64 xa, .int .i64 xi, .int .i64 xh, .int .i64 xp, .int .i64 s0, .int .i64 s1, .int .i64 s2, .int .i64 s3, .int .i64 s4, .slice none 0 0]) (u : Value) (hu : w.cell? ⟨0, 0, none⟩ = some (.iface 194 u)) (h3 : kn ≠ 3) (hk : kn ∈ [1]) (hg : RdP w (.slice ga gs.length gx) gs) (hc : RdP w (.slice ca cs.length cx) cs) (hp : RdI w (.slice pa ps.length px) ps) (hm : RdI w (.slice ma ms.length mx) ms) (HA : Hid (accB xa xi xh xp gs cs ps ms kn sa ho ix pr bw er = true)) (hmin : xh ≤ ho) (hb3 : 3 ≤ xh ∧ xh ≤ 255) :
    Calls Tryd.prog 91 #[.pointer (some ⟨X, 0, none⟩), .agg #[.int .i64 ek, .int .i64 kn, .int .i64 sa, .int .i64 ho, .int .i64 ix, .slice ga gs.length gx, .slice ca cs.length cx, .slice pa ps.length px, .int .i64 pr, .slice ma ms.length mx, .int .i64 bw, .int .i64 er, .int .i64 ee]] w fun e w' => e = .returned (.nilIface) ∧ ∃ v, Bl w' X [.int .i64 xa, .int .i64 xi, .int .i64 xh, .int .i64 xp, .int .i64 3, .int .i64 xh, .int .i64 0, .int .i64 (xh / 3), .int .i64 sa, v] ∧ OwnG w' w.heap.size v [⟨4, 0, 0, 0, 0⟩] ∧ w.grownBy w' (some X) := by
  obtain ⟨bE, B0, z⟩ := one w [.int .i64 ek, .int .i64 kn, .int .i64 sa, .int .i64 ho, .int .i64 ix, .slice ga gs.length gx, .slice ca cs.length cx, .slice pa ps.length px, .int .i64 pr, .slice ma ms.length mx, .int .i64 bw, .int .i64 er, .int .i64 ee] 48
  have hne : X ≠ w.heap.size := Nat.ne_of_lt hX.lt
  have hne' : w.heap.size ≠ X := Nat.ne_of_gt hX.lt
  replace hX := hX.keep B0
  have g0 := grown_below B0 (some X)
  clear z
  have hv := cell_keep B0 (World.block_lt_of_cell? w _ hu) hu
  have HIF : Hid ((if kn = 3 then .iface 194 u else if kn ∈ [1] then Value.nilIface else .iface 138 (.int .i64 5)) = .nilIface) := Lib.hid ((if_neg h3).trans (if_pos hk))
  clear h3 hk
  have hq3 : Int.tdiv xh 3 = xh / 3 := by rw [Int.tdiv_eq_ediv_of_nonneg (by omega)]
  have fe0 := bE.c 0 rfl
  have fe1 := bE.c 1 rfl
  have fe2 := bE.c 2 rfl
  have fe3 := bE.c 3 rfl
  have fe4 := bE.c 4 rfl
  have fe5 := bE.c 5 rfl
  have fe6 := bE.c 6 rfl
  have fe7 := bE.c 7 rfl
  have fe8 := bE.c 8 rfl
  have fe9 := bE.c 9 rfl
  have fe10 := bE.c 10 rfl
  have fe11 := bE.c 11 rfl
  have fe12 := bE.c 12 rfl
  go_enter Tryd.func91, Tryd.ntmps91
  go_wp2_with fail
  clear fe0 fe1 fe2 fe3 fe4 fe5 fe6 fe7 fe8 fe9 fe10 fe11 fe12
  have hv2 := cell_keep ((Below.refl (w.alloc (.cells #[.int .i64 ek, .int .i64 kn, .int .i64 sa, .int .i64 ho, .int .i64 ix, .slice ga gs.length gx, .slice ca cs.length cx, .slice pa ps.length px, .int .i64 pr, .slice ma ms.length mx, .int .i64 bw, .int .i64 er, .int .i64 ee] 48)).heap.size (w.alloc (.cells #[.int .i64 ek, .int .i64 kn, .int .i64 sa, .int .i64 ho, .int .i64 ix, .slice ga gs.length gx, .slice ca cs.length cx, .slice pa ps.length px, .int .i64 pr, .slice ma ms.length mx, .int .i64 bw, .int .i64 er, .int .i64 ee] 48))).alloc (Nat.le_refl _) (.cells #[.int .i64 1] 3)) (World.block_lt_of_cell? _ _ hv) hv
  refine (refusal1 ga ca pa ma gx cx px mx gs cs ps ms kn sa ho ix pr bw er _ 1 u _ hv2 (by simp)).mono ?_
  rw [HIF.out]
  rintro e w1 ⟨rfl, hb⟩
  have hX1 := (hX.alloc (.cells #[.int .i64 1] 3)).keep hb
  have bE1 := (bE.alloc (.cells #[.int .i64 1] 3)).keep hb
  have g1 := grow_row (grow_row g0 (grown_alloc (World.grownBy.refl _ none) (.cells #[.int .i64 1] 3)) (fun k hk => by cases hk)) (grown_below hb none) (fun k hk => by cases hk)
  have B1 := below_step (B0.alloc B0.size (.cells #[.int .i64 1] 3)) hb
  clear hv hv2 hb hX bE g0 B0
  replace hg := hg.keep B1
  replace hc := hc.keep B1
  replace hp := hp.keep B1
  replace hm := hm.keep B1
  go_wp2_with fail
  refine wp_region_class (C := Over (w1)) (by kernel_rfl) (by kernel_rfl) (over_drew _) ?_
  repeat (first | go_big_quiet_skip | (go_big_quiet_want; go_big_quiet_op; go_big_quiet_on) | (go_big_quiet_want; go_big_quiet_op; apply Exists.intro; refine ⟨fun w' hC => ?_, ?_⟩; ((first | (go_at_call 12; refine (iAcc_t _ (hg.keep hC) (hc.keep hC) (hp.keep hC) (hm.keep hC) HA).mono ?_; rintro e w1 ⟨rfl, hb1⟩; exact ⟨rfl, over_step hC hb1⟩))); go_big_quiet_on) | (go_big_quiet_want; apply Exists.intro; refine ⟨fun w' hC => ?_, ?_⟩; (have k0 := over_cell hC hX1.lt (hX1.c 0 rfl); have k1 := over_cell hC hX1.lt (hX1.c 1 rfl); have k2 := over_cell hC hX1.lt (hX1.c 2 rfl); have k3 := over_cell hC hX1.lt (hX1.c 3 rfl); have k4 := over_cell hC bE1.lt (bE1.c 1 rfl); have k5 := over_cell hC bE1.lt (bE1.c 2 rfl); have k6 := over_cell hC bE1.lt (bE1.c 3 rfl); have k7 := over_cell hC bE1.lt (bE1.c 4 rfl); have k8 := over_cell hC bE1.lt (bE1.c 5 rfl); have k9 := over_cell hC bE1.lt (bE1.c 6 rfl); have k10 := over_cell hC bE1.lt (bE1.c 7 rfl); have k11 := over_cell hC bE1.lt (bE1.c 8 rfl); have k12 := over_cell hC bE1.lt (bE1.c 9 rfl); have k13 := over_cell hC bE1.lt (bE1.c 10 rfl); have k14 := over_cell hC bE1.lt (bE1.c 11 rfl); simp [Oper.quietAt, Oper.quietUpon, go_sem, k0, k1, k2, k3, k4, k5, k6, k7, k8, k9, k10, k11, k12, k13, k14]; first | done | rfl); go_big_quiet_on; simp only [Act.put, List.setIfInBounds_toArray, List.set_cons_zero, List.set_cons_succ]))
  refine wpQuiet_nil ?_
  intro w2 hC
  have k0 := over_cell hC hX1.lt (hX1.c 0 rfl)
  have k1 := over_cell hC hX1.lt (hX1.c 1 rfl)
  have k2 := over_cell hC hX1.lt (hX1.c 2 rfl)
  have k3 := over_cell hC hX1.lt (hX1.c 3 rfl)
  have k4 := over_cell hC bE1.lt (bE1.c 1 rfl)
  have k5 := over_cell hC bE1.lt (bE1.c 2 rfl)
  have k6 := over_cell hC bE1.lt (bE1.c 3 rfl)
  have k7 := over_cell hC bE1.lt (bE1.c 4 rfl)
  have k8 := over_cell hC bE1.lt (bE1.c 5 rfl)
  have k9 := over_cell hC bE1.lt (bE1.c 6 rfl)
  have k10 := over_cell hC bE1.lt (bE1.c 7 rfl)
  have k11 := over_cell hC bE1.lt (bE1.c 8 rfl)
  have k12 := over_cell hC bE1.lt (bE1.c 9 rfl)
  have k13 := over_cell hC bE1.lt (bE1.c 10 rfl)
  have k14 := over_cell hC bE1.lt (bE1.c 11 rfl)
  clear k0 k1 k2 k3 k4 k5 k6 k7 k8 k9 k10 k11 k12 k13 k14
  have hb := over_below hC
  have hX2 := hX1.keep hb
  have bE2 := bE1.keep hb
  have g2 := grow_row g1 (grown_below hb none) (fun k hk => by cases hk)
  clear hb hC hX1 bE1 g1 B1 hg hc hp hm
  go_wp2_with fail
  refine wp_region_class (C := Over (w2)) (by kernel_rfl) (by kernel_rfl) (over_drew _) ?_
  repeat (first | go_big_quiet_skip | (go_big_quiet_want; go_big_quiet_op; go_big_quiet_on) | (go_big_quiet_want; apply Exists.intro; refine ⟨fun w' hC => ?_, ?_⟩; (have k0 := over_cell hC hX2.lt (hX2.c 2 rfl); have k1 := over_cell hC bE2.lt (bE2.c 3 rfl); simp [Oper.quietAt, Oper.quietUpon, go_sem, k0, k1, hmin]; first | done | rfl); go_big_quiet_on; simp only [Act.put, List.setIfInBounds_toArray, List.set_cons_zero, List.set_cons_succ]))
  refine wpQuiet_nil ?_
  intro w3 hC
  have k0 := over_cell hC hX2.lt (hX2.c 2 rfl)
  have k1 := over_cell hC bE2.lt (bE2.c 3 rfl)
  clear k0 k1
  have hb := over_below hC
  have hX3 := hX2.keep hb
  have bE3 := bE2.keep hb
  have g3 := grow_row g2 (grown_below hb none) (fun k hk => by cases hk)
  clear hb hC hX2 bE2 g2
  have x0 := hX3.c 0 rfl
  have xf0 := hX3.f 0 (x := _) rfl
  have x1 := hX3.c 1 rfl
  have xf1 := hX3.f 1 (x := _) rfl
  have x2 := hX3.c 2 rfl
  have xf2 := hX3.f 2 (x := _) rfl
  have x3 := hX3.c 3 rfl
  have xf3 := hX3.f 3 (x := _) rfl
  have x4 := hX3.c 4 rfl
  have xf4 := hX3.f 4 (x := _) rfl
  have x5 := hX3.c 5 rfl
  have xf5 := hX3.f 5 (x := _) rfl
  have x6 := hX3.c 6 rfl
  have xf6 := hX3.f 6 (x := _) rfl
  have x7 := hX3.c 7 rfl
  have xf7 := hX3.f 7 (x := _) rfl
  have x8 := hX3.c 8 rfl
  have xf8 := hX3.f 8 (x := _) rfl
  have x9 := hX3.c 9 rfl
  have xf9 := hX3.f 9 (x := _) rfl
  have fe2 := bE3.c 2 rfl
  go_wp2_with fail
  clear fe2 x0 xf0 x1 xf1 x2 xf2 x3 xf3 x4 xf4 x5 xf5 x6 xf6 x7 xf7 x8 xf8 x9 xf9
  have hX4 := (((((hX3.set 4 (.int .i64 3)).set 5 (.int .i64 xh)).set 6 (.int .i64 0)).set 7 (.int .i64 (xh / 3))).set 8 (.int .i64 sa))
  have g4 := (grown_trans (grown_trans (grown_trans (grown_trans (grown_trans g3 (grown_set _ X 4 (.int .i64 3))) (grown_set _ X 5 (.int .i64 xh))) (grown_set _ X 6 (.int .i64 0))) (grown_set _ X 7 (.int .i64 (xh / 3)))) (grown_set _ X 8 (.int .i64 sa)))
  simp only [List.set_cons_zero, List.set_cons_succ] at hX4
  refine (send_any X xa xi xh xp (3) (xh) (0) (xh / 3) (sa) ⟨4, 0, 0, 0, 0⟩ _ _ (fun w => pack_K w) hX4).mono ?_
  rintro e w9 ⟨rfl, v9, hX9, o9, g9⟩
  have G9 := grown_trans g4 g9
  have O9 := o9.mono (base' := w.heap.size) g4.size
  clear o9 g9 hX4
  clear bE3 hX3 g3
  go_wp2
  go_ret
  exact ⟨rfl, v9, hX9, O9, G9⟩
set_option maxHeartbeats 2000000 in
theorem hearOpen_yours (X : Nat) (xa xi xh xp s0 s1 s2 s3 s4 : Int) (ga ca pa ma : Option Addr) (gx cx px mx : Nat) (gs cs : List (Int × Int)) (ps ms : List Int) (ek ee kn sa ho ix pr bw er : Int) (w : World) (hX : Bl w X [.int .i64 xa, .int .i64 xi, .int .i64 xh, .int .i64 xp, .int .i64 s0, .int .i64 s1, .int .i64 s2, .int .i64 s3, .int .i64 s4, .slice none 0 0]) (u : Value) (hu : w.cell? ⟨0, 0, none⟩ = some (.iface 194 u)) (h3 : kn ≠ 3) (hk : kn ∈ [1]) (hg : RdP w (.slice ga gs.length gx) gs) (hc : RdP w (.slice ca cs.length cx) cs) (hp : RdI w (.slice pa ps.length px) ps) (hm : RdI w (.slice ma ms.length mx) ms) (HA : Hid (accB xa xi xh xp gs cs ps ms kn sa ho ix pr bw er = true)) (hmin : ¬ xh ≤ ho) (hb3 : 3 ≤ ho ∧ ho ≤ 255) :
    Calls Tryd.prog 91 #[.pointer (some ⟨X, 0, none⟩), .agg #[.int .i64 ek, .int .i64 kn, .int .i64 sa, .int .i64 ho, .int .i64 ix, .slice ga gs.length gx, .slice ca cs.length cx, .slice pa ps.length px, .int .i64 pr, .slice ma ms.length mx, .int .i64 bw, .int .i64 er, .int .i64 ee]] w fun e w' => e = .returned (.nilIface) ∧ ∃ v, Bl w' X [.int .i64 xa, .int .i64 xi, .int .i64 xh, .int .i64 xp, .int .i64 3, .int .i64 ho, .int .i64 0, .int .i64 (ho / 3), .int .i64 sa, v] ∧ OwnG w' w.heap.size v [⟨4, 0, 0, 0, 0⟩] ∧ w.grownBy w' (some X) := by
  obtain ⟨bE, B0, z⟩ := one w [.int .i64 ek, .int .i64 kn, .int .i64 sa, .int .i64 ho, .int .i64 ix, .slice ga gs.length gx, .slice ca cs.length cx, .slice pa ps.length px, .int .i64 pr, .slice ma ms.length mx, .int .i64 bw, .int .i64 er, .int .i64 ee] 48
  have hne : X ≠ w.heap.size := Nat.ne_of_lt hX.lt
  have hne' : w.heap.size ≠ X := Nat.ne_of_gt hX.lt
  replace hX := hX.keep B0
  have g0 := grown_below B0 (some X)
  clear z
  have hv := cell_keep B0 (World.block_lt_of_cell? w _ hu) hu
  have HIF : Hid ((if kn = 3 then .iface 194 u else if kn ∈ [1] then Value.nilIface else .iface 138 (.int .i64 5)) = .nilIface) := Lib.hid ((if_neg h3).trans (if_pos hk))
  clear h3 hk
  have hq3 : Int.tdiv ho 3 = ho / 3 := by rw [Int.tdiv_eq_ediv_of_nonneg (by omega)]
  have fe0 := bE.c 0 rfl
  have fe1 := bE.c 1 rfl
  have fe2 := bE.c 2 rfl
  have fe3 := bE.c 3 rfl
  have fe4 := bE.c 4 rfl
  have fe5 := bE.c 5 rfl
  have fe6 := bE.c 6 rfl
  have fe7 := bE.c 7 rfl
  have fe8 := bE.c 8 rfl
  have fe9 := bE.c 9 rfl
  have fe10 := bE.c 10 rfl
  have fe11 := bE.c 11 rfl
  have fe12 := bE.c 12 rfl
  go_enter Tryd.func91, Tryd.ntmps91
  go_wp2_with fail
  clear fe0 fe1 fe2 fe3 fe4 fe5 fe6 fe7 fe8 fe9 fe10 fe11 fe12
  have hv2 := cell_keep ((Below.refl (w.alloc (.cells #[.int .i64 ek, .int .i64 kn, .int .i64 sa, .int .i64 ho, .int .i64 ix, .slice ga gs.length gx, .slice ca cs.length cx, .slice pa ps.length px, .int .i64 pr, .slice ma ms.length mx, .int .i64 bw, .int .i64 er, .int .i64 ee] 48)).heap.size (w.alloc (.cells #[.int .i64 ek, .int .i64 kn, .int .i64 sa, .int .i64 ho, .int .i64 ix, .slice ga gs.length gx, .slice ca cs.length cx, .slice pa ps.length px, .int .i64 pr, .slice ma ms.length mx, .int .i64 bw, .int .i64 er, .int .i64 ee] 48))).alloc (Nat.le_refl _) (.cells #[.int .i64 1] 3)) (World.block_lt_of_cell? _ _ hv) hv
  refine (refusal1 ga ca pa ma gx cx px mx gs cs ps ms kn sa ho ix pr bw er _ 1 u _ hv2 (by simp)).mono ?_
  rw [HIF.out]
  rintro e w1 ⟨rfl, hb⟩
  have hX1 := (hX.alloc (.cells #[.int .i64 1] 3)).keep hb
  have bE1 := (bE.alloc (.cells #[.int .i64 1] 3)).keep hb
  have g1 := grow_row (grow_row g0 (grown_alloc (World.grownBy.refl _ none) (.cells #[.int .i64 1] 3)) (fun k hk => by cases hk)) (grown_below hb none) (fun k hk => by cases hk)
  have B1 := below_step (B0.alloc B0.size (.cells #[.int .i64 1] 3)) hb
  clear hv hv2 hb hX bE g0 B0
  replace hg := hg.keep B1
  replace hc := hc.keep B1
  replace hp := hp.keep B1
  replace hm := hm.keep B1
  go_wp2_with fail
  refine wp_region_class (C := Over (w1)) (by kernel_rfl) (by kernel_rfl) (over_drew _) ?_
  repeat (first | go_big_quiet_skip | (go_big_quiet_want; go_big_quiet_op; go_big_quiet_on) | (go_big_quiet_want; go_big_quiet_op; apply Exists.intro; refine ⟨fun w' hC => ?_, ?_⟩; ((first | (go_at_call 12; refine (iAcc_t _ (hg.keep hC) (hc.keep hC) (hp.keep hC) (hm.keep hC) HA).mono ?_; rintro e w1 ⟨rfl, hb1⟩; exact ⟨rfl, over_step hC hb1⟩))); go_big_quiet_on) | (go_big_quiet_want; apply Exists.intro; refine ⟨fun w' hC => ?_, ?_⟩; (have k0 := over_cell hC hX1.lt (hX1.c 0 rfl); have k1 := over_cell hC hX1.lt (hX1.c 1 rfl); have k2 := over_cell hC hX1.lt (hX1.c 2 rfl); have k3 := over_cell hC hX1.lt (hX1.c 3 rfl); have k4 := over_cell hC bE1.lt (bE1.c 1 rfl); have k5 := over_cell hC bE1.lt (bE1.c 2 rfl); have k6 := over_cell hC bE1.lt (bE1.c 3 rfl); have k7 := over_cell hC bE1.lt (bE1.c 4 rfl); have k8 := over_cell hC bE1.lt (bE1.c 5 rfl); have k9 := over_cell hC bE1.lt (bE1.c 6 rfl); have k10 := over_cell hC bE1.lt (bE1.c 7 rfl); have k11 := over_cell hC bE1.lt (bE1.c 8 rfl); have k12 := over_cell hC bE1.lt (bE1.c 9 rfl); have k13 := over_cell hC bE1.lt (bE1.c 10 rfl); have k14 := over_cell hC bE1.lt (bE1.c 11 rfl); simp [Oper.quietAt, Oper.quietUpon, go_sem, k0, k1, k2, k3, k4, k5, k6, k7, k8, k9, k10, k11, k12, k13, k14]; first | done | rfl); go_big_quiet_on; simp only [Act.put, List.setIfInBounds_toArray, List.set_cons_zero, List.set_cons_succ]))
  refine wpQuiet_nil ?_
  intro w2 hC
  have k0 := over_cell hC hX1.lt (hX1.c 0 rfl)
  have k1 := over_cell hC hX1.lt (hX1.c 1 rfl)
  have k2 := over_cell hC hX1.lt (hX1.c 2 rfl)
  have k3 := over_cell hC hX1.lt (hX1.c 3 rfl)
  have k4 := over_cell hC bE1.lt (bE1.c 1 rfl)
  have k5 := over_cell hC bE1.lt (bE1.c 2 rfl)
  have k6 := over_cell hC bE1.lt (bE1.c 3 rfl)
  have k7 := over_cell hC bE1.lt (bE1.c 4 rfl)
  have k8 := over_cell hC bE1.lt (bE1.c 5 rfl)
  have k9 := over_cell hC bE1.lt (bE1.c 6 rfl)
  have k10 := over_cell hC bE1.lt (bE1.c 7 rfl)
  have k11 := over_cell hC bE1.lt (bE1.c 8 rfl)
  have k12 := over_cell hC bE1.lt (bE1.c 9 rfl)
  have k13 := over_cell hC bE1.lt (bE1.c 10 rfl)
  have k14 := over_cell hC bE1.lt (bE1.c 11 rfl)
  clear k0 k1 k2 k3 k4 k5 k6 k7 k8 k9 k10 k11 k12 k13 k14
  have hb := over_below hC
  have hX2 := hX1.keep hb
  have bE2 := bE1.keep hb
  have g2 := grow_row g1 (grown_below hb none) (fun k hk => by cases hk)
  clear hb hC hX1 bE1 g1 B1 hg hc hp hm
  go_wp2_with fail
  refine wp_region_class (C := Over (w2)) (by kernel_rfl) (by kernel_rfl) (over_drew _) ?_
  repeat (first | go_big_quiet_skip | (go_big_quiet_want; go_big_quiet_op; go_big_quiet_on) | (go_big_quiet_want; apply Exists.intro; refine ⟨fun w' hC => ?_, ?_⟩; (have k0 := over_cell hC hX2.lt (hX2.c 2 rfl); have k1 := over_cell hC bE2.lt (bE2.c 3 rfl); simp [Oper.quietAt, Oper.quietUpon, go_sem, k0, k1, hmin]; first | done | rfl); go_big_quiet_on; simp only [Act.put, List.setIfInBounds_toArray, List.set_cons_zero, List.set_cons_succ]))
  refine wpQuiet_nil ?_
  intro w3 hC
  have k0 := over_cell hC hX2.lt (hX2.c 2 rfl)
  have k1 := over_cell hC bE2.lt (bE2.c 3 rfl)
  clear k0 k1
  have hb := over_below hC
  have hX3 := hX2.keep hb
  have bE3 := bE2.keep hb
  have g3 := grow_row g2 (grown_below hb none) (fun k hk => by cases hk)
  clear hb hC hX2 bE2 g2
  have x0 := hX3.c 0 rfl
  have xf0 := hX3.f 0 (x := _) rfl
  have x1 := hX3.c 1 rfl
  have xf1 := hX3.f 1 (x := _) rfl
  have x2 := hX3.c 2 rfl
  have xf2 := hX3.f 2 (x := _) rfl
  have x3 := hX3.c 3 rfl
  have xf3 := hX3.f 3 (x := _) rfl
  have x4 := hX3.c 4 rfl
  have xf4 := hX3.f 4 (x := _) rfl
  have x5 := hX3.c 5 rfl
  have xf5 := hX3.f 5 (x := _) rfl
  have x6 := hX3.c 6 rfl
  have xf6 := hX3.f 6 (x := _) rfl
  have x7 := hX3.c 7 rfl
  have xf7 := hX3.f 7 (x := _) rfl
  have x8 := hX3.c 8 rfl
  have xf8 := hX3.f 8 (x := _) rfl
  have x9 := hX3.c 9 rfl
  have xf9 := hX3.f 9 (x := _) rfl
  have fe2 := bE3.c 2 rfl
  go_wp2_with fail
  clear fe2 x0 xf0 x1 xf1 x2 xf2 x3 xf3 x4 xf4 x5 xf5 x6 xf6 x7 xf7 x8 xf8 x9 xf9
  have hX4 := (((((hX3.set 4 (.int .i64 3)).set 5 (.int .i64 ho)).set 6 (.int .i64 0)).set 7 (.int .i64 (ho / 3))).set 8 (.int .i64 sa))
  have g4 := (grown_trans (grown_trans (grown_trans (grown_trans (grown_trans g3 (grown_set _ X 4 (.int .i64 3))) (grown_set _ X 5 (.int .i64 ho))) (grown_set _ X 6 (.int .i64 0))) (grown_set _ X 7 (.int .i64 (ho / 3)))) (grown_set _ X 8 (.int .i64 sa)))
  simp only [List.set_cons_zero, List.set_cons_succ] at hX4
  refine (send_any X xa xi xh xp (3) (ho) (0) (ho / 3) (sa) ⟨4, 0, 0, 0, 0⟩ _ _ (fun w => pack_K w) hX4).mono ?_
  rintro e w9 ⟨rfl, v9, hX9, o9, g9⟩
  have G9 := grown_trans g4 g9
  have O9 := o9.mono (base' := w.heap.size) g4.size
  clear o9 g9 hX4
  clear bE3 hX3 g3
  go_wp2
  go_ret
  exact ⟨rfl, v9, hX9, O9, G9⟩
set_option maxHeartbeats 2000000 in
theorem wak_hold (X : Nat) (xa xi xh xp s0 s1 s2 s3 s4 : Int) (ga ca pa ma : Option Addr) (gx cx px mx : Nat) (gs cs : List (Int × Int)) (ps ms : List Int) (ek ee kn sa ho ix pr bw er : Int) (w : World) (hX : Bl w X [.int .i64 xa, .int .i64 xi, .int .i64 xh, .int .i64 xp, .int .i64 s0, .int .i64 s1, .int .i64 s2, .int .i64 s3, .int .i64 s4, .slice none 0 0]) (h0 : 0 ≤ s2) (h1 : s2 < 256) (h2 : s2 + 1 = s1) :
    Calls Tryd.prog 94 #[.pointer (some ⟨X, 0, none⟩), .agg #[.int .i64 ek, .int .i64 kn, .int .i64 sa, .int .i64 ho, .int .i64 ix, .slice ga gs.length gx, .slice ca cs.length cx, .slice pa ps.length px, .int .i64 pr, .slice ma ms.length mx, .int .i64 bw, .int .i64 er, .int .i64 ee]] w fun e w' => e = .returned (.iface 138 (.int .i64 4)) ∧ Bl w' X [.int .i64 xa, .int .i64 xi, .int .i64 xh, .int .i64 xp, .int .i64 s0, .int .i64 s1, .int .i64 (s2 + 1), .int .i64 s3, .int .i64 s4, .slice none 0 0] ∧ w.grownBy w' (some X) := by
  obtain ⟨bE, B0, z⟩ := one w [.int .i64 ek, .int .i64 kn, .int .i64 sa, .int .i64 ho, .int .i64 ix, .slice ga gs.length gx, .slice ca cs.length cx, .slice pa ps.length px, .int .i64 pr, .slice ma ms.length mx, .int .i64 bw, .int .i64 er, .int .i64 ee] 48
  have hne : X ≠ w.heap.size := Nat.ne_of_lt hX.lt
  have hne' : w.heap.size ≠ X := Nat.ne_of_gt hX.lt
  replace hX := hX.keep B0
  have g0 := grown_below B0 (some X)
  clear z
  have fe0 := bE.c 0 rfl
  have fe1 := bE.c 1 rfl
  have fe2 := bE.c 2 rfl
  have fe3 := bE.c 3 rfl
  have fe4 := bE.c 4 rfl
  have fe5 := bE.c 5 rfl
  have fe6 := bE.c 6 rfl
  have fe7 := bE.c 7 rfl
  have fe8 := bE.c 8 rfl
  have fe9 := bE.c 9 rfl
  have fe10 := bE.c 10 rfl
  have fe11 := bE.c 11 rfl
  have fe12 := bE.c 12 rfl
  go_enter Tryd.func94, Tryd.ntmps94
  go_wp2_with fail
  clear fe0 fe1 fe2 fe3 fe4 fe5 fe6 fe7 fe8 fe9 fe10 fe11 fe12
  refine (wait_hold X xa xi xh xp s0 s1 s2 s3 s4 ga ca pa ma gx cx px mx gs cs ps ms ek ee kn sa ho ix pr bw er _ hX h0 h1 h2).mono ?_
  rintro e w1 ⟨rfl, hX1, gw⟩
  have g1 := grown_trans g0 gw
  clear gw g0 hX bE B0 h0 h1 h2
  go_wp2
  go_ret
  exact ⟨rfl, hX1, g1⟩
set_option maxHeartbeats 2000000 in
theorem wak_on (X : Nat) (xa xi xh xp s0 s1 s2 s3 s4 : Int) (ga ca pa ma : Option Addr) (gx cx px mx : Nat) (gs cs : List (Int × Int)) (ps ms : List Int) (ek ee kn sa ho ix pr bw er : Int) (w : World) (hX : Bl w X [.int .i64 xa, .int .i64 xi, .int .i64 xh, .int .i64 xp, .int .i64 s0, .int .i64 s1, .int .i64 s2, .int .i64 s3, .int .i64 s4, .slice none 0 0]) (h0 : 0 ≤ s2) (h1 : s2 < 256) (h2 : s2 + 1 ≠ s1) (h3 : 1 ≤ s3 ∧ s3 ≤ 255) (h4 : s3 - 1 ≠ 0) :
    Calls Tryd.prog 94 #[.pointer (some ⟨X, 0, none⟩), .agg #[.int .i64 ek, .int .i64 kn, .int .i64 sa, .int .i64 ho, .int .i64 ix, .slice ga gs.length gx, .slice ca cs.length cx, .slice pa ps.length px, .int .i64 pr, .slice ma ms.length mx, .int .i64 bw, .int .i64 er, .int .i64 ee]] w fun e w' => e = .returned (.nilIface) ∧ Bl w' X [.int .i64 xa, .int .i64 xi, .int .i64 xh, .int .i64 xp, .int .i64 s0, .int .i64 s1, .int .i64 (s2 + 1), .int .i64 (s3 - 1), .int .i64 s4, .slice none 0 0] ∧ w.grownBy w' (some X) := by
  obtain ⟨bE, B0, z⟩ := one w [.int .i64 ek, .int .i64 kn, .int .i64 sa, .int .i64 ho, .int .i64 ix, .slice ga gs.length gx, .slice ca cs.length cx, .slice pa ps.length px, .int .i64 pr, .slice ma ms.length mx, .int .i64 bw, .int .i64 er, .int .i64 ee] 48
  have hne : X ≠ w.heap.size := Nat.ne_of_lt hX.lt
  have hne' : w.heap.size ≠ X := Nat.ne_of_gt hX.lt
  replace hX := hX.keep B0
  have g0 := grown_below B0 (some X)
  clear z
  have hw3 : IntKind.i64.wrap (s3 - 1) = s3 - 1 := wrap64_in _ (by omega) (by omega)
  have hk : (s3 - 1 == 0) = false := by simp [h4]
  clear h4 h3
  have fe0 := bE.c 0 rfl
  have fe1 := bE.c 1 rfl
  have fe2 := bE.c 2 rfl
  have fe3 := bE.c 3 rfl
  have fe4 := bE.c 4 rfl
  have fe5 := bE.c 5 rfl
  have fe6 := bE.c 6 rfl
  have fe7 := bE.c 7 rfl
  have fe8 := bE.c 8 rfl
  have fe9 := bE.c 9 rfl
  have fe10 := bE.c 10 rfl
  have fe11 := bE.c 11 rfl
  have fe12 := bE.c 12 rfl
  go_enter Tryd.func94, Tryd.ntmps94
  go_wp2_with fail
  clear fe0 fe1 fe2 fe3 fe4 fe5 fe6 fe7 fe8 fe9 fe10 fe11 fe12
  refine (wait_on X xa xi xh xp s0 s1 s2 s3 s4 ga ca pa ma gx cx px mx gs cs ps ms ek ee kn sa ho ix pr bw er _ hX h0 h1 h2).mono ?_
  rintro e w1 ⟨rfl, hX1, gw⟩
  have g1 := grown_trans g0 gw
  clear gw g0 hX bE B0 h0 h1 h2
  have x7 := hX1.c 7 rfl
  have xf7 := hX1.f 7 (x := _) rfl
  go_wp2
  go_ret
  exact ⟨rfl, (by simpa only [List.set_cons_zero, List.set_cons_succ] using hX1.set 7 (.int .i64 (s3 - 1))), grown_trans g1 (grown_set _ X 7 _)⟩
set_option maxHeartbeats 2000000 in
theorem wak_keep (X : Nat) (xa xi xh xp s0 s1 s2 s3 s4 : Int) (ga ca pa ma : Option Addr) (gx cx px mx : Nat) (gs cs : List (Int × Int)) (ps ms : List Int) (ek ee kn sa ho ix pr bw er : Int) (w : World) (hX : Bl w X [.int .i64 xa, .int .i64 xi, .int .i64 xh, .int .i64 xp, .int .i64 s0, .int .i64 s1, .int .i64 s2, .int .i64 s3, .int .i64 s4, .slice none 0 0]) (h0 : 0 ≤ s2) (h1 : s2 < 256) (h2 : s2 + 1 ≠ s1) (h3 : 1 ≤ s3 ∧ s3 ≤ 255) (h4 : s3 - 1 = 0) (h5 : 3 ≤ s1 ∧ s1 ≤ 255) :
    Calls Tryd.prog 94 #[.pointer (some ⟨X, 0, none⟩), .agg #[.int .i64 ek, .int .i64 kn, .int .i64 sa, .int .i64 ho, .int .i64 ix, .slice ga gs.length gx, .slice ca cs.length cx, .slice pa ps.length px, .int .i64 pr, .slice ma ms.length mx, .int .i64 bw, .int .i64 er, .int .i64 ee]] w fun e w' => e = .returned (.nilIface) ∧ ∃ v, Bl w' X [.int .i64 xa, .int .i64 xi, .int .i64 xh, .int .i64 xp, .int .i64 s0, .int .i64 s1, .int .i64 (s2 + 1), .int .i64 (s1 / 3), .int .i64 s4, v] ∧ OwnG w' w.heap.size v [⟨4, 0, 0, 0, 0⟩] ∧ w.grownBy w' (some X) := by
  obtain ⟨bE, B0, z⟩ := one w [.int .i64 ek, .int .i64 kn, .int .i64 sa, .int .i64 ho, .int .i64 ix, .slice ga gs.length gx, .slice ca cs.length cx, .slice pa ps.length px, .int .i64 pr, .slice ma ms.length mx, .int .i64 bw, .int .i64 er, .int .i64 ee] 48
  have hne : X ≠ w.heap.size := Nat.ne_of_lt hX.lt
  have hne' : w.heap.size ≠ X := Nat.ne_of_gt hX.lt
  replace hX := hX.keep B0
  have g0 := grown_below B0 (some X)
  clear z
  have hw3 : IntKind.i64.wrap (s3 - 1) = s3 - 1 := wrap64_in _ (by omega) (by omega)
  have hk : (s3 - 1 == 0) = true := by simp [h4]
  have hq3 : Int.tdiv s1 3 = s1 / 3 := by rw [Int.tdiv_eq_ediv_of_nonneg (by omega)]
  clear h4 h3
  have fe0 := bE.c 0 rfl
  have fe1 := bE.c 1 rfl
  have fe2 := bE.c 2 rfl
  have fe3 := bE.c 3 rfl
  have fe4 := bE.c 4 rfl
  have fe5 := bE.c 5 rfl
  have fe6 := bE.c 6 rfl
  have fe7 := bE.c 7 rfl
  have fe8 := bE.c 8 rfl
  have fe9 := bE.c 9 rfl
  have fe10 := bE.c 10 rfl
  have fe11 := bE.c 11 rfl
  have fe12 := bE.c 12 rfl
  go_enter Tryd.func94, Tryd.ntmps94
  go_wp2_with fail
  clear fe0 fe1 fe2 fe3 fe4 fe5 fe6 fe7 fe8 fe9 fe10 fe11 fe12
  refine (wait_on X xa xi xh xp s0 s1 s2 s3 s4 ga ca pa ma gx cx px mx gs cs ps ms ek ee kn sa ho ix pr bw er _ hX h0 h1 h2).mono ?_
  rintro e w1 ⟨rfl, hX1, gw⟩
  have g1 := grown_trans g0 gw
  clear gw g0 hX bE B0 h0 h1 h2
  have x5 := hX1.c 5 rfl
  have xf5 := hX1.f 5 (x := _) rfl
  have x7 := hX1.c 7 rfl
  have xf7 := hX1.f 7 (x := _) rfl
  go_wp2_with fail
  clear x5 xf5 x7 xf7
  have hX4 := ((hX1.set 7 (.int .i64 (s3 - 1))).set 7 (.int .i64 (s1 / 3)))
  have g4 := (grown_trans (grown_trans g1 (grown_set _ X 7 (.int .i64 (s3 - 1)))) (grown_set _ X 7 (.int .i64 (s1 / 3))))
  simp only [List.set_cons_zero, List.set_cons_succ] at hX4
  refine (send_any X xa xi xh xp (s0) (s1) (s2 + 1) (s1 / 3) (s4) ⟨4, 0, 0, 0, 0⟩ _ _ (fun w => pack_K w) hX4).mono ?_
  rintro e w9 ⟨rfl, v9, hX9, o9, g9⟩
  have G9 := grown_trans g4 g9
  have O9 := o9.mono (base' := w.heap.size) g4.size
  clear o9 g9 hX4
  clear hX1 g1
  go_wp2
  go_ret
  exact ⟨rfl, v9, hX9, O9, G9⟩
end Go.Proofs.YtcmbajphholliabDoor
