/-
  The reactions of the program's machine that send nothing. Conditions: those in each contract.
-/
import Derived.Test.YtcmbajphholliabDoorS7
import Derived.Test.YtcmbajphholliabDoorS10
namespace Go.Proofs.YtcmbajphholliabDoor
open Go.ChangeShapes Go.WideShapes Go.ChangeAt Go.RowKit Go.BigFrame Go.Joins
set_option linter.unusedVariables false
set_option maxRecDepth 100000
set_option linter.unusedSimpArgs false

theorem start_any (X : Nat) (xa xi xh xp s0 s1 s2 s3 s4 : Int) (ga ca pa ma : Option Addr) (gx cx px mx : Nat) (gs cs : List (Int × Int)) (ps ms : List Int) (ek ee kn sa ho ix pr bw er : Int) (w : World) (hX : Bl w X [.int .i64 xa, .int .i64 xi, .int .i64 xh, .int .i64 xp, .int .i64 s0, .int .i64 s1, .int .i64 s2, .int .i64 s3, .int .i64 s4, .slice none 0 0])  :
    Calls Tryd.prog 89 #[.pointer (some ⟨X, 0, none⟩), .agg #[.int .i64 ek, .int .i64 kn, .int .i64 sa, .int .i64 ho, .int .i64 ix, .slice ga gs.length gx, .slice ca cs.length cx, .slice pa ps.length px, .int .i64 pr, .slice ma ms.length mx, .int .i64 bw, .int .i64 er, .int .i64 ee]] w fun e w' => e = .returned (.nilIface) ∧ Bl w' X [.int .i64 xa, .int .i64 xi, .int .i64 xh, .int .i64 xp, .int .i64 1, .int .i64 s1, .int .i64 s2, .int .i64 s3, .int .i64 s4, .slice none 0 0] ∧ w.grownBy w' (some X) := by
  obtain ⟨bE, B0, z⟩ := one w [.int .i64 ek, .int .i64 kn, .int .i64 sa, .int .i64 ho, .int .i64 ix, .slice ga gs.length gx, .slice ca cs.length cx, .slice pa ps.length px, .int .i64 pr, .slice ma ms.length mx, .int .i64 bw, .int .i64 er, .int .i64 ee] 48
  have lX := hX.lt
  have hX0 := hX
  replace hX := hX.keep B0
  have g0 := grown_below B0 (some X)
  clear z
  have x4 := hX.c 4 rfl
  have xf4 := hX.f 4 (x := _) rfl
  go_enter Tryd.func89, Tryd.ntmps89
  go_wp2
  go_ret
  exact ⟨rfl, (by simpa only [List.set_cons_zero, List.set_cons_succ] using (hX0.set 4 (.int .i64 1)).alloc _), grow_row (grown_set w X 4 _) (grown_alloc (World.grownBy.refl _ none) _) (fun k hk => by cases hk)⟩
theorem stop_any (X : Nat) (xa xi xh xp s0 s1 s2 s3 s4 : Int) (ga ca pa ma : Option Addr) (gx cx px mx : Nat) (gs cs : List (Int × Int)) (ps ms : List Int) (ek ee kn sa ho ix pr bw er : Int) (w : World) (hX : Bl w X [.int .i64 xa, .int .i64 xi, .int .i64 xh, .int .i64 xp, .int .i64 s0, .int .i64 s1, .int .i64 s2, .int .i64 s3, .int .i64 s4, .slice none 0 0])  :
    Calls Tryd.prog 86 #[.pointer (some ⟨X, 0, none⟩), .agg #[.int .i64 ek, .int .i64 kn, .int .i64 sa, .int .i64 ho, .int .i64 ix, .slice ga gs.length gx, .slice ca cs.length cx, .slice pa ps.length px, .int .i64 pr, .slice ma ms.length mx, .int .i64 bw, .int .i64 er, .int .i64 ee]] w fun e w' => e = .returned (.iface 138 (.int .i64 6)) ∧ Bl w' X [.int .i64 xa, .int .i64 xi, .int .i64 xh, .int .i64 xp, .int .i64 s0, .int .i64 s1, .int .i64 s2, .int .i64 s3, .int .i64 s4, .slice none 0 0] ∧ w.grownBy w' (some X) := by
  obtain ⟨bE, B0, z⟩ := one w [.int .i64 ek, .int .i64 kn, .int .i64 sa, .int .i64 ho, .int .i64 ix, .slice ga gs.length gx, .slice ca cs.length cx, .slice pa ps.length px, .int .i64 pr, .slice ma ms.length mx, .int .i64 bw, .int .i64 er, .int .i64 ee] 48
  have lX := hX.lt
  have hX0 := hX
  replace hX := hX.keep B0
  have g0 := grown_below B0 (some X)
  clear z
  go_enter Tryd.func86, Tryd.ntmps86
  go_wp2
  go_ret
  exact ⟨rfl, hX, g0⟩
theorem lose_any (X : Nat) (xa xi xh xp s0 s1 s2 s3 s4 : Int) (ga ca pa ma : Option Addr) (gx cx px mx : Nat) (gs cs : List (Int × Int)) (ps ms : List Int) (ek ee kn sa ho ix pr bw er : Int) (w : World) (hX : Bl w X [.int .i64 xa, .int .i64 xi, .int .i64 xh, .int .i64 xp, .int .i64 s0, .int .i64 s1, .int .i64 s2, .int .i64 s3, .int .i64 s4, .slice none 0 0]) (u : Value) (hu : w.cell? ⟨0, 0, none⟩ = some (.iface 194 u)) :
    Calls Tryd.prog 87 #[.pointer (some ⟨X, 0, none⟩), .agg #[.int .i64 ek, .int .i64 kn, .int .i64 sa, .int .i64 ho, .int .i64 ix, .slice ga gs.length gx, .slice ca cs.length cx, .slice pa ps.length px, .int .i64 pr, .slice ma ms.length mx, .int .i64 bw, .int .i64 er, .int .i64 ee]] w fun e w' => e = .returned (.iface 194 u) ∧ Bl w' X [.int .i64 xa, .int .i64 xi, .int .i64 xh, .int .i64 xp, .int .i64 s0, .int .i64 s1, .int .i64 s2, .int .i64 s3, .int .i64 s4, .slice none 0 0] ∧ w.grownBy w' (some X) := by
  obtain ⟨bE, B0, z⟩ := one w [.int .i64 ek, .int .i64 kn, .int .i64 sa, .int .i64 ho, .int .i64 ix, .slice ga gs.length gx, .slice ca cs.length cx, .slice pa ps.length px, .int .i64 pr, .slice ma ms.length mx, .int .i64 bw, .int .i64 er, .int .i64 ee] 48
  have lX := hX.lt
  have hX0 := hX
  replace hX := hX.keep B0
  have g0 := grown_below B0 (some X)
  clear z
  have hv := cell_keep B0 (World.block_lt_of_cell? w _ hu) hu
  go_enter Tryd.func87, Tryd.ntmps87
  go_wp2
  go_ret
  exact ⟨rfl, hX, g0⟩
theorem fail_any (X : Nat) (xa xi xh xp s0 s1 s2 s3 s4 : Int) (ga ca pa ma : Option Addr) (gx cx px mx : Nat) (gs cs : List (Int × Int)) (ps ms : List Int) (ek ee kn sa ho ix pr bw er : Int) (w : World) (hX : Bl w X [.int .i64 xa, .int .i64 xi, .int .i64 xh, .int .i64 xp, .int .i64 s0, .int .i64 s1, .int .i64 s2, .int .i64 s3, .int .i64 s4, .slice none 0 0])  :
    Calls Tryd.prog 88 #[.pointer (some ⟨X, 0, none⟩), .agg #[.int .i64 ek, .int .i64 kn, .int .i64 sa, .int .i64 ho, .int .i64 ix, .slice ga gs.length gx, .slice ca cs.length cx, .slice pa ps.length px, .int .i64 pr, .slice ma ms.length mx, .int .i64 bw, .int .i64 er, .int .i64 ee]] w fun e w' => e = .returned (.iface 138 (.int .i64 ee)) ∧ Bl w' X [.int .i64 xa, .int .i64 xi, .int .i64 xh, .int .i64 xp, .int .i64 s0, .int .i64 s1, .int .i64 s2, .int .i64 s3, .int .i64 s4, .slice none 0 0] ∧ w.grownBy w' (some X) := by
  obtain ⟨bE, B0, z⟩ := one w [.int .i64 ek, .int .i64 kn, .int .i64 sa, .int .i64 ho, .int .i64 ix, .slice ga gs.length gx, .slice ca cs.length cx, .slice pa ps.length px, .int .i64 pr, .slice ma ms.length mx, .int .i64 bw, .int .i64 er, .int .i64 ee] 48
  have lX := hX.lt
  have hX0 := hX
  replace hX := hX.keep B0
  have g0 := grown_below B0 (some X)
  clear z
  have e12 := bE.c 12 rfl
  go_enter Tryd.func88, Tryd.ntmps88
  go_wp2
  go_ret
  exact ⟨rfl, hX, g0⟩
theorem wait_hold (X : Nat) (xa xi xh xp s0 s1 s2 s3 s4 : Int) (ga ca pa ma : Option Addr) (gx cx px mx : Nat) (gs cs : List (Int × Int)) (ps ms : List Int) (ek ee kn sa ho ix pr bw er : Int) (w : World) (hX : Bl w X [.int .i64 xa, .int .i64 xi, .int .i64 xh, .int .i64 xp, .int .i64 s0, .int .i64 s1, .int .i64 s2, .int .i64 s3, .int .i64 s4, .slice none 0 0]) (h0 : 0 ≤ s2) (h1 : s2 < 256) (h2 : s2 + 1 = s1) :
    Calls Tryd.prog 92 #[.pointer (some ⟨X, 0, none⟩), .agg #[.int .i64 ek, .int .i64 kn, .int .i64 sa, .int .i64 ho, .int .i64 ix, .slice ga gs.length gx, .slice ca cs.length cx, .slice pa ps.length px, .int .i64 pr, .slice ma ms.length mx, .int .i64 bw, .int .i64 er, .int .i64 ee]] w fun e w' => e = .returned (.iface 138 (.int .i64 4)) ∧ Bl w' X [.int .i64 xa, .int .i64 xi, .int .i64 xh, .int .i64 xp, .int .i64 s0, .int .i64 s1, .int .i64 (s2 + 1), .int .i64 s3, .int .i64 s4, .slice none 0 0] ∧ w.grownBy w' (some X) := by
  obtain ⟨bE, B0, z⟩ := one w [.int .i64 ek, .int .i64 kn, .int .i64 sa, .int .i64 ho, .int .i64 ix, .slice ga gs.length gx, .slice ca cs.length cx, .slice pa ps.length px, .int .i64 pr, .slice ma ms.length mx, .int .i64 bw, .int .i64 er, .int .i64 ee] 48
  have lX := hX.lt
  have hX0 := hX
  replace hX := hX.keep B0
  have g0 := grown_below B0 (some X)
  clear z
  have hw : IntKind.i64.wrap (s2 + 1) = s2 + 1 := wrap64_in _ (by omega) (by omega)
  have hq : (s2 + 1 == s1) = true := by simp [h2]
  clear h2
  have x5 := hX.c 5 rfl
  have xf5 := hX.f 5 (x := _) rfl
  have x6 := hX.c 6 rfl
  have xf6 := hX.f 6 (x := _) rfl
  have hX6 := (hX0.set 6 (.int .i64 (s2 + 1))).alloc (.cells #[.int .i64 ek, .int .i64 kn, .int .i64 sa, .int .i64 ho, .int .i64 ix, .slice ga gs.length gx, .slice ca cs.length cx, .slice pa ps.length px, .int .i64 pr, .slice ma ms.length mx, .int .i64 bw, .int .i64 er, .int .i64 ee] 48)
  have p5 := hX6.c 5 rfl
  have p6 := hX6.c 6 rfl
  go_enter Tryd.func92, Tryd.ntmps92
  go_wp2_with fail
  clear p5 p6
  refine wp_region_class (C := Over ((w.setCell ⟨X, 6, none⟩ (.int .i64 (s2 + 1))).alloc (.cells #[.int .i64 ek, .int .i64 kn, .int .i64 sa, .int .i64 ho, .int .i64 ix, .slice ga gs.length gx, .slice ca cs.length cx, .slice pa ps.length px, .int .i64 pr, .slice ma ms.length mx, .int .i64 bw, .int .i64 er, .int .i64 ee] 48))) (by kernel_rfl) (by kernel_rfl) (over_drew _) ?_
  repeat (first | go_big_quiet_skip | (go_big_quiet_want; go_big_quiet_op; go_big_quiet_on) | (go_big_quiet_want; apply Exists.intro; refine ⟨fun w' hC => ?_, ?_⟩; (have k0 := over_cell hC hX6.lt (hX6.c 5 rfl); have k1 := over_cell hC hX6.lt (hX6.c 6 rfl); simp [Oper.quietAt, Oper.quietUpon, go_sem, k0, k1, hq]; first | done | rfl); go_big_quiet_on; simp only [Act.put, List.setIfInBounds_toArray, List.set_cons_zero, List.set_cons_succ]))
  refine wpQuiet_nil ?_
  intro wr hC
  have k0 := over_cell hC hX6.lt (hX6.c 5 rfl)
  have k1 := over_cell hC hX6.lt (hX6.c 6 rfl)
  clear k0 k1
  have hX7 := hX6.keep (over_below hC)
  have g1 := grow_row (grow_row (grown_set w X 6 (.int .i64 (s2 + 1))) (grown_alloc (World.grownBy.refl _ none) _) (fun k hk => by cases hk)) (grown_below (over_below hC) none) (fun k hk => by cases hk)
  go_wp2
  go_ret
  exact ⟨rfl, (by simpa only [List.set_cons_zero, List.set_cons_succ] using hX7), g1⟩
theorem wait_on (X : Nat) (xa xi xh xp s0 s1 s2 s3 s4 : Int) (ga ca pa ma : Option Addr) (gx cx px mx : Nat) (gs cs : List (Int × Int)) (ps ms : List Int) (ek ee kn sa ho ix pr bw er : Int) (w : World) (hX : Bl w X [.int .i64 xa, .int .i64 xi, .int .i64 xh, .int .i64 xp, .int .i64 s0, .int .i64 s1, .int .i64 s2, .int .i64 s3, .int .i64 s4, .slice none 0 0]) (h0 : 0 ≤ s2) (h1 : s2 < 256) (h2 : s2 + 1 ≠ s1) :
    Calls Tryd.prog 92 #[.pointer (some ⟨X, 0, none⟩), .agg #[.int .i64 ek, .int .i64 kn, .int .i64 sa, .int .i64 ho, .int .i64 ix, .slice ga gs.length gx, .slice ca cs.length cx, .slice pa ps.length px, .int .i64 pr, .slice ma ms.length mx, .int .i64 bw, .int .i64 er, .int .i64 ee]] w fun e w' => e = .returned (.nilIface) ∧ Bl w' X [.int .i64 xa, .int .i64 xi, .int .i64 xh, .int .i64 xp, .int .i64 s0, .int .i64 s1, .int .i64 (s2 + 1), .int .i64 s3, .int .i64 s4, .slice none 0 0] ∧ w.grownBy w' (some X) := by
  obtain ⟨bE, B0, z⟩ := one w [.int .i64 ek, .int .i64 kn, .int .i64 sa, .int .i64 ho, .int .i64 ix, .slice ga gs.length gx, .slice ca cs.length cx, .slice pa ps.length px, .int .i64 pr, .slice ma ms.length mx, .int .i64 bw, .int .i64 er, .int .i64 ee] 48
  have lX := hX.lt
  have hX0 := hX
  replace hX := hX.keep B0
  have g0 := grown_below B0 (some X)
  clear z
  have hw : IntKind.i64.wrap (s2 + 1) = s2 + 1 := wrap64_in _ (by omega) (by omega)
  have hq : (s2 + 1 == s1) = false := by simp [h2]
  clear h2
  have x5 := hX.c 5 rfl
  have xf5 := hX.f 5 (x := _) rfl
  have x6 := hX.c 6 rfl
  have xf6 := hX.f 6 (x := _) rfl
  have hX6 := (hX0.set 6 (.int .i64 (s2 + 1))).alloc (.cells #[.int .i64 ek, .int .i64 kn, .int .i64 sa, .int .i64 ho, .int .i64 ix, .slice ga gs.length gx, .slice ca cs.length cx, .slice pa ps.length px, .int .i64 pr, .slice ma ms.length mx, .int .i64 bw, .int .i64 er, .int .i64 ee] 48)
  have p5 := hX6.c 5 rfl
  have p6 := hX6.c 6 rfl
  go_enter Tryd.func92, Tryd.ntmps92
  go_wp2_with fail
  clear p5 p6
  refine wp_region_class (C := Over ((w.setCell ⟨X, 6, none⟩ (.int .i64 (s2 + 1))).alloc (.cells #[.int .i64 ek, .int .i64 kn, .int .i64 sa, .int .i64 ho, .int .i64 ix, .slice ga gs.length gx, .slice ca cs.length cx, .slice pa ps.length px, .int .i64 pr, .slice ma ms.length mx, .int .i64 bw, .int .i64 er, .int .i64 ee] 48))) (by kernel_rfl) (by kernel_rfl) (over_drew _) ?_
  repeat (first | go_big_quiet_skip | (go_big_quiet_want; go_big_quiet_op; go_big_quiet_on) | (go_big_quiet_want; apply Exists.intro; refine ⟨fun w' hC => ?_, ?_⟩; (have k0 := over_cell hC hX6.lt (hX6.c 5 rfl); have k1 := over_cell hC hX6.lt (hX6.c 6 rfl); simp [Oper.quietAt, Oper.quietUpon, go_sem, k0, k1, hq]; first | done | rfl); go_big_quiet_on; simp only [Act.put, List.setIfInBounds_toArray, List.set_cons_zero, List.set_cons_succ]))
  refine wpQuiet_nil ?_
  intro wr hC
  have k0 := over_cell hC hX6.lt (hX6.c 5 rfl)
  have k1 := over_cell hC hX6.lt (hX6.c 6 rfl)
  clear k0 k1
  have hX7 := hX6.keep (over_below hC)
  have g1 := grow_row (grow_row (grown_set w X 6 (.int .i64 (s2 + 1))) (grown_alloc (World.grownBy.refl _ none) _) (fun k hk => by cases hk)) (grown_below (over_below hC) none) (fun k hk => by cases hk)
  go_wp2
  go_ret
  exact ⟨rfl, (by simpa only [List.set_cons_zero, List.set_cons_succ] using hX7), g1⟩
theorem refusal1 (ga ca pa ma : Option Addr) (gx cx px mx : Nat) (gs cs : List (Int × Int)) (ps ms : List Int) (kn sa ho ix pr bw er : Int) (g : Nat) (k1 : Int) (u : Value) (w : World) (hu : w.cell? ⟨0, 0, none⟩ = some (.iface 194 u)) (h0 : w.cell? ⟨g, 0, none⟩ = some (.int .i64 k1)) :
    Calls Tryd.prog 109 #[.agg #[.int .i64 kn, .int .i64 sa, .int .i64 ho, .int .i64 ix, .slice ga gs.length gx, .slice ca cs.length cx, .slice pa ps.length px, .int .i64 pr, .slice ma ms.length mx, .int .i64 bw, .int .i64 er], .slice (some ⟨g, 0, none⟩) 1 1] w fun e w' => e = .returned (if kn = 3 then .iface 194 u else if kn ∈ [k1] then .nilIface else .iface 138 (.int .i64 5)) ∧ Below w.heap.size w w' := by
  obtain ⟨bM, B0, z⟩ := one w [.int .i64 kn, .int .i64 sa, .int .i64 ho, .int .i64 ix, .slice ga gs.length gx, .slice ca cs.length cx, .slice pa ps.length px, .int .i64 pr, .slice ma ms.length mx, .int .i64 bw, .int .i64 er] 38
  have hv := cell_keep B0 (World.block_lt_of_cell? w _ hu) hu
  replace h0 := cell_keep B0 (World.block_lt_of_cell? w _ h0) h0
  have m0 := bM.c 0 rfl
  clear z hu
  by_cases h3 : kn = 3
  · subst h3
    go_enter Tryd.func109, Tryd.ntmps109
    go_wp2
    go_ret
    exact ⟨rfl, B0⟩
  · have hb3 : (kn == 3) = false := by simp [h3]
    have H3 := Lib.hid h3
    clear h3
    by_cases hk : kn ∈ [k1]
    · have HK := Lib.hid hk
      have hd := decide_eq_true hk
      rw [if_neg H3.out, if_pos hk]
      clear hk
      go_enter Tryd.func109, Tryd.ntmps109
      go_wp2_with fail
      refine (contains1 g k1 kn _ h0).mono ?_
      rw [hd]
      rintro e w1 ⟨rfl, hb⟩
      replace B0 := below_step B0 hb
      clear hv m0 hb bM hd h0
      go_wp2
      go_ret
      exact ⟨rfl, B0⟩
    · have HK := Lib.hid hk
      have hd := decide_eq_false hk
      rw [if_neg H3.out, if_neg hk]
      clear hk
      go_enter Tryd.func109, Tryd.ntmps109
      go_wp2_with fail
      refine (contains1 g k1 kn _ h0).mono ?_
      rw [hd]
      rintro e w1 ⟨rfl, hb⟩
      replace B0 := below_step B0 hb
      clear hv m0 hb bM hd h0
      go_wp2
      go_ret
      exact ⟨rfl, B0⟩
theorem refusal2 (ga ca pa ma : Option Addr) (gx cx px mx : Nat) (gs cs : List (Int × Int)) (ps ms : List Int) (kn sa ho ix pr bw er : Int) (g : Nat) (k1 k2 : Int) (u : Value) (w : World) (hu : w.cell? ⟨0, 0, none⟩ = some (.iface 194 u)) (h0 : w.cell? ⟨g, 0, none⟩ = some (.int .i64 k1)) (h1 : w.cell? ⟨g, 1, none⟩ = some (.int .i64 k2)) :
    Calls Tryd.prog 109 #[.agg #[.int .i64 kn, .int .i64 sa, .int .i64 ho, .int .i64 ix, .slice ga gs.length gx, .slice ca cs.length cx, .slice pa ps.length px, .int .i64 pr, .slice ma ms.length mx, .int .i64 bw, .int .i64 er], .slice (some ⟨g, 0, none⟩) 2 2] w fun e w' => e = .returned (if kn = 3 then .iface 194 u else if kn ∈ [k1, k2] then .nilIface else .iface 138 (.int .i64 5)) ∧ Below w.heap.size w w' := by
  obtain ⟨bM, B0, z⟩ := one w [.int .i64 kn, .int .i64 sa, .int .i64 ho, .int .i64 ix, .slice ga gs.length gx, .slice ca cs.length cx, .slice pa ps.length px, .int .i64 pr, .slice ma ms.length mx, .int .i64 bw, .int .i64 er] 38
  have hv := cell_keep B0 (World.block_lt_of_cell? w _ hu) hu
  replace h0 := cell_keep B0 (World.block_lt_of_cell? w _ h0) h0
  replace h1 := cell_keep B0 (World.block_lt_of_cell? w _ h1) h1
  have m0 := bM.c 0 rfl
  clear z hu
  by_cases h3 : kn = 3
  · subst h3
    go_enter Tryd.func109, Tryd.ntmps109
    go_wp2
    go_ret
    exact ⟨rfl, B0⟩
  · have hb3 : (kn == 3) = false := by simp [h3]
    have H3 := Lib.hid h3
    clear h3
    by_cases hk : kn ∈ [k1, k2]
    · have HK := Lib.hid hk
      have hd := decide_eq_true hk
      rw [if_neg H3.out, if_pos hk]
      clear hk
      go_enter Tryd.func109, Tryd.ntmps109
      go_wp2_with fail
      refine (contains2 g k1 k2 kn _ h0 h1).mono ?_
      rw [hd]
      rintro e w1 ⟨rfl, hb⟩
      replace B0 := below_step B0 hb
      clear hv m0 hb bM hd h0 h1
      go_wp2
      go_ret
      exact ⟨rfl, B0⟩
    · have HK := Lib.hid hk
      have hd := decide_eq_false hk
      rw [if_neg H3.out, if_neg hk]
      clear hk
      go_enter Tryd.func109, Tryd.ntmps109
      go_wp2_with fail
      refine (contains2 g k1 k2 kn _ h0 h1).mono ?_
      rw [hd]
      rintro e w1 ⟨rfl, hb⟩
      replace B0 := below_step B0 hb
      clear hv m0 hb bM hd h0 h1
      go_wp2
      go_ret
      exact ⟨rfl, B0⟩
end Go.Proofs.YtcmbajphholliabDoor
