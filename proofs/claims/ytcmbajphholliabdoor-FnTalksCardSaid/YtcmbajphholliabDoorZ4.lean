/-
  The reactions of the machine that Greet needs, in any state of what is sent. Conditions: those in each contract.
  The machine handles a message, in any state of what is sent. Conditions: those in each contract.
-/
import Derived.Test.YtcmbajphholliabDoorS14
import Derived.Test.YtcmbajphholliabDoorZ2
namespace Go.Proofs.YtcmbajphholliabDoor
open Go.ChangeShapes Go.WideShapes Go.ChangeAt Go.RowKit Go.BigFrame Go.Joins
set_option linter.unusedVariables false
set_option maxRecDepth 100000
set_option linter.unusedSimpArgs false

set_option maxHeartbeats 2000000 in
theorem hearOpen_badR (va : Option Addr) (vn vc : Nat) (X : Nat) (xa xi xh xp s0 s1 s2 s3 s4 : Int) (ga ca pa ma : Option Addr) (gx cx px mx : Nat) (gs cs : List (Int × Int)) (ps ms : List Int) (ek ee kn sa ho ix pr bw er : Int) (w : World) (hX : Bl w X [.int .i64 xa, .int .i64 xi, .int .i64 xh, .int .i64 xp, .int .i64 s0, .int .i64 s1, .int .i64 s2, .int .i64 s3, .int .i64 s4, .slice va vn vc]) (u : Value) (hu : w.cell? ⟨0, 0, none⟩ = some (.iface 194 u)) (h3 : kn ≠ 3) (hk : kn ∈ [1]) (hg : RdP w (.slice ga gs.length gx) gs) (hc : RdP w (.slice ca cs.length cx) cs) (hp : RdI w (.slice pa ps.length px) ps) (hm : RdI w (.slice ma ms.length mx) ms) (HA : Hid (accB xa xi xh xp gs cs ps ms kn sa ho ix pr bw er = false)) :
    Calls Tryd.prog 91 #[.pointer (some ⟨X, 0, none⟩), .agg #[.int .i64 ek, .int .i64 kn, .int .i64 sa, .int .i64 ho, .int .i64 ix, .slice ga gs.length gx, .slice ca cs.length cx, .slice pa ps.length px, .int .i64 pr, .slice ma ms.length mx, .int .i64 bw, .int .i64 er, .int .i64 ee]] w fun e w' => e = .returned (.iface 138 (.int .i64 2)) ∧ Bl w' X [.int .i64 xa, .int .i64 xi, .int .i64 xh, .int .i64 xp, .int .i64 s0, .int .i64 s1, .int .i64 s2, .int .i64 s3, .int .i64 s4, .slice va vn vc] ∧ w.grownBy w' (some X) := by
  obtain ⟨bE, B0, z⟩ := one w [.int .i64 ek, .int .i64 kn, .int .i64 sa, .int .i64 ho, .int .i64 ix, .slice ga gs.length gx, .slice ca cs.length cx, .slice pa ps.length px, .int .i64 pr, .slice ma ms.length mx, .int .i64 bw, .int .i64 er, .int .i64 ee] 48
  have hne : X ≠ w.heap.size := Nat.ne_of_lt hX.lt
  have hne' : w.heap.size ≠ X := Nat.ne_of_gt hX.lt
  replace hX := hX.keep B0
  have g0 := grown_below B0 (some X)
  clear z
  have hv := cell_keep B0 (World.block_lt_of_cell? w _ hu) hu
  have HIF : Hid ((if kn = 3 then .iface 194 u else if kn ∈ [1] then Value.nilIface else .iface 138 (.int .i64 5)) = .nilIface) := Lib.hid ((if_neg h3).trans (if_pos hk))
  clear h3 hk
  have fe0 := bE.c 0 rfl
  have fe1 := bE.c 1 rfl
  have fe2 := bE.c 2 rfl
  have fe3 := bE.c 3 rfl
  have fe4 := bE.c 4 rfl
  have fe5 := bE.c 5 rfl
  have fe6 := bE.c 6 rfl
  have fe7 := bE.c 7 rfl
  have fe8 := bE.c 8 rfl
  have fe9 := bE.c 9 rfl
  have fe10 := bE.c 10 rfl
  have fe11 := bE.c 11 rfl
  have fe12 := bE.c 12 rfl
  go_enter Tryd.func91, Tryd.ntmps91
  go_wp2_with fail
  clear fe0 fe1 fe2 fe3 fe4 fe5 fe6 fe7 fe8 fe9 fe10 fe11 fe12
  have hv2 := cell_keep ((Below.refl (w.alloc (.cells #[.int .i64 ek, .int .i64 kn, .int .i64 sa, .int .i64 ho, .int .i64 ix, .slice ga gs.length gx, .slice ca cs.length cx, .slice pa ps.length px, .int .i64 pr, .slice ma ms.length mx, .int .i64 bw, .int .i64 er, .int .i64 ee] 48)).heap.size (w.alloc (.cells #[.int .i64 ek, .int .i64 kn, .int .i64 sa, .int .i64 ho, .int .i64 ix, .slice ga gs.length gx, .slice ca cs.length cx, .slice pa ps.length px, .int .i64 pr, .slice ma ms.length mx, .int .i64 bw, .int .i64 er, .int .i64 ee] 48))).alloc (Nat.le_refl _) (.cells #[.int .i64 1] 3)) (World.block_lt_of_cell? _ _ hv) hv
  refine (refusal1 ga ca pa ma gx cx px mx gs cs ps ms kn sa ho ix pr bw er _ 1 u _ hv2 (by simp)).mono ?_
  rw [HIF.out]
  rintro e w1 ⟨rfl, hb⟩
  have hX1 := (hX.alloc (.cells #[.int .i64 1] 3)).keep hb
  have bE1 := (bE.alloc (.cells #[.int .i64 1] 3)).keep hb
  have g1 := grow_row (grow_row g0 (grown_alloc (World.grownBy.refl _ none) (.cells #[.int .i64 1] 3)) (fun k hk => by cases hk)) (grown_below hb none) (fun k hk => by cases hk)
  have B1 := below_step (B0.alloc B0.size (.cells #[.int .i64 1] 3)) hb
  clear hv hv2 hb hX bE g0 B0
  replace hg := hg.keep B1
  replace hc := hc.keep B1
  replace hp := hp.keep B1
  replace hm := hm.keep B1
  go_wp2_with fail
  refine wp_region_class (C := Over (w1)) (by kernel_rfl) (by kernel_rfl) (over_drew _) ?_
  repeat (first | go_big_quiet_skip | (go_big_quiet_want; go_big_quiet_op; go_big_quiet_on) | (go_big_quiet_want; go_big_quiet_op; apply Exists.intro; refine ⟨fun w' hC => ?_, ?_⟩; ((first | (go_at_call 12; refine (iAcc_t _ (hg.keep hC) (hc.keep hC) (hp.keep hC) (hm.keep hC) HA).mono ?_; rintro e w1 ⟨rfl, hb1⟩; exact ⟨rfl, over_step hC hb1⟩))); go_big_quiet_on) | (go_big_quiet_want; apply Exists.intro; refine ⟨fun w' hC => ?_, ?_⟩; (have k0 := over_cell hC hX1.lt (hX1.c 0 rfl); have k1 := over_cell hC hX1.lt (hX1.c 1 rfl); have k2 := over_cell hC hX1.lt (hX1.c 2 rfl); have k3 := over_cell hC hX1.lt (hX1.c 3 rfl); have k4 := over_cell hC bE1.lt (bE1.c 1 rfl); have k5 := over_cell hC bE1.lt (bE1.c 2 rfl); have k6 := over_cell hC bE1.lt (bE1.c 3 rfl); have k7 := over_cell hC bE1.lt (bE1.c 4 rfl); have k8 := over_cell hC bE1.lt (bE1.c 5 rfl); have k9 := over_cell hC bE1.lt (bE1.c 6 rfl); have k10 := over_cell hC bE1.lt (bE1.c 7 rfl); have k11 := over_cell hC bE1.lt (bE1.c 8 rfl); have k12 := over_cell hC bE1.lt (bE1.c 9 rfl); have k13 := over_cell hC bE1.lt (bE1.c 10 rfl); have k14 := over_cell hC bE1.lt (bE1.c 11 rfl); simp [Oper.quietAt, Oper.quietUpon, go_sem, k0, k1, k2, k3, k4, k5, k6, k7, k8, k9, k10, k11, k12, k13, k14]; first | done | rfl); go_big_quiet_on; simp only [Act.put, List.setIfInBounds_toArray, List.set_cons_zero, List.set_cons_succ]))
  refine wpQuiet_nil ?_
  intro w2 hC
  have k0 := over_cell hC hX1.lt (hX1.c 0 rfl)
  have k1 := over_cell hC hX1.lt (hX1.c 1 rfl)
  have k2 := over_cell hC hX1.lt (hX1.c 2 rfl)
  have k3 := over_cell hC hX1.lt (hX1.c 3 rfl)
  have k4 := over_cell hC bE1.lt (bE1.c 1 rfl)
  have k5 := over_cell hC bE1.lt (bE1.c 2 rfl)
  have k6 := over_cell hC bE1.lt (bE1.c 3 rfl)
  have k7 := over_cell hC bE1.lt (bE1.c 4 rfl)
  have k8 := over_cell hC bE1.lt (bE1.c 5 rfl)
  have k9 := over_cell hC bE1.lt (bE1.c 6 rfl)
  have k10 := over_cell hC bE1.lt (bE1.c 7 rfl)
  have k11 := over_cell hC bE1.lt (bE1.c 8 rfl)
  have k12 := over_cell hC bE1.lt (bE1.c 9 rfl)
  have k13 := over_cell hC bE1.lt (bE1.c 10 rfl)
  have k14 := over_cell hC bE1.lt (bE1.c 11 rfl)
  clear k0 k1 k2 k3 k4 k5 k6 k7 k8 k9 k10 k11 k12 k13 k14
  have hb := over_below hC
  have hX2 := hX1.keep hb
  have bE2 := bE1.keep hb
  have g2 := grow_row g1 (grown_below hb none) (fun k hk => by cases hk)
  clear hb hC hX1 bE1 g1 B1 hg hc hp hm
  go_wp2
  go_ret
  exact ⟨rfl, hX2, g2⟩
set_option maxHeartbeats 1000000 in
theorem hearKeep_goneR (va : Option Addr) (vn vc : Nat) (X : Nat) (xa xi xh xp s0 s1 s2 s3 s4 : Int) (ga ca pa ma : Option Addr) (gx cx px mx : Nat) (gs cs : List (Int × Int)) (ps ms : List Int) (ek ee kn sa ho ix pr bw er : Int) (w : World) (hX : Bl w X [.int .i64 xa, .int .i64 xi, .int .i64 xh, .int .i64 xp, .int .i64 s0, .int .i64 s1, .int .i64 s2, .int .i64 s3, .int .i64 s4, .slice va vn vc]) (u : Value) (hu : w.cell? ⟨0, 0, none⟩ = some (.iface 194 u)) (h3 : kn = 3) :
    Calls Tryd.prog 93 #[.pointer (some ⟨X, 0, none⟩), .agg #[.int .i64 ek, .int .i64 kn, .int .i64 sa, .int .i64 ho, .int .i64 ix, .slice ga gs.length gx, .slice ca cs.length cx, .slice pa ps.length px, .int .i64 pr, .slice ma ms.length mx, .int .i64 bw, .int .i64 er, .int .i64 ee]] w fun e w' => e = .returned (.iface 194 u) ∧ Bl w' X [.int .i64 xa, .int .i64 xi, .int .i64 xh, .int .i64 xp, .int .i64 s0, .int .i64 s1, .int .i64 s2, .int .i64 s3, .int .i64 s4, .slice va vn vc] ∧ w.grownBy w' (some X) := by
  obtain ⟨bE, B0, z⟩ := one w [.int .i64 ek, .int .i64 kn, .int .i64 sa, .int .i64 ho, .int .i64 ix, .slice ga gs.length gx, .slice ca cs.length cx, .slice pa ps.length px, .int .i64 pr, .slice ma ms.length mx, .int .i64 bw, .int .i64 er, .int .i64 ee] 48
  have hne : X ≠ w.heap.size := Nat.ne_of_lt hX.lt
  have hne' : w.heap.size ≠ X := Nat.ne_of_gt hX.lt
  replace hX := hX.keep B0
  have g0 := grown_below B0 (some X)
  clear z
  have hv := cell_keep B0 (World.block_lt_of_cell? w _ hu) hu
  have HIF : Hid ((if kn = 3 then .iface 194 u else if kn ∈ [4] then Value.nilIface else .iface 138 (.int .i64 5)) = .iface 194 u) := Lib.hid (if_pos h3)
  clear h3
  have fe0 := bE.c 0 rfl
  have fe1 := bE.c 1 rfl
  have fe2 := bE.c 2 rfl
  have fe3 := bE.c 3 rfl
  have fe4 := bE.c 4 rfl
  have fe5 := bE.c 5 rfl
  have fe6 := bE.c 6 rfl
  have fe7 := bE.c 7 rfl
  have fe8 := bE.c 8 rfl
  have fe9 := bE.c 9 rfl
  have fe10 := bE.c 10 rfl
  have fe11 := bE.c 11 rfl
  have fe12 := bE.c 12 rfl
  go_enter Tryd.func93, Tryd.ntmps93
  go_wp2_with fail
  clear fe0 fe1 fe2 fe3 fe4 fe5 fe6 fe7 fe8 fe9 fe10 fe11 fe12
  have hv2 := cell_keep ((Below.refl (w.alloc (.cells #[.int .i64 ek, .int .i64 kn, .int .i64 sa, .int .i64 ho, .int .i64 ix, .slice ga gs.length gx, .slice ca cs.length cx, .slice pa ps.length px, .int .i64 pr, .slice ma ms.length mx, .int .i64 bw, .int .i64 er, .int .i64 ee] 48)).heap.size (w.alloc (.cells #[.int .i64 ek, .int .i64 kn, .int .i64 sa, .int .i64 ho, .int .i64 ix, .slice ga gs.length gx, .slice ca cs.length cx, .slice pa ps.length px, .int .i64 pr, .slice ma ms.length mx, .int .i64 bw, .int .i64 er, .int .i64 ee] 48))).alloc (Nat.le_refl _) (.cells #[.int .i64 4] 3)) (World.block_lt_of_cell? _ _ hv) hv
  refine (refusal1 ga ca pa ma gx cx px mx gs cs ps ms kn sa ho ix pr bw er _ 4 u _ hv2 (by simp)).mono ?_
  rw [HIF.out]
  rintro e w1 ⟨rfl, hb⟩
  have hX1 := (hX.alloc (.cells #[.int .i64 4] 3)).keep hb
  have bE1 := (bE.alloc (.cells #[.int .i64 4] 3)).keep hb
  have g1 := grow_row (grow_row g0 (grown_alloc (World.grownBy.refl _ none) (.cells #[.int .i64 4] 3)) (fun k hk => by cases hk)) (grown_below hb none) (fun k hk => by cases hk)
  have B1 := below_step (B0.alloc B0.size (.cells #[.int .i64 4] 3)) hb
  clear hv hv2 hb hX bE g0 B0
  go_wp2
  go_ret
  exact ⟨rfl, hX1, g1⟩
set_option maxHeartbeats 2000000 in
theorem hearKeep_yesR (va : Option Addr) (vn vc : Nat) (X : Nat) (xa xi xh xp s0 s1 s2 s3 s4 : Int) (ga ca pa ma : Option Addr) (gx cx px mx : Nat) (gs cs : List (Int × Int)) (ps ms : List Int) (ek ee kn sa ho ix pr bw er : Int) (w : World) (hX : Bl w X [.int .i64 xa, .int .i64 xi, .int .i64 xh, .int .i64 xp, .int .i64 s0, .int .i64 s1, .int .i64 s2, .int .i64 s3, .int .i64 s4, .slice va vn vc]) (u : Value) (hu : w.cell? ⟨0, 0, none⟩ = some (.iface 194 u)) (h3 : kn ≠ 3) (hk : kn ∈ [4])  :
    Calls Tryd.prog 93 #[.pointer (some ⟨X, 0, none⟩), .agg #[.int .i64 ek, .int .i64 kn, .int .i64 sa, .int .i64 ho, .int .i64 ix, .slice ga gs.length gx, .slice ca cs.length cx, .slice pa ps.length px, .int .i64 pr, .slice ma ms.length mx, .int .i64 bw, .int .i64 er, .int .i64 ee]] w fun e w' => e = .returned (.nilIface) ∧ Bl w' X [.int .i64 xa, .int .i64 xi, .int .i64 xh, .int .i64 xp, .int .i64 4, .int .i64 s1, .int .i64 0, .int .i64 s3, .int .i64 s4, .slice va vn vc] ∧ w.grownBy w' (some X) := by
  obtain ⟨bE, B0, z⟩ := one w [.int .i64 ek, .int .i64 kn, .int .i64 sa, .int .i64 ho, .int .i64 ix, .slice ga gs.length gx, .slice ca cs.length cx, .slice pa ps.length px, .int .i64 pr, .slice ma ms.length mx, .int .i64 bw, .int .i64 er, .int .i64 ee] 48
  have hne : X ≠ w.heap.size := Nat.ne_of_lt hX.lt
  have hne' : w.heap.size ≠ X := Nat.ne_of_gt hX.lt
  replace hX := hX.keep B0
  have g0 := grown_below B0 (some X)
  clear z
  have hv := cell_keep B0 (World.block_lt_of_cell? w _ hu) hu
  have HIF : Hid ((if kn = 3 then .iface 194 u else if kn ∈ [4] then Value.nilIface else .iface 138 (.int .i64 5)) = .nilIface) := Lib.hid ((if_neg h3).trans (if_pos hk))
  clear h3 hk
  have fe0 := bE.c 0 rfl
  have fe1 := bE.c 1 rfl
  have fe2 := bE.c 2 rfl
  have fe3 := bE.c 3 rfl
  have fe4 := bE.c 4 rfl
  have fe5 := bE.c 5 rfl
  have fe6 := bE.c 6 rfl
  have fe7 := bE.c 7 rfl
  have fe8 := bE.c 8 rfl
  have fe9 := bE.c 9 rfl
  have fe10 := bE.c 10 rfl
  have fe11 := bE.c 11 rfl
  have fe12 := bE.c 12 rfl
  go_enter Tryd.func93, Tryd.ntmps93
  go_wp2_with fail
  clear fe0 fe1 fe2 fe3 fe4 fe5 fe6 fe7 fe8 fe9 fe10 fe11 fe12
  have hv2 := cell_keep ((Below.refl (w.alloc (.cells #[.int .i64 ek, .int .i64 kn, .int .i64 sa, .int .i64 ho, .int .i64 ix, .slice ga gs.length gx, .slice ca cs.length cx, .slice pa ps.length px, .int .i64 pr, .slice ma ms.length mx, .int .i64 bw, .int .i64 er, .int .i64 ee] 48)).heap.size (w.alloc (.cells #[.int .i64 ek, .int .i64 kn, .int .i64 sa, .int .i64 ho, .int .i64 ix, .slice ga gs.length gx, .slice ca cs.length cx, .slice pa ps.length px, .int .i64 pr, .slice ma ms.length mx, .int .i64 bw, .int .i64 er, .int .i64 ee] 48))).alloc (Nat.le_refl _) (.cells #[.int .i64 4] 3)) (World.block_lt_of_cell? _ _ hv) hv
  refine (refusal1 ga ca pa ma gx cx px mx gs cs ps ms kn sa ho ix pr bw er _ 4 u _ hv2 (by simp)).mono ?_
  rw [HIF.out]
  rintro e w1 ⟨rfl, hb⟩
  have hX1 := (hX.alloc (.cells #[.int .i64 4] 3)).keep hb
  have bE1 := (bE.alloc (.cells #[.int .i64 4] 3)).keep hb
  have g1 := grow_row (grow_row g0 (grown_alloc (World.grownBy.refl _ none) (.cells #[.int .i64 4] 3)) (fun k hk => by cases hk)) (grown_below hb none) (fun k hk => by cases hk)
  have B1 := below_step (B0.alloc B0.size (.cells #[.int .i64 4] 3)) hb
  clear hv hv2 hb hX bE g0 B0
  have x4 := hX1.c 4 rfl
  have xf4 := hX1.f 4 (x := _) rfl
  have x6 := hX1.c 6 rfl
  have xf6 := hX1.f 6 (x := _) rfl
  go_wp2
  go_ret
  exact ⟨rfl, (by simpa only [List.set_cons_zero, List.set_cons_succ] using (hX1.set 4 (.int .i64 4)).set 6 (.int .i64 0)), grown_trans (grown_trans g1 (grown_set _ X 4 _)) (grown_set _ X 6 _)⟩
set_option maxHeartbeats 2000000 in
theorem hearOpen_mineR (va : Option Addr) (vn vc base : Nat) (l : List Bm) (X : Nat) (xa xi xh xp s0 s1 s2 s3 s4 : Int) (ga ca pa ma : Option Addr) (gx cx px mx : Nat) (gs cs : List (Int × Int)) (ps ms : List Int) (ek ee kn sa ho ix pr bw er : Int) (w : World) (hX : Bl w X [.int .i64 xa, .int .i64 xi, .int .i64 xh, .int .i64 xp, .int .i64 s0, .int .i64 s1, .int .i64 s2, .int .i64 s3, .int .i64 s4, .slice va vn vc]) (u : Value) (hu : w.cell? ⟨0, 0, none⟩ = some (.iface 194 u)) (h3 : kn ≠ 3) (hk : kn ∈ [1]) (hg : RdP w (.slice ga gs.length gx) gs) (hc : RdP w (.slice ca cs.length cx) cs) (hp : RdI w (.slice pa ps.length px) ps) (hm : RdI w (.slice ma ms.length mx) ms) (HA : Hid (accB xa xi xh xp gs cs ps ms kn sa ho ix pr bw er = true)) (hmin : xh ≤ ho) (hb3 : 3 ≤ xh ∧ xh ≤ 255) (HS : Hid (Sent w X base (.slice va vn vc) l)) :
    Calls Tryd.prog 91 #[.pointer (some ⟨X, 0, none⟩), .agg #[.int .i64 ek, .int .i64 kn, .int .i64 sa, .int .i64 ho, .int .i64 ix, .slice ga gs.length gx, .slice ca cs.length cx, .slice pa ps.length px, .int .i64 pr, .slice ma ms.length mx, .int .i64 bw, .int .i64 er, .int .i64 ee]] w fun e w' => e = .returned (.nilIface) ∧ ∃ v, Bl w' X [.int .i64 xa, .int .i64 xi, .int .i64 xh, .int .i64 xp, .int .i64 3, .int .i64 xh, .int .i64 0, .int .i64 (xh / 3), .int .i64 sa, v] ∧ SentP w w' X base va v (l ++ [⟨4, 0, 0, 0, 0⟩]) := by
  obtain ⟨bE, B0, z⟩ := one w [.int .i64 ek, .int .i64 kn, .int .i64 sa, .int .i64 ho, .int .i64 ix, .slice ga gs.length gx, .slice ca cs.length cx, .slice pa ps.length px, .int .i64 pr, .slice ma ms.length mx, .int .i64 bw, .int .i64 er, .int .i64 ee] 48
  have hne : X ≠ w.heap.size := Nat.ne_of_lt hX.lt
  have hne' : w.heap.size ≠ X := Nat.ne_of_gt hX.lt
  replace hX := hX.keep B0
  have g0 := grown_below B0 (some X)
  clear z
  have hv := cell_keep B0 (World.block_lt_of_cell? w _ hu) hu
  have HIF : Hid ((if kn = 3 then .iface 194 u else if kn ∈ [1] then Value.nilIface else .iface 138 (.int .i64 5)) = .nilIface) := Lib.hid ((if_neg h3).trans (if_pos hk))
  clear h3 hk
  have hq3 : Int.tdiv xh 3 = xh / 3 := by rw [Int.tdiv_eq_ediv_of_nonneg (by omega)]
  have fe0 := bE.c 0 rfl
  have fe1 := bE.c 1 rfl
  have fe2 := bE.c 2 rfl
  have fe3 := bE.c 3 rfl
  have fe4 := bE.c 4 rfl
  have fe5 := bE.c 5 rfl
  have fe6 := bE.c 6 rfl
  have fe7 := bE.c 7 rfl
  have fe8 := bE.c 8 rfl
  have fe9 := bE.c 9 rfl
  have fe10 := bE.c 10 rfl
  have fe11 := bE.c 11 rfl
  have fe12 := bE.c 12 rfl
  go_enter Tryd.func91, Tryd.ntmps91
  go_wp2_with fail
  clear fe0 fe1 fe2 fe3 fe4 fe5 fe6 fe7 fe8 fe9 fe10 fe11 fe12
  have hv2 := cell_keep ((Below.refl (w.alloc (.cells #[.int .i64 ek, .int .i64 kn, .int .i64 sa, .int .i64 ho, .int .i64 ix, .slice ga gs.length gx, .slice ca cs.length cx, .slice pa ps.length px, .int .i64 pr, .slice ma ms.length mx, .int .i64 bw, .int .i64 er, .int .i64 ee] 48)).heap.size (w.alloc (.cells #[.int .i64 ek, .int .i64 kn, .int .i64 sa, .int .i64 ho, .int .i64 ix, .slice ga gs.length gx, .slice ca cs.length cx, .slice pa ps.length px, .int .i64 pr, .slice ma ms.length mx, .int .i64 bw, .int .i64 er, .int .i64 ee] 48))).alloc (Nat.le_refl _) (.cells #[.int .i64 1] 3)) (World.block_lt_of_cell? _ _ hv) hv
  refine (refusal1 ga ca pa ma gx cx px mx gs cs ps ms kn sa ho ix pr bw er _ 1 u _ hv2 (by simp)).mono ?_
  rw [HIF.out]
  rintro e w1 ⟨rfl, hb⟩
  have hX1 := (hX.alloc (.cells #[.int .i64 1] 3)).keep hb
  have bE1 := (bE.alloc (.cells #[.int .i64 1] 3)).keep hb
  have g1 := grow_row (grow_row g0 (grown_alloc (World.grownBy.refl _ none) (.cells #[.int .i64 1] 3)) (fun k hk => by cases hk)) (grown_below hb none) (fun k hk => by cases hk)
  have B1 := below_step (B0.alloc B0.size (.cells #[.int .i64 1] 3)) hb
  clear hv hv2 hb hX bE g0 B0
  replace hg := hg.keep B1
  replace hc := hc.keep B1
  replace hp := hp.keep B1
  replace hm := hm.keep B1
  go_wp2_with fail
  refine wp_region_class (C := Over (w1)) (by kernel_rfl) (by kernel_rfl) (over_drew _) ?_
  repeat (first | go_big_quiet_skip | (go_big_quiet_want; go_big_quiet_op; go_big_quiet_on) | (go_big_quiet_want; go_big_quiet_op; apply Exists.intro; refine ⟨fun w' hC => ?_, ?_⟩; ((first | (go_at_call 12; refine (iAcc_t _ (hg.keep hC) (hc.keep hC) (hp.keep hC) (hm.keep hC) HA).mono ?_; rintro e w1 ⟨rfl, hb1⟩; exact ⟨rfl, over_step hC hb1⟩))); go_big_quiet_on) | (go_big_quiet_want; apply Exists.intro; refine ⟨fun w' hC => ?_, ?_⟩; (have k0 := over_cell hC hX1.lt (hX1.c 0 rfl); have k1 := over_cell hC hX1.lt (hX1.c 1 rfl); have k2 := over_cell hC hX1.lt (hX1.c 2 rfl); have k3 := over_cell hC hX1.lt (hX1.c 3 rfl); have k4 := over_cell hC bE1.lt (bE1.c 1 rfl); have k5 := over_cell hC bE1.lt (bE1.c 2 rfl); have k6 := over_cell hC bE1.lt (bE1.c 3 rfl); have k7 := over_cell hC bE1.lt (bE1.c 4 rfl); have k8 := over_cell hC bE1.lt (bE1.c 5 rfl); have k9 := over_cell hC bE1.lt (bE1.c 6 rfl); have k10 := over_cell hC bE1.lt (bE1.c 7 rfl); have k11 := over_cell hC bE1.lt (bE1.c 8 rfl); have k12 := over_cell hC bE1.lt (bE1.c 9 rfl); have k13 := over_cell hC bE1.lt (bE1.c 10 rfl); have k14 := over_cell hC bE1.lt (bE1.c 11 rfl); simp [Oper.quietAt, Oper.quietUpon, go_sem, k0, k1, k2, k3, k4, k5, k6, k7, k8, k9, k10, k11, k12, k13, k14]; first | done | rfl); go_big_quiet_on; simp only [Act.put, List.setIfInBounds_toArray, List.set_cons_zero, List.set_cons_succ]))
  refine wpQuiet_nil ?_
  intro w2 hC
  have k0 := over_cell hC hX1.lt (hX1.c 0 rfl)
  have k1 := over_cell hC hX1.lt (hX1.c 1 rfl)
  have k2 := over_cell hC hX1.lt (hX1.c 2 rfl)
  have k3 := over_cell hC hX1.lt (hX1.c 3 rfl)
  have k4 := over_cell hC bE1.lt (bE1.c 1 rfl)
  have k5 := over_cell hC bE1.lt (bE1.c 2 rfl)
  have k6 := over_cell hC bE1.lt (bE1.c 3 rfl)
  have k7 := over_cell hC bE1.lt (bE1.c 4 rfl)
  have k8 := over_cell hC bE1.lt (bE1.c 5 rfl)
  have k9 := over_cell hC bE1.lt (bE1.c 6 rfl)
  have k10 := over_cell hC bE1.lt (bE1.c 7 rfl)
  have k11 := over_cell hC bE1.lt (bE1.c 8 rfl)
  have k12 := over_cell hC bE1.lt (bE1.c 9 rfl)
  have k13 := over_cell hC bE1.lt (bE1.c 10 rfl)
  have k14 := over_cell hC bE1.lt (bE1.c 11 rfl)
  clear k0 k1 k2 k3 k4 k5 k6 k7 k8 k9 k10 k11 k12 k13 k14
  have hb := over_below hC
  have hX2 := hX1.keep hb
  have bE2 := bE1.keep hb
  have g2 := grow_row g1 (grown_below hb none) (fun k hk => by cases hk)
  clear hb hC hX1 bE1 g1 B1 hg hc hp hm
  go_wp2_with fail
  refine wp_region_class (C := Over (w2)) (by kernel_rfl) (by kernel_rfl) (over_drew _) ?_
  repeat (first | go_big_quiet_skip | (go_big_quiet_want; go_big_quiet_op; go_big_quiet_on) | (go_big_quiet_want; apply Exists.intro; refine ⟨fun w' hC => ?_, ?_⟩; (have k0 := over_cell hC hX2.lt (hX2.c 2 rfl); have k1 := over_cell hC bE2.lt (bE2.c 3 rfl); simp [Oper.quietAt, Oper.quietUpon, go_sem, k0, k1, hmin]; first | done | rfl); go_big_quiet_on; simp only [Act.put, List.setIfInBounds_toArray, List.set_cons_zero, List.set_cons_succ]))
  refine wpQuiet_nil ?_
  intro w3 hC
  have k0 := over_cell hC hX2.lt (hX2.c 2 rfl)
  have k1 := over_cell hC bE2.lt (bE2.c 3 rfl)
  clear k0 k1
  have hb := over_below hC
  have hX3 := hX2.keep hb
  have bE3 := bE2.keep hb
  have g3 := grow_row g2 (grown_below hb none) (fun k hk => by cases hk)
  clear hb hC hX2 bE2 g2
  have x0 := hX3.c 0 rfl
  have xf0 := hX3.f 0 (x := _) rfl
  have x1 := hX3.c 1 rfl
  have xf1 := hX3.f 1 (x := _) rfl
  have x2 := hX3.c 2 rfl
  have xf2 := hX3.f 2 (x := _) rfl
  have x3 := hX3.c 3 rfl
  have xf3 := hX3.f 3 (x := _) rfl
  have x4 := hX3.c 4 rfl
  have xf4 := hX3.f 4 (x := _) rfl
  have x5 := hX3.c 5 rfl
  have xf5 := hX3.f 5 (x := _) rfl
  have x6 := hX3.c 6 rfl
  have xf6 := hX3.f 6 (x := _) rfl
  have x7 := hX3.c 7 rfl
  have xf7 := hX3.f 7 (x := _) rfl
  have x8 := hX3.c 8 rfl
  have xf8 := hX3.f 8 (x := _) rfl
  have x9 := hX3.c 9 rfl
  have xf9 := hX3.f 9 (x := _) rfl
  have fe2 := bE3.c 2 rfl
  go_wp2_with fail
  clear fe2 x0 xf0 x1 xf1 x2 xf2 x3 xf3 x4 xf4 x5 xf5 x6 xf6 x7 xf7 x8 xf8 x9 xf9
  have hX4 := (((((hX3.set 4 (.int .i64 3)).set 5 (.int .i64 xh)).set 6 (.int .i64 0)).set 7 (.int .i64 (xh / 3))).set 8 (.int .i64 sa))
  have g4 := (grown_trans (grown_trans (grown_trans (grown_trans (grown_trans g3 (grown_set _ X 4 (.int .i64 3))) (grown_set _ X 5 (.int .i64 xh))) (grown_set _ X 6 (.int .i64 0))) (grown_set _ X 7 (.int .i64 (xh / 3)))) (grown_set _ X 8 (.int .i64 sa)))
  simp only [List.set_cons_zero, List.set_cons_succ] at hX4
  refine (sendR va vn vc base l X xa xi xh xp (3) (xh) (0) (xh / 3) (sa) ⟨4, 0, 0, 0, 0⟩ _ _ (fun w => pack_K w) hX4 (Lib.hid (HS.out.step g4))).mono ?_
  rintro e w9 ⟨rfl, v9, hX9, o9⟩
  have O9 := o9.back g4
  clear o9 hX4
  clear bE3 hX3 g3
  go_wp2
  go_ret
  exact ⟨rfl, v9, hX9, O9⟩
set_option maxHeartbeats 2000000 in
theorem hearOpen_yoursR (va : Option Addr) (vn vc base : Nat) (l : List Bm) (X : Nat) (xa xi xh xp s0 s1 s2 s3 s4 : Int) (ga ca pa ma : Option Addr) (gx cx px mx : Nat) (gs cs : List (Int × Int)) (ps ms : List Int) (ek ee kn sa ho ix pr bw er : Int) (w : World) (hX : Bl w X [.int .i64 xa, .int .i64 xi, .int .i64 xh, .int .i64 xp, .int .i64 s0, .int .i64 s1, .int .i64 s2, .int .i64 s3, .int .i64 s4, .slice va vn vc]) (u : Value) (hu : w.cell? ⟨0, 0, none⟩ = some (.iface 194 u)) (h3 : kn ≠ 3) (hk : kn ∈ [1]) (hg : RdP w (.slice ga gs.length gx) gs) (hc : RdP w (.slice ca cs.length cx) cs) (hp : RdI w (.slice pa ps.length px) ps) (hm : RdI w (.slice ma ms.length mx) ms) (HA : Hid (accB xa xi xh xp gs cs ps ms kn sa ho ix pr bw er = true)) (hmin : ¬ xh ≤ ho) (hb3 : 3 ≤ ho ∧ ho ≤ 255) (HS : Hid (Sent w X base (.slice va vn vc) l)) :
    Calls Tryd.prog 91 #[.pointer (some ⟨X, 0, none⟩), .agg #[.int .i64 ek, .int .i64 kn, .int .i64 sa, .int .i64 ho, .int .i64 ix, .slice ga gs.length gx, .slice ca cs.length cx, .slice pa ps.length px, .int .i64 pr, .slice ma ms.length mx, .int .i64 bw, .int .i64 er, .int .i64 ee]] w fun e w' => e = .returned (.nilIface) ∧ ∃ v, Bl w' X [.int .i64 xa, .int .i64 xi, .int .i64 xh, .int .i64 xp, .int .i64 3, .int .i64 ho, .int .i64 0, .int .i64 (ho / 3), .int .i64 sa, v] ∧ SentP w w' X base va v (l ++ [⟨4, 0, 0, 0, 0⟩]) := by
  obtain ⟨bE, B0, z⟩ := one w [.int .i64 ek, .int .i64 kn, .int .i64 sa, .int .i64 ho, .int .i64 ix, .slice ga gs.length gx, .slice ca cs.length cx, .slice pa ps.length px, .int .i64 pr, .slice ma ms.length mx, .int .i64 bw, .int .i64 er, .int .i64 ee] 48
  have hne : X ≠ w.heap.size := Nat.ne_of_lt hX.lt
  have hne' : w.heap.size ≠ X := Nat.ne_of_gt hX.lt
  replace hX := hX.keep B0
  have g0 := grown_below B0 (some X)
  clear z
  have hv := cell_keep B0 (World.block_lt_of_cell? w _ hu) hu
  have HIF : Hid ((if kn = 3 then .iface 194 u else if kn ∈ [1] then Value.nilIface else .iface 138 (.int .i64 5)) = .nilIface) := Lib.hid ((if_neg h3).trans (if_pos hk))
  clear h3 hk
  have hq3 : Int.tdiv ho 3 = ho / 3 := by rw [Int.tdiv_eq_ediv_of_nonneg (by omega)]
  have fe0 := bE.c 0 rfl
  have fe1 := bE.c 1 rfl
  have fe2 := bE.c 2 rfl
  have fe3 := bE.c 3 rfl
  have fe4 := bE.c 4 rfl
  have fe5 := bE.c 5 rfl
  have fe6 := bE.c 6 rfl
  have fe7 := bE.c 7 rfl
  have fe8 := bE.c 8 rfl
  have fe9 := bE.c 9 rfl
  have fe10 := bE.c 10 rfl
  have fe11 := bE.c 11 rfl
  have fe12 := bE.c 12 rfl
  go_enter Tryd.func91, Tryd.ntmps91
  go_wp2_with fail
  clear fe0 fe1 fe2 fe3 fe4 fe5 fe6 fe7 fe8 fe9 fe10 fe11 fe12
  have hv2 := cell_keep ((Below.refl (w.alloc (.cells #[.int .i64 ek, .int .i64 kn, .int .i64 sa, .int .i64 ho, .int .i64 ix, .slice ga gs.length gx, .slice ca cs.length cx, .slice pa ps.length px, .int .i64 pr, .slice ma ms.length mx, .int .i64 bw, .int .i64 er, .int .i64 ee] 48)).heap.size (w.alloc (.cells #[.int .i64 ek, .int .i64 kn, .int .i64 sa, .int .i64 ho, .int .i64 ix, .slice ga gs.length gx, .slice ca cs.length cx, .slice pa ps.length px, .int .i64 pr, .slice ma ms.length mx, .int .i64 bw, .int .i64 er, .int .i64 ee] 48))).alloc (Nat.le_refl _) (.cells #[.int .i64 1] 3)) (World.block_lt_of_cell? _ _ hv) hv
  refine (refusal1 ga ca pa ma gx cx px mx gs cs ps ms kn sa ho ix pr bw er _ 1 u _ hv2 (by simp)).mono ?_
  rw [HIF.out]
  rintro e w1 ⟨rfl, hb⟩
  have hX1 := (hX.alloc (.cells #[.int .i64 1] 3)).keep hb
  have bE1 := (bE.alloc (.cells #[.int .i64 1] 3)).keep hb
  have g1 := grow_row (grow_row g0 (grown_alloc (World.grownBy.refl _ none) (.cells #[.int .i64 1] 3)) (fun k hk => by cases hk)) (grown_below hb none) (fun k hk => by cases hk)
  have B1 := below_step (B0.alloc B0.size (.cells #[.int .i64 1] 3)) hb
  clear hv hv2 hb hX bE g0 B0
  replace hg := hg.keep B1
  replace hc := hc.keep B1
  replace hp := hp.keep B1
  replace hm := hm.keep B1
  go_wp2_with fail
  refine wp_region_class (C := Over (w1)) (by kernel_rfl) (by kernel_rfl) (over_drew _) ?_
  repeat (first | go_big_quiet_skip | (go_big_quiet_want; go_big_quiet_op; go_big_quiet_on) | (go_big_quiet_want; go_big_quiet_op; apply Exists.intro; refine ⟨fun w' hC => ?_, ?_⟩; ((first | (go_at_call 12; refine (iAcc_t _ (hg.keep hC) (hc.keep hC) (hp.keep hC) (hm.keep hC) HA).mono ?_; rintro e w1 ⟨rfl, hb1⟩; exact ⟨rfl, over_step hC hb1⟩))); go_big_quiet_on) | (go_big_quiet_want; apply Exists.intro; refine ⟨fun w' hC => ?_, ?_⟩; (have k0 := over_cell hC hX1.lt (hX1.c 0 rfl); have k1 := over_cell hC hX1.lt (hX1.c 1 rfl); have k2 := over_cell hC hX1.lt (hX1.c 2 rfl); have k3 := over_cell hC hX1.lt (hX1.c 3 rfl); have k4 := over_cell hC bE1.lt (bE1.c 1 rfl); have k5 := over_cell hC bE1.lt (bE1.c 2 rfl); have k6 := over_cell hC bE1.lt (bE1.c 3 rfl); have k7 := over_cell hC bE1.lt (bE1.c 4 rfl); have k8 := over_cell hC bE1.lt (bE1.c 5 rfl); have k9 := over_cell hC bE1.lt (bE1.c 6 rfl); have k10 := over_cell hC bE1.lt (bE1.c 7 rfl); have k11 := over_cell hC bE1.lt (bE1.c 8 rfl); have k12 := over_cell hC bE1.lt (bE1.c 9 rfl); have k13 := over_cell hC bE1.lt (bE1.c 10 rfl); have k14 := over_cell hC bE1.lt (bE1.c 11 rfl); simp [Oper.quietAt, Oper.quietUpon, go_sem, k0, k1, k2, k3, k4, k5, k6, k7, k8, k9, k10, k11, k12, k13, k14]; first | done | rfl); go_big_quiet_on; simp only [Act.put, List.setIfInBounds_toArray, List.set_cons_zero, List.set_cons_succ]))
  refine wpQuiet_nil ?_
  intro w2 hC
  have k0 := over_cell hC hX1.lt (hX1.c 0 rfl)
  have k1 := over_cell hC hX1.lt (hX1.c 1 rfl)
  have k2 := over_cell hC hX1.lt (hX1.c 2 rfl)
  have k3 := over_cell hC hX1.lt (hX1.c 3 rfl)
  have k4 := over_cell hC bE1.lt (bE1.c 1 rfl)
  have k5 := over_cell hC bE1.lt (bE1.c 2 rfl)
  have k6 := over_cell hC bE1.lt (bE1.c 3 rfl)
  have k7 := over_cell hC bE1.lt (bE1.c 4 rfl)
  have k8 := over_cell hC bE1.lt (bE1.c 5 rfl)
  have k9 := over_cell hC bE1.lt (bE1.c 6 rfl)
  have k10 := over_cell hC bE1.lt (bE1.c 7 rfl)
  have k11 := over_cell hC bE1.lt (bE1.c 8 rfl)
  have k12 := over_cell hC bE1.lt (bE1.c 9 rfl)
  have k13 := over_cell hC bE1.lt (bE1.c 10 rfl)
  have k14 := over_cell hC bE1.lt (bE1.c 11 rfl)
  clear k0 k1 k2 k3 k4 k5 k6 k7 k8 k9 k10 k11 k12 k13 k14
  have hb := over_below hC
  have hX2 := hX1.keep hb
  have bE2 := bE1.keep hb
  have g2 := grow_row g1 (grown_below hb none) (fun k hk => by cases hk)
  clear hb hC hX1 bE1 g1 B1 hg hc hp hm
  go_wp2_with fail
  refine wp_region_class (C := Over (w2)) (by kernel_rfl) (by kernel_rfl) (over_drew _) ?_
  repeat (first | go_big_quiet_skip | (go_big_quiet_want; go_big_quiet_op; go_big_quiet_on) | (go_big_quiet_want; apply Exists.intro; refine ⟨fun w' hC => ?_, ?_⟩; (have k0 := over_cell hC hX2.lt (hX2.c 2 rfl); have k1 := over_cell hC bE2.lt (bE2.c 3 rfl); simp [Oper.quietAt, Oper.quietUpon, go_sem, k0, k1, hmin]; first | done | rfl); go_big_quiet_on; simp only [Act.put, List.setIfInBounds_toArray, List.set_cons_zero, List.set_cons_succ]))
  refine wpQuiet_nil ?_
  intro w3 hC
  have k0 := over_cell hC hX2.lt (hX2.c 2 rfl)
  have k1 := over_cell hC bE2.lt (bE2.c 3 rfl)
  clear k0 k1
  have hb := over_below hC
  have hX3 := hX2.keep hb
  have bE3 := bE2.keep hb
  have g3 := grow_row g2 (grown_below hb none) (fun k hk => by cases hk)
  clear hb hC hX2 bE2 g2
  have x0 := hX3.c 0 rfl
  have xf0 := hX3.f 0 (x := _) rfl
  have x1 := hX3.c 1 rfl
  have xf1 := hX3.f 1 (x := _) rfl
  have x2 := hX3.c 2 rfl
  have xf2 := hX3.f 2 (x := _) rfl
  have x3 := hX3.c 3 rfl
  have xf3 := hX3.f 3 (x := _) rfl
  have x4 := hX3.c 4 rfl
  have xf4 := hX3.f 4 (x := _) rfl
  have x5 := hX3.c 5 rfl
  have xf5 := hX3.f 5 (x := _) rfl
  have x6 := hX3.c 6 rfl
  have xf6 := hX3.f 6 (x := _) rfl
  have x7 := hX3.c 7 rfl
  have xf7 := hX3.f 7 (x := _) rfl
  have x8 := hX3.c 8 rfl
  have xf8 := hX3.f 8 (x := _) rfl
  have x9 := hX3.c 9 rfl
  have xf9 := hX3.f 9 (x := _) rfl
  have fe2 := bE3.c 2 rfl
  go_wp2_with fail
  clear fe2 x0 xf0 x1 xf1 x2 xf2 x3 xf3 x4 xf4 x5 xf5 x6 xf6 x7 xf7 x8 xf8 x9 xf9
  have hX4 := (((((hX3.set 4 (.int .i64 3)).set 5 (.int .i64 ho)).set 6 (.int .i64 0)).set 7 (.int .i64 (ho / 3))).set 8 (.int .i64 sa))
  have g4 := (grown_trans (grown_trans (grown_trans (grown_trans (grown_trans g3 (grown_set _ X 4 (.int .i64 3))) (grown_set _ X 5 (.int .i64 ho))) (grown_set _ X 6 (.int .i64 0))) (grown_set _ X 7 (.int .i64 (ho / 3)))) (grown_set _ X 8 (.int .i64 sa)))
  simp only [List.set_cons_zero, List.set_cons_succ] at hX4
  refine (sendR va vn vc base l X xa xi xh xp (3) (ho) (0) (ho / 3) (sa) ⟨4, 0, 0, 0, 0⟩ _ _ (fun w => pack_K w) hX4 (Lib.hid (HS.out.step g4))).mono ?_
  rintro e w9 ⟨rfl, v9, hX9, o9⟩
  have O9 := o9.back g4
  clear o9 hX4
  clear bE3 hX3 g3
  go_wp2
  go_ret
  exact ⟨rfl, v9, hX9, O9⟩
set_option maxHeartbeats 2000000 in
theorem end_goneR (va : Option Addr) (vn vc : Nat) (X : Nat) (xa xi xh xp s0 s1 s2 s3 s4 : Int) (w : World) (hX : Bl w X [.int .i64 xa, .int .i64 xi, .int .i64 xh, .int .i64 xp, .int .i64 s0, .int .i64 s1, .int .i64 s2, .int .i64 s3, .int .i64 s4, .slice va vn vc]) (hg1 : w.cell? ⟨1, 0, none⟩ = some (.iface 172 (.agg #[.pointer (some ⟨6, 103, none⟩)]))) (u : Value) :
    Calls Tryd.prog 63 #[.pointer (some ⟨X, 0, none⟩), .iface 194 u] w fun e w' => e = .returned (.tuple #[]) ∧ Bl w' X [.int .i64 xa, .int .i64 xi, .int .i64 xh, .int .i64 xp, .int .i64 0, .int .i64 0, .int .i64 0, .int .i64 0, .int .i64 0, .slice va vn vc] ∧ w.grownBy w' (some X) := by
  obtain ⟨bC, B0, z⟩ := one w [.int .i64 0] 138
  have lX := Lib.hid hX.lt
  have hne : X ≠ w.heap.size := Nat.ne_of_lt hX.lt
  have hne' : w.heap.size ≠ X := Nat.ne_of_gt hX.lt
  replace hX := hX.keep B0
  have hG := cell_keep B0 (World.block_lt_of_cell? w _ hg1) hg1
  have c0 := bC.c 0 rfl
  have f0 := bC.f 0 (x := _) rfl
  have g0 := grown_below B0 (some X)
  clear z
  go_enter Tryd.func63, Tryd.ntmps63
  go_wp2_with fail
  clear c0 f0
  refine (as_miss u _ _ hG).mono ?_
  rintro e w1 ⟨rfl, hb⟩
  have hX1 := hX.keep hb
  have g1 := grow_row g0 (grown_below hb none) (fun k hk => by cases hk)
  clear hb hG hX g0 bC B0
  have x4 := hX1.c 4 rfl
  have xf4 := hX1.f 4 (x := _) rfl
  have x5 := hX1.c 5 rfl
  have xf5 := hX1.f 5 (x := _) rfl
  have x6 := hX1.c 6 rfl
  have xf6 := hX1.f 6 (x := _) rfl
  have x7 := hX1.c 7 rfl
  have xf7 := hX1.f 7 (x := _) rfl
  have x8 := hX1.c 8 rfl
  have xf8 := hX1.f 8 (x := _) rfl
  go_wp2
  have hX8 := (((((hX1.set 4 (.int .i64 0)).set 5 (.int .i64 0)).set 6 (.int .i64 0)).set 7 (.int .i64 0)).set 8 (.int .i64 0))
  have g8 := (grown_trans (grown_trans (grown_trans (grown_trans (grown_trans g1 (grown_set _ X 4 (.int .i64 0))) (grown_set _ X 5 (.int .i64 0))) (grown_set _ X 6 (.int .i64 0))) (grown_set _ X 7 (.int .i64 0))) (grown_set _ X 8 (.int .i64 0)))
  simp only [List.set_cons_zero, List.set_cons_succ] at hX8
  go_end0
  exact ⟨rfl, hX8, g8⟩
set_option maxHeartbeats 2000000 in
theorem end_highR (va : Option Addr) (vn vc base : Nat) (l : List Bm) (X : Nat) (xa xi xh xp s0 s1 s2 s3 s4 : Int) (w : World) (hX : Bl w X [.int .i64 xa, .int .i64 xi, .int .i64 xh, .int .i64 xp, .int .i64 s0, .int .i64 s1, .int .i64 s2, .int .i64 s3, .int .i64 s4, .slice va vn vc]) (hg1 : w.cell? ⟨1, 0, none⟩ = some (.iface 172 (.agg #[.pointer (some ⟨6, 103, none⟩)]))) (n : Int) (h : 2 ≤ s0) (HS : Hid (Sent w X base (.slice va vn vc) l)) :
    Calls Tryd.prog 63 #[.pointer (some ⟨X, 0, none⟩), .iface 138 (.int .i64 n)] w fun e w' => e = .returned (.tuple #[]) ∧ ∃ v, Bl w' X [.int .i64 xa, .int .i64 xi, .int .i64 xh, .int .i64 xp, .int .i64 0, .int .i64 0, .int .i64 0, .int .i64 0, .int .i64 0, v] ∧ SentP w w' X base va v (l ++ [⟨3, 0, 0, 0, n⟩]) := by
  obtain ⟨bC, B0, z⟩ := one w [.int .i64 0] 138
  have lX := Lib.hid hX.lt
  have hne : X ≠ w.heap.size := Nat.ne_of_lt hX.lt
  have hne' : w.heap.size ≠ X := Nat.ne_of_gt hX.lt
  replace hX := hX.keep B0
  have hG := cell_keep B0 (World.block_lt_of_cell? w _ hg1) hg1
  have c0 := bC.c 0 rfl
  have f0 := bC.f 0 (x := _) rfl
  have g0 := grown_below B0 (some X)
  clear z
  go_enter Tryd.func63, Tryd.ntmps63
  go_wp2_with fail
  clear c0 f0
  refine (as_code n w.heap.size _ hG bC).mono ?_
  rintro e w1 ⟨rfl, bC1, gt⟩
  have hX1 := hX.grown gt (by simp [hne])
  have g1 := grow_row g0 gt (fun k hk => by cases hk; exact Nat.le_refl _)
  clear gt hG hX g0 bC B0
  have b0 := bC1.c 0 rfl
  have x4 := hX1.c 4 rfl
  have xf4 := hX1.f 4 (x := _) rfl
  have x5 := hX1.c 5 rfl
  have xf5 := hX1.f 5 (x := _) rfl
  have x6 := hX1.c 6 rfl
  have xf6 := hX1.f 6 (x := _) rfl
  have x7 := hX1.c 7 rfl
  have xf7 := hX1.f 7 (x := _) rfl
  have x8 := hX1.c 8 rfl
  have xf8 := hX1.f 8 (x := _) rfl
  go_wp2_with fail
  clear b0 x4 xf4 x5 xf5 x6 xf6 x7 xf7 x8 xf8
  refine (sendR va vn vc base l X xa xi xh xp (s0) (s1) (s2) (s3) (s4) ⟨3, 0, 0, 0, n⟩ _ _ (fun w => pack_N n w) hX1 (Lib.hid (HS.out.step g1))).mono ?_
  rintro e w9 ⟨rfl, v9, hX9, o9⟩
  have O9 := o9.back g1
  clear o9 hX1
  have x4 := hX9.c 4 rfl
  have xf4 := hX9.f 4 (x := _) rfl
  have x5 := hX9.c 5 rfl
  have xf5 := hX9.f 5 (x := _) rfl
  have x6 := hX9.c 6 rfl
  have xf6 := hX9.f 6 (x := _) rfl
  have x7 := hX9.c 7 rfl
  have xf7 := hX9.f 7 (x := _) rfl
  have x8 := hX9.c 8 rfl
  have xf8 := hX9.f 8 (x := _) rfl
  go_wp2
  have hX8 := (((((hX9.set 4 (.int .i64 0)).set 5 (.int .i64 0)).set 6 (.int .i64 0)).set 7 (.int .i64 0)).set 8 (.int .i64 0))
  simp only [List.set_cons_zero, List.set_cons_succ] at hX8
  go_end0
  exact ⟨rfl, v9, hX8, (((((O9.far (o := 4) (u := .int .i64 0) HS.out.x).far (o := 5) (u := .int .i64 0) HS.out.x).far (o := 6) (u := .int .i64 0) HS.out.x).far (o := 7) (u := .int .i64 0) HS.out.x).far (o := 8) (u := .int .i64 0) HS.out.x)⟩
set_option maxHeartbeats 4000000 in
theorem reac_0R (va : Option Addr) (vn vc : Nat) (X : Nat) (xa xi xh xp s1 s2 s3 s4 : Int) (w : World) (hX : Bl w X [.int .i64 xa, .int .i64 xi, .int .i64 xh, .int .i64 xp, .int .i64 0, .int .i64 s1, .int .i64 s2, .int .i64 s3, .int .i64 s4, .slice va vn vc]) :
    Calls Tryd.prog 62 #[.pointer (some ⟨X, 0, none⟩)] w fun e w' => e = .returned (.map (some w.heap.size)) ∧ w'.heap[w.heap.size]? = some (.map #[⟨.int .i64 1, (.func (.func 86) #[.pointer (some ⟨X, 0, none⟩)] #[]), 0⟩, ⟨.int .i64 3, (.func (.func 87) #[.pointer (some ⟨X, 0, none⟩)] #[]), 1⟩, ⟨.int .i64 6, (.func (.func 88) #[.pointer (some ⟨X, 0, none⟩)] #[]), 2⟩, ⟨.int .i64 0, (.func (.func 89) #[.pointer (some ⟨X, 0, none⟩)] #[]), 3⟩] 4) ∧ Below w.heap.size w w' := by
  have hmm := @run_makeMap Tryd.prog
  have hmf : ∀ (fn : Fn) (first cap : Array Value) (w : World), (Instr.makeFunc fn first cap).run Tryd.prog w = .ok (.func fn first cap) w := fun _ _ _ _ => rfl
  have u0 : ∀ (v0 : Value) (w : World), (Instr.mapUpdate 100 (.map (some w.heap.size)) (.int .i64 1) v0).run Tryd.prog (w.alloc (.map #[] 0)) = .ok () (w.alloc (.map #[⟨.int .i64 1, v0, 0⟩] 1)) := fun v0 w => upd_new #[] 0 1 v0 w rfl
  have u1 : ∀ (v0 v1 : Value) (w : World), (Instr.mapUpdate 100 (.map (some w.heap.size)) (.int .i64 3) v1).run Tryd.prog (w.alloc (.map #[⟨.int .i64 1, v0, 0⟩] 1)) = .ok () (w.alloc (.map #[⟨.int .i64 1, v0, 0⟩, ⟨.int .i64 3, v1, 1⟩] 2)) := fun v0 v1 w => upd_new #[⟨.int .i64 1, v0, 0⟩] 1 3 v1 w rfl
  have u2 : ∀ (v0 v1 v2 : Value) (w : World), (Instr.mapUpdate 100 (.map (some w.heap.size)) (.int .i64 6) v2).run Tryd.prog (w.alloc (.map #[⟨.int .i64 1, v0, 0⟩, ⟨.int .i64 3, v1, 1⟩] 2)) = .ok () (w.alloc (.map #[⟨.int .i64 1, v0, 0⟩, ⟨.int .i64 3, v1, 1⟩, ⟨.int .i64 6, v2, 2⟩] 3)) := fun v0 v1 v2 w => upd_new #[⟨.int .i64 1, v0, 0⟩, ⟨.int .i64 3, v1, 1⟩] 2 6 v2 w rfl
  have u3 : ∀ (v0 v1 v2 v3 : Value) (w : World), (Instr.mapUpdate 100 (.map (some w.heap.size)) (.int .i64 0) v3).run Tryd.prog (w.alloc (.map #[⟨.int .i64 1, v0, 0⟩, ⟨.int .i64 3, v1, 1⟩, ⟨.int .i64 6, v2, 2⟩] 3)) = .ok () (w.alloc (.map #[⟨.int .i64 1, v0, 0⟩, ⟨.int .i64 3, v1, 1⟩, ⟨.int .i64 6, v2, 2⟩, ⟨.int .i64 0, v3, 3⟩] 4)) := fun v0 v1 v2 v3 w => upd_new #[⟨.int .i64 1, v0, 0⟩, ⟨.int .i64 3, v1, 1⟩, ⟨.int .i64 6, v2, 2⟩] 3 0 v3 w rfl
  have xq : ∀ o, (w.alloc o).cell? ⟨X, 4, none⟩ = some (.int .i64 0) := fun o => (hX.alloc o).c 4 rfl
  go_enter Tryd.func62, Tryd.ntmps62
  go_wp2
  go_ret
  exact ⟨rfl, Array.getElem?_push_size, (Below.refl _ _).alloc (Nat.le_refl _) _⟩
set_option maxHeartbeats 4000000 in
theorem reac_2R (va : Option Addr) (vn vc : Nat) (X : Nat) (xa xi xh xp s1 s2 s3 s4 : Int) (w : World) (hX : Bl w X [.int .i64 xa, .int .i64 xi, .int .i64 xh, .int .i64 xp, .int .i64 2, .int .i64 s1, .int .i64 s2, .int .i64 s3, .int .i64 s4, .slice va vn vc]) :
    Calls Tryd.prog 62 #[.pointer (some ⟨X, 0, none⟩)] w fun e w' => e = .returned (.map (some w.heap.size)) ∧ w'.heap[w.heap.size]? = some (.map #[⟨.int .i64 1, (.func (.func 86) #[.pointer (some ⟨X, 0, none⟩)] #[]), 0⟩, ⟨.int .i64 3, (.func (.func 87) #[.pointer (some ⟨X, 0, none⟩)] #[]), 1⟩, ⟨.int .i64 6, (.func (.func 88) #[.pointer (some ⟨X, 0, none⟩)] #[]), 2⟩, ⟨.int .i64 4, (.func (.func 91) #[.pointer (some ⟨X, 0, none⟩)] #[]), 3⟩, ⟨.int .i64 5, (.func (.func 92) #[.pointer (some ⟨X, 0, none⟩)] #[]), 4⟩] 5) ∧ Below w.heap.size w w' := by
  have hmm := @run_makeMap Tryd.prog
  have hmf : ∀ (fn : Fn) (first cap : Array Value) (w : World), (Instr.makeFunc fn first cap).run Tryd.prog w = .ok (.func fn first cap) w := fun _ _ _ _ => rfl
  have u0 : ∀ (v0 : Value) (w : World), (Instr.mapUpdate 100 (.map (some w.heap.size)) (.int .i64 1) v0).run Tryd.prog (w.alloc (.map #[] 0)) = .ok () (w.alloc (.map #[⟨.int .i64 1, v0, 0⟩] 1)) := fun v0 w => upd_new #[] 0 1 v0 w rfl
  have u1 : ∀ (v0 v1 : Value) (w : World), (Instr.mapUpdate 100 (.map (some w.heap.size)) (.int .i64 3) v1).run Tryd.prog (w.alloc (.map #[⟨.int .i64 1, v0, 0⟩] 1)) = .ok () (w.alloc (.map #[⟨.int .i64 1, v0, 0⟩, ⟨.int .i64 3, v1, 1⟩] 2)) := fun v0 v1 w => upd_new #[⟨.int .i64 1, v0, 0⟩] 1 3 v1 w rfl
  have u2 : ∀ (v0 v1 v2 : Value) (w : World), (Instr.mapUpdate 100 (.map (some w.heap.size)) (.int .i64 6) v2).run Tryd.prog (w.alloc (.map #[⟨.int .i64 1, v0, 0⟩, ⟨.int .i64 3, v1, 1⟩] 2)) = .ok () (w.alloc (.map #[⟨.int .i64 1, v0, 0⟩, ⟨.int .i64 3, v1, 1⟩, ⟨.int .i64 6, v2, 2⟩] 3)) := fun v0 v1 v2 w => upd_new #[⟨.int .i64 1, v0, 0⟩, ⟨.int .i64 3, v1, 1⟩] 2 6 v2 w rfl
  have u3 : ∀ (v0 v1 v2 v3 : Value) (w : World), (Instr.mapUpdate 100 (.map (some w.heap.size)) (.int .i64 4) v3).run Tryd.prog (w.alloc (.map #[⟨.int .i64 1, v0, 0⟩, ⟨.int .i64 3, v1, 1⟩, ⟨.int .i64 6, v2, 2⟩] 3)) = .ok () (w.alloc (.map #[⟨.int .i64 1, v0, 0⟩, ⟨.int .i64 3, v1, 1⟩, ⟨.int .i64 6, v2, 2⟩, ⟨.int .i64 4, v3, 3⟩] 4)) := fun v0 v1 v2 v3 w => upd_new #[⟨.int .i64 1, v0, 0⟩, ⟨.int .i64 3, v1, 1⟩, ⟨.int .i64 6, v2, 2⟩] 3 4 v3 w rfl
  have u4 : ∀ (v0 v1 v2 v3 v4 : Value) (w : World), (Instr.mapUpdate 100 (.map (some w.heap.size)) (.int .i64 5) v4).run Tryd.prog (w.alloc (.map #[⟨.int .i64 1, v0, 0⟩, ⟨.int .i64 3, v1, 1⟩, ⟨.int .i64 6, v2, 2⟩, ⟨.int .i64 4, v3, 3⟩] 4)) = .ok () (w.alloc (.map #[⟨.int .i64 1, v0, 0⟩, ⟨.int .i64 3, v1, 1⟩, ⟨.int .i64 6, v2, 2⟩, ⟨.int .i64 4, v3, 3⟩, ⟨.int .i64 5, v4, 4⟩] 5)) := fun v0 v1 v2 v3 v4 w => upd_new #[⟨.int .i64 1, v0, 0⟩, ⟨.int .i64 3, v1, 1⟩, ⟨.int .i64 6, v2, 2⟩, ⟨.int .i64 4, v3, 3⟩] 4 5 v4 w rfl
  have xq : ∀ o, (w.alloc o).cell? ⟨X, 4, none⟩ = some (.int .i64 2) := fun o => (hX.alloc o).c 4 rfl
  go_enter Tryd.func62, Tryd.ntmps62
  go_wp2
  go_ret
  exact ⟨rfl, Array.getElem?_push_size, (Below.refl _ _).alloc (Nat.le_refl _) _⟩
set_option maxHeartbeats 4000000 in
theorem reac_3R (va : Option Addr) (vn vc : Nat) (X : Nat) (xa xi xh xp s1 s2 s3 s4 : Int) (w : World) (hX : Bl w X [.int .i64 xa, .int .i64 xi, .int .i64 xh, .int .i64 xp, .int .i64 3, .int .i64 s1, .int .i64 s2, .int .i64 s3, .int .i64 s4, .slice va vn vc]) :
    Calls Tryd.prog 62 #[.pointer (some ⟨X, 0, none⟩)] w fun e w' => e = .returned (.map (some w.heap.size)) ∧ w'.heap[w.heap.size]? = some (.map #[⟨.int .i64 1, (.func (.func 86) #[.pointer (some ⟨X, 0, none⟩)] #[]), 0⟩, ⟨.int .i64 3, (.func (.func 87) #[.pointer (some ⟨X, 0, none⟩)] #[]), 1⟩, ⟨.int .i64 6, (.func (.func 88) #[.pointer (some ⟨X, 0, none⟩)] #[]), 2⟩, ⟨.int .i64 4, (.func (.func 93) #[.pointer (some ⟨X, 0, none⟩)] #[]), 3⟩, ⟨.int .i64 5, (.func (.func 94) #[.pointer (some ⟨X, 0, none⟩)] #[]), 4⟩] 5) ∧ Below w.heap.size w w' := by
  have hmm := @run_makeMap Tryd.prog
  have hmf : ∀ (fn : Fn) (first cap : Array Value) (w : World), (Instr.makeFunc fn first cap).run Tryd.prog w = .ok (.func fn first cap) w := fun _ _ _ _ => rfl
  have u0 : ∀ (v0 : Value) (w : World), (Instr.mapUpdate 100 (.map (some w.heap.size)) (.int .i64 1) v0).run Tryd.prog (w.alloc (.map #[] 0)) = .ok () (w.alloc (.map #[⟨.int .i64 1, v0, 0⟩] 1)) := fun v0 w => upd_new #[] 0 1 v0 w rfl
  have u1 : ∀ (v0 v1 : Value) (w : World), (Instr.mapUpdate 100 (.map (some w.heap.size)) (.int .i64 3) v1).run Tryd.prog (w.alloc (.map #[⟨.int .i64 1, v0, 0⟩] 1)) = .ok () (w.alloc (.map #[⟨.int .i64 1, v0, 0⟩, ⟨.int .i64 3, v1, 1⟩] 2)) := fun v0 v1 w => upd_new #[⟨.int .i64 1, v0, 0⟩] 1 3 v1 w rfl
  have u2 : ∀ (v0 v1 v2 : Value) (w : World), (Instr.mapUpdate 100 (.map (some w.heap.size)) (.int .i64 6) v2).run Tryd.prog (w.alloc (.map #[⟨.int .i64 1, v0, 0⟩, ⟨.int .i64 3, v1, 1⟩] 2)) = .ok () (w.alloc (.map #[⟨.int .i64 1, v0, 0⟩, ⟨.int .i64 3, v1, 1⟩, ⟨.int .i64 6, v2, 2⟩] 3)) := fun v0 v1 v2 w => upd_new #[⟨.int .i64 1, v0, 0⟩, ⟨.int .i64 3, v1, 1⟩] 2 6 v2 w rfl
  have u3 : ∀ (v0 v1 v2 v3 : Value) (w : World), (Instr.mapUpdate 100 (.map (some w.heap.size)) (.int .i64 4) v3).run Tryd.prog (w.alloc (.map #[⟨.int .i64 1, v0, 0⟩, ⟨.int .i64 3, v1, 1⟩, ⟨.int .i64 6, v2, 2⟩] 3)) = .ok () (w.alloc (.map #[⟨.int .i64 1, v0, 0⟩, ⟨.int .i64 3, v1, 1⟩, ⟨.int .i64 6, v2, 2⟩, ⟨.int .i64 4, v3, 3⟩] 4)) := fun v0 v1 v2 v3 w => upd_new #[⟨.int .i64 1, v0, 0⟩, ⟨.int .i64 3, v1, 1⟩, ⟨.int .i64 6, v2, 2⟩] 3 4 v3 w rfl
  have u4 : ∀ (v0 v1 v2 v3 v4 : Value) (w : World), (Instr.mapUpdate 100 (.map (some w.heap.size)) (.int .i64 5) v4).run Tryd.prog (w.alloc (.map #[⟨.int .i64 1, v0, 0⟩, ⟨.int .i64 3, v1, 1⟩, ⟨.int .i64 6, v2, 2⟩, ⟨.int .i64 4, v3, 3⟩] 4)) = .ok () (w.alloc (.map #[⟨.int .i64 1, v0, 0⟩, ⟨.int .i64 3, v1, 1⟩, ⟨.int .i64 6, v2, 2⟩, ⟨.int .i64 4, v3, 3⟩, ⟨.int .i64 5, v4, 4⟩] 5)) := fun v0 v1 v2 v3 v4 w => upd_new #[⟨.int .i64 1, v0, 0⟩, ⟨.int .i64 3, v1, 1⟩, ⟨.int .i64 6, v2, 2⟩, ⟨.int .i64 4, v3, 3⟩] 4 5 v4 w rfl
  have xq : ∀ o, (w.alloc o).cell? ⟨X, 4, none⟩ = some (.int .i64 3) := fun o => (hX.alloc o).c 4 rfl
  go_enter Tryd.func62, Tryd.ntmps62
  go_wp2
  go_ret
  exact ⟨rfl, Array.getElem?_push_size, (Below.refl _ _).alloc (Nat.le_refl _) _⟩
end Go.Proofs.YtcmbajphholliabDoor
namespace Go.Proofs.YtcmbajphholliabDoor
open Go.ChangeShapes Go.WideShapes Go.ChangeAt Go.RowKit Go.BigFrame Go.Joins
set_option linter.unusedVariables false
set_option linter.unusedSimpArgs false
set_option maxRecDepth 100000

set_option maxHeartbeats 4000000 in
theorem handle_skipR (va : Option Addr) (vn vc : Nat) (X : Nat) (xa xi xh xp s0 s1 s2 s3 s4 : Int) (ga ca pa ma : Option Addr) (gx cx px mx : Nat) (gs cs : List (Int × Int)) (ps ms : List Int) (ek ee kn sa ho ix pr bw er : Int) (es : Array MapEntry) (n : Nat) (w : World) (hX : Bl w X [.int .i64 xa, .int .i64 xi, .int .i64 xh, .int .i64 xp, .int .i64 s0, .int .i64 s1, .int .i64 s2, .int .i64 s3, .int .i64 s4, .slice va vn vc]) (HR : ∀ w, Bl w X [.int .i64 xa, .int .i64 xi, .int .i64 xh, .int .i64 xp, .int .i64 s0, .int .i64 s1, .int .i64 s2, .int .i64 s3, .int .i64 s4, .slice va vn vc] → Calls Tryd.prog 62 #[.pointer (some ⟨X, 0, none⟩)] w fun e w' => e = .returned (.map (some w.heap.size)) ∧ w'.heap[w.heap.size]? = some (.map es n) ∧ Below w.heap.size w w')
    (hf : Instr.findNow (.int .i64) (.int .i64 ek) es.toList 0 = some none) :
    Calls Tryd.prog 29 #[.pointer (some ⟨X, 0, none⟩), .agg #[.int .i64 ek, .int .i64 kn, .int .i64 sa, .int .i64 ho, .int .i64 ix, .slice ga gs.length gx, .slice ca cs.length cx, .slice pa ps.length px, .int .i64 pr, .slice ma ms.length mx, .int .i64 bw, .int .i64 er, .int .i64 ee]] w fun e w' => e = .returned (.tuple #[]) ∧ Bl w' X [.int .i64 xa, .int .i64 xi, .int .i64 xh, .int .i64 xp, .int .i64 s0, .int .i64 s1, .int .i64 s2, .int .i64 s3, .int .i64 s4, .slice va vn vc] ∧ w.grownBy w' (some X) := by
  obtain ⟨bE, B0, z⟩ := one w [.int .i64 ek, .int .i64 kn, .int .i64 sa, .int .i64 ho, .int .i64 ix, .slice ga gs.length gx, .slice ca cs.length cx, .slice pa ps.length px, .int .i64 pr, .slice ma ms.length mx, .int .i64 bw, .int .i64 er, .int .i64 ee] 48
  have hne : X ≠ w.heap.size := Nat.ne_of_lt hX.lt
  have hne' : w.heap.size ≠ X := Nat.ne_of_gt hX.lt
  replace hX := hX.keep B0
  have g0 := grown_below B0 (some X)
  clear z
  have fe0 := bE.c 0 rfl
  have fe1 := bE.c 1 rfl
  have fe2 := bE.c 2 rfl
  have fe3 := bE.c 3 rfl
  have fe4 := bE.c 4 rfl
  have fe5 := bE.c 5 rfl
  have fe6 := bE.c 6 rfl
  have fe7 := bE.c 7 rfl
  have fe8 := bE.c 8 rfl
  have fe9 := bE.c 9 rfl
  have fe10 := bE.c 10 rfl
  have fe11 := bE.c 11 rfl
  have fe12 := bE.c 12 rfl
  go_enter Tryd.func29, Tryd.ntmps29
  go_wp2_with fail
  clear fe0 fe1 fe2 fe3 fe4 fe5 fe6 fe7 fe8 fe9 fe10 fe11 fe12
  obtain ⟨V, eV⟩ : ∃ V, V = w.alloc (.cells #[.int .i64 ek, .int .i64 kn, .int .i64 sa, .int .i64 ho, .int .i64 ix, .slice ga gs.length gx, .slice ca cs.length cx, .slice pa ps.length px, .int .i64 pr, .slice ma ms.length mx, .int .i64 bw, .int .i64 er, .int .i64 ee] 48) := ⟨_, rfl⟩
  obtain ⟨E, eE⟩ : ∃ E, E = w.heap.size := ⟨_, rfl⟩
  rw [← eE] at bE ⊢
  have HE := Lib.hid eE
  rw [← eV] at bE hX g0 B0 ⊢
  clear eV eE hne hne'
  have HRR := Lib.hid HR
  have HF := Lib.hid hf
  clear HR hf
  go_region_held3 (fun w' => Over V w' ∧ w'.cell? ⟨E, 0, none⟩ = some (.int .i64 ek))
    ((first | exact ⟨over_drew _, over_cell (over_drew _) bE.lt (bE.c 0 rfl)⟩ | exact ⟨over_step (‹Over V _ ∧ _›).1 (by assumption), over_cell (over_step (‹Over V _ ∧ _›).1 (by assumption)) bE.lt (bE.c 0 rfl)⟩ | assumption | fail))
    ((first | (go_at_call 62; refine (HRR.out _ (hX.keep (‹Over V _ ∧ _›).1)).mono ?_; rintro e wm ⟨rfl, hmap, hbm⟩; have hlk := (show (Instr.lookup 100 (.map (some V.heap.size)) (.int .i64 ek) true).run Tryd.prog wm = .ok (.tuple #[.nilFunc, .bool false]) wm from look_no es n _ ek wm hmap HF.out)) | fail))
  all_goals
    rename_i hH
    replace hH := hH.1
    have hX1 := hX.keep hH
    have g1 := grow_row g0 (grown_below hH none) (fun k hk => by cases hk)
    clear hH hlk hbm hmap bE B0 g0 hX
    go_wp2
    exact bodyPost_ret (v := .tuple #[]) (by simp [results, Tryd.results29, go_sem]) rfl ⟨rfl, hX1, g1⟩
set_option maxHeartbeats 4000000 in
theorem handle_nil_hearOpenR (va : Option Addr) (vn vc base : Nat) (l : List Bm) (X : Nat) (xa xi xh xp s0 s1 s2 s3 s4 : Int) (ga ca pa ma : Option Addr) (gx cx px mx : Nat) (gs cs : List (Int × Int)) (ps ms : List Int) (ek ee kn sa ho ix pr bw er : Int) (r0 r1 r2 r3 r4 : Int) (ml : List Bm) (es : Array MapEntry) (n i : Nat) (w : World) (hX : Bl w X [.int .i64 xa, .int .i64 xi, .int .i64 xh, .int .i64 xp, .int .i64 s0, .int .i64 s1, .int .i64 s2, .int .i64 s3, .int .i64 s4, .slice va vn vc]) (HR : ∀ w, Bl w X [.int .i64 xa, .int .i64 xi, .int .i64 xh, .int .i64 xp, .int .i64 s0, .int .i64 s1, .int .i64 s2, .int .i64 s3, .int .i64 s4, .slice va vn vc] → Calls Tryd.prog 62 #[.pointer (some ⟨X, 0, none⟩)] w fun e w' => e = .returned (.map (some w.heap.size)) ∧ w'.heap[w.heap.size]? = some (.map es n) ∧ Below w.heap.size w w')
    (hf : Instr.findNow (.int .i64) (.int .i64 ek) es.toList 0 = some (some (i, .func (.func 91) #[.pointer (some ⟨X, 0, none⟩)] #[])))
    (HM : ∀ w', Below w.heap.size w w' → Bl w' X [.int .i64 xa, .int .i64 xi, .int .i64 xh, .int .i64 xp, .int .i64 s0, .int .i64 s1, .int .i64 s2, .int .i64 s3, .int .i64 s4, .slice va vn vc] → Sent w' X base (.slice va vn vc) l → Calls Tryd.prog 91 #[.pointer (some ⟨X, 0, none⟩), .agg #[.int .i64 ek, .int .i64 kn, .int .i64 sa, .int .i64 ho, .int .i64 ix, .slice ga gs.length gx, .slice ca cs.length cx, .slice pa ps.length px, .int .i64 pr, .slice ma ms.length mx, .int .i64 bw, .int .i64 er, .int .i64 ee]] w' fun e w'' => e = .returned (.nilIface) ∧ ∃ v, Bl w'' X [.int .i64 xa, .int .i64 xi, .int .i64 xh, .int .i64 xp, .int .i64 r0, .int .i64 r1, .int .i64 r2, .int .i64 r3, .int .i64 r4, v] ∧ SentP w' w'' X base va v (l ++ ml)) (HS : Hid (Sent w X base (.slice va vn vc) l)) :
    Calls Tryd.prog 29 #[.pointer (some ⟨X, 0, none⟩), .agg #[.int .i64 ek, .int .i64 kn, .int .i64 sa, .int .i64 ho, .int .i64 ix, .slice ga gs.length gx, .slice ca cs.length cx, .slice pa ps.length px, .int .i64 pr, .slice ma ms.length mx, .int .i64 bw, .int .i64 er, .int .i64 ee]] w fun e w' => e = .returned (.tuple #[]) ∧ ∃ v, Bl w' X [.int .i64 xa, .int .i64 xi, .int .i64 xh, .int .i64 xp, .int .i64 r0, .int .i64 r1, .int .i64 r2, .int .i64 r3, .int .i64 r4, v] ∧ SentP w w' X base va v (l ++ ml) := by
  obtain ⟨bE, B0, z⟩ := one w [.int .i64 ek, .int .i64 kn, .int .i64 sa, .int .i64 ho, .int .i64 ix, .slice ga gs.length gx, .slice ca cs.length cx, .slice pa ps.length px, .int .i64 pr, .slice ma ms.length mx, .int .i64 bw, .int .i64 er, .int .i64 ee] 48
  have hne : X ≠ w.heap.size := Nat.ne_of_lt hX.lt
  have hne' : w.heap.size ≠ X := Nat.ne_of_gt hX.lt
  replace hX := hX.keep B0
  have g0 := grown_below B0 (some X)
  clear z
  have HMM := Lib.hid HM
  clear HM
  have fe0 := bE.c 0 rfl
  have fe1 := bE.c 1 rfl
  have fe2 := bE.c 2 rfl
  have fe3 := bE.c 3 rfl
  have fe4 := bE.c 4 rfl
  have fe5 := bE.c 5 rfl
  have fe6 := bE.c 6 rfl
  have fe7 := bE.c 7 rfl
  have fe8 := bE.c 8 rfl
  have fe9 := bE.c 9 rfl
  have fe10 := bE.c 10 rfl
  have fe11 := bE.c 11 rfl
  have fe12 := bE.c 12 rfl
  go_enter Tryd.func29, Tryd.ntmps29
  go_wp2_with fail
  clear fe0 fe1 fe2 fe3 fe4 fe5 fe6 fe7 fe8 fe9 fe10 fe11 fe12
  obtain ⟨V, eV⟩ : ∃ V, V = w.alloc (.cells #[.int .i64 ek, .int .i64 kn, .int .i64 sa, .int .i64 ho, .int .i64 ix, .slice ga gs.length gx, .slice ca cs.length cx, .slice pa ps.length px, .int .i64 pr, .slice ma ms.length mx, .int .i64 bw, .int .i64 er, .int .i64 ee] 48) := ⟨_, rfl⟩
  obtain ⟨E, eE⟩ : ∃ E, E = w.heap.size := ⟨_, rfl⟩
  rw [← eE] at bE ⊢
  have HE := Lib.hid eE
  rw [← eV] at bE hX g0 B0 ⊢
  clear eV eE hne hne'
  have HRR := Lib.hid HR
  have HF := Lib.hid hf
  clear HR hf
  go_region_held3 (fun w' => Over V w' ∧ w'.cell? ⟨E, 0, none⟩ = some (.int .i64 ek))
    ((first | exact ⟨over_drew _, over_cell (over_drew _) bE.lt (bE.c 0 rfl)⟩ | exact ⟨over_step (‹Over V _ ∧ _›).1 (by assumption), over_cell (over_step (‹Over V _ ∧ _›).1 (by assumption)) bE.lt (bE.c 0 rfl)⟩ | assumption | fail))
    ((first | (go_at_call 62; refine (HRR.out _ (hX.keep (‹Over V _ ∧ _›).1)).mono ?_; rintro e wm ⟨rfl, hmap, hbm⟩; have hlk := (show (Instr.lookup 100 (.map (some V.heap.size)) (.int .i64 ek) true).run Tryd.prog wm = .ok (.tuple #[.func (.func 91) #[.pointer (some ⟨X, 0, none⟩)] #[], .bool true]) wm from look_yes es n _ i ek _ wm hmap HF.out)) | fail))
  all_goals
    rename_i hH
    replace hH := hH.1
    have hX1 := hX.keep hH
    have bE1 := bE.keep hH
    have g1 := grow_row g0 (grown_below hH none) (fun k hk => by cases hk)
    have B1 := below_step B0 hH
    clear hH hlk hbm hmap bE B0 g0 hX
    have fe0 := bE1.c 0 rfl
    have fe1 := bE1.c 1 rfl
    have fe2 := bE1.c 2 rfl
    have fe3 := bE1.c 3 rfl
    have fe4 := bE1.c 4 rfl
    have fe5 := bE1.c 5 rfl
    have fe6 := bE1.c 6 rfl
    have fe7 := bE1.c 7 rfl
    have fe8 := bE1.c 8 rfl
    have fe9 := bE1.c 9 rfl
    have fe10 := bE1.c 10 rfl
    have fe11 := bE1.c 11 rfl
    have fe12 := bE1.c 12 rfl
    go_wp2_with fail
    clear fe0 fe1 fe2 fe3 fe4 fe5 fe6 fe7 fe8 fe9 fe10 fe11 fe12
    refine (HMM.out _ B1 hX1 (HS.out.step g1)).mono ?_
    rintro e w2 ⟨rfl, v9, hX9, o9⟩
    have O9 := o9.back g1
    clear o9 g1 bE1 hX1 B1
    go_wp2
    first | go_end0 | go_ret
    exact ⟨rfl, v9, hX9, O9⟩
set_option maxHeartbeats 4000000 in
theorem handle_nil_hearKeepR (va : Option Addr) (vn vc base : Nat) (l : List Bm) (X : Nat) (xa xi xh xp s0 s1 s2 s3 s4 : Int) (ga ca pa ma : Option Addr) (gx cx px mx : Nat) (gs cs : List (Int × Int)) (ps ms : List Int) (ek ee kn sa ho ix pr bw er : Int) (r0 r1 r2 r3 r4 : Int) (ml : List Bm) (es : Array MapEntry) (n i : Nat) (w : World) (hX : Bl w X [.int .i64 xa, .int .i64 xi, .int .i64 xh, .int .i64 xp, .int .i64 s0, .int .i64 s1, .int .i64 s2, .int .i64 s3, .int .i64 s4, .slice va vn vc]) (HR : ∀ w, Bl w X [.int .i64 xa, .int .i64 xi, .int .i64 xh, .int .i64 xp, .int .i64 s0, .int .i64 s1, .int .i64 s2, .int .i64 s3, .int .i64 s4, .slice va vn vc] → Calls Tryd.prog 62 #[.pointer (some ⟨X, 0, none⟩)] w fun e w' => e = .returned (.map (some w.heap.size)) ∧ w'.heap[w.heap.size]? = some (.map es n) ∧ Below w.heap.size w w')
    (hf : Instr.findNow (.int .i64) (.int .i64 ek) es.toList 0 = some (some (i, .func (.func 93) #[.pointer (some ⟨X, 0, none⟩)] #[])))
    (HM : ∀ w', Below w.heap.size w w' → Bl w' X [.int .i64 xa, .int .i64 xi, .int .i64 xh, .int .i64 xp, .int .i64 s0, .int .i64 s1, .int .i64 s2, .int .i64 s3, .int .i64 s4, .slice va vn vc] → Sent w' X base (.slice va vn vc) l → Calls Tryd.prog 93 #[.pointer (some ⟨X, 0, none⟩), .agg #[.int .i64 ek, .int .i64 kn, .int .i64 sa, .int .i64 ho, .int .i64 ix, .slice ga gs.length gx, .slice ca cs.length cx, .slice pa ps.length px, .int .i64 pr, .slice ma ms.length mx, .int .i64 bw, .int .i64 er, .int .i64 ee]] w' fun e w'' => e = .returned (.nilIface) ∧ ∃ v, Bl w'' X [.int .i64 xa, .int .i64 xi, .int .i64 xh, .int .i64 xp, .int .i64 r0, .int .i64 r1, .int .i64 r2, .int .i64 r3, .int .i64 r4, v] ∧ SentP w' w'' X base va v (l ++ ml)) (HS : Hid (Sent w X base (.slice va vn vc) l)) :
    Calls Tryd.prog 29 #[.pointer (some ⟨X, 0, none⟩), .agg #[.int .i64 ek, .int .i64 kn, .int .i64 sa, .int .i64 ho, .int .i64 ix, .slice ga gs.length gx, .slice ca cs.length cx, .slice pa ps.length px, .int .i64 pr, .slice ma ms.length mx, .int .i64 bw, .int .i64 er, .int .i64 ee]] w fun e w' => e = .returned (.tuple #[]) ∧ ∃ v, Bl w' X [.int .i64 xa, .int .i64 xi, .int .i64 xh, .int .i64 xp, .int .i64 r0, .int .i64 r1, .int .i64 r2, .int .i64 r3, .int .i64 r4, v] ∧ SentP w w' X base va v (l ++ ml) := by
  obtain ⟨bE, B0, z⟩ := one w [.int .i64 ek, .int .i64 kn, .int .i64 sa, .int .i64 ho, .int .i64 ix, .slice ga gs.length gx, .slice ca cs.length cx, .slice pa ps.length px, .int .i64 pr, .slice ma ms.length mx, .int .i64 bw, .int .i64 er, .int .i64 ee] 48
  have hne : X ≠ w.heap.size := Nat.ne_of_lt hX.lt
  have hne' : w.heap.size ≠ X := Nat.ne_of_gt hX.lt
  replace hX := hX.keep B0
  have g0 := grown_below B0 (some X)
  clear z
  have HMM := Lib.hid HM
  clear HM
  have fe0 := bE.c 0 rfl
  have fe1 := bE.c 1 rfl
  have fe2 := bE.c 2 rfl
  have fe3 := bE.c 3 rfl
  have fe4 := bE.c 4 rfl
  have fe5 := bE.c 5 rfl
  have fe6 := bE.c 6 rfl
  have fe7 := bE.c 7 rfl
  have fe8 := bE.c 8 rfl
  have fe9 := bE.c 9 rfl
  have fe10 := bE.c 10 rfl
  have fe11 := bE.c 11 rfl
  have fe12 := bE.c 12 rfl
  go_enter Tryd.func29, Tryd.ntmps29
  go_wp2_with fail
  clear fe0 fe1 fe2 fe3 fe4 fe5 fe6 fe7 fe8 fe9 fe10 fe11 fe12
  obtain ⟨V, eV⟩ : ∃ V, V = w.alloc (.cells #[.int .i64 ek, .int .i64 kn, .int .i64 sa, .int .i64 ho, .int .i64 ix, .slice ga gs.length gx, .slice ca cs.length cx, .slice pa ps.length px, .int .i64 pr, .slice ma ms.length mx, .int .i64 bw, .int .i64 er, .int .i64 ee] 48) := ⟨_, rfl⟩
  obtain ⟨E, eE⟩ : ∃ E, E = w.heap.size := ⟨_, rfl⟩
  rw [← eE] at bE ⊢
  have HE := Lib.hid eE
  rw [← eV] at bE hX g0 B0 ⊢
  clear eV eE hne hne'
  have HRR := Lib.hid HR
  have HF := Lib.hid hf
  clear HR hf
  go_region_held3 (fun w' => Over V w' ∧ w'.cell? ⟨E, 0, none⟩ = some (.int .i64 ek))
    ((first | exact ⟨over_drew _, over_cell (over_drew _) bE.lt (bE.c 0 rfl)⟩ | exact ⟨over_step (‹Over V _ ∧ _›).1 (by assumption), over_cell (over_step (‹Over V _ ∧ _›).1 (by assumption)) bE.lt (bE.c 0 rfl)⟩ | assumption | fail))
    ((first | (go_at_call 62; refine (HRR.out _ (hX.keep (‹Over V _ ∧ _›).1)).mono ?_; rintro e wm ⟨rfl, hmap, hbm⟩; have hlk := (show (Instr.lookup 100 (.map (some V.heap.size)) (.int .i64 ek) true).run Tryd.prog wm = .ok (.tuple #[.func (.func 93) #[.pointer (some ⟨X, 0, none⟩)] #[], .bool true]) wm from look_yes es n _ i ek _ wm hmap HF.out)) | fail))
  all_goals
    rename_i hH
    replace hH := hH.1
    have hX1 := hX.keep hH
    have bE1 := bE.keep hH
    have g1 := grow_row g0 (grown_below hH none) (fun k hk => by cases hk)
    have B1 := below_step B0 hH
    clear hH hlk hbm hmap bE B0 g0 hX
    have fe0 := bE1.c 0 rfl
    have fe1 := bE1.c 1 rfl
    have fe2 := bE1.c 2 rfl
    have fe3 := bE1.c 3 rfl
    have fe4 := bE1.c 4 rfl
    have fe5 := bE1.c 5 rfl
    have fe6 := bE1.c 6 rfl
    have fe7 := bE1.c 7 rfl
    have fe8 := bE1.c 8 rfl
    have fe9 := bE1.c 9 rfl
    have fe10 := bE1.c 10 rfl
    have fe11 := bE1.c 11 rfl
    have fe12 := bE1.c 12 rfl
    go_wp2_with fail
    clear fe0 fe1 fe2 fe3 fe4 fe5 fe6 fe7 fe8 fe9 fe10 fe11 fe12
    refine (HMM.out _ B1 hX1 (HS.out.step g1)).mono ?_
    rintro e w2 ⟨rfl, v9, hX9, o9⟩
    have O9 := o9.back g1
    clear o9 g1 bE1 hX1 B1
    go_wp2
    first | go_end0 | go_ret
    exact ⟨rfl, v9, hX9, O9⟩
set_option maxHeartbeats 4000000 in
theorem handle_code_hearOpenR (va : Option Addr) (vn vc base : Nat) (l : List Bm) (X : Nat) (xa xi xh xp s0 s1 s2 s3 s4 : Int) (ga ca pa ma : Option Addr) (gx cx px mx : Nat) (gs cs : List (Int × Int)) (ps ms : List Int) (ek ee kn sa ho ix pr bw er : Int) (r0 r1 r2 r3 r4 : Int) (ml : List Bm) (c : Int) (es : Array MapEntry) (n i : Nat) (w : World) (hX : Bl w X [.int .i64 xa, .int .i64 xi, .int .i64 xh, .int .i64 xp, .int .i64 s0, .int .i64 s1, .int .i64 s2, .int .i64 s3, .int .i64 s4, .slice va vn vc]) (HR : ∀ w, Bl w X [.int .i64 xa, .int .i64 xi, .int .i64 xh, .int .i64 xp, .int .i64 s0, .int .i64 s1, .int .i64 s2, .int .i64 s3, .int .i64 s4, .slice va vn vc] → Calls Tryd.prog 62 #[.pointer (some ⟨X, 0, none⟩)] w fun e w' => e = .returned (.map (some w.heap.size)) ∧ w'.heap[w.heap.size]? = some (.map es n) ∧ Below w.heap.size w w')
    (hf : Instr.findNow (.int .i64) (.int .i64 ek) es.toList 0 = some (some (i, .func (.func 91) #[.pointer (some ⟨X, 0, none⟩)] #[]))) (hX1n : 1 ≠ X) (hg1 : w.cell? ⟨1, 0, none⟩ = some (.iface 172 (.agg #[.pointer (some ⟨6, 103, none⟩)])))
    (HM : ∀ w', Below w.heap.size w w' → Bl w' X [.int .i64 xa, .int .i64 xi, .int .i64 xh, .int .i64 xp, .int .i64 s0, .int .i64 s1, .int .i64 s2, .int .i64 s3, .int .i64 s4, .slice va vn vc] → Calls Tryd.prog 91 #[.pointer (some ⟨X, 0, none⟩), .agg #[.int .i64 ek, .int .i64 kn, .int .i64 sa, .int .i64 ho, .int .i64 ix, .slice ga gs.length gx, .slice ca cs.length cx, .slice pa ps.length px, .int .i64 pr, .slice ma ms.length mx, .int .i64 bw, .int .i64 er, .int .i64 ee]] w' fun e w'' => e = .returned (.iface 138 (.int .i64 c)) ∧ Bl w'' X [.int .i64 xa, .int .i64 xi, .int .i64 xh, .int .i64 xp, .int .i64 r0, .int .i64 r1, .int .i64 r2, .int .i64 r3, .int .i64 r4, .slice va vn vc] ∧ w'.grownBy w'' (some X))
    (HEN : ∀ w', Bl w' X [.int .i64 xa, .int .i64 xi, .int .i64 xh, .int .i64 xp, .int .i64 r0, .int .i64 r1, .int .i64 r2, .int .i64 r3, .int .i64 r4, .slice va vn vc] → Sent w' X base (.slice va vn vc) l → w'.cell? ⟨1, 0, none⟩ = some (.iface 172 (.agg #[.pointer (some ⟨6, 103, none⟩)])) → Calls Tryd.prog 63 #[.pointer (some ⟨X, 0, none⟩), .iface 138 (.int .i64 c)] w' fun e w'' => e = .returned (.tuple #[]) ∧ ∃ v, Bl w'' X [.int .i64 xa, .int .i64 xi, .int .i64 xh, .int .i64 xp, .int .i64 0, .int .i64 0, .int .i64 0, .int .i64 0, .int .i64 0, v] ∧ SentP w' w'' X base va v (l ++ ml)) (HS : Hid (Sent w X base (.slice va vn vc) l)) :
    Calls Tryd.prog 29 #[.pointer (some ⟨X, 0, none⟩), .agg #[.int .i64 ek, .int .i64 kn, .int .i64 sa, .int .i64 ho, .int .i64 ix, .slice ga gs.length gx, .slice ca cs.length cx, .slice pa ps.length px, .int .i64 pr, .slice ma ms.length mx, .int .i64 bw, .int .i64 er, .int .i64 ee]] w fun e w' => e = .returned (.tuple #[]) ∧ ∃ v, Bl w' X [.int .i64 xa, .int .i64 xi, .int .i64 xh, .int .i64 xp, .int .i64 0, .int .i64 0, .int .i64 0, .int .i64 0, .int .i64 0, v] ∧ SentP w w' X base va v (l ++ ml) := by
  have HENN := Lib.hid HEN
  have HGL := Lib.hid (And.intro hg1 (World.block_lt_of_cell? w _ hg1))
  have HXN := Lib.hid hX1n
  clear HEN hg1 hX1n
  obtain ⟨bE, B0, z⟩ := one w [.int .i64 ek, .int .i64 kn, .int .i64 sa, .int .i64 ho, .int .i64 ix, .slice ga gs.length gx, .slice ca cs.length cx, .slice pa ps.length px, .int .i64 pr, .slice ma ms.length mx, .int .i64 bw, .int .i64 er, .int .i64 ee] 48
  have hne : X ≠ w.heap.size := Nat.ne_of_lt hX.lt
  have hne' : w.heap.size ≠ X := Nat.ne_of_gt hX.lt
  replace hX := hX.keep B0
  have g0 := grown_below B0 (some X)
  clear z
  have HMM := Lib.hid HM
  clear HM
  have fe0 := bE.c 0 rfl
  have fe1 := bE.c 1 rfl
  have fe2 := bE.c 2 rfl
  have fe3 := bE.c 3 rfl
  have fe4 := bE.c 4 rfl
  have fe5 := bE.c 5 rfl
  have fe6 := bE.c 6 rfl
  have fe7 := bE.c 7 rfl
  have fe8 := bE.c 8 rfl
  have fe9 := bE.c 9 rfl
  have fe10 := bE.c 10 rfl
  have fe11 := bE.c 11 rfl
  have fe12 := bE.c 12 rfl
  go_enter Tryd.func29, Tryd.ntmps29
  go_wp2_with fail
  clear fe0 fe1 fe2 fe3 fe4 fe5 fe6 fe7 fe8 fe9 fe10 fe11 fe12
  obtain ⟨V, eV⟩ : ∃ V, V = w.alloc (.cells #[.int .i64 ek, .int .i64 kn, .int .i64 sa, .int .i64 ho, .int .i64 ix, .slice ga gs.length gx, .slice ca cs.length cx, .slice pa ps.length px, .int .i64 pr, .slice ma ms.length mx, .int .i64 bw, .int .i64 er, .int .i64 ee] 48) := ⟨_, rfl⟩
  obtain ⟨E, eE⟩ : ∃ E, E = w.heap.size := ⟨_, rfl⟩
  rw [← eE] at bE ⊢
  have HE := Lib.hid eE
  rw [← eV] at bE hX g0 B0 ⊢
  clear eV eE hne hne'
  have HRR := Lib.hid HR
  have HF := Lib.hid hf
  clear HR hf
  go_region_held3 (fun w' => Over V w' ∧ w'.cell? ⟨E, 0, none⟩ = some (.int .i64 ek))
    ((first | exact ⟨over_drew _, over_cell (over_drew _) bE.lt (bE.c 0 rfl)⟩ | exact ⟨over_step (‹Over V _ ∧ _›).1 (by assumption), over_cell (over_step (‹Over V _ ∧ _›).1 (by assumption)) bE.lt (bE.c 0 rfl)⟩ | assumption | fail))
    ((first | (go_at_call 62; refine (HRR.out _ (hX.keep (‹Over V _ ∧ _›).1)).mono ?_; rintro e wm ⟨rfl, hmap, hbm⟩; have hlk := (show (Instr.lookup 100 (.map (some V.heap.size)) (.int .i64 ek) true).run Tryd.prog wm = .ok (.tuple #[.func (.func 91) #[.pointer (some ⟨X, 0, none⟩)] #[], .bool true]) wm from look_yes es n _ i ek _ wm hmap HF.out)) | fail))
  all_goals
    rename_i hH
    replace hH := hH.1
    have hX1 := hX.keep hH
    have bE1 := bE.keep hH
    have g1 := grow_row g0 (grown_below hH none) (fun k hk => by cases hk)
    have B1 := below_step B0 hH
    clear hH hlk hbm hmap bE B0 g0 hX
    have fe0 := bE1.c 0 rfl
    have fe1 := bE1.c 1 rfl
    have fe2 := bE1.c 2 rfl
    have fe3 := bE1.c 3 rfl
    have fe4 := bE1.c 4 rfl
    have fe5 := bE1.c 5 rfl
    have fe6 := bE1.c 6 rfl
    have fe7 := bE1.c 7 rfl
    have fe8 := bE1.c 8 rfl
    have fe9 := bE1.c 9 rfl
    have fe10 := bE1.c 10 rfl
    have fe11 := bE1.c 11 rfl
    have fe12 := bE1.c 12 rfl
    go_wp2_with fail
    clear fe0 fe1 fe2 fe3 fe4 fe5 fe6 fe7 fe8 fe9 fe10 fe11 fe12
    refine (HMM.out _ B1 hX1).mono ?_
    rintro e w2 ⟨rfl, hX2, g2⟩
    have G2 := grown_trans g1 g2
    have hG := (G2.cell_far ⟨1, 0, none⟩ HGL.out.2 (by simpa using HXN.out)).trans HGL.out.1
    clear g2 g1 bE1 hX1 B1
    go_wp2_with fail
    refine (HENN.out _ hX2 (HS.out.step G2) hG).mono ?_
    rintro e w3 ⟨rfl, v9, hX9, o9⟩
    have O9 := o9.back G2
    clear o9 G2 hX2 hG
    go_wp2
    first | go_end0 | go_ret
    exact ⟨rfl, v9, hX9, O9⟩
set_option maxHeartbeats 4000000 in
theorem handle_gone_hearKeepR (va : Option Addr) (vn vc base : Nat) (l : List Bm) (X : Nat) (xa xi xh xp s0 s1 s2 s3 s4 : Int) (ga ca pa ma : Option Addr) (gx cx px mx : Nat) (gs cs : List (Int × Int)) (ps ms : List Int) (ek ee kn sa ho ix pr bw er : Int) (r0 r1 r2 r3 r4 : Int) (ml : List Bm) (u : Value) (es : Array MapEntry) (n i : Nat) (w : World) (hX : Bl w X [.int .i64 xa, .int .i64 xi, .int .i64 xh, .int .i64 xp, .int .i64 s0, .int .i64 s1, .int .i64 s2, .int .i64 s3, .int .i64 s4, .slice va vn vc]) (HR : ∀ w, Bl w X [.int .i64 xa, .int .i64 xi, .int .i64 xh, .int .i64 xp, .int .i64 s0, .int .i64 s1, .int .i64 s2, .int .i64 s3, .int .i64 s4, .slice va vn vc] → Calls Tryd.prog 62 #[.pointer (some ⟨X, 0, none⟩)] w fun e w' => e = .returned (.map (some w.heap.size)) ∧ w'.heap[w.heap.size]? = some (.map es n) ∧ Below w.heap.size w w')
    (hf : Instr.findNow (.int .i64) (.int .i64 ek) es.toList 0 = some (some (i, .func (.func 93) #[.pointer (some ⟨X, 0, none⟩)] #[]))) (hX1n : 1 ≠ X) (hg1 : w.cell? ⟨1, 0, none⟩ = some (.iface 172 (.agg #[.pointer (some ⟨6, 103, none⟩)])))
    (HM : ∀ w', Below w.heap.size w w' → Bl w' X [.int .i64 xa, .int .i64 xi, .int .i64 xh, .int .i64 xp, .int .i64 s0, .int .i64 s1, .int .i64 s2, .int .i64 s3, .int .i64 s4, .slice va vn vc] → Calls Tryd.prog 93 #[.pointer (some ⟨X, 0, none⟩), .agg #[.int .i64 ek, .int .i64 kn, .int .i64 sa, .int .i64 ho, .int .i64 ix, .slice ga gs.length gx, .slice ca cs.length cx, .slice pa ps.length px, .int .i64 pr, .slice ma ms.length mx, .int .i64 bw, .int .i64 er, .int .i64 ee]] w' fun e w'' => e = .returned (.iface 194 u) ∧ Bl w'' X [.int .i64 xa, .int .i64 xi, .int .i64 xh, .int .i64 xp, .int .i64 r0, .int .i64 r1, .int .i64 r2, .int .i64 r3, .int .i64 r4, .slice va vn vc] ∧ w'.grownBy w'' (some X))
    (HEN : ∀ w', Bl w' X [.int .i64 xa, .int .i64 xi, .int .i64 xh, .int .i64 xp, .int .i64 r0, .int .i64 r1, .int .i64 r2, .int .i64 r3, .int .i64 r4, .slice va vn vc] → Sent w' X base (.slice va vn vc) l → w'.cell? ⟨1, 0, none⟩ = some (.iface 172 (.agg #[.pointer (some ⟨6, 103, none⟩)])) → Calls Tryd.prog 63 #[.pointer (some ⟨X, 0, none⟩), .iface 194 u] w' fun e w'' => e = .returned (.tuple #[]) ∧ ∃ v, Bl w'' X [.int .i64 xa, .int .i64 xi, .int .i64 xh, .int .i64 xp, .int .i64 0, .int .i64 0, .int .i64 0, .int .i64 0, .int .i64 0, v] ∧ SentP w' w'' X base va v (l ++ ml)) (HS : Hid (Sent w X base (.slice va vn vc) l)) :
    Calls Tryd.prog 29 #[.pointer (some ⟨X, 0, none⟩), .agg #[.int .i64 ek, .int .i64 kn, .int .i64 sa, .int .i64 ho, .int .i64 ix, .slice ga gs.length gx, .slice ca cs.length cx, .slice pa ps.length px, .int .i64 pr, .slice ma ms.length mx, .int .i64 bw, .int .i64 er, .int .i64 ee]] w fun e w' => e = .returned (.tuple #[]) ∧ ∃ v, Bl w' X [.int .i64 xa, .int .i64 xi, .int .i64 xh, .int .i64 xp, .int .i64 0, .int .i64 0, .int .i64 0, .int .i64 0, .int .i64 0, v] ∧ SentP w w' X base va v (l ++ ml) := by
  have HENN := Lib.hid HEN
  have HGL := Lib.hid (And.intro hg1 (World.block_lt_of_cell? w _ hg1))
  have HXN := Lib.hid hX1n
  clear HEN hg1 hX1n
  obtain ⟨bE, B0, z⟩ := one w [.int .i64 ek, .int .i64 kn, .int .i64 sa, .int .i64 ho, .int .i64 ix, .slice ga gs.length gx, .slice ca cs.length cx, .slice pa ps.length px, .int .i64 pr, .slice ma ms.length mx, .int .i64 bw, .int .i64 er, .int .i64 ee] 48
  have hne : X ≠ w.heap.size := Nat.ne_of_lt hX.lt
  have hne' : w.heap.size ≠ X := Nat.ne_of_gt hX.lt
  replace hX := hX.keep B0
  have g0 := grown_below B0 (some X)
  clear z
  have HMM := Lib.hid HM
  clear HM
  have fe0 := bE.c 0 rfl
  have fe1 := bE.c 1 rfl
  have fe2 := bE.c 2 rfl
  have fe3 := bE.c 3 rfl
  have fe4 := bE.c 4 rfl
  have fe5 := bE.c 5 rfl
  have fe6 := bE.c 6 rfl
  have fe7 := bE.c 7 rfl
  have fe8 := bE.c 8 rfl
  have fe9 := bE.c 9 rfl
  have fe10 := bE.c 10 rfl
  have fe11 := bE.c 11 rfl
  have fe12 := bE.c 12 rfl
  go_enter Tryd.func29, Tryd.ntmps29
  go_wp2_with fail
  clear fe0 fe1 fe2 fe3 fe4 fe5 fe6 fe7 fe8 fe9 fe10 fe11 fe12
  obtain ⟨V, eV⟩ : ∃ V, V = w.alloc (.cells #[.int .i64 ek, .int .i64 kn, .int .i64 sa, .int .i64 ho, .int .i64 ix, .slice ga gs.length gx, .slice ca cs.length cx, .slice pa ps.length px, .int .i64 pr, .slice ma ms.length mx, .int .i64 bw, .int .i64 er, .int .i64 ee] 48) := ⟨_, rfl⟩
  obtain ⟨E, eE⟩ : ∃ E, E = w.heap.size := ⟨_, rfl⟩
  rw [← eE] at bE ⊢
  have HE := Lib.hid eE
  rw [← eV] at bE hX g0 B0 ⊢
  clear eV eE hne hne'
  have HRR := Lib.hid HR
  have HF := Lib.hid hf
  clear HR hf
  go_region_held3 (fun w' => Over V w' ∧ w'.cell? ⟨E, 0, none⟩ = some (.int .i64 ek))
    ((first | exact ⟨over_drew _, over_cell (over_drew _) bE.lt (bE.c 0 rfl)⟩ | exact ⟨over_step (‹Over V _ ∧ _›).1 (by assumption), over_cell (over_step (‹Over V _ ∧ _›).1 (by assumption)) bE.lt (bE.c 0 rfl)⟩ | assumption | fail))
    ((first | (go_at_call 62; refine (HRR.out _ (hX.keep (‹Over V _ ∧ _›).1)).mono ?_; rintro e wm ⟨rfl, hmap, hbm⟩; have hlk := (show (Instr.lookup 100 (.map (some V.heap.size)) (.int .i64 ek) true).run Tryd.prog wm = .ok (.tuple #[.func (.func 93) #[.pointer (some ⟨X, 0, none⟩)] #[], .bool true]) wm from look_yes es n _ i ek _ wm hmap HF.out)) | fail))
  all_goals
    rename_i hH
    replace hH := hH.1
    have hX1 := hX.keep hH
    have bE1 := bE.keep hH
    have g1 := grow_row g0 (grown_below hH none) (fun k hk => by cases hk)
    have B1 := below_step B0 hH
    clear hH hlk hbm hmap bE B0 g0 hX
    have fe0 := bE1.c 0 rfl
    have fe1 := bE1.c 1 rfl
    have fe2 := bE1.c 2 rfl
    have fe3 := bE1.c 3 rfl
    have fe4 := bE1.c 4 rfl
    have fe5 := bE1.c 5 rfl
    have fe6 := bE1.c 6 rfl
    have fe7 := bE1.c 7 rfl
    have fe8 := bE1.c 8 rfl
    have fe9 := bE1.c 9 rfl
    have fe10 := bE1.c 10 rfl
    have fe11 := bE1.c 11 rfl
    have fe12 := bE1.c 12 rfl
    go_wp2_with fail
    clear fe0 fe1 fe2 fe3 fe4 fe5 fe6 fe7 fe8 fe9 fe10 fe11 fe12
    refine (HMM.out _ B1 hX1).mono ?_
    rintro e w2 ⟨rfl, hX2, g2⟩
    have G2 := grown_trans g1 g2
    have hG := (G2.cell_far ⟨1, 0, none⟩ HGL.out.2 (by simpa using HXN.out)).trans HGL.out.1
    clear g2 g1 bE1 hX1 B1
    go_wp2_with fail
    refine (HENN.out _ hX2 (HS.out.step G2) hG).mono ?_
    rintro e w3 ⟨rfl, v9, hX9, o9⟩
    have O9 := o9.back G2
    clear o9 G2 hX2 hG
    go_wp2
    first | go_end0 | go_ret
    exact ⟨rfl, v9, hX9, O9⟩
end Go.Proofs.YtcmbajphholliabDoor
