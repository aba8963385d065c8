/-
  The library's heap on a queue of shares. Conditions: those in each contract.
-/
import Derived.Test.YtbcmoofpgffbhaaGC
import Derived.Maps.AppendAt
import Derived.Deep.RegionHeld
import Derived.Deep.MidRow
namespace Go.Proofs.Ytbcmoofpgffbhaa
open Go.ChangeShapes Go.WideShapes Go.ChangeAt Go.RowKit Go.BigFrame Go.Joins
set_option linter.unusedVariables false
set_option maxRecDepth 100000
set_option linter.unusedSimpArgs false
set_option maxRecDepth 100000

abbrev ShT : TypeId := 122
abbrev QuT : TypeId := 116
abbrev QuP : TypeId := 120
theorem method_via {n t f : Nat} {v r : Value} {name : String} {w : World} (h : (Try.prog.info? t).bind (fun i => (i.methods.find? (·.name == name)).map fun m => (m.path, m.func)) = some (#[], some (f, false)))
    (hr : ∀ s : String, (receiverAt t (.val v) false (some s)).run Try.prog w = .ok r w) : (method (n+1) t v name).run Try.prog w = .ok (f, r) w := by
  obtain ⟨i, hi, h2⟩ := Option.bind_eq_some_iff.1 h
  obtain ⟨m, hm, h3⟩ := Option.map_eq_some_iff.1 h2
  simp only [Prod.mk.injEq] at h3
  unfold method typeInfo
  simp only [go_sem]
  simp [go_sem, hi, hm, h3.1, h3.2, follow, hr]
theorem recvQ (G : Nat) (s : String) (w : World) : (receiverAt QuP (.val (.pointer (some ⟨G, 0, none⟩))) false (some s)).run Try.prog w = (load ⟨G, 0, none⟩).run Try.prog w := by kernel_rfl
theorem recvQv {G : Nat} {v : Value} {w : World} (h : w.cell? ⟨G, 0, none⟩ = some v) (s : String) : (receiverAt QuP (.val (.pointer (some ⟨G, 0, none⟩))) false (some s)).run Try.prog w = .ok v w := by
  rw [recvQ]
  simp [go_sem, h]
theorem mLen {G : Nat} {v : Value} {w : World} (h : w.cell? ⟨G, 0, none⟩ = some v) (n : Nat) : (method (n + 1) QuP (.pointer (some ⟨G, 0, none⟩)) "Len").run Try.prog w = .ok (226, v) w := method_via (by kernel_rfl) (recvQv h)
theorem mLess {G : Nat} {v : Value} {w : World} (h : w.cell? ⟨G, 0, none⟩ = some v) (n : Nat) : (method (n + 1) QuP (.pointer (some ⟨G, 0, none⟩)) "Less").run Try.prog w = .ok (227, v) w := method_via (by kernel_rfl) (recvQv h)
theorem mSwap {G : Nat} {v : Value} {w : World} (h : w.cell? ⟨G, 0, none⟩ = some v) (n : Nat) : (method (n + 1) QuP (.pointer (some ⟨G, 0, none⟩)) "Swap").run Try.prog w = .ok (228, v) w := method_via (by kernel_rfl) (recvQv h)
theorem mPush (n : Nat) (v : Value) (w : World) : (method (n + 1) QuP v "Push").run Try.prog w = .ok (230, v) w := by kernel_rfl
theorem mPop (n : Nat) (v : Value) (w : World) : (method (n + 1) QuP v "Pop").run Try.prog w = .ok (229, v) w := by kernel_rfl
theorem mBefore (n : Nat) (v : Value) (w : World) : (method (n + 1) ShT v "loop.example/g00557/impl.before").run Try.prog w = .ok (231, v) w := by kernel_rfl
theorem ibef_any (a i b j : Int) (w : World) : Calls Try.prog 231 #[.agg #[.int .i64 a, .int .i64 i], .agg #[.int .i64 b, .int .i64 j]] w fun e w' => e = .returned (.bool (decide (a < b))) ∧ Below w.heap.size w w' := by
  obtain ⟨bA, bB, B0, z⟩ := two w [.int .i64 a, .int .i64 i] [.int .i64 b, .int .i64 j] ShT ShT
  clear z
  have a0 := bA.c 0 rfl
  have b0 := bB.c 0 rfl
  by_cases h : a < b
  · rw [decide_eq_true h]
    go_enter Try.func231, Try.ntmps231
    go_wp2
    go_ret
    exact ⟨rfl, B0⟩
  · rw [decide_eq_false h]
    go_enter Try.func231, Try.ntmps231
    go_wp2
    go_ret
    exact ⟨rfl, B0⟩
theorem ibef_t {a i b j : Int} {g : Bool} (w : World) (H : Hid (decide (a < b) = g)) : Calls Try.prog 231 #[.agg #[.int .i64 a, .int .i64 i], .agg #[.int .i64 b, .int .i64 j]] w fun e w' => e = .returned (.bool g) ∧ Below w.heap.size w w' := H.out ▸ ibef_any a i b j w
theorem iqlen_any (x : Option Addr) (n c : Nat) (w : World) : Calls Try.prog 226 #[.slice x n c] w fun e w' => e = .returned (.int .i64 n) ∧ w' = w := by
  go_enter Try.func226, Try.ntmps226
  go_wp2
  go_ret
  exact ⟨rfl, rfl⟩
theorem iqless_any (g n c i j : Nat) (a p b q : Int) (w : World) (hn : n ≤ 9223372036854775807) (hi : i < n) (hj : j < n) (h0 : w.cell? ⟨g, i * 2, none⟩ = some (.int .i64 a)) (h1 : w.cell? ⟨g, i * 2 + 1, none⟩ = some (.int .i64 p)) (h2 : w.cell? ⟨g, j * 2, none⟩ = some (.int .i64 b)) (h3 : w.cell? ⟨g, j * 2 + 1, none⟩ = some (.int .i64 q)) :
    Calls Try.prog 227 #[.slice (some ⟨g, 0, none⟩) n c, .int .i64 i, .int .i64 j] w fun e w' => e = .returned (.bool (decide (a < b))) ∧ Below w.heap.size w w' := by
  obtain ⟨gg, hg⟩ : ∃ g, decide (a < b) = g := ⟨_, rfl⟩
  rw [hg]
  have HG := Lib.hid hg
  clear hg
  have hiI : (i : Int) < (n : Int) := by omega
  have hjI : (j : Int) < (n : Int) := by omega
  have hiN : (0 : Int) ≤ (i : Int) := by omega
  have hjN : (0 : Int) ≤ (j : Int) := by omega
  have qb := mBefore
  go_enter Try.func227, Try.ntmps227
  go_wp2
  refine wp_region_class (C := Over (w)) (by kernel_rfl) (by kernel_rfl) (over_drew _) ?_
  repeat (first | go_big_quiet_skip | (go_big_quiet_want; go_big_quiet_op; go_big_quiet_on) | (go_big_quiet_want; go_big_quiet_op; apply Exists.intro; refine ⟨fun w' hC => ?_, ?_⟩; ((first | (go_at_call 231; refine (ibef_t _ HG).mono ?_; rintro e w1 ⟨rfl, hb1⟩; exact ⟨rfl, over_step hC hb1⟩))); go_big_quiet_on) | (go_big_quiet_want; apply Exists.intro; refine ⟨fun w' hC => ?_, ?_⟩; (have k0 := over_cell hC (World.block_lt_of_cell? _ _ h0) h0; have k1 := over_cell hC (World.block_lt_of_cell? _ _ h1) h1; have k2 := over_cell hC (World.block_lt_of_cell? _ _ h2) h2; have k3 := over_cell hC (World.block_lt_of_cell? _ _ h3) h3; simp [Oper.quietAt, Oper.quietUpon, go_sem, k0, k1, k2, k3, hiI, hi, hjI, hj, hiN, hjN]; first | done | rfl); go_big_quiet_on; simp only [Act.put, List.setIfInBounds_toArray, List.set_cons_zero, List.set_cons_succ]))
  refine wpQuiet_nil ?_
  intro ws hC
  have k0 := over_cell hC (World.block_lt_of_cell? _ _ h0) h0
  have k1 := over_cell hC (World.block_lt_of_cell? _ _ h1) h1
  have k2 := over_cell hC (World.block_lt_of_cell? _ _ h2) h2
  have k3 := over_cell hC (World.block_lt_of_cell? _ _ h3) h3
  go_wp2
  go_ret
  exact ⟨rfl, hC⟩
theorem iqless_t {g n c i j : Nat} {a p b q : Int} {r : Bool} (w : World) (H : Hid (decide (a < b) = r)) (hn : n ≤ 9223372036854775807) (hi : i < n) (hj : j < n) (h0 : w.cell? ⟨g, i * 2, none⟩ = some (.int .i64 a)) (h1 : w.cell? ⟨g, i * 2 + 1, none⟩ = some (.int .i64 p)) (h2 : w.cell? ⟨g, j * 2, none⟩ = some (.int .i64 b)) (h3 : w.cell? ⟨g, j * 2 + 1, none⟩ = some (.int .i64 q)) :
    Calls Try.prog 227 #[.slice (some ⟨g, 0, none⟩) n c, .int .i64 i, .int .i64 j] w fun e w' => e = .returned (.bool r) ∧ Below w.heap.size w w' := H.out ▸ iqless_any g n c i j a p b q w hn hi hj h0 h1 h2 h3
theorem bl_at {w : World} {B o : Nat} {xs : List Value} {x : Value} (h : Bl w B xs) (e : xs[o]? = some x) : ∃ y, w.cell? ⟨B, o, none⟩ = some y ∧ w.frozen? ⟨B, o, none⟩ = false := ⟨x, h.c o e, h.f o e⟩
theorem bl_get {w : World} {B o : Nat} {xs : List Value} (h : Bl w B xs) (e : o < xs.length) : ∃ y, w.cell? ⟨B, o, none⟩ = some y ∧ w.frozen? ⟨B, o, none⟩ = false := ⟨_, h.c o (List.getElem?_eq_getElem e), h.f o (List.getElem?_eq_getElem e)⟩
set_option maxHeartbeats 2000000 in
theorem iqswap_any (g n c i j : Nat) (a p b q : Int) (xs : List Value) (w : World) (hn : n ≤ 9223372036854775807) (hi : i < n) (hj : j < n) (bQ : Bl w g xs) (X0 : xs[i * 2]? = some (.int .i64 a)) (X1 : xs[i * 2 + 1]? = some (.int .i64 p)) (X2 : xs[j * 2]? = some (.int .i64 b)) (X3 : xs[j * 2 + 1]? = some (.int .i64 q)) :
    Calls Try.prog 228 #[.slice (some ⟨g, 0, none⟩) n c, .int .i64 i, .int .i64 j] w fun e w' => e = .returned (.tuple #[]) ∧ Bl w' g ((((xs.set (i * 2) (.int .i64 b)).set (i * 2 + 1) (.int .i64 q)).set (j * 2) (.int .i64 a)).set (j * 2 + 1) (.int .i64 p)) ∧ w.grownBy w' (some g) := by
  have hiI : (i : Int) < (n : Int) := by omega
  have hjI : (j : Int) < (n : Int) := by omega
  have hiN : (0 : Int) ≤ (i : Int) := by omega
  have hjN : (0 : Int) ≤ (j : Int) := by omega
  have hj2 : j * 2 < xs.length := (List.getElem?_eq_some_iff.1 X2).1
  have hj3 : j * 2 + 1 < xs.length := (List.getElem?_eq_some_iff.1 X3).1
  go_enter Try.func228, Try.ntmps228
  go_wp2_with fail
  refine wp_region_held_drew (S := fun _ => True) (by kernel_rfl) trivial (fun hHeld => ?_)
  obtain ⟨D, hD⟩ : ∃ D, D = w.drew := ⟨_, rfl⟩
  have OD : Below w.heap.size w D := by rw [hD]; exact over_drew _
  rw [← hD]
  clear hD hHeld
  replace bQ := bQ.keep OD
  have hSD : True := trivial
  refine wpAnyH_take (i := 0) (v := ?_) rfl (by kernel_rfl) (by kernel_rfl) (by kernel_rfl) (fun _ _ _ h => h) (Or.inl ⟨by rfl, ?_⟩) hSD ?_
  rotate_left
  · intro wq hSq
    (try dsimp only at hSq)

    go_simp
    try rfl
  change wpAnyH _ _ _ _ _ _ _ (Act.put _ (some 6) _) _
  simp only [Act.put, List.setIfInBounds_toArray, List.set_cons_succ, List.set_cons_zero]
  refine wpAnyH_take (i := 1) (v := ?_) rfl (by kernel_rfl) (by kernel_rfl) (by kernel_rfl) (fun _ _ _ h => h) (Or.inl ⟨by rfl, ?_⟩) hSD ?_
  rotate_left
  · intro wq hSq
    (try dsimp only at hSq)

    go_simp
    try rfl
  change wpAnyH _ _ _ _ _ _ _ (Act.put _ (some 7) _) _
  simp only [Act.put, List.setIfInBounds_toArray, List.set_cons_succ, List.set_cons_zero]
  refine wpAnyH_take (i := 2) (v := ?_) rfl (by kernel_rfl) (by kernel_rfl) (by kernel_rfl) (fun _ _ _ h => h) (Or.inl ⟨by rfl, ?_⟩) hSD ?_
  rotate_left
  · intro wq hSq
    (try dsimp only at hSq)

    go_simp
    try rfl
  change wpAnyH _ _ _ _ _ _ _ (Act.put _ (some 8) _) _
  simp only [Act.put, List.setIfInBounds_toArray, List.set_cons_succ, List.set_cons_zero]
  refine wpAnyH_take (i := 3) (v := ?_) rfl (by kernel_rfl) (by kernel_rfl) (by kernel_rfl) (fun _ _ _ h => h) (Or.inl ⟨by rfl, ?_⟩) hSD ?_
  rotate_left
  · intro wq hSq
    (try dsimp only at hSq)

    go_simp
    try rfl
  change wpAnyH _ _ _ _ _ _ _ (Act.put _ (some 9) _) _
  simp only [Act.put, List.setIfInBounds_toArray, List.set_cons_succ, List.set_cons_zero]
  refine wpAnyH_take (i := 4) (v := ?_) rfl (by kernel_rfl) (by kernel_rfl) (by kernel_rfl) (fun _ _ _ h => h) (Or.inl ⟨by rfl, ?_⟩) hSD ?_
  rotate_left
  · intro wq hSq
    (try dsimp only at hSq)

    go_simp
    try rfl
  change wpAnyH _ _ _ _ _ _ _ (Act.put _ (some 10) _) _
  simp only [Act.put, List.setIfInBounds_toArray, List.set_cons_succ, List.set_cons_zero]
  refine wpAnyH_take (i := 5) (v := ?_) rfl (by kernel_rfl) (by kernel_rfl) (by kernel_rfl) (fun _ _ _ h => h) (Or.inl ⟨by rfl, ?_⟩) hSD ?_
  rotate_left
  · intro wq hSq
    (try dsimp only at hSq)

    go_simp
    try rfl
  change wpAnyH _ _ _ _ _ _ _ (Act.put _ (some 11) _) _
  simp only [Act.put, List.setIfInBounds_toArray, List.set_cons_succ, List.set_cons_zero]
  refine wpAnyH_take (i := 6) (v := ?_) rfl (by kernel_rfl) (by kernel_rfl) (by kernel_rfl) (fun _ _ _ h => h) (Or.inl ⟨by rfl, ?_⟩) hSD ?_
  rotate_left
  · intro wq hSq
    (try dsimp only at hSq)

    go_simp
    try rfl
  change wpAnyH _ _ _ _ _ _ _ (Act.put _ (some 12) _) _
  simp only [Act.put, List.setIfInBounds_toArray, List.set_cons_succ, List.set_cons_zero]
  refine wpAnyH_take (i := 8) (v := ?_) rfl (by kernel_rfl) (by kernel_rfl) (by kernel_rfl) (fun _ _ _ h => h) (Or.inl ⟨by rfl, ?_⟩) hSD ?_
  rotate_left
  · intro wq hSq
    (try dsimp only at hSq)

    go_simp
    try rfl
  change wpAnyH _ _ _ _ _ _ _ (Act.put _ (some 14) _) _
  simp only [Act.put, List.setIfInBounds_toArray, List.set_cons_succ, List.set_cons_zero]
  refine wpAnyH_take (i := 9) (v := ?_) rfl (by kernel_rfl) (by kernel_rfl) (by kernel_rfl) (fun _ _ _ h => h) (Or.inl ⟨by rfl, ?_⟩) hSD ?_
  rotate_left
  · intro wq hSq
    (try dsimp only at hSq)

    go_simp
    try rfl
  change wpAnyH _ _ _ _ _ _ _ (Act.put _ (some 15) _) _
  simp only [Act.put, List.setIfInBounds_toArray, List.set_cons_succ, List.set_cons_zero]
  refine wpAnyH_take (i := 10) (v := ?_) rfl (by kernel_rfl) (by kernel_rfl) (by kernel_rfl) (fun _ _ _ h => h) (Or.inl ⟨by rfl, ?_⟩) hSD ?_
  rotate_left
  · intro wq hSq
    (try dsimp only at hSq)

    go_simp
    try rfl
  change wpAnyH _ _ _ _ _ _ _ (Act.put _ (some 16) _) _
  simp only [Act.put, List.setIfInBounds_toArray, List.set_cons_succ, List.set_cons_zero]
  refine wpAnyH_ready (rs := [7, 11]) (by kernel_rfl) (by simp) ?_
  refine (AllReadyH.cons rfl (fun K hK => ?_) (AllReadyH.cons rfl (fun K hK => ?_) AllReadyH.nil))
  · have y0 := bQ.c (j * 2) X2
    have y1 := bQ.c (j * 2 + 1) X3
    go_simp
    refine hK.out _ _ trivial (fun _ => ?_)
    clear hK K
    try simp only [Act.put, List.setIfInBounds_toArray, List.set_cons_zero, List.set_cons_succ]
    clear y0 y1
    refine wpAnyH_ready (rs := [11]) (by kernel_rfl) (by simp) ?_
    refine (AllReadyH.cons rfl (fun K hK => ?_) AllReadyH.nil)
    have y0 := bQ.c (i * 2) X0
    have y1 := bQ.c (i * 2 + 1) X1
    go_simp
    refine hK.out _ _ trivial (fun _ => ?_)
    clear hK K
    try simp only [Act.put, List.setIfInBounds_toArray, List.set_cons_zero, List.set_cons_succ]
    clear y0 y1
    refine wpAnyH_take (i := 12) (v := ?_) rfl (by kernel_rfl) (by kernel_rfl) (by kernel_rfl) (fun _ _ _ h => h) (Or.inl ⟨by rfl, ?_⟩) hSD ?_
    rotate_left
    · intro wq hSq
      (try dsimp only at hSq)

      go_simp
      try rfl
    change wpAnyH _ _ _ _ _ _ _ (Act.put _ (some 18) _) _
    simp only [Act.put, List.setIfInBounds_toArray, List.set_cons_succ, List.set_cons_zero]
    obtain ⟨v0, g0, f0⟩ := bl_at bQ (o := i * 2) X0
    obtain ⟨v1, g1, f1⟩ := bl_at bQ (o := i * 2 + 1) X1
    refine wpAnyH_ready (rs := [13]) (by kernel_rfl) (by simp) ?_
    refine (AllReadyH.cons rfl (fun K hK => ?_) AllReadyH.nil)
    go_simp
    refine hK.out _ _ trivial (fun _ => ?_)
    clear hK K
    try simp only [Act.put, List.setIfInBounds_toArray, List.set_cons_zero, List.set_cons_succ]
    clear v0 g0 f0 v1 g1 f1
    have bQ2 := (bQ.set (i * 2) (.int .i64 b)).set (i * 2 + 1) (.int .i64 q)
    refine wpAnyH_take (i := 14) (v := ?_) rfl (by kernel_rfl) (by kernel_rfl) (by kernel_rfl) (fun _ _ _ h => h) (Or.inl ⟨by rfl, ?_⟩) hSD ?_
    rotate_left
    · intro wq hSq
      (try dsimp only at hSq)

      go_simp
      try rfl
    change wpAnyH _ _ _ _ _ _ _ (Act.put _ (some 19) _) _
    simp only [Act.put, List.setIfInBounds_toArray, List.set_cons_succ, List.set_cons_zero]
    obtain ⟨v0, g0, f0⟩ := bl_get bQ2 (o := j * 2) (by simpa using hj2)
    obtain ⟨v1, g1, f1⟩ := bl_get bQ2 (o := j * 2 + 1) (by simpa using hj3)
    refine wpAnyH_ready (rs := [15]) (by kernel_rfl) (by simp) ?_
    refine (AllReadyH.cons rfl (fun K hK => ?_) AllReadyH.nil)
    go_simp
    refine hK.out _ _ trivial (fun _ => ?_)
    clear hK K
    try simp only [Act.put, List.setIfInBounds_toArray, List.set_cons_zero, List.set_cons_succ]
    clear v0 g0 f0 v1 g1 f1
    have bQ3 := (bQ2.set (j * 2) (.int .i64 a)).set (j * 2 + 1) (.int .i64 p)
    have HQ := Lib.hid bQ3
    have HW : Hid (w.grownBy ((((D.setCell ⟨g, i * 2, none⟩ (.int .i64 b)).setCell ⟨g, i * 2 + 1, none⟩ (.int .i64 q)).setCell ⟨g, j * 2, none⟩ (.int .i64 a)).setCell ⟨g, j * 2 + 1, none⟩ (.int .i64 p)) (some g)) := Lib.hid (grown_trans (grown_trans (grown_trans (grown_trans ⟨OD.os, OD.tape, OD.output, OD.size, fun k hk _ => OD.block k hk⟩ (grown_set _ _ _ _)) (grown_set _ _ _ _)) (grown_set _ _ _ _)) (grown_set _ _ _ _))
    clear bQ bQ2 bQ3
    refine wpAnyH_done (by kernel_rfl) ?_ _
    go_wp2
    go_end0
    exact ⟨rfl, HQ.out, HW.out⟩
  · have y0 := bQ.c (i * 2) X0
    have y1 := bQ.c (i * 2 + 1) X1
    go_simp
    refine hK.out _ _ trivial (fun _ => ?_)
    clear hK K
    try simp only [Act.put, List.setIfInBounds_toArray, List.set_cons_zero, List.set_cons_succ]
    clear y0 y1
    refine wpAnyH_ready (rs := [7]) (by kernel_rfl) (by simp) ?_
    refine (AllReadyH.cons rfl (fun K hK => ?_) AllReadyH.nil)
    have y0 := bQ.c (j * 2) X2
    have y1 := bQ.c (j * 2 + 1) X3
    go_simp
    refine hK.out _ _ trivial (fun _ => ?_)
    clear hK K
    try simp only [Act.put, List.setIfInBounds_toArray, List.set_cons_zero, List.set_cons_succ]
    clear y0 y1
    refine wpAnyH_take (i := 12) (v := ?_) rfl (by kernel_rfl) (by kernel_rfl) (by kernel_rfl) (fun _ _ _ h => h) (Or.inl ⟨by rfl, ?_⟩) hSD ?_
    rotate_left
    · intro wq hSq
      (try dsimp only at hSq)

      go_simp
      try rfl
    change wpAnyH _ _ _ _ _ _ _ (Act.put _ (some 18) _) _
    simp only [Act.put, List.setIfInBounds_toArray, List.set_cons_succ, List.set_cons_zero]
    obtain ⟨v0, g0, f0⟩ := bl_at bQ (o := i * 2) X0
    obtain ⟨v1, g1, f1⟩ := bl_at bQ (o := i * 2 + 1) X1
    refine wpAnyH_ready (rs := [13]) (by kernel_rfl) (by simp) ?_
    refine (AllReadyH.cons rfl (fun K hK => ?_) AllReadyH.nil)
    go_simp
    refine hK.out _ _ trivial (fun _ => ?_)
    clear hK K
    try simp only [Act.put, List.setIfInBounds_toArray, List.set_cons_zero, List.set_cons_succ]
    clear v0 g0 f0 v1 g1 f1
    have bQ2 := (bQ.set (i * 2) (.int .i64 b)).set (i * 2 + 1) (.int .i64 q)
    refine wpAnyH_take (i := 14) (v := ?_) rfl (by kernel_rfl) (by kernel_rfl) (by kernel_rfl) (fun _ _ _ h => h) (Or.inl ⟨by rfl, ?_⟩) hSD ?_
    rotate_left
    · intro wq hSq
      (try dsimp only at hSq)

      go_simp
      try rfl
    change wpAnyH _ _ _ _ _ _ _ (Act.put _ (some 19) _) _
    simp only [Act.put, List.setIfInBounds_toArray, List.set_cons_succ, List.set_cons_zero]
    obtain ⟨v0, g0, f0⟩ := bl_get bQ2 (o := j * 2) (by simpa using hj2)
    obtain ⟨v1, g1, f1⟩ := bl_get bQ2 (o := j * 2 + 1) (by simpa using hj3)
    refine wpAnyH_ready (rs := [15]) (by kernel_rfl) (by simp) ?_
    refine (AllReadyH.cons rfl (fun K hK => ?_) AllReadyH.nil)
    go_simp
    refine hK.out _ _ trivial (fun _ => ?_)
    clear hK K
    try simp only [Act.put, List.setIfInBounds_toArray, List.set_cons_zero, List.set_cons_succ]
    clear v0 g0 f0 v1 g1 f1
    have bQ3 := (bQ2.set (j * 2) (.int .i64 a)).set (j * 2 + 1) (.int .i64 p)
    have HQ := Lib.hid bQ3
    have HW : Hid (w.grownBy ((((D.setCell ⟨g, i * 2, none⟩ (.int .i64 b)).setCell ⟨g, i * 2 + 1, none⟩ (.int .i64 q)).setCell ⟨g, j * 2, none⟩ (.int .i64 a)).setCell ⟨g, j * 2 + 1, none⟩ (.int .i64 p)) (some g)) := Lib.hid (grown_trans (grown_trans (grown_trans (grown_trans ⟨OD.os, OD.tape, OD.output, OD.size, fun k hk _ => OD.block k hk⟩ (grown_set _ _ _ _)) (grown_set _ _ _ _)) (grown_set _ _ _ _)) (grown_set _ _ _ _))
    clear bQ bQ2 bQ3
    refine wpAnyH_done (by kernel_rfl) ?_ _
    go_wp2
    go_end0
    exact ⟨rfl, HQ.out, HW.out⟩
theorem infoSh : (Try.prog.info? ShT).map (fun i => (i.zero, i.size, i.bytes)) = some (some (.agg #[.int .i64 0, .int .i64 0]), 2, 16) := by kernel_rfl
theorem step_apSh {ops : Array Oper} {o : Oper} {a : Act} {K : Act → World → Prop} {Q : Exit → Act → World → Prop} {E : Prop} {w : World} (hgd : o.guard = none) (s x : Operand)
    (ho : o.op = .call { callee := .builtin .append, args := #[s, x], argTypes := #[QuT, QuT] })
    (base g c : Nat) (v : Value) (n : Nat) (xs : List Value) (ys : List Value) (hs : a.eval s = v) (hx : a.eval x = .slice (some ⟨g, 0, none⟩) 1 c) (hown : w.ownsRow base ShT 2 v n xs)
    (h0 : Bl w g ys) (h7 : ys.length = 2) (h1 : ∀ u ∈ ys, u.oneCell' = true) (hlen : n + 1 ≤ 4294967296) (hbase : base ≤ w.heap.size)
    (h : ∀ v' w', w'.ownsRow base ShT 2 v' (n + 1) (xs ++ ys) → w.grownBy w' v.ownBlock → (v'.ownBlock = v.ownBlock ∨ v'.ownBlock = some w.heap.size) → K (a.put o.dst v') w') : if Region.wanted o (yielded ops a.tmps) = true then Oper.wp Try.prog o a w K Q else E := by
  have hw : Region.wanted o (yielded ops a.tmps) = true := by simp [Region.wanted, hgd]
  rw [if_pos hw]
  obtain ⟨i0, hi, hz0, hz1, hz2⟩ := info_parts infoSh
  obtain ⟨v', w', hr, h2, h3, -, h5⟩ := run_append_own_at (P := Try.prog) w base QuT o.type ShT i0 (.agg #[.int .i64 0, .int .i64 0]) 2 16 Try.underlying116 hi hz0 hz1 hz2 rfl (by decide) v n xs hown ⟨g, 0, none⟩ 1 c ys (by omega) (fun j y hy => by
    have hadd : ∀ j, (⟨g, 0, none⟩ : Addr).add j = ⟨g, j, none⟩ := fun j => by unfold Addr.add; split <;> simp_all
    rw [hadd]
    exact h0.c j hy) h1 (by unfold maxLen; omega) (by omega) hbase
  unfold Oper.wp execOp
  simp only [ho, resolve, invoke, builtin, Sem.run_bind, Sem.run_pure, Result.andThen_ok, List.map_toArray, List.map_cons, List.map_nil, hs, hx, hr]
  exact h v' w' h2 h3 h5
/-- a queue of one's own in a variable -/
def PuSt (w : World) (base G : Nat) (S : List (Int × Int)) : Prop := G < base ∧ ∃ v, Bl w G [v] ∧ w.ownsRow base ShT 2 v S.length ((flat S).map (Value.int .i64))
theorem hitS (x y : Int) (ty : TypeId) (w : World) : (Instr.typeAssert (.iface ShT (.agg #[.int .i64 x, .int .i64 y])) ty ShT false).run Try.prog w = .ok (.agg #[.int .i64 x, .int .i64 y]) w := by kernel_rfl
theorem below_growS {V w w' : World} {v : Value} {base n e s : Nat} {xs : List Value} (h : Below V.heap.size V w) (ho : w.ownsRow base e s v n xs) (hb : V.heap.size ≤ base) (hg : w.grownBy w' v.ownBlock) : Below V.heap.size V w' :=
  Below.grown h hg h.size (fun k hk => Nat.le_trans hb (World.ownsRow.lt ho k hk).1)
set_option maxHeartbeats 2000000 in
theorem iqpush_any (base G : Nat) (S : List (Int × Int)) (x y : Int) (V w : World) (h : PuSt w base G S) (hl : S.length + 1 ≤ 4294967296) (hbw : base ≤ w.heap.size) (hV : Below V.heap.size V w) (hVG : V.heap.size ≤ G) :
    Calls Try.prog 230 #[.pointer (some ⟨G, 0, none⟩), .iface ShT (.agg #[.int .i64 x, .int .i64 y])] w fun e w' => e = .returned (.tuple #[]) ∧ PuSt w' base G (S ++ [(x, y)]) ∧ Below V.heap.size V w' ∧ (∀ B ys, Bl w B ys → B < base → B ≠ G → Bl w' B ys) ∧ w.heap.size ≤ w'.heap.size := by
  obtain ⟨hGb, v, bG, hrow⟩ := h
  have hh := hitS x y
  go_enter Try.func230, Try.ntmps230
  go_wp2_with fail
  refine wp_region_held_drew (S := fun _ => True) (by kernel_rfl) trivial (fun hHeld => ?_)
  obtain ⟨D, hD⟩ : ∃ D, D = w.drew := ⟨_, rfl⟩
  have OD : Below w.heap.size w D := by rw [hD]; exact over_drew _
  rw [← hD]
  clear hD hHeld
  replace bG := bG.keep OD
  have hrow1 : D.ownsRow base ShT 2 v S.length ((flat S).map (Value.int .i64)) := World.ownsRow.kept (row := none) hrow ⟨OD.os, OD.tape, OD.output, OD.size, fun k hk _ => OD.block k hk⟩ (by cases v.ownBlock <;> simp)
  have hVD := below_step hV OD
  have hbD : base ≤ D.heap.size := Nat.le_trans hbw OD.size
  have hSD : True := trivial
  refine wpAnyH_take (i := 0) (v := ?_) rfl (by kernel_rfl) (by kernel_rfl) (by kernel_rfl) (fun _ _ _ h => h) (Or.inl ⟨by rfl, ?_⟩) hSD ?_
  rotate_left
  · intro wq hSq
    (try dsimp only at hSq)

    go_simp
    try rfl
  change wpAnyH _ _ _ _ _ _ _ (Act.put _ (some 4) _) _
  simp only [Act.put, List.setIfInBounds_toArray, List.set_cons_succ, List.set_cons_zero]
  refine wpAnyH_take (i := 1) (v := ?_) rfl (by kernel_rfl) (by kernel_rfl) (by kernel_rfl) (fun _ _ _ h => h) (Or.inl ⟨by rfl, ?_⟩) hSD ?_
  rotate_left
  · intro wq hSq
    (try dsimp only at hSq)

    go_simp
    try rfl
  change wpAnyH _ _ _ _ _ _ _ (Act.put _ (some 5) _) _
  simp only [Act.put, List.setIfInBounds_toArray, List.set_cons_succ, List.set_cons_zero]
  refine wpAnyH_take (i := 2) (v := ?_) rfl (by kernel_rfl) (by kernel_rfl) (by kernel_rfl) (fun _ _ _ h => h) (Or.inl ⟨by rfl, ?_⟩) hSD ?_
  rotate_left
  · intro wq hSq
    (try dsimp only at hSq)

    go_simp
    try rfl
  change wpAnyH _ _ _ _ _ _ _ (Act.put _ (some 6) _) _
  simp only [Act.put, List.setIfInBounds_toArray, List.set_cons_succ, List.set_cons_zero]
  refine wpAnyH_take (i := 4) (v := ?_) rfl (by kernel_rfl) (by kernel_rfl) (by kernel_rfl) (fun _ _ _ h => h) (Or.inl ⟨by rfl, ?_⟩) hSD ?_
  rotate_left
  · intro wq hSq
    (try dsimp only at hSq)

    go_simp
    try rfl
  change wpAnyH _ _ _ _ _ _ _ (Act.put _ (some 8) _) _
  simp only [Act.put, List.setIfInBounds_toArray, List.set_cons_succ, List.set_cons_zero]
  refine wpAnyH_take (i := 5) (v := ?_) rfl (by kernel_rfl) (by kernel_rfl) (by kernel_rfl) (fun _ _ _ h => h) (Or.inl ⟨by rfl, ?_⟩) hSD ?_
  rotate_left
  · intro wq hSq
    (try dsimp only at hSq)

    go_simp
    try rfl
  change wpAnyH _ _ _ _ _ _ _ (Act.put _ (some 9) _) _
  simp only [Act.put, List.setIfInBounds_toArray, List.set_cons_succ, List.set_cons_zero]
  refine wpAnyH_ready (rs := [3, 6]) (by kernel_rfl) (by simp) ?_
  refine (AllReadyH.cons rfl (fun K hK => ?_) (AllReadyH.cons rfl (fun K hK => ?_) AllReadyH.nil))
  · have g0 := bG.c 0 rfl
    go_simp
    refine hK.out _ _ trivial (fun _ => ?_)
    clear hK K
    try simp only [Act.put, List.setIfInBounds_toArray, List.set_cons_zero, List.set_cons_succ]
    clear g0
    refine wpAnyH_ready (rs := [6]) (by kernel_rfl) (by simp) ?_
    refine (AllReadyH.cons rfl (fun K hK => ?_) AllReadyH.nil)
    go_simp
    obtain ⟨bN, N1, zN⟩ := one D [.int .i64 x, .int .i64 y] ShT
    refine hK.out _ _ trivial (fun _ => ?_)
    clear hK K
    try simp only [Act.put, List.setIfInBounds_toArray, List.set_cons_zero, List.set_cons_succ]
    refine wpAnyH_ready (rs := [7]) (by kernel_rfl) (by simp) ?_
    refine (AllReadyH.cons rfl (fun K hK => ?_) AllReadyH.nil)
    have hrow2 : (D.alloc (.cells #[.int .i64 x, .int .i64 y] ShT)).ownsRow base ShT 2 v S.length ((flat S).map (Value.int .i64)) := World.ownsRow.kept (row := none) hrow1 ⟨N1.os, N1.tape, N1.output, N1.size, fun k hk _ => N1.block k hk⟩ (by cases v.ownBlock <;> simp)
    refine step_apSh rfl (.tmp 7) (.tmp 10) rfl base D.heap.size 1 v S.length ((flat S).map (Value.int .i64)) [.int .i64 x, .int .i64 y] rfl rfl hrow2 bN rfl (by simp [Value.oneCell']) hl (Nat.le_trans hbD N1.size) ?_
    intro v3 w3 hr3 hg3 hor
    have hVB : V.heap.size ≤ base := Nat.le_of_lt (Nat.lt_of_le_of_lt hVG hGb)
    have hV3 : Below V.heap.size V w3 := below_growS (below_step hVD N1) hrow2 hVB hg3
    have hne : some G ≠ v.ownBlock := fun q => by have := (World.ownsRow.lt hrow2 G q.symm).1; omega
    have bG3 := (bG.keep N1).grown hg3 hne
    have hoth : ∀ B ys, Bl w B ys → B < base → B ≠ G → Bl w3 B ys := fun B ys hB hlt hBG => ((hB.keep OD).keep N1).grown hg3 (fun q => by have := (World.ownsRow.lt hrow2 B q.symm).1; omega)
    have hs3 : w.heap.size ≤ w3.heap.size := Nat.le_trans OD.size (Nat.le_trans N1.size hg3.size)
    obtain ⟨x3, y3, rfl⟩ : ∃ x3 y3, v3 = .slice x3 (S.length + 1) y3 := by
      rcases hr3.2 with ⟨hv, hn⟩ | ⟨g, cap, cur, hv, _⟩
      · exact absurd hn (by omega)
      · exact ⟨_, cap, hv⟩
    clear hg3 hor hrow hrow1 hrow2 N1 bN zN hVD
    refine hK.out _ _ trivial (fun _ => ?_)
    clear hK K
    try simp only [Act.put, List.setIfInBounds_toArray, List.set_cons_zero, List.set_cons_succ]
    refine wpAnyH_take (i := 8) (v := ?_) rfl (by kernel_rfl) (by kernel_rfl) (by kernel_rfl) (fun _ _ _ h => h) (Or.inl ⟨by rfl, ?_⟩) hSD ?_
    rotate_left
    · intro wq hSq
      (try dsimp only at hSq)

      go_simp
      try rfl
    change wpAnyH _ _ _ _ _ _ _ (Act.put _ (some 12) _) _
    simp only [Act.put, List.setIfInBounds_toArray, List.set_cons_succ, List.set_cons_zero]
    refine wpAnyH_ready (rs := [9]) (by kernel_rfl) (by simp) ?_
    refine (AllReadyH.cons rfl (fun K hK => ?_) AllReadyH.nil)
    have g0 := bG3.c 0 rfl
    have f0 := bG3.f 0 rfl
    go_simp
    refine hK.out _ _ trivial (fun _ => ?_)
    clear hK K
    try simp only [Act.put, List.setIfInBounds_toArray, List.set_cons_zero, List.set_cons_succ]
    clear g0 f0
    have bG4 := bG3.set 0 (.slice x3 (S.length + 1) y3)
    have hr4 : (w3.setCell ⟨G, 0, none⟩ (.slice x3 (S.length + 1) y3)).ownsRow base ShT 2 (.slice x3 (S.length + 1) y3) (S.length + 1) ((flat S).map (Value.int .i64) ++ [.int .i64 x, .int .i64 y]) := World.ownsRow.kept (row := some G) hr3 (grown_set _ _ _ _) (by
      cases hq : (Value.slice x3 (S.length + 1) y3).ownBlock with
      | none => exact .inl rfl
      | some k => exact .inr (by have := (World.ownsRow.lt hr3 k hq).1; intro e; cases e; omega))
    have HR : Hid (PuSt (w3.setCell ⟨G, 0, none⟩ (.slice x3 (S.length + 1) y3)) base G (S ++ [(x, y)])) := Lib.hid ⟨hGb, _, bG4, by
      have e : (flat (S ++ [(x, y)])).map (Value.int .i64) = (flat S).map (Value.int .i64) ++ [.int .i64 x, .int .i64 y] := by simp [flat]
      rw [e, List.length_append]
      exact hr4⟩
    have HV := Lib.hid (hV3.setCell (p := ⟨G, 0, none⟩) hVG (.slice x3 (S.length + 1) y3))
    have HO : Hid (∀ B ys, Bl w B ys → B < base → B ≠ G → Bl (w3.setCell ⟨G, 0, none⟩ (.slice x3 (S.length + 1) y3)) B ys) := Lib.hid fun B ys hB hlt hBG => (hoth B ys hB hlt hBG).far hBG
    have HS : Hid (w.heap.size ≤ (w3.setCell ⟨G, 0, none⟩ (.slice x3 (S.length + 1) y3)).heap.size) := Lib.hid (by simpa using hs3)
    clear bG3 bG4 hr3 hr4 hV3 hoth hs3 bG
    refine wpAnyH_done (by kernel_rfl) ?_ _
    go_wp2
    go_end0
    exact ⟨rfl, HR.out, HV.out, HO.out, HS.out⟩
  · go_simp
    obtain ⟨bN, N1, zN⟩ := one D [.int .i64 x, .int .i64 y] ShT
    refine hK.out _ _ trivial (fun _ => ?_)
    clear hK K
    try simp only [Act.put, List.setIfInBounds_toArray, List.set_cons_zero, List.set_cons_succ]
    refine wpAnyH_ready (rs := [3]) (by kernel_rfl) (by simp) ?_
    refine (AllReadyH.cons rfl (fun K hK => ?_) AllReadyH.nil)
    have g0 := (bG.keep N1).c 0 rfl
    go_simp
    refine hK.out _ _ trivial (fun _ => ?_)
    clear hK K
    try simp only [Act.put, List.setIfInBounds_toArray, List.set_cons_zero, List.set_cons_succ]
    clear g0
    refine wpAnyH_ready (rs := [7]) (by kernel_rfl) (by simp) ?_
    refine (AllReadyH.cons rfl (fun K hK => ?_) AllReadyH.nil)
    have hrow2 : (D.alloc (.cells #[.int .i64 x, .int .i64 y] ShT)).ownsRow base ShT 2 v S.length ((flat S).map (Value.int .i64)) := World.ownsRow.kept (row := none) hrow1 ⟨N1.os, N1.tape, N1.output, N1.size, fun k hk _ => N1.block k hk⟩ (by cases v.ownBlock <;> simp)
    refine step_apSh rfl (.tmp 7) (.tmp 10) rfl base D.heap.size 1 v S.length ((flat S).map (Value.int .i64)) [.int .i64 x, .int .i64 y] rfl rfl hrow2 bN rfl (by simp [Value.oneCell']) hl (Nat.le_trans hbD N1.size) ?_
    intro v3 w3 hr3 hg3 hor
    have hVB : V.heap.size ≤ base := Nat.le_of_lt (Nat.lt_of_le_of_lt hVG hGb)
    have hV3 : Below V.heap.size V w3 := below_growS (below_step hVD N1) hrow2 hVB hg3
    have hne : some G ≠ v.ownBlock := fun q => by have := (World.ownsRow.lt hrow2 G q.symm).1; omega
    have bG3 := (bG.keep N1).grown hg3 hne
    have hoth : ∀ B ys, Bl w B ys → B < base → B ≠ G → Bl w3 B ys := fun B ys hB hlt hBG => ((hB.keep OD).keep N1).grown hg3 (fun q => by have := (World.ownsRow.lt hrow2 B q.symm).1; omega)
    have hs3 : w.heap.size ≤ w3.heap.size := Nat.le_trans OD.size (Nat.le_trans N1.size hg3.size)
    obtain ⟨x3, y3, rfl⟩ : ∃ x3 y3, v3 = .slice x3 (S.length + 1) y3 := by
      rcases hr3.2 with ⟨hv, hn⟩ | ⟨g, cap, cur, hv, _⟩
      · exact absurd hn (by omega)
      · exact ⟨_, cap, hv⟩
    clear hg3 hor hrow hrow1 hrow2 N1 bN zN hVD
    refine hK.out _ _ trivial (fun _ => ?_)
    clear hK K
    try simp only [Act.put, List.setIfInBounds_toArray, List.set_cons_zero, List.set_cons_succ]
    refine wpAnyH_take (i := 8) (v := ?_) rfl (by kernel_rfl) (by kernel_rfl) (by kernel_rfl) (fun _ _ _ h => h) (Or.inl ⟨by rfl, ?_⟩) hSD ?_
    rotate_left
    · intro wq hSq
      (try dsimp only at hSq)

      go_simp
      try rfl
    change wpAnyH _ _ _ _ _ _ _ (Act.put _ (some 12) _) _
    simp only [Act.put, List.setIfInBounds_toArray, List.set_cons_succ, List.set_cons_zero]
    refine wpAnyH_ready (rs := [9]) (by kernel_rfl) (by simp) ?_
    refine (AllReadyH.cons rfl (fun K hK => ?_) AllReadyH.nil)
    have g0 := bG3.c 0 rfl
    have f0 := bG3.f 0 rfl
    go_simp
    refine hK.out _ _ trivial (fun _ => ?_)
    clear hK K
    try simp only [Act.put, List.setIfInBounds_toArray, List.set_cons_zero, List.set_cons_succ]
    clear g0 f0
    have bG4 := bG3.set 0 (.slice x3 (S.length + 1) y3)
    have hr4 : (w3.setCell ⟨G, 0, none⟩ (.slice x3 (S.length + 1) y3)).ownsRow base ShT 2 (.slice x3 (S.length + 1) y3) (S.length + 1) ((flat S).map (Value.int .i64) ++ [.int .i64 x, .int .i64 y]) := World.ownsRow.kept (row := some G) hr3 (grown_set _ _ _ _) (by
      cases hq : (Value.slice x3 (S.length + 1) y3).ownBlock with
      | none => exact .inl rfl
      | some k => exact .inr (by have := (World.ownsRow.lt hr3 k hq).1; intro e; cases e; omega))
    have HR : Hid (PuSt (w3.setCell ⟨G, 0, none⟩ (.slice x3 (S.length + 1) y3)) base G (S ++ [(x, y)])) := Lib.hid ⟨hGb, _, bG4, by
      have e : (flat (S ++ [(x, y)])).map (Value.int .i64) = (flat S).map (Value.int .i64) ++ [.int .i64 x, .int .i64 y] := by simp [flat]
      rw [e, List.length_append]
      exact hr4⟩
    have HV := Lib.hid (hV3.setCell (p := ⟨G, 0, none⟩) hVG (.slice x3 (S.length + 1) y3))
    have HO : Hid (∀ B ys, Bl w B ys → B < base → B ≠ G → Bl (w3.setCell ⟨G, 0, none⟩ (.slice x3 (S.length + 1) y3)) B ys) := Lib.hid fun B ys hB hlt hBG => (hoth B ys hB hlt hBG).far hBG
    have HS : Hid (w.heap.size ≤ (w3.setCell ⟨G, 0, none⟩ (.slice x3 (S.length + 1) y3)).heap.size) := Lib.hid (by simpa using hs3)
    clear bG3 bG4 hr3 hr4 hV3 hoth hs3 bG
    refine wpAnyH_done (by kernel_rfl) ?_ _
    go_wp2
    go_end0
    exact ⟨rfl, HR.out, HV.out, HO.out, HS.out⟩
end Go.Proofs.Ytbcmoofpgffbhaa
