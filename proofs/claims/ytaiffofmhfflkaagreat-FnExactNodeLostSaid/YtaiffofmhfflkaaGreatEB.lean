/-
  Copies of entries and of whole tables, of the program. Conditions: those in each contract.
-/
import Derived.Test.YtaiffofmhfflkaaGreatEA
namespace Go.Proofs.YtaiffofmhfflkaaGreat
open Go.ChangeShapes Go.WideShapes Go.ChangeAt Go.RowKit Go.BigFrame Go.Joins
set_option linter.unusedVariables false
set_option maxRecDepth 100000
set_option linter.unusedSimpArgs false
set_option maxRecDepth 100000

theorem ice_any (pv cv : Value) (p c : List Int) (a n pe pr bw : Int) (w : World) (hp : RdI w pv p) (hc : RdI w cv c) (h0 : p.length ≤ 1048576) (h1 : c.length ≤ 1048576) :
    Calls Tryz.prog 166 #[.agg #[.int .i64 a, .int .i64 n, .int .i64 pe, pv, .int .i64 pr, cv, .int .i64 bw]] w (NewEnt w p c a n pe pr bw) := by
  obtain ⟨bA, bR, B1, z⟩ := two w [.int .i64 a, .int .i64 n, .int .i64 pe, pv, .int .i64 pr, cv, .int .i64 bw] [.int .i64 0, .int .i64 0, .int .i64 0, .slice none 0 0, .int .i64 0, .slice none 0 0, .int .i64 0] EI EI
  have hp1 := hp.keep B1
  have hc1 := hc.keep B1
  have a0 := bA.c 0 rfl
  have a1 := bA.c 1 rfl
  have a2 := bA.c 2 rfl
  have a3 := bA.c 3 rfl
  have a4 := bA.c 4 rfl
  have a5 := bA.c 5 rfl
  have a6 := bA.c 6 rfl
  go_enter Tryz.func166, Tryz.ntmps166
  go_wp2_with fail
  clear a0 a1 a2 a3 a4 a5 a6
  obtain ⟨V, hV⟩ : ∃ V, V = (w.alloc (.cells #[.int .i64 a, .int .i64 n, .int .i64 pe, pv, .int .i64 pr, cv, .int .i64 bw] EI)).alloc (.cells #[.int .i64 0, .int .i64 0, .int .i64 0, .slice none 0 0, .int .i64 0, .slice none 0 0, .int .i64 0] EI) := ⟨_, rfl⟩
  rw [← hV] at bA bR B1 z hp1 hc1 ⊢
  refine (icopy_any pv cv p c pr bw V hp1 hc1 h0 h1).mono ?_
  rintro e w1 ⟨x, y, f, g, rfl, o1, o2, ap, B2⟩
  have bAs := ((((bA.keep B2).set 3 (.slice x p.length y)).set 4 (.int .i64 pr)).set 5 (.slice f c.length g)).set 6 (.int .i64 bw)
  have bA1 := bA.keep B2
  have bR1 := bR.keep B2
  obtain ⟨A, hA⟩ : ∃ A, A = w.heap.size := ⟨_, rfl⟩
  obtain ⟨R, hR⟩ : ∃ R, R = w.heap.size + 1 := ⟨_, rfl⟩
  rw [← hA] at bA1
  rw [← hR] at bR1
  try rw [← hR]
  try rw [← hA]
  have hAR : A ≠ R := by omega
  have hwA : w.heap.size ≤ A := by omega
  have hwR : w.heap.size ≤ R := by omega
  have hAV : A < V.heap.size := by rw [z]; omega
  have hRV : R < V.heap.size := by rw [z]; omega
  have hwV : w.heap.size ≤ V.heap.size := by rw [z]; omega
  clear bAs bA bR
  clear hA hR hV hp1 hc1
  have B3 := below_step B1 B2
  have k0 := bA1.c 0 rfl
  have k1 := bA1.c 1 rfl
  have k2 := bA1.c 2 rfl
  have k3 := bA1.c 3 rfl
  have k4 := bA1.c 4 rfl
  have k5 := bA1.c 5 rfl
  have k6 := bA1.c 6 rfl
  have kf0 := bA1.f 0 rfl
  have kf1 := bA1.f 1 rfl
  have kf2 := bA1.f 2 rfl
  have kf3 := bA1.f 3 rfl
  have kf4 := bA1.f 4 rfl
  have kf5 := bA1.f 5 rfl
  have kf6 := bA1.f 6 rfl
  have r0 := bR1.c 0 rfl
  have rf0 := bR1.f 0 rfl
  have r1 := bR1.c 1 rfl
  have rf1 := bR1.f 1 rfl
  have r2 := bR1.c 2 rfl
  have rf2 := bR1.f 2 rfl
  have r3 := bR1.c 3 rfl
  have rf3 := bR1.f 3 rfl
  have r4 := bR1.c 4 rfl
  have rf4 := bR1.f 4 rfl
  have r5 := bR1.c 5 rfl
  have rf5 := bR1.f 5 rfl
  have r6 := bR1.c 6 rfl
  have rf6 := bR1.f 6 rfl
  have lA := bA1.lt
  have lR := bR1.lt
  go_wp2_with fail
  have bE := (((((((((((bR1.far (o := 3) (u := .slice x p.length y) hAR.symm).far (o := 4) (u := .int .i64 pr) hAR.symm).far (o := 5) (u := .slice f c.length g) hAR.symm).far (o := 6) (u := .int .i64 bw) hAR.symm).set 0 (.int .i64 a)).set 1 (.int .i64 n)).set 2 (.int .i64 pe)).set 3 (.slice x p.length y)).set 4 (.int .i64 pr)).set 5 (.slice f c.length g)).set 6 (.int .i64 bw))
  have e0 := bE.c 0 rfl
  have e1 := bE.c 1 rfl
  have e2 := bE.c 2 rfl
  have e3 := bE.c 3 rfl
  have e4 := bE.c 4 rfl
  have e5 := bE.c 5 rfl
  have e6 := bE.c 6 rfl
  exact bodyPost_ret (v := .agg #[.int .i64 a, .int .i64 n, .int .i64 pe, .slice x p.length y, .int .i64 pr, .slice f c.length g, .int .i64 bw]) (by simp [results, Tryz.results166, go_sem, e0, e1, e2, e3, e4, e5, e6]) rfl
    ⟨x, y, f, g, rfl, (((((((((((o1.far (o := 3) (u := .slice x p.length y) hAV).far (o := 4) (u := .int .i64 pr) hAV).far (o := 5) (u := .slice f c.length g) hAV).far (o := 6) (u := .int .i64 bw) hAV).far (o := 0) (u := .int .i64 a) hRV).far (o := 1) (u := .int .i64 n) hRV).far (o := 2) (u := .int .i64 pe) hRV).far (o := 3) (u := .slice x p.length y) hRV).far (o := 4) (u := .int .i64 pr) hRV).far (o := 5) (u := .slice f c.length g) hRV).far (o := 6) (u := .int .i64 bw) hRV).mono hwV, (((((((((((o2.far (o := 3) (u := .slice x p.length y) hAV).far (o := 4) (u := .int .i64 pr) hAV).far (o := 5) (u := .slice f c.length g) hAV).far (o := 6) (u := .int .i64 bw) hAV).far (o := 0) (u := .int .i64 a) hRV).far (o := 1) (u := .int .i64 n) hRV).far (o := 2) (u := .int .i64 pe) hRV).far (o := 3) (u := .slice x p.length y) hRV).far (o := 4) (u := .int .i64 pr) hRV).far (o := 5) (u := .slice f c.length g) hRV).far (o := 6) (u := .int .i64 bw) hRV).mono hwV, ap, (((((((((((B3.setCell (p := ⟨A, 3, none⟩) hwA _).setCell (p := ⟨A, 4, none⟩) hwA _).setCell (p := ⟨A, 5, none⟩) hwA _).setCell (p := ⟨A, 6, none⟩) hwA _).setCell (p := ⟨R, 0, none⟩) hwR _).setCell (p := ⟨R, 1, none⟩) hwR _).setCell (p := ⟨R, 2, none⟩) hwR _).setCell (p := ⟨R, 3, none⟩) hwR _).setCell (p := ⟨R, 4, none⟩) hwR _).setCell (p := ⟨R, 5, none⟩) hwR _).setCell (p := ⟨R, 6, none⟩) hwR _)⟩
/-- append(s, E): the slice it is handed over in has been made just now -/
theorem wp_appE {ops : Array Oper} {rest : List Oper} {o : Oper} {a : Act} {Q : Exit → Act → World → Prop} {w : World} (hgd : o.guard = none) (s x : Operand)
    (ho : o.op = .call { callee := .builtin .append, args := #[s, x], argTypes := #[30, 30] })
    (base g c : Nat) (v : Value) (n : Nat) (xs : List Value) (ys : List Value) (hs : a.eval s = v) (hx : a.eval x = .slice (some ⟨g, 0, none⟩) 1 c) (hown : w.ownsRow base EI 7 v n xs)
    (h0 : Bl w g ys) (h7 : ys.length = 7) (h1 : ∀ u ∈ ys, u.oneCell' = true) (hlen : n + 1 ≤ 4294967296) (hbase : base ≤ w.heap.size)
    (h : ∀ v' w', w'.ownsRow base EI 7 v' (n + 1) (xs ++ ys) → w.grownBy w' v.ownBlock → (v'.ownBlock = v.ownBlock ∨ v'.ownBlock = some w.heap.size) → wpList Tryz.prog ops Q rest (a.put o.dst v') w') : wpList Tryz.prog ops Q (o :: rest) a w := by
  obtain ⟨i0, hi, hz0, hz1, hz2⟩ := info_parts infoE2
  refine wpList_append_own_at (w := w) hgd s x 30 ho base EI i0 (.agg #[.int .i64 0, .int .i64 0, .int .i64 0, .slice none 0 0, .int .i64 0, .slice none 0 0, .int .i64 0]) 7 88 Tryz.underlying30 hi hz0 hz1 hz2 rfl (by decide) v n xs hs hown ⟨g, 0, none⟩ 1 c ys hx (by omega) (fun j y hy => ?_) h1 (by unfold maxLen; omega) (by omega) hbase fun v' w' ho' hg' _ hor => h v' w' ho' hg' hor
  have hadd : ∀ j, (⟨g, 0, none⟩ : Addr).add j = ⟨g, j, none⟩ := fun j => by unfold Addr.add; split <;> simp_all
  rw [hadd]
  exact h0.c j hy
theorem step_appE {ops : Array Oper} {o : Oper} {a : Act} {K : Act → World → Prop} {Q : Exit → Act → World → Prop} {E : Prop} {w : World} (hgd : o.guard = none) (s x : Operand)
    (ho : o.op = .call { callee := .builtin .append, args := #[s, x], argTypes := #[30, 30] })
    (base g c : Nat) (v : Value) (n : Nat) (xs : List Value) (ys : List Value) (hs : a.eval s = v) (hx : a.eval x = .slice (some ⟨g, 0, none⟩) 1 c) (hown : w.ownsRow base EI 7 v n xs)
    (h0 : Bl w g ys) (h7 : ys.length = 7) (h1 : ∀ u ∈ ys, u.oneCell' = true) (hlen : n + 1 ≤ 4294967296) (hbase : base ≤ w.heap.size)
    (h : ∀ v' w', w'.ownsRow base EI 7 v' (n + 1) (xs ++ ys) → w.grownBy w' v.ownBlock → (v'.ownBlock = v.ownBlock ∨ v'.ownBlock = some w.heap.size) → K (a.put o.dst v') w') : if Region.wanted o (yielded ops a.tmps) = true then Oper.wp Tryz.prog o a w K Q else E := by
  have hw : Region.wanted o (yielded ops a.tmps) = true := by simp [Region.wanted, hgd]
  rw [if_pos hw]
  obtain ⟨i0, hi, hz0, hz1, hz2⟩ := info_parts infoE2
  obtain ⟨v', w', hr, h2, h3, -, h5⟩ := run_append_own_at (P := Tryz.prog) w base 30 o.type EI i0 (.agg #[.int .i64 0, .int .i64 0, .int .i64 0, .slice none 0 0, .int .i64 0, .slice none 0 0, .int .i64 0]) 7 88 Tryz.underlying30 hi hz0 hz1 hz2 rfl (by decide) v n xs hown ⟨g, 0, none⟩ 1 c ys (by omega) (fun j y hy => by
    have hadd : ∀ j, (⟨g, 0, none⟩ : Addr).add j = ⟨g, j, none⟩ := fun j => by unfold Addr.add; split <;> simp_all
    rw [hadd]
    exact h0.c j hy) h1 (by unfold maxLen; omega) (by omega) hbase
  unfold Oper.wp execOp
  simp only [ho, resolve, invoke, builtin, Sem.run_bind, Sem.run_pure, Result.andThen_ok, List.map_toArray, List.map_cons, List.map_nil, hs, hx, hr]
  exact h v' w' h2 h3 h5
end Go.Proofs.YtaiffofmhfflkaaGreat
