/-
  slices.Backward over a slice of groups: what the iterator hands on, from the last to the first. Conditions: those in each contract.
-/
import Derived.RangeFuncNested
import Derived.RangeFuncBound
import Derived.RangeFuncCalls
import Derived.RangeFuncLeaves
import Derived.Shelf.Abstract
import Derived.OwnWalkIn
import Derived.TacticsInMore
import Derived.LoopNIn
import Derived.LoopIn
import Derived.Test.YtgelmpojbaiddaaGD
namespace Go.Proofs.Ytgelmpojbaiddaa
open Go.ChangeShapes Go.WideShapes Go.ChangeAt Go.RowKit Go.BigFrame Go.Joins Go.Shelf
set_option linter.unusedVariables false
set_option maxRecDepth 100000
set_option linter.unusedSimpArgs false
set_option maxRecDepth 100000

/-- what has come when k of n rounds are over: n - 1, .., n - k -/
def downs (n k : Nat) : List Nat := (List.range k).map fun t => n - 1 - t
theorem downs_succ (n k : Nat) : downs n (k + 1) = downs n k ++ [n - 1 - k] := by simp [downs, List.range_succ]
theorem downs_len (n k : Nat) : (downs n k).length = k := by simp [downs]
set_option maxHeartbeats 1000000 in
/-- the iterator: every index from the last to the first, with the element's value -/
theorem back1_in (n : Nat) (hn : 1 ≤ n) (l Bs n₀ b off len cap : Nat) (gv : Nat → Value) (ga gn : Nat → Int) (ha : Nat → Option Addr) (hl hc : Nat → Nat) (hgv : ∀ j, j < len → gv j = .agg #[.int .i64 (ga j), .int .i64 (gn j), .slice (ha j) (hl j) (hc j)])
    (hlen : len ≤ 9223372036854775807) (hb : b < n₀) (hBn : Bs < n₀) (J Jx : List Nat → World → Prop)
    (hY : ∀ (pre : List Nat) (x : Nat) (W : World), J pre W → pre.length < len → x < len → YieldAt Fence.wide (n - 1) Try.prog l #[.int .i64 (x : Int), gv x] W fun e W' =>
      (e = .returned (.bool true) ∧ J (pre ++ [x]) W' ∧ Below n₀ W W') ∨ (e = .returned (.bool false) ∧ Jx (pre ++ [x]) W'))
    (W : World) (hBs : W.cell? ⟨Bs, 0, none⟩ = some (.slice (some ⟨b, off, none⟩) len cap))
    (hcs : ∀ j, j < len → W.cell? ⟨b, off + j * 3, none⟩ = some (.int .i64 (ga j)) ∧ W.cell? ⟨b, off + j * 3 + 1, none⟩ = some (.int .i64 (gn j)) ∧ W.cell? ⟨b, off + j * 3 + 2, none⟩ = some (.slice (ha j) (hl j) (hc j))) (h0 : J [] W) :
    CallsIn Fence.wide n Try.prog 99 #[.func (.yield l) #[] #[], .pointer (some ⟨Bs, 0, none⟩)] W fun e W' => (∃ v, e = .returned v) ∧
      (J (downs len len) W' ∨ ∃ k, k ≤ len ∧ Jx (downs len k) W') := by
  have hsem := Oper.semAt_some
  refine callsIn_of_wp Try.func99 rfl trivial ?_ rfl
  simp only [Try.ntmps99, List.size_toArray, List.length_cons, List.length_nil, Nat.reduceAdd, Nat.reduceSub, Array.replicate_succ, Array.replicate_zero, List.push_toArray, List.append_toArray, List.nil_append, List.cons_append]
  have hw1 : IntKind.i64.wrap ((len : Int) - 1) = (len : Int) - 1 := wrap64_in _ (by omega) (by omega)
  gi_wp2
  gi_loopw [3] (fun i wr => ∃ k : Nat, k ≤ len ∧ i = .int .i64 ((len : Int) - 1 - k) ∧ J (downs len k) wr ∧ Below n₀ W wr)
    (fun i _ => (intOf i + 1).toNat)
  case atStart => exact ⟨0, Nat.zero_le _, by simp, h0, Below.refl _ _⟩
  case round =>
    obtain ⟨k, hk, rfl, hJs, hnx⟩ := hrel
    by_cases hlt : k < len
    · obtain ⟨j, hj⟩ : ∃ j, j = len - 1 - k := ⟨_, rfl⟩
      have hjl : j < len := by omega
      have hji : (len : Int) - 1 - k = (j : Int) := by omega
      have hbx := (hnx.cell (p := ⟨Bs, 0, none⟩) hBn).trans hBs
      obtain ⟨d0, d1, d2⟩ := hcs j hjl
      have g0 := (hnx.cell (p := ⟨b, off + j * 3, none⟩) hb).trans d0
      have g1 := (hnx.cell (p := ⟨b, off + j * 3 + 1, none⟩) hb).trans d1
      have g2 := (hnx.cell (p := ⟨b, off + j * 3 + 2, none⟩) hb).trans d2
      obtain ⟨fn, tmps, assign, body, hy, hR⟩ := hY _ j wr hJs (by rw [downs_len]; exact hlt) hjl
      rw [hgv j hjl] at hy
      rw [hji]
      have hj0 : (0 : Int) ≤ (j : Int) := by omega
      have hjI : (j : Int) < (len : Int) := by omega
      have hw2 : IntKind.i64.wrap ((j : Int) - 1) = (j : Int) - 1 := wrap64_in _ (by omega) (by omega)
      clear d0 d1 d2
      have HJ := Lib.hid hj
      clear hj
      gi_wp2
      refine hR.mono ?_
      rintro e W3 (⟨rfl, hJ3, hk3⟩ | ⟨rfl, hJx3⟩)
      · gi_wp2
        go_roundw
        case rel => exact ⟨k + 1, by omega, by have := HJ.out; congr 1; omega, by rw [downs_succ, ← HJ.out]; exact hJ3, hnx.trans hk3⟩
        case measure => simp [intOf]
      · gi_wp2
        refine bodyPost_ret (results_none rfl _ _ _) rfl ?_
        exact ⟨⟨_, rfl⟩, .inr ⟨k + 1, by omega, by rw [downs_succ, ← HJ.out]; exact hJx3⟩⟩
    · obtain rfl : k = len := by omega
      have hneg : (k : Int) - 1 - k = -1 := by omega
      rw [hneg]
      gi_wp2
      go_end0
      exact ⟨⟨_, rfl⟩, .inl hJs⟩
theorem back_stops (n : Nat) (hn : 1 ≤ n) (Bs n₀ : Nat) (sv : Value) (L : List Grp) (w : World) (hBs : Bs < n₀) (hn₀ : n₀ ≤ w.heap.size) (hcell : w.cell? ⟨Bs, 0, none⟩ = some sv) (V : World) (hV : V.heap.size ≤ n₀) (hVw : Below V.heap.size V w) (hR : RdG V sv L) :
    ∃ gv hv : Nat → Value, (∀ j, j < L.length → gv j = .agg #[.int .i64 (L.getD j gr0).a, .int .i64 (L.getD j gr0).n, hv j] ∧ RdP V (hv j) (L.getD j gr0).h) ∧
      SeqStopsK Fence.wide n Try.prog 99 #[.pointer (some ⟨Bs, 0, none⟩)] (fun x : Fin L.length => #[Value.int .i64 ((x.val : Nat) : Int), gv x.val]) (Below n₀) (fun ys => ys.map (·.val) = downs L.length L.length) (fun pre => ∃ k, k ≤ L.length ∧ pre.map (·.val) = downs L.length k) L.length w := by
  have hm := hR.1
  obtain ⟨a, c, rfl, hc⟩ := hR.el
  have hex : ∀ i, i < L.length → ∃ u : Value, RdP V u (L.getD i gr0).h ∧ (∃ p x y, u = .slice p x y) ∧ ∃ b o, a = some ⟨b, o, none⟩ ∧ b < V.heap.size ∧ V.cell? ⟨b, o + i * 3, none⟩ = some (.int .i64 (L.getD i gr0).a) ∧ V.cell? ⟨b, o + i * 3 + 1, none⟩ = some (.int .i64 (L.getD i gr0).n) ∧ V.cell? ⟨b, o + i * 3 + 2, none⟩ = some u := by
    intro i hi
    obtain ⟨b, o, rfl, hv, hp, k0, k1, k2⟩ := hc i hi
    obtain ⟨p, y, e⟩ := hp.len
    exact ⟨hv, hp, ⟨p, _, y, e⟩, b, o, rfl, World.block_lt_of_cell? _ _ k0, k0, k1, k2⟩
  obtain ⟨hv, hhv⟩ := Deep.choose_lt hex
  refine ⟨fun j => .agg #[.int .i64 (L.getD j gr0).a, .int .i64 (L.getD j gr0).n, hv j], hv, fun j hj => ⟨rfl, (hhv j hj).1⟩, ?_⟩
  have hex2 : ∀ i, i < L.length → ∃ q : Option Addr × Nat × Nat, hv i = .slice q.1 q.2.1 q.2.2 := fun i hi => by
    obtain ⟨p, x, y, e⟩ := (hhv i hi).2.1
    exact ⟨(p, x, y), e⟩
  obtain ⟨q, hq⟩ := Deep.choose_lt hex2
  intro l J Jx W hW hJ hJx hY h0
  have hcell' := (hW.cell (p := ⟨Bs, 0, none⟩) (by show Bs < w.heap.size; omega)).trans hcell
  by_cases hz : L.length = 0
  · rw [hz] at hcell'
    clear hY
    have hsem := Oper.semAt_some
    refine callsIn_of_wp Try.func99 rfl trivial ?_ rfl
    simp only [Try.ntmps99, List.size_toArray, List.length_cons, List.length_nil, Nat.reduceAdd, Nat.reduceSub, Array.replicate_succ, Array.replicate_zero, List.push_toArray, List.append_toArray, List.nil_append, List.cons_append]
    gi_wp2
    gi_loopw [3] (fun i wr => i = .int .i64 (-1) ∧ J [] wr) (fun _ _ => 0)
    case atStart => exact ⟨rfl, h0⟩
    case round =>
      obtain ⟨rfl, hJs⟩ := hrel
      gi_wp2
      go_end0
      exact ⟨⟨_, rfl⟩, .inl ⟨[], by simp [downs, hz], hJs⟩⟩
  · obtain ⟨-, -, b, o, rfl, hb, -⟩ := hhv 0 (by omega)
    refine (back1_in n hn l Bs n₀ b o L.length c (fun j => .agg #[.int .i64 (L.getD j gr0).a, .int .i64 (L.getD j gr0).n, hv j]) (fun j => (L.getD j gr0).a) (fun j => (L.getD j gr0).n) (fun j => (q j).1) (fun j => (q j).2.1) (fun j => (q j).2.2)
      (fun j hj => by simp only [hq j hj]) hm (by omega) hBs (fun pre W => ∃ ps : List (Fin L.length), ps.map (·.val) = pre ∧ J ps W) (fun pre W => ∃ ps : List (Fin L.length), ps.map (·.val) = pre ∧ Jx ps W)
      (fun pre y W1 hJ1 hpl hy => by
        obtain ⟨ps, rfl, hJ1⟩ := hJ1
        refine YieldAt.mono (hY ps ⟨y, hy⟩ W1 hJ1 (by simpa using hpl)) ?_
        rintro e W2 (⟨he, h1, h2⟩ | ⟨he, h1⟩)
        · exact .inl ⟨he, ⟨ps ++ [⟨y, hy⟩], by simp, h1⟩, h2⟩
        · exact .inr ⟨he, ⟨ps ++ [⟨y, hy⟩], by simp, h1⟩⟩) W hcell' (fun j hj => ?_) ⟨[], rfl, h0⟩).mono ?_
    · obtain ⟨-, -, b', o', e, hb', k0, k1, k2⟩ := hhv j hj
      simp only [Option.some.injEq, Addr.mk.injEq] at e
      obtain ⟨rfl, rfl, -⟩ := e
      have tr : ∀ p : Addr, p.block < V.heap.size → W.cell? p = V.cell? p := fun p hp => (hW.cell (by omega)).trans (hVw.cell hp)
      rw [hq j hj] at k2
      exact ⟨(tr _ hb').trans k0, (tr _ hb').trans k1, (tr _ hb').trans k2⟩
    · rintro e W' ⟨he, ⟨ps, hps, hj⟩ | ⟨k, hk, ps, hps, hj⟩⟩
      · exact ⟨he, .inl ⟨ps, hps, hj⟩⟩
      · exact ⟨he, .inr ⟨ps, ⟨k, hk, hps⟩, hj⟩⟩
end Go.Proofs.Ytgelmpojbaiddaa
