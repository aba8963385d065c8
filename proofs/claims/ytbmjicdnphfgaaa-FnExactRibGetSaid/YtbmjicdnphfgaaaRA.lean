/-
  The entries of a prefix as the program's iterator hands them on, in order. Conditions: those in each contract.
-/
import Derived.RangeFuncNested
import Derived.RangeFuncBound
import Derived.RangeFuncCalls
import Derived.RangeFuncLeaves
import Derived.Shelf.Abstract
import Derived.OwnWalkIn
import Derived.TacticsInMore
import Derived.LoopNIn
import Derived.LoopIn
import Derived.Test.YtbmjicdnphfgaaaF2
namespace Go.Proofs.Ytbmjicdnphfgaaa
open Go.ChangeShapes Go.WideShapes Go.ChangeAt Go.RowKit Go.BigFrame Go.Joins Go.Shelf
set_option linter.unusedVariables false
set_option maxRecDepth 100000
set_option linter.unusedSimpArgs false
set_option maxRecDepth 100000

/-- entry i is one of that prefix -/
def isP (L : List Ent) (a n : Int) (i : Nat) : Bool := decide ((L.getD i e0).a = a ∧ (L.getD i e0).n = n)
/-- those of the first k that are -/
def ofs (L : List Ent) (a n : Int) : Nat → List Nat
  | 0 => []
  | k + 1 => if isP L a n k then ofs L a n k ++ [k] else ofs L a n k
theorem ofs_yes {L : List Ent} {a n : Int} {k : Nat} (h : isP L a n k = true) : ofs L a n (k + 1) = ofs L a n k ++ [k] := by show (if isP L a n k then _ else _) = _; rw [h]; rfl
theorem ofs_no {L : List Ent} {a n : Int} {k : Nat} (h : isP L a n k = false) : ofs L a n (k + 1) = ofs L a n k := by show (if isP L a n k then _ else _) = _; rw [h]; rfl
theorem ofs_len (L : List Ent) (a n : Int) : ∀ k j, k ≤ j → (ofs L a n k).length ≤ (ofs L a n j).length
  | k, 0, h => by rw [Nat.le_zero.1 h]; exact Nat.le_refl _
  | k, j + 1, h => by
    by_cases e : k = j + 1
    · rw [e]; exact Nat.le_refl _
    · have h1 := ofs_len L a n k j (by omega)
      cases hp : isP L a n j
      · rw [ofs_no hp]; exact h1
      · rw [ofs_yes hp, List.length_append]; omega
theorem ofs_lt {L : List Ent} {a n : Int} {k m : Nat} (hk : k < m) (h : isP L a n k = true) : (ofs L a n k).length < (ofs L a n m).length := by
  have h1 := ofs_len L a n (k + 1) m hk
  rw [ofs_yes h, List.length_append] at h1
  simp at h1
  omega
theorem ofs_mem {L : List Ent} {a n : Int} : ∀ {k i : Nat}, i ∈ ofs L a n k → i < k ∧ isP L a n i = true
  | 0, i, h => by simp [ofs] at h
  | k + 1, i, h => by
    cases hp : isP L a n k
    · rw [ofs_no hp] at h
      have := ofs_mem h
      exact ⟨by omega, this.2⟩
    · rw [ofs_yes hp] at h
      rcases List.mem_append.1 h with h | h
      · have := ofs_mem h
        exact ⟨by omega, this.2⟩
      · rw [List.mem_singleton.1 h]
        exact ⟨by omega, hp⟩
theorem ofs_in {L : List Ent} {a n : Int} : ∀ {k i : Nat}, i < k → isP L a n i = true → i ∈ ofs L a n k
  | 0, i, h, _ => absurd h (by omega)
  | k + 1, i, h, hi => by
    by_cases e : i = k
    · subst e; rw [ofs_yes hi]; simp
    · have := ofs_in (k := k) (by omega) hi
      cases hp : isP L a n k
      · rw [ofs_no hp]; exact this
      · rw [ofs_yes hp]; exact List.mem_append_left _ this
theorem ofs_sorted (L : List Ent) (a n : Int) : ∀ k, (ofs L a n k).Pairwise (· < ·)
  | 0 => by simp [ofs]
  | k + 1 => by
    cases hp : isP L a n k
    · rw [ofs_no hp]; exact ofs_sorted L a n k
    · rw [ofs_yes hp, List.pairwise_append]
      refine ⟨ofs_sorted L a n k, by simp, fun i hi j hj => ?_⟩
      rw [List.mem_singleton.1 hj]
      exact (ofs_mem hi).1
/-- an index of an entry of that prefix -/
abbrev OfI (L : List Ent) (a n : Int) := { i : Nat // i < L.length ∧ isP L a n i = true }
theorem abides_alloc {β : Type} {B : Nat} {J : β → World → Prop} (h : AbidesFrom B J) {s : β} {W : World} (o : Obj) (hs : J s W) : J s (W.alloc o) :=
  h s W _ none hs (World.grownBy_alloc W o none) (fun r e => by cases e)
set_option maxHeartbeats 2000000 in
/-- the iterator: every entry of the prefix, in order, with its value -/
theorem of1_in (n : Nat) (hn : 1 ≤ n) (l Rb Pb n₀ b off len cap : Nat) (L : List Ent) (a nn : Int) (pv cv : Nat → Value) (hlL : len = L.length) (hpv : ∀ j, j < len → (∃ x y z, pv j = .slice x y z) ∧ ∃ x y z, cv j = .slice x y z)
    (hlen : len ≤ 9223372036854775807) (hb : b < n₀) (hRb : Rb < n₀) (hPb : Pb < n₀) (J Jx : List Nat → World → Prop) (B : Nat) (hJ : AbidesFrom B J)
    (hY : ∀ (pre : List Nat) (x : Nat) (W : World), J pre W → pre.length < (ofs L a nn len).length → x < len → isP L a nn x = true → YieldAt Fence.wide (n - 1) Try.prog l #[.agg #[.int .i64 (L.getD x e0).a, .int .i64 (L.getD x e0).n, .int .i64 (L.getD x e0).pe, pv x, .int .i64 (L.getD x e0).pr, cv x, .int .i64 (L.getD x e0).bw]] W fun e W' =>
      (e = .returned (.bool true) ∧ J (pre ++ [x]) W' ∧ Below n₀ W W') ∨ (e = .returned (.bool false) ∧ Jx (pre ++ [x]) W'))
    (W : World) (hn0 : n₀ ≤ W.heap.size) (hR : W.cell? ⟨Rb, 0, none⟩ = some (.slice (some ⟨b, off, none⟩) len cap)) (hP0 : W.cell? ⟨Pb, 0, none⟩ = some (.int .i64 a)) (hP1 : W.cell? ⟨Pb, 1, none⟩ = some (.int .i64 nn))
    (hcs : ∀ j, j < len → W.cell? ⟨b, off + j * 7, none⟩ = some (.int .i64 (L.getD j e0).a) ∧ W.cell? ⟨b, off + j * 7 + 1, none⟩ = some (.int .i64 (L.getD j e0).n) ∧ W.cell? ⟨b, off + j * 7 + 2, none⟩ = some (.int .i64 (L.getD j e0).pe) ∧ W.cell? ⟨b, off + j * 7 + 3, none⟩ = some (pv j) ∧ W.cell? ⟨b, off + j * 7 + 4, none⟩ = some (.int .i64 (L.getD j e0).pr) ∧ W.cell? ⟨b, off + j * 7 + 5, none⟩ = some (cv j) ∧ W.cell? ⟨b, off + j * 7 + 6, none⟩ = some (.int .i64 (L.getD j e0).bw)) (h0 : J [] W) :
    CallsIn Fence.wide n Try.prog 63 #[.func (.yield l) #[] #[], .pointer (some ⟨Rb, 0, none⟩), .pointer (some ⟨Pb, 0, none⟩)] W fun e W' => (∃ v, e = .returned v) ∧
      (J (ofs L a nn len) W' ∨ ∃ k, k ≤ len ∧ Jx (ofs L a nn k) W') := by
  have hsem := Oper.semAt_some
  refine callsIn_of_wp Try.func63 rfl trivial ?_ rfl
  simp only [Try.ntmps63, List.size_toArray, List.length_cons, List.length_nil, Nat.reduceAdd, Nat.reduceSub, Array.replicate_succ, Array.replicate_zero, List.push_toArray, List.append_toArray, List.nil_append, List.cons_append]
  gi_wp2
  gi_loopw [9] (fun i wr => ∃ k : Nat, k ≤ len ∧ i = .int .i64 k ∧ J (ofs L a nn k) wr ∧ Below n₀ W wr) (fun i _ => len - (intOf i).toNat)
  case atStart => exact ⟨0, Nat.zero_le _, rfl, h0, Below.refl _ _⟩
  case round =>
    obtain ⟨k, hk, rfl, hJs, hnx⟩ := hrel
    by_cases hlt : k < len
    · have hltI : (k : Int) < (len : Int) := by omega
      have hp0 := (hnx.cell (p := ⟨Pb, 0, none⟩) hPb).trans hP0
      have hp1 := (hnx.cell (p := ⟨Pb, 1, none⟩) hPb).trans hP1
      have lP : Pb < wr.heap.size := by have := hnx.size; omega
      obtain ⟨d0, d1, d2, d3, d4, d5, d6⟩ := hcs k hlt
      have g0 := (hnx.cell (p := ⟨b, off + k * 7, none⟩) hb).trans d0
      have g1 := (hnx.cell (p := ⟨b, off + k * 7 + 1, none⟩) hb).trans d1
      have g2 := (hnx.cell (p := ⟨b, off + k * 7 + 2, none⟩) hb).trans d2
      have g3 := (hnx.cell (p := ⟨b, off + k * 7 + 3, none⟩) hb).trans d3
      have g4 := (hnx.cell (p := ⟨b, off + k * 7 + 4, none⟩) hb).trans d4
      have g5 := (hnx.cell (p := ⟨b, off + k * 7 + 5, none⟩) hb).trans d5
      have g6 := (hnx.cell (p := ⟨b, off + k * 7 + 6, none⟩) hb).trans d6
      obtain ⟨⟨pa, pl, px, hpe⟩, ca, cl, cx, hce⟩ := hpv k hlt
      obtain ⟨E, hE⟩ : ∃ E, L.getD k e0 = E := ⟨_, rfl⟩
      rw [hE] at g0 g1 g2 g4 g6
      rw [hpe] at g3
      rw [hce] at g5
      clear d0 d1 d2 d3 d4 d5 d6
      have hJ2 := abides_alloc hJ (.cells #[.int .i64 E.a, .int .i64 E.n, .int .i64 E.pe, .slice pa pl px, .int .i64 E.pr, .slice ca cl cx, .int .i64 E.bw] EI) hJs
      have hnx2 := hnx.alloc (Nat.le_trans hn0 hnx.size) (.cells #[.int .i64 E.a, .int .i64 E.n, .int .i64 E.pe, .slice pa pl px, .int .i64 E.pr, .slice ca cl cx, .int .i64 E.bw] EI)
      by_cases hea : E.a = a
      · by_cases hen : E.n = nn
        · have hyes : isP L a nn k = true := by unfold isP; rw [hE]; exact decide_eq_true ⟨hea, hen⟩
          obtain ⟨fn, tmps, assign, body, hy, hRd⟩ := hY _ k _ hJ2 (ofs_lt hlt hyes) hlt hyes
          rw [hE, hpe, hce] at hy
          subst hea hen
          have HYES := Lib.hid hyes
          clear hyes
          gi_wp2
          refine hRd.mono ?_
          rintro e W3 (⟨rfl, hJ3, hk3⟩ | ⟨rfl, hJx3⟩)
          · gi_wp2
            go_roundw
            case rel => exact ⟨k + 1, by omega, by go_num, by rw [ofs_yes HYES.out]; exact hJ3, hnx2.trans hk3⟩
            case measure => simp [intOf]; omega
          · gi_wp2
            refine bodyPost_ret (results_none rfl _ _ _) rfl ?_
            exact ⟨⟨_, rfl⟩, .inr ⟨k + 1, by omega, by rw [ofs_yes HYES.out]; exact hJx3⟩⟩
        · have hno : isP L a nn k = false := by unfold isP; rw [hE]; exact decide_eq_false (fun q => hen q.2)
          have hb1 : (E.n == nn) = false := by simp [hen]
          subst hea
          have HNO := Lib.hid hno
          clear hno
          gi_wp2
          refine ⟨fun _ h => (by cases h), ?_⟩
          gi_wp2
          go_roundw
          case rel => exact ⟨k + 1, by omega, by go_num, by rw [ofs_no HNO.out]; exact hJ2, hnx2⟩
          case measure => simp [intOf]; omega
      · have hno : isP L a nn k = false := by unfold isP; rw [hE]; exact decide_eq_false (fun q => hea q.1)
        have hb1 : (E.a == a) = false := by simp [hea]
        have HNO := Lib.hid hno
        clear hno
        gi_wp2
        refine ⟨fun _ h => (by cases h), ?_⟩
        gi_wp2
        go_roundw
        case rel => exact ⟨k + 1, by omega, by go_num, by rw [ofs_no HNO.out]; exact hJ2, hnx2⟩
        case measure => simp [intOf]; omega
    · obtain rfl : k = len := by omega
      gi_wp2
      go_end0
      exact ⟨⟨_, rfl⟩, .inl hJs⟩
theorem iof_any (v : Value) (a n : Int) (w : World) (x : Option Addr) (m c : Nat) (hv : v = .slice x m c) :
    Calls Try.prog 39 #[.agg #[v], .agg #[.int .i64 a, .int .i64 n]] w fun e w' => e = .returned (.func (.func 63) #[] #[.pointer (some ⟨w.heap.size, 0, none⟩), .pointer (some ⟨w.heap.size + 1, 0, none⟩)]) ∧ w' = (w.alloc (.cells #[v] 35)).alloc (.cells #[.int .i64 a, .int .i64 n] PT) := by
  subst hv
  go_enter Try.func39, Try.ntmps39
  go_wp2
  go_ret
  exact ⟨rfl, rfl⟩
theorem of_stops (n : Nat) (hn : 1 ≤ n) (Rb Pb n₀ : Nat) (v : Value) (L : List Ent) (a nn : Int) (w : World) (hRb : Rb < n₀) (hPb : Pb < n₀) (hn₀ : n₀ ≤ w.heap.size) (hcell : w.cell? ⟨Rb, 0, none⟩ = some v) (hP0 : w.cell? ⟨Pb, 0, none⟩ = some (.int .i64 a)) (hP1 : w.cell? ⟨Pb, 1, none⟩ = some (.int .i64 nn))
    (V : World) (hV : V.heap.size ≤ n₀) (hVw : Below V.heap.size V w) (hR : RdE V v L) :
    ∃ pv cv : Nat → Value, (∀ j, j < L.length → RdI V (pv j) (L.getD j e0).p ∧ RdI V (cv j) (L.getD j e0).c) ∧
      SeqStopsK Fence.wide n Try.prog 63 #[.pointer (some ⟨Rb, 0, none⟩), .pointer (some ⟨Pb, 0, none⟩)] (fun x : OfI L a nn => #[.agg #[.int .i64 (L.getD x.val e0).a, .int .i64 (L.getD x.val e0).n, .int .i64 (L.getD x.val e0).pe, pv x.val, .int .i64 (L.getD x.val e0).pr, cv x.val, .int .i64 (L.getD x.val e0).bw]]) (Below n₀) (fun ys => ys.map (·.val) = ofs L a nn L.length) (fun pre => ∃ k, k ≤ L.length ∧ pre.map (·.val) = ofs L a nn k) (ofs L a nn L.length).length w := by
  have hm := hR.1
  obtain ⟨ad, c, rfl, hc⟩ := hR.el
  have hex : ∀ i, i < L.length → ∃ q : Value × Value, (RdI V q.1 (L.getD i e0).p ∧ RdI V q.2 (L.getD i e0).c) ∧ ∃ b o, ad = some ⟨b, o, none⟩ ∧ b < V.heap.size ∧ V.cell? ⟨b, o + i * 7, none⟩ = some (.int .i64 (L.getD i e0).a) ∧ V.cell? ⟨b, o + i * 7 + 1, none⟩ = some (.int .i64 (L.getD i e0).n) ∧ V.cell? ⟨b, o + i * 7 + 2, none⟩ = some (.int .i64 (L.getD i e0).pe) ∧ V.cell? ⟨b, o + i * 7 + 3, none⟩ = some (q.1) ∧ V.cell? ⟨b, o + i * 7 + 4, none⟩ = some (.int .i64 (L.getD i e0).pr) ∧ V.cell? ⟨b, o + i * 7 + 5, none⟩ = some (q.2) ∧ V.cell? ⟨b, o + i * 7 + 6, none⟩ = some (.int .i64 (L.getD i e0).bw) := by
    intro i hi
    obtain ⟨b, o, rfl, pu, cu, hp, hq, k0, k1, k2, k3, k4, k5, k6⟩ := hc i hi
    exact ⟨(pu, cu), ⟨hp, hq⟩, b, o, rfl, World.block_lt_of_cell? _ _ k0, k0, k1, k2, k3, k4, k5, k6⟩
  obtain ⟨q, hq⟩ := Deep.choose_lt hex
  refine ⟨fun j => (q j).1, fun j => (q j).2, fun j hj => (hq j hj).1, ?_⟩
  intro l J Jx W hW hJ hJx hY h0
  have tr : ∀ p : Addr, p.block < w.heap.size → W.cell? p = w.cell? p := fun p hp => hW.cell hp
  have hcell' := (tr ⟨Rb, 0, none⟩ (by show Rb < _; omega)).trans hcell
  have hP0' := (tr ⟨Pb, 0, none⟩ (by show Pb < _; omega)).trans hP0
  have hP1' := (tr ⟨Pb, 1, none⟩ (by show Pb < _; omega)).trans hP1
  by_cases hz : L.length = 0
  · rw [hz] at hcell'
    clear hY
    have hsem := Oper.semAt_some
    refine callsIn_of_wp Try.func63 rfl trivial ?_ rfl
    simp only [Try.ntmps63, List.size_toArray, List.length_cons, List.length_nil, Nat.reduceAdd, Nat.reduceSub, Array.replicate_succ, Array.replicate_zero, List.push_toArray, List.append_toArray, List.nil_append, List.cons_append]
    gi_wp2
    gi_loopw [9] (fun i wr => i = .int .i64 0 ∧ J [] wr) (fun _ _ => 0)
    case atStart => exact ⟨rfl, h0⟩
    case round =>
      obtain ⟨rfl, hJs⟩ := hrel
      gi_wp2
      go_end0
      exact ⟨⟨_, rfl⟩, .inl ⟨[], (show ofs L a nn L.length = [] by rw [hz]; rfl).symm, hJs⟩⟩
  · obtain ⟨-, b, o, rfl, hb, -⟩ := hq 0 (by omega)
    refine (of1_in n hn l Rb Pb n₀ b o L.length c L a nn (fun j => (q j).1) (fun j => (q j).2) rfl (fun j hj => ⟨?_, ?_⟩) hm (by omega) hRb hPb (fun pre W => ∃ ps : List (OfI L a nn), ps.map (·.val) = pre ∧ J ps W) (fun pre W => ∃ ps : List (OfI L a nn), ps.map (·.val) = pre ∧ Jx ps W) W.heap.size
      (fun s A B row hs hg hr => by obtain ⟨ps, e, hj⟩ := hs; exact ⟨ps, e, hJ ps A B row hj hg hr⟩)
      (fun pre y W1 hJ1 hpl hy hyp => by
        obtain ⟨ps, rfl, hJ1⟩ := hJ1
        refine YieldAt.mono (hY ps ⟨y, hy, hyp⟩ W1 hJ1 (by simpa using hpl)) ?_
        rintro e W2 (⟨he, h1, h2⟩ | ⟨he, h1⟩)
        · exact .inl ⟨he, ⟨ps ++ [⟨y, hy, hyp⟩], by simp, h1⟩, h2⟩
        · exact .inr ⟨he, ⟨ps ++ [⟨y, hy, hyp⟩], by simp, h1⟩⟩) W (Nat.le_trans hn₀ hW.size) hcell' hP0' hP1' (fun j hj => ?_) ⟨[], rfl, h0⟩).mono ?_
    · obtain ⟨x, y, e⟩ := (hq j hj).1.1.len
      exact ⟨x, _, y, e⟩
    · obtain ⟨x, y, e⟩ := (hq j hj).1.2.len
      exact ⟨x, _, y, e⟩
    · obtain ⟨-, b', o', e, hb', k0, k1, k2, k3, k4, k5, k6⟩ := hq j hj
      simp only [Option.some.injEq, Addr.mk.injEq] at e
      obtain ⟨rfl, rfl, -⟩ := e
      have tv : ∀ p : Addr, p.block < V.heap.size → W.cell? p = V.cell? p := fun p hp => (tr p (by omega)).trans (hVw.cell hp)
      exact ⟨(tv _ hb').trans k0, (tv _ hb').trans k1, (tv _ hb').trans k2, (tv _ hb').trans k3, (tv _ hb').trans k4, (tv _ hb').trans k5, (tv _ hb').trans k6⟩
    · rintro e W' ⟨he, ⟨ps, hps, hj⟩ | ⟨k, hk, ps, hps, hj⟩⟩
      · exact ⟨he, .inl ⟨ps, hps, hj⟩⟩
      · exact ⟨he, .inr ⟨ps, ⟨k, hk, hps⟩, hj⟩⟩
end Go.Proofs.Ytbmjicdnphfgaaa
