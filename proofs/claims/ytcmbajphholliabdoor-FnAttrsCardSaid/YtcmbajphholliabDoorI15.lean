/-
  An int put ahead of a row of the call's own: the library's Insert at index 0. Conditions: those in each contract.
-/
import Derived.Test.YtcmbajphholliabDoorI14
import Derived.Shelf.Spec.SlicesInsert
import Derived.Shelf.Spec.SlicesInsertGrow
namespace Go.Proofs.YtcmbajphholliabDoor
open Go.ChangeShapes Go.WideShapes Go.ChangeAt Go.RowKit Go.BigFrame Go.Joins
set_option linter.unusedVariables false
set_option maxRecDepth 100000

def insertRen : Go.Shelf.Ren := ⟨fun | 21 => 53 | 27 => 75 | 28 => 76 | 35 => 102 | 39 => 115 | n => n, fun | 0 => 0 | 3 => 3 | 4 => 4 | 22 => 34 | n => n, fun | n => n⟩
theorem insertLays : Go.Proofs.Lays2.n21 Tryd.prog insertRen := {
  mixed := by kernel_rfl
  f21 := Tryd.func53.trans (congrArg some (by kernel_rfl))
  f27 := Tryd.func75.trans (congrArg some (by kernel_rfl))
  f28 := Tryd.func76.trans (congrArg some (by kernel_rfl))
  f35 := Tryd.func102.trans (congrArg some (by kernel_rfl))
  f39 := Tryd.func115.trans (congrArg some (by kernel_rfl))
  t0 := Tryd.underlying0
  a0 := Tryd.isAgg0
  z0 := Tryd.sizeOf0
  v0 := Tryd.zeroValue0
  t3 := Tryd.underlying3
  a3 := Tryd.isAgg3
  z3 := Tryd.sizeOf3
  v3 := Tryd.zeroValue3
  t4 := Tryd.underlying4
  a4 := Tryd.isAgg4
  z4 := Tryd.sizeOf4
  v4 := Tryd.zeroValue4
  t22 := Tryd.underlying34
  a22 := Tryd.isAgg34
  z22 := Tryd.sizeOf34
  v22 := Tryd.zeroValue34
  i3 := infoB_I }
def setAll : List Value → Nat → List Value → List Value
  | xs, _, [] => xs
  | xs, o, v :: r => setAll (xs.set o v) (o + 1) r
theorem setAll_app : ∀ (cs pre t : List Value), t.length = cs.length → setAll (pre ++ t) pre.length cs = pre ++ cs
  | [], pre, t, h => by
    have : t = [] := List.eq_nil_of_length_eq_zero (by simpa using h)
    subst this
    rfl
  | x :: cs, pre, [], h => by simp at h
  | x :: cs, pre, y :: t, h => by
    simp only [setAll]
    rw [List.set_append_right _ _ (Nat.le_refl _), Nat.sub_self, List.set_cons_zero, show pre ++ x :: t = (pre ++ [x]) ++ t by simp]
    have := setAll_app cs (pre ++ [x]) t (by simpa using h)
    rw [List.length_append] at this
    simpa using this
theorem row_setCells {base g n cap : Nat} : ∀ (vs : List Value) (o : Nat) (xs : List Value) (w : World), w.ownsRow base IT 1 (.slice (some ⟨g, 0, none⟩) n cap) n xs →
    (w.setCells g o vs).ownsRow base IT 1 (.slice (some ⟨g, 0, none⟩) n cap) n (setAll xs o vs)
  | [], _, _, _, h => h
  | v :: r, o, xs, w, h => row_setCells r (o + 1) (xs.set o v) _ (h.stored o v).1
theorem grown_setCells {g : Nat} : ∀ (vs : List Value) (o : Nat) (w : World), w.grownBy (w.setCells g o vs) (some g)
  | [], _, w => World.grownBy.refl w _
  | v :: r, o, w => grown_trans (grown_set w g o v) (grown_setCells r (o + 1) _)
theorem grown_drew {a w : World} {row : Option Nat} (h : a.grownBy w row) : a.grownBy w.drew row := ⟨h.os, h.tape, h.output, h.size, h.block⟩
theorem grown_any {a w : World} {row : Option Nat} (h : a.grownBy w (some a.heap.size)) : a.grownBy w row := ⟨h.os, h.tape, h.output, h.size, fun i hi _ => h.block i hi (by simp; omega)⟩
/-- one int more at the front -/
def InsP (w : World) (base : Nat) (v : Value) (l : List Int) (a : Int) (e : Ending) (w' : World) : Prop :=
  ∃ x c, e = .returned (.slice x (l.length + 1) c) ∧ OwnI w' base (.slice x (l.length + 1) c) (a :: l) ∧ w.grownBy w' v.ownBlock ∧
    ((Value.slice x (l.length + 1) c).ownBlock = v.ownBlock ∨ ∀ k, (Value.slice x (l.length + 1) c).ownBlock = some k → w.heap.size ≤ k)
theorem one_int (l : List Int) : ∀ v ∈ l.map (Value.int .i64), v.oneCell' = true := by
  intro v hv
  simp only [List.mem_map] at hv
  obtain ⟨x, _, rfl⟩ := hv
  rfl
theorem new_row (w : World) (cur : Array Value) (n cap : Nat) (base : Nat) (xs : List Value) (hb : base ≤ w.heap.size) (hc : cur.size = cap) (hn : n ≤ cap) (hm : cap ≤ maxLen) (hx : cur.toList.take n = xs) (hxl : xs.length = n) :
    (w.alloc (.cells cur IT)).ownsRow base IT 1 (.slice (some ⟨w.heap.size, 0, none⟩) n cap) n xs :=
  ⟨by omega, .inr ⟨w.heap.size, cap, cur, rfl, hb, heap_alloc_new w _, hn, hm, by omega, by simpa using hx⟩⟩
theorem zeros_list (n : Nat) : (Builtin.zeroCells (Value.int .i64 0).cells n).toList = List.replicate n (Value.int .i64 0) := by
  have := toList_madeB_I n
  simp only [madeCells] at this
  simpa [Builtin.zeroCells, Value.cells] using this
theorem size_zeros (n : Nat) : (Builtin.zeroCells (Value.int .i64 0).cells n).size = n := by rw [size_zeroCells]; simp [Value.cells]
/-- a row that has room is one longer, whatever stands there -/
theorem row_wider {w : World} {base g n cap : Nat} {xs : List Value} (h : w.ownsRow base IT 1 (.slice (some ⟨g, 0, none⟩) n cap) n xs) (hr : n + 1 ≤ cap) :
    ∃ u, w.ownsRow base IT 1 (.slice (some ⟨g, 0, none⟩) (n + 1) cap) (n + 1) (xs ++ [u]) := by
  rcases h.2 with ⟨hv, _⟩ | ⟨g', cap', cur, hv, hb, hg, hnc, hcm, hcs, htake⟩
  · cases hv
  · simp only [Value.slice.injEq, Option.some.injEq, Addr.mk.injEq, and_true, true_and] at hv
    obtain ⟨rfl, rfl⟩ := hv
    have hlen : n < cur.toList.length := by rw [Array.length_toList]; omega
    refine ⟨cur.toList[n], by rw [List.length_append, h.1]; simp, .inr ⟨g, cap, cur, rfl, hb, hg, hr, hcm, hcs, ?_⟩⟩
    rw [Nat.mul_one] at htake ⊢
    rw [List.take_succ_eq_append_getElem hlen, htake]
theorem row_there {w : World} {base g n cap : Nat} {xs : List Value} (h : w.ownsRow base IT 1 (.slice (some ⟨g, 0, none⟩) n cap) n xs) : (∀ j, j < cap → (w.cell? ⟨g, j, none⟩).isSome = true) ∧ w.shape? g = some (IT, cap) := by
  rcases h.2 with ⟨hv, _⟩ | ⟨g', cap', cur, hv, hb, hg, hnc, hcm, hcs, htake⟩
  · cases hv
  · simp only [Value.slice.injEq, Option.some.injEq, Addr.mk.injEq, and_true, true_and] at hv
    obtain ⟨rfl, rfl⟩ := hv
    refine ⟨fun j hj => ?_, by unfold World.shape?; rw [hg]; simp; omega⟩
    have hj' : j < cur.size := by omega
    simp [World.cell?, hg, hj']

set_option maxHeartbeats 400000 in
theorem insert_any (v : Value) (l : List Int) (a : Int) (base : Nat) (w : World) (h : OwnI w base v l) (hb : base ≤ w.heap.size) (hn : l.length ≤ 8) :
    Calls Tryd.prog 53 #[v, .int .i64 0, .slice (some ⟨w.heap.size, 0, none⟩) 1 1] (w.alloc (.cells #[.int .i64 a] IT)) (InsP (w.alloc (.cells #[.int .i64 a] IT)) base v l a) := by
  have hlit : ∀ j v, [Value.int .i64 a][j]? = some v → (w.alloc (.cells #[.int .i64 a] IT)).cell? ⟨w.heap.size, 0 + j, none⟩ = some v := by
    intro j v hv
    have hj : j = 0 := by
      have := (List.getElem?_eq_some_iff.1 hv).1
      simpa using this
    subst hj
    simp at hv
    subst hv
    simp
  have h1v : ∀ v ∈ [Value.int .i64 a], v.oneCell' = true := by simp [Value.oneCell']
  have hW := h.alloc (.cells #[.int .i64 a] IT)
  have hsz : (w.alloc (.cells #[.int .i64 a] IT)).heap.size = w.heap.size + 1 := by simp
  have hshp : (w.alloc (.cells #[.int .i64 a] IT)).shape? w.heap.size = some (IT, 1) := by unfold World.shape?; rw [heap_alloc_new]; rfl
  have hfz : ∀ i, (w.alloc (.cells #[.int .i64 a] IT)).frozen? ⟨w.heap.size, i, none⟩ = false := fun i => World.frozen?_alloc_at _ _ _ _ rfl
  have hlt := fun k hk => (World.ownsRow.lt h k hk).2
  generalize w.alloc (.cells #[.int .i64 a] IT) = W at *
  have hl : (l.map (Value.int .i64)).length = l.length := by simp
  have grow : ∀ (p : Option Addr) (c : Nat), v = .slice p l.length c → l.length ≤ c → c < l.length + 1 → (p = none → l.length = 0) → (∀ q, p = some q → q = ⟨q.block, 0, none⟩ ∧ ∀ j, j < l.length → W.cell? ⟨q.block, j, none⟩ = some (.int .i64 (l.getD j 0))) →
      Calls Tryd.prog 53 #[v, .int .i64 0, .slice (some ⟨w.heap.size, 0, none⟩) 1 1] W (InsP W base v l a) := by
    intro p c hv hc1 hc2 hp0 hcell
    have hge := grownCap_ge W (l.length + 1) c IT
    have hcm := grownCap_le_maxLen W (l.length + 1) c IT (by unfold maxLen; omega)
    by_cases h0 : l.length = 0
    · have hl0 : l = [] := List.eq_nil_of_length_eq_zero h0
      subst hl0
      have := Go.Proofs.Any2.slices_Insert_int_end_grow insertLays p 0 c w.heap.size 0 1 1 [] [.int .i64 a] W (by decide) (Nat.zero_le _) (by simpa using hc2) (by decide) rfl rfl (fun _ => rfl) (by simp) hlit h1v
      rw [hv]
      refine this.mono ?_
      rintro e w' ⟨rfl, rfl⟩
      refine ⟨_, _, rfl, ?_, ?_, .inr (fun k hk => by cases hk; exact Nat.le_refl _)⟩
      · exact new_row W.drew _ 1 (grownCap W 1 c IT) base [.int .i64 a] (by show base ≤ W.heap.size; omega) (by
          rw [Array.size_append, size_zeros]
          simp at hge ⊢
          have e : insertRen.t 3 = IT := rfl
          rw [e]
          omega) (by simpa using hge) (by simpa using hcm) (by simp) rfl
      · exact grown_any (grown_alloc (grown_drew (World.grownBy.refl W _)) _)
    · obtain ⟨q, hq⟩ : ∃ q, p = some q := by
        cases p with
        | none => exact absurd (hp0 rfl) h0
        | some q => exact ⟨q, rfl⟩
      obtain ⟨hq0, hqc⟩ := hcell q hq
      have := Go.Proofs.Any2.slices_Insert_int_grow insertLays q.block 0 l.length c 0 w.heap.size 0 1 1 (l.map (Value.int .i64)) [.int .i64 a] W (by omega) (by decide) hc1 hc2 (by omega) hl rfl (by
        intro j u hu
        have hj : j < l.length := by
          have := (List.getElem?_eq_some_iff.1 hu).1
          simpa using this
        rw [Nat.zero_add, hqc j hj]
        simpa [List.getD, hj] using hu) hlit (one_int l) h1v
      rw [hv, hq, hq0]
      refine this.mono ?_
      rintro e w' ⟨rfl, rfl⟩
      have hgz : l.length + 1 ≤ grownCap W (l.length + 1) c (insertRen.t 3) := hge
      refine ⟨_, _, rfl, ?_, ?_, .inr (fun k hk => by cases hk; exact Nat.le_refl _)⟩
      · have r0 := new_row W (((l.map (Value.int .i64)).take 0).toArray ++ Builtin.zeroCells (Value.int .i64 0).cells (l.length + 1 - 0) ++ Builtin.zeroCells (Value.int .i64 0).cells (grownCap W (l.length + 1) c (insertRen.t 3) - (l.length + 1))) (l.length + 1) (grownCap W (l.length + 1) c IT) base (List.replicate (l.length + 1) (Value.int .i64 0)) (by omega) (by
          rw [Array.size_append, Array.size_append, size_zeros, size_zeros]
          have e : insertRen.t 3 = IT := rfl
          rw [e]
          simp
          omega) hge hcm (by
          rw [Array.toList_append, Array.toList_append, List.append_assoc, List.take_zero, List.nil_append]
          have e : (Builtin.zeroCells (Value.int .i64 0).cells (l.length + 1 - 0)).toList = List.replicate (l.length + 1) (Value.int .i64 0) := by
            rw [Nat.sub_zero]
            exact zeros_list _
          rw [e]
          simp) (by simp)
        have r1 := row_setCells [.int .i64 a] 0 _ _ (World.ownsRow.drew r0)
        have r2 := row_setCells (l.map (Value.int .i64)) 1 _ _ (World.ownsRow.drew r1)
        have e2 : setAll (setAll (List.replicate (l.length + 1) (Value.int .i64 0)) 0 [.int .i64 a]) 1 (l.map (Value.int .i64)) = (a :: l).map (Value.int .i64) := by
          have := setAll_app (l.map (Value.int .i64)) [.int .i64 a] (List.replicate l.length (Value.int .i64 0)) (by simp)
          simpa [setAll, List.replicate_succ] using this
        rw [e2] at r2
        exact r2
      · exact grown_any (grown_trans (grown_drew (grown_trans (grown_drew (grown_alloc (World.grownBy.refl W _) _)) (grown_setCells _ _ _))) (grown_setCells _ _ _))
  rcases h.2 with ⟨rfl, hn0⟩ | ⟨g, cap, cur, rfl, hbg, hg, hnc, hcm, hcs, htake⟩
  · exact grow none 0 (by rw [hn0]) (by omega) (by omega) (fun _ => hn0) (fun q hq => by cases hq)
  · by_cases hroom : l.length + 1 ≤ cap
    · have hgw : g < w.heap.size := hlt g rfl
      obtain ⟨u, hwid⟩ := row_wider hW hroom
      obtain ⟨hthere, hshape⟩ := row_there hW
      have hfr := hW.frozenAt
      by_cases h0 : l.length = 0
      · have hl0 : l = [] := List.eq_nil_of_length_eq_zero h0
        subst hl0
        have := Go.Proofs.Any2.slices_Insert_int_end_room insertLays g 0 0 cap w.heap.size 0 1 1 [.int .i64 a] W (by decide) (by simpa using hroom) (by unfold maxLen at hcm; omega) rfl (fun j hj => by
          have := hthere j (by simp at hroom; omega)
          simpa using this) (fun j hj => by simpa using hfr j) hlit h1v
        refine this.mono ?_
        rintro e w' ⟨rfl, rfl⟩
        exact ⟨_, _, rfl, row_setCells [.int .i64 a] 0 _ _ hwid, grown_setCells _ _ _, .inl rfl⟩
      · have := Go.Proofs.Any2.slices_Insert_int_shift insertLays g 0 l.length cap 0 w.heap.size 0 1 1 (l.map (Value.int .i64)) [.int .i64 a] W (by omega) (by decide) hroom (by unfold maxLen at hcm; omega) (by omega) hl rfl (by
          intro j u hu
          have hj : j < l.length := by
            have := (List.getElem?_eq_some_iff.1 hu).1
            simpa using this
          rw [Nat.zero_add, hW.cellAt j (by omega)]
          exact hu) (fun j hj => by rw [Nat.zero_add]; exact hthere j (by omega)) (fun j hj => by rw [Nat.zero_add]; exact hfr j) hlit (one_int l) h1v IT IT 1 cap hshp hshape (by omega) (hfz 0) (hfz 1)
        refine this.mono ?_
        rintro e w' ⟨rfl, rfl⟩
        refine ⟨_, _, rfl, ?_, grown_trans (grown_trans (grown_drew (World.grownBy.refl W _)) (grown_setCells _ _ _)) (grown_setCells _ _ _), .inl rfl⟩
        have r1 := row_setCells (l.map (Value.int .i64)) 1 _ _ (show W.drew.ownsRow base IT 1 _ _ _ from hwid)
        have r2 := row_setCells [.int .i64 a] 0 _ _ r1
        have e2 : setAll (setAll (l.map (Value.int .i64) ++ [u]) 1 (l.map (Value.int .i64))) 0 [.int .i64 a] = (a :: l).map (Value.int .i64) := by
          cases l with
          | nil => exact absurd rfl h0
          | cons x t =>
            have := setAll_app ((x :: t).map (Value.int .i64)) [.int .i64 x] (t.map (Value.int .i64) ++ [u]) (by simp)
            simp only [List.map_cons, List.cons_append, List.length_singleton, List.nil_append] at this ⊢
            rw [this]
            rfl
        rw [e2] at r2
        exact r2
    · exact grow (some ⟨g, 0, none⟩) cap rfl hnc (by omega) (fun h => by cases h) (fun q hq => by
        cases hq
        refine ⟨rfl, fun j hj => ?_⟩
        rw [hW.cellAt j (by omega)]
        simp [List.getD, hj])
end Go.Proofs.YtcmbajphholliabDoor
