/-
  Copies of groups; Lookup of the program. Conditions: those in each contract.
-/
import Derived.Test.YtbcmoofpgffbhaaLA
import Derived.Laws.AppendOwnNone
namespace Go.Proofs.Ytbcmoofpgffbhaa
open Go.ChangeShapes Go.WideShapes Go.ChangeAt Go.RowKit Go.BigFrame Go.Joins Go.Shelf
set_option linter.unusedVariables false
set_option maxRecDepth 100000
set_option linter.unusedSimpArgs false
set_option maxRecDepth 100000

/-- append(s, x...): s is the call's own, x reads as m -/
theorem wp_appH {ops : Array Oper} {rest : List Oper} {o : Oper} {a : Act} {Q : Exit → Act → World → Prop} {w : World} (hgd : o.guard = none) (s x : Operand)
    (ho : o.op = .call { callee := .builtin .append, args := #[s, x], argTypes := #[68, 68] })
    (base : Nat) (v u : Value) (l m : List (Int × Int)) (hs : a.eval s = v) (hx : a.eval x = u) (hown : OwnHp w base v l) (hu : RdP w u m) (hlen : l.length + m.length ≤ 4294967296) (hbase : base ≤ w.heap.size)
    (h : ∀ v' w', OwnHp w' base v' (l ++ m) → w.grownBy w' v.ownBlock → wpList Try.prog ops Q rest (a.put o.dst v') w') : wpList Try.prog ops Q (o :: rest) a w := by
  obtain ⟨i0, hi, hz0, hz1, hz2⟩ := info_parts infoHp
  have hmap : (flat l).map (Value.int .i64) ++ (flat m).map (Value.int .i64) = (flat (l ++ m)).map (Value.int .i64) := by rw [flat_append, List.map_append]
  have hl2 : (l ++ m).length = l.length + m.length := by simp
  have done : ∀ (ad : Addr) (c : Nat), u = .slice (some ad) m.length c → (∀ j y, ((flat m).map (Value.int .i64))[j]? = some y → w.cell? (ad.add j) = some y) → wpList Try.prog ops Q (o :: rest) a w := by
    intro ad c hv hc
    refine wpList_append_own w hgd s x 68 ho base HpT i0 (.agg #[.int .i64 0, .int .i64 0]) 2 16 Try.underlying68 hi hz0 hz1 hz2 rfl (by decide) v l.length ((flat l).map (Value.int .i64)) hs hown ad m.length c ((flat m).map (Value.int .i64)) (hx.trans hv) (by simp [flat_len]) hc (by simp [Value.oneCell']) (by unfold maxLen; omega) (by omega) hbase ?_
    intro v' w' ho' hg' _
    refine h v' w' ?_ hg'
    unfold OwnHp
    rw [hl2, ← hmap]
    exact ho'
  obtain ⟨hm, ⟨p, c, hv, rfl, hac⟩ | ⟨b, off, c, hv, hp, hc⟩⟩ := hu
  · cases p with
    | none =>
      have hc0 := hac rfl
      subst hc0
      refine wpList_append_own_none hgd s x 68 ho base HpT i0 2 Try.underlying68 hi v l.length ((flat l).map (Value.int .i64)) hs hown (hx.trans hv) ?_
      exact h v w (by simpa using hown) ⟨rfl, rfl, rfl, Nat.le_refl _, fun _ _ _ => rfl⟩
    | some ad => exact done ad c hv (by simp [flat])
  · refine done ⟨b, off, none⟩ c hv (fun j y hy => ?_)
    have hj : j < m.length * 2 := by
      have := (List.getElem?_eq_some_iff.1 hy).1
      rw [List.length_map, flat_len] at this
      exact this
    have hadd : (⟨b, off, none⟩ : Addr).add j = ⟨b, off + j, none⟩ := by unfold Addr.add; split <;> simp_all
    rw [hadd]
    obtain ⟨i, hi' | hi'⟩ : ∃ i, j = i * 2 ∨ j = i * 2 + 1 := ⟨j / 2, by omega⟩
    · have e := flat_get m i (by omega)
      subst hi'
      rw [List.getElem?_map, e.1] at hy
      rw [(hc i (by omega)).1]
      simpa using hy
    · have e := flat_get m i (by omega)
      subst hi'
      rw [List.getElem?_map, e.2] at hy
      rw [show off + (i * 2 + 1) = off + i * 2 + 1 by omega, (hc i (by omega)).2]
      simpa using hy
theorem OwnHp.lenS {w : World} {base : Nat} {v : Value} {l : List (Int × Int)} (h : OwnHp w base v l) : ∃ a c, v = .slice a l.length c := by
  obtain ⟨a, c, e, -⟩ := h.cap
  exact ⟨a, c, e⟩
theorem OwnHp.nil (w : World) (base : Nat) : OwnHp w base (.slice none 0 0) [] := World.ownsRow_nil _ _ _ _
set_option maxHeartbeats 1000000 in
theorem icg_any (hv : Value) (l : List (Int × Int)) (a n : Int) (w : World) (hp : RdP w hv l) (h2 : l.length ≤ 1048576) :
    Calls Try.prog 105 #[.agg #[.int .i64 a, .int .i64 n, hv]] w (NewGrp w l a n) := by
  obtain ⟨pa, px, rfl⟩ := hp.len
  obtain ⟨bA, bR, B1, z⟩ := two w [.int .i64 a, .int .i64 n, .slice pa l.length px] [.int .i64 0, .int .i64 0, .slice none 0 0] GI GI
  have hp1 := hp.keep B1
  have a2 := bA.c 2 rfl
  obtain ⟨V, hV⟩ : ∃ V, V = (w.alloc (.cells #[.int .i64 a, .int .i64 n, .slice pa l.length px] GI)).alloc (.cells #[.int .i64 0, .int .i64 0, .slice none 0 0] GI) := ⟨_, rfl⟩
  go_enter Try.func105, Try.ntmps105
  go_wp2_with (at_builtin; refine Hid.out ?_)
  refine Lib.hid ?_
  rw [← hV] at bA bR B1 z hp1 a2 ⊢
  refine wp_appH rfl _ _ rfl V.heap.size (.slice none 0 0) (.slice pa l.length px) [] l rfl rfl (OwnHp.nil _ _) hp1 (by simp; omega) (Nat.le_refl _) ?_
  intro v1 w1 ho1 hg1
  rw [List.nil_append] at ho1
  obtain ⟨x1, y1, rfl⟩ := ho1.lenS
  replace bA := bA.grown hg1 (by simp [Value.ownBlock])
  replace bR := bR.grown hg1 (by simp [Value.ownBlock])
  have B2 : Below w.heap.size w w1 := Below.grown B1 hg1 B1.size (fun k hk => by simp [Value.ownBlock] at hk)
  obtain ⟨A, hA⟩ : ∃ A, A = w.heap.size := ⟨_, rfl⟩
  obtain ⟨R, hR⟩ : ∃ R, R = w.heap.size + 1 := ⟨_, rfl⟩
  rw [← hA] at bA
  rw [← hR] at bR
  rw [← hR]
  try rw [← hA]
  have hAR : A ≠ R := by omega
  have hwA : w.heap.size ≤ A := by omega
  have hwR : w.heap.size ≤ R := by omega
  have hAV : A < V.heap.size := by rw [z]; omega
  have hRV : R < V.heap.size := by rw [z]; omega
  have hwV : w.heap.size ≤ V.heap.size := by rw [z]; omega
  clear hA hR hV a2 hp1 hg1
  have k0 := bA.c 0 rfl
  have k1 := bA.c 1 rfl
  have k2 := bA.c 2 rfl
  have f2 := bA.f 2 rfl
  have r0 := bR.c 0 rfl
  have r1 := bR.c 1 rfl
  have r2 := bR.c 2 rfl
  have rf0 := bR.f 0 rfl
  have rf1 := bR.f 1 rfl
  have rf2 := bR.f 2 rfl
  have lA := bA.lt
  have lR := bR.lt
  go_wp2_with fail
  have bE := (((bR.far (o := 2) (u := .slice x1 l.length y1) hAR.symm).set 0 (.int .i64 a)).set 1 (.int .i64 n)).set 2 (.slice x1 l.length y1)
  have e0 := bE.c 0 rfl
  have e1 := bE.c 1 rfl
  have e2 := bE.c 2 rfl
  exact bodyPost_ret (v := .agg #[.int .i64 a, .int .i64 n, .slice x1 l.length y1]) (by simp [results, Try.results105, go_sem, e0, e1, e2]) rfl
    ⟨x1, y1, rfl, ((((ho1.far (o := 2) hAV).far (o := 0) hRV).far (o := 1) hRV).far (o := 2) hRV).mono hwV, (((B2.setCell (p := ⟨A, 2, none⟩) hwA _).setCell (p := ⟨R, 0, none⟩) hwR _).setCell (p := ⟨R, 1, none⟩) hwR _).setCell (p := ⟨R, 2, none⟩) hwR _⟩
theorem keeps_below {W W' : World} (h : Below W.heap.size W W') : KeepsOthers W W' :=
  ⟨h.size, fun k o hk _ => (h.block k (Array.getElem?_eq_some_iff.1 hk).1).trans hk⟩
/-- group j covers the address -/
def cvG (L : List Grp) (x : Int) (j : Nat) : Bool := covB (L.getD j gr0).a (L.getD j gr0).n x
/-- the last of the first k groups that covers it -/
def lastC (L : List Grp) (x : Int) : Nat → Option Nat
  | 0 => none
  | k + 1 => if cvG L x k then some k else lastC L x k
theorem lastC_none {L : List Grp} {x : Int} : ∀ k, (∀ i, i < k → cvG L x i = false) → lastC L x k = none
  | 0, _ => rfl
  | k + 1, h => by
    unfold lastC
    rw [h k (by omega)]
    exact lastC_none k fun i hi => h i (by omega)
theorem lastC_some {L : List Grp} {x : Int} {j : Nat} (hj : cvG L x j = true) : ∀ k, j < k → (∀ i, j < i → i < k → cvG L x i = false) → lastC L x k = some j
  | 0, h, _ => absurd h (by omega)
  | k + 1, h, hi => by
    unfold lastC
    by_cases e : j = k
    · subst e; rw [hj]; rfl
    · rw [hi k (by omega) (by omega)]
      exact lastC_some hj k (by omega) fun i h1 h2 => hi i h1 (by omega)
/-- what Lookup answers -/
def lookJ (L : List Grp) (x : Int) : Option Nat := if fibB L then lastC L x L.length else none
def lookG (L : List Grp) (x : Int) : Grp := match lookJ L x with | some j => L.getD j gr0 | none => gr0
def LookR (w : World) (L : List Grp) (x : Int) (e : Ending) (w' : World) : Prop :=
  ∃ pa px, e = .returned (.tuple #[.agg #[.int .i64 (lookG L x).a, .int .i64 (lookG L x).n, .slice pa (lookG L x).h.length px], .bool (lookJ L x).isSome]) ∧ OwnHp w' w.heap.size (.slice pa (lookG L x).h.length px) (lookG L x).h ∧ Below w.heap.size w w'
theorem downs_mem {n k i : Nat} (h : i ∈ downs n k) : ∃ t, t < k ∧ i = n - 1 - t := by
  simp only [downs, List.mem_map, List.mem_range] at h
  obtain ⟨t, h1, h2⟩ := h
  exact ⟨t, h1, h2.symm⟩
theorem downs_in {n k t : Nat} (h : t < k) : n - 1 - t ∈ downs n k := by
  simp only [downs, List.mem_map, List.mem_range]
  exact ⟨t, h, rfl⟩
theorem own_abides {X Y : World} {base : Nat} {v : Value} {l : List (Int × Int)} {row : Option Nat} (h : OwnHp X base v l) (hg : X.grownBy Y row) (hr : ∀ r, row = some r → ∃ o : Obj, X.heap[r]? = some o ∧ o.isCells = false) : OwnHp Y base v l := by
  refine World.ownsRow.kept h hg ?_
  rcases h.2 with ⟨rfl, _⟩ | ⟨g, cap, cur, rfl, _, hgb, _⟩
  · exact .inl rfl
  · refine .inr fun e' => ?_
    obtain ⟨o, ho, hc⟩ := hr g (by simpa [Value.ownBlock] using e'.symm)
    rw [hgb] at ho
    cases ho
    cases hc
end Go.Proofs.Ytbcmoofpgffbhaa
