/-
  Copies of groups; Lookup of the program. Conditions: those in each contract.
-/
import Derived.Test.YtgelmpojbaiddaaLA
import Derived.Laws.AppendOwnNone
namespace Go.Proofs.Ytgelmpojbaiddaa
open Go.ChangeShapes Go.WideShapes Go.ChangeAt Go.RowKit Go.BigFrame Go.Joins Go.Shelf
set_option linter.unusedVariables false
set_option maxRecDepth 100000
set_option linter.unusedSimpArgs false
set_option maxRecDepth 100000

/-- append(s, x...): s is the call's own, x reads as m -/
theorem wp_appH {ops : Array Oper} {rest : List Oper} {o : Oper} {a : Act} {Q : Exit → Act → World → Prop} {w : World} (hgd : o.guard = none) (s x : Operand)
    (ho : o.op = .call { callee := .builtin .append, args := #[s, x], argTypes := #[30, 30] })
    (base : Nat) (v u : Value) (l m : List (Int × Int)) (hs : a.eval s = v) (hx : a.eval x = u) (hown : OwnHp w base v l) (hu : RdP w u m) (hlen : l.length + m.length ≤ 4294967296) (hbase : base ≤ w.heap.size)
    (h : ∀ v' w', OwnHp w' base v' (l ++ m) → w.grownBy w' v.ownBlock → wpList Try.prog ops Q rest (a.put o.dst v') w') : wpList Try.prog ops Q (o :: rest) a w := by
  obtain ⟨i0, hi, hz0, hz1, hz2⟩ := info_parts infoHp
  have hmap : (flat l).map (Value.int .i64) ++ (flat m).map (Value.int .i64) = (flat (l ++ m)).map (Value.int .i64) := by rw [flat_append, List.map_append]
  have hl2 : (l ++ m).length = l.length + m.length := by simp
  have done : ∀ (ad : Addr) (c : Nat), u = .slice (some ad) m.length c → (∀ j y, ((flat m).map (Value.int .i64))[j]? = some y → w.cell? (ad.add j) = some y) → wpList Try.prog ops Q (o :: rest) a w := by
    intro ad c hv hc
    refine wpList_append_own w hgd s x 30 ho base HpT i0 (.agg #[.int .i64 0, .int .i64 0]) 2 16 Try.underlying30 hi hz0 hz1 hz2 rfl (by decide) v l.length ((flat l).map (Value.int .i64)) hs hown ad m.length c ((flat m).map (Value.int .i64)) (hx.trans hv) (by simp [flat_len]) hc (by simp [Value.oneCell']) (by unfold maxLen; omega) (by omega) hbase ?_
    intro v' w' ho' hg' _
    refine h v' w' ?_ hg'
    unfold OwnHp
    rw [hl2, ← hmap]
    exact ho'
  obtain ⟨hm, ⟨p, c, hv, rfl, hac⟩ | ⟨b, off, c, hv, hp, hc⟩⟩ := hu
  · cases p with
    | none =>
      have hc0 := hac rfl
      subst hc0
      refine wpList_append_own_none hgd s x 30 ho base HpT i0 2 Try.underlying30 hi v l.length ((flat l).map (Value.int .i64)) hs hown (hx.trans hv) ?_
      exact h v w (by simpa using hown) ⟨rfl, rfl, rfl, Nat.le_refl _, fun _ _ _ => rfl⟩
    | some ad => exact done ad c hv (by simp [flat])
  · refine done ⟨b, off, none⟩ c hv (fun j y hy => ?_)
    have hj : j < m.length * 2 := by
      have := (List.getElem?_eq_some_iff.1 hy).1
      rw [List.length_map, flat_len] at this
      exact this
    have hadd : (⟨b, off, none⟩ : Addr).add j = ⟨b, off + j, none⟩ := by unfold Addr.add; split <;> simp_all
    rw [hadd]
    obtain ⟨i, hi' | hi'⟩ : ∃ i, j = i * 2 ∨ j = i * 2 + 1 := ⟨j / 2, by omega⟩
    · have e := flat_get m i (by omega)
      subst hi'
      rw [List.getElem?_map, e.1] at hy
      rw [(hc i (by omega)).1]
      simpa using hy
    · have e := flat_get m i (by omega)
      subst hi'
      rw [List.getElem?_map, e.2] at hy
      rw [show off + (i * 2 + 1) = off + i * 2 + 1 by omega, (hc i (by omega)).2]
      simpa using hy
theorem OwnHp.lenS {w : World} {base : Nat} {v : Value} {l : List (Int × Int)} (h : OwnHp w base v l) : ∃ a c, v = .slice a l.length c := by
  obtain ⟨a, c, e, -⟩ := h.cap
  exact ⟨a, c, e⟩
theorem OwnHp.nil (w : World) (base : Nat) : OwnHp w base (.slice none 0 0) [] := World.ownsRow_nil _ _ _ _
set_option maxHeartbeats 1000000 in
theorem icg_any (hv : Value) (l : List (Int × Int)) (a n : Int) (w : World) (hp : RdP w hv l) (h2 : l.length ≤ 1048576) :
    Calls Try.prog 72 #[.agg #[.int .i64 a, .int .i64 n, hv]] w (NewGrp w l a n) := by
  obtain ⟨pa, px, rfl⟩ := hp.len
  obtain ⟨bA, bR, B1, z⟩ := two w [.int .i64 a, .int .i64 n, .slice pa l.length px] [.int .i64 0, .int .i64 0, .slice none 0 0] GI GI
  have hp1 := hp.keep B1
  have a2 := bA.c 2 rfl
  obtain ⟨V, hV⟩ : ∃ V, V = (w.alloc (.cells #[.int .i64 a, .int .i64 n, .slice pa l.length px] GI)).alloc (.cells #[.int .i64 0, .int .i64 0, .slice none 0 0] GI) := ⟨_, rfl⟩
  go_enter Try.func72, Try.ntmps72
  go_wp2_with (at_builtin; refine Hid.out ?_)
  refine Lib.hid ?_
  rw [← hV] at bA bR B1 z hp1 a2 ⊢
  refine wp_appH rfl _ _ rfl V.heap.size (.slice none 0 0) (.slice pa l.length px) [] l rfl rfl (OwnHp.nil _ _) hp1 (by simp; omega) (Nat.le_refl _) ?_
  intro v1 w1 ho1 hg1
  rw [List.nil_append] at ho1
  obtain ⟨x1, y1, rfl⟩ := ho1.lenS
  replace bA := bA.grown hg1 (by simp [Value.ownBlock])
  replace bR := bR.grown hg1 (by simp [Value.ownBlock])
  have B2 : Below w.heap.size w w1 := Below.grown B1 hg1 B1.size (fun k hk => by simp [Value.ownBlock] at hk)
  obtain ⟨A, hA⟩ : ∃ A, A = w.heap.size := ⟨_, rfl⟩
  obtain ⟨R, hR⟩ : ∃ R, R = w.heap.size + 1 := ⟨_, rfl⟩
  rw [← hA] at bA
  rw [← hR] at bR
  rw [← hR]
  try rw [← hA]
  have hAR : A ≠ R := by omega
  have hwA : w.heap.size ≤ A := by omega
  have hwR : w.heap.size ≤ R := by omega
  have hAV : A < V.heap.size := by rw [z]; omega
  have hRV : R < V.heap.size := by rw [z]; omega
  have hwV : w.heap.size ≤ V.heap.size := by rw [z]; omega
  clear hA hR hV a2 hp1 hg1
  have k0 := bA.c 0 rfl
  have k1 := bA.c 1 rfl
  have k2 := bA.c 2 rfl
  have f2 := bA.f 2 rfl
  have r0 := bR.c 0 rfl
  have r1 := bR.c 1 rfl
  have r2 := bR.c 2 rfl
  have rf0 := bR.f 0 rfl
  have rf1 := bR.f 1 rfl
  have rf2 := bR.f 2 rfl
  have lA := bA.lt
  have lR := bR.lt
  go_wp2_with fail
  have bE := (((bR.far (o := 2) (u := .slice x1 l.length y1) hAR.symm).set 0 (.int .i64 a)).set 1 (.int .i64 n)).set 2 (.slice x1 l.length y1)
  have e0 := bE.c 0 rfl
  have e1 := bE.c 1 rfl
  have e2 := bE.c 2 rfl
  exact bodyPost_ret (v := .agg #[.int .i64 a, .int .i64 n, .slice x1 l.length y1]) (by simp [results, Try.results72, go_sem, e0, e1, e2]) rfl
    ⟨x1, y1, rfl, ((((ho1.far (o := 2) hAV).far (o := 0) hRV).far (o := 1) hRV).far (o := 2) hRV).mono hwV, (((B2.setCell (p := ⟨A, 2, none⟩) hwA _).setCell (p := ⟨R, 0, none⟩) hwR _).setCell (p := ⟨R, 1, none⟩) hwR _).setCell (p := ⟨R, 2, none⟩) hwR _⟩
theorem iback_any (sv : Value) (w : World) (x : Option Addr) (n c : Nat) (hv : sv = .slice x n c) :
    Calls Try.prog 70 #[sv] w fun e w' => e = .returned (.func (.func 99) #[] #[.pointer (some ⟨w.heap.size, 0, none⟩)]) ∧ w' = w.alloc (.cells #[sv] 41) := by
  subst hv
  go_enter Try.func70, Try.ntmps70
  go_wp2
  go_ret
  exact ⟨rfl, rfl⟩
theorem keeps_below {W W' : World} (h : Below W.heap.size W W') : KeepsOthers W W' :=
  ⟨h.size, fun k o hk _ => (h.block k (Array.getElem?_eq_some_iff.1 hk).1).trans hk⟩
/-- group j covers the address -/
def cvG (L : List Grp) (x : Int) (j : Nat) : Bool := covB (L.getD j gr0).a (L.getD j gr0).n x
/-- the last of the first k groups that covers it -/
def lastC (L : List Grp) (x : Int) : Nat → Option Nat
  | 0 => none
  | k + 1 => if cvG L x k then some k else lastC L x k
theorem lastC_none {L : List Grp} {x : Int} : ∀ k, (∀ i, i < k → cvG L x i = false) → lastC L x k = none
  | 0, _ => rfl
  | k + 1, h => by
    unfold lastC
    rw [h k (by omega)]
    exact lastC_none k fun i hi => h i (by omega)
theorem lastC_some {L : List Grp} {x : Int} {j : Nat} (hj : cvG L x j = true) : ∀ k, j < k → (∀ i, j < i → i < k → cvG L x i = false) → lastC L x k = some j
  | 0, h, _ => absurd h (by omega)
  | k + 1, h, hi => by
    unfold lastC
    by_cases e : j = k
    · subst e; rw [hj]; rfl
    · rw [hi k (by omega) (by omega)]
      exact lastC_some hj k (by omega) fun i h1 h2 => hi i h1 (by omega)
/-- what Lookup answers -/
def lookJ (L : List Grp) (x : Int) : Option Nat := if fibB L then lastC L x L.length else none
def lookG (L : List Grp) (x : Int) : Grp := match lookJ L x with | some j => L.getD j gr0 | none => gr0
def LookR (w : World) (L : List Grp) (x : Int) (e : Ending) (w' : World) : Prop :=
  ∃ pa px, e = .returned (.tuple #[.agg #[.int .i64 (lookG L x).a, .int .i64 (lookG L x).n, .slice pa (lookG L x).h.length px], .bool (lookJ L x).isSome]) ∧ OwnHp w' w.heap.size (.slice pa (lookG L x).h.length px) (lookG L x).h ∧ Below w.heap.size w w'
theorem downs_mem {n k i : Nat} (h : i ∈ downs n k) : ∃ t, t < k ∧ i = n - 1 - t := by
  simp only [downs, List.mem_map, List.mem_range] at h
  obtain ⟨t, h1, h2⟩ := h
  exact ⟨t, h1, h2.symm⟩
theorem downs_in {n k t : Nat} (h : t < k) : n - 1 - t ∈ downs n k := by
  simp only [downs, List.mem_map, List.mem_range]
  exact ⟨t, h, rfl⟩
theorem icovG_t {a n x : Int} {v : Bool} (w : World) (h : Hid (covB a n x = v)) : Calls Try.prog 71 #[.agg #[.int .i64 a, .int .i64 n], .int .i64 x] w fun e w' => e = .returned (.bool v) ∧ Below w.heap.size w w' := h.out ▸ icov_any a n x w
theorem own_abides {X Y : World} {base : Nat} {v : Value} {l : List (Int × Int)} {row : Option Nat} (h : OwnHp X base v l) (hg : X.grownBy Y row) (hr : ∀ r, row = some r → ∃ o : Obj, X.heap[r]? = some o ∧ o.isCells = false) : OwnHp Y base v l := by
  refine World.ownsRow.kept h hg ?_
  rcases h.2 with ⟨rfl, _⟩ | ⟨g, cap, cur, rfl, _, hgb, _⟩
  · exact .inl rfl
  · refine .inr fun e' => ?_
    obtain ⟨o, ho, hc⟩ := hr g (by simpa [Value.ownBlock] using e'.symm)
    rw [hgb] at ho
    cases ho
    cases hc
set_option maxHeartbeats 4000000 in
theorem ilook_any (v : Value) (L : List Grp) (x : Int) (w : World) (h : RdG w v L) (hln : ∀ j, j < L.length → (L.getD j gr0).h.length ≤ 1048576) :
    Calls Try.prog 29 #[.agg #[v], .int .i64 x] w (LookR w L x) := by
  obtain ⟨p, c, rfl⟩ := h.len
  obtain ⟨bF, bX, bG, B1, z⟩ := three w [.slice p L.length c] [.int .i64 x] [.int .i64 0, .int .i64 0, .slice none 0 0] 43 3 GI
  obtain ⟨bB, B2, z2⟩ := one (((w.alloc (.cells #[.slice p L.length c] 43)).alloc (.cells #[.int .i64 x] 3)).alloc (.cells #[.int .i64 0, .int .i64 0, .slice none 0 0] GI)) [.bool false] 4
  replace bF := bF.keep B2
  replace bX := bX.keep B2
  replace bG := bG.keep B2
  replace B1 := below_step B1 B2
  rw [z] at bB z2
  clear B2 z
  have hR := h.keep B1
  have hsem := Oper.semAt_some
  obtain ⟨V, hV⟩ : ∃ V, V = ((((w.alloc (.cells #[.slice p L.length c] 43)).alloc (.cells #[.int .i64 x] 3)).alloc (.cells #[.int .i64 0, .int .i64 0, .slice none 0 0] GI)).alloc (.cells #[.bool false] 4)) := ⟨_, rfl⟩
  rw [← hV] at bF bX bG bB B1 z2 hR
  obtain ⟨g, hF⟩ : ∃ g, fibB L = g := ⟨_, rfl⟩
  have HF := Lib.hid hF
  refine (callsIn_wide (n := 6)).1 ?_
  refine callsIn_of_wp_marks Try.func29 rfl trivial ?_ rfl
  simp only [Try.ntmps29, List.size_toArray, List.length_cons, List.length_nil, Nat.reduceAdd, Nat.reduceSub, Array.replicate_succ, Array.replicate_zero, List.push_toArray, List.append_toArray, List.nil_append, List.cons_append]
  gi_wp2_with fail
  rw [← hV]
  obtain ⟨A, hA⟩ : ∃ A, A = w.heap.size := ⟨_, rfl⟩
  rw [← hA] at bF bX bG bB z2
  rw [← hA]
  have hwA : w.heap.size ≤ A := Nat.le_of_eq hA.symm
  clear hV hA
  have hAV : A + 4 = V.heap.size := z2.symm
  clear z2
  refine ⟨trivial, (callsIn_wide.2 (ifib_t _ hR HF)).mono ?_⟩
  rintro e w1 ⟨rfl, hb⟩
  replace bF := bF.keep hb
  replace bX := bX.keep hb
  replace bG := bG.keep hb
  replace bB := bB.keep hb
  replace B1 := below_step B1 hb
  have hA1 : A + 4 ≤ w1.heap.size := by have := hb.size; omega
  clear hb hR hAV
  have gg0 := bG.c 0 rfl
  have gg1 := bG.c 1 rfl
  have gg2 := bG.c 2 rfl
  have gf0 := bG.f 0 rfl
  have gf1 := bG.f 1 rfl
  have gf2 := bG.f 2 rfl
  have bb0 := bB.c 0 rfl
  have bf0 := bB.f 0 rfl
  have ff0 := bF.c 0 rfl
  cases g
  · have HG : Hid (lookJ L x = none) := Lib.hid (by unfold lookJ; rw [hF]; rfl)
    clear hF
    gi_wp2_with fail
    have bE := (((bG.set 0 (.int .i64 0)).set 1 (.int .i64 0)).set 2 (.slice none 0 0)).far (C := A + 3) (o := 0) (u := .bool false) (by omega)
    have bH := (((bB.far (C := A + 1 + 1) (o := 0) (u := .int .i64 0) (by omega)).far (C := A + 1 + 1) (o := 1) (u := .int .i64 0) (by omega)).far (C := A + 1 + 1) (o := 2) (u := .slice none 0 0) (by omega)).set 0 (.bool false)
    have e0 := bE.c 0 rfl
    have e1 := bE.c 1 rfl
    have e2 := bE.c 2 rfl
    have e3 := bH.c 0 rfl
    have hlg : lookG L x = gr0 := by unfold lookG; rw [HG.out]
    refine ⟨.tuple #[.agg #[.int .i64 0, .int .i64 0, .slice none 0 0], .bool false], ?_, none, 0, by rw [hlg, HG.out]; rfl, by rw [hlg]; exact OwnHp.nil _ _, ?_⟩
    · simp [results, Try.f29, go_sem, e0, e1, e2, e3]
    · exact (((B1.setCell (p := ⟨A + 1 + 1, 0, none⟩) (by show _ ≤ A + 1 + 1; omega) _).setCell (p := ⟨A + 1 + 1, 1, none⟩) (by show _ ≤ A + 1 + 1; omega) _).setCell (p := ⟨A + 1 + 1, 2, none⟩) (by show _ ≤ A + 1 + 1; omega) _).setCell (p := ⟨A + 3, 0, none⟩) (by show _ ≤ A + 3; omega) _
  · have HG : Hid (lookJ L x = lastC L x L.length) := Lib.hid (by unfold lookJ; rw [hF]; rfl)
    clear hF
    gi_wp2_with fail
    clear gg0 gg1 gg2 gf0 gf1 gf2 bb0 bf0 ff0
    refine ⟨trivial, (callsIn_wide.2 (iback_any _ _ p L.length c rfl)).mono ?_⟩
    rintro e W0 ⟨rfl, hW0⟩
    have B3 : Below w1.heap.size w1 W0 := by rw [hW0]; exact (Below.refl _ _).alloc (Nat.le_refl _) _
    have hs0 : W0.heap.size = w1.heap.size + 1 := by rw [hW0]; simp
    have hcb : W0.cell? ⟨w1.heap.size, 0, none⟩ = some (.slice p L.length c) := by rw [hW0]; simp
    have B0 := below_step B1 B3
    replace bX := bX.keep B3
    replace bG := bG.keep B3
    replace bB := bB.keep B3
    clear hW0 B3 bF
    obtain ⟨gv, hv, hgv, hst⟩ := back_stops 5 (by decide) w1.heap.size W0.heap.size (.slice p L.length c) L W0 (by omega) (Nat.le_refl _) hcb w B0.size B0 h
    have HGV := Lib.hid hgv
    clear hgv hcb
    gi_wp2
    refine wpIn_rangeFunc_ownH (n := 6) rfl (by decide) (gf := 99) (lb := #[.pointer (some ⟨w1.heap.size, 0, none⟩)]) rfl trivial (enters_of Try.func99 (by kernel_rfl) rfl)
      hst belowK_t (belowK_b (Nat.le_refl _)) (Below.refl _ _) (fun _ => by rfl)
      (fun pre W => (∀ i ∈ pre, cvG L x i.val = false) ∧ Below W0.heap.size W0 W)
      (fun cd pre W => (cd = .ret ∧ ∃ (ps : List (Fin L.length)) (q : Fin L.length), pre = ps ++ [q] ∧ cvG L x q.val = true ∧ ∀ i ∈ ps, cvG L x i.val = false) ∧
        (∃ q ∈ pre.getLast?, ∃ pa px, OwnHp W W0.heap.size (.slice pa (L.getD q.val gr0).h.length px) (L.getD q.val gr0).h ∧ W.cell? ⟨A + 1 + 1, 0, none⟩ = some (.int .i64 (L.getD q.val gr0).a) ∧ W.cell? ⟨A + 1 + 1, 1, none⟩ = some (.int .i64 (L.getD q.val gr0).n) ∧ W.cell? ⟨A + 1 + 1, 2, none⟩ = some (.slice pa (L.getD q.val gr0).h.length px) ∧ W.cell? ⟨A + 3, 0, none⟩ = some (.bool true)) ∧ Below w.heap.size w W)
      (OwnFrom.and (ownFrom_pure _ _) (ownFrom_below (Nat.le_refl _) (Nat.le_refl _)))
      (fun cd => OwnFrom.and (ownFrom_pure _ _) (OwnFrom.and (fun pre X Y row hs hg hr => by
        obtain ⟨q, hq, pa, px, h1, h2, h3, h4, h5⟩ := hs
        have hr2 : ∀ r, row = some r → ∃ o : Obj, X.heap[r]? = some o ∧ o.isCells = false := fun r e => (hr r e).2
        exact ⟨q, hq, pa, px, own_abides h1 hg hr2, cell_kept h2 hg hr2, cell_kept h3 hg hr2, cell_kept h4 hg hr2, cell_kept h5 hg hr2⟩) (ownFrom_below (Nat.le_refl _) B0.size)))
      ⟨by simp, Below.refl _ _⟩
      (fun q a' W => ∃ Bx E hq, L.getD q.val gr0 = E ∧ hv q.val = hq ∧ W0.heap.size ≤ Bx ∧ (W.cell? ⟨Bx, 0, none⟩ = some (.int .i64 E.a) ∧ W.cell? ⟨Bx, 1, none⟩ = some (.int .i64 E.n) ∧ W.cell? ⟨Bx, 2, none⟩ = some hq) ∧ a' = { tmps := #[.agg #[.slice p L.length c], .int .i64 x, .pointer (some ⟨A, 0, none⟩), .pointer (some ⟨A + 1, 0, none⟩), .pointer (some ⟨A + 1 + 1, 0, none⟩), .pointer (some ⟨A + 3, 0, none⟩), undef, .pointer (some ⟨Bx, 0, none⟩), .agg #[.slice p L.length c], .bool true, .bool false, undef, .pointer (some ⟨A, 0, none⟩), .slice p L.length c, .func (.func 99) #[] #[.pointer (some ⟨w1.heap.size, 0, none⟩)], .int .i64 ((q.val : Nat) : Int), .agg #[.int .i64 E.a, .int .i64 E.n, hq], undef, undef, undef, undef, undef, undef, undef], defers := [] })
      (fun q a' _ X Y row hs hg hr => by
        obtain ⟨Bx, E, hq, g1, g2, h0, ⟨h1, h2, h3⟩, h4⟩ := hs
        have hr2 : ∀ r, row = some r → ∃ o : Obj, X.heap[r]? = some o ∧ o.isCells = false := fun r e => (hr r e).2
        exact ⟨Bx, E, hq, g1, g2, h0, ⟨cell_kept h1 hg hr2, cell_kept h2 hg hr2, cell_kept h3 hg hr2⟩, h4⟩) ?assign ?body ?done ?stop
    case assign =>
      intro l pre q W K hI hK
      obtain ⟨hq1, hq2⟩ := HGV.out q.val q.isLt
      obtain ⟨E, hE⟩ : ∃ E, L.getD q.val gr0 = E := ⟨_, rfl⟩
      rw [hE] at hq1 hq2
      obtain ⟨ha, hc, hhv⟩ := hq2.len
      rw [hhv] at hq1
      have HE := Lib.hid hE
      have HH := Lib.hid hhv
      clear hE hhv hq2
      simp only [hq1]
      clear hq1
      gi_wp2
      exact hK _ _ ((KeepsOthers.alloc _ _).from _) ((Below.refl _ W).alloc hI.2.size _) ⟨hI.1, hI.2.alloc hI.2.size _⟩ ⟨W.heap.size, E, .slice ha E.h.length hc, HE.out, HH.out, hI.2.size, ⟨by simp, by simp, by simp⟩, rfl⟩
    case body =>
      rintro l pre q a' W hl ⟨r, hr⟩ ⟨hpre, hBW⟩ ⟨Bx, E, hq, hE, hh, hBx, ⟨k0, k1, k2⟩, rfl⟩ hlt
      have hq2 := (HGV.out q.val q.isLt).2
      rw [hE, hh] at hq2
      replace hq2 := hq2.keep (below_step B0 hBW)
      have hEl := hln q.val q.isLt
      rw [hE] at hEl
      obtain ⟨t, ht⟩ : ∃ t, covB E.a E.n x = t := ⟨_, rfl⟩
      have HC : Hid (cvG L x q.val = t) := Lib.hid (by unfold cvG; rw [hE, ht])
      have HT := Lib.hid ht
      have HE := Lib.hid hE
      have HPRE := Lib.hid hpre
      obtain ⟨ha, hc, rfl⟩ := hq2.len
      replace bX := bX.keep hBW
      replace bG := bG.keep hBW
      replace bB := bB.keep hBW
      have x0 := bX.c 0 rfl
      clear ht hE hh hpre hr
      gi_wp2_with fail
      refine ⟨trivial, (CallsIn.inRound l (callsIn_wide.2 (icovG_t _ HT))).mono ?_⟩
      rintro e w2 ⟨rfl, hb2⟩
      replace k0 := cell_keep hb2 (World.block_lt_of_cell? _ _ k0) k0
      replace k1 := cell_keep hb2 (World.block_lt_of_cell? _ _ k1) k1
      replace k2 := cell_keep hb2 (World.block_lt_of_cell? _ _ k2) k2
      replace hq2 := hq2.keep hb2
      replace bG := bG.keep hb2
      replace bB := bB.keep hb2
      clear x0
      cases t
      · gi_wp2
        exact ⟨(keeps_below hb2).from _, hb2.mono hBW.size, fun i hi => by
          rcases List.mem_append.1 hi with q1 | q1
          · exact HPRE.out i q1
          · rw [List.mem_singleton.1 q1]; exact HC.out, below_step hBW hb2⟩
      · gi_wp2_with fail
        refine ⟨trivial, (CallsIn.inRound l (callsIn_wide.2 (icg_any _ E.h _ _ _ hq2 hEl))).mono ?_⟩
        rintro e w3 ⟨pa, px, rfl, hrow, hb3⟩
        replace bG := bG.keep hb3
        replace bB := bB.keep hb3
        have hW2 : W0.heap.size ≤ w2.heap.size := (below_step hBW hb2).size
        replace hrow := hrow.mono hW2
        have hB3 := below_step (below_step (below_step B0 hBW) hb2) hb3
        have hKO := (keeps_below hb2).trans (keeps_below hb3)
        clear k0 k1 k2 hq2
        have gg0 := bG.c 0 rfl
        have gg1 := bG.c 1 rfl
        have gg2 := bG.c 2 rfl
        have gf0 := bG.f 0 rfl
        have gf1 := bG.f 1 rfl
        have gf2 := bG.f 2 rfl
        have bb0 := bB.c 0 rfl
        have bf0 := bB.f 0 rfl
        gi_wp2
        have bE := (((bG.set 0 (.int .i64 E.a)).set 1 (.int .i64 E.n)).set 2 (.slice pa E.h.length px)).far (C := A + 3) (o := 0) (u := .bool true) (by omega)
        have bH := (((bB.far (C := A + 1 + 1) (o := 0) (u := .int .i64 E.a) (by omega)).far (C := A + 1 + 1) (o := 1) (u := .int .i64 E.n) (by omega)).far (C := A + 1 + 1) (o := 2) (u := .slice pa E.h.length px) (by omega)).set 0 (.bool true)
        refine ⟨((((hKO.trans (KeepsOthers.setCell _ ⟨A + 1 + 1, 0, none⟩ _)).trans (KeepsOthers.setCell _ ⟨A + 1 + 1, 1, none⟩ _)).trans (KeepsOthers.setCell _ ⟨A + 1 + 1, 2, none⟩ _)).trans (KeepsOthers.setCell _ ⟨A + 3, 0, none⟩ _)).from _, ⟨rfl, pre, q, rfl, HC.out, HPRE.out⟩, ⟨q, by simp, pa, px, ?_⟩, ?_⟩
        · rw [HE.out]
          exact ⟨(((hrow.far (o := 0) (by omega)).far (o := 1) (by omega)).far (o := 2) (by omega)).far (o := 0) (by omega), bE.c 0 rfl, bE.c 1 rfl, bE.c 2 rfl, bH.c 0 rfl⟩
        · exact (((hB3.setCell (p := ⟨A + 1 + 1, 0, none⟩) (by show _ ≤ A + 1 + 1; omega) _).setCell (p := ⟨A + 1 + 1, 1, none⟩) (by show _ ≤ A + 1 + 1; omega) _).setCell (p := ⟨A + 1 + 1, 2, none⟩) (by show _ ≤ A + 1 + 1; omega) _).setCell (p := ⟨A + 3, 0, none⟩) (by show _ ≤ A + 3; omega) _
    case done =>
      rintro D ys W hD hS ⟨hI, hBW⟩ hK
      have hno : lookJ L x = none := by
        rw [HG.out]
        refine lastC_none _ fun i hi => ?_
        have h1 : i ∈ ys.map (·.val) := by
          rw [hS, show i = L.length - 1 - (L.length - 1 - i) by omega]
          exact downs_in (by omega)
        obtain ⟨q, hq, rfl⟩ := List.mem_map.1 h1
        exact hI q hq
      have HNO := Lib.hid hno
      have hwD : w.heap.size ≤ D := Nat.le_trans B0.size hD
      have hBw := below_step B0 hBW
      replace bG := bG.keep hBW
      replace bB := bB.keep hBW
      clear hno hS hI
      have gg0 := bG.c 0 rfl
      have gg1 := bG.c 1 rfl
      have gg2 := bG.c 2 rfl
      have gf0 := bG.f 0 rfl
      have gf1 := bG.f 1 rfl
      have gf2 := bG.f 2 rfl
      have bb0 := bB.c 0 rfl
      have bf0 := bB.f 0 rfl
      gi_wp2
      have bE := (((bG.set 0 (.int .i64 0)).set 1 (.int .i64 0)).set 2 (.slice none 0 0)).far (C := A + 3) (o := 0) (u := .bool false) (by omega)
      have bH := (((bB.far (C := A + 1 + 1) (o := 0) (u := .int .i64 0) (by omega)).far (C := A + 1 + 1) (o := 1) (u := .int .i64 0) (by omega)).far (C := A + 1 + 1) (o := 2) (u := .slice none 0 0) (by omega)).set 0 (.bool false)
      have hKO := ((((KeepsOthers.setCell W ⟨A + 1 + 1, 0, none⟩ (.int .i64 0)).trans (KeepsOthers.setCell _ ⟨A + 1 + 1, 1, none⟩ (.int .i64 0))).trans (KeepsOthers.setCell _ ⟨A + 1 + 1, 2, none⟩ (.slice none 0 0))).trans (KeepsOthers.setCell _ ⟨A + 3, 0, none⟩ (.bool false)))
      have hK' := hKO.same D _ hK rfl
      have hBf := (((hBw.setCell (p := ⟨A + 1 + 1, 0, none⟩) (by show _ ≤ A + 1 + 1; omega) (.int .i64 0)).setCell (p := ⟨A + 1 + 1, 1, none⟩) (by show _ ≤ A + 1 + 1; omega) (.int .i64 0)).setCell (p := ⟨A + 1 + 1, 2, none⟩) (by show _ ≤ A + 1 + 1; omega) (.slice none 0 0)).setCell (p := ⟨A + 3, 0, none⟩) (by show _ ≤ A + 3; omega) (.bool false)
      refine ⟨by simp, .inl ⟨_, _, rfl, run_takeDeferred hK', ?_⟩⟩
      have tr := fun {a : Addr} {u : Value} (h : _ = some u) => cell_kept (a := a) (v := u) h (grownBy_putObj' _ D (.deferred none)) (fun r e => by cases e; exact ⟨_, hK', rfl⟩)
      have e0 := tr (bE.c 0 rfl)
      have e1 := tr (bE.c 1 rfl)
      have e2 := tr (bE.c 2 rfl)
      have e3 := tr (bH.c 0 rfl)
      have hlg : lookG L x = gr0 := by unfold lookG; rw [HNO.out]
      refine ⟨.tuple #[.agg #[.int .i64 0, .int .i64 0, .slice none 0 0], .bool false], ?_, none, 0, by rw [hlg, HNO.out]; rfl, by rw [hlg]; exact OwnHp.nil _ _, ?_⟩
      · simp [results, Try.f29, go_sem, e0, e1, e2, e3]
      · exact hBf.trans (belowK_b (w := w) (Nat.le_refl _) _ D _ _ hwD hK' rfl rfl)
    case stop =>
      rintro D cd pre W hD hSp ⟨⟨rfl, ps, q, rfl, hq, hps⟩, ⟨q2, hq2, pa, px, h1, h2, h3, h4, h5⟩, hBW⟩ hK
      obtain rfl : q = q2 := by simpa using hq2
      have hyes : lookJ L x = some q.val := by
        rw [HG.out]
        obtain ⟨k, hk, hmap⟩ := hSp
        rw [List.map_append] at hmap
        have hkl := congrArg List.length hmap
        simp only [List.length_append, List.length_map, List.length_cons, List.length_nil, downs_len, List.map_cons, List.map_nil] at hkl
        obtain ⟨m, rfl⟩ : ∃ m, k = m + 1 := ⟨ps.length, by omega⟩
        rw [downs_succ] at hmap
        obtain ⟨m1, m2⟩ := List.append_inj' hmap rfl
        simp only [List.map_cons, List.map_nil, List.cons.injEq, and_true] at m2
        refine lastC_some hq _ q.isLt fun i hi1 hi2 => ?_
        have h6 : i ∈ ps.map (·.val) := by
          rw [m1, show i = L.length - 1 - (L.length - 1 - i) by omega]
          exact downs_in (by omega)
        obtain ⟨q3, hq3, rfl⟩ := List.mem_map.1 h6
        exact hps q3 hq3
      have HYES := Lib.hid hyes
      have hwD : w.heap.size ≤ D := Nat.le_trans B0.size hD
      clear hyes hSp hps hq hq2
      gi_wp2
      refine ⟨by simp, .inl ⟨_, _, rfl, run_takeDeferred hK, ?_⟩⟩
      have tr := fun {a : Addr} {u : Value} (h : _ = some u) => cell_kept (a := a) (v := u) h (grownBy_putObj' _ D (.deferred none)) (fun r e => by cases e; exact ⟨_, hK, rfl⟩)
      have e0 := tr h2
      have e1 := tr h3
      have e2 := tr h4
      have e3 := tr h5
      have hlg : lookG L x = L.getD q.val gr0 := by unfold lookG; rw [HYES.out]
      have hro := own_abides h1 (grownBy_putObj' W D (.deferred none)) (fun r e => by cases e; exact ⟨_, hK, rfl⟩)
      obtain ⟨E, hE⟩ : ∃ E, L.getD q.val gr0 = E := ⟨_, rfl⟩
      rw [hE] at hlg e0 e1 e2 hro
      refine ⟨.tuple #[.agg #[.int .i64 E.a, .int .i64 E.n, .slice pa E.h.length px], .bool true], ?_, pa, px, by rw [hlg, HYES.out]; rfl, by rw [hlg]; exact hro.mono B0.size, ?_⟩
      · simp [results, Try.f29, go_sem, e0, e1, e2, e3]
      · exact hBW.trans (belowK_b (w := w) (Nat.le_refl _) W D _ _ hwD hK rfl rfl)
end Go.Proofs.Ytgelmpojbaiddaa
