/-
  Groups: what a slice of them reads as; contracts of the laws' own functions that size, copy and compare them. Conditions: those in each contract.
-/
import Derived.Test.YtbcmoofpgffbhaaGA
namespace Go.Proofs.Ytbcmoofpgffbhaa
open Go.ChangeShapes Go.WideShapes Go.ChangeAt Go.RowKit Go.BigFrame Go.Joins
set_option linter.unusedVariables false
set_option maxRecDepth 100000
set_option linter.unusedSimpArgs false

abbrev GI : TypeId := 70
abbrev GL : TypeId := 65
structure Grp where
  a : Int
  n : Int
  h : List (Int × Int)
def gr0 : Grp := ⟨0, 0, []⟩
instance : Inhabited Grp := ⟨gr0⟩
/-- the cells of block b from o on hold the group -/
def GrpAt (w : World) (b o : Nat) (E : Grp) : Prop :=
  ∃ hv, RdP w hv E.h ∧ w.cell? ⟨b, o, none⟩ = some (.int .i64 E.a) ∧ w.cell? ⟨b, o + 1, none⟩ = some (.int .i64 E.n) ∧ w.cell? ⟨b, o + 2, none⟩ = some (hv)
theorem GrpAt.keep {w w' : World} {b o : Nat} {E : Grp} (h : GrpAt w b o E) (hb : Below w.heap.size w w') : GrpAt w' b o E := by
  obtain ⟨hv, hp, k0, k1, k2⟩ := h
  exact ⟨hv, hp.keep hb, cell_keep hb (World.block_lt_of_cell? w _ k0) k0, cell_keep hb (World.block_lt_of_cell? w _ k1) k1, cell_keep hb (World.block_lt_of_cell? w _ k2) k2⟩
/-- the slice value v reads as the groups L -/
def RdG (w : World) (v : Value) (L : List Grp) : Prop :=
  L.length ≤ 9223372036854775807 ∧
  ((∃ a c, v = .slice a 0 c ∧ L = [] ∧ (a = none → c = 0)) ∨
   ∃ b o c, v = .slice (some ⟨b, o, none⟩) L.length c ∧ 0 < L.length ∧ ∀ i, i < L.length → GrpAt w b (o + i * 3) (L.getD i gr0))
theorem RdG.keep {w w' : World} {v : Value} {L : List Grp} (h : RdG w v L) (hb : Below w.heap.size w w') : RdG w' v L := by
  obtain ⟨h2, h3⟩ := h
  refine ⟨h2, ?_⟩
  rcases h3 with h3 | ⟨b, o, c, hv, hp, hc⟩
  · exact .inl h3
  · exact .inr ⟨b, o, c, hv, hp, fun i hi => (hc i hi).keep hb⟩
theorem RdG.len {w : World} {v : Value} {L : List Grp} (h : RdG w v L) : ∃ a c, v = .slice a L.length c := by
  rcases h.2 with ⟨a, c, rfl, rfl, hac⟩ | ⟨b, o, c, rfl, _⟩
  · exact ⟨a, c, rfl⟩
  · exact ⟨_, c, rfl⟩
theorem RdG.el {w : World} {v : Value} {L : List Grp} (h : RdG w v L) : ∃ a c, v = .slice a L.length c ∧ ∀ i, i < L.length → ∃ b o, a = some ⟨b, o, none⟩ ∧ GrpAt w b (o + i * 3) (L.getD i gr0) := by
  rcases h.2 with ⟨a, c, rfl, rfl, -⟩ | ⟨b, o, c, rfl, -, hc⟩
  · exact ⟨a, c, rfl, fun i hi => absurd hi (by simp)⟩
  · exact ⟨_, c, rfl, fun i hi => ⟨b, o, rfl, hc i hi⟩⟩
theorem RdG.alloc {w : World} {v : Value} {L : List Grp} (h : RdG w v L) (o : Obj) : RdG (w.alloc o) v L := h.keep ((Below.refl _ _).alloc (Nat.le_refl _) _)
theorem RdG.nil (w : World) : RdG w (.slice none 0 0) [] := ⟨by simp, .inl ⟨none, 0, rfl, rfl, fun _ => rfl⟩⟩
theorem list3 {α : Type} {xs : List α} (h : xs.length = 3) : ∃ c0 c1 c2, xs = [c0, c1, c2] := by
  match xs, h with
  | [c0, c1, c2], _ => exact ⟨c0, c1, c2, rfl⟩
section
variable {H : Type} {enc : TypeId × Value → H} {W : World} {base : Nat} {d : DataW H} {p : List MemPlace} {v : Value}
theorem cellsG3 : Try.prog.cellsOf GL = 3 := by kernel_rfl
theorem cellsI1g : Try.prog.cellsOf 3 = 1 := by kernel_rfl
theorem cellsHS1 : Try.prog.cellsOf 63 = 1 := by kernel_rfl
theorem cellsPx2g : Try.prog.cellsOf 41 = 2 := by kernel_rfl
theorem grp_trod {fuel : Nat} {x0 x1 x2 : Value} {y : DataW H × List MemPlace} (h : DataW.trod enc Try.prog W 0 (fun _ => true) true fuel GL [x0, x1, x2] = some y) :
    ∃ E : Grp, x0 = .int .i64 E.a ∧ x1 = .int .i64 E.n ∧ RdP W x2 E.h := by
  obtain ⟨ys, n, _, hx, hl, hlen, hf⟩ := DataW.trod_struct Try.underlying65 h
  match ys, hlen with
  | [y0, y1], _ =>
    have h0 := hf 0 _ rfl
    have h1 := hf 1 _ rfl
    clear hf
    simp [cellsI1g, cellsPx2g, cellsHS1] at h0 h1
    obtain ⟨z0, z1, n2, -, -, q0, q1⟩ := trod_struct2 Try.underlying41 h0
    simp [cellsI1g] at q0 q1
    obtain ⟨a, r0, -, -⟩ := DataW.trod_int Try.underlying3 q0
    obtain ⟨b, r1, -, -⟩ := DataW.trod_int Try.underlying3 q1
    obtain ⟨l, hl⟩ := rdHp_trod h1
    simp at r0 r1
    exact ⟨⟨a, b, l⟩, r0, r1, hl⟩
def Is_Group (W : World) (v : Value) : Prop := ∃ (u : Value) (E : Grp), v = .agg #[.int .i64 E.a, .int .i64 E.n, u] ∧ RdP W u E.h
theorem is_Group (hv : Value.okWide Try.prog W .any base 65 v) (h : DataW.Trod enc Try.prog W 0 (fun _ => true) true 65 v d p) : Is_Group W v := by
  obtain ⟨cs, rfl, hsz⟩ := okWide_struct Try.underlying65 hv
  rw [show Try.prog.cellsOf 65 = 3 from cellsG3] at hsz
  obtain ⟨c0, c1, c2, rfl⟩ : ∃ c0 c1 c2, cs = #[c0, c1, c2] := by
    obtain ⟨l⟩ := cs
    match l, hsz with
    | [c0, c1, c2], _ => exact ⟨c0, c1, c2, rfl⟩
  obtain ⟨fuel, hf⟩ := h
  obtain ⟨E, rfl, rfl, hr⟩ := grp_trod (W := W) (fuel := fuel) (x0 := c0) (x1 := c1) (x2 := c2) (by simpa [Value.cells] using hf)
  exact ⟨c2, E, rfl, hr⟩
theorem rdG_trod {fuel : Nat} {y : DataW H × List MemPlace} (h : DataW.trod enc Try.prog W 0 (fun _ => true) true fuel 74 [v] = some y) : ∃ L, RdG W v L := by
  rcases Deep.open_slice Try.underlying74 h with ⟨hcs, _⟩ | ⟨a, len, cap, m, n, D, Pl, hcs, _, hl, hm, hmm, _, hx⟩
  · obtain ⟨rfl, -⟩ := List.cons.inj hcs
    exact ⟨[], RdG.nil W⟩
  · obtain ⟨rfl, -⟩ := List.cons.inj hcs
    have hlm : len ≤ m := by rw [hmm]; split <;> omega
    obtain ⟨b, off, spot⟩ := a
    by_cases h0 : len = 0
    · subst h0
      exact ⟨[], by simp, .inl ⟨_, cap, rfl, rfl, fun h => by cases h⟩⟩
    · have hspot : spot = none := by
        obtain ⟨cs', h1, _⟩ := hx 0 (by omega)
        rw [cellsG3] at h1
        obtain ⟨_, hlen, hcell⟩ := World.cells?_some h1
        have h2 := hcell 0 (by omega)
        rw [List.getElem?_eq_getElem (by omega)] at h2
        simpa [Addr.add] using World.cell?_spot h2
      subst hspot
      have hadd : ∀ o k, (⟨b, o, none⟩ : Addr).add k = ⟨b, o + k, none⟩ := fun o k => by unfold Addr.add; split <;> simp_all
      have hex : ∀ i, i < len → ∃ E : Grp, GrpAt W b (off + i * 3) E := by
        intro i hi
        obtain ⟨cs', h1, h2⟩ := hx i (by omega)
        rw [cellsG3] at h1
        obtain ⟨_, hlen, hcell⟩ := World.cells?_some h1
        obtain ⟨x0, x1, x2, rfl⟩ := list3 hlen
        obtain ⟨E, rfl, rfl, q2⟩ := grp_trod h2
        have e0 := hcell 0 (by omega)
        have e1 := hcell 1 (by omega)
        have e2 := hcell 2 (by omega)
        simp only [hadd] at e0 e1 e2
        exact ⟨E, x2, q2, e0, e1, e2⟩
      obtain ⟨f, hf⟩ := Deep.choose_lt hex
      refine ⟨(List.range len).map f, by simp; unfold maxLen at hm; omega, .inr ⟨b, off, cap, by simp, by simp; omega, fun i hi => ?_⟩⟩
      have hi : i < len := by simpa using hi
      rw [show ((List.range len).map f).getD i gr0 = f i by simp [List.getD, hi]]
      exact hf i hi
def Is_Fib (W : World) (v : Value) : Prop := ∃ (u : Value) (L : List Grp), v = .agg #[u] ∧ RdG W u L
theorem cellsFb : Try.prog.cellsOf 76 = 1 := by kernel_rfl
theorem cellsGS1 : Try.prog.cellsOf 74 = 1 := by kernel_rfl
theorem is_Fib (hv : Value.okWide Try.prog W .any base 76 v) (h : DataW.Trod enc Try.prog W 0 (fun _ => true) true 76 v d p) : Is_Fib W v := by
  obtain ⟨cs, rfl, hsz⟩ := okWide_struct Try.underlying76 hv
  rw [cellsFb] at hsz
  obtain ⟨c0, rfl⟩ : ∃ c0, cs = #[c0] := by
    obtain ⟨l⟩ := cs
    match l, hsz with
    | [c0], _ => exact ⟨c0, rfl⟩
  obtain ⟨fuel, hf⟩ := h
  obtain ⟨xs, n, _, hx, hl, hlen, hf⟩ := DataW.trod_struct Try.underlying76 hf
  have h0 := hf 0 _ rfl
  match xs, hlen with
  | [y0], _ =>
    obtain ⟨l, hl⟩ := rdG_trod (W := W) (v := c0) (fuel := n) (y := y0) (by simpa [Value.cells, cellsGS1] using h0)
    exact ⟨c0, l, rfl, hl⟩
end
/-- what a table weighs -/
def wtG (L : List Grp) : Nat := (L.map fun E => E.h.length).sum
theorem wtG_take {L : List Grp} {k : Nat} (h : k < L.length) : wtG (L.take (k + 1)) = wtG (L.take k) + (L.getD k gr0).h.length := by
  unfold wtG
  rw [List.take_succ_eq_append_getElem h, List.map_append, List.sum_append]
  have e : L.getD k gr0 = L[k] := by simp [List.getD, h]
  rw [e]
  simp
theorem wtG_le (L : List Grp) (k : Nat) : wtG (L.take k) ≤ wtG L := by
  conv => rhs; rw [← List.take_append_drop k L]
  unfold wtG
  rw [List.map_append, List.sum_append]
  omega
theorem wtG_at {L : List Grp} {k : Nat} (h : k < L.length) : (L.getD k gr0).h.length ≤ wtG L := by
  have h1 := wtG_take h
  have h2 := wtG_le L (k + 1)
  omega
theorem szGrp_any (hv : Value) (l : List (Int × Int)) (a n left : Int) (w : World) (hp : RdP w hv l) (h0 : 0 ≤ left) (h1 : left ≤ 1048576) :
    Calls Try.prog 32 #[.agg #[.int .i64 a, .int .i64 n, hv], .int .i64 left] w fun e w' => e = .returned (.int .i64 (szN left l.length)) ∧ Below w.heap.size w w' := by
  obtain ⟨bA, B0, z⟩ := one w [.int .i64 a, .int .i64 n, hv] GL
  replace hp := hp.keep B0
  clear z
  have a2 := bA.c 2 rfl
  obtain ⟨r, hr⟩ : ∃ r, szN left l.length = r := ⟨_, rfl⟩
  have HR := Lib.hid hr
  by_cases hneg : r < 0
  · have hr1 : r = -1 := by rw [← hr] at hneg ⊢; unfold szN at hneg ⊢; split at hneg <;> rename_i hq <;> simp [hq]; omega
    subst hr1
    rw [hr]
    clear hr
    go_enter Try.func32, Try.ntmps32
    go_wp2_with fail
    refine (szHp_any _ l _ _ hp h0 h1).mono ?_
    rw [HR.out]
    rintro e w1 ⟨rfl, rfl⟩
    go_wp2
    go_ret
    exact ⟨rfl, B0⟩
  · rw [hr]
    clear hr
    go_enter Try.func32, Try.ntmps32
    go_wp2_with fail
    refine (szHp_any _ l _ _ hp h0 h1).mono ?_
    rw [HR.out]
    rintro e w1 ⟨rfl, rfl⟩
    go_wp2
    go_ret
    exact ⟨rfl, B0⟩
theorem szGS_any (v : Value) (L : List Grp) (left : Int) (w : World) (h : RdG w v L) (hle0 : 0 ≤ left) (hle : left ≤ 1048576) :
    Calls Try.prog 47 #[v, .int .i64 left] w fun e w' => ∃ r : Int, e = .returned (.int .i64 r) ∧ (¬ r < 0 → r = left - L.length - (wtG L : Nat)) ∧ (r < 0 → r = -1) ∧ Below w.heap.size w w' := by
  have hm := h.1
  obtain ⟨a, c, rfl, hc⟩ := h.el
  obtain ⟨n, hn⟩ : ∃ n, n = L.length := ⟨_, rfl⟩
  rw [← hn] at hc hm ⊢
  have HN := Lib.hid hn
  clear h hn
  by_cases hbig : left - n < 0
  · go_enter Try.func47, Try.ntmps47
    have hw1 : IntKind.i64.wrap (left - (n : Int)) = left - (n : Int) := wrap64_in _ (by omega) (by omega)
    go_wp2
    go_ret
    exact ⟨-1, rfl, fun h => by omega, fun _ => rfl, Below.refl _ _⟩
  · have hnn : n ≤ 1048576 := by omega
    have hw1 : IntKind.i64.wrap (left - (n : Int)) = left - (n : Int) := wrap64_in _ (by omega) (by omega)
    go_enter Try.func47, Try.ntmps47
    go_wp2
    go_loopw [1, 5] (fun q i wr => ∃ k : Nat, k ≤ n ∧ i = .int .i64 k ∧ (∃ l : Int, q = .int .i64 l ∧ 0 ≤ l ∧ l = left - (n : Int) - (wtG (L.take k) : Nat)) ∧ Below w.heap.size w wr) (fun _ i _ => n - (intOf i).toNat)
    case atStart => exact ⟨0, Nat.zero_le _, rfl, ⟨_, rfl, by omega, by simp [wtG]⟩, Below.refl _ _⟩
    case round =>
      obtain ⟨k, hk, rfl, ⟨l, rfl, hl0, hl⟩, hB⟩ := hrel
      have HL := Lib.hid hl
      have hl1 : l ≤ 1048576 := by omega
      clear hl
      by_cases hlt : k < n
      · have hltI : (k : Int) < (n : Int) := by omega
        obtain ⟨b, o, rfl, hE⟩ := hc k hlt
        obtain ⟨E, hx⟩ : ∃ E, L.getD k gr0 = E := ⟨_, rfl⟩
        rw [hx] at hE
        obtain ⟨hv, hp, k0, k1, k2⟩ := hE.keep hB
        have HX := Lib.hid hx
        have HCC := Lib.hid hc
        clear hx hc hE
        obtain ⟨r, hr⟩ : ∃ r, szN l E.h.length = r := ⟨_, rfl⟩
        have HR := Lib.hid hr
        have hneg1 : (r < 0 → r = -1) ∧ (¬ r < 0 → r = l - E.h.length) := by
          rw [← hr]
          unfold szN
          split <;> rename_i hq <;> exact ⟨fun h => by omega, fun h => by omega⟩
        have HN1 := Lib.hid hneg1
        clear hr hneg1
        by_cases hneg : r < 0
        · go_wp2_with fail
          refine (szGrp_any hv E.h _ _ _ _ hp hl0 hl1).mono ?_
          rw [HR.out]
          rintro e w1 ⟨rfl, hb⟩
          have hB2 := below_step hB hb
          clear hb hB k0 k1 k2 hp
          go_wp2
          go_ret
          exact ⟨-1, rfl, fun h => by omega, fun _ => rfl, hB2⟩
        · go_wp2_with fail
          refine (szGrp_any hv E.h _ _ _ _ hp hl0 hl1).mono ?_
          rw [HR.out]
          rintro e w1 ⟨rfl, hb⟩
          have hB2 := below_step hB hb
          clear hb hB k0 k1 k2 hp
          go_wp2
          go_roundw
          case rel =>
            refine ⟨k + 1, by omega, by go_num, ⟨r, rfl, by omega, ?_⟩, hB2⟩
            have h1 := wtG_take (L := L) (k := k) (by rw [← HN.out]; exact hlt)
            rw [HX.out] at h1
            have h2 := HN1.out.2 hneg
            have h3 := HL.out
            omega
          case measure => simp [intOf]; omega
      · have hkn : k = n := by omega
        subst hkn
        have hw : wtG (L.take k) = wtG L := by rw [List.take_of_length_le (by rw [HN.out]; exact Nat.le_refl _)]
        clear hc
        go_wp2
        go_ret
        refine ⟨l, rfl, fun _ => ?_, fun h => by omega, hB⟩
        have h3 := HL.out
        omega
theorem szFb_any (v : Value) (L : List Grp) (left : Int) (w : World) (h : RdG w v L) (hle0 : 0 ≤ left) (hle : left ≤ 1048576) :
    Calls Try.prog 37 #[.agg #[v], .int .i64 left] w fun e w' => ∃ r : Int, e = .returned (.int .i64 r) ∧ (¬ r < 0 → r = left - L.length - (wtG L : Nat)) ∧ Below w.heap.size w w' := by
  obtain ⟨bA, B0, z⟩ := one w [v] 76
  replace h := h.keep B0
  clear z
  go_enter Try.func37, Try.ntmps37
  go_wp2_with fail
  refine (szGS_any _ L _ _ h hle0 hle).mono ?_
  rintro e w1 ⟨r, rfl, h1, h2, hb⟩
  replace B0 := below_step B0 hb
  have H1 := Lib.hid h1
  have H2 := Lib.hid h2
  clear hb h1 h2
  by_cases hneg : r < 0
  · go_wp2
    go_ret
    exact ⟨_, rfl, fun h => by omega, B0⟩
  · go_wp2
    go_ret
    exact ⟨r, rfl, H1.out, B0⟩
/-- a fresh group -/
def NewGrp (w : World) (l : List (Int × Int)) (a n : Int) (e : Ending) (w' : World) : Prop :=
  ∃ pa px, e = .returned (.agg #[.int .i64 a, .int .i64 n, .slice pa l.length px]) ∧ OwnHp w' w.heap.size (.slice pa l.length px) l ∧ Below w.heap.size w w'
set_option maxHeartbeats 1000000 in
theorem toGrp_any (hv : Value) (l : List (Int × Int)) (a n : Int) (w : World) (hp : RdP w hv l) (h2 : l.length ≤ 1048576) :
    Calls Try.prog 34 #[.agg #[.int .i64 a, .int .i64 n, hv]] w (NewGrp w l a n) := by
  obtain ⟨bA, bR, bO, B1, z⟩ := three w [.int .i64 a, .int .i64 n, hv] [.int .i64 0, .int .i64 0, .slice none 0 0] [.int .i64 0, .int .i64 0, .slice none 0 0] GL GI GI
  go_enter Try.func34, Try.ntmps34
  go_wp2_with fail
  refine (to_any a n _).mono ?_
  rintro e w1 ⟨rfl, hb⟩
  have hs := hb.size
  rw [z] at hs
  replace bA := bA.keep hb
  replace bR := bR.keep hb
  replace bO := bO.keep hb
  replace B1 := below_step B1 hb
  clear z hb
  obtain ⟨A, hA⟩ : ∃ A, A = w.heap.size := ⟨_, rfl⟩
  obtain ⟨R, hR⟩ : ∃ R, R = w.heap.size + 1 := ⟨_, rfl⟩
  obtain ⟨O, hO⟩ : ∃ O, O = w.heap.size + 1 + 1 := ⟨_, rfl⟩
  rw [← hA] at bA
  rw [← hR] at bR
  rw [← hO] at bO
  rw [← hO, ← hR, ← hA]
  have hO3 : O < w.heap.size + 3 := by omega
  have hRO : R ≠ O := by omega
  have hR3 : R < w.heap.size + 3 := by omega
  have hAO : A ≠ O := by omega
  have hwO : w.heap.size ≤ O := by omega
  have hwR : w.heap.size ≤ R := by omega
  clear hA hR hO
  have a2 := bA.c 2 rfl
  have o0 := bO.c 0 rfl
  have of0 := bO.f 0 rfl
  have o1 := bO.c 1 rfl
  have of1 := bO.f 1 rfl
  go_wp2_with fail
  clear a2 o0 of0 o1 of1
  have hs1 := hs
  replace hs1 := Nat.le_trans hs1 (grown_set (w1) O 0 (.int .i64 a)).size
  replace bA := bA.far (o := 0) (u := .int .i64 a) hAO
  replace bR := bR.far (o := 0) (u := .int .i64 a) hRO
  replace bO := bO.set 0 (.int .i64 a)
  replace B1 := B1.setCell (p := ⟨O, 0, none⟩) hwO (.int .i64 a)
  replace hs1 := Nat.le_trans hs1 (grown_set ((w1).setCell ⟨O, 0, none⟩ (.int .i64 a)) O 1 (.int .i64 n)).size
  replace bA := bA.far (o := 1) (u := .int .i64 n) hAO
  replace bR := bR.far (o := 1) (u := .int .i64 n) hRO
  replace bO := bO.set 1 (.int .i64 n)
  replace B1 := B1.setCell (p := ⟨O, 1, none⟩) hwO (.int .i64 n)
  refine (toHp_any hv l _ (hp.keep B1) h2).mono ?_
  rintro e w3 ⟨pa, px, rfl, hP, hb⟩
  replace hP := hP.mono hs1
  replace bA := bA.keep hb
  replace bR := bR.keep hb
  replace bO := bO.keep hb
  replace B1 := below_step B1 hb
  clear hb hs1 hs
  have o0 := bO.c 0 rfl
  have of0 := bO.f 0 rfl
  have o1 := bO.c 1 rfl
  have of1 := bO.f 1 rfl
  have o2 := bO.c 2 rfl
  have of2 := bO.f 2 rfl
  have r0 := bR.c 0 rfl
  have rf0 := bR.f 0 rfl
  have r1 := bR.c 1 rfl
  have rf1 := bR.f 1 rfl
  have r2 := bR.c 2 rfl
  have rf2 := bR.f 2 rfl
  go_wp2_with fail
  have bE := ((((bR.far (o := 2) (u := .slice pa l.length px) hRO).set 0 (.int .i64 a)).set 1 (.int .i64 n)).set 2 (.slice pa l.length px))
  have e0 := bE.c 0 rfl
  have e1 := bE.c 1 rfl
  have e2 := bE.c 2 rfl
  exact bodyPost_ret (v := .agg #[.int .i64 a, .int .i64 n, .slice pa l.length px]) (by simp [results, Try.results34, go_sem, e0, e1, e2]) rfl
    ⟨pa, px, rfl, (((((hP.far (o := 2) hO3).far (o := 0) hR3).far (o := 1) hR3).far (o := 2) hR3).mono (by omega)), ((((B1.setCell (p := ⟨O, 2, none⟩) hwO (.slice pa l.length px)).setCell (p := ⟨R, 0, none⟩) hwR (.int .i64 a)).setCell (p := ⟨R, 1, none⟩) hwR (.int .i64 n)).setCell (p := ⟨R, 2, none⟩) hwR (.slice pa l.length px))⟩
/-- element i of the cells xs is the group E, its hops a row of one's own -/
def GrpX (xs : List Value) (w : World) (base i : Nat) (E : Grp) : Prop :=
  ∃ u1, OwnHp w base u1 E.h ∧ xs[i * 3]? = some (.int .i64 E.a) ∧ xs[i * 3 + 1]? = some (.int .i64 E.n) ∧ xs[i * 3 + 2]? = some (u1)
def MadeG (w : World) (B n k : Nat) (L : List Grp) : Prop := ∃ xs : List Value, xs.length = n * 3 ∧ Bl w B xs ∧ ∀ i, i < k → GrpX xs w (B + 1) i (L.getD i gr0)
theorem MadeG.keep {w w' : World} {B n k : Nat} {L : List Grp} (h : MadeG w B n k L) (hb : Below w.heap.size w w') : MadeG w' B n k L := by
  obtain ⟨xs, hl, hB, hx⟩ := h
  refine ⟨xs, hl, hB.keep hb, fun i hi => ?_⟩
  obtain ⟨u1, h1, h3⟩ := hx i hi
  exact ⟨u1, h1.keep hb, h3⟩
theorem MadeG.cell {w : World} {B n k : Nat} {L : List Grp} (h : MadeG w B n k L) (j : Nat) (hj : j < n * 3) : ∃ x, w.cell? ⟨B, j, none⟩ = some x ∧ w.frozen? ⟨B, j, none⟩ = false := by
  obtain ⟨xs, hl, hB, hx⟩ := h
  exact ⟨_, hB.c j (List.getElem?_eq_getElem (by omega)), hB.f j (List.getElem?_eq_getElem (by omega))⟩
theorem MadeG.step {w : World} {B n k : Nat} {L : List Grp} (h : MadeG w B n k L) (hk : k < n) {u1 : Value} {E : Grp} (hE : L.getD k gr0 = E) (h1 : OwnHp w (B + 1) u1 E.h) :
    MadeG (((w.setCell ⟨B, k * 3, none⟩ (.int .i64 E.a)).setCell ⟨B, k * 3 + 1, none⟩ (.int .i64 E.n)).setCell ⟨B, k * 3 + 2, none⟩ (u1)) B n (k + 1) L := by
  obtain ⟨xs, hl, hB, hx⟩ := h
  refine ⟨(((xs.set (k * 3) (.int .i64 E.a)).set (k * 3 + 1) (.int .i64 E.n)).set (k * 3 + 2) (u1)), by simpa using hl, (((hB.set (k * 3) (.int .i64 E.a)).set (k * 3 + 1) (.int .i64 E.n)).set (k * 3 + 2) (u1)), fun i hi => ?_⟩
  by_cases e : i = k
  · have e' := e.symm
    subst e'
    rw [hE]
    refine ⟨u1, (OwnHp.far (o := k * 3 + 2) (u := u1) (OwnHp.far (o := k * 3 + 1) (u := .int .i64 E.n) (OwnHp.far (o := k * 3) (u := .int .i64 E.a) h1 (Nat.lt_succ_self B)) (Nat.lt_succ_self B)) (Nat.lt_succ_self B)), ?_, ?_, ?_⟩
    all_goals simp only [List.getElem?_set, List.length_set]
    all_goals simp (disch := omega) [hl]
    all_goals omega
  · obtain ⟨v1, q1, c0, c1, c2⟩ := hx i (by omega)
    refine ⟨v1, (OwnHp.far (o := k * 3 + 2) (u := u1) (OwnHp.far (o := k * 3 + 1) (u := .int .i64 E.n) (OwnHp.far (o := k * 3) (u := .int .i64 E.a) q1 (Nat.lt_succ_self B)) (Nat.lt_succ_self B)) (Nat.lt_succ_self B)), ?_, ?_, ?_⟩
    all_goals (repeat rw [List.getElem?_set_ne (by omega)])
    all_goals assumption
/-- a row of groups of one's own -/
def OwnG (w : World) (base : Nat) (v : Value) (L : List Grp) : Prop := ∃ B, v = .slice (some ⟨B, 0, none⟩) L.length L.length ∧ base ≤ B ∧ MadeG w B L.length L.length L
theorem OwnG.keep {w w' : World} {base : Nat} {v : Value} {L : List Grp} (h : OwnG w base v L) (hb : Below w.heap.size w w') : OwnG w' base v L := by
  obtain ⟨B, rfl, h1, h2⟩ := h
  exact ⟨B, rfl, h1, h2.keep hb⟩
theorem OwnG.mono {w : World} {base base' : Nat} {v : Value} {L : List Grp} (h : OwnG w base v L) (hb : base' ≤ base) : OwnG w base' v L := by
  obtain ⟨B, rfl, h1, h2⟩ := h
  exact ⟨B, rfl, Nat.le_trans hb h1, h2⟩
theorem OwnG.rd {w : World} {base : Nat} {v : Value} {L : List Grp} (h : OwnG w base v L) (hn : L.length ≤ 1048576) : RdG w v L := by
  obtain ⟨B, rfl, h1, xs, hl, hB, hx⟩ := h
  refine ⟨by omega, ?_⟩
  by_cases h0 : L.length = 0
  · refine .inl ⟨some ⟨B, 0, none⟩, 0, by rw [h0], List.eq_nil_of_length_eq_zero h0, fun h => by cases h⟩
  · refine .inr ⟨B, 0, L.length, rfl, by omega, fun i hi => ?_⟩
    obtain ⟨u1, q1, c0, c1, c2⟩ := hx i hi
    refine ⟨u1, q1.rd, ?_⟩
    simp only [Nat.zero_add]
    exact ⟨hB.c _ c0, hB.c _ c1, hB.c _ c2⟩
theorem infoG : (Try.prog.info? GI).map (fun i => (i.zero, i.size, i.bytes)) = some (some (.agg #[.int .i64 0, .int .i64 0, .slice none 0 0]), 3, 40) := by kernel_rfl
theorem make_G (t : TypeId) (ht : Try.prog.underlying t = some (.slice GI)) (n : Nat) (hn : n ≤ 1048576) (w : World) :
    (Instr.makeSlice t (.int .i64 (n : Int)) (.int .i64 (n : Int))).run Try.prog w = .ok (.slice (some ⟨w.heap.size, 0, none⟩) n n) (w.alloc (.cells (madeCells #[Value.int .i64 0, Value.int .i64 0, Value.slice none 0 0] (n * 3)) GI)) := by
  obtain ⟨i, hi, hzz⟩ := Option.map_eq_some_iff.1 infoG
  simp only [Prod.mk.injEq] at hzz
  obtain ⟨hz, hs, hb⟩ := hzz
  have hr := run_make (P := Try.prog) w t GI i _ ht hi hz .i64 .i64 n n (by omega) (Int.le_refl _) (by rw [hb]; omega) (by omega)
  simpa only [Int.toNat_natCast, hs, Value.cells] using hr
theorem madeG_start (w : World) (n : Nat) (L : List Grp) : MadeG (w.alloc (.cells (madeCells #[Value.int .i64 0, Value.int .i64 0, Value.slice none 0 0] (n * 3)) GI)) w.heap.size n 0 L := by
  refine ⟨(madeCells #[Value.int .i64 0, Value.int .i64 0, Value.slice none 0 0] (n * 3)).toList, by simp [size_madeCells], ?_, fun i hi => absurd hi (Nat.not_lt_zero _)⟩
  have := Bl.new w (madeCells #[Value.int .i64 0, Value.int .i64 0, Value.slice none 0 0] (n * 3)).toList GI w.heap.size rfl
  simpa using this
set_option maxHeartbeats 1000000 in
theorem toGS_any (v : Value) (L : List Grp) (w : World) (h : RdG w v L) (hn : L.length + wtG L ≤ 1048576) :
    Calls Try.prog 50 #[v] w fun e w' => ∃ u, e = .returned u ∧ OwnG w' w.heap.size u L ∧ Below w.heap.size w w' := by
  have hmk := fun W => make_G 55 Try.underlying55 L.length (by omega) W
  obtain ⟨a, c, rfl, hc⟩ := h.el
  obtain ⟨n, hn'⟩ : ∃ n, n = L.length := ⟨_, rfl⟩
  rw [← hn'] at hc hn hmk ⊢
  have hnn : n ≤ 1048576 := by omega
  have HN := Lib.hid hn'
  have HW := Lib.hid hn
  clear hn' h hn
  obtain ⟨B, hBB⟩ : ∃ B, B = w.heap.size := ⟨_, rfl⟩
  have hst := madeG_start w n L
  rw [← hBB] at hst
  have HS := Lib.hid hst
  have HBB := Lib.hid hBB
  have hwB : w.heap.size ≤ B := by omega
  clear hst
  go_enter Try.func50, Try.ntmps50
  go_wp2
  rw [← hBB]
  clear hmk hBB
  go_loopw [4] (fun i wr => ∃ k : Nat, k ≤ n ∧ i = .int .i64 k ∧ MadeG wr B n k L ∧ Below w.heap.size w wr) (fun i _ => n - (intOf i).toNat)
  case atStart => exact ⟨0, Nat.zero_le _, rfl, HS.out, (Below.refl _ _).alloc (Nat.le_refl _) _⟩
  case round =>
    obtain ⟨k, hk, rfl, hM, hB⟩ := hrel
    by_cases hlt : k < n
    · have hltI : (k : Int) < (n : Int) := by omega
      obtain ⟨b, o, rfl, hE⟩ := hc k hlt
      obtain ⟨E, hx⟩ : ∃ E, L.getD k gr0 = E := ⟨_, rfl⟩
      rw [hx] at hE
      obtain ⟨hv, hp, k0, k1, k2⟩ := hE.keep hB
      have HX := Lib.hid hx
      have HCC := Lib.hid hc
      clear hx hc hE
      have hpl : E.h.length ≤ 1048576 := by
        have h1 := wtG_at (L := L) (k := k) (by rw [← HN.out]; exact hlt)
        rw [HX.out] at h1
        have := HW.out
        omega
      have hBW : B < wr.heap.size := by
        obtain ⟨xs, hl, hBl, -⟩ := hM
        exact hBl.lt
      go_wp2_with fail
      refine (toGrp_any hv E.h _ _ _ hp hpl).mono ?_
      rintro e w2 ⟨pa, px, rfl, h1, hb⟩
      have hM2 := hM.keep hb
      have hB2 := below_step hB hb
      replace h1 := h1.mono (Nat.succ_le_of_lt hBW)
      clear hM hB hb k0 k1 k2 hp hpl hBW
      obtain ⟨p0, q0, f0⟩ := hM2.cell (k * 3) (by omega)
      obtain ⟨p1, q1, f1⟩ := hM2.cell (k * 3 + 1) (by omega)
      obtain ⟨p2, q2, f2⟩ := hM2.cell (k * 3 + 2) (by omega)
      have HM := Lib.hid (hM2.step hlt HX.out h1)
      have hB3 := (((hB2.setCell (p := ⟨B, k * 3, none⟩) hwB (.int .i64 E.a)).setCell (p := ⟨B, k * 3 + 1, none⟩) hwB (.int .i64 E.n)).setCell (p := ⟨B, k * 3 + 2, none⟩) hwB ((.slice pa E.h.length px)))
      clear hM2 hB2 h1
      go_wp2
      go_roundw
      case rel => exact ⟨k + 1, by omega, by go_num, HM.out, hB3⟩
      case measure => simp [intOf]; omega
    · have hkn : k = n := by omega
      subst hkn
      clear hc
      go_wp2
      go_ret
      exact ⟨.slice (some ⟨B, 0, none⟩) k k, rfl, ⟨B, by rw [← HN.out], hwB, by rw [← HN.out]; exact hM⟩, hB⟩
theorem toFb_any (v : Value) (L : List Grp) (w : World) (h : RdG w v L) (hn : L.length + wtG L ≤ 1048576) :
    Calls Try.prog 39 #[.agg #[v]] w fun e w' => ∃ u, e = .returned (.agg #[u]) ∧ OwnG w' w.heap.size u L ∧ Below w.heap.size w w' := by
  obtain ⟨bA, bR, bO, B1, z⟩ := three w [v] [.slice none 0 0] [.slice none 0 0] 76 57 57
  have h1 := h.keep B1
  go_enter Try.func39, Try.ntmps39
  go_wp2_with fail
  refine (toGS_any _ L _ h1 hn).mono ?_
  rintro e w1 ⟨u, rfl, ho, hb⟩
  replace bA := bA.keep hb
  replace bR := bR.keep hb
  replace bO := bO.keep hb
  have hs := hb.size
  replace B1 := below_step B1 hb
  rw [z] at ho hs
  clear z hb h1
  obtain ⟨A, hA⟩ : ∃ A, A = w.heap.size := ⟨_, rfl⟩
  obtain ⟨R, hR⟩ : ∃ R, R = w.heap.size + 1 := ⟨_, rfl⟩
  obtain ⟨O, hO⟩ : ∃ O, O = w.heap.size + 1 + 1 := ⟨_, rfl⟩
  rw [← hA] at bA
  rw [← hR] at bR
  rw [← hO] at bO
  rw [← hO, ← hR]
  try rw [← hA]
  have hO3 : O < w.heap.size + 3 := by omega
  have hRO : R ≠ O := by omega
  have hR3 : R < w.heap.size + 3 := by omega
  have hwO : w.heap.size ≤ O := by omega
  have hwR : w.heap.size ≤ R := by omega
  clear hA hR hO
  obtain ⟨B, rfl, hBb, hM⟩ := ho
  have o0 := bO.c 0 rfl
  have of0 := bO.f 0 rfl
  have r0 := bR.c 0 rfl
  have rf0 := bR.f 0 rfl
  go_wp2_with fail
  have bE := (bR.far (o := 0) (u := .slice (some ⟨B, 0, none⟩) L.length L.length) hRO).set 0 (.slice (some ⟨B, 0, none⟩) L.length L.length)
  have e0 := bE.c 0 rfl
  have hM2 : MadeG ((w1.setCell ⟨O, 0, none⟩ (.slice (some ⟨B, 0, none⟩) L.length L.length)).setCell ⟨R, 0, none⟩ (.slice (some ⟨B, 0, none⟩) L.length L.length)) B L.length L.length L := by
    obtain ⟨xs, hl, hBl, hx⟩ := hM
    refine ⟨xs, hl, (hBl.far (by omega)).far (by omega), fun i hi => ?_⟩
    obtain ⟨u1, q1, q3⟩ := hx i hi
    exact ⟨u1, (q1.far (by omega)).far (by omega), q3⟩
  exact bodyPost_ret (v := .agg #[.slice (some ⟨B, 0, none⟩) L.length L.length]) (by simp [results, Try.results39, go_sem, e0]) rfl
    ⟨_, rfl, ⟨B, rfl, by omega, hM2⟩, (B1.setCell (p := ⟨O, 0, none⟩) hwO _).setCell (p := ⟨R, 0, none⟩) hwR _⟩
theorem eqPx_sameG (a n : Int) (w : World) : Calls Try.prog 83 #[.agg #[.int .i64 a, .int .i64 n], .agg #[.int .i64 a, .int .i64 n]] w fun e w' => e = .returned (.bool true) ∧ Below w.heap.size w w' := by
  have := eqPx_any a n a n w
  simpa using this
theorem eqGrp_same (hv hv2 : Value) (l : List (Int × Int)) (a n : Int) (w : World) (hp : RdP w hv l) (hp2 : RdP w hv2 l) :
    Calls Try.prog 36 #[.agg #[.int .i64 a, .int .i64 n, hv], .agg #[.int .i64 a, .int .i64 n, hv2]] w fun e w' => e = .returned (.bool true) ∧ Below w.heap.size w w' := by
  obtain ⟨bA, bB, B1, z⟩ := two w [.int .i64 a, .int .i64 n, hv] [.int .i64 a, .int .i64 n, hv2] GI GI
  replace hp := hp.keep B1
  replace hp2 := hp2.keep B1
  clear z
  go_enter Try.func36, Try.ntmps36
  go_wp2_with fail
  refine (eqPx_sameG a n _).mono ?_
  rintro e w1 ⟨rfl, hb⟩
  replace bA := bA.keep hb
  replace bB := bB.keep hb
  replace hp := hp.keep hb
  replace hp2 := hp2.keep hb
  replace B1 := below_step B1 hb
  clear hb
  have a2 := bA.c 2 rfl
  have b2 := bB.c 2 rfl
  go_wp2_with fail
  refine (eqHS_same _ _ l _ hp hp2).mono ?_
  rintro e w3 ⟨rfl, hb⟩
  replace B1 := below_step B1 hb
  clear hb
  go_wp2
  go_ret
  exact ⟨rfl, B1⟩
theorem rdP_over {V w : World} {v : Value} {l : List (Int × Int)} (h : RdP V v l) (o : Over V w) : RdP w v l := h.keep o
set_option maxHeartbeats 1000000 in
theorem eqGS_same (v u : Value) (L : List Grp) (w : World) (h1 : RdG w v L) (h2 : RdG w u L) :
    Calls Try.prog 41 #[v, u] w fun e w' => e = .returned (.bool true) ∧ Below w.heap.size w w' := by
  have hm1 := h1.1
  obtain ⟨a, c, rfl, hc⟩ := h1.el
  obtain ⟨a', c', rfl, hc'⟩ := h2.el
  obtain ⟨n, hn⟩ : ∃ n, n = L.length := ⟨_, rfl⟩
  rw [← hn] at hc hc' hm1 ⊢
  have HN := Lib.hid hn
  clear hn h1 h2
  have hnn : ((n : Int) != (n : Int)) = false := by simp
  go_enter Try.func41, Try.ntmps41
  go_wp2
  go_loopw [5] (fun i wr => ∃ k : Nat, k ≤ n ∧ i = .int .i64 k ∧ Below w.heap.size w wr) (fun i _ => n - (intOf i).toNat)
  case atStart => exact ⟨0, Nat.zero_le _, rfl, Below.refl _ _⟩
  case round =>
    obtain ⟨k, hk, rfl, hB⟩ := hrel
    by_cases hlt : k < n
    · have hltI : (k : Int) < (n : Int) := by omega
      obtain ⟨b, o, rfl, hE⟩ := hc k hlt
      obtain ⟨b', o', rfl, hE'⟩ := hc' k hlt
      obtain ⟨E, hx⟩ : ∃ E, L.getD k gr0 = E := ⟨_, rfl⟩
      rw [hx] at hE hE'
      obtain ⟨hv, hp, k0, k1, k2⟩ := hE.keep hB
      obtain ⟨hv2, hp2, m0, m1, m2⟩ := hE'.keep hB
      clear hx hc hc' hE hE'
      go_wp2
      go_region_held3 (fun w' => Over wr w' ∧ w'.cell? ⟨b, o + k * 3, none⟩ = some (.int .i64 E.a) ∧ w'.cell? ⟨b, o + k * 3 + 1, none⟩ = some (.int .i64 E.n) ∧ w'.cell? ⟨b, o + k * 3 + 2, none⟩ = some (hv) ∧ w'.cell? ⟨b', o' + k * 3, none⟩ = some (.int .i64 E.a) ∧ w'.cell? ⟨b', o' + k * 3 + 1, none⟩ = some (.int .i64 E.n) ∧ w'.cell? ⟨b', o' + k * 3 + 2, none⟩ = some (hv2))
        ((first | exact ⟨over_drew _, k0, k1, k2, m0, m1, m2⟩ | exact (fun o => ⟨o, over_cell o (World.block_lt_of_cell? wr _ k0) k0, over_cell o (World.block_lt_of_cell? wr _ k1) k1, over_cell o (World.block_lt_of_cell? wr _ k2) k2, over_cell o (World.block_lt_of_cell? wr _ m0) m0, over_cell o (World.block_lt_of_cell? wr _ m1) m1, over_cell o (World.block_lt_of_cell? wr _ m2) m2⟩) (over_step (by assumption : Over wr _ ∧ _).1 (by assumption))))
        ((first | (go_at_call 36; refine (eqGrp_same hv hv2 E.h _ _ _ (rdP_over hp (‹Over wr _ ∧ _›).1) (rdP_over hp2 (‹Over wr _ ∧ _›).1)).mono ?_; rintro e w6 ⟨rfl, hbb⟩)))
      rename_i hH
      replace hB := below_step hB hH.1
      clear hH hbb k0 k1 k2 m0 m1 m2 hp hp2
      go_wp2
      go_roundw
      case rel => exact ⟨k + 1, by omega, by go_num, hB⟩
      case measure => simp [intOf]; omega
    · have hkn : k = n := by omega
      clear hc hc'
      go_wp2
      go_ret
      exact ⟨rfl, hB⟩
theorem eqFb_same (v u : Value) (L : List Grp) (w : World) (h1 : RdG w v L) (h2 : RdG w u L) :
    Calls Try.prog 29 #[.agg #[v], .agg #[u]] w fun e w' => e = .returned (.bool true) ∧ Below w.heap.size w w' := by
  obtain ⟨bA, bB, B1, z⟩ := two w [v] [u] 57 57
  replace h1 := h1.keep B1
  replace h2 := h2.keep B1
  clear z
  go_enter Try.func29, Try.ntmps29
  go_wp2_with fail
  refine (eqGS_same _ _ L _ h1 h2).mono ?_
  rintro e w1 ⟨rfl, hb⟩
  replace B1 := below_step B1 hb
  clear hb
  go_wp2
  go_ret
  exact ⟨rfl, B1⟩
end Go.Proofs.Ytbcmoofpgffbhaa
