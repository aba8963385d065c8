/-
  The text of attributes, as the model writes it. Conditions: those in each statement.
-/
import Derived.Test.YtichmbbpjkikaabDoorJ2
import Derived.Lib.AppendStr
import Derived.Lib.SlBytesConst
import Derived.Deep.AppendSrc
namespace Go.Proofs.YtichmbbpjkikaabDoor
open Go.ChangeShapes Go.WideShapes Go.ChangeAt Go.RowKit Go.BigFrame
set_option linter.unusedVariables false
set_option maxRecDepth 100000
set_option linter.unusedSimpArgs false

/-- a step of l1digits: one figure more -/
theorem dig_step (N : Int) (hN : 10 ≤ N) (ih : ∀ (n : Int) (w : World), 0 ≤ n → n < N → Calls Tryd.prog 15 #[.int .i64 n] w (NewB w (dgI n))) (hN2 : N ≤ 10000) (n : Int) (w : World) (h0 : 0 ≤ n) (h : n < 10 * N) :
    Calls Tryd.prog 15 #[.int .i64 n] w (NewB w (dgI n)) := by
  by_cases hn : n < 10
  · exact dig1 n w h0 hn
  · rw [dgI_big h0 hn]
    have hd : (dgI (n / 10)).length ≤ 5 := dgI_len5 _ (by omega) (by omega)
    go_enter Tryd.func15, Tryd.ntmps15
    go_wp2_with (first | (go_at_call 15; refine (ih (n / 10) _ (by omega) (by omega)).mono ?_; rintro e w1 ⟨u1, rfl, ho1, hb1⟩) | (at_builtin; refine wp_app rfl (.tmp 11) (.tmp 16) rfl w.heap.size u1 _ (dgI (n / 10)) [48 + n % 10] rfl rfl (ho1.alloc _) (rd_lit1 _ _ (by omega)) (by simp; omega) (by have := hb1.size; simp; omega) ?_; intro v2 w2 ho2 hg2))
    go_ret
    exact ⟨_, rfl, ho2, (hb1.alloc hb1.size _).grown hg2 (by have := hb1.size; simp; omega) (fun k hk => (World.ownsRow.lt ho1 k hk).1)⟩
theorem dig5 (n : Int) (w : World) (h0 : 0 ≤ n) (h : n < 100000) : Calls Tryd.prog 15 #[.int .i64 n] w (NewB w (dgI n)) :=
  dig_step 10000 (by decide) (fun n w q0 q1 => dig_step 1000 (by decide) (fun n w r0 r1 => dig_any n w r0 r1) (by decide) n w q0 q1) (by decide) n w h0 h

/-- append onto a row that is full, whatever mark it bears: a row of the call's own comes out -/
theorem wp_app_full {ops : Array Oper} {rest : List Oper} {o : Oper} {a : Act} {Q : Exit → Act → World → Prop} {w : World} (hgd : o.guard = none) (s x : Operand)
    (ho : o.op = .call { callee := .builtin .append, args := #[s, x], argTypes := #[26, 26] })
    (g : Nat) (u : Value) (l m : List Int) (hs : a.eval s = .slice (some ⟨g, 0, none⟩) l.length l.length) (hx : a.eval x = u) (hl : ∀ i, i < l.length → w.cell? ⟨g, i, none⟩ = some (.int .u8 (l.getD i 0))) (hu : Rd w u m) (hm : 0 < m.length) (hlen : l.length + m.length ≤ 4294967296)
    (h : ∀ v' w', Own w' w.heap.size v' (l ++ m) → Below w.heap.size w w' → wpList Tryd.prog ops Q rest (a.put o.dst v') w') : wpList Tryd.prog ops Q (o :: rest) a w := by
  obtain ⟨i0, hi, hz0, hz1, hz2⟩ := info_parts infoB
  obtain ⟨hb, _, ⟨p, c, hv, rfl, hac⟩ | ⟨b, off, c, hv, hp, hc⟩⟩ := hu
  · simp at hm
  · have addE (b off j : Nat) : (⟨b, off, none⟩ : Addr).add j = ⟨b, off + j, none⟩ := by unfold Addr.add; split <;> simp_all
    have holds : ∀ j y, (l.map (Value.int .u8))[j]? = some y → w.cell? ((⟨g, 0, none⟩ : Addr).add j) = some y := by
      intro j y hy
      have hj : j < l.length := by
        have := (List.getElem?_eq_some_iff.1 hy).1
        simpa using this
      rw [addE, Nat.zero_add, hl j hj]
      simpa [List.getD, hj] using hy
    have hnews : ∀ j y, (m.map (Value.int .u8))[j]? = some y → w.cell? ((⟨b, off, none⟩ : Addr).add j) = some y := by
      intro j y hy
      have hj : j < m.length := by
        have := (List.getElem?_eq_some_iff.1 hy).1
        simpa using this
      rw [addE, hc j hj]
      simpa [List.getD, hj] using hy
    have hr := run_append_grow (P := Tryd.prog) w 26 o.type BT i0 (.int .u8 0) Tryd.underlying26 hi hz0 ⟨g, 0, none⟩ l.length l.length (l.map (Value.int .u8)) (by simp [hz1]) holds ⟨b, off, none⟩ m.length c (m.map (Value.int .u8)) (by simp [hz1]) hnews (by omega) (by omega) (growslice_fits (by omega) (by rw [hz2]; omega))
    have hge := grownCap_ge w (l.length + m.length) l.length BT
    have hcm : grownCap w (l.length + m.length) l.length BT ≤ maxLen := grownCap_le_maxLen w (l.length + m.length) l.length BT (by unfold maxLen; omega)
    refine wpList_plain hgd fun K hK => ?_
    unfold Oper.wp execOp
    simp only [ho, resolve, invoke, builtin, Sem.run_bind, Sem.run_pure, Result.andThen_ok, List.map_toArray, List.map_cons, List.map_nil, hs, hx.trans hv, hr]
    refine hK _ _ (h _ _ ⟨by simp, .inr ⟨w.heap.size, _, _, by rw [List.length_append], Nat.le_refl _, heap_alloc_new w.drew _, by rw [List.length_append]; exact hge, hcm, ?_, ?_⟩⟩ (over_alloc (over_drew w) _))
    · simp only [Array.size_append, List.size_toArray, size_zeroCells, List.length_map]
      have : (Value.cells (.int .u8 0)).size = 1 := rfl
      rw [this]
      omega
    · simp only [Array.toList_append]
      rw [List.take_append_of_le_length (by simp), List.take_of_length_le (by simp)]
      simp
/-- append of a string's bytes -/
theorem wp_app_str {ops : Array Oper} {rest : List Oper} {o : Oper} {a : Act} {Q : Exit → Act → World → Prop} {w : World} (hgd : o.guard = none) (sl x : Operand)
    (ho : o.op = .call { callee := .builtin .append, args := #[sl, x], argTypes := #[26, 9] })
    (base : Nat) (v : Value) (l : List Int) (s : ByteArray) (hs : a.eval sl = v) (hx : a.eval x = .string s) (hown : Own w base v l) (hlen : l.length + s.size ≤ 4294967296) (hbase : base ≤ w.heap.size)
    (h : ∀ v' w', Own w' base v' (l ++ sb s) → w.grownBy w' v.ownBlock → wpList Tryd.prog ops Q rest (a.put o.dst v') w') : wpList Tryd.prog ops Q (o :: rest) a w := by
  obtain ⟨i0, hi, hz0, hz1, hz2⟩ := info_parts infoB
  refine Lib.wpList_append_own_string w hgd sl x 26 9 ho base BT i0 Tryd.underlying26 Tryd.underlying9 hi hz0 hz1 hz2 v l.length (l.map (Value.int .u8)) hs hown s hx (by unfold maxLen; omega) (by omega) hbase ?_
  intro v' w' ho' hg' _
  refine h v' w' ?_ hg'
  unfold Own
  rw [List.length_append, sb_len, List.map_append, show (sb s).map (Value.int .u8) = Lib.strCells s by simp [sb, Lib.strCells]]
  exact ho'
theorem step_app_str {ops : Array Oper} {o : Oper} {a : Act} {K : Act → World → Prop} {Q : Exit → Act → World → Prop} {E : Prop} {w : World} (hgd : o.guard = none) (sl x : Operand)
    (ho : o.op = .call { callee := .builtin .append, args := #[sl, x], argTypes := #[26, 9] })
    (base : Nat) (v : Value) (l : List Int) (s : ByteArray) (hs : a.eval sl = v) (hx : a.eval x = .string s) (hown : Own w base v l) (hlen : l.length + s.size ≤ 4294967296) (hbase : base ≤ w.heap.size)
    (h : ∀ v' w', Own w' base v' (l ++ sb s) → w.grownBy w' v.ownBlock → K (a.put o.dst v') w') : if Region.wanted o (yielded ops a.tmps) = true then Oper.wp Tryd.prog o a w K Q else E := by
  have hw : Region.wanted o (yielded ops a.tmps) = true := by simp [Region.wanted, hgd]
  rw [if_pos hw]
  obtain ⟨i0, hi, hz0, hz1, hz2⟩ := info_parts infoB
  obtain ⟨v', w', hr, h2, h3, _⟩ := Lib.run_append_own_string (P := Tryd.prog) w base 26 9 o.type BT i0 Tryd.underlying26 Tryd.underlying9 hi hz0 hz1 hz2 v l.length (l.map (Value.int .u8)) hown s (by unfold maxLen; omega) (by omega) hbase
  unfold Oper.wp execOp
  simp only [ho, resolve, invoke, builtin, Sem.run_bind, Sem.run_pure, Result.andThen_ok, List.map_toArray, List.map_cons, List.map_nil, hs, hx, hr]
  refine h v' w' ?_ h3
  unfold Own
  rw [List.length_append, sb_len, List.map_append, show (sb s).map (Value.int .u8) = Lib.strCells s by simp [sb, Lib.strCells]]
  exact h2
theorem heldV {V w : World} {A k : Nat} {u : Value} (lt : A < V.heap.size) (c : V.cell? ⟨A, k, none⟩ = some u) (h : Over V w) :
    Over V w ∧ w.cell? ⟨A, k, none⟩ = some u := ⟨h, over_cell h lt c⟩
theorem spaced_succ (l : List Int) (k : Nat) (h : k < l.length) : spaced (l.take (k + 1)) = spaced (l.take k) ++ ([32] ++ dgI (l.getD k 0)) := by
  unfold spaced
  rw [List.take_succ_eq_append_getElem h, List.map_append, List.flatten_append]
  simp [List.getD, h]
theorem spaced_take_len (l : List Int) (k : Nat) (h : ∀ x ∈ l, 0 ≤ x ∧ x ≤ 65535) (hl : l.length ≤ 8) : (spaced (l.take k)).length ≤ 48 := by
  have := spaced_len (l.take k) (fun x hx => h x (List.mem_of_mem_take hx))
  have q : (l.take k).length ≤ l.length := by rw [List.length_take]; omega
  omega
theorem heldW {V w : World} {A k b j : Nat} {u v : Value} (lt : A < V.heap.size) (c : V.cell? ⟨A, k, none⟩ = some u) (d : V.cell? ⟨b, j, none⟩ = some v) (h : Over V w) :
    Over V w ∧ w.cell? ⟨A, k, none⟩ = some u ∧ w.cell? ⟨b, j, none⟩ = some v := ⟨h, over_cell h lt c, over_cell h (World.block_lt_of_cell? V _ d) d⟩
theorem cell_marked2 (w : World) (C : Array Value) (t : TypeId) (fz : Nat × Nat) (i : Nat) : (w.alloc (.cells C t fz)).cell? ⟨w.heap.size, i, none⟩ = C[i]? := by
  have h : (w.alloc (.cells C t fz)).heap[w.heap.size]? = some (.cells C t fz) := by
    show (w.heap.push _)[w.heap.size]? = _
    simp
  unfold World.cell?
  rw [h]
  rfl
set_option maxHeartbeats 2000000 in
theorem satext_any (pv cv : Value) (p c : List Int) (pr bw : Int) (w : World) (hp : RdI w pv p) (hc : RdI w cv c) :
    Calls Tryd.prog 5 #[.agg #[pv, .int .i64 pr, cv, .int .i64 bw]] w (NewB w (atextL p pr c bw)) := by
  obtain ⟨pa, pd, rfl⟩ := hp.len
  obtain ⟨ca, cd, rfl⟩ := hc.len
  have E0 : Below w.heap.size w (w.alloc (.cells #[.slice pa p.length pd, .int .i64 pr, .slice ca c.length cd, .int .i64 bw] 28)) := (Below.refl _ _).alloc (Nat.le_refl _) _
  obtain ⟨A, hA⟩ : ∃ A, A = w.heap.size := ⟨_, rfl⟩
  have bA := Bx.new w (.slice pa p.length pd) (.int .i64 pr) (.slice ca c.length cd) (.int .i64 bw) 28 A hA
  have hkc := fun (W : World) (C : Array Value) (n c : Nat) => Lib.run_convert_bytes_const (P := Tryd.prog) W 26 BT C n c Tryd.underlying26 Tryd.underlying5
  go_enter Tryd.func5, Tryd.ntmps5
  go_wp2_with fail
  rw [← hA]
  generalize w.alloc (.cells #[.slice pa p.length pd, .int .i64 pr, .slice ca c.length cd, .int .i64 bw] 28) = w0 at E0 bA ⊢
  clear hA
  refine (saok_any _ _ p c pr bw _ (hp.keep E0) (hc.keep E0)).mono ?_
  rintro e w1 ⟨rfl, hb1⟩
  replace bA := bA.keep hb1
  replace E0 := below_step E0 hb1
  clear hb1
  cases hk : aokB p pr c bw
  · have HL : Hid (atextL p pr c bw = []) := Lib.hid (by simp [atextL, hk])
    clear hk
    go_wp2_with fail
    go_ret
    rw [HL.out]
    exact ⟨_, rfl, World.ownsRow_nil _ _ _ _, E0⟩
  · have HL : Hid (atextL p pr c bw = atxt p pr c bw) := Lib.hid (by simp [atextL, hk])
    obtain ⟨p8, c4, -, np, nc⟩ := aok_p hk
    obtain ⟨⟨r0, r1⟩, b0, b1⟩ := aok_bw hk
    have hlen := atxt_len hk
    have c8 : c.length ≤ 8 := by omega
    replace np := nums_mem np
    replace nc := nums_mem nc
    clear hk
    obtain ⟨lA, a0, a1, a2, a3, -, -, -, -⟩ := bA
    go_wp2_with fail
    have dgp := dgI_pos pr
    have dgl := dgI_len5 pr r0 (by omega)
    refine (dig5 pr _ r0 (by omega)).mono ?_
    rintro e w2 ⟨u2, rfl, ho2, hb2⟩
    have hM : ∀ i, i < [112, 114, 101, 102, 32].length → w2.cell? ⟨w1.heap.size, i, none⟩ = some (.int .u8 (([112, 114, 101, 102, 32] : List Int).getD i 0)) := fun i hi =>
      cell_keep hb2 (by simp) (by
        rw [cell_marked2]
        match i, hi with
        | 0, _ => rfl
        | 1, _ => rfl
        | 2, _ => rfl
        | 3, _ => rfl
        | 4, _ => rfl)
    have O2 : Over w1 w2 := over_step (over_alloc (over_refl w1) _) hb2
    have HM := Lib.hid hM
    clear hM hb2
    go_wp2_with (at_builtin; refine Hid.out ?_)
    refine Lib.hid ?_
    refine wp_app_full rfl _ _ rfl w1.heap.size u2 [112, 114, 101, 102, 32] (dgI pr) rfl rfl HM.out (ho2.rd (dgI_bd _)) dgp (by simp; omega) ?_
    intro v3 w3 own3 hb3
    have O3 := over_step O2 hb3
    have Z3 : w1.heap.size ≤ w2.heap.size := (over_below O2).size
    replace own3 := own3.mono Z3
    have q3 := over_cell O3 lA a3
    clear HM ho2 hb3 O2 Z3
    go_wp2_with fail
    have dbl := dgI_len5 bw b0 (by omega)
    have dbp := dgI_pos bw
    have O3d := over_trans O3 (over_drew w3)
    have own3d := own3.keep (over_drew w3)
    have Z3 := (over_below O3d).size
    have sz4 : (sb ⟨#[32, 98, 119, 32]⟩).length = 4 := rfl
    have hl4 : (([112, 114, 101, 102, 32] : List Int) ++ dgI pr).length + (⟨#[32, 98, 119, 32]⟩ : ByteArray).size ≤ 4294967296 := by
      show _ + 4 ≤ _
      simp only [List.length_append, List.length_cons, List.length_nil]
      omega
    have hl6 : ((([112, 114, 101, 102, 32] : List Int) ++ dgI pr) ++ sb ⟨#[32, 98, 119, 32]⟩).length + (dgI bw).length ≤ 4294967296 := by
      simp only [List.length_append, List.length_cons, List.length_nil, sz4]
      omega
    go_region_held3 (fun w' => Over w1 w' ∧ w'.cell? ⟨A, 3, none⟩ = some (.int .i64 bw))
      ((first | exact heldV lA a3 O3d | assumption | exact heldV lA a3 (by assumption)))
      ((first | (go_at_call 15; refine (dig5 bw _ b0 (by omega)).mono ?_; rintro e w5 ⟨u5, rfl, ho5, hb5⟩; have O5 := over_step O4 hb5; have own5 := own4.keep hb5; have Z5 := (over_below O5).size) | (refine step_app_str ?_ (.tmp 15) (.const (.string ⟨#[32, 98, 119, 32]⟩)) ?_ w1.heap.size v3 ([112, 114, 101, 102, 32] ++ dgI pr) ⟨#[32, 98, 119, 32]⟩ ?_ ?_ own3d hl4 Z3 ?_; rfl; rfl; rfl; rfl; intro v4 w4 own4 hg4; have O4 : Over w1 w4 := over_grown O3d own3d (Nat.le_refl _) hg4) | (refine step_app ?_ (.tmp 16) (.tmp 19) ?_ w1.heap.size v4 u5 _ (dgI bw) ?_ ?_ own5 (ho5.rd (dgI_bd _)) dbp hl6 Z5 ?_; rfl; rfl; rfl; rfl; intro v6 w6 own6 hg6; have O6 : Over w1 w6 := over_grown O5 own5 (Nat.le_refl _) hg6)))
    clear own3 own3d O3 O3d q3 hl4 hl6 Z3 own4 O4 hg4 own5 O5 Z5 ho5 hb5 hg6 dgp
    have Z6 := (over_below O6).size
    have hl8 : ((([112, 114, 101, 102, 32] : List Int) ++ dgI pr) ++ sb ⟨#[32, 98, 119, 32]⟩ ++ dgI bw).length + (⟨#[32, 112, 97, 116, 104]⟩ : ByteArray).size ≤ 100 := by
      show _ + 5 ≤ _
      simp only [List.length_append, List.length_cons, List.length_nil, sz4]
      omega
    go_wp2_with (at_builtin; refine Hid.out ?_)
    refine Lib.hid ?_
    refine wp_app_str rfl _ _ rfl w1.heap.size v6 _ ⟨#[32, 112, 97, 116, 104]⟩ rfl rfl own6 (by omega) Z6 ?_
    intro v8 w8 own8 hg8
    have O8 : Over w1 w8 := over_grown O6 own6 (Nat.le_refl _) hg8
    obtain ⟨L0, hL0⟩ : ∃ L0, L0 = ((([112, 114, 101, 102, 32] : List Int) ++ dgI pr) ++ sb ⟨#[32, 98, 119, 32]⟩ ++ dgI bw) ++ sb ⟨#[32, 112, 97, 116, 104]⟩ := ⟨_, rfl⟩
    have hl0 : L0.length ≤ 100 := by rw [hL0, List.length_append]; exact hl8
    rw [← hL0] at own8
    have HL0 := Lib.hid hL0
    clear hL0 hl8 own6 O6 Z6 hg8 dgl dbl dbp sz4 hkc
    go_wp2_with fail
    have Z0 := (over_below O8).size
    go_loopw [3, 4] (fun bv i wr => ∃ k : Nat, k ≤ p.length ∧ i = .int .i64 (k : Int) ∧ Own wr w1.heap.size bv (L0 ++ spaced (p.take k)) ∧ Over w1 wr) (fun _ i _ => p.length - (intOf i).toNat)
    case atStart => exact ⟨0, Nat.zero_le _, rfl, by simpa [spaced] using own8, O8⟩
    case round =>
      obtain ⟨k, hk, rfl, ownk, Ok⟩ := hrel
      have ak := over_cell Ok lA a0
      by_cases hlt : k < p.length
      · have hltI : (k : Int) < (p.length : Int) := by omega
        obtain ⟨b, o, rfl, hcl⟩ := (hp.keep E0).at (Nat.lt_of_le_of_lt (Nat.zero_le _) hlt)
        have e1 := hcl k hlt
        have hs := spaced_succ p k hlt
        have hlk : (L0 ++ spaced (p.take k)).length ≤ 300 := by have := spaced_take_len p k np p8; rw [List.length_append]; omega
        have hxm : p.getD k 0 ∈ p := by simp [List.getD, hlt]
        obtain ⟨x0, x9⟩ := np _ hxm
        obtain ⟨x, hx⟩ : ∃ x, p.getD k 0 = x := ⟨_, rfl⟩
        obtain ⟨Lk, hLk⟩ : ∃ Lk, L0 ++ spaced (p.take k) = Lk := ⟨_, rfl⟩
        rw [hx] at e1 hs x0 x9
        rw [hLk] at hlk ownk
        have HS : Hid (L0 ++ spaced (p.take (k + 1)) = (Lk ++ [32]) ++ dgI x) := Lib.hid (by rw [hs, ← List.append_assoc, hLk, List.append_assoc])
        clear hcl hs hxm hx hLk
        have dxl := dgI_len5 x x0 (by omega)
        have dxp := dgI_pos x
        have ownd : Own (_root_.Go.World.alloc (World.drew _) (.cells #[.int .u8 32] BT)) w1.heap.size _ Lk := (ownk.keep (over_drew _)).alloc (.cells #[.int .u8 32] BT)
        have Od := over_alloc (over_trans Ok (over_drew _)) (.cells #[.int .u8 32] BT)
        have Zd := (over_below Od).size
        have h1 : Lk.length + [(32 : Int)].length ≤ 4294967296 := by simp; omega
        have h2 : (Lk ++ [32]).length + (dgI x).length ≤ 4294967296 := by simp; omega
        have Od0 := over_trans Ok (over_drew wr)
        go_wp2_with fail
        go_region_held3 (fun w' => Over w1 w' ∧ w'.cell? ⟨A, 0, none⟩ = some (.slice (some ⟨b, o, none⟩) p.length pd) ∧ w'.cell? ⟨b, o + k, none⟩ = some (.int .i64 x))
          ((first | exact heldW lA a0 e1 Od0 | assumption | exact heldW lA a0 e1 Od | exact heldW lA a0 e1 (by assumption)))
          ((first | (go_at_call 15; refine (dig5 x _ x0 (by omega)).mono ?_; rintro e wd ⟨ud, rfl, hod, hbd⟩; have Oe := over_step Oa hbd; have owne := owna.keep hbd; have Ze := (over_below Oe).size) | (refine step_app ?_ (.tmp 30) (.tmp 31) ?_ w1.heap.size _ (.slice (some ⟨wr.heap.size, 0, none⟩) 1 1) Lk [32] ?_ ?_ ownd (rd_lit1_at wr.drew wr.heap.size 32 (by simp) (by decide)) (by decide) h1 Zd ?_; rfl; rfl; rfl; rfl; intro va wa owna hga; have Oa : Over w1 wa := over_grown Od ownd (Nat.le_refl _) hga) | (refine step_app ?_ (.tmp 32) (.tmp 38) ?_ w1.heap.size va ud (Lk ++ [32]) (dgI x) ?_ ?_ owne (hod.rd (dgI_bd _)) dxp h2 Ze ?_; rfl; rfl; rfl; rfl; intro vc wc ownc hgc; have Oc : Over w1 wc := over_grown Oe owne (Nat.le_refl _) hgc)))
        clear owna owne Oa Oe hbd hod hga hgc ownd Od Od0 Zd Ze
        go_wp2_with fail
        go_roundw
        case rel => exact ⟨k + 1, by omega, by simp, by rw [HS.out]; exact ownc, Oc⟩
        case measure => simp [intOf]; omega
      · have hltI : ¬ (k : Int) < (p.length : Int) := by omega
        have hkn : p.take k = p := List.take_of_length_le (by omega)
        rw [hkn] at ownk
        clear hkn hlt
        have a2k := over_cell Ok lA a2
        have Zk := (over_below Ok).size
        by_cases hc0 : c = []
        · have hcl3 : c.length = 0 := by rw [hc0]; rfl
          have hF : Hid (atxt p pr c bw = L0 ++ spaced p) := Lib.hid (by rw [HL0.out]; unfold atxt; rw [if_pos hc0]; simp [sb])
          clear hc0
          go_wp2_with fail
          refine wp_loop_rounds 1 ?_
          rw [rounds_succ]
          go_wp2_with fail
          go_ret
          rw [HL.out, hF.out]
          exact ⟨_, rfl, ownk.mono E0.size, below_step E0 (over_below Ok)⟩
        · have hcl3 : 0 < c.length := List.length_pos_iff.2 hc0
          have hF : Hid (atxt p pr c bw = (L0 ++ spaced p) ++ sb ⟨#[32, 109, 97, 114, 107, 115]⟩ ++ spaced c) := Lib.hid (by rw [HL0.out]; unfold atxt; rw [if_neg hc0]; simp [sb])
          clear hc0
          have hsp := spaced_take_len p p.length np p8
          rw [List.take_length] at hsp
          have hl9 : (L0 ++ spaced p).length + (⟨#[32, 109, 97, 114, 107, 115]⟩ : ByteArray).size ≤ 200 := by
            show _ + 6 ≤ _
            rw [List.length_append]
            omega
          go_wp2_with (at_builtin; refine Hid.out ?_)
          refine Lib.hid ?_
          refine wp_app_str rfl _ _ rfl w1.heap.size _ (L0 ++ spaced p) ⟨#[32, 109, 97, 114, 107, 115]⟩ rfl rfl ownk (by omega) Zk ?_
          intro v9 w9 own9 hg9
          have O9 : Over w1 w9 := over_grown Ok ownk (Nat.le_refl _) hg9
          obtain ⟨L1, hL1⟩ : ∃ L1, L1 = (L0 ++ spaced p) ++ sb ⟨#[32, 109, 97, 114, 107, 115]⟩ := ⟨_, rfl⟩
          have hl1 : L1.length ≤ 200 := by rw [hL1, List.length_append]; exact hl9
          rw [← hL1] at own9
          replace hF : Hid (atxt p pr c bw = L1 ++ spaced c) := Lib.hid (by rw [hL1]; exact hF.out)
          clear hL1 hl9 hg9 ownk Ok Zk a2k hl0 ak
          go_wp2_with fail
          have Z0 := (over_below O9).size
          go_loopw [3, 5] (fun bv i wr => ∃ k : Nat, k ≤ c.length ∧ i = .int .i64 (k : Int) ∧ Own wr w1.heap.size bv (L1 ++ spaced (c.take k)) ∧ Over w1 wr) (fun _ i _ => c.length - (intOf i).toNat)
          case atStart => exact ⟨0, Nat.zero_le _, rfl, by simpa [spaced] using own9, O9⟩
          case round =>
            obtain ⟨k, hk, rfl, ownk, Ok⟩ := hrel
            have ak := over_cell Ok lA a2
            by_cases hlt : k < c.length
            · have hltI : (k : Int) < (c.length : Int) := by omega
              obtain ⟨b, o, rfl, hcl⟩ := (hc.keep E0).at (Nat.lt_of_le_of_lt (Nat.zero_le _) hlt)
              have e1 := hcl k hlt
              have hs := spaced_succ c k hlt
              have hlk : (L1 ++ spaced (c.take k)).length ≤ 300 := by have := spaced_take_len c k nc c8; rw [List.length_append]; omega
              have hxm : c.getD k 0 ∈ c := by simp [List.getD, hlt]
              obtain ⟨x0, x9⟩ := nc _ hxm
              obtain ⟨x, hx⟩ : ∃ x, c.getD k 0 = x := ⟨_, rfl⟩
              obtain ⟨Lk, hLk⟩ : ∃ Lk, L1 ++ spaced (c.take k) = Lk := ⟨_, rfl⟩
              rw [hx] at e1 hs x0 x9
              rw [hLk] at hlk ownk
              have HS : Hid (L1 ++ spaced (c.take (k + 1)) = (Lk ++ [32]) ++ dgI x) := Lib.hid (by rw [hs, ← List.append_assoc, hLk, List.append_assoc])
              clear hcl hs hxm hx hLk
              have dxl := dgI_len5 x x0 (by omega)
              have dxp := dgI_pos x
              have ownd : Own (_root_.Go.World.alloc (World.drew _) (.cells #[.int .u8 32] BT)) w1.heap.size _ Lk := (ownk.keep (over_drew _)).alloc (.cells #[.int .u8 32] BT)
              have Od := over_alloc (over_trans Ok (over_drew _)) (.cells #[.int .u8 32] BT)
              have Zd := (over_below Od).size
              have h1 : Lk.length + [(32 : Int)].length ≤ 4294967296 := by simp; omega
              have h2 : (Lk ++ [32]).length + (dgI x).length ≤ 4294967296 := by simp; omega
              have Od0 := over_trans Ok (over_drew wr)
              go_wp2_with fail
              go_region_held3 (fun w' => Over w1 w' ∧ w'.cell? ⟨A, 2, none⟩ = some (.slice (some ⟨b, o, none⟩) c.length cd) ∧ w'.cell? ⟨b, o + k, none⟩ = some (.int .i64 x))
                ((first | exact heldW lA a2 e1 Od0 | assumption | exact heldW lA a2 e1 Od | exact heldW lA a2 e1 (by assumption)))
                ((first | (go_at_call 15; refine (dig5 x _ x0 (by omega)).mono ?_; rintro e wd ⟨ud, rfl, hod, hbd⟩; have Oe := over_step Oa hbd; have owne := owna.keep hbd; have Ze := (over_below Oe).size) | (refine step_app ?_ (.tmp 53) (.tmp 54) ?_ w1.heap.size _ (.slice (some ⟨wr.heap.size, 0, none⟩) 1 1) Lk [32] ?_ ?_ ownd (rd_lit1_at wr.drew wr.heap.size 32 (by simp) (by decide)) (by decide) h1 Zd ?_; rfl; rfl; rfl; rfl; intro va wa owna hga; have Oa : Over w1 wa := over_grown Od ownd (Nat.le_refl _) hga) | (refine step_app ?_ (.tmp 55) (.tmp 61) ?_ w1.heap.size va ud (Lk ++ [32]) (dgI x) ?_ ?_ owne (hod.rd (dgI_bd _)) dxp h2 Ze ?_; rfl; rfl; rfl; rfl; intro vc wc ownc hgc; have Oc : Over w1 wc := over_grown Oe owne (Nat.le_refl _) hgc)))
              clear owna owne Oa Oe hbd hod hga hgc ownd Od Od0 Zd Ze
              go_wp2_with fail
              go_roundw
              case rel => exact ⟨k + 1, by omega, by simp, by rw [HS.out]; exact ownc, Oc⟩
              case measure => simp [intOf]; omega
            · have hltI : ¬ (k : Int) < (c.length : Int) := by omega
              have hkn : c.take k = c := List.take_of_length_le (by omega)
              rw [hkn] at ownk
              clear hkn hlt
              go_wp2_with fail
              go_ret
              rw [HL.out, hF.out]
              exact ⟨_, rfl, ownk.mono E0.size, below_step E0 (over_below Ok)⟩
end Go.Proofs.YtichmbbpjkikaabDoor
