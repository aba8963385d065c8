/-
  Words for the laws on switches. Conditions: those in each statement.
  Copies of switches and NodeDrain, of the program and of the model. Conditions: those in each contract.
  Words for the laws on functions that answer a switch. Conditions: those in each statement.
-/
import Derived.Test.YtaiffofmhfflkaaGreatZH
import Derived.Test.YtaiffofmhfflkaaGreatZD
import Derived.Deep.RegionHeld
namespace Go.Proofs.YtaiffofmhfflkaaGreat
open Go.ChangeShapes Go.WideShapes Go.ChangeAt Go.RowKit Go.BigFrame Go.Joins
set_option linter.unusedVariables false
set_option maxRecDepth 100000
set_option linter.unusedSimpArgs false
set_option maxRecDepth 100000

/-- the numbers of its slices are numbers -/
def BdN (N : Nd) : Prop := (∀ i, i < N.rib.length → BdE (N.rib.getD i e0)) ∧ ∀ i, i < N.sent.length → BdE (N.sent.getD i e0)
theorem RdN.bd {w : World} {ov rv sv : Value} {N : Nd} (h : RdN w ov rv sv N) : BdN N := ⟨h.2.1.bd, h.2.2.bd⟩
theorem newNd_open {w w' : World} {N : Nd} {e : Ending} (h : NewNd w N e w') (hd : BdN N) (hn : wtN N ≤ 1048576) : ∃ ov rv sv, e = .returned (.agg #[.int .i64 N.an, ov, .int .i64 N.bw, .bool N.dr, rv, sv]) ∧ RdN w' ov rv sv N ∧ Below w.heap.size w w' := by
  obtain ⟨ov, ru, su, h1, h2, rfl, ho, -, hr, -, hs, -, -, -, -, hb⟩ := h
  have l2 : N.rib.length ≤ 1048576 := by unfold wtN at hn; omega
  have l3 : N.sent.length ≤ 1048576 := by unfold wtN at hn; omega
  exact ⟨ov, ru, su, rfl, ⟨ho.rd, hr.rd hd.1 l2, hs.rd hd.2 l3⟩, hb⟩
theorem toNd_p {ov rv sv : Value} {N : Nd} {w : World} (h : RdN w ov rv sv N) (hd : BdN N) (hn : wtN N ≤ 1048576) :
    Calls Tryz.prog 12 #[.agg #[.int .i64 N.an, ov, .int .i64 N.bw, .bool N.dr, rv, sv]] w fun e w' => ∃ o r s, e = .returned (.agg #[.int .i64 N.an, o, .int .i64 N.bw, .bool N.dr, r, s]) ∧ RdN w' o r s N ∧ Below w.heap.size w w' :=
  (toNd_any ov rv sv N w h hn).mono fun e w' q => newNd_open q hd hn
theorem sndok_t {ov rv sv : Value} {N : Nd} {b : Bool} (w : World) (h : RdN w ov rv sv N) (H : Hid (ndB N = b)) :
    Calls Tryz.prog 44 #[.agg #[.int .i64 N.an, ov, .int .i64 N.bw, .bool N.dr, rv, sv]] w fun e w' => e = .returned (.bool b) ∧ Below w.heap.size w w' := H.out ▸ sndok_any ov rv sv N w h
theorem indok_t {ov rv sv : Value} {N : Nd} {b : Bool} (w : World) (h : RdN w ov rv sv N) (H : Hid (ndB N = b)) :
    Calls Tryz.prog 65 #[.agg #[.int .i64 N.an, ov, .int .i64 N.bw, .bool N.dr, rv, sv]] w fun e w' => e = .returned (.bool b) ∧ Below w.heap.size w w' := H.out ▸ indok_any ov rv sv N w h
end Go.Proofs.YtaiffofmhfflkaaGreat
namespace Go.Proofs.YtaiffofmhfflkaaGreat
open Go.ChangeShapes Go.WideShapes Go.ChangeAt Go.RowKit Go.BigFrame Go.Joins
set_option linter.unusedVariables false
set_option linter.unusedSimpArgs false
set_option maxRecDepth 100000

theorem wp_appPS {ops : Array Oper} {rest : List Oper} {o : Oper} {a : Act} {Q : Exit → Act → World → Prop} {w : World} (hgd : o.guard = none) (s x : Operand)
    (ho : o.op = .call { callee := .builtin .append, args := #[s, x], argTypes := #[29, 29] })
    (base : Nat) (v u : Value) (l m : List (Int × Int)) (hs : a.eval s = v) (hx : a.eval x = u) (hown : OwnP w base v l) (hu : RdP w u m) (hlen : l.length + m.length ≤ 4294967296) (hbase : base ≤ w.heap.size)
    (h : ∀ v' w', OwnP w' base v' (l ++ m) → w.grownBy w' v.ownBlock → wpList Tryz.prog ops Q rest (a.put o.dst v') w') : wpList Tryz.prog ops Q (o :: rest) a w := by
  obtain ⟨i0, hi, hz0, hz1, hz2⟩ := info_parts infoP
  have hmap : (flat l).map (Value.int .i64) ++ (flat m).map (Value.int .i64) = (flat (l ++ m)).map (Value.int .i64) := by rw [flat_append, List.map_append]
  have hl2 : (l ++ m).length = l.length + m.length := by simp
  have done : ∀ (ad : Addr) (c : Nat), u = .slice (some ad) m.length c → (∀ j y, ((flat m).map (Value.int .i64))[j]? = some y → w.cell? (ad.add j) = some y) → wpList Tryz.prog ops Q (o :: rest) a w := by
    intro ad c hv hc
    refine wpList_append_own w hgd s x 29 ho base PT i0 (.agg #[.int .i64 0, .int .i64 0]) 2 16 Tryz.underlying29 hi hz0 hz1 hz2 rfl (by decide) v l.length ((flat l).map (Value.int .i64)) hs hown ad m.length c ((flat m).map (Value.int .i64)) (hx.trans hv) (by simp [flat_len]) hc (by simp [Value.oneCell']) (by unfold maxLen; omega) (by omega) hbase ?_
    intro v' w' ho' hg' _
    refine h v' w' ?_ hg'
    unfold OwnP
    rw [hl2, ← hmap]
    exact ho'
  obtain ⟨hm, ⟨p, c, hv, rfl, hac⟩ | ⟨b, off, c, hv, hp, hc⟩⟩ := hu
  · cases p with
    | none =>
      have hc0 := hac rfl
      subst hc0
      refine wpList_append_own_none hgd s x 29 ho base PT i0 2 Tryz.underlying29 hi v l.length ((flat l).map (Value.int .i64)) hs hown (hx.trans hv) ?_
      exact h v w (by simpa using hown) ⟨rfl, rfl, rfl, Nat.le_refl _, fun _ _ _ => rfl⟩
    | some ad => exact done ad c hv (by simp [flat])
  · refine done ⟨b, off, none⟩ c hv (fun j y hy => ?_)
    have hj : j < m.length * 2 := by
      have := (List.getElem?_eq_some_iff.1 hy).1
      rw [List.length_map, flat_len] at this
      exact this
    have hadd : (⟨b, off, none⟩ : Addr).add j = ⟨b, off + j, none⟩ := by unfold Addr.add; split <;> simp_all
    rw [hadd]
    obtain ⟨i, hi' | hi'⟩ : ∃ i, j = i * 2 ∨ j = i * 2 + 1 := ⟨j / 2, by omega⟩
    · have e := flat_get m i (by omega)
      subst hi'
      rw [List.getElem?_map, e.1] at hy
      rw [(hc i (by omega)).1]
      simpa using hy
    · have e := flat_get m i (by omega)
      subst hi'
      rw [List.getElem?_map, e.2] at hy
      rw [show off + (i * 2 + 1) = off + i * 2 + 1 by omega, (hc i (by omega)).2]
      simpa using hy
theorem OwnP.lenS8 {w : World} {base : Nat} {v : Value} {l : List (Int × Int)} (h : OwnP w base v l) : ∃ a c, v = .slice a l.length c := by
  obtain ⟨a, c, hv, -⟩ := h.cap
  exact ⟨a, c, hv⟩
theorem NdT.far {w : World} {b0 h1 h2 h3 C o : Nat} {ov ru su u : Value} {own : List (Int × Int)} {T1 T2 : List ET} (h : NdT w b0 h1 h2 h3 ov ru su own T1 T2) (hC : C < b0) : NdT (w.setCell ⟨C, o, none⟩ u) b0 h1 h2 h3 ov ru su own T1 T2 :=
  ⟨h.o.far hC, h.oh, h.r.far (Nat.lt_of_lt_of_le hC h.q1), h.ri, h.s.far (Nat.lt_of_lt_of_le hC (Nat.le_trans h.q1 h.q2)), h.si, h.q1, h.q2, h.q3⟩
/-- a switch of the call's own that reads as D -/
def NewNdT (w : World) (D : Nd) (e : Ending) (w' : World) : Prop :=
  ∃ ov ru su T1 T2 b0 h1 h2, e = .returned (.agg #[.int .i64 D.an, ov, .int .i64 D.bw, .bool D.dr, ru, su]) ∧ NdT w' b0 h1 h2 w'.heap.size ov ru su D.own T1 T2 ∧ entT T1 = D.rib ∧ entT T2 = D.sent ∧ w.heap.size ≤ b0 ∧ Below w.heap.size w w'
theorem NdT.rd {w : World} {b0 h1 h2 h3 : Nat} {ov ru su : Value} {D : Nd} {T1 T2 : List ET} (h : NdT w b0 h1 h2 h3 ov ru su D.own T1 T2) (e1 : entT T1 = D.rib) (e2 : entT T2 = D.sent) (hd : BdN D) : RdN w ov ru su D :=
  ⟨h.o.rd, e1 ▸ h.r.rd (fun t ht => bd_mem (L := D.rib) hd.1 (e1 ▸ entT_mem ht)), e2 ▸ h.s.rd (fun t ht => bd_mem (L := D.sent) hd.2 (e2 ▸ entT_mem ht))⟩
theorem NdT.lens {w : World} {b0 h1 h2 h3 : Nat} {ov ru su : Value} {own : List (Int × Int)} {T1 T2 : List ET} (h : NdT w b0 h1 h2 h3 ov ru su own T1 T2) : (∃ a c, ov = .slice a own.length c) ∧ (∃ a c, ru = .slice a T1.length c) ∧ ∃ a c, su = .slice a T2.length c := ⟨h.o.lenS8, h.r.lenV, h.s.lenV⟩
set_option maxHeartbeats 2000000 in
theorem icopy8_any (ov rv sv : Value) (N : Nd) (w : World) (h : RdN w ov rv sv N) (hn : wtN N ≤ 1048576) :
    Calls Tryz.prog 51 #[.agg #[.int .i64 N.an, ov, .int .i64 N.bw, .bool N.dr, rv, sv]] w (NewNdT w N) := by
  have hl1 : N.own.length ≤ 1048576 := by unfold wtN at hn; omega
  have hl2 : N.rib.length + wtE N.rib ≤ 1048576 := by unfold wtN at hn; omega
  have hl3 : N.sent.length + wtE N.sent ≤ 1048576 := by unfold wtN at hn; omega
  obtain ⟨oa, oc, hov⟩ := h.1.len
  obtain ⟨ra, rc, hrv⟩ := h.2.1.len
  obtain ⟨sa, sc, hsv⟩ := h.2.2.len
  subst hov hrv hsv
  obtain ⟨bA, bR, B1, z⟩ := two w [.int .i64 N.an, .slice oa N.own.length oc, .int .i64 N.bw, .bool N.dr, .slice ra N.rib.length rc, .slice sa N.sent.length sc] [.int .i64 0, .slice none 0 0, .int .i64 0, .bool false, .slice none 0 0, .slice none 0 0] 34 34
  obtain ⟨V, hV⟩ : ∃ V, V = (w.alloc (.cells #[.int .i64 N.an, .slice oa N.own.length oc, .int .i64 N.bw, .bool N.dr, .slice ra N.rib.length rc, .slice sa N.sent.length sc] 34)).alloc (.cells #[.int .i64 0, .slice none 0 0, .int .i64 0, .bool false, .slice none 0 0, .slice none 0 0] 34) := ⟨_, rfl⟩
  have a1 := bA.c 1 rfl
  clear hn
  go_enter Tryz.func51, Tryz.ntmps51
  go_wp2_with (at_builtin; refine Hid.out ?_)
  refine Lib.hid ?_
  rw [← hV] at bA bR B1 z ⊢
  obtain ⟨A, hA⟩ : ∃ A, A = w.heap.size := ⟨_, rfl⟩
  obtain ⟨R, hR⟩ : ∃ R, R = w.heap.size + 1 := ⟨_, rfl⟩
  rw [← hA] at bA
  rw [← hR] at bR
  rw [← hR]
  try rw [← hA]
  have hAR : A ≠ R := by omega
  have hwA : w.heap.size ≤ A := by omega
  have hwR : w.heap.size ≤ R := by omega
  have hAV : A < V.heap.size := by rw [z]; omega
  have hRV : R < V.heap.size := by rw [z]; omega
  have hwV : w.heap.size ≤ V.heap.size := by omega
  have hVA : A + 2 = V.heap.size := by omega
  clear hV hA hR z a1
  refine wp_appPS rfl _ _ rfl V.heap.size (.slice none 0 0) (.slice oa N.own.length oc) [] N.own rfl rfl (World.ownsRow_nil _ _ _ _) (h.keep B1).1 (by simp; omega) (Nat.le_refl _) ?_
  intro v1 w1 ho1 hg1
  rw [List.nil_append] at ho1
  obtain ⟨x1, y1, rfl⟩ := ho1.lenS8
  replace bA := bA.grown hg1 (by simp [Value.ownBlock])
  replace bR := bR.grown hg1 (by simp [Value.ownBlock])
  have B2 : Below w.heap.size w w1 := Below.grown B1 hg1 B1.size (fun k hk => by simp [Value.ownBlock] at hk)
  have hVw : V.heap.size ≤ w1.heap.size := hg1.size
  clear hg1 B1
  have a1 := bA.c 1 rfl
  have af1 := bA.f 1 rfl
  have a4 := bA.c 4 rfl
  go_wp2_with fail
  clear a1 af1 a4
  have bA2 := bA.set 1 (.slice x1 N.own.length y1)
  have bR2 := bR.far (o := 1) (u := .slice x1 N.own.length y1) hAR.symm
  have ho2 := ho1.far (o := 1) (u := .slice x1 N.own.length y1) hAV
  have B3 := B2.setCell (p := ⟨A, 1, none⟩) hwA (.slice x1 N.own.length y1)
  obtain ⟨W2, hW2⟩ : ∃ W, W = w1.setCell ⟨A, 1, none⟩ (.slice x1 N.own.length y1) := ⟨_, rfl⟩
  have hVW : V.heap.size ≤ W2.heap.size := by rw [hW2]; simpa using hVw
  rw [← hW2] at bA2 bR2 ho2 B3 ⊢
  have HOH : Hid (∀ k, (Value.slice x1 N.own.length y1).ownBlock = some k → k < W2.heap.size) := Lib.hid fun k hk => (World.ownsRow.lt ho2 k hk).2
  clear hW2 bA bR ho1 B2 hVw
  simp only [List.set_cons_zero, List.set_cons_succ] at bA2
  refine (irc_any _ N.rib W2 (h.keep B3).2.1 (by omega) (lens_of hl2)).mono ?_
  rintro e w2 ⟨ru, T1, rfl, hT1, hE1, hb⟩
  obtain ⟨x2, y2, rfl⟩ := hT1.lenV
  have HE1 := Lib.hid hE1
  have hI1 := Lib.hid hT1.inH
  have hs2 := hb.size
  replace bA2 := bA2.keep hb
  replace bR2 := bR2.keep hb
  replace ho2 := ho2.keep hb
  replace B3 := below_step B3 hb
  clear hb hE1
  have a4 := bA2.c 4 rfl
  have af4 := bA2.f 4 rfl
  have a5 := bA2.c 5 rfl
  go_wp2_with fail
  clear a4 af4 a5
  have bA3 := bA2.set 4 (.slice x2 T1.length y2)
  have bR3 := bR2.far (o := 4) (u := .slice x2 T1.length y2) hAR.symm
  have ho3 := ho2.far (o := 4) (u := .slice x2 T1.length y2) hAV
  have hT13 := hT1.far (o := 4) (u := .slice x2 T1.length y2) (Nat.lt_of_lt_of_le hAV hVW)
  have B4 := B3.setCell (p := ⟨A, 4, none⟩) hwA (.slice x2 T1.length y2)
  obtain ⟨W3, hW3⟩ : ∃ W, W = w2.setCell ⟨A, 4, none⟩ (.slice x2 T1.length y2) := ⟨_, rfl⟩
  have hs3 : w2.heap.size = W3.heap.size := by rw [hW3]; simp
  rw [← hW3] at bA3 bR3 ho3 hT13 B4 ⊢
  rw [hs3] at hI1 hs2
  clear hW3 bA2 bR2 ho2 B3 hT1 hs3
  simp only [List.set_cons_zero, List.set_cons_succ] at bA3
  refine (irc_any _ N.sent W3 (h.keep B4).2.2 (by omega) (lens_of hl3)).mono ?_
  rintro e w3 ⟨su, T2, rfl, hT2, hE2, hb⟩
  obtain ⟨x3, y3, rfl⟩ := hT2.lenV
  have HE2 := Lib.hid hE2
  have hI2 := Lib.hid hT2.inH
  have hs4 := hb.size
  replace bA3 := bA3.keep hb
  replace bR3 := bR3.keep hb
  replace ho3 := ho3.keep hb
  replace hT13 := hT13.keep hb
  replace B4 := below_step B4 hb
  have hN : NdT w3 V.heap.size W2.heap.size W3.heap.size w3.heap.size (.slice x1 N.own.length y1) (.slice x2 T1.length y2) (.slice x3 T2.length y3) N.own T1 T2 :=
    ⟨ho3, HOH.out, hT13, hI1.out, hT2, hI2.out, hVW, hs2, hs4⟩
  clear hb hE2 h ho3 hT13 hT2
  have bA4 := bA3.set 5 (.slice x3 T2.length y3)
  have bR4 := bR3.far (o := 5) (u := .slice x3 T2.length y3) hAR.symm
  have hN4 := hN.far (C := A) (o := 5) (u := .slice x3 T2.length y3) hAV
  have B5 := B4.setCell (p := ⟨A, 5, none⟩) hwA (.slice x3 T2.length y3)
  have a5 := bA3.c 5 rfl
  have af5 := bA3.f 5 rfl
  have k0 := bA4.c 0 rfl
  have k1 := bA4.c 1 rfl
  have k2 := bA4.c 2 rfl
  have k3 := bA4.c 3 rfl
  have k4 := bA4.c 4 rfl
  have k5 := bA4.c 5 rfl
  have r0 := bR4.c 0 rfl
  have rf0 := bR4.f 0 rfl
  have r1 := bR4.c 1 rfl
  have rf1 := bR4.f 1 rfl
  have r2 := bR4.c 2 rfl
  have rf2 := bR4.f 2 rfl
  have r3 := bR4.c 3 rfl
  have rf3 := bR4.f 3 rfl
  have r4 := bR4.c 4 rfl
  have rf4 := bR4.f 4 rfl
  have r5 := bR4.c 5 rfl
  have rf5 := bR4.f 5 rfl
  go_wp2_with fail
  have bE := ((((((bR4.set 0 (.int .i64 N.an)).set 1 (.slice x1 N.own.length y1)).set 2 (.int .i64 N.bw)).set 3 (.bool N.dr)).set 4 (.slice x2 T1.length y2)).set 5 (.slice x3 T2.length y3))
  have e0 := bE.c 0 rfl
  have e1 := bE.c 1 rfl
  have e2 := bE.c 2 rfl
  have e3 := bE.c 3 rfl
  have e4 := bE.c 4 rfl
  have e5 := bE.c 5 rfl
  exact bodyPost_ret (v := .agg #[.int .i64 N.an, .slice x1 N.own.length y1, .int .i64 N.bw, .bool N.dr, .slice x2 T1.length y2, .slice x3 T2.length y3]) (by simp [results, Tryz.results51, go_sem, e0, e1, e2, e3, e4, e5]) rfl
    ⟨_, _, _, T1, T2, V.heap.size, W2.heap.size, W3.heap.size, rfl, by simpa using ((((((hN4.far (C := R) (o := 0) (u := .int .i64 N.an) hRV).far (C := R) (o := 1) (u := .slice x1 N.own.length y1) hRV).far (C := R) (o := 2) (u := .int .i64 N.bw) hRV).far (C := R) (o := 3) (u := .bool N.dr) hRV).far (C := R) (o := 4) (u := .slice x2 T1.length y2) hRV).far (C := R) (o := 5) (u := .slice x3 T2.length y3) hRV), HE1.out, HE2.out, hwV, ((((((B5.setCell (p := ⟨R, 0, none⟩) hwR (.int .i64 N.an)).setCell (p := ⟨R, 1, none⟩) hwR (.slice x1 N.own.length y1)).setCell (p := ⟨R, 2, none⟩) hwR (.int .i64 N.bw)).setCell (p := ⟨R, 3, none⟩) hwR (.bool N.dr)).setCell (p := ⟨R, 4, none⟩) hwR (.slice x2 T1.length y2)).setCell (p := ⟨R, 5, none⟩) hwR (.slice x3 T2.length y3))⟩
set_option maxHeartbeats 2000000 in
theorem sown8_any (ov rv sv : Value) (N : Nd) (w : World) (h : RdN w ov rv sv N) (hn : wtN N ≤ 1048576) :
    Calls Tryz.prog 46 #[.agg #[.int .i64 N.an, ov, .int .i64 N.bw, .bool N.dr, rv, sv]] w (NewNdT w N) := by
  have hl1 : N.own.length ≤ 1048576 := by unfold wtN at hn; omega
  have hl2 : N.rib.length + wtE N.rib ≤ 1048576 := by unfold wtN at hn; omega
  have hl3 : N.sent.length + wtE N.sent ≤ 1048576 := by unfold wtN at hn; omega
  obtain ⟨oa, oc, hov⟩ := h.1.len
  obtain ⟨ra, rc, hrv⟩ := h.2.1.len
  obtain ⟨sa, sc, hsv⟩ := h.2.2.len
  subst hov hrv hsv
  obtain ⟨bA, bR, B1, z⟩ := two w [.int .i64 N.an, .slice oa N.own.length oc, .int .i64 N.bw, .bool N.dr, .slice ra N.rib.length rc, .slice sa N.sent.length sc] [.int .i64 0, .slice none 0 0, .int .i64 0, .bool false, .slice none 0 0, .slice none 0 0] 34 34
  obtain ⟨V, hV⟩ : ∃ V, V = (w.alloc (.cells #[.int .i64 N.an, .slice oa N.own.length oc, .int .i64 N.bw, .bool N.dr, .slice ra N.rib.length rc, .slice sa N.sent.length sc] 34)).alloc (.cells #[.int .i64 0, .slice none 0 0, .int .i64 0, .bool false, .slice none 0 0, .slice none 0 0] 34) := ⟨_, rfl⟩
  have a1 := bA.c 1 rfl
  clear hn
  go_enter Tryz.func46, Tryz.ntmps46
  go_wp2_with (at_builtin; refine Hid.out ?_)
  refine Lib.hid ?_
  rw [← hV] at bA bR B1 z ⊢
  obtain ⟨A, hA⟩ : ∃ A, A = w.heap.size := ⟨_, rfl⟩
  obtain ⟨R, hR⟩ : ∃ R, R = w.heap.size + 1 := ⟨_, rfl⟩
  rw [← hA] at bA
  rw [← hR] at bR
  rw [← hR]
  try rw [← hA]
  have hAR : A ≠ R := by omega
  have hwA : w.heap.size ≤ A := by omega
  have hwR : w.heap.size ≤ R := by omega
  have hAV : A < V.heap.size := by rw [z]; omega
  have hRV : R < V.heap.size := by rw [z]; omega
  have hwV : w.heap.size ≤ V.heap.size := by omega
  have hVA : A + 2 = V.heap.size := by omega
  clear hV hA hR z a1
  obtain ⟨bZ, N0, z0⟩ := one V ([] : List Value) PT
  have hem : OwnP (V.alloc (.cells #[] PT)) V.heap.size (.slice (some ⟨A + 2, 0, none⟩) 0 0) [] := by
    rw [hVA]
    exact World.ownsRow_lit (e := PT) (size := 2) V #[] 0 (Nat.le_refl _) (by simp) (by simp)
  refine wp_appPS rfl _ _ rfl V.heap.size (.slice (some ⟨A + 2, 0, none⟩) 0 0) (.slice oa N.own.length oc) [] N.own rfl rfl hem ((h.keep B1).1.keep N0) (by simp; omega) (Nat.le_trans (Nat.le_refl _) N0.size) ?_
  intro v1 w1 ho1 hg1
  rw [List.nil_append] at ho1
  obtain ⟨x1, y1, rfl⟩ := ho1.lenS8
  replace bA := (bA.keep N0).grown hg1 (by simp [Value.ownBlock])
  replace bR := (bR.keep N0).grown hg1 (by simp [Value.ownBlock]; omega)
  have B2 : Below w.heap.size w w1 := Below.grown (below_step B1 N0) hg1 (below_step B1 N0).size (fun k hk => by simp [Value.ownBlock] at hk; omega)
  have hVw : V.heap.size ≤ w1.heap.size := Nat.le_trans N0.size hg1.size
  clear hg1 B1
  have a1 := bA.c 1 rfl
  have af1 := bA.f 1 rfl
  have a4 := bA.c 4 rfl
  go_wp2_with fail
  clear a1 af1 a4
  have bA2 := bA.set 1 (.slice x1 N.own.length y1)
  have bR2 := bR.far (o := 1) (u := .slice x1 N.own.length y1) hAR.symm
  have ho2 := ho1.far (o := 1) (u := .slice x1 N.own.length y1) hAV
  have B3 := B2.setCell (p := ⟨A, 1, none⟩) hwA (.slice x1 N.own.length y1)
  obtain ⟨W2, hW2⟩ : ∃ W, W = w1.setCell ⟨A, 1, none⟩ (.slice x1 N.own.length y1) := ⟨_, rfl⟩
  have hVW : V.heap.size ≤ W2.heap.size := by rw [hW2]; simpa using hVw
  rw [← hW2] at bA2 bR2 ho2 B3 ⊢
  have HOH : Hid (∀ k, (Value.slice x1 N.own.length y1).ownBlock = some k → k < W2.heap.size) := Lib.hid fun k hk => (World.ownsRow.lt ho2 k hk).2
  clear hW2 bA bR ho1 B2 hVw
  simp only [List.set_cons_zero, List.set_cons_succ] at bA2
  refine (sown6_any _ N.rib W2 (h.keep B3).2.1 (by omega) (lens_of hl2)).mono ?_
  rintro e w2 ⟨ru, T1, rfl, hT1, hE1, hb⟩
  obtain ⟨x2, y2, rfl⟩ := hT1.lenV
  have HE1 := Lib.hid hE1
  have hI1 := Lib.hid hT1.inH
  have hs2 := hb.size
  replace bA2 := bA2.keep hb
  replace bR2 := bR2.keep hb
  replace ho2 := ho2.keep hb
  replace B3 := below_step B3 hb
  clear hb hE1
  have a4 := bA2.c 4 rfl
  have af4 := bA2.f 4 rfl
  have a5 := bA2.c 5 rfl
  go_wp2_with fail
  clear a4 af4 a5
  have bA3 := bA2.set 4 (.slice x2 T1.length y2)
  have bR3 := bR2.far (o := 4) (u := .slice x2 T1.length y2) hAR.symm
  have ho3 := ho2.far (o := 4) (u := .slice x2 T1.length y2) hAV
  have hT13 := hT1.far (o := 4) (u := .slice x2 T1.length y2) (Nat.lt_of_lt_of_le hAV hVW)
  have B4 := B3.setCell (p := ⟨A, 4, none⟩) hwA (.slice x2 T1.length y2)
  obtain ⟨W3, hW3⟩ : ∃ W, W = w2.setCell ⟨A, 4, none⟩ (.slice x2 T1.length y2) := ⟨_, rfl⟩
  have hs3 : w2.heap.size = W3.heap.size := by rw [hW3]; simp
  rw [← hW3] at bA3 bR3 ho3 hT13 B4 ⊢
  rw [hs3] at hI1 hs2
  clear hW3 bA2 bR2 ho2 B3 hT1 hs3
  simp only [List.set_cons_zero, List.set_cons_succ] at bA3
  refine (sown6_any _ N.sent W3 (h.keep B4).2.2 (by omega) (lens_of hl3)).mono ?_
  rintro e w3 ⟨su, T2, rfl, hT2, hE2, hb⟩
  obtain ⟨x3, y3, rfl⟩ := hT2.lenV
  have HE2 := Lib.hid hE2
  have hI2 := Lib.hid hT2.inH
  have hs4 := hb.size
  replace bA3 := bA3.keep hb
  replace bR3 := bR3.keep hb
  replace ho3 := ho3.keep hb
  replace hT13 := hT13.keep hb
  replace B4 := below_step B4 hb
  have hN : NdT w3 V.heap.size W2.heap.size W3.heap.size w3.heap.size (.slice x1 N.own.length y1) (.slice x2 T1.length y2) (.slice x3 T2.length y3) N.own T1 T2 :=
    ⟨ho3, HOH.out, hT13, hI1.out, hT2, hI2.out, hVW, hs2, hs4⟩
  clear hb hE2 h ho3 hT13 hT2
  have bA4 := bA3.set 5 (.slice x3 T2.length y3)
  have bR4 := bR3.far (o := 5) (u := .slice x3 T2.length y3) hAR.symm
  have hN4 := hN.far (C := A) (o := 5) (u := .slice x3 T2.length y3) hAV
  have B5 := B4.setCell (p := ⟨A, 5, none⟩) hwA (.slice x3 T2.length y3)
  have a5 := bA3.c 5 rfl
  have af5 := bA3.f 5 rfl
  have k0 := bA4.c 0 rfl
  have k1 := bA4.c 1 rfl
  have k2 := bA4.c 2 rfl
  have k3 := bA4.c 3 rfl
  have k4 := bA4.c 4 rfl
  have k5 := bA4.c 5 rfl
  have r0 := bR4.c 0 rfl
  have rf0 := bR4.f 0 rfl
  have r1 := bR4.c 1 rfl
  have rf1 := bR4.f 1 rfl
  have r2 := bR4.c 2 rfl
  have rf2 := bR4.f 2 rfl
  have r3 := bR4.c 3 rfl
  have rf3 := bR4.f 3 rfl
  have r4 := bR4.c 4 rfl
  have rf4 := bR4.f 4 rfl
  have r5 := bR4.c 5 rfl
  have rf5 := bR4.f 5 rfl
  go_wp2_with fail
  have bE := ((((((bR4.set 0 (.int .i64 N.an)).set 1 (.slice x1 N.own.length y1)).set 2 (.int .i64 N.bw)).set 3 (.bool N.dr)).set 4 (.slice x2 T1.length y2)).set 5 (.slice x3 T2.length y3))
  have e0 := bE.c 0 rfl
  have e1 := bE.c 1 rfl
  have e2 := bE.c 2 rfl
  have e3 := bE.c 3 rfl
  have e4 := bE.c 4 rfl
  have e5 := bE.c 5 rfl
  exact bodyPost_ret (v := .agg #[.int .i64 N.an, .slice x1 N.own.length y1, .int .i64 N.bw, .bool N.dr, .slice x2 T1.length y2, .slice x3 T2.length y3]) (by simp [results, Tryz.results46, go_sem, e0, e1, e2, e3, e4, e5]) rfl
    ⟨_, _, _, T1, T2, V.heap.size, W2.heap.size, W3.heap.size, rfl, by simpa using ((((((hN4.far (C := R) (o := 0) (u := .int .i64 N.an) hRV).far (C := R) (o := 1) (u := .slice x1 N.own.length y1) hRV).far (C := R) (o := 2) (u := .int .i64 N.bw) hRV).far (C := R) (o := 3) (u := .bool N.dr) hRV).far (C := R) (o := 4) (u := .slice x2 T1.length y2) hRV).far (C := R) (o := 5) (u := .slice x3 T2.length y3) hRV), HE1.out, HE2.out, hwV, ((((((B5.setCell (p := ⟨R, 0, none⟩) hwR (.int .i64 N.an)).setCell (p := ⟨R, 1, none⟩) hwR (.slice x1 N.own.length y1)).setCell (p := ⟨R, 2, none⟩) hwR (.int .i64 N.bw)).setCell (p := ⟨R, 3, none⟩) hwR (.bool N.dr)).setCell (p := ⟨R, 4, none⟩) hwR (.slice x2 T1.length y2)).setCell (p := ⟨R, 5, none⟩) hwR (.slice x3 T2.length y3))⟩
def nd0 : Nd := ⟨0, [], 0, false, [], []⟩
/-- what NodeDrain answers -/
def drainN (N : Nd) (on : Bool) : Nd := if ndB N = true then { N with dr := on } else nd0
theorem ndT_nil (w : World) : NdT w w.heap.size w.heap.size w.heap.size w.heap.size (.slice none 0 0) (.slice none 0 0) (.slice none 0 0) [] [] [] :=
  ⟨World.ownsRow_nil _ _ _ _, fun k hk => (by cases hk), OwnT.nil _ _, (OwnT.nil w w.heap.size).inH, OwnT.nil _ _, (OwnT.nil w w.heap.size).inH, Nat.le_refl _, Nat.le_refl _, Nat.le_refl _⟩
theorem NdT.wider {w : World} {b0 h1 h2 h3 h4 : Nat} {ov ru su : Value} {own : List (Int × Int)} {T1 T2 : List ET} (h34 : h3 ≤ h4) (h : NdT w b0 h1 h2 h3 ov ru su own T1 T2) : NdT w b0 h1 h2 h4 ov ru su own T1 T2 :=
  ⟨h.o, h.oh, h.r, h.ri, h.s, ⟨fun k hk => Nat.lt_of_lt_of_le (h.si.1 k hk) h34, fun t ht => ⟨fun k hk => Nat.lt_of_lt_of_le ((h.si.2 t ht).1 k hk) h34, fun k hk => Nat.lt_of_lt_of_le ((h.si.2 t ht).2 k hk) h34⟩⟩, h.q1, h.q2, Nat.le_trans h.q3 h34⟩
set_option maxHeartbeats 2000000 in
theorem idrain_any (ov rv sv : Value) (N : Nd) (on : Bool) (w : World) (h : RdN w ov rv sv N) (hn : wtN N ≤ 1048576) :
    Calls Tryz.prog 74 #[.agg #[.int .i64 N.an, ov, .int .i64 N.bw, .bool N.dr, rv, sv], .bool on] w (NewNdT w (drainN N on)) := by
  obtain ⟨oa, oc, hov⟩ := h.1.len
  obtain ⟨ra, rc, hrv⟩ := h.2.1.len
  obtain ⟨sa, sc, hsv⟩ := h.2.2.len
  subst hov hrv hsv
  obtain ⟨bA, bR, B1, z⟩ := two w [.int .i64 N.an, .slice oa N.own.length oc, .int .i64 N.bw, .bool N.dr, .slice ra N.rib.length rc, .slice sa N.sent.length sc] [.int .i64 0, .slice none 0 0, .int .i64 0, .bool false, .slice none 0 0, .slice none 0 0] 34 34
  obtain ⟨A, hA⟩ : ∃ A, A = w.heap.size := ⟨_, rfl⟩
  obtain ⟨R, hR⟩ : ∃ R, R = w.heap.size + 1 := ⟨_, rfl⟩
  have hwR : w.heap.size ≤ R := by omega
  have a0 := bA.c 0 rfl
  have a1 := bA.c 1 rfl
  have a2 := bA.c 2 rfl
  have a3 := bA.c 3 rfl
  have a4 := bA.c 4 rfl
  have a5 := bA.c 5 rfl
  have HND := Lib.hid hn
  clear hn
  cases hb : ndB N
  · have e : drainN N on = nd0 := by simp [drainN, hb]
    rw [e]
    have HB := Lib.hid hb
    clear hb e
    go_enter Tryz.func74, Tryz.ntmps74
    go_wp2_with fail
    clear a0 a1 a2 a3 a4 a5
    refine (indok_t _ (h.keep B1) HB).mono ?_
    rintro e w1 ⟨rfl, hb1⟩
    have hs1 := hb1.size
    replace bR := bR.keep hb1
    replace B1 := below_step B1 hb1
    rw [← hR] at bR
    try rw [← hR]
    have hRb : R < w1.heap.size := by omega
    clear hR hb1
    have r0 := bR.c 0 rfl
    have rf0 := bR.f 0 rfl
    have r1 := bR.c 1 rfl
    have rf1 := bR.f 1 rfl
    have r2 := bR.c 2 rfl
    have rf2 := bR.f 2 rfl
    have r3 := bR.c 3 rfl
    have rf3 := bR.f 3 rfl
    have r4 := bR.c 4 rfl
    have rf4 := bR.f 4 rfl
    have r5 := bR.c 5 rfl
    have rf5 := bR.f 5 rfl
    go_wp2_with fail
    have bE := ((((((bR.set 0 (.int .i64 0)).set 1 (.slice none 0 0)).set 2 (.int .i64 0)).set 3 (.bool false)).set 4 (.slice none 0 0)).set 5 (.slice none 0 0))
    have e0 := bE.c 0 rfl
    have e1 := bE.c 1 rfl
    have e2 := bE.c 2 rfl
    have e3 := bE.c 3 rfl
    have e4 := bE.c 4 rfl
    have e5 := bE.c 5 rfl
    exact bodyPost_ret (v := .agg #[.int .i64 0, .slice none 0 0, .int .i64 0, .bool false, .slice none 0 0, .slice none 0 0]) (by simp [results, Tryz.results74, go_sem, e0, e1, e2, e3, e4, e5]) rfl
      ⟨_, _, _, [], [], _, _, _, rfl, ndT_nil _, rfl, rfl, by have := ((((((B1.setCell (p := ⟨R, 0, none⟩) hwR (.int .i64 0)).setCell (p := ⟨R, 1, none⟩) hwR (.slice none 0 0)).setCell (p := ⟨R, 2, none⟩) hwR (.int .i64 0)).setCell (p := ⟨R, 3, none⟩) hwR (.bool false)).setCell (p := ⟨R, 4, none⟩) hwR (.slice none 0 0)).setCell (p := ⟨R, 5, none⟩) hwR (.slice none 0 0)).size; simpa using this, ((((((B1.setCell (p := ⟨R, 0, none⟩) hwR (.int .i64 0)).setCell (p := ⟨R, 1, none⟩) hwR (.slice none 0 0)).setCell (p := ⟨R, 2, none⟩) hwR (.int .i64 0)).setCell (p := ⟨R, 3, none⟩) hwR (.bool false)).setCell (p := ⟨R, 4, none⟩) hwR (.slice none 0 0)).setCell (p := ⟨R, 5, none⟩) hwR (.slice none 0 0))⟩
  · have e : drainN N on = { N with dr := on } := by simp [drainN, hb]
    rw [e]
    have HB := Lib.hid hb
    clear hb e
    go_enter Tryz.func74, Tryz.ntmps74
    go_wp2_with fail
    clear a0 a1 a2 a3 a4 a5
    refine (indok_t _ (h.keep B1) HB).mono ?_
    rintro e w1 ⟨rfl, hb1⟩
    have hs1 := hb1.size
    replace bA := bA.keep hb1
    replace bR := bR.keep hb1
    replace B1 := below_step B1 hb1
    rw [← hR] at bR
    rw [← hA] at bA
    try rw [← hR]
    try rw [← hA]
    have hRb1 : R < w1.heap.size := by omega
    have hAb1 : A < w1.heap.size := by omega
    clear hR hA hb1
    have a0 := bA.c 0 rfl
    have a1 := bA.c 1 rfl
    have a2 := bA.c 2 rfl
    have a3 := bA.c 3 rfl
    have a4 := bA.c 4 rfl
    have a5 := bA.c 5 rfl
    go_wp2_with fail
    clear a0 a1 a2 a3 a4 a5
    refine (icopy8_any _ _ _ N w1 (h.keep B1) HND.out).mono ?_
    rintro e w2 ⟨ov2, ru2, su2, T1, T2, b0, h1, h2, rfl, hN, hE1, hE2, hb0, hb2⟩
    have hRb : R < b0 := Nat.lt_of_lt_of_le hRb1 hb0
    have hwb : w.heap.size ≤ b0 := by omega
    have hs2 := hb2.size
    replace bR := bR.keep hb2
    replace B1 := below_step B1 hb2
    obtain ⟨⟨x1, y1, q1⟩, ⟨x2, y2, q2⟩, x3, y3, q3⟩ := hN.lens
    subst q1 q2 q3
    have HE1 := Lib.hid hE1
    have HE2 := Lib.hid hE2
    have lR := bR.lt
    have bRs := ((((((bR.set 0 (.int .i64 N.an)).set 1 (.slice x1 N.own.length y1)).set 2 (.int .i64 N.bw)).set 3 (.bool on)).set 4 (.slice x2 T1.length y2)).set 5 (.slice x3 T2.length y3))
    have hNs := ((((((hN.far (C := R) (o := 0) (u := .int .i64 N.an) hRb).far (C := R) (o := 1) (u := .slice x1 N.own.length y1) hRb).far (C := R) (o := 2) (u := .int .i64 N.bw) hRb).far (C := R) (o := 3) (u := .bool on) hRb).far (C := R) (o := 4) (u := .slice x2 T1.length y2) hRb).far (C := R) (o := 5) (u := .slice x3 T2.length y3) hRb)
    have Bs := ((((((B1.setCell (p := ⟨R, 0, none⟩) hwR (.int .i64 N.an)).setCell (p := ⟨R, 1, none⟩) hwR (.slice x1 N.own.length y1)).setCell (p := ⟨R, 2, none⟩) hwR (.int .i64 N.bw)).setCell (p := ⟨R, 3, none⟩) hwR (.bool on)).setCell (p := ⟨R, 4, none⟩) hwR (.slice x2 T1.length y2)).setCell (p := ⟨R, 5, none⟩) hwR (.slice x3 T2.length y3))
    clear hE1 hE2
    have r0 := bR.c 0 rfl
    have rf0 := bR.f 0 rfl
    have r1 := bR.c 1 rfl
    have rf1 := bR.f 1 rfl
    have r2 := bR.c 2 rfl
    have rf2 := bR.f 2 rfl
    have r3 := bR.c 3 rfl
    have rf3 := bR.f 3 rfl
    have r4 := bR.c 4 rfl
    have rf4 := bR.f 4 rfl
    have r5 := bR.c 5 rfl
    have rf5 := bR.f 5 rfl
    go_wp2_with fail
    obtain ⟨Wx, hWx⟩ : ∃ W, W = ((((((w2.setCell ⟨R, 0, none⟩ (.int .i64 N.an)).setCell ⟨R, 1, none⟩ (.slice x1 N.own.length y1)).setCell ⟨R, 2, none⟩ (.int .i64 N.bw)).setCell ⟨R, 3, none⟩ (.bool on)).setCell ⟨R, 4, none⟩ (.slice x2 T1.length y2)).setCell ⟨R, 5, none⟩ (.slice x3 T2.length y3)) := ⟨_, rfl⟩
    have hsx : w2.heap.size = Wx.heap.size := by rw [hWx]; simp
    rw [← hWx] at bRs hNs Bs ⊢
    have N1 : Below Wx.heap.size Wx (Wx.alloc (.cells #[.int .i64 N.an, .slice x1 N.own.length y1, .int .i64 N.bw, .bool on, .slice x2 T1.length y2, .slice x3 T2.length y3] 34)) := (Below.refl _ _).alloc (Nat.le_refl _) _
    have bE := bRs.keep N1
    have hN2 := hNs.keep N1
    have B2 := below_step Bs N1
    have hsz : w2.heap.size ≤ (Wx.alloc (.cells #[.int .i64 N.an, .slice x1 N.own.length y1, .int .i64 N.bw, .bool on, .slice x2 T1.length y2, .slice x3 T2.length y3] 34)).heap.size := by rw [hsx]; exact N1.size
    have e0 := bE.c 0 rfl
    have e1 := bE.c 1 rfl
    have e2 := bE.c 2 rfl
    have e3 := bE.c 3 rfl
    have e4 := bE.c 4 rfl
    have e5 := bE.c 5 rfl
    exact bodyPost_ret (v := .agg #[.int .i64 N.an, .slice x1 N.own.length y1, .int .i64 N.bw, .bool on, .slice x2 T1.length y2, .slice x3 T2.length y3]) (by simp [results, Tryz.results74, go_sem, e0, e1, e2, e3, e4, e5]) rfl
      ⟨_, _, _, T1, T2, b0, h1, h2, rfl, NdT.wider hsz hN2, HE1.out, HE2.out, hwb, B2⟩
end Go.Proofs.YtaiffofmhfflkaaGreat
namespace Go.Proofs.YtaiffofmhfflkaaGreat
open Go.ChangeShapes Go.WideShapes Go.ChangeAt Go.RowKit Go.BigFrame Go.Joins
set_option linter.unusedVariables false
set_option linter.unusedSimpArgs false
set_option maxRecDepth 100000

def Is_bool (W : World) (v : Value) : Prop := ∃ b : Bool, v = .bool b
theorem is_bool {H : Type} {enc : TypeId × Value → H} {W : World} {base : Nat} {d : DataW H} {p : List MemPlace} {v : Value} (hv : Value.okWide Tryz.prog W .any base 4 v) (h : DataW.Trod enc Tryz.prog W 0 (fun _ => true) true 4 v d p) : Is_bool W v := by
  obtain ⟨b, rfl, -, -⟩ := open_bool Tryz.underlying4 hv h
  exact ⟨b, rfl⟩
theorem wN_rib {D : Nd} (h : wtN D ≤ 1048576) : (D.rib.map wE).sum ≤ 8000000 := by
  have := wE_all D.rib
  unfold wtN at h
  omega
theorem wN_sent {D : Nd} (h : wtN D ≤ 1048576) : (D.sent.map wE).sum ≤ 8000000 := by
  have := wE_all D.sent
  unfold wtN at h
  omega
theorem bdN0 : BdN nd0 := ⟨fun i hi => by simp [nd0] at hi, fun i hi => by simp [nd0] at hi⟩
theorem wtN0 : wtN nd0 ≤ 1048576 := by simp [wtN, nd0, wtE]
theorem drain_bd {N : Nd} (on : Bool) (h : BdN N) : BdN (drainN N on) := by
  unfold drainN
  split
  · exact h
  · exact bdN0
theorem drain_wt {N : Nd} (on : Bool) (h : wtN N ≤ 1048576) : wtN (drainN N on) ≤ 1048576 := by
  unfold drainN
  split
  · exact h
  · exact wtN0
end Go.Proofs.YtaiffofmhfflkaaGreat
