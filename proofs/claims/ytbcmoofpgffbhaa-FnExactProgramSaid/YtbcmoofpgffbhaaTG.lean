/-
  Program of the program. Conditions: those in each contract.
-/
import Derived.Test.YtbcmoofpgffbhaaTF
namespace Go.Proofs.Ytbcmoofpgffbhaa
open Go.ChangeShapes Go.WideShapes Go.ChangeAt Go.RowKit Go.BigFrame Go.Joins
set_option linter.unusedVariables false
set_option maxRecDepth 100000
set_option linter.unusedSimpArgs false
set_option maxRecDepth 100000

theorem first_ge (L : List Grp) (x : Grp) : ∀ n, n ≤ L.length → (∀ j, j < n → ltG (L.getD j gr0) x) ∨ ∃ i, i < n ∧ (∀ j, j < i → ltG (L.getD j gr0) x) ∧ ¬ ltG (L.getD i gr0) x
  | 0, _ => .inl fun j hj => absurd hj (by omega)
  | n + 1, hn => by
    rcases first_ge L x n (by omega) with h | ⟨i, hi, h1, h2⟩
    · by_cases q : ltG (L.getD n gr0) x
      · exact .inl fun j hj => by
          by_cases e : j = n
          · rw [e]; exact q
          · exact h j (by omega)
      · exact .inr ⟨n, by omega, h, q⟩
    · exact .inr ⟨i, by omega, h1, h2⟩
theorem at_ex (L : List Grp) (x : Grp) : ∃ i f, AtG L x.a x.n i f := by
  rcases first_ge L x L.length (Nat.le_refl _) with h | ⟨i, hi, h1, h2⟩
  · exact ⟨L.length, false, Nat.le_refl _, fun j hj => cmpG_lt.2 (h j (by omega)), fun q => absurd q (by omega), fun _ => rfl⟩
  · refine ⟨i, decide (cmp2 (L.getD i gr0).a (L.getD i gr0).n x.a x.n = 0), by omega, fun j hj => cmpG_lt.2 (h1 j (by omega)), fun _ => ⟨?_, by simp⟩, fun q => absurd hi q⟩
    have : ¬ cmp2 (L.getD i gr0).a (L.getD i gr0).n x.a x.n < 0 := fun q => h2 (cmpG_lt.1 q)
    omega
theorem putL_so {L : List Grp} (hs : SoG L) (x : Grp) : SoG (putL L x) ∧ L.length ≤ (putL L x).length := by
  obtain ⟨i, f, h⟩ := at_ex L x
  obtain ⟨m, -, -, -, e, h2⟩ := at_put hs h
  exact ⟨by rw [e]; exact h2, putL_le L x hs i f h⟩
theorem putL_mem {L : List Grp} (hs : SoG L) {x y : Grp} (h : y ∈ putL L x) : y ∈ L ∨ y = x := by
  obtain ⟨i, f, hat⟩ := at_ex L x
  obtain ⟨m, -, -, -, e, -⟩ := at_put hs hat
  rw [e] at h
  unfold splL at h
  rcases List.mem_append.1 h with h | h
  · exact .inl (List.mem_of_mem_take h)
  · rcases List.mem_cons.1 h with h | h
    · exact .inr h
    · exact .inl (List.mem_of_mem_drop h)
theorem fold_so (M : List Grp) : ∀ {L : List Grp}, SoG L → SoG (M.foldl putL L) ∧ L.length ≤ (M.foldl putL L).length := by
  induction M with
  | nil => intro L h; exact ⟨h, Nat.le_refl _⟩
  | cons x M ih =>
    intro L h
    have h1 := putL_so h x
    have h2 := ih h1.1
    exact ⟨h2.1, Nat.le_trans h1.2 h2.2⟩
theorem fold_succ {M : List Grp} {k : Nat} {x : Grp} (L : List Grp) (hk : k < M.length) (hx : M.getD k gr0 = x) : (M.take (k + 1)).foldl putL L = putL ((M.take k).foldl putL L) x := by
  have e : M[k] = x := by simpa [List.getD, hk] using hx
  rw [List.take_succ_eq_append_getElem hk, List.foldl_append, e]
  rfl
theorem fold_rest (M L : List Grp) (k : Nat) (hs : SoG ((M.take k).foldl putL L)) : ((M.take k).foldl putL L).length ≤ (M.foldl putL L).length := by
  have e : M.foldl putL L = (M.drop k).foldl putL ((M.take k).foldl putL L) := by rw [← List.foldl_append, List.take_append_drop]
  rw [e]
  exact (fold_so _ hs).2
theorem fib_so {L : List Grp} (h : fibB L = true) : SoG L := by
  refine List.pairwise_iff_getElem.2 fun i j hi hj hij => ?_
  have := fib_lt (fib_asc h).1 j i hij hj
  simpa [ltG, List.getD, hi, hj] using this
theorem allG_mem {L : List Grp} (h : allG L = true) {y : Grp} (hy : y ∈ L) : pokB y.a y.n = true := by
  obtain ⟨i, hi, rfl⟩ := mem_getD hy
  exact grpB_p (of_decide_eq_true h i hi)
def leftL (L : List Grp) (P : List (Int × Int)) : List Grp := L.filter fun E => !(goneQ P E)
/-- what Program answers -/
def progL (L M : List Grp) (P : List (Int × Int)) : List Grp := if (fibB L && allG M) = true then (if (M.foldl putL (leftL L P)).length ≤ 60 then M.foldl putL (leftL L P) else []) else []
theorem prog_no {L M : List Grp} {P : List (Int × Int)} (h : fibB L = false ∨ allG M = false) : progL L M P = [] := by
  unfold progL
  rw [if_neg]
  rcases h with h | h <;> simp [h]
theorem prog_many {L M : List Grp} {P : List (Int × Int)} (h : 60 < (M.foldl putL (leftL L P)).length) : progL L M P = [] := by
  unfold progL
  split
  · rw [if_neg (by omega)]
  · rfl
theorem prog_yes {L M : List Grp} {P : List (Int × Int)} (h : fibB L = true) (k : allG M = true) (hl : (M.foldl putL (leftL L P)).length ≤ 60) : progL L M P = M.foldl putL (leftL L P) := by
  unfold progL
  rw [h, k, if_pos (show (true && true) = true from rfl), if_pos hl]
theorem left_so {L : List Grp} {P : List (Int × Int)} (h : fibB L = true) : SoG (leftL L P) ∧ (leftL L P).length ≤ 60 ∧ ∀ y ∈ leftL L P, pokB y.a y.n = true :=
  ⟨(fib_so h).filter _, Nat.le_trans (List.length_filter_le _ _) (fib_asc h).2.2, fun y hy => allG_mem (fib_asc h).2.1 (List.mem_filter.1 hy).1⟩
/-- what Program leaves, of the program -/
def ProR (w : World) (R : List Grp) (e : Ending) (w' : World) : Prop := ∃ v, e = .returned (.agg #[v]) ∧ OwYS w' (Rg w.heap.size w'.heap.size) v R ∧ Below w.heap.size w w'
theorem proR_nil {w w' : World} {R : List Grp} (h : R = []) (hb : Below w.heap.size w w') : ProR w R (.returned (.agg #[.slice none 0 0])) w' := ⟨_, rfl, by subst h; exact ⟨by simp, .inl ⟨rfl, rfl⟩⟩, hb⟩
set_option maxHeartbeats 8000000 in
theorem ipro_any (v u p : Value) (L M : List Grp) (P : List (Int × Int)) (w : World) (h : RdG w v L) (hu : RdG w u M) (hp : RdP w p P) (hl1 : L.length + wtG L ≤ 1048576) (hl2 : M.length + wtG M ≤ 1048576) (hl3 : P.length ≤ 1048576) :
    Calls Try.prog 52 #[.agg #[v], u, p] w (ProR w (progL L M P)) := by
  obtain ⟨a, c, rfl⟩ := h.len
  obtain ⟨a', c', rfl, hc⟩ := hu.el
  obtain ⟨pa, pc, rfl⟩ := hp.len
  have hlL : L.length ≤ 1048576 := by omega
  have hwL : ∀ j, j < L.length → (L.getD j gr0).h.length ≤ 1048576 := fun j hj => by have := wtG_at hj; omega
  have hwM : ∀ j, j < M.length → (M.getD j gr0).h.length ≤ 1048576 := fun j hj => by have := wtG_at hj; omega
  obtain ⟨m, hm⟩ : ∃ m, m = M.length := ⟨_, rfl⟩
  rw [← hm] at hc hwM hl2 hu ⊢
  have HN := Lib.hid hm
  have HWM := Lib.hid hwM
  have HWL := Lib.hid hwL
  have HRP := Lib.hid hp
  have hm1 : m ≤ 1048576 := by omega
  have HM1 := Lib.hid hm1
  clear hl1 hl2 hwM hwL hm hp hm1
  obtain ⟨bA, bC, bR, B0, z⟩ := three w [.slice a L.length c] [.slice pa P.length pc] [.slice none 0 0] 57 23 57
  have a0 := bA.c 0 rfl
  clear z
  obtain ⟨g, hg⟩ : ∃ g, fibB L = g := ⟨_, rfl⟩
  obtain ⟨f, hf⟩ : ∃ f, allG M = f := ⟨_, rfl⟩
  have HG := Lib.hid hg
  have HF := Lib.hid hf
  clear hg hf
  obtain ⟨A, hA⟩ : ∃ A, A = w.heap.size := ⟨_, rfl⟩
  obtain ⟨C, hC⟩ : ∃ A, A = w.heap.size + 1 := ⟨_, rfl⟩
  obtain ⟨R, hR⟩ : ∃ A, A = w.heap.size + 2 := ⟨_, rfl⟩
  go_enter Try.func52, Try.ntmps52
  go_wp2_with fail
  rw [← hA] at bA
  rw [← hC] at bC
  rw [← hR] at bR
  rw [← hR, ← hC]
  try rw [← hA]
  have hRw : w.heap.size ≤ R ∧ C < R := by omega
  clear hA hC hR
  refine (ifib_t _ (h.keep B0) HG).mono ?_
  rintro e w1 ⟨rfl, hb⟩
  clear a0
  replace bA := bA.keep hb
  replace bC := bC.keep hb
  replace bR := bR.keep hb
  replace B0 := below_step B0 hb
  clear hb
  have r0 := bR.c 0 rfl
  have rf := bR.f 0 rfl
  cases g
  · have HNO := Lib.hid (prog_no (M := M) (P := P) (.inl HG.out))
    go_wp2
    have e0 := (bR.set 0 (.slice none 0 0)).c 0 rfl
    exact bodyPost_ret (v := .agg #[.slice none 0 0]) (by simp [results, Try.results52, go_sem, e0]) rfl (proR_nil HNO.out (Below.grown B0 (grown_set _ R 0 _) B0.size (fun k hk => by cases hk; omega)))
  · go_wp2_with fail
    clear r0 rf
    refine (igsok_t _ (by have := hu.keep B0; exact this) HF).mono ?_
    rintro e w2 ⟨rfl, hb⟩
    replace bA := bA.keep hb
    replace bC := bC.keep hb
    replace bR := bR.keep hb
    replace B0 := below_step B0 hb
    clear hb
    cases f
    · have HNO := Lib.hid (prog_no (L := L) (P := P) (.inr HF.out))
      have r0 := bR.c 0 rfl
      have rf := bR.f 0 rfl
      go_wp2
      have e0 := (bR.set 0 (.slice none 0 0)).c 0 rfl
      exact bodyPost_ret (v := .agg #[.slice none 0 0]) (by simp [results, Try.results52, go_sem, e0]) rfl (proR_nil HNO.out (Below.grown B0 (grown_set _ R 0 _) B0.size (fun k hk => by cases hk; omega)))
    · have a0 := bA.c 0 rfl
      go_wp2_with fail
      clear a0 bA
      have hbs := B0.size
      have hR2 := bR.lt
      obtain ⟨base, hbase⟩ : ∃ b, b = w2.heap.size := ⟨_, rfl⟩
      refine (icgs_any _ L w2 (h.keep B0) hlL HWL.out).mono ?_
      rintro e w3 ⟨lv, xs, rfl, hG3, hb⟩
      rw [← hbase] at hG3
      obtain ⟨Q, hQ, hQL⟩ := hG3.toQ
      have hQn : Q.length = L.length := by rw [← grpQ_len, hQL]
      replace bC := bC.keep hb
      replace bR := bR.keep hb
      replace B0 := below_step B0 hb
      have hb3 := hb.size
      clear hb hG3
      go_wp2_with fail
      refine (idfQ_any lv (.slice pa P.length pc) Q P C base w w3 hQ (by omega) bC (by omega) HRP.out (by omega) (by omega) B0).mono ?_
      rintro e w4 ⟨lw, rfl, hQ4, hg4, ho4⟩
      have hlt := World.ownsRow.lt hQ.row
      replace bR := bR.grown hg4 (fun q => by have := (hlt R q.symm).1; omega)
      replace B0 := Below.grown B0 hg4 B0.size (fun k hk => by have := (hlt k hk).1; omega)
      have hs4 := hg4.size
      have hLS := left_so (P := P) HG.out
      have hst : grpQ (Q.filter fun q => !(goneQ P q.1.E)) = leftL L P := by rw [grpQ_filter (fun E => !(goneQ P E)), hQL]; rfl
      obtain ⟨Q4, hQ4e⟩ : ∃ Q4, Q4 = Q.filter fun q => !(goneQ P q.1.E) := ⟨_, rfl⟩
      rw [← hQ4e] at hQ4 hst
      have HQ4 := Lib.hid (And.intro hQ4 (And.intro hst hLS))
      have hbw4 : base ≤ w4.heap.size := by omega
      have HAL : Hid (∀ j, j < m → pokB (M.getD j gr0).a (M.getD j gr0).n = true) := Lib.hid fun j hj => allG_mem HF.out (getD_memG (by rw [← HN.out]; exact hj))
      have HYES := Lib.hid (prog_yes (L := L) (M := M) (P := P) HG.out HF.out)
      clear hQ hQ4 hst hLS hQ4e hQL hQn hlt hg4 ho4 bC hs4 hb3
      go_wp2
      go_loopw [7, 26] (fun lv q wr => ∃ k : Nat, k ≤ m ∧ q = .int .i64 k ∧ (∃ Q, OwGs wr base lv Q ∧ grpQ Q = (M.take k).foldl putL (leftL L P) ∧ SoG (grpQ Q) ∧ Q.length ≤ 60 ∧ ∀ y ∈ grpQ Q, pokB y.a y.n = true) ∧ Bl wr R [.slice none 0 0] ∧ Below w.heap.size w wr ∧ base ≤ wr.heap.size) (fun _ q _ => m - (intOf q).toNat)
      case atStart =>
        have h1 := HQ4.out.2.1
        have h2 := HQ4.out.2.2
        exact ⟨0, Nat.zero_le _, rfl, ⟨Q4, HQ4.out.1, by rw [h1]; rfl, by rw [h1]; exact h2.1, by rw [← grpQ_len, h1]; exact h2.2.1, by rw [h1]; exact h2.2.2⟩, bR, B0, hbw4⟩
      case round =>
        clear bR B0 hbw4
        obtain ⟨k, hk, rfl, ⟨Qk, hQk, hgk, hso, hle, hok⟩, bR, hB, hbw⟩ := hrel
        by_cases hlt : k < m
        · have hltI : (k : Int) < (m : Int) := by omega
          obtain ⟨b, o, rfl, hE⟩ := hc k hlt
          obtain ⟨x, hx9⟩ : ∃ x, M.getD k gr0 = x := ⟨_, rfl⟩
          have hxl := HWM.out k hlt
          have hxp := HAL.out k hlt
          rw [hx9] at hE hxl hxp
          obtain ⟨xv, hx, g0, g1, g2⟩ := hE.keep hB
          obtain ⟨xa, xx, rfl⟩ := hx.len
          have HF1 := Lib.hid (fold_succ (leftL L P) (by rw [← HN.out]; exact hlt) hx9)
          have HX := Lib.hid (And.intro hgk (And.intro hso (And.intro hle hok)))
          have HXP := Lib.hid hxp
          have HC := Lib.hid hc
          clear hx9 hc hE hgk hso hle hok hxp
          have bP := Bl.new wr [.int .i64 x.a, .int .i64 x.n, .slice xa x.h.length xx] GI wr.heap.size rfl
          have A1 : Below wr.heap.size wr (wr.alloc (.cells #[.int .i64 x.a, .int .i64 x.n, .slice xa x.h.length xx] GI)) := (Below.refl _ _).alloc (Nat.le_refl _) _
          have p0 := bP.c 0 rfl
          have p1 := bP.c 1 rfl
          have p2 := bP.c 2 rfl
          go_wp2_with fail
          clear p0 p1 p2 g0 g1 g2
          obtain ⟨V, hV⟩ : ∃ V, V = wr.alloc (.cells #[.int .i64 x.a, .int .i64 x.n, .slice xa x.h.length xx] GI) := ⟨_, rfl⟩
          rw [← hV] at A1 ⊢
          clear bP hV
          refine (icg_any _ x.h x.a x.n V (hx.keep A1) hxl).mono ?_
          rintro e w5 ⟨ya, yx, rfl, ho, hb⟩
          have hs5 := hb.size
          have hsV := A1.size
          have hcall := iputG_any _ (.slice ya x.h.length yx) Qk x (Rg V.heap.size w5.heap.size) base V w5 (hQk.keep A1) (by omega) hb
            ⟨Rg V.heap.size w5.heap.size, fun b q => q, ho.mono (Nat.zero_le _), fun k q => World.ownsRow.lt ho k q, hxl⟩ (fun b q => q) HX.out.2.1
            (fun i hi => pcmp_ok (HX.out.2.2.2 _ (getD_memG hi)) HXP.out) (by have := HX.out.2.2.1; omega)
          have HCALL := Lib.hid hcall
          have D5 := below_step A1 hb
          replace hB := below_step hB D5
          replace bR := bR.keep D5
          clear hcall ho hx hQk A1 hb D5
          go_wp2_with fail
          refine HCALL.out.mono ?_
          rintro e w6 ⟨v6, Q6, rfl, hQ6, hg6, hb6⟩
          rw [HX.out.1, ← HF1.out] at hg6
          have bR6 : Bl w6 R [.slice none 0 0] := bl_agrS (S := fun b => b < base) bR ⟨hb6.size, fun b q _ => hb6.block b q⟩ (by omega)
          have hB6 : Below w.heap.size w w6 := below_trans3 hB (below_low3 hb6 (by omega))
          have hs6 := hb6.size
          obtain ⟨q1, q2, rfl⟩ := row_sliceGG hQ6.row
          have hso6 : SoG (grpQ Q6) := by rw [hg6, HF1.out]; exact (putL_so (by rw [← HX.out.1]; exact HX.out.2.1) x).1
          have hok6 : ∀ y ∈ grpQ Q6, pokB y.a y.n = true := fun y hy => by
            rw [hg6, HF1.out, ← HX.out.1] at hy
            rcases putL_mem HX.out.2.1 hy with hy | rfl
            · exact HX.out.2.2.2 y hy
            · exact HXP.out
          obtain ⟨n6, hn6⟩ : ∃ n, n = Q6.length := ⟨_, rfl⟩
          rw [← hn6]
          have HQ6 := Lib.hid (And.intro hQ6 (And.intro hg6 (And.intro hso6 hok6)))
          have HN6 := Lib.hid hn6
          clear hQ6 hg6 hso6 hok6 hn6 bR hB HCALL
          by_cases h60 : n6 ≤ 60
          · have h60I : ¬ (60 : Int) < (n6 : Int) := by omega
            have hm1 := HM1.out
            go_wp2
            go_roundw
            case rel => exact ⟨k + 1, by omega, by go_num, ⟨Q6, by rw [HN6.out]; exact HQ6.out.1, HQ6.out.2.1, HQ6.out.2.2.1, by rw [← HN6.out]; exact h60, HQ6.out.2.2.2⟩, bR6, hB6, by omega⟩
            case measure => simp [intOf]; omega
          · have h60I : (60 : Int) < (n6 : Int) := by omega
            have HNO : Hid (progL L M P = []) := Lib.hid (prog_many (by
              have := fold_rest M (leftL L P) (k + 1) (by rw [← HQ6.out.2.1]; exact HQ6.out.2.2.1)
              rw [← HQ6.out.2.1, grpQ_len, ← HN6.out] at this
              omega))
            have r0 := bR6.c 0 rfl
            have rf := bR6.f 0 rfl
            go_wp2
            have e0 := (bR6.set 0 (.slice none 0 0)).c 0 rfl
            exact bodyPost_ret (v := .agg #[.slice none 0 0]) (by simp [results, Try.results52, go_sem, e0]) rfl (proR_nil HNO.out (Below.grown hB6 (grown_set _ R 0 _) hB6.size (fun k hk => by cases hk; omega)))
        · have hkm : k = m := by omega
          subst hkm
          have HT : Hid (M.take k = M) := Lib.hid (List.take_of_length_le (by rw [HN.out]; exact Nat.le_refl _))
          rw [HT.out] at hgk
          have HE : Hid (progL L M P = grpQ Qk) := Lib.hid (by rw [hgk]; exact HYES.out (by rw [← hgk, grpQ_len]; exact hle))
          obtain ⟨q1, q2, rfl⟩ := row_sliceGG hQk.row
          have hgs := grown_set wr R 0 (.slice q1 Qk.length q2)
          have hRb : R < base := by omega
          have hQf : OwGs (wr.setCell ⟨R, 0, none⟩ (.slice q1 Qk.length q2)) base (.slice q1 Qk.length q2) Qk :=
            ⟨row_agrS hQk.row (S := fun b => base ≤ b) (fun k hk => (World.ownsRow.lt hQk.row k hk).1) (agr_setS wr (by omega)), fun q hq => ⟨fun b z => ⟨((hQk.el q hq).1 b z).1, Nat.lt_of_lt_of_le ((hQk.el q hq).1 b z).2.1 hgs.size, ((hQk.el q hq).1 b z).2.2⟩, (hQk.el q hq).2.agr (agr_setS wr (fun z => by have := ((hQk.el q hq).1 _ z).1; omega))⟩, hQk.dj⟩
          have hfin := hQf.gr.own (by rw [grpQ_len]; omega)
          have hBf : Below w.heap.size w (wr.setCell ⟨R, 0, none⟩ (.slice q1 Qk.length q2)) := Below.grown hB hgs hB.size (fun k hk => by cases hk; omega)
          have e0 := (bR.set 0 (.slice q1 Qk.length q2)).c 0 rfl
          have HFIN := Lib.hid (And.intro hfin hBf)
          have r0 := bR.c 0 rfl
          have rf := bR.f 0 rfl
          obtain ⟨nk, hnk⟩ : ∃ n, n = Qk.length := ⟨_, rfl⟩
          rw [← hnk] at e0 HFIN ⊢
          have HE0 := Lib.hid e0
          clear hfin hBf hQf hgs hQk hgk hso hle hok hc e0 hnk
          go_wp2
          refine bodyPost_ret (v := .agg #[.slice q1 nk q2]) (by simp [results, Try.results52, go_sem, HE0.out]) rfl ⟨_, rfl, ?_, HFIN.out.2⟩
          rw [HE.out]
          exact OwYS.mono HFIN.out.1 (fun b q => ⟨by have := q.1; omega, q.2⟩)
end Go.Proofs.Ytbcmoofpgffbhaa
