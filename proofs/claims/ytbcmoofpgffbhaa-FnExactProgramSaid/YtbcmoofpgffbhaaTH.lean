/-
  l7gone and l7put of the model. Conditions: those in each contract.
-/
import Derived.Test.YtbcmoofpgffbhaaTG
namespace Go.Proofs.Ytbcmoofpgffbhaa
open Go.ChangeShapes Go.WideShapes Go.ChangeAt Go.RowKit Go.BigFrame Go.Joins
set_option linter.unusedVariables false
set_option maxRecDepth 100000
set_option linter.unusedSimpArgs false
set_option maxRecDepth 100000

theorem goneQ_iff {P : List (Int × Int)} {E : Grp} : goneQ P E = P.any fun q => decide (q.1 = E.a ∧ q.2 = E.n) := by
  unfold goneQ
  congr 1
  funext q
  unfold sameQ pxG
  exact decide_eq_decide.2 ⟨fun h => ⟨h.1.symm, h.2.symm⟩, fun h => ⟨h.1.symm, h.2.symm⟩⟩
set_option maxHeartbeats 1000000 in
theorem sgone_any (v : Value) (P : List (Int × Int)) (E : Grp) (w : World) (h : RdP w v P) (hn1 : P.length ≤ 9223372036854775807) :
    Calls Try.prog 98 #[v, .agg #[.int .i64 E.a, .int .i64 E.n]] w fun e w' => e = .returned (.bool (goneQ P E)) ∧ Below w.heap.size w w' := by
  obtain ⟨a, c, rfl, hc⟩ := h.el
  obtain ⟨n, hn⟩ : ∃ n, n = P.length := ⟨_, rfl⟩
  rw [← hn] at hc hn1 ⊢
  have HN := Lib.hid hn
  clear h hn
  rw [goneQ_iff]
  obtain ⟨x, hx0⟩ : ∃ x, x = E.a := ⟨_, rfl⟩
  obtain ⟨y, hy0⟩ : ∃ y, y = E.n := ⟨_, rfl⟩
  rw [← hx0, ← hy0]
  clear hx0 hy0
  obtain ⟨bZ, B0, z⟩ := one w [.int .i64 x, .int .i64 y] PT
  obtain ⟨V, hV⟩ : ∃ V, V = w.alloc (.cells #[.int .i64 x, .int .i64 y] PT) := ⟨_, rfl⟩
  rw [← hV] at bZ B0
  have lZ := bZ.lt
  clear z
  go_enter Try.func98, Try.ntmps98
  go_wp2
  rw [← hV]
  clear hV
  go_loopw [5] (fun q wr => ∃ k : Nat, k ≤ n ∧ q = .int .i64 k ∧ (∀ j, j < k → decide ((P.getD j (0, 0)).1 = x ∧ (P.getD j (0, 0)).2 = y) = false) ∧ Over V wr) (fun q _ => n - (intOf q).toNat)
  case atStart => exact ⟨0, Nat.zero_le _, rfl, fun j hj => by omega, over_refl V⟩
  case round =>
    obtain ⟨k, hk, rfl, hno, hB⟩ := hrel
    by_cases hlt : k < n
    · have hltI : (k : Int) < (n : Int) := by omega
      obtain ⟨b, o, rfl, d0, d1⟩ := hc k hlt
      obtain ⟨⟨u, t⟩, hx⟩ : ∃ q, P.getD k (0, 0) = q := ⟨_, rfl⟩
      rw [hx] at d0 d1
      dsimp only at d0 d1
      have d0 := cell_keep B0 (World.block_lt_of_cell? w _ d0) d0
      have d1 := cell_keep B0 (World.block_lt_of_cell? w _ d1) d1
      have g0 := over_cell hB (World.block_lt_of_cell? _ _ d0) d0
      have g1 := over_cell hB (World.block_lt_of_cell? _ _ d1) d1
      have z0 := over_cell hB lZ (bZ.c 0 rfl)
      have z1 := over_cell hB lZ (bZ.c 1 rfl)
      have HX := Lib.hid hx
      have HO := Lib.hid hno
      have HC := Lib.hid hc
      clear hx hno hc d0 d1
      by_cases he : u = x ∧ t = y
      · obtain ⟨rfl, rfl⟩ := he
        have HF : Hid ((P.any fun q => decide (q.1 = u ∧ q.2 = t)) = true) := Lib.hid (List.any_eq_true.2 ⟨P.getD k (0, 0), by
          have hk' : k < P.length := by rw [← HN.out]; exact hlt
          simp [List.getD, hk'], by rw [HX.out]; simp⟩)
        go_wp2
        go_region
        go_wp2
        go_ret
        exact ⟨ret_bool HF.out.symm, below_step B0 (Below.drew hB)⟩
      · have HE2 : Hid (decide (u = x ∧ t = y) = false) := Lib.hid (decide_eq_false he)
        have HNX : Hid (∀ j, j < k + 1 → decide ((P.getD j (0, 0)).1 = x ∧ (P.getD j (0, 0)).2 = y) = false) := Lib.hid fun j hj => by
          by_cases q : j = k
          · subst q; rw [HX.out]; exact HE2.out
          · exact HO.out j (by omega)
        clear HE2 HO
        by_cases hx : u = x
        · have hy : ¬ t = y := fun e => he ⟨hx, e⟩
          subst hx
          clear he
          go_wp2
          go_region
          go_wp2
          go_roundw
          case rel => exact ⟨k + 1, by omega, by go_num, HNX.out, Below.drew hB⟩
          case measure => simp [intOf]; omega
        · clear he
          go_wp2
          go_region
          go_wp2
          go_roundw
          case rel => exact ⟨k + 1, by omega, by go_num, HNX.out, Below.drew hB⟩
          case measure => simp [intOf]; omega
    · have hkn : k = n := by omega
      subst hkn
      have HF : Hid ((P.any fun q => decide (q.1 = x ∧ q.2 = y)) = false) := Lib.hid (List.any_eq_false.2 fun q hq => by
        obtain ⟨j, hj, rfl⟩ := List.mem_iff_getElem.1 hq
        have := hno j (by rw [HN.out]; exact hj)
        rw [show P.getD j (0, 0) = P[j] by simp [List.getD, hj]] at this
        rw [this]
        simp)
      clear hno hc
      go_wp2
      go_ret
      exact ⟨ret_bool HF.out.symm, below_step B0 hB⟩
/-- the state of l7put: a row of its own in the block O, which reads in w -/
structure PuT (w wr : World) (lo A X R O : Nat) (f : Value) (xs : List Value) (v2 : Value) (T : List GT) : Prop where
  row : wr.ownsRow lo GI 3 v2 T.length (flatG T)
  rd : ∀ t ∈ T, RdP w t.u t.E.h
  o : Bl wr O [v2]
  r : Bl wr R [.slice none 0 0]
  a : Bl wr A [f]
  x : Bl wr X xs
  b : Below w.heap.size w wr
  s : lo ≤ wr.heap.size
theorem PuT.keep {w wr w' : World} {lo A X R O : Nat} {f v2 : Value} {xs : List Value} {T : List GT} (h : PuT w wr lo A X R O f xs v2 T) (b : Below wr.heap.size wr w') : PuT w w' lo A X R O f xs v2 T :=
  ⟨rowG_keep h.row b, h.rd, h.o.keep b, h.r.keep b, h.a.keep b, h.x.keep b, below_step h.b b, Nat.le_trans h.s b.size⟩
def Lay (w : World) (lo A X R O : Nat) : Prop := w.heap.size ≤ O ∧ w.heap.size ≤ lo ∧ A < lo ∧ X < lo ∧ R < lo ∧ O < lo ∧ A ≠ O ∧ X ≠ O ∧ R ≠ O
theorem neRowG {w : World} {base B n : Nat} {v : Value} {xs : List Value} (h : w.ownsRow base GI 3 v n xs) (hB : B < base) : some B ≠ v.ownBlock := fun q => by
  have := (World.ownsRow.lt h B q.symm).1
  omega
theorem PuT.grown {w wr w3 : World} {lo A X R O : Nat} {f v2 : Value} {xs : List Value} {T : List GT} (h : PuT w wr lo A X R O f xs v2 T) (hL : Lay w lo A X R O) (hg : wr.grownBy w3 v2.ownBlock) :
    Bl w3 O [v2] ∧ Bl w3 R [.slice none 0 0] ∧ Bl w3 A [f] ∧ Bl w3 X xs ∧ Below w.heap.size w w3 ∧ lo ≤ w3.heap.size := by
  obtain ⟨l1, l2, l3, l4, l5, l6, l7, l8, l9⟩ := hL
  exact ⟨h.o.grown hg (neRowG h.row l6), h.r.grown hg (neRowG h.row l5), h.a.grown hg (neRowG h.row l3), h.x.grown hg (neRowG h.row l4), below_growD h.b h.row l2 hg, Nat.le_trans h.s hg.size⟩
theorem PuT.app {w wr w3 : World} {lo A X R O : Nat} {f v2 v3 : Value} {xs : List Value} {T : List GT} {t : GT} (h : PuT w wr lo A X R O f xs v2 T) (hL : Lay w lo A X R O) (hr : w3.ownsRow lo GI 3 v3 (T.length + 1) (flatG T ++ cellsG t)) (hg : wr.grownBy w3 v2.ownBlock) (ht : RdP w t.u t.E.h) :
    PuT w (w3.setCell ⟨O, 0, none⟩ v3) lo A X R O f xs v3 (T ++ [t]) := by
  obtain ⟨b1, b2, b3, b4, b5, b6⟩ := h.grown hL hg
  obtain ⟨l1, l2, l3, l4, l5, l6, l7, l8, l9⟩ := hL
  have gs := grown_set w3 O 0 v3
  refine ⟨?_, fun s hs => ?_, b1.set 0 v3, b2.far l9, b3.far l7, b4.far l8, Below.grown b5 gs b5.size (fun k hk => by cases hk; exact l1), Nat.le_trans b6 gs.size⟩
  · have := rowG_more hr
    exact row_agrS this (S := fun b => lo ≤ b) (fun k hk => (World.ownsRow.lt this k hk).1) (agr_setS w3 (by omega))
  · rcases List.mem_append.1 hs with hs | hs
    · exact h.rd s hs
    · rw [List.mem_singleton.1 hs]; exact ht
/-- a block holds these cells, and what lay in w lies there -/
def KpG (w : World) (A : Nat) (xs : List Value) (w' : World) : Prop := Bl w' A xs ∧ Below w.heap.size w w'
theorem KpG.next {w w' w2 : World} {A : Nat} {xs : List Value} (h : KpG w A xs w') (hb : Below w'.heap.size w' w2) : KpG w A xs w2 := ⟨h.1.keep hb, below_step h.2 hb⟩
theorem put_step {L : List Grp} {x E : Grp} {k : Nat} {p : Bool} {r : Int} {T : List GT} (hE : L.getD k gr0 = E) (hp : putP L x k = p) (hr : cmp2 x.a x.n E.a E.n = r) (hT : grpT T = putO L x k) :
    putP L x (k + 1) = (p || decide (r ≤ 0)) ∧ putO L x (k + 1) = (if (!p && decide (r ≤ 0)) = true then grpT T ++ [x] else grpT T) ++ (if r = 0 then [] else [E]) := by
  rw [putP, putO, hE, hp, hr, hT]
  exact ⟨rfl, rfl⟩
theorem putO_len (L : List Grp) (x : Grp) : ∀ k, (putO L x k).length ≤ 2 * k
  | 0 => Nat.le_refl _
  | k + 1 => by
    have := putO_len L x k
    rw [putO, List.length_append]
    split <;> split <;> simp <;> omega
/-- what l7put answers -/
def PutS (w : World) (R : List Grp) (e : Ending) (w' : World) : Prop := ∃ v, e = .returned (.agg #[v]) ∧ RdG w' v R ∧ Below w.heap.size w w'
set_option maxHeartbeats 8000000 in
theorem sput7_any (v xv : Value) (L : List Grp) (x : Grp) (w : World) (h : RdG w v L) (hx : RdP w xv x.h) (hn1 : L.length ≤ 1000000000) :
    Calls Try.prog 99 #[.agg #[v], .agg #[.int .i64 x.a, .int .i64 x.n, xv]] w (PutS w (putL L x)) := by
  obtain ⟨a, c, rfl, hc⟩ := h.el
  obtain ⟨xa, xc, rfl⟩ := hx.len
  obtain ⟨n, hn⟩ : ∃ n, n = L.length := ⟨_, rfl⟩
  rw [← hn] at hc hn1 ⊢
  have HN := Lib.hid hn
  have HRX : Hid (RdP w (⟨x, .slice xa x.h.length xc⟩ : GT).u (⟨x, .slice xa x.h.length xc⟩ : GT).E.h) := Lib.hid hx
  clear h hn hx
  obtain ⟨bA, bX, bR, B0, z0⟩ := three w [.slice a n c] [.int .i64 x.a, .int .i64 x.n, .slice xa x.h.length xc] [.slice none 0 0] 57 GI 57
  obtain ⟨bO, N1, z⟩ := one (((w.alloc (.cells #[.slice a n c] 57)).alloc (.cells #[.int .i64 x.a, .int .i64 x.n, .slice xa x.h.length xc] GI)).alloc (.cells #[.slice none 0 0] 57)) [.slice none 0 0] 57
  rw [z0] at bO z
  go_enter Try.func99, Try.ntmps99
  go_wp2
  obtain ⟨W1, hW⟩ : ∃ W1, W1 = (((w.alloc (.cells #[.slice a n c] 57)).alloc (.cells #[.int .i64 x.a, .int .i64 x.n, .slice xa x.h.length xc] GI)).alloc (.cells #[.slice none 0 0] 57)).alloc (.cells #[.slice none 0 0] 57) := ⟨_, rfl⟩
  rw [← hW] at bO N1 z ⊢
  replace bA := bA.keep N1
  replace bX := bX.keep N1
  replace bR := bR.keep N1
  replace B0 := below_step B0 N1
  obtain ⟨A, hA⟩ : ∃ A, A = w.heap.size := ⟨_, rfl⟩
  obtain ⟨X, hX⟩ : ∃ R, R = w.heap.size + 1 := ⟨_, rfl⟩
  obtain ⟨R, hR⟩ : ∃ R, R = w.heap.size + 1 + 1 := ⟨_, rfl⟩
  obtain ⟨O, hO⟩ : ∃ O, O = w.heap.size + 3 := ⟨_, rfl⟩
  rw [← hA] at bA
  rw [← hX] at bX
  rw [← hR] at bR
  rw [← hO] at bO
  try rw [show w.heap.size + 1 + 1 + 1 = O by omega]
  try rw [← hO]
  try rw [← hR]
  try rw [← hX]
  try rw [← hA]
  obtain ⟨lo, hlo⟩ : ∃ n, n = W1.heap.size := ⟨_, rfl⟩
  have HLAY : Hid (Lay w lo A X R O) := Lib.hid (by unfold Lay; omega)
  have hwR : w.heap.size ≤ R := by omega
  have hRlo : R < lo := by omega
  have hP0 : PuT w W1 lo A X R O (.slice a n c) [.int .i64 x.a, .int .i64 x.n, .slice xa x.h.length xc] (.slice none 0 0) [] := ⟨World.ownsRow_nil _ _ _ _, by simp, bO, bR, bA, bX, B0, by omega⟩
  clear hA hX hR hO hW z z0 N1 bA bX bR bO B0 hlo
  go_loopw [6, 7] (fun pb q wr => ∃ k : Nat, k ≤ n ∧ q = .int .i64 k ∧ pb = .bool (putP L x k) ∧ ∃ v2 T, PuT w wr lo A X R O (.slice a n c) [.int .i64 x.a, .int .i64 x.n, .slice xa x.h.length xc] v2 T ∧ grpT T = putO L x k) (fun _ q _ => n - (intOf q).toNat)
  case atStart => exact ⟨0, Nat.zero_le _, rfl, rfl, _, [], hP0, rfl⟩
  case round =>
    clear hP0
    obtain ⟨k, hk, rfl, rfl, v2, T, hP, hTT⟩ := hrel
    obtain ⟨p, hp⟩ : ∃ p, putP L x k = p := ⟨_, rfl⟩
    have r0 := hP.a.c 0 rfl
    by_cases hlt : k < n
    · have hltI : (k : Int) < (n : Int) := by omega
      obtain ⟨b, o, rfl, hE⟩ := hc k hlt
      obtain ⟨E, hx⟩ : ∃ E, L.getD k gr0 = E := ⟨_, rfl⟩
      rw [hx] at hE
      obtain ⟨ev, he, G0, G1, G2⟩ := hE
      obtain ⟨ea, ec, rfl⟩ := he.len
      have HRE : Hid (RdP w (⟨E, .slice ea E.h.length ec⟩ : GT).u (⟨E, .slice ea E.h.length ec⟩ : GT).E.h) := Lib.hid he
      have g0 := over_cell hP.b (World.block_lt_of_cell? _ _ G0) G0
      have g1 := over_cell hP.b (World.block_lt_of_cell? _ _ G1) G1
      have hTl : T.length ≤ 2 * k := by have := putO_len L x k; rw [← hTT, grpT_len] at this; exact this
      have HL : Hid (T.length + 1 ≤ 4294967296) := Lib.hid (by omega)
      obtain ⟨r, hr⟩ : ∃ r, cmp2 x.a x.n E.a E.n = r := ⟨_, rfl⟩
      have HRR := Lib.hid hr
      have HST := Lib.hid (put_step hx hp hr hTT)
      have HTL := Lib.hid hTl
      have HC := Lib.hid hc
      have HG := Lib.hid (And.intro G0 (And.intro G1 G2))
      rw [hp]
      clear hx hc hr hp hTT hTl he G0 G1 G2
      go_wp2_with fail
      refine wp_region_class (C := Over (wr)) (by kernel_rfl) (by kernel_rfl) (over_drew _) ?_
      repeat (first | go_big_quiet_skip | (go_big_quiet_want; go_big_quiet_op; go_big_quiet_on) | (go_big_quiet_want; go_big_quiet_op; apply Exists.intro; refine ⟨fun w' hC => ?_, ?_⟩; ((first | (go_at_call 142; refine (scmp_t _ HRR).mono ?_; rintro e w1 ⟨rfl, hb1⟩; exact ⟨rfl, over_step hC hb1⟩))); go_big_quiet_on) | (go_big_quiet_want; apply Exists.intro; refine ⟨fun w' hC => ?_, ?_⟩; (have k0 := over_cell hC hP.a.lt (hP.a.c 0 rfl); have k1 := over_cell hC hP.x.lt (hP.x.c 0 rfl); have k2 := over_cell hC hP.x.lt (hP.x.c 1 rfl); have k3 := over_cell hC (World.block_lt_of_cell? _ _ g0) g0; have k4 := over_cell hC (World.block_lt_of_cell? _ _ g1) g1; simp [Oper.quietAt, Oper.quietUpon, go_sem, k0, k1, k2, k3, k4, hltI, hlt]; first | done | rfl); go_big_quiet_on; simp only [Act.put, List.setIfInBounds_toArray, List.set_cons_zero, List.set_cons_succ]))
      refine wpQuiet_nil ?_
      intro ws hC
      have k0 := over_cell hC hP.a.lt (hP.a.c 0 rfl)
      have k1 := over_cell hC hP.x.lt (hP.x.c 0 rfl)
      have k2 := over_cell hC hP.x.lt (hP.x.c 1 rfl)
      have k3 := over_cell hC (World.block_lt_of_cell? _ _ g0) g0
      have k4 := over_cell hC (World.block_lt_of_cell? _ _ g1) g1
      replace hP := hP.keep hC
      clear k0 k1 k2 k3 k4 g0 g1 hC r0
      obtain ⟨G0, G1, G2⟩ := HG.out
      by_cases hle : r ≤ 0
      · cases p
        · have HPP : Hid (putP L x (k + 1) = true) := Lib.hid (by rw [HST.out.1, decide_eq_true hle]; rfl)
          have hneg : ¬ (0 < r) := by omega
          have o0 := hP.o.c 0 rfl
          have of0 := hP.o.f 0 rfl
          have x0 := hP.x.c 0 rfl
          have x1 := hP.x.c 1 rfl
          have x2 := hP.x.c 2 rfl
          go_wp2_with (at_builtin; refine Hid.out ?_)
          refine Lib.hid ?_
          clear o0 of0 x0 x1 x2
          obtain ⟨bN, N2, z⟩ := one ws [.int .i64 x.a, .int .i64 x.n, .slice xa x.h.length xc] GI
          refine wp_apY rfl _ _ rfl lo ws.heap.size 1 v2 T.length (flatG T) [.int .i64 x.a, .int .i64 x.n, .slice xa x.h.length xc] rfl rfl (rowG_keep hP.row N2) bN rfl (by simp [Value.oneCell']) HL.out (Nat.le_trans hP.s N2.size) ?_
          intro v3 w3 hrow hg hor
          obtain ⟨y1, y2, rfl⟩ := row_sliceGG hrow
          have hG := (hP.keep N2).grown HLAY.out hg
          have hP3 := (hP.keep N2).app (t := ⟨x, .slice xa x.h.length xc⟩) HLAY.out hrow hg HRX.out
          have o0 := hG.1.c 0 rfl
          have of0 := hG.1.f 0 rfl
          clear hP hg hor hG hrow bN N2 z
          by_cases hz : r = 0
          · have HT2 : Hid (grpT (T ++ [⟨x, .slice xa x.h.length xc⟩]) = putO L x (k + 1)) := Lib.hid (by rw [HST.out.2, decide_eq_true hle, if_pos (show (!false && true) = true from rfl), if_pos hz, List.append_nil, grpT_append]; rfl)
            subst hz
            go_wp2
            go_roundw
            case rel => exact ⟨k + 1, by omega, by go_num, by rw [HPP.out], _, T ++ [⟨x, .slice xa x.h.length xc⟩], hP3, HT2.out⟩
            case measure => simp [intOf]; omega
          · have HT2 : Hid (grpT ((T ++ [⟨x, .slice xa x.h.length xc⟩]) ++ [⟨E, .slice ea E.h.length ec⟩]) = putO L x (k + 1)) := Lib.hid (by rw [HST.out.2, decide_eq_true hle, if_pos (show (!false && true) = true from rfl), if_neg hz, grpT_append, grpT_append]; rfl)
            have HL2 : Hid ((T ++ [(⟨x, .slice xa x.h.length xc⟩ : GT)]).length + 1 ≤ 4294967296) := Lib.hid (by have := HTL.out; simp; omega)
            have hzb : (r != 0) = true := by simp [hz]
            go_wp2_with fail
            obtain ⟨wd, hwd⟩ : ∃ W, W = w3.setCell ⟨O, 0, none⟩ (.slice y1 (T.length + 1) y2) := ⟨_, rfl⟩
            have hPd := hP3
            rw [← hwd] at hPd ⊢
            obtain ⟨T5, hT5⟩ : ∃ T5, T5 = T ++ [(⟨x, .slice xa x.h.length xc⟩ : GT)] := ⟨_, rfl⟩
            rw [← hT5] at hPd HT2 HL2
            clear hP3 hwd o0 of0 hT5
            obtain ⟨D, hD⟩ : ∃ D, D = wd.drew := ⟨_, rfl⟩
            have OD : Over wd D := by rw [hD]; exact over_drew _
            refine wp_region_held_drew (S := fun w' => Bl w' A [.slice (some ⟨b, o, none⟩) n c] ∧ Below w.heap.size w w') (by kernel_rfl) ⟨hPd.a.keep (over_drew _), below_step hPd.b (over_drew _)⟩ (fun hHeld => ?_)
            clear hHeld
            rw [← hD]
            clear hD
            have hPD := hPd.keep OD
            clear hPd OD
            have hSD : KpG w A [.slice (some ⟨b, o, none⟩) n c] D := ⟨hPD.a, hPD.b⟩
            refine wpAnyH_take (i := 0) (v := ?_) rfl (by kernel_rfl) (by kernel_rfl) (by kernel_rfl) (fun _ _ _ h => h) (Or.inl ⟨by rfl, ?_⟩) hSD ?_
            rotate_left
            · intro wq hSq
              (try dsimp only at hSq)

              go_simp
              try rfl
            change wpAnyH _ _ _ _ _ _ _ (Act.put _ (some 39) _) _
            simp only [Act.put, List.setIfInBounds_toArray, List.set_cons_succ, List.set_cons_zero]
            refine wpAnyH_take (i := 2) (v := ?_) rfl (by kernel_rfl) (by kernel_rfl) (by kernel_rfl) (fun _ _ _ h => h) (Or.inl ⟨by rfl, ?_⟩) hSD ?_
            rotate_left
            · intro wq hSq
              (try dsimp only at hSq)

              go_simp
              try rfl
            change wpAnyH _ _ _ _ _ _ _ (Act.put _ (some 41) _) _
            simp only [Act.put, List.setIfInBounds_toArray, List.set_cons_succ, List.set_cons_zero]
            refine wpAnyH_take (i := 3) (v := ?_) rfl (by kernel_rfl) (by kernel_rfl) (by kernel_rfl) (fun _ _ _ h => h) (Or.inl ⟨by rfl, ?_⟩) hSD ?_
            rotate_left
            · intro wq hSq
              (try dsimp only at hSq)
              have q0 := hSq.1.c 0 rfl
              go_simp
              try rfl
            change wpAnyH _ _ _ _ _ _ _ (Act.put _ (some 42) _) _
            simp only [Act.put, List.setIfInBounds_toArray, List.set_cons_succ, List.set_cons_zero]
            refine wpAnyH_take (i := 4) (v := ?_) rfl (by kernel_rfl) (by kernel_rfl) (by kernel_rfl) (fun _ _ _ h => h) (Or.inl ⟨by rfl, ?_⟩) hSD ?_
            rotate_left
            · intro wq hSq
              (try dsimp only at hSq)

              go_simp
              try rfl
            change wpAnyH _ _ _ _ _ _ _ (Act.put _ (some 43) _) _
            simp only [Act.put, List.setIfInBounds_toArray, List.set_cons_succ, List.set_cons_zero]
            refine wpAnyH_take (i := 5) (v := ?_) rfl (by kernel_rfl) (by kernel_rfl) (by kernel_rfl) (fun _ _ _ h => h) (Or.inl ⟨by rfl, ?_⟩) hSD ?_
            rotate_left
            · intro wq hSq
              (try dsimp only at hSq)

              go_simp
              try rfl
            change wpAnyH _ _ _ _ _ _ _ (Act.put _ (some 44) _) _
            simp only [Act.put, List.setIfInBounds_toArray, List.set_cons_succ, List.set_cons_zero]
            refine wpAnyH_take (i := 6) (v := ?_) rfl (by kernel_rfl) (by kernel_rfl) (by kernel_rfl) (fun _ _ _ h => h) (Or.inl ⟨by rfl, ?_⟩) hSD ?_
            rotate_left
            · intro wq hSq
              (try dsimp only at hSq)
              have q0 := over_cell hSq.2 (World.block_lt_of_cell? _ _ G0) G0
              have q1 := over_cell hSq.2 (World.block_lt_of_cell? _ _ G1) G1
              have q2 := over_cell hSq.2 (World.block_lt_of_cell? _ _ G2) G2
              go_simp
              try rfl
            change wpAnyH _ _ _ _ _ _ _ (Act.put _ (some 45) _) _
            simp only [Act.put, List.setIfInBounds_toArray, List.set_cons_succ, List.set_cons_zero]
            refine wpAnyH_ready (rs := [1, 7]) (by kernel_rfl) (by simp) ?_
            refine (AllReadyH.cons rfl (fun K hK => ?_) (AllReadyH.cons rfl (fun K hK => ?_) AllReadyH.nil))
            · have q := hPD.o.c 0 rfl
              go_simp
              refine hK.out _ _ hSD (fun hHeld => ?_)
              clear hK K hHeld q
              try simp only [Act.put, List.setIfInBounds_toArray, List.set_cons_zero, List.set_cons_succ]
              refine wpAnyH_ready (rs := [7]) (by kernel_rfl) (by simp) ?_
              refine (AllReadyH.cons rfl (fun K hK => ?_) AllReadyH.nil)
              go_simp
              have bN := Bl.new D [.int .i64 E.a, .int .i64 E.n, .slice ea E.h.length ec] GI D.heap.size rfl
              have N1 : Below D.heap.size D (D.alloc (.cells #[.int .i64 E.a, .int .i64 E.n, .slice ea E.h.length ec] GI)) := (Below.refl _ _).alloc (Nat.le_refl _) _
              refine hK.out _ _ (hSD.next N1) (fun hHeld => ?_)
              clear hK K hHeld
              try simp only [Act.put, List.setIfInBounds_toArray, List.set_cons_zero, List.set_cons_succ]
              refine wpAnyH_ready (rs := [8]) (by kernel_rfl) (by simp) ?_
              refine (AllReadyH.cons rfl (fun K hK => ?_) AllReadyH.nil)
              refine step_apY rfl (.tmp 40) (.tmp 46) rfl lo D.heap.size 1 (.slice y1 (T.length + 1) y2) (T5 : List GT).length (flatG (T5)) [.int .i64 E.a, .int .i64 E.n, .slice ea E.h.length ec] rfl rfl (hPD.keep N1).row bN rfl (by simp [Value.oneCell']) HL2.out (hPD.keep N1).s ?_
              intro v5 w5 hrow hg hor
              have hG := (hPD.keep N1).grown HLAY.out hg
              have hP5 := (hPD.keep N1).app (t := ⟨E, .slice ea E.h.length ec⟩) HLAY.out hrow hg HRE.out
              obtain ⟨y5, z5, rfl⟩ := row_sliceGG hrow
              refine hK.out _ _ ⟨hG.2.2.1, hG.2.2.2.2.1⟩ (fun hHeld => ?_)
              clear hK K hHeld
              try simp only [Act.put, List.setIfInBounds_toArray, List.set_cons_zero, List.set_cons_succ]
              refine wpAnyH_ready (rs := [9]) (by kernel_rfl) (by simp) ?_
              refine (AllReadyH.cons rfl (fun K hK => ?_) AllReadyH.nil)
              go_simp
              refine hK.out _ _ ⟨hG.2.2.1, hG.2.2.2.2.1⟩ (fun hHeld => ?_)
              clear hK K hHeld
              try simp only [Act.put, List.setIfInBounds_toArray, List.set_cons_zero, List.set_cons_succ]
              refine wpAnyH_ready (rs := [10]) (by kernel_rfl) (by simp) ?_
              refine (AllReadyH.cons rfl (fun K hK => ?_) AllReadyH.nil)
              have o0 := hG.1.c 0 rfl
              have of0 := hG.1.f 0 rfl
              go_simp
              refine hK.out _ _ ⟨hP5.a, hP5.b⟩ (fun hHeld => ?_)
              clear hK K hHeld o0 of0
              try simp only [Act.put, List.setIfInBounds_toArray, List.set_cons_zero, List.set_cons_succ]
              refine wpAnyH_done (by kernel_rfl) ?_ _
              go_wp2
              go_roundw
              case rel => exact ⟨k + 1, by omega, by go_num, by rw [HPP.out], _, _, hP5, HT2.out⟩
              case measure => simp [intOf]; omega
            · go_simp
              have bN := Bl.new D [.int .i64 E.a, .int .i64 E.n, .slice ea E.h.length ec] GI D.heap.size rfl
              have N1 : Below D.heap.size D (D.alloc (.cells #[.int .i64 E.a, .int .i64 E.n, .slice ea E.h.length ec] GI)) := (Below.refl _ _).alloc (Nat.le_refl _) _
              refine hK.out _ _ (hSD.next N1) (fun hHeld => ?_)
              clear hK K hHeld
              try simp only [Act.put, List.setIfInBounds_toArray, List.set_cons_zero, List.set_cons_succ]
              refine wpAnyH_ready (rs := [1]) (by kernel_rfl) (by simp) ?_
              refine (AllReadyH.cons rfl (fun K hK => ?_) AllReadyH.nil)
              have q := (hPD.keep N1).o.c 0 rfl
              go_simp
              refine hK.out _ _ (hSD.next N1) (fun hHeld => ?_)
              clear hK K hHeld q
              try simp only [Act.put, List.setIfInBounds_toArray, List.set_cons_zero, List.set_cons_succ]
              refine wpAnyH_ready (rs := [8]) (by kernel_rfl) (by simp) ?_
              refine (AllReadyH.cons rfl (fun K hK => ?_) AllReadyH.nil)
              refine step_apY rfl (.tmp 40) (.tmp 46) rfl lo D.heap.size 1 (.slice y1 (T.length + 1) y2) (T5 : List GT).length (flatG (T5)) [.int .i64 E.a, .int .i64 E.n, .slice ea E.h.length ec] rfl rfl (hPD.keep N1).row bN rfl (by simp [Value.oneCell']) HL2.out (hPD.keep N1).s ?_
              intro v5 w5 hrow hg hor
              have hG := (hPD.keep N1).grown HLAY.out hg
              have hP5 := (hPD.keep N1).app (t := ⟨E, .slice ea E.h.length ec⟩) HLAY.out hrow hg HRE.out
              obtain ⟨y5, z5, rfl⟩ := row_sliceGG hrow
              refine hK.out _ _ ⟨hG.2.2.1, hG.2.2.2.2.1⟩ (fun hHeld => ?_)
              clear hK K hHeld
              try simp only [Act.put, List.setIfInBounds_toArray, List.set_cons_zero, List.set_cons_succ]
              refine wpAnyH_ready (rs := [9]) (by kernel_rfl) (by simp) ?_
              refine (AllReadyH.cons rfl (fun K hK => ?_) AllReadyH.nil)
              go_simp
              refine hK.out _ _ ⟨hG.2.2.1, hG.2.2.2.2.1⟩ (fun hHeld => ?_)
              clear hK K hHeld
              try simp only [Act.put, List.setIfInBounds_toArray, List.set_cons_zero, List.set_cons_succ]
              refine wpAnyH_ready (rs := [10]) (by kernel_rfl) (by simp) ?_
              refine (AllReadyH.cons rfl (fun K hK => ?_) AllReadyH.nil)
              have o0 := hG.1.c 0 rfl
              have of0 := hG.1.f 0 rfl
              go_simp
              refine hK.out _ _ ⟨hP5.a, hP5.b⟩ (fun hHeld => ?_)
              clear hK K hHeld o0 of0
              try simp only [Act.put, List.setIfInBounds_toArray, List.set_cons_zero, List.set_cons_succ]
              refine wpAnyH_done (by kernel_rfl) ?_ _
              go_wp2
              go_roundw
              case rel => exact ⟨k + 1, by omega, by go_num, by rw [HPP.out], _, _, hP5, HT2.out⟩
              case measure => simp [intOf]; omega
        · have HPP : Hid (putP L x (k + 1) = true) := Lib.hid (by rw [HST.out.1, decide_eq_true hle]; rfl)
          by_cases hz : r = 0
          · have HT2 : Hid (grpT T = putO L x (k + 1)) := Lib.hid (by rw [HST.out.2, decide_eq_true hle, if_neg (show ¬ ((!true && true) = true) by simp), if_pos hz, List.append_nil])
            subst hz
            go_wp2
            go_roundw
            case rel => exact ⟨k + 1, by omega, by go_num, by rw [HPP.out], _, T, hP, HT2.out⟩
            case measure => simp [intOf]; omega
          · have HT2 : Hid (grpT (T ++ [⟨E, .slice ea E.h.length ec⟩]) = putO L x (k + 1)) := Lib.hid (by rw [HST.out.2, decide_eq_true hle, if_neg (show ¬ ((!true && true) = true) by simp), if_neg hz, grpT_append]; rfl)
            have HL2 := HL
            have hzb : (r != 0) = true := by simp [hz]
            go_wp2_with fail
            obtain ⟨wd, rfl⟩ : ∃ W : World, W = ws := ⟨_, rfl⟩
            have hPd := hP
            clear hP
            obtain ⟨D, hD⟩ : ∃ D, D = wd.drew := ⟨_, rfl⟩
            have OD : Over wd D := by rw [hD]; exact over_drew _
            refine wp_region_held_drew (S := fun w' => Bl w' A [.slice (some ⟨b, o, none⟩) n c] ∧ Below w.heap.size w w') (by kernel_rfl) ⟨hPd.a.keep (over_drew _), below_step hPd.b (over_drew _)⟩ (fun hHeld => ?_)
            clear hHeld
            rw [← hD]
            clear hD
            have hPD := hPd.keep OD
            clear hPd OD
            have hSD : KpG w A [.slice (some ⟨b, o, none⟩) n c] D := ⟨hPD.a, hPD.b⟩
            refine wpAnyH_take (i := 0) (v := ?_) rfl (by kernel_rfl) (by kernel_rfl) (by kernel_rfl) (fun _ _ _ h => h) (Or.inl ⟨by rfl, ?_⟩) hSD ?_
            rotate_left
            · intro wq hSq
              (try dsimp only at hSq)

              go_simp
              try rfl
            change wpAnyH _ _ _ _ _ _ _ (Act.put _ (some 39) _) _
            simp only [Act.put, List.setIfInBounds_toArray, List.set_cons_succ, List.set_cons_zero]
            refine wpAnyH_take (i := 2) (v := ?_) rfl (by kernel_rfl) (by kernel_rfl) (by kernel_rfl) (fun _ _ _ h => h) (Or.inl ⟨by rfl, ?_⟩) hSD ?_
            rotate_left
            · intro wq hSq
              (try dsimp only at hSq)

              go_simp
              try rfl
            change wpAnyH _ _ _ _ _ _ _ (Act.put _ (some 41) _) _
            simp only [Act.put, List.setIfInBounds_toArray, List.set_cons_succ, List.set_cons_zero]
            refine wpAnyH_take (i := 3) (v := ?_) rfl (by kernel_rfl) (by kernel_rfl) (by kernel_rfl) (fun _ _ _ h => h) (Or.inl ⟨by rfl, ?_⟩) hSD ?_
            rotate_left
            · intro wq hSq
              (try dsimp only at hSq)
              have q0 := hSq.1.c 0 rfl
              go_simp
              try rfl
            change wpAnyH _ _ _ _ _ _ _ (Act.put _ (some 42) _) _
            simp only [Act.put, List.setIfInBounds_toArray, List.set_cons_succ, List.set_cons_zero]
            refine wpAnyH_take (i := 4) (v := ?_) rfl (by kernel_rfl) (by kernel_rfl) (by kernel_rfl) (fun _ _ _ h => h) (Or.inl ⟨by rfl, ?_⟩) hSD ?_
            rotate_left
            · intro wq hSq
              (try dsimp only at hSq)

              go_simp
              try rfl
            change wpAnyH _ _ _ _ _ _ _ (Act.put _ (some 43) _) _
            simp only [Act.put, List.setIfInBounds_toArray, List.set_cons_succ, List.set_cons_zero]
            refine wpAnyH_take (i := 5) (v := ?_) rfl (by kernel_rfl) (by kernel_rfl) (by kernel_rfl) (fun _ _ _ h => h) (Or.inl ⟨by rfl, ?_⟩) hSD ?_
            rotate_left
            · intro wq hSq
              (try dsimp only at hSq)

              go_simp
              try rfl
            change wpAnyH _ _ _ _ _ _ _ (Act.put _ (some 44) _) _
            simp only [Act.put, List.setIfInBounds_toArray, List.set_cons_succ, List.set_cons_zero]
            refine wpAnyH_take (i := 6) (v := ?_) rfl (by kernel_rfl) (by kernel_rfl) (by kernel_rfl) (fun _ _ _ h => h) (Or.inl ⟨by rfl, ?_⟩) hSD ?_
            rotate_left
            · intro wq hSq
              (try dsimp only at hSq)
              have q0 := over_cell hSq.2 (World.block_lt_of_cell? _ _ G0) G0
              have q1 := over_cell hSq.2 (World.block_lt_of_cell? _ _ G1) G1
              have q2 := over_cell hSq.2 (World.block_lt_of_cell? _ _ G2) G2
              go_simp
              try rfl
            change wpAnyH _ _ _ _ _ _ _ (Act.put _ (some 45) _) _
            simp only [Act.put, List.setIfInBounds_toArray, List.set_cons_succ, List.set_cons_zero]
            refine wpAnyH_ready (rs := [1, 7]) (by kernel_rfl) (by simp) ?_
            refine (AllReadyH.cons rfl (fun K hK => ?_) (AllReadyH.cons rfl (fun K hK => ?_) AllReadyH.nil))
            · have q := hPD.o.c 0 rfl
              go_simp
              refine hK.out _ _ hSD (fun hHeld => ?_)
              clear hK K hHeld q
              try simp only [Act.put, List.setIfInBounds_toArray, List.set_cons_zero, List.set_cons_succ]
              refine wpAnyH_ready (rs := [7]) (by kernel_rfl) (by simp) ?_
              refine (AllReadyH.cons rfl (fun K hK => ?_) AllReadyH.nil)
              go_simp
              have bN := Bl.new D [.int .i64 E.a, .int .i64 E.n, .slice ea E.h.length ec] GI D.heap.size rfl
              have N1 : Below D.heap.size D (D.alloc (.cells #[.int .i64 E.a, .int .i64 E.n, .slice ea E.h.length ec] GI)) := (Below.refl _ _).alloc (Nat.le_refl _) _
              refine hK.out _ _ (hSD.next N1) (fun hHeld => ?_)
              clear hK K hHeld
              try simp only [Act.put, List.setIfInBounds_toArray, List.set_cons_zero, List.set_cons_succ]
              refine wpAnyH_ready (rs := [8]) (by kernel_rfl) (by simp) ?_
              refine (AllReadyH.cons rfl (fun K hK => ?_) AllReadyH.nil)
              refine step_apY rfl (.tmp 40) (.tmp 46) rfl lo D.heap.size 1 v2 (T : List GT).length (flatG (T)) [.int .i64 E.a, .int .i64 E.n, .slice ea E.h.length ec] rfl rfl (hPD.keep N1).row bN rfl (by simp [Value.oneCell']) HL2.out (hPD.keep N1).s ?_
              intro v5 w5 hrow hg hor
              have hG := (hPD.keep N1).grown HLAY.out hg
              have hP5 := (hPD.keep N1).app (t := ⟨E, .slice ea E.h.length ec⟩) HLAY.out hrow hg HRE.out
              obtain ⟨y5, z5, rfl⟩ := row_sliceGG hrow
              refine hK.out _ _ ⟨hG.2.2.1, hG.2.2.2.2.1⟩ (fun hHeld => ?_)
              clear hK K hHeld
              try simp only [Act.put, List.setIfInBounds_toArray, List.set_cons_zero, List.set_cons_succ]
              refine wpAnyH_ready (rs := [9]) (by kernel_rfl) (by simp) ?_
              refine (AllReadyH.cons rfl (fun K hK => ?_) AllReadyH.nil)
              go_simp
              refine hK.out _ _ ⟨hG.2.2.1, hG.2.2.2.2.1⟩ (fun hHeld => ?_)
              clear hK K hHeld
              try simp only [Act.put, List.setIfInBounds_toArray, List.set_cons_zero, List.set_cons_succ]
              refine wpAnyH_ready (rs := [10]) (by kernel_rfl) (by simp) ?_
              refine (AllReadyH.cons rfl (fun K hK => ?_) AllReadyH.nil)
              have o0 := hG.1.c 0 rfl
              have of0 := hG.1.f 0 rfl
              go_simp
              refine hK.out _ _ ⟨hP5.a, hP5.b⟩ (fun hHeld => ?_)
              clear hK K hHeld o0 of0
              try simp only [Act.put, List.setIfInBounds_toArray, List.set_cons_zero, List.set_cons_succ]
              refine wpAnyH_done (by kernel_rfl) ?_ _
              go_wp2
              go_roundw
              case rel => exact ⟨k + 1, by omega, by go_num, by rw [HPP.out], _, _, hP5, HT2.out⟩
              case measure => simp [intOf]; omega
            · go_simp
              have bN := Bl.new D [.int .i64 E.a, .int .i64 E.n, .slice ea E.h.length ec] GI D.heap.size rfl
              have N1 : Below D.heap.size D (D.alloc (.cells #[.int .i64 E.a, .int .i64 E.n, .slice ea E.h.length ec] GI)) := (Below.refl _ _).alloc (Nat.le_refl _) _
              refine hK.out _ _ (hSD.next N1) (fun hHeld => ?_)
              clear hK K hHeld
              try simp only [Act.put, List.setIfInBounds_toArray, List.set_cons_zero, List.set_cons_succ]
              refine wpAnyH_ready (rs := [1]) (by kernel_rfl) (by simp) ?_
              refine (AllReadyH.cons rfl (fun K hK => ?_) AllReadyH.nil)
              have q := (hPD.keep N1).o.c 0 rfl
              go_simp
              refine hK.out _ _ (hSD.next N1) (fun hHeld => ?_)
              clear hK K hHeld q
              try simp only [Act.put, List.setIfInBounds_toArray, List.set_cons_zero, List.set_cons_succ]
              refine wpAnyH_ready (rs := [8]) (by kernel_rfl) (by simp) ?_
              refine (AllReadyH.cons rfl (fun K hK => ?_) AllReadyH.nil)
              refine step_apY rfl (.tmp 40) (.tmp 46) rfl lo D.heap.size 1 v2 (T : List GT).length (flatG (T)) [.int .i64 E.a, .int .i64 E.n, .slice ea E.h.length ec] rfl rfl (hPD.keep N1).row bN rfl (by simp [Value.oneCell']) HL2.out (hPD.keep N1).s ?_
              intro v5 w5 hrow hg hor
              have hG := (hPD.keep N1).grown HLAY.out hg
              have hP5 := (hPD.keep N1).app (t := ⟨E, .slice ea E.h.length ec⟩) HLAY.out hrow hg HRE.out
              obtain ⟨y5, z5, rfl⟩ := row_sliceGG hrow
              refine hK.out _ _ ⟨hG.2.2.1, hG.2.2.2.2.1⟩ (fun hHeld => ?_)
              clear hK K hHeld
              try simp only [Act.put, List.setIfInBounds_toArray, List.set_cons_zero, List.set_cons_succ]
              refine wpAnyH_ready (rs := [9]) (by kernel_rfl) (by simp) ?_
              refine (AllReadyH.cons rfl (fun K hK => ?_) AllReadyH.nil)
              go_simp
              refine hK.out _ _ ⟨hG.2.2.1, hG.2.2.2.2.1⟩ (fun hHeld => ?_)
              clear hK K hHeld
              try simp only [Act.put, List.setIfInBounds_toArray, List.set_cons_zero, List.set_cons_succ]
              refine wpAnyH_ready (rs := [10]) (by kernel_rfl) (by simp) ?_
              refine (AllReadyH.cons rfl (fun K hK => ?_) AllReadyH.nil)
              have o0 := hG.1.c 0 rfl
              have of0 := hG.1.f 0 rfl
              go_simp
              refine hK.out _ _ ⟨hP5.a, hP5.b⟩ (fun hHeld => ?_)
              clear hK K hHeld o0 of0
              try simp only [Act.put, List.setIfInBounds_toArray, List.set_cons_zero, List.set_cons_succ]
              refine wpAnyH_done (by kernel_rfl) ?_ _
              go_wp2
              go_roundw
              case rel => exact ⟨k + 1, by omega, by go_num, by rw [HPP.out], _, _, hP5, HT2.out⟩
              case measure => simp [intOf]; omega
      · cases p
        · have HPP : Hid (putP L x (k + 1) = false) := Lib.hid (by rw [HST.out.1, decide_eq_false hle]; rfl)
          have hz : ¬ r = 0 := by omega
          have HT2 : Hid (grpT (T ++ [⟨E, .slice ea E.h.length ec⟩]) = putO L x (k + 1)) := Lib.hid (by rw [HST.out.2, decide_eq_false hle, if_neg (show ¬ ((!false && false) = true) by simp), if_neg hz, grpT_append]; rfl)
          have HL2 := HL
          have hzb : (r != 0) = true := by simp [hz]
          go_wp2_with fail
          obtain ⟨wd, rfl⟩ : ∃ W : World, W = ws := ⟨_, rfl⟩
          have hPd := hP
          clear hP
          obtain ⟨D, hD⟩ : ∃ D, D = wd.drew := ⟨_, rfl⟩
          have OD : Over wd D := by rw [hD]; exact over_drew _
          refine wp_region_held_drew (S := fun w' => Bl w' A [.slice (some ⟨b, o, none⟩) n c] ∧ Below w.heap.size w w') (by kernel_rfl) ⟨hPd.a.keep (over_drew _), below_step hPd.b (over_drew _)⟩ (fun hHeld => ?_)
          clear hHeld
          rw [← hD]
          clear hD
          have hPD := hPd.keep OD
          clear hPd OD
          have hSD : KpG w A [.slice (some ⟨b, o, none⟩) n c] D := ⟨hPD.a, hPD.b⟩
          refine wpAnyH_take (i := 0) (v := ?_) rfl (by kernel_rfl) (by kernel_rfl) (by kernel_rfl) (fun _ _ _ h => h) (Or.inl ⟨by rfl, ?_⟩) hSD ?_
          rotate_left
          · intro wq hSq
            (try dsimp only at hSq)

            go_simp
            try rfl
          change wpAnyH _ _ _ _ _ _ _ (Act.put _ (some 39) _) _
          simp only [Act.put, List.setIfInBounds_toArray, List.set_cons_succ, List.set_cons_zero]
          refine wpAnyH_take (i := 2) (v := ?_) rfl (by kernel_rfl) (by kernel_rfl) (by kernel_rfl) (fun _ _ _ h => h) (Or.inl ⟨by rfl, ?_⟩) hSD ?_
          rotate_left
          · intro wq hSq
            (try dsimp only at hSq)

            go_simp
            try rfl
          change wpAnyH _ _ _ _ _ _ _ (Act.put _ (some 41) _) _
          simp only [Act.put, List.setIfInBounds_toArray, List.set_cons_succ, List.set_cons_zero]
          refine wpAnyH_take (i := 3) (v := ?_) rfl (by kernel_rfl) (by kernel_rfl) (by kernel_rfl) (fun _ _ _ h => h) (Or.inl ⟨by rfl, ?_⟩) hSD ?_
          rotate_left
          · intro wq hSq
            (try dsimp only at hSq)
            have q0 := hSq.1.c 0 rfl
            go_simp
            try rfl
          change wpAnyH _ _ _ _ _ _ _ (Act.put _ (some 42) _) _
          simp only [Act.put, List.setIfInBounds_toArray, List.set_cons_succ, List.set_cons_zero]
          refine wpAnyH_take (i := 4) (v := ?_) rfl (by kernel_rfl) (by kernel_rfl) (by kernel_rfl) (fun _ _ _ h => h) (Or.inl ⟨by rfl, ?_⟩) hSD ?_
          rotate_left
          · intro wq hSq
            (try dsimp only at hSq)

            go_simp
            try rfl
          change wpAnyH _ _ _ _ _ _ _ (Act.put _ (some 43) _) _
          simp only [Act.put, List.setIfInBounds_toArray, List.set_cons_succ, List.set_cons_zero]
          refine wpAnyH_take (i := 5) (v := ?_) rfl (by kernel_rfl) (by kernel_rfl) (by kernel_rfl) (fun _ _ _ h => h) (Or.inl ⟨by rfl, ?_⟩) hSD ?_
          rotate_left
          · intro wq hSq
            (try dsimp only at hSq)

            go_simp
            try rfl
          change wpAnyH _ _ _ _ _ _ _ (Act.put _ (some 44) _) _
          simp only [Act.put, List.setIfInBounds_toArray, List.set_cons_succ, List.set_cons_zero]
          refine wpAnyH_take (i := 6) (v := ?_) rfl (by kernel_rfl) (by kernel_rfl) (by kernel_rfl) (fun _ _ _ h => h) (Or.inl ⟨by rfl, ?_⟩) hSD ?_
          rotate_left
          · intro wq hSq
            (try dsimp only at hSq)
            have q0 := over_cell hSq.2 (World.block_lt_of_cell? _ _ G0) G0
            have q1 := over_cell hSq.2 (World.block_lt_of_cell? _ _ G1) G1
            have q2 := over_cell hSq.2 (World.block_lt_of_cell? _ _ G2) G2
            go_simp
            try rfl
          change wpAnyH _ _ _ _ _ _ _ (Act.put _ (some 45) _) _
          simp only [Act.put, List.setIfInBounds_toArray, List.set_cons_succ, List.set_cons_zero]
          refine wpAnyH_ready (rs := [1, 7]) (by kernel_rfl) (by simp) ?_
          refine (AllReadyH.cons rfl (fun K hK => ?_) (AllReadyH.cons rfl (fun K hK => ?_) AllReadyH.nil))
          · have q := hPD.o.c 0 rfl
            go_simp
            refine hK.out _ _ hSD (fun hHeld => ?_)
            clear hK K hHeld q
            try simp only [Act.put, List.setIfInBounds_toArray, List.set_cons_zero, List.set_cons_succ]
            refine wpAnyH_ready (rs := [7]) (by kernel_rfl) (by simp) ?_
            refine (AllReadyH.cons rfl (fun K hK => ?_) AllReadyH.nil)
            go_simp
            have bN := Bl.new D [.int .i64 E.a, .int .i64 E.n, .slice ea E.h.length ec] GI D.heap.size rfl
            have N1 : Below D.heap.size D (D.alloc (.cells #[.int .i64 E.a, .int .i64 E.n, .slice ea E.h.length ec] GI)) := (Below.refl _ _).alloc (Nat.le_refl _) _
            refine hK.out _ _ (hSD.next N1) (fun hHeld => ?_)
            clear hK K hHeld
            try simp only [Act.put, List.setIfInBounds_toArray, List.set_cons_zero, List.set_cons_succ]
            refine wpAnyH_ready (rs := [8]) (by kernel_rfl) (by simp) ?_
            refine (AllReadyH.cons rfl (fun K hK => ?_) AllReadyH.nil)
            refine step_apY rfl (.tmp 40) (.tmp 46) rfl lo D.heap.size 1 v2 (T : List GT).length (flatG (T)) [.int .i64 E.a, .int .i64 E.n, .slice ea E.h.length ec] rfl rfl (hPD.keep N1).row bN rfl (by simp [Value.oneCell']) HL2.out (hPD.keep N1).s ?_
            intro v5 w5 hrow hg hor
            have hG := (hPD.keep N1).grown HLAY.out hg
            have hP5 := (hPD.keep N1).app (t := ⟨E, .slice ea E.h.length ec⟩) HLAY.out hrow hg HRE.out
            obtain ⟨y5, z5, rfl⟩ := row_sliceGG hrow
            refine hK.out _ _ ⟨hG.2.2.1, hG.2.2.2.2.1⟩ (fun hHeld => ?_)
            clear hK K hHeld
            try simp only [Act.put, List.setIfInBounds_toArray, List.set_cons_zero, List.set_cons_succ]
            refine wpAnyH_ready (rs := [9]) (by kernel_rfl) (by simp) ?_
            refine (AllReadyH.cons rfl (fun K hK => ?_) AllReadyH.nil)
            go_simp
            refine hK.out _ _ ⟨hG.2.2.1, hG.2.2.2.2.1⟩ (fun hHeld => ?_)
            clear hK K hHeld
            try simp only [Act.put, List.setIfInBounds_toArray, List.set_cons_zero, List.set_cons_succ]
            refine wpAnyH_ready (rs := [10]) (by kernel_rfl) (by simp) ?_
            refine (AllReadyH.cons rfl (fun K hK => ?_) AllReadyH.nil)
            have o0 := hG.1.c 0 rfl
            have of0 := hG.1.f 0 rfl
            go_simp
            refine hK.out _ _ ⟨hP5.a, hP5.b⟩ (fun hHeld => ?_)
            clear hK K hHeld o0 of0
            try simp only [Act.put, List.setIfInBounds_toArray, List.set_cons_zero, List.set_cons_succ]
            refine wpAnyH_done (by kernel_rfl) ?_ _
            go_wp2
            go_roundw
            case rel => exact ⟨k + 1, by omega, by go_num, by rw [HPP.out], _, _, hP5, HT2.out⟩
            case measure => simp [intOf]; omega
          · go_simp
            have bN := Bl.new D [.int .i64 E.a, .int .i64 E.n, .slice ea E.h.length ec] GI D.heap.size rfl
            have N1 : Below D.heap.size D (D.alloc (.cells #[.int .i64 E.a, .int .i64 E.n, .slice ea E.h.length ec] GI)) := (Below.refl _ _).alloc (Nat.le_refl _) _
            refine hK.out _ _ (hSD.next N1) (fun hHeld => ?_)
            clear hK K hHeld
            try simp only [Act.put, List.setIfInBounds_toArray, List.set_cons_zero, List.set_cons_succ]
            refine wpAnyH_ready (rs := [1]) (by kernel_rfl) (by simp) ?_
            refine (AllReadyH.cons rfl (fun K hK => ?_) AllReadyH.nil)
            have q := (hPD.keep N1).o.c 0 rfl
            go_simp
            refine hK.out _ _ (hSD.next N1) (fun hHeld => ?_)
            clear hK K hHeld q
            try simp only [Act.put, List.setIfInBounds_toArray, List.set_cons_zero, List.set_cons_succ]
            refine wpAnyH_ready (rs := [8]) (by kernel_rfl) (by simp) ?_
            refine (AllReadyH.cons rfl (fun K hK => ?_) AllReadyH.nil)
            refine step_apY rfl (.tmp 40) (.tmp 46) rfl lo D.heap.size 1 v2 (T : List GT).length (flatG (T)) [.int .i64 E.a, .int .i64 E.n, .slice ea E.h.length ec] rfl rfl (hPD.keep N1).row bN rfl (by simp [Value.oneCell']) HL2.out (hPD.keep N1).s ?_
            intro v5 w5 hrow hg hor
            have hG := (hPD.keep N1).grown HLAY.out hg
            have hP5 := (hPD.keep N1).app (t := ⟨E, .slice ea E.h.length ec⟩) HLAY.out hrow hg HRE.out
            obtain ⟨y5, z5, rfl⟩ := row_sliceGG hrow
            refine hK.out _ _ ⟨hG.2.2.1, hG.2.2.2.2.1⟩ (fun hHeld => ?_)
            clear hK K hHeld
            try simp only [Act.put, List.setIfInBounds_toArray, List.set_cons_zero, List.set_cons_succ]
            refine wpAnyH_ready (rs := [9]) (by kernel_rfl) (by simp) ?_
            refine (AllReadyH.cons rfl (fun K hK => ?_) AllReadyH.nil)
            go_simp
            refine hK.out _ _ ⟨hG.2.2.1, hG.2.2.2.2.1⟩ (fun hHeld => ?_)
            clear hK K hHeld
            try simp only [Act.put, List.setIfInBounds_toArray, List.set_cons_zero, List.set_cons_succ]
            refine wpAnyH_ready (rs := [10]) (by kernel_rfl) (by simp) ?_
            refine (AllReadyH.cons rfl (fun K hK => ?_) AllReadyH.nil)
            have o0 := hG.1.c 0 rfl
            have of0 := hG.1.f 0 rfl
            go_simp
            refine hK.out _ _ ⟨hP5.a, hP5.b⟩ (fun hHeld => ?_)
            clear hK K hHeld o0 of0
            try simp only [Act.put, List.setIfInBounds_toArray, List.set_cons_zero, List.set_cons_succ]
            refine wpAnyH_done (by kernel_rfl) ?_ _
            go_wp2
            go_roundw
            case rel => exact ⟨k + 1, by omega, by go_num, by rw [HPP.out], _, _, hP5, HT2.out⟩
            case measure => simp [intOf]; omega
        · have HPP : Hid (putP L x (k + 1) = true) := Lib.hid (by rw [HST.out.1, decide_eq_false hle]; rfl)
          have hz : ¬ r = 0 := by omega
          have HT2 : Hid (grpT (T ++ [⟨E, .slice ea E.h.length ec⟩]) = putO L x (k + 1)) := Lib.hid (by rw [HST.out.2, decide_eq_false hle, if_neg (show ¬ ((!true && false) = true) by simp), if_neg hz, grpT_append]; rfl)
          have HL2 := HL
          have hzb : (r != 0) = true := by simp [hz]
          go_wp2_with fail
          obtain ⟨wd, rfl⟩ : ∃ W : World, W = ws := ⟨_, rfl⟩
          have hPd := hP
          clear hP
          obtain ⟨D, hD⟩ : ∃ D, D = wd.drew := ⟨_, rfl⟩
          have OD : Over wd D := by rw [hD]; exact over_drew _
          refine wp_region_held_drew (S := fun w' => Bl w' A [.slice (some ⟨b, o, none⟩) n c] ∧ Below w.heap.size w w') (by kernel_rfl) ⟨hPd.a.keep (over_drew _), below_step hPd.b (over_drew _)⟩ (fun hHeld => ?_)
          clear hHeld
          rw [← hD]
          clear hD
          have hPD := hPd.keep OD
          clear hPd OD
          have hSD : KpG w A [.slice (some ⟨b, o, none⟩) n c] D := ⟨hPD.a, hPD.b⟩
          refine wpAnyH_take (i := 0) (v := ?_) rfl (by kernel_rfl) (by kernel_rfl) (by kernel_rfl) (fun _ _ _ h => h) (Or.inl ⟨by rfl, ?_⟩) hSD ?_
          rotate_left
          · intro wq hSq
            (try dsimp only at hSq)

            go_simp
            try rfl
          change wpAnyH _ _ _ _ _ _ _ (Act.put _ (some 39) _) _
          simp only [Act.put, List.setIfInBounds_toArray, List.set_cons_succ, List.set_cons_zero]
          refine wpAnyH_take (i := 2) (v := ?_) rfl (by kernel_rfl) (by kernel_rfl) (by kernel_rfl) (fun _ _ _ h => h) (Or.inl ⟨by rfl, ?_⟩) hSD ?_
          rotate_left
          · intro wq hSq
            (try dsimp only at hSq)

            go_simp
            try rfl
          change wpAnyH _ _ _ _ _ _ _ (Act.put _ (some 41) _) _
          simp only [Act.put, List.setIfInBounds_toArray, List.set_cons_succ, List.set_cons_zero]
          refine wpAnyH_take (i := 3) (v := ?_) rfl (by kernel_rfl) (by kernel_rfl) (by kernel_rfl) (fun _ _ _ h => h) (Or.inl ⟨by rfl, ?_⟩) hSD ?_
          rotate_left
          · intro wq hSq
            (try dsimp only at hSq)
            have q0 := hSq.1.c 0 rfl
            go_simp
            try rfl
          change wpAnyH _ _ _ _ _ _ _ (Act.put _ (some 42) _) _
          simp only [Act.put, List.setIfInBounds_toArray, List.set_cons_succ, List.set_cons_zero]
          refine wpAnyH_take (i := 4) (v := ?_) rfl (by kernel_rfl) (by kernel_rfl) (by kernel_rfl) (fun _ _ _ h => h) (Or.inl ⟨by rfl, ?_⟩) hSD ?_
          rotate_left
          · intro wq hSq
            (try dsimp only at hSq)

            go_simp
            try rfl
          change wpAnyH _ _ _ _ _ _ _ (Act.put _ (some 43) _) _
          simp only [Act.put, List.setIfInBounds_toArray, List.set_cons_succ, List.set_cons_zero]
          refine wpAnyH_take (i := 5) (v := ?_) rfl (by kernel_rfl) (by kernel_rfl) (by kernel_rfl) (fun _ _ _ h => h) (Or.inl ⟨by rfl, ?_⟩) hSD ?_
          rotate_left
          · intro wq hSq
            (try dsimp only at hSq)

            go_simp
            try rfl
          change wpAnyH _ _ _ _ _ _ _ (Act.put _ (some 44) _) _
          simp only [Act.put, List.setIfInBounds_toArray, List.set_cons_succ, List.set_cons_zero]
          refine wpAnyH_take (i := 6) (v := ?_) rfl (by kernel_rfl) (by kernel_rfl) (by kernel_rfl) (fun _ _ _ h => h) (Or.inl ⟨by rfl, ?_⟩) hSD ?_
          rotate_left
          · intro wq hSq
            (try dsimp only at hSq)
            have q0 := over_cell hSq.2 (World.block_lt_of_cell? _ _ G0) G0
            have q1 := over_cell hSq.2 (World.block_lt_of_cell? _ _ G1) G1
            have q2 := over_cell hSq.2 (World.block_lt_of_cell? _ _ G2) G2
            go_simp
            try rfl
          change wpAnyH _ _ _ _ _ _ _ (Act.put _ (some 45) _) _
          simp only [Act.put, List.setIfInBounds_toArray, List.set_cons_succ, List.set_cons_zero]
          refine wpAnyH_ready (rs := [1, 7]) (by kernel_rfl) (by simp) ?_
          refine (AllReadyH.cons rfl (fun K hK => ?_) (AllReadyH.cons rfl (fun K hK => ?_) AllReadyH.nil))
          · have q := hPD.o.c 0 rfl
            go_simp
            refine hK.out _ _ hSD (fun hHeld => ?_)
            clear hK K hHeld q
            try simp only [Act.put, List.setIfInBounds_toArray, List.set_cons_zero, List.set_cons_succ]
            refine wpAnyH_ready (rs := [7]) (by kernel_rfl) (by simp) ?_
            refine (AllReadyH.cons rfl (fun K hK => ?_) AllReadyH.nil)
            go_simp
            have bN := Bl.new D [.int .i64 E.a, .int .i64 E.n, .slice ea E.h.length ec] GI D.heap.size rfl
            have N1 : Below D.heap.size D (D.alloc (.cells #[.int .i64 E.a, .int .i64 E.n, .slice ea E.h.length ec] GI)) := (Below.refl _ _).alloc (Nat.le_refl _) _
            refine hK.out _ _ (hSD.next N1) (fun hHeld => ?_)
            clear hK K hHeld
            try simp only [Act.put, List.setIfInBounds_toArray, List.set_cons_zero, List.set_cons_succ]
            refine wpAnyH_ready (rs := [8]) (by kernel_rfl) (by simp) ?_
            refine (AllReadyH.cons rfl (fun K hK => ?_) AllReadyH.nil)
            refine step_apY rfl (.tmp 40) (.tmp 46) rfl lo D.heap.size 1 v2 (T : List GT).length (flatG (T)) [.int .i64 E.a, .int .i64 E.n, .slice ea E.h.length ec] rfl rfl (hPD.keep N1).row bN rfl (by simp [Value.oneCell']) HL2.out (hPD.keep N1).s ?_
            intro v5 w5 hrow hg hor
            have hG := (hPD.keep N1).grown HLAY.out hg
            have hP5 := (hPD.keep N1).app (t := ⟨E, .slice ea E.h.length ec⟩) HLAY.out hrow hg HRE.out
            obtain ⟨y5, z5, rfl⟩ := row_sliceGG hrow
            refine hK.out _ _ ⟨hG.2.2.1, hG.2.2.2.2.1⟩ (fun hHeld => ?_)
            clear hK K hHeld
            try simp only [Act.put, List.setIfInBounds_toArray, List.set_cons_zero, List.set_cons_succ]
            refine wpAnyH_ready (rs := [9]) (by kernel_rfl) (by simp) ?_
            refine (AllReadyH.cons rfl (fun K hK => ?_) AllReadyH.nil)
            go_simp
            refine hK.out _ _ ⟨hG.2.2.1, hG.2.2.2.2.1⟩ (fun hHeld => ?_)
            clear hK K hHeld
            try simp only [Act.put, List.setIfInBounds_toArray, List.set_cons_zero, List.set_cons_succ]
            refine wpAnyH_ready (rs := [10]) (by kernel_rfl) (by simp) ?_
            refine (AllReadyH.cons rfl (fun K hK => ?_) AllReadyH.nil)
            have o0 := hG.1.c 0 rfl
            have of0 := hG.1.f 0 rfl
            go_simp
            refine hK.out _ _ ⟨hP5.a, hP5.b⟩ (fun hHeld => ?_)
            clear hK K hHeld o0 of0
            try simp only [Act.put, List.setIfInBounds_toArray, List.set_cons_zero, List.set_cons_succ]
            refine wpAnyH_done (by kernel_rfl) ?_ _
            go_wp2
            go_roundw
            case rel => exact ⟨k + 1, by omega, by go_num, by rw [HPP.out], _, _, hP5, HT2.out⟩
            case measure => simp [intOf]; omega
          · go_simp
            have bN := Bl.new D [.int .i64 E.a, .int .i64 E.n, .slice ea E.h.length ec] GI D.heap.size rfl
            have N1 : Below D.heap.size D (D.alloc (.cells #[.int .i64 E.a, .int .i64 E.n, .slice ea E.h.length ec] GI)) := (Below.refl _ _).alloc (Nat.le_refl _) _
            refine hK.out _ _ (hSD.next N1) (fun hHeld => ?_)
            clear hK K hHeld
            try simp only [Act.put, List.setIfInBounds_toArray, List.set_cons_zero, List.set_cons_succ]
            refine wpAnyH_ready (rs := [1]) (by kernel_rfl) (by simp) ?_
            refine (AllReadyH.cons rfl (fun K hK => ?_) AllReadyH.nil)
            have q := (hPD.keep N1).o.c 0 rfl
            go_simp
            refine hK.out _ _ (hSD.next N1) (fun hHeld => ?_)
            clear hK K hHeld q
            try simp only [Act.put, List.setIfInBounds_toArray, List.set_cons_zero, List.set_cons_succ]
            refine wpAnyH_ready (rs := [8]) (by kernel_rfl) (by simp) ?_
            refine (AllReadyH.cons rfl (fun K hK => ?_) AllReadyH.nil)
            refine step_apY rfl (.tmp 40) (.tmp 46) rfl lo D.heap.size 1 v2 (T : List GT).length (flatG (T)) [.int .i64 E.a, .int .i64 E.n, .slice ea E.h.length ec] rfl rfl (hPD.keep N1).row bN rfl (by simp [Value.oneCell']) HL2.out (hPD.keep N1).s ?_
            intro v5 w5 hrow hg hor
            have hG := (hPD.keep N1).grown HLAY.out hg
            have hP5 := (hPD.keep N1).app (t := ⟨E, .slice ea E.h.length ec⟩) HLAY.out hrow hg HRE.out
            obtain ⟨y5, z5, rfl⟩ := row_sliceGG hrow
            refine hK.out _ _ ⟨hG.2.2.1, hG.2.2.2.2.1⟩ (fun hHeld => ?_)
            clear hK K hHeld
            try simp only [Act.put, List.setIfInBounds_toArray, List.set_cons_zero, List.set_cons_succ]
            refine wpAnyH_ready (rs := [9]) (by kernel_rfl) (by simp) ?_
            refine (AllReadyH.cons rfl (fun K hK => ?_) AllReadyH.nil)
            go_simp
            refine hK.out _ _ ⟨hG.2.2.1, hG.2.2.2.2.1⟩ (fun hHeld => ?_)
            clear hK K hHeld
            try simp only [Act.put, List.setIfInBounds_toArray, List.set_cons_zero, List.set_cons_succ]
            refine wpAnyH_ready (rs := [10]) (by kernel_rfl) (by simp) ?_
            refine (AllReadyH.cons rfl (fun K hK => ?_) AllReadyH.nil)
            have o0 := hG.1.c 0 rfl
            have of0 := hG.1.f 0 rfl
            go_simp
            refine hK.out _ _ ⟨hP5.a, hP5.b⟩ (fun hHeld => ?_)
            clear hK K hHeld o0 of0
            try simp only [Act.put, List.setIfInBounds_toArray, List.set_cons_zero, List.set_cons_succ]
            refine wpAnyH_done (by kernel_rfl) ?_ _
            go_wp2
            go_roundw
            case rel => exact ⟨k + 1, by omega, by go_num, by rw [HPP.out], _, _, hP5, HT2.out⟩
            case measure => simp [intOf]; omega
    · have hkn : k = n := by omega
      subst hkn
      have HPF : Hid (putL L x = if p = true then grpT T else grpT T ++ [x]) := Lib.hid (by unfold putL; rw [← HN.out, hp, hTT])
      have hTl : T.length ≤ 2 * k := by have := putO_len L x k; rw [← hTT, grpT_len] at this; exact this
      have HL : Hid (T.length + 1 ≤ 4294967296) := Lib.hid (by omega)
      rw [hp]
      clear hc hp hTT
      obtain ⟨ws, rfl⟩ : ∃ W : World, W = wr := ⟨_, rfl⟩
      cases p
      · have o0 := hP.o.c 0 rfl
        have of0 := hP.o.f 0 rfl
        have x0 := hP.x.c 0 rfl
        have x1 := hP.x.c 1 rfl
        have x2 := hP.x.c 2 rfl
        go_wp2_with (at_builtin; refine Hid.out ?_)
        refine Lib.hid ?_
        clear o0 of0 x0 x1 x2
        obtain ⟨bN, N2, z⟩ := one ws [.int .i64 x.a, .int .i64 x.n, .slice xa x.h.length xc] GI
        refine wp_apY rfl _ _ rfl lo ws.heap.size 1 v2 T.length (flatG T) [.int .i64 x.a, .int .i64 x.n, .slice xa x.h.length xc] rfl rfl (rowG_keep hP.row N2) bN rfl (by simp [Value.oneCell']) HL.out (Nat.le_trans hP.s N2.size) ?_
        intro v3 w3 hrow hg hor
        obtain ⟨y1, y2, rfl⟩ := row_sliceGG hrow
        have hG := (hP.keep N2).grown HLAY.out hg
        have hP3 := (hP.keep N2).app (t := ⟨x, .slice xa x.h.length xc⟩) HLAY.out hrow hg HRX.out
        have o0 := hG.1.c 0 rfl
        have of0 := hG.1.f 0 rfl
        clear hP hg hor hG hrow bN N2 z
        have HPX := Lib.hid hP3
        have r0 := hP3.r.c 0 rfl
        have rf := hP3.r.f 0 rfl
        have o1 := hP3.o.c 0 rfl
        have e0 := (hP3.r.set 0 (.slice y1 (T.length + 1) y2)).c 0 rfl
        have gs := grown_set (w3.setCell ⟨O, 0, none⟩ (.slice y1 (T.length + 1) y2)) R 0 (.slice y1 (T.length + 1) y2)
        have HE0 := Lib.hid (And.intro e0 gs)
        clear hP3 e0 gs
        go_wp2
        refine bodyPost_ret (v := .agg #[.slice y1 (T.length + 1) y2]) (by simp [results, Try.results99, go_sem, HE0.out.1]) rfl ⟨_, rfl, ?_, Below.grown HPX.out.b HE0.out.2 HPX.out.b.size (fun k hk => by cases hk; exact hwR)⟩
        rw [HPF.out, if_neg (by simp), show grpT T ++ [x] = grpT (T ++ [⟨x, .slice xa x.h.length xc⟩]) by rw [grpT_append]; rfl]
        refine rowG_rd (base := lo) (row_agrS HPX.out.row (S := fun b => lo ≤ b) (fun k hk => (World.ownsRow.lt HPX.out.row k hk).1) (agr_setS _ (by omega))) fun t ht => (HPX.out.rd t ht).keep (Below.grown HPX.out.b HE0.out.2 HPX.out.b.size (fun k hk => by cases hk; exact hwR))
      · obtain ⟨y1, y2, rfl⟩ := row_sliceGG hP.row
        have HPX := Lib.hid hP
        have r0 := hP.r.c 0 rfl
        have rf := hP.r.f 0 rfl
        have o1 := hP.o.c 0 rfl
        have e0 := (hP.r.set 0 (.slice y1 T.length y2)).c 0 rfl
        have gs := grown_set ws R 0 (.slice y1 T.length y2)
        have HE0 := Lib.hid (And.intro e0 gs)
        clear hP e0 gs
        go_wp2
        refine bodyPost_ret (v := .agg #[.slice y1 T.length y2]) (by simp [results, Try.results99, go_sem, HE0.out.1]) rfl ⟨_, rfl, ?_, Below.grown HPX.out.b HE0.out.2 HPX.out.b.size (fun k hk => by cases hk; exact hwR)⟩
        rw [HPF.out]
        first | rw [if_pos rfl] | rw [if_pos trivial]
        refine rowG_rd (base := lo) (row_agrS HPX.out.row (S := fun b => lo ≤ b) (fun k hk => (World.ownsRow.lt HPX.out.row k hk).1) (agr_setS _ (by omega))) fun t ht => (HPX.out.rd t ht).keep (Below.grown HPX.out.b HE0.out.2 HPX.out.b.size (fun k hk => by cases hk; exact hwR))
end Go.Proofs.Ytbcmoofpgffbhaa
