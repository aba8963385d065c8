/-
  Marks on switches: on a copy of an argument, on an answer; the latter are found again. Conditions: those in each contract.
-/
import Derived.Test.YtaiffofmhfflkaaGreatZB
import Derived.Test.YtaiffofmhfflkaaGreatEL
import Derived.Test.YtaiffofmhfflkaaGreatF9
namespace Go.Proofs.YtaiffofmhfflkaaGreat
open Go.ChangeShapes Go.WideShapes Go.ChangeAt Go.RowKit Go.BigFrame Go.Joins
set_option linter.unusedVariables false
set_option maxRecDepth 100000
set_option linter.unusedSimpArgs false
set_option maxRecDepth 100000

set_option maxHeartbeats 2000000 in
theorem markES_k (B hi : Nat) (L : List Ent) (k : Int) (base : Nat) (w : World) (hM : MkE w w base B hi L.length L) (hL : L.length + wtE L ≤ 1048576) (hk0 : 0 ≤ k) (hk : k ≤ 32000000) :
    Calls Tryz.prog 86 #[.slice (some ⟨B, 0, none⟩) L.length L.length, .int .i64 k] w fun e w' => ∃ r : Int, e = .returned (.int .i64 r) ∧ 0 ≤ r ∧ r ≤ k + 6300000 ∧ Soft base hi w w' := by
  obtain ⟨n, hn⟩ : ∃ n, n = L.length := ⟨_, rfl⟩
  rw [← hn] at hM ⊢
  have HN := Lib.hid hn
  have hnn : n ≤ 1048576 := by omega
  have HWT := Lib.hid hL
  clear hn hL
  go_enter Tryz.func86, Tryz.ntmps86
  go_wp2
  go_loopw [1, 5] (fun q i wr => ∃ j : Nat, j ≤ n ∧ i = .int .i64 j ∧ (∃ r : Int, q = .int .i64 r ∧ 0 ≤ r ∧ r ≤ k + 5 * (j : Int) + (wtE (L.take j) : Nat)) ∧ MkE w wr base B hi n L) (fun _ i _ => n - (intOf i).toNat)
  case atStart => exact ⟨0, Nat.zero_le _, rfl, ⟨_, rfl, by omega, by simp [wtE]⟩, hM⟩
  case round =>
    clear hM
    obtain ⟨j, hj, rfl, ⟨r, rfl, hr0, hr1⟩, hM⟩ := hrel
    by_cases hlt : j < n
    · have hltI : (j : Int) < (n : Int) := by omega
      obtain ⟨E, hx⟩ : ∃ E, L.getD j e0 = E := ⟨_, rfl⟩
      have hwt := wt_take (L := L) (k := j) (by rw [← HN.out]; exact hlt)
      have hwl := wt_le L (j + 1)
      have hwL := HWT.out
      have hNn := HN.out
      rw [hx] at hwt
      have hEP : E.p.length ≤ 1048576 := by omega
      have hEC : E.c.length ≤ 1048576 := by omega
      have hrb : r ≤ 60000000 := by omega
      have HR := Lib.hid (And.intro hr1 (And.intro hwt hwl))
      clear hr1 hwt hwl hwL hNn
      have hE := hM.2.2.1 j hlt
      rw [hx] at hE
      obtain ⟨u1, u2, k3, k5, r1, r2⟩ := hE
      have R1 := r1
      have R2 := r2
      obtain ⟨a1, d1, rfl, -⟩ := r1
      obtain ⟨a2, d2, rfl, -⟩ := r2
      have HX := Lib.hid hx
      clear hx
      obtain ⟨p0, g0, f0⟩ := hM.cell (j * 7) (by omega)
      obtain ⟨p1, g1, f1⟩ := hM.cell (j * 7 + 1) (by omega)
      obtain ⟨p2, g2, f2⟩ := hM.cell (j * 7 + 2) (by omega)
      have hw1 : IntKind.i64.wrap (r + 1) = r + 1 := wrap64_in _ (by omega) (by omega)
      have hw2 : IntKind.i64.wrap (r + 1 + 1) = r + 1 + 1 := wrap64_in _ (by omega) (by omega)
      have hw3 : IntKind.i64.wrap (r + 1 + 1 + 1) = r + 1 + 1 + 1 := wrap64_in _ (by omega) (by omega)
      go_wp2_with fail
      replace hM := ((hM.set (j * 7) (.int .i64 r) (fun i => ⟨by omega, by omega⟩)).set (j * 7 + 1) (.int .i64 (r + 1)) (fun i => ⟨by omega, by omega⟩)).set (j * 7 + 2) (.int .i64 (r + 1 + 1)) (fun i => ⟨by omega, by omega⟩)
      clear g0 f0 g1 f1 g2 f2 k3
      replace R1 := ((R1.soft (soft1 _ B (j * 7) (.int .i64 r))).soft (soft1 _ B (j * 7 + 1) (.int .i64 (r + 1)))).soft (soft1 _ B (j * 7 + 2) (.int .i64 (r + 1 + 1)))
      replace R2 := ((R2.soft (soft1 _ B (j * 7) (.int .i64 r))).soft (soft1 _ B (j * 7 + 1) (.int .i64 (r + 1)))).soft (soft1 _ B (j * 7 + 2) (.int .i64 (r + 1 + 1)))
      have no : ∀ x y : Nat, x ≠ y → (⟨B, x, none⟩ : Addr) ≠ ⟨B, y, none⟩ := fun x y h q => by injection q with q1 q2; exact h q2
      replace k5 := set_other (u := .int .i64 (r + 1 + 1)) (no (j * 7 + 2) _ (by omega)) (set_other (u := .int .i64 (r + 1)) (no (j * 7 + 1) _ (by omega)) (set_other (u := .int .i64 r) (no (j * 7) _ (by omega)) k5))
      refine (markWr _ E.p.length _ (B + 1) hi _ R1 (by omega) (by omega)).mono ?_
      rintro e w1 ⟨rfl, hs⟩
      have hB1 := hM.2.2.2.2.2
      replace k5 := cell_keep (hs.below hB1) (Nat.lt_succ_self B) k5
      replace hM := hM.soft hs
      replace R2 := R2.soft hs
      clear hs R1 hB1 no
      obtain ⟨r4, h4⟩ : ∃ r4, r4 = r + 1 + 1 + 1 + (E.p.length : Int) := ⟨_, rfl⟩
      rw [← h4]
      have H4 := Lib.hid h4
      have hr4 : 0 ≤ r4 := by omega
      have hr4b : r4 ≤ 70000000 := by omega
      clear h4
      obtain ⟨p4, g4, f4⟩ := hM.cell (j * 7 + 4) (by omega)
      have hw4 : IntKind.i64.wrap (r4 + 1) = r4 + 1 := wrap64_in _ (by omega) (by omega)
      go_wp2_with fail
      replace hM := hM.set (j * 7 + 4) (.int .i64 r4) (fun i => ⟨by omega, by omega⟩)
      replace R2 := R2.soft (soft1 _ B (j * 7 + 4) (.int .i64 r4))
      clear g4 f4 k5
      refine (markWr _ E.c.length _ (B + 1) hi _ R2 (by omega) (by omega)).mono ?_
      rintro e w2 ⟨rfl, hs⟩
      replace hM := hM.soft hs
      clear hs R2
      obtain ⟨r6, h6⟩ : ∃ r6, r6 = r4 + 1 + (E.c.length : Int) := ⟨_, rfl⟩
      rw [← h6]
      have H6 := Lib.hid h6
      have hr6 : 0 ≤ r6 := by omega
      have hr6b : r6 ≤ 80000000 := by omega
      clear h6
      obtain ⟨p6, g6, f6⟩ := hM.cell (j * 7 + 6) (by omega)
      have hw6 : IntKind.i64.wrap (r6 + 1) = r6 + 1 := wrap64_in _ (by omega) (by omega)
      have HM := Lib.hid (hM.set (j * 7 + 6) (.int .i64 r6) (fun i => ⟨by omega, by omega⟩))
      clear hM
      go_wp2
      go_roundw
      case rel =>
        refine ⟨j + 1, by omega, by go_num, ⟨r6 + 1, rfl, by omega, ?_⟩, HM.out⟩
        obtain ⟨q1, q2, q3⟩ := HR.out
        have q4 := H4.out
        have q6 := H6.out
        omega
      case measure => simp [intOf]; omega
    · have hjn : j = n := by omega
      subst hjn
      have hrt : r ≤ k + 6300000 := by
        have h1 := wt_le L j
        have h2 := HWT.out
        have h3 := HN.out
        omega
      have HRT := Lib.hid hrt
      clear hr1 hrt
      go_wp2
      go_ret
      exact ⟨r, rfl, hr0, HRT.out, hM.1⟩
theorem markRb_k (u : Value) (L : List Ent) (k : Int) (base hi : Nat) (w : World) (h : MkR w base hi u L) (hL : L.length + wtE L ≤ 1048576) (hk0 : 0 ≤ k) (hk : k ≤ 32000000) :
    Calls Tryz.prog 56 #[.agg #[u], .int .i64 k] w fun e w' => ∃ r : Int, e = .returned (.int .i64 r) ∧ 0 ≤ r ∧ r ≤ k + 6300000 ∧ MidB base hi w w' := by
  obtain ⟨bA, B0, z⟩ := one w [u] 32
  have hs0 : MidB base hi w (w.alloc (.cells #[u] 32)) := ⟨B0.os, B0.tape, B0.output, B0.size, fun i hi' _ => B0.block i hi'⟩
  obtain ⟨B, rfl, hM⟩ := h.keep B0
  clear bA z
  go_enter Tryz.func56, Tryz.ntmps56
  go_wp2_with fail
  refine (markES_k B hi L k base _ hM hL hk0 hk).mono ?_
  rintro e w1 ⟨r, rfl, hr0, hr1, hs⟩
  have hS : MidB base hi w w1 := hs0.trans ⟨hs.os, hs.tape, hs.output, hs.size, hs.block⟩
  clear hs0 hs
  go_wp2
  go_ret
  exact ⟨r, rfl, hr0, hr1, hS⟩
theorem MidB.wider {a b a' b' : Nat} {w w' : World} (h : MidB a b w w') (h1 : a' ≤ a) (h2 : b ≤ b') : MidB a' b' w w' := ⟨h.os, h.tape, h.output, h.size, fun i hi hc => h.block i hi (by omega)⟩
theorem MidB.of_below {w w' : World} (base hi : Nat) (h : Below w.heap.size w w') : MidB base hi w w' := ⟨h.os, h.tape, h.output, h.size, fun i hi' _ => h.block i hi'⟩
theorem MkR.mid {w w' : World} {base hi b0 h0 : Nat} {u : Value} {L : List Ent} (h : MkR w base hi u L) (s : MidB b0 h0 w w') (hd : h0 ≤ base ∨ hi ≤ b0) : MkR w' base hi u L := by
  obtain ⟨B, e, s0, c, ew, h1, h2, h3⟩ := h
  have blk : ∀ i, base ≤ i → i < hi → i < w.heap.size → w'.heap[i]? = w.heap[i]? := fun i a b q => s.block i q (by omega)
  have hb := blk B h1 h2 h3
  have wr : ∀ {v : Value} {n : Nat}, Wr w (B + 1) hi v n → Wr w' (B + 1) hi v n := fun {v n} q => by
    obtain ⟨a, c, rfl, hc⟩ := q
    refine ⟨a, c, rfl, fun i hi' => ?_⟩
    obtain ⟨g, e, q2, q3, q4, q5⟩ := hc i hi'
    have hg : g < w.heap.size := by
      obtain ⟨x, hx⟩ := Option.isSome_iff_exists.1 q4
      exact World.block_lt_of_cell? w _ hx
    have eg := blk g (by omega) q3 hg
    exact ⟨g, e, q2, q3, by rw [World.cell?_of_block (w := w) (a := ⟨g, i, none⟩) eg]; exact q4, (World.frozen?_of_block (w := w) eg).trans q5⟩
  refine ⟨B, e, Soft.refl _ _ _, fun j hj => ⟨by rw [World.cell?_of_block (w := w) (a := ⟨B, j, none⟩) hb]; exact (c j hj).1, (World.frozen?_of_block (w := w) hb).trans (c j hj).2⟩, fun i hi' => ?_, h1, h2, Nat.le_trans h3 s.size⟩
  obtain ⟨u1, u2, e1, e2, r1, r2⟩ := ew i hi'
  exact ⟨u1, u2, (World.cell?_of_block (w := w) hb).trans e1, (World.cell?_of_block (w := w) hb).trans e2, wr r1, wr r2⟩
theorem row_mid {base hi b n z : Nat} {e : TypeId} {w w' : World} {v : Value} {xs : List Value} (h : w.ownsRow b e z v n xs) (s : MidB base hi w w') (hv : ∀ k, v.ownBlock = some k → k < base ∨ hi ≤ k) : w'.ownsRow b e z v n xs := by
  refine ⟨h.1, ?_⟩
  rcases h.2 with hn | ⟨g, cap, cur, e, hb, hg, rest⟩
  · exact .inl hn
  · have hlt : g < w.heap.size := (World.ownsRow.lt h g (by rw [e]; rfl)).2
    exact .inr ⟨g, cap, cur, e, hb, (s.block g hlt (hv g (by rw [e]; rfl))).trans hg, rest⟩
theorem OwnP.mid {base hi b : Nat} {w w' : World} {v : Value} {l : List (Int × Int)} (h : OwnP w b v l) (s : MidB base hi w w') (hv : ∀ k, v.ownBlock = some k → k < base ∨ hi ≤ k) : OwnP w' b v l := row_mid h s hv
theorem OwnT.mid {base hi b : Nat} {w w' : World} {v : Value} {T : List ET} (h : OwnT w b v T) (s : MidB base hi w w') (hv : hi ≤ b ∨ InH base v T) : OwnT w' b v T := by
  refine ⟨row_mid h.row s fun k hk => ?_, fun t ht => ⟨row_mid (h.own t ht).1 s fun k hk => ?_, row_mid (h.own t ht).2 s fun k hk => ?_⟩, h.len, h.sep, h.apart⟩
  · have := (World.ownsRow.lt h.row k hk).1
    rcases hv with q | q
    · omega
    · have := q.1 k hk; omega
  · have := ((h.lt t ht).1 k hk).1
    rcases hv with q | q
    · omega
    · have := (q.2 t ht).1 k hk; omega
  · have := ((h.lt t ht).2 k hk).1
    rcases hv with q | q
    · omega
    · have := (q.2 t ht).2 k hk; omega
set_option maxHeartbeats 2000000 in
theorem markNd_any (ov ru su : Value) (N : Nd) (b0 h1 h2 h3 : Nat) (w : World) (ho : OwnP w b0 ov N.own) (hh : ∀ k, ov.ownBlock = some k → k < h1) (m1 : MkR w h1 h2 ru N.rib) (m2 : MkR w h2 h3 su N.sent) (hn : wtN N ≤ 1048576) (q1 : b0 ≤ h1) (q2 : h1 ≤ h2) (q3 : h2 ≤ h3) (q4 : h3 ≤ w.heap.size) :
    Calls Tryz.prog 15 #[.agg #[.int .i64 N.an, ov, .int .i64 N.bw, .bool N.dr, ru, su], .int .i64 1] w fun e w' => ∃ r : Int, e = .returned (.int .i64 r) ∧ 0 ≤ r ∧ MidB b0 h3 w w' := by
  have hl1 : N.own.length ≤ 1048576 := by unfold wtN at hn; omega
  have hl2 : N.rib.length + wtE N.rib ≤ 1048576 := by unfold wtN at hn; omega
  have hl3 : N.sent.length + wtE N.sent ≤ 1048576 := by unfold wtN at hn; omega
  clear hn
  obtain ⟨bA, B0, z⟩ := one w [.int .i64 N.an, ov, .int .i64 N.bw, .bool N.dr, ru, su] 34
  have M0 := MidB.of_below b0 h3 B0
  replace ho := ho.keep B0
  replace m1 := m1.keep B0
  replace m2 := m2.keep B0
  obtain ⟨A, hA⟩ : ∃ A, A = w.heap.size := ⟨_, rfl⟩
  have hAh : h3 ≤ A := by omega
  rw [← hA] at bA
  have a1 := bA.c 1 rfl
  clear z B0
  go_enter Tryz.func15, Tryz.ntmps15
  go_wp2_with fail
  try rw [← hA]
  clear hA a1
  refine (markP_is ov N.own b0 1 _ ho (by omega) (by omega)).mono ?_
  rintro e w1 ⟨rfl, -, hg⟩
  have g1 := (MidB.refl b0 h1 _).grown hg (fun k hk => ⟨(World.ownsRow.lt ho k hk).1, hh k hk⟩)
  replace bA := g1.bl bA (.inr (by omega))
  replace m1 := m1.mid g1 (.inl (Nat.le_refl _))
  replace m2 := m2.mid g1 (.inl q2)
  have M1 := M0.trans (g1.wider (Nat.le_refl _) (by omega))
  clear hg g1 M0 ho hh
  obtain ⟨k1, hk1⟩ : ∃ k1 : Int, k1 = 1 + (N.own.length : Int) * 2 := ⟨_, rfl⟩
  rw [← hk1]
  have hk1a : 0 ≤ k1 := by omega
  have hk1b : k1 ≤ 2100000 := by omega
  clear hk1
  have a4 := bA.c 4 rfl
  go_wp2_with fail
  clear a4
  refine (markRb_k ru N.rib k1 h1 h2 _ m1 hl2 (by omega) (by omega)).mono ?_
  rintro e w2 ⟨k2, rfl, hk2a, hk2b, g2⟩
  replace bA := g2.bl bA (.inr (by omega))
  replace m2 := m2.mid g2 (.inl (Nat.le_refl _))
  have M2 := M1.trans (g2.wider q1 q3)
  clear g2 M1 m1
  have a5 := bA.c 5 rfl
  go_wp2_with fail
  clear a5
  refine (markRb_k su N.sent k2 h2 h3 _ m2 hl3 (by omega) (by omega)).mono ?_
  rintro e w3 ⟨k3, rfl, hk3a, hk3b, g3⟩
  have M3 := M2.trans (g3.wider (Nat.le_trans q1 q2) (Nat.le_refl _))
  clear g3 M2 m2 bA
  go_wp2
  go_ret
  exact ⟨k3, rfl, hk3a, M3⟩
theorem mkRb_k (v : Value) (T : List ET) (W : List Nat) (k : Int) (base hi : Nat) (w : World) (h : OwnT w base v T) (hH : InH hi v T) (hW : (entT T).map wE = W) (hWs : W.sum ≤ 8000000) (hk0 : 0 ≤ k) (hk : k ≤ 32000000) :
    Calls Tryz.prog 56 #[.agg #[v], .int .i64 k] w fun e w' => ∃ S, e = .returned (.int .i64 (k + (W.sum : Nat))) ∧ S.length = T.length ∧ MarkedW k W (entT S) T.length ∧ OwnT w' base v S ∧ MidB base hi w w' ∧ InH hi v S := by
  obtain ⟨bA, B0, z⟩ := one w [v] 32
  have h1 := h.keep B0
  have B1 : MidB base hi w (w.alloc (.cells #[v] 32)) := (MidB.refl base hi w).grown (grown_below B0 none) (fun k hk => by cases hk)
  clear bA z
  go_enter Tryz.func56, Tryz.ntmps56
  go_wp2_with fail
  refine (mkES_any v T W k base hi _ h1 hH hW hWs hk0 hk).mono ?_
  rintro e w1 ⟨S, rfl, hl, hM, hO, hB, hI⟩
  have B2 := B1.trans hB
  have HM := Lib.hid hM
  have HI := Lib.hid hI
  clear hM hB hI
  go_wp2
  go_ret
  exact ⟨S, rfl, hl, HM.out, hO, B2, HI.out⟩
theorem hdRb_k (v : Value) (L : List Ent) (W : List Nat) (k : Int) (w : World) (h : RdE w v L) (hM : MarkedW k W L L.length) (hWs : W.sum ≤ 8000000) (hk0 : 0 ≤ k) (hk : k ≤ 32000000) :
    Calls Tryz.prog 58 #[.agg #[v], .int .i64 k] w fun e w' => e = .returned (.int .i64 (k + (W.sum : Nat))) ∧ Below w.heap.size w w' := by
  obtain ⟨bA, B0, z⟩ := one w [v] 32
  have h1 := h.keep B0
  obtain ⟨a, c, rfl⟩ := h.len
  have HM := Lib.hid hM
  clear bA z hM
  go_enter Tryz.func58, Tryz.ntmps58
  go_wp2_with fail
  refine (hdES_any _ L W k _ h1 HM.out hWs hk0 hk).mono ?_
  rintro e w1 ⟨rfl, hB⟩
  have B2 := below_step B0 hB
  have hn : ¬ k + (W.sum : Nat) < 0 := by omega
  clear hB
  go_wp2
  go_ret
  exact ⟨rfl, B2⟩
/-- a switch of the call's own: its list, its table and what was sent lie behind one another -/
structure NdT (w : World) (b0 h1 h2 h3 : Nat) (ov ru su : Value) (own : List (Int × Int)) (T1 T2 : List ET) : Prop where
  o : OwnP w b0 ov own
  oh : ∀ k, ov.ownBlock = some k → k < h1
  r : OwnT w h1 ru T1
  ri : InH h2 ru T1
  s : OwnT w h2 su T2
  si : InH h3 su T2
  q1 : b0 ≤ h1
  q2 : h1 ≤ h2
  q3 : h2 ≤ h3
theorem NdT.keep {w w' : World} {b0 h1 h2 h3 : Nat} {ov ru su : Value} {own : List (Int × Int)} {T1 T2 : List ET} (h : NdT w b0 h1 h2 h3 ov ru su own T1 T2) (hb : Below w.heap.size w w') : NdT w' b0 h1 h2 h3 ov ru su own T1 T2 :=
  ⟨h.o.keep hb, h.oh, h.r.keep hb, h.ri, h.s.keep hb, h.si, h.q1, h.q2, h.q3⟩
theorem NdT.mid {w w' : World} {b0 h1 h2 h3 b h : Nat} {ov ru su : Value} {own : List (Int × Int)} {T1 T2 : List ET} (H : NdT w b0 h1 h2 h3 ov ru su own T1 T2) (s : MidB b h w w') (hb : h ≤ b0) : NdT w' b0 h1 h2 h3 ov ru su own T1 T2 :=
  ⟨H.o.mid s fun k hk => .inr (Nat.le_trans hb (World.ownsRow.lt H.o k hk).1), H.oh, H.r.mid s (.inl (Nat.le_trans hb H.q1)), H.ri, H.s.mid s (.inl (Nat.le_trans hb (Nat.le_trans H.q1 H.q2))), H.si, H.q1, H.q2, H.q3⟩
/-- its slices bear the marks from 1 on -/
def MarkN (w : World) (ov ru su : Value) (n : Nat) (W1 W2 : List Nat) : Prop :=
  ∃ l L1 L2, l.length = n ∧ MarkP 1 n l ∧ RdP w ov l ∧ MarkedW (1 + (n : Int) * 2) W1 L1 L1.length ∧ RdE w ru L1 ∧ MarkedW (1 + (n : Int) * 2 + (W1.sum : Nat)) W2 L2 L2.length ∧ RdE w su L2
theorem MarkN.keep {w w' : World} {ov ru su : Value} {n : Nat} {W1 W2 : List Nat} (h : MarkN w ov ru su n W1 W2) (hb : Below w.heap.size w w') : MarkN w' ov ru su n W1 W2 := by
  obtain ⟨l, L1, L2, a, b, c, d, e, f, g⟩ := h
  exact ⟨l, L1, L2, a, b, c.keep hb, d, e.keep hb, f, g.keep hb⟩
set_option maxHeartbeats 2000000 in
theorem mkNd_is (ov ru su : Value) (own : List (Int × Int)) (an bw : Int) (dr : Bool) (T1 T2 : List ET) (W1 W2 : List Nat) (b0 h1 h2 h3 : Nat) (w : World) (H : NdT w b0 h1 h2 h3 ov ru su own T1 T2) (hn : own.length ≤ 1048576)
    (hW1 : (entT T1).map wE = W1) (hs1 : W1.sum ≤ 8000000) (hW2 : (entT T2).map wE = W2) (hs2 : W2.sum ≤ 8000000) (q4 : h3 ≤ w.heap.size) :
    Calls Tryz.prog 15 #[.agg #[.int .i64 an, ov, .int .i64 bw, .bool dr, ru, su], .int .i64 1] w fun e w' => e = .returned (.int .i64 (1 + (own.length : Int) * 2 + (W1.sum : Nat) + (W2.sum : Nat))) ∧ MarkN w' ov ru su own.length W1 W2 ∧ MidB b0 h3 w w' := by
  obtain ⟨q1, q2, q3⟩ : b0 ≤ h1 ∧ h1 ≤ h2 ∧ h2 ≤ h3 := ⟨H.q1, H.q2, H.q3⟩
  obtain ⟨bA, B0, z⟩ := one w [.int .i64 an, ov, .int .i64 bw, .bool dr, ru, su] 34
  have M0 := MidB.of_below b0 h3 B0
  have ho := H.o.keep B0
  have hr := H.r.keep B0
  have hs := H.s.keep B0
  have hri := H.ri
  have hsi := H.si
  have hh := H.oh
  obtain ⟨A, hA⟩ : ∃ A, A = w.heap.size := ⟨_, rfl⟩
  have hAh : h3 ≤ A := by omega
  rw [← hA] at bA
  have a1 := bA.c 1 rfl
  have HW1 := Lib.hid hW1
  have HW2 := Lib.hid hW2
  clear z B0 H hW1 hW2
  go_enter Tryz.func15, Tryz.ntmps15
  go_wp2_with fail
  try rw [← hA]
  clear hA a1
  refine (markP_is ov own b0 1 _ ho (by omega) (by omega)).mono ?_
  rintro e w1 ⟨rfl, ⟨l, hl, hMP, hol⟩, hg⟩
  have g1 := (MidB.refl b0 h1 _).grown hg (fun k hk => ⟨(World.ownsRow.lt ho k hk).1, hh k hk⟩)
  replace bA := g1.bl bA (.inr (by omega))
  replace hr := hr.mid g1 (.inl (Nat.le_refl _))
  replace hs := hs.mid g1 (.inl q2)
  have M1 := M0.trans (g1.wider (Nat.le_refl _) (by omega))
  have HMP := Lib.hid hMP
  have HL := Lib.hid hl
  clear hg g1 M0 ho hMP hl
  obtain ⟨k1, hk1⟩ : ∃ k1 : Int, k1 = 1 + (own.length : Int) * 2 := ⟨_, rfl⟩
  rw [← hk1]
  have hk1a : 0 ≤ k1 := by omega
  have hk1b : k1 ≤ 2100000 := by omega
  have HK1 := Lib.hid hk1
  clear hk1
  have a4 := bA.c 4 rfl
  go_wp2_with fail
  clear a4
  refine (mkRb_k ru T1 W1 k1 h1 h2 _ hr hri HW1.out hs1 (by omega) (by omega)).mono ?_
  rintro e w2 ⟨S1, rfl, hl1, hM1, hO1, g2, hi1⟩
  replace bA := g2.bl bA (.inr (by omega))
  replace hs := hs.mid g2 (.inl (Nat.le_refl _))
  replace hol := hol.mid g2 fun k hk => .inl (hh k hk)
  have M2 := M1.trans (g2.wider q1 q3)
  have rd1 := marked_bd hM1 hl1.symm hk1a (by omega) hs1
  have HI1 := Lib.hid hi1
  have HRD1 := Lib.hid rd1
  have HM1 : Hid (MarkedW k1 W1 (entT S1) (entT S1).length) := Lib.hid (by rw [entT_len, hl1]; exact hM1)
  clear g2 M1 hr hM1 hi1 rd1 hl1
  obtain ⟨k2, hk2⟩ : ∃ k2 : Int, k2 = k1 + (W1.sum : Nat) := ⟨_, rfl⟩
  rw [← hk2]
  have hk2a : 0 ≤ k2 := by omega
  have hk2b : k2 ≤ 20000000 := by omega
  have HK2 := Lib.hid hk2
  clear hk2
  have a5 := bA.c 5 rfl
  go_wp2_with fail
  clear a5
  refine (mkRb_k su T2 W2 k2 h2 h3 _ hs hsi HW2.out hs2 (by omega) (by omega)).mono ?_
  rintro e w3 ⟨S2, rfl, hl2, hM2, hO2, g3, -⟩
  replace hO1 := hO1.mid g3 (.inr HI1.out)
  replace hol := hol.mid g3 fun k hk => .inl (Nat.lt_of_lt_of_le (hh k hk) q2)
  have M3 := M2.trans (g3.wider (Nat.le_trans q1 q2) (Nat.le_refl _))
  have rd2 := marked_bd hM2 hl2.symm hk2a (by omega) hs2
  have HM2 : MarkedW k2 W2 (entT S2) (entT S2).length := by rw [entT_len, hl2]; exact hM2
  clear g3 M2 hs hM2 bA
  have HE : Hid (k2 + (W2.sum : Nat) = 1 + (own.length : Int) * 2 + (W1.sum : Nat) + (W2.sum : Nat)) := Lib.hid (by rw [HK2.out, HK1.out])
  have hMN : Hid (MarkN w3 ov ru su own.length W1 W2) := Lib.hid ⟨l, entT S1, entT S2, HL.out, by rw [← HL.out]; exact HMP.out, hol.rd, by rw [← HK1.out]; exact HM1.out, hO1.rd HRD1.out, by rw [← HK1.out, ← HK2.out]; exact HM2, hO2.rd rd2⟩
  clear hol hO1 hO2 rd2 HM2 hl2
  go_wp2
  go_ret
  exact ⟨by rw [HE.out]; rfl, hMN.out, M3⟩
set_option maxHeartbeats 2000000 in
theorem hdNd_is (ov ru su : Value) (n : Nat) (an bw : Int) (dr : Bool) (W1 W2 : List Nat) (w : World) (H : MarkN w ov ru su n W1 W2) (hn : n ≤ 1048576) (hs1 : W1.sum ≤ 8000000) (hs2 : W2.sum ≤ 8000000) :
    Calls Tryz.prog 16 #[.agg #[.int .i64 an, ov, .int .i64 bw, .bool dr, ru, su], .int .i64 1] w fun e w' => e = .returned (.int .i64 (1 + (n : Int) * 2 + (W1.sum : Nat) + (W2.sum : Nat))) ∧ Below w.heap.size w w' := by
  obtain ⟨bA, B0, z⟩ := one w [.int .i64 an, ov, .int .i64 bw, .bool dr, ru, su] 34
  obtain ⟨l, L1, L2, hl, hMP, hP, hM1, hR1, hM2, hR2⟩ := H.keep B0
  subst hl
  have HM1 := Lib.hid hM1
  have HM2 := Lib.hid hM2
  have HMP := Lib.hid hMP
  have a1 := bA.c 1 rfl
  clear z hM1 hM2 hMP H
  go_enter Tryz.func16, Tryz.ntmps16
  go_wp2_with fail
  refine (heldP_is ov l 1 _ hP HMP.out hn (by omega) (by omega)).mono ?_
  rintro e w1 ⟨rfl, hb⟩
  replace bA := bA.keep hb
  replace hR1 := hR1.keep hb
  replace hR2 := hR2.keep hb
  replace B0 := below_step B0 hb
  clear hb a1 hP
  obtain ⟨k1, hk1⟩ : ∃ k1 : Int, k1 = 1 + (l.length : Int) * 2 := ⟨_, rfl⟩
  rw [← hk1] at HM1 HM2 ⊢
  have hk1a : ¬ k1 < 0 := by omega
  have hk1b : k1 ≤ 2100000 := by omega
  have HK1 := Lib.hid hk1
  clear hk1
  have a4 := bA.c 4 rfl
  go_wp2_with fail
  clear a4
  refine (hdRb_k ru L1 W1 k1 _ hR1 HM1.out hs1 (by omega) (by omega)).mono ?_
  rintro e w2 ⟨rfl, hb⟩
  replace bA := bA.keep hb
  replace hR2 := hR2.keep hb
  replace B0 := below_step B0 hb
  clear hb hR1
  obtain ⟨k2, hk2⟩ : ∃ k2 : Int, k2 = k1 + (W1.sum : Nat) := ⟨_, rfl⟩
  rw [← hk2] at HM2 ⊢
  have hk2a : ¬ k2 < 0 := by omega
  have hk2b : k2 ≤ 20000000 := by omega
  have HE : Hid (k2 + (W2.sum : Nat) = 1 + (l.length : Int) * 2 + (W1.sum : Nat) + (W2.sum : Nat)) := Lib.hid (by rw [hk2, HK1.out])
  clear hk2
  have a5 := bA.c 5 rfl
  go_wp2_with fail
  clear a5
  refine (hdRb_k su L2 W2 k2 _ hR2 HM2.out hs2 (by omega) (by omega)).mono ?_
  rintro e w3 ⟨rfl, hb⟩
  replace B0 := below_step B0 hb
  have hk3 : ¬ k2 + (W2.sum : Nat) < 0 := by omega
  clear hb hR2
  go_wp2
  go_ret
  exact ⟨by rw [← HE.out]; rfl, B0⟩
end Go.Proofs.YtaiffofmhfflkaaGreat
