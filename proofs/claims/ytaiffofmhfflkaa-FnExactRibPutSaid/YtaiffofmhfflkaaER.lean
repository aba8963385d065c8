/-
  A table with an entry put into its place, of the model. Conditions: those in each contract.
-/
import Derived.Test.YtaiffofmhfflkaaEE
import Derived.Test.YtaiffofmhfflkaaF3
namespace Go.Proofs.Ytaiffofmhfflkaa
open Go.ChangeShapes Go.WideShapes Go.ChangeAt Go.RowKit Go.BigFrame Go.Joins
set_option linter.unusedVariables false
set_option maxRecDepth 100000
set_option linter.unusedSimpArgs false
set_option maxRecDepth 100000

/-- what l6put has made of the first k entries, and whether the new one is in -/
def putK (Z : Ent) (L : List Ent) : Nat → List Ent × Bool
  | 0 => ([], false)
  | k + 1 => ((if (putK Z L k).2 = false ∧ ecmp Z.a Z.n Z.pe (L.getD k e0).a (L.getD k e0).n (L.getD k e0).pe ≤ 0 then (putK Z L k).1 ++ [Z] else (putK Z L k).1) ++ (if ecmp Z.a Z.n Z.pe (L.getD k e0).a (L.getD k e0).n (L.getD k e0).pe = 0 then [] else [L.getD k e0]),
      (putK Z L k).2 || decide (ecmp Z.a Z.n Z.pe (L.getD k e0).a (L.getD k e0).n (L.getD k e0).pe ≤ 0))
def putL (Z : Ent) (L : List Ent) : List Ent := if (putK Z L L.length).2 = true then (putK Z L L.length).1 else (putK Z L L.length).1 ++ [Z]
theorem putK_s {Z : Ent} {L : List Ent} {k : Nat} {E : Ent} {r : Int} {b : Bool} {M : List Ent} (hx : L.getD k e0 = E) (hr : ecmp Z.a Z.n Z.pe E.a E.n E.pe = r) (hb : b = (putK Z L k).2) (hM : M = (putK Z L k).1) :
    putK Z L (k + 1) = ((if b = false ∧ r ≤ 0 then M ++ [Z] else M) ++ (if r = 0 then [] else [E]), b || decide (r ≤ 0)) := by
  rw [putK, hx, hr, ← hb, ← hM]
theorem putK_len (Z : Ent) (L : List Ent) : ∀ k, (putK Z L k).1.length ≤ 2 * k
  | 0 => by simp [putK]
  | k + 1 => by
    have := putK_len Z L k
    rw [putK]
    dsimp only
    split <;> split <;> simp <;> omega
theorem flatT_one (t : ET) : flatT [t] = cellsT t := by simp [flatT]
set_option maxHeartbeats 4000000 in
theorem sput_any (v : Value) (L : List Ent) (Z : Ent) (ea : Option Addr) (ex : Nat) (fa : Option Addr) (fx : Nat) (w : World) (h : RdE w v L) (hZ1 : RdI w (.slice ea Z.p.length ex) Z.p) (hZ2 : RdI w (.slice fa Z.c.length fx) Z.c) (hn1 : L.length ≤ 1048576) :
    Calls Try.prog 59 #[.agg #[v], .agg #[.int .i64 Z.a, .int .i64 Z.n, .int .i64 Z.pe, .slice ea Z.p.length ex, .int .i64 Z.pr, .slice fa Z.c.length fx, .int .i64 Z.bw]] w fun e w' => ∃ u, e = .returned (.agg #[u]) ∧ RdE w' u (putL Z L) ∧ Below w.heap.size w w' := by
  obtain ⟨a, c, rfl, hc⟩ := h.el
  have hlen := hn1
  obtain ⟨n, hn⟩ : ∃ n, n = L.length := ⟨_, rfl⟩
  rw [← hn] at hc hlen
  have HN := Lib.hid hn
  rw [← hn]
  clear h hn
  obtain ⟨bA, bX, B1, z1⟩ := two w [.slice a n c] [.int .i64 Z.a, .int .i64 Z.n, .int .i64 Z.pe, .slice ea Z.p.length ex, .int .i64 Z.pr, .slice fa Z.c.length fx, .int .i64 Z.bw] 33 EI
  obtain ⟨bR, bO, B2, z2⟩ := two ((w.alloc (.cells #[.slice a n c] 33)).alloc (.cells #[.int .i64 Z.a, .int .i64 Z.n, .int .i64 Z.pe, .slice ea Z.p.length ex, .int .i64 Z.pr, .slice fa Z.c.length fx, .int .i64 Z.bw] EI)) [.slice none 0 0] [.slice none 0 0] 33 33
  rw [z1] at bR bO z2
  replace bA := bA.keep B2
  replace bX := bX.keep B2
  have B0 := below_step B1 B2
  clear B1 B2 z1
  have a0 := bA.c 0 rfl
  go_enter Try.func59, Try.ntmps59
  go_wp2
  clear a0
  obtain ⟨W1, hW⟩ : ∃ W1, W1 = (((w.alloc (.cells #[.slice a n c] 33)).alloc (.cells #[.int .i64 Z.a, .int .i64 Z.n, .int .i64 Z.pe, .slice ea Z.p.length ex, .int .i64 Z.pr, .slice fa Z.c.length fx, .int .i64 Z.bw] EI)).alloc (.cells #[.slice none 0 0] 33)).alloc (.cells #[.slice none 0 0] 33) := ⟨_, rfl⟩
  rw [← hW] at bA bX bR bO B0 z2 ⊢
  obtain ⟨A, hA⟩ : ∃ A, A = w.heap.size := ⟨_, rfl⟩
  obtain ⟨Q, hQ⟩ : ∃ Q, Q = w.heap.size + 1 := ⟨_, rfl⟩
  obtain ⟨R, hR⟩ : ∃ R, R = w.heap.size + 2 := ⟨_, rfl⟩
  obtain ⟨O, hO⟩ : ∃ O, O = w.heap.size + 2 + 1 := ⟨_, rfl⟩
  rw [← hA] at bA
  rw [← hQ] at bX
  rw [← hR] at bR
  rw [← hO] at bO
  try rw [show w.heap.size + 1 + 1 + 1 = O by omega]
  try rw [show w.heap.size + 1 + 1 = R by omega]
  try rw [← hO]
  try rw [← hR]
  try rw [← hQ]
  try rw [← hA]
  have hwR : w.heap.size ≤ R := by omega
  have hwO : w.heap.size ≤ O := by omega
  have hAO : A ≠ O := by omega
  have hXO : Q ≠ O := by omega
  have hRO : R ≠ O := by omega
  have hAW : A < W1.heap.size := by rw [z2]; omega
  have hXW : Q < W1.heap.size := by rw [z2]; omega
  have hRW : R < W1.heap.size := by rw [z2]; omega
  have hOW : O < W1.heap.size := by rw [z2]; omega
  have hwW : w.heap.size ≤ W1.heap.size := B0.size
  clear hA hQ hR hO hW z2
  go_loopw [6, 7] (fun f q wr => ∃ k : Nat, k ≤ n ∧ q = .int .i64 k ∧ ∃ (v2 : Value) (T : List ET), wr.ownsRow W1.heap.size EI 7 v2 T.length (flatT T) ∧ (∀ t ∈ T, RdI w t.u t.E.p ∧ RdI w t.v t.E.c) ∧ (entT T = (putK Z L k).1 ∧ f = .bool (putK Z L k).2) ∧ Bl wr O [v2] ∧ Bl wr R [.slice none 0 0] ∧ Bl wr A [.slice a n c] ∧ Bl wr Q [.int .i64 Z.a, .int .i64 Z.n, .int .i64 Z.pe, .slice ea Z.p.length ex, .int .i64 Z.pr, .slice fa Z.c.length fx, .int .i64 Z.bw] ∧ Below w.heap.size w wr ∧ W1.heap.size ≤ wr.heap.size) (fun _ q _ => n - (intOf q).toNat)
  case atStart => exact ⟨0, Nat.zero_le _, rfl, _, [], World.ownsRow_nil _ _ _ _, by simp, ⟨rfl, rfl⟩, bO, bR, bA, bX, B0, Nat.le_refl _⟩
  case round =>
    obtain ⟨k, hk, rfl, v2, T, hT, hTR, ⟨hTE, hf⟩, bO1, bR1, bA1, bX1, hB, hsz⟩ := hrel
    have r0 := bA1.c 0 rfl
    obtain ⟨b, hb⟩ : ∃ b, (putK Z L k).2 = b := ⟨_, rfl⟩
    rw [hb] at hf
    subst hf
    have hf := hb
    clear hb
    by_cases hlt : k < n
    · have hltI : (k : Int) < (n : Int) := by omega
      obtain ⟨b', o, rfl, hE⟩ := hc k hlt
      obtain ⟨E, hx⟩ : ∃ E, L.getD k e0 = E := ⟨_, rfl⟩
      rw [hx] at hE
      obtain ⟨pv, cv, hp, hq, G0, G1, G2, G3, G4, G5, G6⟩ := hE
      obtain ⟨pa, px, rfl⟩ := hp.len
      obtain ⟨qa, qx, rfl⟩ := hq.len
      obtain ⟨r, hr⟩ : ∃ r, ecmp Z.a Z.n Z.pe E.a E.n E.pe = r := ⟨_, rfl⟩
      have HEC := Lib.hid hr
      have HX := Lib.hid hx
      clear hr hx
      go_wp2_with fail
      refine wp_region_held_drew (S := fun w' => Bl w' Q [.int .i64 Z.a, .int .i64 Z.n, .int .i64 Z.pe, .slice ea Z.p.length ex, .int .i64 Z.pr, .slice fa Z.c.length fx, .int .i64 Z.bw] ∧ KpA w A [.slice (some ⟨b', o, none⟩) n c] w') (by kernel_rfl) ⟨bX1.keep (over_drew _), bA1.keep (over_drew _), below_step hB (over_drew _)⟩ (fun hHeld => ?_)
      clear hHeld
      obtain ⟨D, hD⟩ : ∃ D, D = wr.drew := ⟨_, rfl⟩
      have OD : Over wr D := by rw [hD]; exact over_drew _
      rw [← hD]
      clear hD
      have hSD : Bl D Q [.int .i64 Z.a, .int .i64 Z.n, .int .i64 Z.pe, .slice ea Z.p.length ex, .int .i64 Z.pr, .slice fa Z.c.length fx, .int .i64 Z.bw] ∧ KpA w A [.slice (some ⟨b', o, none⟩) n c] D := ⟨bX1.keep OD, bA1.keep OD, below_step hB OD⟩
      refine wpAnyH_take (i := 0) (v := ?_) rfl (by kernel_rfl) (by kernel_rfl) (by kernel_rfl) (fun _ _ _ h => h) (Or.inl ⟨by rfl, ?_⟩) hSD ?_
      rotate_left
      · intro wq hSq
        (try dsimp only at hSq)
        have q0 := hSq.1.c 0 rfl
        have q1 := hSq.1.c 1 rfl
        have q2 := hSq.1.c 2 rfl
        have q3 := hSq.1.c 3 rfl
        have q4 := hSq.1.c 4 rfl
        have q5 := hSq.1.c 5 rfl
        have q6 := hSq.1.c 6 rfl
        go_simp
        try rfl
      change wpAnyH _ _ _ _ _ _ _ (Act.put _ (some 16) _) _
      simp only [Act.put, List.setIfInBounds_toArray, List.set_cons_succ, List.set_cons_zero]
      refine wpAnyH_take (i := 1) (v := ?_) rfl (by kernel_rfl) (by kernel_rfl) (by kernel_rfl) (fun _ _ _ h => h) (Or.inl ⟨by rfl, ?_⟩) hSD ?_
      rotate_left
      · intro wq hSq
        (try dsimp only at hSq)

        go_simp
        try rfl
      change wpAnyH _ _ _ _ _ _ _ (Act.put _ (some 17) _) _
      simp only [Act.put, List.setIfInBounds_toArray, List.set_cons_succ, List.set_cons_zero]
      refine wpAnyH_take (i := 2) (v := ?_) rfl (by kernel_rfl) (by kernel_rfl) (by kernel_rfl) (fun _ _ _ h => h) (Or.inl ⟨by rfl, ?_⟩) hSD ?_
      rotate_left
      · intro wq hSq
        (try dsimp only at hSq)
        have q0 := hSq.2.1.c 0 rfl
        go_simp
        try rfl
      change wpAnyH _ _ _ _ _ _ _ (Act.put _ (some 18) _) _
      simp only [Act.put, List.setIfInBounds_toArray, List.set_cons_succ, List.set_cons_zero]
      refine wpAnyH_take (i := 3) (v := ?_) rfl (by kernel_rfl) (by kernel_rfl) (by kernel_rfl) (fun _ _ _ h => h) (Or.inl ⟨by rfl, ?_⟩) hSD ?_
      rotate_left
      · intro wq hSq
        (try dsimp only at hSq)

        go_simp
        try rfl
      change wpAnyH _ _ _ _ _ _ _ (Act.put _ (some 19) _) _
      simp only [Act.put, List.setIfInBounds_toArray, List.set_cons_succ, List.set_cons_zero]
      refine wpAnyH_take (i := 4) (v := ?_) rfl (by kernel_rfl) (by kernel_rfl) (by kernel_rfl) (fun _ _ _ h => h) (Or.inl ⟨by rfl, ?_⟩) hSD ?_
      rotate_left
      · intro wq hSq
        (try dsimp only at hSq)

        go_simp
        try rfl
      change wpAnyH _ _ _ _ _ _ _ (Act.put _ (some 20) _) _
      simp only [Act.put, List.setIfInBounds_toArray, List.set_cons_succ, List.set_cons_zero]
      refine wpAnyH_take (i := 5) (v := ?_) rfl (by kernel_rfl) (by kernel_rfl) (by kernel_rfl) (fun _ _ _ h => h) (Or.inl ⟨by rfl, ?_⟩) hSD ?_
      rotate_left
      · intro wq hSq
        (try dsimp only at hSq)
        have q0 := over_cell hSq.2.2 (World.block_lt_of_cell? _ _ G0) G0
        have q1 := over_cell hSq.2.2 (World.block_lt_of_cell? _ _ G1) G1
        have q2 := over_cell hSq.2.2 (World.block_lt_of_cell? _ _ G2) G2
        have q3 := over_cell hSq.2.2 (World.block_lt_of_cell? _ _ G3) G3
        have q4 := over_cell hSq.2.2 (World.block_lt_of_cell? _ _ G4) G4
        have q5 := over_cell hSq.2.2 (World.block_lt_of_cell? _ _ G5) G5
        have q6 := over_cell hSq.2.2 (World.block_lt_of_cell? _ _ G6) G6
        go_simp
        try rfl
      change wpAnyH _ _ _ _ _ _ _ (Act.put _ (some 21) _) _
      simp only [Act.put, List.setIfInBounds_toArray, List.set_cons_succ, List.set_cons_zero]
      refine wpAnyH_ready (rs := [6]) (by kernel_rfl) (by simp) ?_
      refine (AllReadyH.cons rfl (fun K hK => ?_) AllReadyH.nil)
      go_simp
      refine (scmp6_t _ HEC).mono ?_
      rintro e ws ⟨rfl, hb⟩
      have OS : Over wr ws := over_step OD hb
      replace hB := below_step hB OS
      replace hT := rowK hT OS
      replace bO1 := bO1.keep OS
      replace bR1 := bR1.keep OS
      replace bA1 := bA1.keep OS
      replace bX1 := bX1.keep OS
      replace hsz := Nat.le_trans hsz OS.size
      refine hK.out _ _ ⟨bX1, bA1, hB⟩ (fun hHeld => ?_)
      clear hK K hHeld hSD hb OS OD
      try simp only [Act.put, List.setIfInBounds_toArray, List.set_cons_zero, List.set_cons_succ]
      refine wpAnyH_ready (rs := [7]) (by kernel_rfl) (by simp) ?_
      refine (AllReadyH.cons rfl (fun K hK => ?_) AllReadyH.nil)
      go_simp
      refine hK.out _ _ ⟨bX1, bA1, hB⟩ (fun hHeld => ?_)
      clear hK K hHeld
      try simp only [Act.put, List.setIfInBounds_toArray, List.set_cons_zero, List.set_cons_succ]
      refine wpAnyH_done (by kernel_rfl) ?_ _
      clear r0
      have hk2 := putK_len Z L k
      have HL3 : Hid (T.length + 2 ≤ 4294967296) := Lib.hid (by have e := congrArg List.length hTE; rw [entT_len] at e; omega)
      have HL : Hid (T.length + 1 ≤ 4294967296) := Lib.hid (by have e := congrArg List.length hTE; rw [entT_len] at e; omega)
      cases b
      · have hS := putK_s HX.out HEC.out hf.symm hTE
        by_cases hr0 : r = 0
        · subst hr0
          have HF : Hid (∀ M : List Ent, M = entT T ++ [Z] → M = (putK Z L (k + 1)).1 ∧ Value.bool true = .bool (putK Z L (k + 1)).2) := Lib.hid fun M hM => by rw [hS, hM]; simp
          have HC := Lib.hid hc
          clear hS hc hTE hf hk2 HX
          have o0 := bO1.c 0 rfl
          have p0 := bX1.c 0 rfl
          have p1 := bX1.c 1 rfl
          have p2 := bX1.c 2 rfl
          have p3 := bX1.c 3 rfl
          have p4 := bX1.c 4 rfl
          have p5 := bX1.c 5 rfl
          have p6 := bX1.c 6 rfl
          go_wp2_with (at_builtin; refine Hid.out ?_)
          refine Lib.hid ?_
          clear o0 p0 p1 p2 p3 p4 p5 p6
          have bN := Bl.new ws [.int .i64 Z.a, .int .i64 Z.n, .int .i64 Z.pe, .slice ea Z.p.length ex, .int .i64 Z.pr, .slice fa Z.c.length fx, .int .i64 Z.bw] EI ws.heap.size rfl
          have N1 : Below ws.heap.size ws (ws.alloc (.cells #[.int .i64 Z.a, .int .i64 Z.n, .int .i64 Z.pe, .slice ea Z.p.length ex, .int .i64 Z.pr, .slice fa Z.c.length fx, .int .i64 Z.bw] EI)) := (Below.refl _ _).alloc (Nat.le_refl _) _
          refine wp_appE rfl _ _ rfl W1.heap.size ws.heap.size 1 v2 T.length (flatT T) [.int .i64 Z.a, .int .i64 Z.n, .int .i64 Z.pe, .slice ea Z.p.length ex, .int .i64 Z.pr, .slice fa Z.c.length fx, .int .i64 Z.bw] rfl rfl (rowK hT N1) bN rfl (by simp [Value.oneCell']) HL.out (Nat.le_trans hsz N1.size) ?_
          intro v4 w3 hrow hg hor
          have hB3 : Below w.heap.size w w3 := below_growT (below_step hB N1) (rowK hT N1) hwW hg
          have bO3 := (bO1.keep N1).grown hg (neRow (rowK hT N1) hOW)
          have bR3 := (bR1.keep N1).grown hg (neRow (rowK hT N1) hRW)
          have bA3 := (bA1.keep N1).grown hg (neRow (rowK hT N1) hAW)
          have bX3 := (bX1.keep N1).grown hg (neRow (rowK hT N1) hXW)
          have hs3 := Nat.le_trans hsz (Nat.le_trans N1.size hg.size)
          clear hg hor bN N1 hT bO1 bR1 bA1 bX1 hB hsz
          obtain ⟨x3, y3, rfl⟩ := row_slice hrow
          have o0 := bO3.c 0 rfl
          have of0 := bO3.f 0 rfl
          have hT := rowFar (o := 0) (u := .slice x3 (T.length + 1) y3) hrow hOW
          have bO1 := bO3.set 0 (.slice x3 (T.length + 1) y3)
          have bR1 := bR3.far (o := 0) (u := .slice x3 (T.length + 1) y3) hRO
          have bA1 := bA3.far (o := 0) (u := .slice x3 (T.length + 1) y3) hAO
          have bX1 := bX3.far (o := 0) (u := .slice x3 (T.length + 1) y3) hXO
          have hB := hB3.setCell (p := ⟨O, 0, none⟩) hwO (.slice x3 (T.length + 1) y3)
          have hsz : W1.heap.size ≤ (w3.setCell ⟨O, 0, none⟩ (.slice x3 (T.length + 1) y3)).heap.size := by simpa using hs3
          obtain ⟨T2, eT2⟩ : ∃ S, S = T ++ [(⟨Z, .slice ea Z.p.length ex, .slice fa Z.c.length fx⟩ : ET)] := ⟨_, rfl⟩
          have lT2 : T2.length = T.length + 1 := by rw [eT2]; simp
          have fT2 : flatT T2 = flatT T ++ [.int .i64 Z.a, .int .i64 Z.n, .int .i64 Z.pe, .slice ea Z.p.length ex, .int .i64 Z.pr, .slice fa Z.c.length fx, .int .i64 Z.bw] := by rw [eT2, flatT_append, flatT_one]; rfl
          rw [← fT2, ← lT2] at hT
          rw [← lT2] at bO1 bR1 bA1 bX1 hB hsz ⊢
          have hTR2 : ∀ t ∈ T2, RdI w t.u t.E.p ∧ RdI w t.v t.E.c := by
            intro t ht
            rw [eT2] at ht
            rcases List.mem_append.1 ht with q | q
            · exact hTR t q
            · rw [List.mem_singleton.1 q]; exact ⟨hZ1, hZ2⟩
          have eET2 : entT T2 = entT T ++ [Z] := by rw [eT2, entT_append]; rfl
          have LT2 := Lib.hid lT2
          clear lT2 fT2 eT2 hrow bO3 bR3 bA3 bX3 hB3 hs3 hTR
          have hTR := hTR2
          clear hTR2
          obtain ⟨W6, eW6⟩ : ∃ W, W = w3.setCell ⟨O, 0, none⟩ (.slice x3 T2.length y3) := ⟨_, rfl⟩
          go_wp2
          try rw [← eW6] at hT bO1 bR1 bA1 bX1 hB hsz
          try rw [← eW6]
          go_roundw
          case rel => exact ⟨k + 1, by omega, by go_num, _, T2, hT, hTR, HF.out _ eET2, bO1, bR1, bA1, bX1, hB, hsz⟩
          case measure => simp [intOf]; omega
        · by_cases hrn : r < 0
          · have hle : r ≤ 0 := by omega
            have hfb : (r == 0) = false := by simp [hr0]
            have HF : Hid (∀ M : List Ent, M = entT T ++ [Z] → ∀ t : ET, t.E = E → M ++ [t.E] = (putK Z L (k + 1)).1 ∧ Value.bool true = .bool (putK Z L (k + 1)).2) := Lib.hid fun M hM t ht => by rw [hS, hM, ht]; simp [hr0, hle]
            have HC := Lib.hid hc
            clear hS hc hTE hf hk2 HX hr0 hrn
            have o0 := bO1.c 0 rfl
            have p0 := bX1.c 0 rfl
            have p1 := bX1.c 1 rfl
            have p2 := bX1.c 2 rfl
            have p3 := bX1.c 3 rfl
            have p4 := bX1.c 4 rfl
            have p5 := bX1.c 5 rfl
            have p6 := bX1.c 6 rfl
            go_wp2_with (at_builtin; refine Hid.out ?_)
            refine Lib.hid ?_
            clear o0 p0 p1 p2 p3 p4 p5 p6
            have bN := Bl.new ws [.int .i64 Z.a, .int .i64 Z.n, .int .i64 Z.pe, .slice ea Z.p.length ex, .int .i64 Z.pr, .slice fa Z.c.length fx, .int .i64 Z.bw] EI ws.heap.size rfl
            have N1 : Below ws.heap.size ws (ws.alloc (.cells #[.int .i64 Z.a, .int .i64 Z.n, .int .i64 Z.pe, .slice ea Z.p.length ex, .int .i64 Z.pr, .slice fa Z.c.length fx, .int .i64 Z.bw] EI)) := (Below.refl _ _).alloc (Nat.le_refl _) _
            refine wp_appE rfl _ _ rfl W1.heap.size ws.heap.size 1 v2 T.length (flatT T) [.int .i64 Z.a, .int .i64 Z.n, .int .i64 Z.pe, .slice ea Z.p.length ex, .int .i64 Z.pr, .slice fa Z.c.length fx, .int .i64 Z.bw] rfl rfl (rowK hT N1) bN rfl (by simp [Value.oneCell']) HL.out (Nat.le_trans hsz N1.size) ?_
            intro v4 w3 hrow hg hor
            have hB3 : Below w.heap.size w w3 := below_growT (below_step hB N1) (rowK hT N1) hwW hg
            have bO3 := (bO1.keep N1).grown hg (neRow (rowK hT N1) hOW)
            have bR3 := (bR1.keep N1).grown hg (neRow (rowK hT N1) hRW)
            have bA3 := (bA1.keep N1).grown hg (neRow (rowK hT N1) hAW)
            have bX3 := (bX1.keep N1).grown hg (neRow (rowK hT N1) hXW)
            have hs3 := Nat.le_trans hsz (Nat.le_trans N1.size hg.size)
            clear hg hor bN N1 hT bO1 bR1 bA1 bX1 hB hsz
            obtain ⟨x3, y3, rfl⟩ := row_slice hrow
            have o0 := bO3.c 0 rfl
            have of0 := bO3.f 0 rfl
            have hT := rowFar (o := 0) (u := .slice x3 (T.length + 1) y3) hrow hOW
            have bO1 := bO3.set 0 (.slice x3 (T.length + 1) y3)
            have bR1 := bR3.far (o := 0) (u := .slice x3 (T.length + 1) y3) hRO
            have bA1 := bA3.far (o := 0) (u := .slice x3 (T.length + 1) y3) hAO
            have bX1 := bX3.far (o := 0) (u := .slice x3 (T.length + 1) y3) hXO
            have hB := hB3.setCell (p := ⟨O, 0, none⟩) hwO (.slice x3 (T.length + 1) y3)
            have hsz : W1.heap.size ≤ (w3.setCell ⟨O, 0, none⟩ (.slice x3 (T.length + 1) y3)).heap.size := by simpa using hs3
            obtain ⟨T2, eT2⟩ : ∃ S, S = T ++ [(⟨Z, .slice ea Z.p.length ex, .slice fa Z.c.length fx⟩ : ET)] := ⟨_, rfl⟩
            have lT2 : T2.length = T.length + 1 := by rw [eT2]; simp
            have fT2 : flatT T2 = flatT T ++ [.int .i64 Z.a, .int .i64 Z.n, .int .i64 Z.pe, .slice ea Z.p.length ex, .int .i64 Z.pr, .slice fa Z.c.length fx, .int .i64 Z.bw] := by rw [eT2, flatT_append, flatT_one]; rfl
            rw [← fT2, ← lT2] at hT
            rw [← lT2] at bO1 bR1 bA1 bX1 hB hsz ⊢
            have hTR2 : ∀ t ∈ T2, RdI w t.u t.E.p ∧ RdI w t.v t.E.c := by
              intro t ht
              rw [eT2] at ht
              rcases List.mem_append.1 ht with q | q
              · exact hTR t q
              · rw [List.mem_singleton.1 q]; exact ⟨hZ1, hZ2⟩
            have eET2 : entT T2 = entT T ++ [Z] := by rw [eT2, entT_append]; rfl
            have LT2 := Lib.hid lT2
            clear lT2 fT2 eT2 hrow bO3 bR3 bA3 bX3 hB3 hs3 hTR
            have hTR := hTR2
            clear hTR2
            obtain ⟨W6, eW6⟩ : ∃ W, W = w3.setCell ⟨O, 0, none⟩ (.slice x3 T2.length y3) := ⟨_, rfl⟩
            have HTE : Hid (∀ t : ET, t.E = E → entT (T2 ++ [t]) = (putK Z L (k + 1)).1 ∧ Value.bool true = .bool (putK Z L (k + 1)).2) := Lib.hid fun t ht => by rw [entT_append]; exact HF.out _ eET2 t ht
            have HL2 : Hid (T2.length + 1 ≤ 4294967296) := Lib.hid (by have := HL3.out; have := LT2.out; omega)
            go_wp2_with fail
            rw [← eW6] at hT bO1 bR1 bA1 bX1 hB hsz ⊢
            clear eW6 o0 of0
            have g0 := over_cell hB (World.block_lt_of_cell? _ _ G0) G0
            have g1 := over_cell hB (World.block_lt_of_cell? _ _ G1) G1
            have g2 := over_cell hB (World.block_lt_of_cell? _ _ G2) G2
            have g3 := over_cell hB (World.block_lt_of_cell? _ _ G3) G3
            have g4 := over_cell hB (World.block_lt_of_cell? _ _ G4) G4
            have g5 := over_cell hB (World.block_lt_of_cell? _ _ G5) G5
            have g6 := over_cell hB (World.block_lt_of_cell? _ _ G6) G6
            refine wp_region_held_drew (S := fun w' => Bl w' A [.slice (some ⟨b', o, none⟩) n c] ∧ Below w.heap.size w w') (by kernel_rfl) ⟨bA1.keep (over_drew _), below_step hB (over_drew _)⟩ (fun hHeld => ?_)
            clear hHeld
            obtain ⟨D, hD⟩ : ∃ D, D = W6.drew := ⟨_, rfl⟩
            have OD : Over W6 D := by rw [hD]; exact over_drew _
            rw [← hD]
            clear hD
            have hSD : KpA w A [.slice (some ⟨b', o, none⟩) n c] D := ⟨bA1.keep OD, below_step hB OD⟩
            have hWD : W1.heap.size ≤ D.heap.size := Nat.le_trans hsz OD.size
            clear g0 g1 g2 g3 g4 g5 g6
            refine wpAnyH_take (i := 0) (v := ?_) rfl (by kernel_rfl) (by kernel_rfl) (by kernel_rfl) (fun _ _ _ h => h) (Or.inl ⟨by rfl, ?_⟩) hSD ?_
            rotate_left
            · intro wq hSq
              (try dsimp only at hSq)

              go_simp
              try rfl
            change wpAnyH _ _ _ _ _ _ _ (Act.put _ (some 37) _) _
            simp only [Act.put, List.setIfInBounds_toArray, List.set_cons_succ, List.set_cons_zero]
            refine wpAnyH_take (i := 2) (v := ?_) rfl (by kernel_rfl) (by kernel_rfl) (by kernel_rfl) (fun _ _ _ h => h) (Or.inl ⟨by rfl, ?_⟩) hSD ?_
            rotate_left
            · intro wq hSq
              (try dsimp only at hSq)

              go_simp
              try rfl
            change wpAnyH _ _ _ _ _ _ _ (Act.put _ (some 39) _) _
            simp only [Act.put, List.setIfInBounds_toArray, List.set_cons_succ, List.set_cons_zero]
            refine wpAnyH_take (i := 3) (v := ?_) rfl (by kernel_rfl) (by kernel_rfl) (by kernel_rfl) (fun _ _ _ h => h) (Or.inl ⟨by rfl, ?_⟩) hSD ?_
            rotate_left
            · intro wq hSq
              (try dsimp only at hSq)
              have q0 := hSq.1.c 0 rfl
              go_simp
              try rfl
            change wpAnyH _ _ _ _ _ _ _ (Act.put _ (some 40) _) _
            simp only [Act.put, List.setIfInBounds_toArray, List.set_cons_succ, List.set_cons_zero]
            refine wpAnyH_take (i := 4) (v := ?_) rfl (by kernel_rfl) (by kernel_rfl) (by kernel_rfl) (fun _ _ _ h => h) (Or.inl ⟨by rfl, ?_⟩) hSD ?_
            rotate_left
            · intro wq hSq
              (try dsimp only at hSq)

              go_simp
              try rfl
            change wpAnyH _ _ _ _ _ _ _ (Act.put _ (some 41) _) _
            simp only [Act.put, List.setIfInBounds_toArray, List.set_cons_succ, List.set_cons_zero]
            refine wpAnyH_take (i := 5) (v := ?_) rfl (by kernel_rfl) (by kernel_rfl) (by kernel_rfl) (fun _ _ _ h => h) (Or.inl ⟨by rfl, ?_⟩) hSD ?_
            rotate_left
            · intro wq hSq
              (try dsimp only at hSq)

              go_simp
              try rfl
            change wpAnyH _ _ _ _ _ _ _ (Act.put _ (some 42) _) _
            simp only [Act.put, List.setIfInBounds_toArray, List.set_cons_succ, List.set_cons_zero]
            refine wpAnyH_take (i := 6) (v := ?_) rfl (by kernel_rfl) (by kernel_rfl) (by kernel_rfl) (fun _ _ _ h => h) (Or.inl ⟨by rfl, ?_⟩) hSD ?_
            rotate_left
            · intro wq hSq
              (try dsimp only at hSq)
              have q0 := over_cell hSq.2 (World.block_lt_of_cell? _ _ G0) G0
              have q1 := over_cell hSq.2 (World.block_lt_of_cell? _ _ G1) G1
              have q2 := over_cell hSq.2 (World.block_lt_of_cell? _ _ G2) G2
              have q3 := over_cell hSq.2 (World.block_lt_of_cell? _ _ G3) G3
              have q4 := over_cell hSq.2 (World.block_lt_of_cell? _ _ G4) G4
              have q5 := over_cell hSq.2 (World.block_lt_of_cell? _ _ G5) G5
              have q6 := over_cell hSq.2 (World.block_lt_of_cell? _ _ G6) G6
              go_simp
              try rfl
            change wpAnyH _ _ _ _ _ _ _ (Act.put _ (some 43) _) _
            simp only [Act.put, List.setIfInBounds_toArray, List.set_cons_succ, List.set_cons_zero]
            refine wpAnyH_ready (rs := [1, 7]) (by kernel_rfl) (by simp) ?_
            refine (AllReadyH.cons rfl (fun K hK => ?_) (AllReadyH.cons rfl (fun K hK => ?_) AllReadyH.nil))
            · have q := (bO1.keep OD).c 0 rfl
              go_simp
              refine hK.out _ _ hSD (fun hHeld => ?_)
              clear hK K hHeld q
              try simp only [Act.put, List.setIfInBounds_toArray, List.set_cons_zero, List.set_cons_succ]
              refine wpAnyH_ready (rs := [7]) (by kernel_rfl) (by simp) ?_
              refine (AllReadyH.cons rfl (fun K hK => ?_) AllReadyH.nil)
              go_simp
              have bN := Bl.new D [.int .i64 E.a, .int .i64 E.n, .int .i64 E.pe, .slice pa E.p.length px, .int .i64 E.pr, .slice qa E.c.length qx, .int .i64 E.bw] EI D.heap.size rfl
              have N1 : Below D.heap.size D (D.alloc (.cells #[.int .i64 E.a, .int .i64 E.n, .int .i64 E.pe, .slice pa E.p.length px, .int .i64 E.pr, .slice qa E.c.length qx, .int .i64 E.bw] EI)) := (Below.refl _ _).alloc (Nat.le_refl _) _
              refine hK.out _ _ (hSD.next N1) (fun hHeld => ?_)
              clear hK K hHeld
              try simp only [Act.put, List.setIfInBounds_toArray, List.set_cons_zero, List.set_cons_succ]
              refine wpAnyH_ready (rs := [8]) (by kernel_rfl) (by simp) ?_
              refine (AllReadyH.cons rfl (fun K hK => ?_) AllReadyH.nil)
              refine step_appE rfl (.tmp 38) (.tmp 44) rfl W1.heap.size D.heap.size 1 (.slice x3 T2.length y3) T2.length (flatT T2) [.int .i64 E.a, .int .i64 E.n, .int .i64 E.pe, .slice pa E.p.length px, .int .i64 E.pr, .slice qa E.c.length qx, .int .i64 E.bw] rfl rfl (rowK (rowK hT OD) N1) bN rfl (by simp [Value.oneCell']) HL2.out (Nat.le_trans hWD N1.size) ?_
              intro v3 w3 hrow hg hor
              have hB3 : Below w.heap.size w w3 := below_growT (below_step (below_step hB OD) N1) (rowK (rowK hT OD) N1) hwW hg
              have bO3 := ((bO1.keep OD).keep N1).grown hg (neRow (rowK (rowK hT OD) N1) hOW)
              have bR3 := ((bR1.keep OD).keep N1).grown hg (neRow (rowK (rowK hT OD) N1) hRW)
              have bA3 := ((bA1.keep OD).keep N1).grown hg (neRow (rowK (rowK hT OD) N1) hAW)
              have bX3 := ((bX1.keep OD).keep N1).grown hg (neRow (rowK (rowK hT OD) N1) hXW)
              have hs3 := Nat.le_trans hWD (Nat.le_trans N1.size hg.size)
              clear hg hor
              refine hK.out _ _ ⟨bA3, hB3⟩ (fun hHeld => ?_)
              clear hK K hHeld
              obtain ⟨x3, y3, rfl⟩ := row_slice hrow
              try simp only [Act.put, List.setIfInBounds_toArray, List.set_cons_zero, List.set_cons_succ]
              refine wpAnyH_ready (rs := [9]) (by kernel_rfl) (by simp) ?_
              refine (AllReadyH.cons rfl (fun K hK => ?_) AllReadyH.nil)
              go_simp
              refine hK.out _ _ ⟨bA3, hB3⟩ (fun hHeld => ?_)
              clear hK K hHeld
              try simp only [Act.put, List.setIfInBounds_toArray, List.set_cons_zero, List.set_cons_succ]
              refine wpAnyH_ready (rs := [10]) (by kernel_rfl) (by simp) ?_
              refine (AllReadyH.cons rfl (fun K hK => ?_) AllReadyH.nil)
              have o0 := bO3.c 0 rfl
              have of0 := bO3.f 0 rfl
              go_simp
              refine hK.out _ _ ⟨bA3.far hAO, hB3.setCell (p := ⟨O, 0, none⟩) hwO _⟩ (fun hHeld => ?_)
              clear hK K hHeld o0 of0
              try simp only [Act.put, List.setIfInBounds_toArray, List.set_cons_zero, List.set_cons_succ]
              refine wpAnyH_done (by kernel_rfl) ?_ _
              go_wp2
              go_roundw
              case rel =>
                refine ⟨k + 1, by omega, by go_num, .slice x3 (T2.length + 1) y3, T2 ++ [⟨E, .slice pa E.p.length px, .slice qa E.c.length qx⟩], ?_, ?_, HTE.out _ rfl, bO3.set 0 _, bR3.far hRO, bA3.far hAO, bX3.far hXO, hB3.setCell (p := ⟨O, 0, none⟩) hwO _, by simpa using hs3⟩
                · rw [List.length_append, flatT_append, show flatT [(⟨E, .slice pa E.p.length px, .slice qa E.c.length qx⟩ : ET)] = cellsT ⟨E, .slice pa E.p.length px, .slice qa E.c.length qx⟩ by simp [flatT]]
                  exact rowFar hrow hOW
                · intro t ht
                  rcases List.mem_append.1 ht with q | q
                  · exact hTR t q
                  · rw [List.mem_singleton.1 q]; exact ⟨hp, hq⟩
              case measure => simp [intOf]; omega
            · go_simp
              have bN := Bl.new D [.int .i64 E.a, .int .i64 E.n, .int .i64 E.pe, .slice pa E.p.length px, .int .i64 E.pr, .slice qa E.c.length qx, .int .i64 E.bw] EI D.heap.size rfl
              have N1 : Below D.heap.size D (D.alloc (.cells #[.int .i64 E.a, .int .i64 E.n, .int .i64 E.pe, .slice pa E.p.length px, .int .i64 E.pr, .slice qa E.c.length qx, .int .i64 E.bw] EI)) := (Below.refl _ _).alloc (Nat.le_refl _) _
              refine hK.out _ _ (hSD.next N1) (fun hHeld => ?_)
              clear hK K hHeld
              try simp only [Act.put, List.setIfInBounds_toArray, List.set_cons_zero, List.set_cons_succ]
              refine wpAnyH_ready (rs := [1]) (by kernel_rfl) (by simp) ?_
              refine (AllReadyH.cons rfl (fun K hK => ?_) AllReadyH.nil)
              have q := ((bO1.keep OD).keep N1).c 0 rfl
              go_simp
              refine hK.out _ _ (hSD.next N1) (fun hHeld => ?_)
              clear hK K hHeld q
              try simp only [Act.put, List.setIfInBounds_toArray, List.set_cons_zero, List.set_cons_succ]
              refine wpAnyH_ready (rs := [8]) (by kernel_rfl) (by simp) ?_
              refine (AllReadyH.cons rfl (fun K hK => ?_) AllReadyH.nil)
              refine step_appE rfl (.tmp 38) (.tmp 44) rfl W1.heap.size D.heap.size 1 (.slice x3 T2.length y3) T2.length (flatT T2) [.int .i64 E.a, .int .i64 E.n, .int .i64 E.pe, .slice pa E.p.length px, .int .i64 E.pr, .slice qa E.c.length qx, .int .i64 E.bw] rfl rfl (rowK (rowK hT OD) N1) bN rfl (by simp [Value.oneCell']) HL2.out (Nat.le_trans hWD N1.size) ?_
              intro v3 w3 hrow hg hor
              have hB3 : Below w.heap.size w w3 := below_growT (below_step (below_step hB OD) N1) (rowK (rowK hT OD) N1) hwW hg
              have bO3 := ((bO1.keep OD).keep N1).grown hg (neRow (rowK (rowK hT OD) N1) hOW)
              have bR3 := ((bR1.keep OD).keep N1).grown hg (neRow (rowK (rowK hT OD) N1) hRW)
              have bA3 := ((bA1.keep OD).keep N1).grown hg (neRow (rowK (rowK hT OD) N1) hAW)
              have bX3 := ((bX1.keep OD).keep N1).grown hg (neRow (rowK (rowK hT OD) N1) hXW)
              have hs3 := Nat.le_trans hWD (Nat.le_trans N1.size hg.size)
              clear hg hor
              refine hK.out _ _ ⟨bA3, hB3⟩ (fun hHeld => ?_)
              clear hK K hHeld
              obtain ⟨x3, y3, rfl⟩ := row_slice hrow
              try simp only [Act.put, List.setIfInBounds_toArray, List.set_cons_zero, List.set_cons_succ]
              refine wpAnyH_ready (rs := [9]) (by kernel_rfl) (by simp) ?_
              refine (AllReadyH.cons rfl (fun K hK => ?_) AllReadyH.nil)
              go_simp
              refine hK.out _ _ ⟨bA3, hB3⟩ (fun hHeld => ?_)
              clear hK K hHeld
              try simp only [Act.put, List.setIfInBounds_toArray, List.set_cons_zero, List.set_cons_succ]
              refine wpAnyH_ready (rs := [10]) (by kernel_rfl) (by simp) ?_
              refine (AllReadyH.cons rfl (fun K hK => ?_) AllReadyH.nil)
              have o0 := bO3.c 0 rfl
              have of0 := bO3.f 0 rfl
              go_simp
              refine hK.out _ _ ⟨bA3.far hAO, hB3.setCell (p := ⟨O, 0, none⟩) hwO _⟩ (fun hHeld => ?_)
              clear hK K hHeld o0 of0
              try simp only [Act.put, List.setIfInBounds_toArray, List.set_cons_zero, List.set_cons_succ]
              refine wpAnyH_done (by kernel_rfl) ?_ _
              go_wp2
              go_roundw
              case rel =>
                refine ⟨k + 1, by omega, by go_num, .slice x3 (T2.length + 1) y3, T2 ++ [⟨E, .slice pa E.p.length px, .slice qa E.c.length qx⟩], ?_, ?_, HTE.out _ rfl, bO3.set 0 _, bR3.far hRO, bA3.far hAO, bX3.far hXO, hB3.setCell (p := ⟨O, 0, none⟩) hwO _, by simpa using hs3⟩
                · rw [List.length_append, flatT_append, show flatT [(⟨E, .slice pa E.p.length px, .slice qa E.c.length qx⟩ : ET)] = cellsT ⟨E, .slice pa E.p.length px, .slice qa E.c.length qx⟩ by simp [flatT]]
                  exact rowFar hrow hOW
                · intro t ht
                  rcases List.mem_append.1 ht with q | q
                  · exact hTR t q
                  · rw [List.mem_singleton.1 q]; exact ⟨hp, hq⟩
              case measure => simp [intOf]; omega
          · have hle : ¬ r ≤ 0 := by omega
            have hfb : (r == 0) = false := by simp [hr0]
            have HTE : Hid (∀ t : ET, t.E = E → entT (T ++ [t]) = (putK Z L (k + 1)).1 ∧ Value.bool false = .bool (putK Z L (k + 1)).2) := Lib.hid fun t ht => by rw [hS, entT_append]; simp [hr0, hle, entT, ht]
            have HC := Lib.hid hc
            clear hS hc hTE hf hk2 HX hr0 hrn
            have o0 := bO1.c 0 rfl
            go_wp2_with fail
            clear o0
            have g0 := over_cell hB (World.block_lt_of_cell? _ _ G0) G0
            have g1 := over_cell hB (World.block_lt_of_cell? _ _ G1) G1
            have g2 := over_cell hB (World.block_lt_of_cell? _ _ G2) G2
            have g3 := over_cell hB (World.block_lt_of_cell? _ _ G3) G3
            have g4 := over_cell hB (World.block_lt_of_cell? _ _ G4) G4
            have g5 := over_cell hB (World.block_lt_of_cell? _ _ G5) G5
            have g6 := over_cell hB (World.block_lt_of_cell? _ _ G6) G6
            refine wp_region_held_drew (S := fun w' => Bl w' A [.slice (some ⟨b', o, none⟩) n c] ∧ Below w.heap.size w w') (by kernel_rfl) ⟨bA1.keep (over_drew _), below_step hB (over_drew _)⟩ (fun hHeld => ?_)
            clear hHeld
            obtain ⟨D, hD⟩ : ∃ D, D = ws.drew := ⟨_, rfl⟩
            have OD : Over ws D := by rw [hD]; exact over_drew _
            rw [← hD]
            clear hD
            have hSD : KpA w A [.slice (some ⟨b', o, none⟩) n c] D := ⟨bA1.keep OD, below_step hB OD⟩
            have hWD : W1.heap.size ≤ D.heap.size := Nat.le_trans hsz OD.size
            clear g0 g1 g2 g3 g4 g5 g6
            refine wpAnyH_take (i := 0) (v := ?_) rfl (by kernel_rfl) (by kernel_rfl) (by kernel_rfl) (fun _ _ _ h => h) (Or.inl ⟨by rfl, ?_⟩) hSD ?_
            rotate_left
            · intro wq hSq
              (try dsimp only at hSq)

              go_simp
              try rfl
            change wpAnyH _ _ _ _ _ _ _ (Act.put _ (some 37) _) _
            simp only [Act.put, List.setIfInBounds_toArray, List.set_cons_succ, List.set_cons_zero]
            refine wpAnyH_take (i := 2) (v := ?_) rfl (by kernel_rfl) (by kernel_rfl) (by kernel_rfl) (fun _ _ _ h => h) (Or.inl ⟨by rfl, ?_⟩) hSD ?_
            rotate_left
            · intro wq hSq
              (try dsimp only at hSq)

              go_simp
              try rfl
            change wpAnyH _ _ _ _ _ _ _ (Act.put _ (some 39) _) _
            simp only [Act.put, List.setIfInBounds_toArray, List.set_cons_succ, List.set_cons_zero]
            refine wpAnyH_take (i := 3) (v := ?_) rfl (by kernel_rfl) (by kernel_rfl) (by kernel_rfl) (fun _ _ _ h => h) (Or.inl ⟨by rfl, ?_⟩) hSD ?_
            rotate_left
            · intro wq hSq
              (try dsimp only at hSq)
              have q0 := hSq.1.c 0 rfl
              go_simp
              try rfl
            change wpAnyH _ _ _ _ _ _ _ (Act.put _ (some 40) _) _
            simp only [Act.put, List.setIfInBounds_toArray, List.set_cons_succ, List.set_cons_zero]
            refine wpAnyH_take (i := 4) (v := ?_) rfl (by kernel_rfl) (by kernel_rfl) (by kernel_rfl) (fun _ _ _ h => h) (Or.inl ⟨by rfl, ?_⟩) hSD ?_
            rotate_left
            · intro wq hSq
              (try dsimp only at hSq)

              go_simp
              try rfl
            change wpAnyH _ _ _ _ _ _ _ (Act.put _ (some 41) _) _
            simp only [Act.put, List.setIfInBounds_toArray, List.set_cons_succ, List.set_cons_zero]
            refine wpAnyH_take (i := 5) (v := ?_) rfl (by kernel_rfl) (by kernel_rfl) (by kernel_rfl) (fun _ _ _ h => h) (Or.inl ⟨by rfl, ?_⟩) hSD ?_
            rotate_left
            · intro wq hSq
              (try dsimp only at hSq)

              go_simp
              try rfl
            change wpAnyH _ _ _ _ _ _ _ (Act.put _ (some 42) _) _
            simp only [Act.put, List.setIfInBounds_toArray, List.set_cons_succ, List.set_cons_zero]
            refine wpAnyH_take (i := 6) (v := ?_) rfl (by kernel_rfl) (by kernel_rfl) (by kernel_rfl) (fun _ _ _ h => h) (Or.inl ⟨by rfl, ?_⟩) hSD ?_
            rotate_left
            · intro wq hSq
              (try dsimp only at hSq)
              have q0 := over_cell hSq.2 (World.block_lt_of_cell? _ _ G0) G0
              have q1 := over_cell hSq.2 (World.block_lt_of_cell? _ _ G1) G1
              have q2 := over_cell hSq.2 (World.block_lt_of_cell? _ _ G2) G2
              have q3 := over_cell hSq.2 (World.block_lt_of_cell? _ _ G3) G3
              have q4 := over_cell hSq.2 (World.block_lt_of_cell? _ _ G4) G4
              have q5 := over_cell hSq.2 (World.block_lt_of_cell? _ _ G5) G5
              have q6 := over_cell hSq.2 (World.block_lt_of_cell? _ _ G6) G6
              go_simp
              try rfl
            change wpAnyH _ _ _ _ _ _ _ (Act.put _ (some 43) _) _
            simp only [Act.put, List.setIfInBounds_toArray, List.set_cons_succ, List.set_cons_zero]
            refine wpAnyH_ready (rs := [1, 7]) (by kernel_rfl) (by simp) ?_
            refine (AllReadyH.cons rfl (fun K hK => ?_) (AllReadyH.cons rfl (fun K hK => ?_) AllReadyH.nil))
            · have q := (bO1.keep OD).c 0 rfl
              go_simp
              refine hK.out _ _ hSD (fun hHeld => ?_)
              clear hK K hHeld q
              try simp only [Act.put, List.setIfInBounds_toArray, List.set_cons_zero, List.set_cons_succ]
              refine wpAnyH_ready (rs := [7]) (by kernel_rfl) (by simp) ?_
              refine (AllReadyH.cons rfl (fun K hK => ?_) AllReadyH.nil)
              go_simp
              have bN := Bl.new D [.int .i64 E.a, .int .i64 E.n, .int .i64 E.pe, .slice pa E.p.length px, .int .i64 E.pr, .slice qa E.c.length qx, .int .i64 E.bw] EI D.heap.size rfl
              have N1 : Below D.heap.size D (D.alloc (.cells #[.int .i64 E.a, .int .i64 E.n, .int .i64 E.pe, .slice pa E.p.length px, .int .i64 E.pr, .slice qa E.c.length qx, .int .i64 E.bw] EI)) := (Below.refl _ _).alloc (Nat.le_refl _) _
              refine hK.out _ _ (hSD.next N1) (fun hHeld => ?_)
              clear hK K hHeld
              try simp only [Act.put, List.setIfInBounds_toArray, List.set_cons_zero, List.set_cons_succ]
              refine wpAnyH_ready (rs := [8]) (by kernel_rfl) (by simp) ?_
              refine (AllReadyH.cons rfl (fun K hK => ?_) AllReadyH.nil)
              refine step_appE rfl (.tmp 38) (.tmp 44) rfl W1.heap.size D.heap.size 1 v2 T.length (flatT T) [.int .i64 E.a, .int .i64 E.n, .int .i64 E.pe, .slice pa E.p.length px, .int .i64 E.pr, .slice qa E.c.length qx, .int .i64 E.bw] rfl rfl (rowK (rowK hT OD) N1) bN rfl (by simp [Value.oneCell']) HL.out (Nat.le_trans hWD N1.size) ?_
              intro v3 w3 hrow hg hor
              have hB3 : Below w.heap.size w w3 := below_growT (below_step (below_step hB OD) N1) (rowK (rowK hT OD) N1) hwW hg
              have bO3 := ((bO1.keep OD).keep N1).grown hg (neRow (rowK (rowK hT OD) N1) hOW)
              have bR3 := ((bR1.keep OD).keep N1).grown hg (neRow (rowK (rowK hT OD) N1) hRW)
              have bA3 := ((bA1.keep OD).keep N1).grown hg (neRow (rowK (rowK hT OD) N1) hAW)
              have bX3 := ((bX1.keep OD).keep N1).grown hg (neRow (rowK (rowK hT OD) N1) hXW)
              have hs3 := Nat.le_trans hWD (Nat.le_trans N1.size hg.size)
              clear hg hor
              refine hK.out _ _ ⟨bA3, hB3⟩ (fun hHeld => ?_)
              clear hK K hHeld
              obtain ⟨x3, y3, rfl⟩ := row_slice hrow
              try simp only [Act.put, List.setIfInBounds_toArray, List.set_cons_zero, List.set_cons_succ]
              refine wpAnyH_ready (rs := [9]) (by kernel_rfl) (by simp) ?_
              refine (AllReadyH.cons rfl (fun K hK => ?_) AllReadyH.nil)
              go_simp
              refine hK.out _ _ ⟨bA3, hB3⟩ (fun hHeld => ?_)
              clear hK K hHeld
              try simp only [Act.put, List.setIfInBounds_toArray, List.set_cons_zero, List.set_cons_succ]
              refine wpAnyH_ready (rs := [10]) (by kernel_rfl) (by simp) ?_
              refine (AllReadyH.cons rfl (fun K hK => ?_) AllReadyH.nil)
              have o0 := bO3.c 0 rfl
              have of0 := bO3.f 0 rfl
              go_simp
              refine hK.out _ _ ⟨bA3.far hAO, hB3.setCell (p := ⟨O, 0, none⟩) hwO _⟩ (fun hHeld => ?_)
              clear hK K hHeld o0 of0
              try simp only [Act.put, List.setIfInBounds_toArray, List.set_cons_zero, List.set_cons_succ]
              refine wpAnyH_done (by kernel_rfl) ?_ _
              go_wp2
              go_roundw
              case rel =>
                refine ⟨k + 1, by omega, by go_num, .slice x3 (T.length + 1) y3, T ++ [⟨E, .slice pa E.p.length px, .slice qa E.c.length qx⟩], ?_, ?_, HTE.out _ rfl, bO3.set 0 _, bR3.far hRO, bA3.far hAO, bX3.far hXO, hB3.setCell (p := ⟨O, 0, none⟩) hwO _, by simpa using hs3⟩
                · rw [List.length_append, flatT_append, show flatT [(⟨E, .slice pa E.p.length px, .slice qa E.c.length qx⟩ : ET)] = cellsT ⟨E, .slice pa E.p.length px, .slice qa E.c.length qx⟩ by simp [flatT]]
                  exact rowFar hrow hOW
                · intro t ht
                  rcases List.mem_append.1 ht with q | q
                  · exact hTR t q
                  · rw [List.mem_singleton.1 q]; exact ⟨hp, hq⟩
              case measure => simp [intOf]; omega
            · go_simp
              have bN := Bl.new D [.int .i64 E.a, .int .i64 E.n, .int .i64 E.pe, .slice pa E.p.length px, .int .i64 E.pr, .slice qa E.c.length qx, .int .i64 E.bw] EI D.heap.size rfl
              have N1 : Below D.heap.size D (D.alloc (.cells #[.int .i64 E.a, .int .i64 E.n, .int .i64 E.pe, .slice pa E.p.length px, .int .i64 E.pr, .slice qa E.c.length qx, .int .i64 E.bw] EI)) := (Below.refl _ _).alloc (Nat.le_refl _) _
              refine hK.out _ _ (hSD.next N1) (fun hHeld => ?_)
              clear hK K hHeld
              try simp only [Act.put, List.setIfInBounds_toArray, List.set_cons_zero, List.set_cons_succ]
              refine wpAnyH_ready (rs := [1]) (by kernel_rfl) (by simp) ?_
              refine (AllReadyH.cons rfl (fun K hK => ?_) AllReadyH.nil)
              have q := ((bO1.keep OD).keep N1).c 0 rfl
              go_simp
              refine hK.out _ _ (hSD.next N1) (fun hHeld => ?_)
              clear hK K hHeld q
              try simp only [Act.put, List.setIfInBounds_toArray, List.set_cons_zero, List.set_cons_succ]
              refine wpAnyH_ready (rs := [8]) (by kernel_rfl) (by simp) ?_
              refine (AllReadyH.cons rfl (fun K hK => ?_) AllReadyH.nil)
              refine step_appE rfl (.tmp 38) (.tmp 44) rfl W1.heap.size D.heap.size 1 v2 T.length (flatT T) [.int .i64 E.a, .int .i64 E.n, .int .i64 E.pe, .slice pa E.p.length px, .int .i64 E.pr, .slice qa E.c.length qx, .int .i64 E.bw] rfl rfl (rowK (rowK hT OD) N1) bN rfl (by simp [Value.oneCell']) HL.out (Nat.le_trans hWD N1.size) ?_
              intro v3 w3 hrow hg hor
              have hB3 : Below w.heap.size w w3 := below_growT (below_step (below_step hB OD) N1) (rowK (rowK hT OD) N1) hwW hg
              have bO3 := ((bO1.keep OD).keep N1).grown hg (neRow (rowK (rowK hT OD) N1) hOW)
              have bR3 := ((bR1.keep OD).keep N1).grown hg (neRow (rowK (rowK hT OD) N1) hRW)
              have bA3 := ((bA1.keep OD).keep N1).grown hg (neRow (rowK (rowK hT OD) N1) hAW)
              have bX3 := ((bX1.keep OD).keep N1).grown hg (neRow (rowK (rowK hT OD) N1) hXW)
              have hs3 := Nat.le_trans hWD (Nat.le_trans N1.size hg.size)
              clear hg hor
              refine hK.out _ _ ⟨bA3, hB3⟩ (fun hHeld => ?_)
              clear hK K hHeld
              obtain ⟨x3, y3, rfl⟩ := row_slice hrow
              try simp only [Act.put, List.setIfInBounds_toArray, List.set_cons_zero, List.set_cons_succ]
              refine wpAnyH_ready (rs := [9]) (by kernel_rfl) (by simp) ?_
              refine (AllReadyH.cons rfl (fun K hK => ?_) AllReadyH.nil)
              go_simp
              refine hK.out _ _ ⟨bA3, hB3⟩ (fun hHeld => ?_)
              clear hK K hHeld
              try simp only [Act.put, List.setIfInBounds_toArray, List.set_cons_zero, List.set_cons_succ]
              refine wpAnyH_ready (rs := [10]) (by kernel_rfl) (by simp) ?_
              refine (AllReadyH.cons rfl (fun K hK => ?_) AllReadyH.nil)
              have o0 := bO3.c 0 rfl
              have of0 := bO3.f 0 rfl
              go_simp
              refine hK.out _ _ ⟨bA3.far hAO, hB3.setCell (p := ⟨O, 0, none⟩) hwO _⟩ (fun hHeld => ?_)
              clear hK K hHeld o0 of0
              try simp only [Act.put, List.setIfInBounds_toArray, List.set_cons_zero, List.set_cons_succ]
              refine wpAnyH_done (by kernel_rfl) ?_ _
              go_wp2
              go_roundw
              case rel =>
                refine ⟨k + 1, by omega, by go_num, .slice x3 (T.length + 1) y3, T ++ [⟨E, .slice pa E.p.length px, .slice qa E.c.length qx⟩], ?_, ?_, HTE.out _ rfl, bO3.set 0 _, bR3.far hRO, bA3.far hAO, bX3.far hXO, hB3.setCell (p := ⟨O, 0, none⟩) hwO _, by simpa using hs3⟩
                · rw [List.length_append, flatT_append, show flatT [(⟨E, .slice pa E.p.length px, .slice qa E.c.length qx⟩ : ET)] = cellsT ⟨E, .slice pa E.p.length px, .slice qa E.c.length qx⟩ by simp [flatT]]
                  exact rowFar hrow hOW
                · intro t ht
                  rcases List.mem_append.1 ht with q | q
                  · exact hTR t q
                  · rw [List.mem_singleton.1 q]; exact ⟨hp, hq⟩
              case measure => simp [intOf]; omega
      · have hS := putK_s HX.out HEC.out hf.symm hTE
        by_cases hr0 : r = 0
        · subst hr0
          have HF : Hid (entT T = (putK Z L (k + 1)).1 ∧ Value.bool true = .bool (putK Z L (k + 1)).2) := Lib.hid (by rw [hS]; simp)
          have HC := Lib.hid hc
          clear hS hc hTE hf hk2 HX
          go_wp2
          go_roundw
          case rel => exact ⟨k + 1, by omega, by go_num, _, T, hT, hTR, HF.out, bO1, bR1, bA1, bX1, hB, hsz⟩
          case measure => simp [intOf]; omega
        · have hfb : (r == 0) = false := by simp [hr0]
          have HTE : Hid (∀ t : ET, t.E = E → entT (T ++ [t]) = (putK Z L (k + 1)).1 ∧ Value.bool true = .bool (putK Z L (k + 1)).2) := Lib.hid fun t ht => by rw [hS, entT_append]; simp [hr0, entT, ht]
          have HC := Lib.hid hc
          clear hS hc hTE hf hk2 HX hr0
          go_wp2_with fail
          have g0 := over_cell hB (World.block_lt_of_cell? _ _ G0) G0
          have g1 := over_cell hB (World.block_lt_of_cell? _ _ G1) G1
          have g2 := over_cell hB (World.block_lt_of_cell? _ _ G2) G2
          have g3 := over_cell hB (World.block_lt_of_cell? _ _ G3) G3
          have g4 := over_cell hB (World.block_lt_of_cell? _ _ G4) G4
          have g5 := over_cell hB (World.block_lt_of_cell? _ _ G5) G5
          have g6 := over_cell hB (World.block_lt_of_cell? _ _ G6) G6
          refine wp_region_held_drew (S := fun w' => Bl w' A [.slice (some ⟨b', o, none⟩) n c] ∧ Below w.heap.size w w') (by kernel_rfl) ⟨bA1.keep (over_drew _), below_step hB (over_drew _)⟩ (fun hHeld => ?_)
          clear hHeld
          obtain ⟨D, hD⟩ : ∃ D, D = ws.drew := ⟨_, rfl⟩
          have OD : Over ws D := by rw [hD]; exact over_drew _
          rw [← hD]
          clear hD
          have hSD : KpA w A [.slice (some ⟨b', o, none⟩) n c] D := ⟨bA1.keep OD, below_step hB OD⟩
          have hWD : W1.heap.size ≤ D.heap.size := Nat.le_trans hsz OD.size
          clear g0 g1 g2 g3 g4 g5 g6
          refine wpAnyH_take (i := 0) (v := ?_) rfl (by kernel_rfl) (by kernel_rfl) (by kernel_rfl) (fun _ _ _ h => h) (Or.inl ⟨by rfl, ?_⟩) hSD ?_
          rotate_left
          · intro wq hSq
            (try dsimp only at hSq)

            go_simp
            try rfl
          change wpAnyH _ _ _ _ _ _ _ (Act.put _ (some 37) _) _
          simp only [Act.put, List.setIfInBounds_toArray, List.set_cons_succ, List.set_cons_zero]
          refine wpAnyH_take (i := 2) (v := ?_) rfl (by kernel_rfl) (by kernel_rfl) (by kernel_rfl) (fun _ _ _ h => h) (Or.inl ⟨by rfl, ?_⟩) hSD ?_
          rotate_left
          · intro wq hSq
            (try dsimp only at hSq)

            go_simp
            try rfl
          change wpAnyH _ _ _ _ _ _ _ (Act.put _ (some 39) _) _
          simp only [Act.put, List.setIfInBounds_toArray, List.set_cons_succ, List.set_cons_zero]
          refine wpAnyH_take (i := 3) (v := ?_) rfl (by kernel_rfl) (by kernel_rfl) (by kernel_rfl) (fun _ _ _ h => h) (Or.inl ⟨by rfl, ?_⟩) hSD ?_
          rotate_left
          · intro wq hSq
            (try dsimp only at hSq)
            have q0 := hSq.1.c 0 rfl
            go_simp
            try rfl
          change wpAnyH _ _ _ _ _ _ _ (Act.put _ (some 40) _) _
          simp only [Act.put, List.setIfInBounds_toArray, List.set_cons_succ, List.set_cons_zero]
          refine wpAnyH_take (i := 4) (v := ?_) rfl (by kernel_rfl) (by kernel_rfl) (by kernel_rfl) (fun _ _ _ h => h) (Or.inl ⟨by rfl, ?_⟩) hSD ?_
          rotate_left
          · intro wq hSq
            (try dsimp only at hSq)

            go_simp
            try rfl
          change wpAnyH _ _ _ _ _ _ _ (Act.put _ (some 41) _) _
          simp only [Act.put, List.setIfInBounds_toArray, List.set_cons_succ, List.set_cons_zero]
          refine wpAnyH_take (i := 5) (v := ?_) rfl (by kernel_rfl) (by kernel_rfl) (by kernel_rfl) (fun _ _ _ h => h) (Or.inl ⟨by rfl, ?_⟩) hSD ?_
          rotate_left
          · intro wq hSq
            (try dsimp only at hSq)

            go_simp
            try rfl
          change wpAnyH _ _ _ _ _ _ _ (Act.put _ (some 42) _) _
          simp only [Act.put, List.setIfInBounds_toArray, List.set_cons_succ, List.set_cons_zero]
          refine wpAnyH_take (i := 6) (v := ?_) rfl (by kernel_rfl) (by kernel_rfl) (by kernel_rfl) (fun _ _ _ h => h) (Or.inl ⟨by rfl, ?_⟩) hSD ?_
          rotate_left
          · intro wq hSq
            (try dsimp only at hSq)
            have q0 := over_cell hSq.2 (World.block_lt_of_cell? _ _ G0) G0
            have q1 := over_cell hSq.2 (World.block_lt_of_cell? _ _ G1) G1
            have q2 := over_cell hSq.2 (World.block_lt_of_cell? _ _ G2) G2
            have q3 := over_cell hSq.2 (World.block_lt_of_cell? _ _ G3) G3
            have q4 := over_cell hSq.2 (World.block_lt_of_cell? _ _ G4) G4
            have q5 := over_cell hSq.2 (World.block_lt_of_cell? _ _ G5) G5
            have q6 := over_cell hSq.2 (World.block_lt_of_cell? _ _ G6) G6
            go_simp
            try rfl
          change wpAnyH _ _ _ _ _ _ _ (Act.put _ (some 43) _) _
          simp only [Act.put, List.setIfInBounds_toArray, List.set_cons_succ, List.set_cons_zero]
          refine wpAnyH_ready (rs := [1, 7]) (by kernel_rfl) (by simp) ?_
          refine (AllReadyH.cons rfl (fun K hK => ?_) (AllReadyH.cons rfl (fun K hK => ?_) AllReadyH.nil))
          · have q := (bO1.keep OD).c 0 rfl
            go_simp
            refine hK.out _ _ hSD (fun hHeld => ?_)
            clear hK K hHeld q
            try simp only [Act.put, List.setIfInBounds_toArray, List.set_cons_zero, List.set_cons_succ]
            refine wpAnyH_ready (rs := [7]) (by kernel_rfl) (by simp) ?_
            refine (AllReadyH.cons rfl (fun K hK => ?_) AllReadyH.nil)
            go_simp
            have bN := Bl.new D [.int .i64 E.a, .int .i64 E.n, .int .i64 E.pe, .slice pa E.p.length px, .int .i64 E.pr, .slice qa E.c.length qx, .int .i64 E.bw] EI D.heap.size rfl
            have N1 : Below D.heap.size D (D.alloc (.cells #[.int .i64 E.a, .int .i64 E.n, .int .i64 E.pe, .slice pa E.p.length px, .int .i64 E.pr, .slice qa E.c.length qx, .int .i64 E.bw] EI)) := (Below.refl _ _).alloc (Nat.le_refl _) _
            refine hK.out _ _ (hSD.next N1) (fun hHeld => ?_)
            clear hK K hHeld
            try simp only [Act.put, List.setIfInBounds_toArray, List.set_cons_zero, List.set_cons_succ]
            refine wpAnyH_ready (rs := [8]) (by kernel_rfl) (by simp) ?_
            refine (AllReadyH.cons rfl (fun K hK => ?_) AllReadyH.nil)
            refine step_appE rfl (.tmp 38) (.tmp 44) rfl W1.heap.size D.heap.size 1 v2 T.length (flatT T) [.int .i64 E.a, .int .i64 E.n, .int .i64 E.pe, .slice pa E.p.length px, .int .i64 E.pr, .slice qa E.c.length qx, .int .i64 E.bw] rfl rfl (rowK (rowK hT OD) N1) bN rfl (by simp [Value.oneCell']) HL.out (Nat.le_trans hWD N1.size) ?_
            intro v3 w3 hrow hg hor
            have hB3 : Below w.heap.size w w3 := below_growT (below_step (below_step hB OD) N1) (rowK (rowK hT OD) N1) hwW hg
            have bO3 := ((bO1.keep OD).keep N1).grown hg (neRow (rowK (rowK hT OD) N1) hOW)
            have bR3 := ((bR1.keep OD).keep N1).grown hg (neRow (rowK (rowK hT OD) N1) hRW)
            have bA3 := ((bA1.keep OD).keep N1).grown hg (neRow (rowK (rowK hT OD) N1) hAW)
            have bX3 := ((bX1.keep OD).keep N1).grown hg (neRow (rowK (rowK hT OD) N1) hXW)
            have hs3 := Nat.le_trans hWD (Nat.le_trans N1.size hg.size)
            clear hg hor
            refine hK.out _ _ ⟨bA3, hB3⟩ (fun hHeld => ?_)
            clear hK K hHeld
            obtain ⟨x3, y3, rfl⟩ := row_slice hrow
            try simp only [Act.put, List.setIfInBounds_toArray, List.set_cons_zero, List.set_cons_succ]
            refine wpAnyH_ready (rs := [9]) (by kernel_rfl) (by simp) ?_
            refine (AllReadyH.cons rfl (fun K hK => ?_) AllReadyH.nil)
            go_simp
            refine hK.out _ _ ⟨bA3, hB3⟩ (fun hHeld => ?_)
            clear hK K hHeld
            try simp only [Act.put, List.setIfInBounds_toArray, List.set_cons_zero, List.set_cons_succ]
            refine wpAnyH_ready (rs := [10]) (by kernel_rfl) (by simp) ?_
            refine (AllReadyH.cons rfl (fun K hK => ?_) AllReadyH.nil)
            have o0 := bO3.c 0 rfl
            have of0 := bO3.f 0 rfl
            go_simp
            refine hK.out _ _ ⟨bA3.far hAO, hB3.setCell (p := ⟨O, 0, none⟩) hwO _⟩ (fun hHeld => ?_)
            clear hK K hHeld o0 of0
            try simp only [Act.put, List.setIfInBounds_toArray, List.set_cons_zero, List.set_cons_succ]
            refine wpAnyH_done (by kernel_rfl) ?_ _
            go_wp2
            go_roundw
            case rel =>
              refine ⟨k + 1, by omega, by go_num, .slice x3 (T.length + 1) y3, T ++ [⟨E, .slice pa E.p.length px, .slice qa E.c.length qx⟩], ?_, ?_, HTE.out _ rfl, bO3.set 0 _, bR3.far hRO, bA3.far hAO, bX3.far hXO, hB3.setCell (p := ⟨O, 0, none⟩) hwO _, by simpa using hs3⟩
              · rw [List.length_append, flatT_append, show flatT [(⟨E, .slice pa E.p.length px, .slice qa E.c.length qx⟩ : ET)] = cellsT ⟨E, .slice pa E.p.length px, .slice qa E.c.length qx⟩ by simp [flatT]]
                exact rowFar hrow hOW
              · intro t ht
                rcases List.mem_append.1 ht with q | q
                · exact hTR t q
                · rw [List.mem_singleton.1 q]; exact ⟨hp, hq⟩
            case measure => simp [intOf]; omega
          · go_simp
            have bN := Bl.new D [.int .i64 E.a, .int .i64 E.n, .int .i64 E.pe, .slice pa E.p.length px, .int .i64 E.pr, .slice qa E.c.length qx, .int .i64 E.bw] EI D.heap.size rfl
            have N1 : Below D.heap.size D (D.alloc (.cells #[.int .i64 E.a, .int .i64 E.n, .int .i64 E.pe, .slice pa E.p.length px, .int .i64 E.pr, .slice qa E.c.length qx, .int .i64 E.bw] EI)) := (Below.refl _ _).alloc (Nat.le_refl _) _
            refine hK.out _ _ (hSD.next N1) (fun hHeld => ?_)
            clear hK K hHeld
            try simp only [Act.put, List.setIfInBounds_toArray, List.set_cons_zero, List.set_cons_succ]
            refine wpAnyH_ready (rs := [1]) (by kernel_rfl) (by simp) ?_
            refine (AllReadyH.cons rfl (fun K hK => ?_) AllReadyH.nil)
            have q := ((bO1.keep OD).keep N1).c 0 rfl
            go_simp
            refine hK.out _ _ (hSD.next N1) (fun hHeld => ?_)
            clear hK K hHeld q
            try simp only [Act.put, List.setIfInBounds_toArray, List.set_cons_zero, List.set_cons_succ]
            refine wpAnyH_ready (rs := [8]) (by kernel_rfl) (by simp) ?_
            refine (AllReadyH.cons rfl (fun K hK => ?_) AllReadyH.nil)
            refine step_appE rfl (.tmp 38) (.tmp 44) rfl W1.heap.size D.heap.size 1 v2 T.length (flatT T) [.int .i64 E.a, .int .i64 E.n, .int .i64 E.pe, .slice pa E.p.length px, .int .i64 E.pr, .slice qa E.c.length qx, .int .i64 E.bw] rfl rfl (rowK (rowK hT OD) N1) bN rfl (by simp [Value.oneCell']) HL.out (Nat.le_trans hWD N1.size) ?_
            intro v3 w3 hrow hg hor
            have hB3 : Below w.heap.size w w3 := below_growT (below_step (below_step hB OD) N1) (rowK (rowK hT OD) N1) hwW hg
            have bO3 := ((bO1.keep OD).keep N1).grown hg (neRow (rowK (rowK hT OD) N1) hOW)
            have bR3 := ((bR1.keep OD).keep N1).grown hg (neRow (rowK (rowK hT OD) N1) hRW)
            have bA3 := ((bA1.keep OD).keep N1).grown hg (neRow (rowK (rowK hT OD) N1) hAW)
            have bX3 := ((bX1.keep OD).keep N1).grown hg (neRow (rowK (rowK hT OD) N1) hXW)
            have hs3 := Nat.le_trans hWD (Nat.le_trans N1.size hg.size)
            clear hg hor
            refine hK.out _ _ ⟨bA3, hB3⟩ (fun hHeld => ?_)
            clear hK K hHeld
            obtain ⟨x3, y3, rfl⟩ := row_slice hrow
            try simp only [Act.put, List.setIfInBounds_toArray, List.set_cons_zero, List.set_cons_succ]
            refine wpAnyH_ready (rs := [9]) (by kernel_rfl) (by simp) ?_
            refine (AllReadyH.cons rfl (fun K hK => ?_) AllReadyH.nil)
            go_simp
            refine hK.out _ _ ⟨bA3, hB3⟩ (fun hHeld => ?_)
            clear hK K hHeld
            try simp only [Act.put, List.setIfInBounds_toArray, List.set_cons_zero, List.set_cons_succ]
            refine wpAnyH_ready (rs := [10]) (by kernel_rfl) (by simp) ?_
            refine (AllReadyH.cons rfl (fun K hK => ?_) AllReadyH.nil)
            have o0 := bO3.c 0 rfl
            have of0 := bO3.f 0 rfl
            go_simp
            refine hK.out _ _ ⟨bA3.far hAO, hB3.setCell (p := ⟨O, 0, none⟩) hwO _⟩ (fun hHeld => ?_)
            clear hK K hHeld o0 of0
            try simp only [Act.put, List.setIfInBounds_toArray, List.set_cons_zero, List.set_cons_succ]
            refine wpAnyH_done (by kernel_rfl) ?_ _
            go_wp2
            go_roundw
            case rel =>
              refine ⟨k + 1, by omega, by go_num, .slice x3 (T.length + 1) y3, T ++ [⟨E, .slice pa E.p.length px, .slice qa E.c.length qx⟩], ?_, ?_, HTE.out _ rfl, bO3.set 0 _, bR3.far hRO, bA3.far hAO, bX3.far hXO, hB3.setCell (p := ⟨O, 0, none⟩) hwO _, by simpa using hs3⟩
              · rw [List.length_append, flatT_append, show flatT [(⟨E, .slice pa E.p.length px, .slice qa E.c.length qx⟩ : ET)] = cellsT ⟨E, .slice pa E.p.length px, .slice qa E.c.length qx⟩ by simp [flatT]]
                exact rowFar hrow hOW
              · intro t ht
                rcases List.mem_append.1 ht with q | q
                · exact hTR t q
                · rw [List.mem_singleton.1 q]; exact ⟨hp, hq⟩
            case measure => simp [intOf]; omega
    · have hkn : k = n := by omega
      subst hkn
      clear hc
      have hk2 := putK_len Z L k
      have HL : Hid (T.length + 1 ≤ 4294967296) := Lib.hid (by have e := congrArg List.length hTE; rw [entT_len] at e; omega)
      cases b
      · have HP : Hid (∀ M : List Ent, M = entT T ++ [Z] → putL Z L = M) := Lib.hid fun M hM => by unfold putL; rw [← HN.out, hf, if_neg (by simp), hM, hTE]
        clear hTE hf hk2
        have o0 := bO1.c 0 rfl
        have p0 := bX1.c 0 rfl
        have p1 := bX1.c 1 rfl
        have p2 := bX1.c 2 rfl
        have p3 := bX1.c 3 rfl
        have p4 := bX1.c 4 rfl
        have p5 := bX1.c 5 rfl
        have p6 := bX1.c 6 rfl
        go_wp2_with (at_builtin; refine Hid.out ?_)
        refine Lib.hid ?_
        clear o0 p0 p1 p2 p3 p4 p5 p6
        have bN := Bl.new wr [.int .i64 Z.a, .int .i64 Z.n, .int .i64 Z.pe, .slice ea Z.p.length ex, .int .i64 Z.pr, .slice fa Z.c.length fx, .int .i64 Z.bw] EI wr.heap.size rfl
        have N1 : Below wr.heap.size wr (wr.alloc (.cells #[.int .i64 Z.a, .int .i64 Z.n, .int .i64 Z.pe, .slice ea Z.p.length ex, .int .i64 Z.pr, .slice fa Z.c.length fx, .int .i64 Z.bw] EI)) := (Below.refl _ _).alloc (Nat.le_refl _) _
        refine wp_appE rfl _ _ rfl W1.heap.size wr.heap.size 1 v2 T.length (flatT T) [.int .i64 Z.a, .int .i64 Z.n, .int .i64 Z.pe, .slice ea Z.p.length ex, .int .i64 Z.pr, .slice fa Z.c.length fx, .int .i64 Z.bw] rfl rfl (rowK hT N1) bN rfl (by simp [Value.oneCell']) HL.out (Nat.le_trans hsz N1.size) ?_
        intro v4 w3 hrow hg hor
        have hB3 : Below w.heap.size w w3 := below_growT (below_step hB N1) (rowK hT N1) hwW hg
        have bO3 := (bO1.keep N1).grown hg (neRow (rowK hT N1) hOW)
        have bR3 := (bR1.keep N1).grown hg (neRow (rowK hT N1) hRW)
        have bA3 := (bA1.keep N1).grown hg (neRow (rowK hT N1) hAW)
        have bX3 := (bX1.keep N1).grown hg (neRow (rowK hT N1) hXW)
        have hs3 := Nat.le_trans hsz (Nat.le_trans N1.size hg.size)
        clear hg hor bN N1 hT bO1 bR1 bA1 bX1 hB hsz
        obtain ⟨x3, y3, rfl⟩ := row_slice hrow
        have o0 := bO3.c 0 rfl
        have of0 := bO3.f 0 rfl
        have hT := rowFar (o := 0) (u := .slice x3 (T.length + 1) y3) hrow hOW
        have bO1 := bO3.set 0 (.slice x3 (T.length + 1) y3)
        have bR1 := bR3.far (o := 0) (u := .slice x3 (T.length + 1) y3) hRO
        have bA1 := bA3.far (o := 0) (u := .slice x3 (T.length + 1) y3) hAO
        have bX1 := bX3.far (o := 0) (u := .slice x3 (T.length + 1) y3) hXO
        have hB := hB3.setCell (p := ⟨O, 0, none⟩) hwO (.slice x3 (T.length + 1) y3)
        have hsz : W1.heap.size ≤ (w3.setCell ⟨O, 0, none⟩ (.slice x3 (T.length + 1) y3)).heap.size := by simpa using hs3
        obtain ⟨T2, eT2⟩ : ∃ S, S = T ++ [(⟨Z, .slice ea Z.p.length ex, .slice fa Z.c.length fx⟩ : ET)] := ⟨_, rfl⟩
        have lT2 : T2.length = T.length + 1 := by rw [eT2]; simp
        have fT2 : flatT T2 = flatT T ++ [.int .i64 Z.a, .int .i64 Z.n, .int .i64 Z.pe, .slice ea Z.p.length ex, .int .i64 Z.pr, .slice fa Z.c.length fx, .int .i64 Z.bw] := by rw [eT2, flatT_append, flatT_one]; rfl
        rw [← fT2, ← lT2] at hT
        rw [← lT2] at bO1 bR1 bA1 bX1 hB hsz ⊢
        have hTR2 : ∀ t ∈ T2, RdI w t.u t.E.p ∧ RdI w t.v t.E.c := by
          intro t ht
          rw [eT2] at ht
          rcases List.mem_append.1 ht with q | q
          · exact hTR t q
          · rw [List.mem_singleton.1 q]; exact ⟨hZ1, hZ2⟩
        have eET2 : entT T2 = entT T ++ [Z] := by rw [eT2, entT_append]; rfl
        have LT2 := Lib.hid lT2
        clear lT2 fT2 eT2 hrow bO3 bR3 bA3 bX3 hB3 hs3 hTR
        have hTR := hTR2
        clear hTR2
        obtain ⟨W6, eW6⟩ : ∃ W, W = w3.setCell ⟨O, 0, none⟩ (.slice x3 T2.length y3) := ⟨_, rfl⟩
        clear eW6
        have q0 := bR1.c 0 rfl
        have qf0 := bR1.f 0 rfl
        have s0 := bO1.c 0 rfl
        go_wp2
        have bE := bR1.set 0 (.slice x3 T2.length y3)
        have hBe := hB.setCell (p := ⟨R, 0, none⟩) hwR (.slice x3 T2.length y3)
        have e0 := bE.c 0 rfl
        exact bodyPost_ret (v := .agg #[.slice x3 T2.length y3]) (by simp [results, Try.results59, go_sem, e0]) rfl
          ⟨_, rfl, by rw [HP.out _ eET2]; exact row_rd (rowFar hT hRW) fun t ht => ⟨(hTR t ht).1.keep hBe, (hTR t ht).2.keep hBe⟩, hBe⟩
      · have HP : Hid (putL Z L = entT T) := Lib.hid (by unfold putL; rw [← HN.out, hf, if_pos rfl, hTE])
        clear hTE hf hk2
        obtain ⟨x2, y2, rfl⟩ := row_slice hT
        have o0 := bO1.c 0 rfl
        have q0 := bR1.c 0 rfl
        have qf0 := bR1.f 0 rfl
        go_wp2
        have bE := bR1.set 0 (.slice x2 T.length y2)
        have hBe := hB.setCell (p := ⟨R, 0, none⟩) hwR (.slice x2 T.length y2)
        have e0 := bE.c 0 rfl
        exact bodyPost_ret (v := .agg #[.slice x2 T.length y2]) (by simp [results, Try.results59, go_sem, e0]) rfl
          ⟨_, rfl, by rw [HP.out]; exact row_rd (rowFar hT hRW) fun t ht => ⟨(hTR t ht).1.keep hBe, (hTR t ht).2.keep hBe⟩, hBe⟩
end Go.Proofs.Ytaiffofmhfflkaa
