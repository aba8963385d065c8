/-
  A table with an entry put into its place, of the model. Conditions: those in each contract.
  NodeNew of the program and of the model. Conditions: those in each contract.
  NodeNew of the model. Conditions: those in each contract.
-/
import Derived.Test.YtaiffofmhfflkaaEE
import Derived.Test.YtaiffofmhfflkaaF3
import Derived.Test.YtaiffofmhfflkaaZM
namespace Go.Proofs.Ytaiffofmhfflkaa
open Go.ChangeShapes Go.WideShapes Go.ChangeAt Go.RowKit Go.BigFrame Go.Joins
set_option linter.unusedVariables false
set_option maxRecDepth 100000
set_option linter.unusedSimpArgs false
set_option maxRecDepth 100000

/-- what l6put has made of the first k entries, and whether the new one is in -/
def putK (Z : Ent) (L : List Ent) : Nat → List Ent × Bool
  | 0 => ([], false)
  | k + 1 => ((if (putK Z L k).2 = false ∧ ecmp Z.a Z.n Z.pe (L.getD k e0).a (L.getD k e0).n (L.getD k e0).pe ≤ 0 then (putK Z L k).1 ++ [Z] else (putK Z L k).1) ++ (if ecmp Z.a Z.n Z.pe (L.getD k e0).a (L.getD k e0).n (L.getD k e0).pe = 0 then [] else [L.getD k e0]),
      (putK Z L k).2 || decide (ecmp Z.a Z.n Z.pe (L.getD k e0).a (L.getD k e0).n (L.getD k e0).pe ≤ 0))
def putL (Z : Ent) (L : List Ent) : List Ent := if (putK Z L L.length).2 = true then (putK Z L L.length).1 else (putK Z L L.length).1 ++ [Z]
theorem putK_s {Z : Ent} {L : List Ent} {k : Nat} {E : Ent} {r : Int} {b : Bool} {M : List Ent} (hx : L.getD k e0 = E) (hr : ecmp Z.a Z.n Z.pe E.a E.n E.pe = r) (hb : b = (putK Z L k).2) (hM : M = (putK Z L k).1) :
    putK Z L (k + 1) = ((if b = false ∧ r ≤ 0 then M ++ [Z] else M) ++ (if r = 0 then [] else [E]), b || decide (r ≤ 0)) := by
  rw [putK, hx, hr, ← hb, ← hM]
theorem putK_len (Z : Ent) (L : List Ent) : ∀ k, (putK Z L k).1.length ≤ 2 * k
  | 0 => by simp [putK]
  | k + 1 => by
    have := putK_len Z L k
    rw [putK]
    dsimp only
    split <;> split <;> simp <;> omega
theorem flatT_one (t : ET) : flatT [t] = cellsT t := by simp [flatT]
set_option maxHeartbeats 4000000 in
theorem sput_any (v : Value) (L : List Ent) (Z : Ent) (ea : Option Addr) (ex : Nat) (fa : Option Addr) (fx : Nat) (w : World) (h : RdE w v L) (hZ1 : RdI w (.slice ea Z.p.length ex) Z.p) (hZ2 : RdI w (.slice fa Z.c.length fx) Z.c) (hn1 : L.length ≤ 1048576) :
    Calls Try.prog 59 #[.agg #[v], .agg #[.int .i64 Z.a, .int .i64 Z.n, .int .i64 Z.pe, .slice ea Z.p.length ex, .int .i64 Z.pr, .slice fa Z.c.length fx, .int .i64 Z.bw]] w fun e w' => ∃ u, e = .returned (.agg #[u]) ∧ RdE w' u (putL Z L) ∧ Below w.heap.size w w' := by
  obtain ⟨a, c, rfl, hc⟩ := h.el
  have hlen := hn1
  obtain ⟨n, hn⟩ : ∃ n, n = L.length := ⟨_, rfl⟩
  rw [← hn] at hc hlen
  have HN := Lib.hid hn
  rw [← hn]
  clear h hn
  obtain ⟨bA, bX, B1, z1⟩ := two w [.slice a n c] [.int .i64 Z.a, .int .i64 Z.n, .int .i64 Z.pe, .slice ea Z.p.length ex, .int .i64 Z.pr, .slice fa Z.c.length fx, .int .i64 Z.bw] 33 EI
  obtain ⟨bR, bO, B2, z2⟩ := two ((w.alloc (.cells #[.slice a n c] 33)).alloc (.cells #[.int .i64 Z.a, .int .i64 Z.n, .int .i64 Z.pe, .slice ea Z.p.length ex, .int .i64 Z.pr, .slice fa Z.c.length fx, .int .i64 Z.bw] EI)) [.slice none 0 0] [.slice none 0 0] 33 33
  rw [z1] at bR bO z2
  replace bA := bA.keep B2
  replace bX := bX.keep B2
  have B0 := below_step B1 B2
  clear B1 B2 z1
  have a0 := bA.c 0 rfl
  go_enter Try.func59, Try.ntmps59
  go_wp2
  clear a0
  obtain ⟨W1, hW⟩ : ∃ W1, W1 = (((w.alloc (.cells #[.slice a n c] 33)).alloc (.cells #[.int .i64 Z.a, .int .i64 Z.n, .int .i64 Z.pe, .slice ea Z.p.length ex, .int .i64 Z.pr, .slice fa Z.c.length fx, .int .i64 Z.bw] EI)).alloc (.cells #[.slice none 0 0] 33)).alloc (.cells #[.slice none 0 0] 33) := ⟨_, rfl⟩
  rw [← hW] at bA bX bR bO B0 z2 ⊢
  obtain ⟨A, hA⟩ : ∃ A, A = w.heap.size := ⟨_, rfl⟩
  obtain ⟨Q, hQ⟩ : ∃ Q, Q = w.heap.size + 1 := ⟨_, rfl⟩
  obtain ⟨R, hR⟩ : ∃ R, R = w.heap.size + 2 := ⟨_, rfl⟩
  obtain ⟨O, hO⟩ : ∃ O, O = w.heap.size + 2 + 1 := ⟨_, rfl⟩
  rw [← hA] at bA
  rw [← hQ] at bX
  rw [← hR] at bR
  rw [← hO] at bO
  try rw [show w.heap.size + 1 + 1 + 1 = O by omega]
  try rw [show w.heap.size + 1 + 1 = R by omega]
  try rw [← hO]
  try rw [← hR]
  try rw [← hQ]
  try rw [← hA]
  have hwR : w.heap.size ≤ R := by omega
  have hwO : w.heap.size ≤ O := by omega
  have hAO : A ≠ O := by omega
  have hXO : Q ≠ O := by omega
  have hRO : R ≠ O := by omega
  have hAW : A < W1.heap.size := by rw [z2]; omega
  have hXW : Q < W1.heap.size := by rw [z2]; omega
  have hRW : R < W1.heap.size := by rw [z2]; omega
  have hOW : O < W1.heap.size := by rw [z2]; omega
  have hwW : w.heap.size ≤ W1.heap.size := B0.size
  clear hA hQ hR hO hW z2
  go_loopw [6, 7] (fun f q wr => ∃ k : Nat, k ≤ n ∧ q = .int .i64 k ∧ ∃ (v2 : Value) (T : List ET), wr.ownsRow W1.heap.size EI 7 v2 T.length (flatT T) ∧ (∀ t ∈ T, RdI w t.u t.E.p ∧ RdI w t.v t.E.c) ∧ (entT T = (putK Z L k).1 ∧ f = .bool (putK Z L k).2) ∧ Bl wr O [v2] ∧ Bl wr R [.slice none 0 0] ∧ Bl wr A [.slice a n c] ∧ Bl wr Q [.int .i64 Z.a, .int .i64 Z.n, .int .i64 Z.pe, .slice ea Z.p.length ex, .int .i64 Z.pr, .slice fa Z.c.length fx, .int .i64 Z.bw] ∧ Below w.heap.size w wr ∧ W1.heap.size ≤ wr.heap.size) (fun _ q _ => n - (intOf q).toNat)
  case atStart => exact ⟨0, Nat.zero_le _, rfl, _, [], World.ownsRow_nil _ _ _ _, by simp, ⟨rfl, rfl⟩, bO, bR, bA, bX, B0, Nat.le_refl _⟩
  case round =>
    obtain ⟨k, hk, rfl, v2, T, hT, hTR, ⟨hTE, hf⟩, bO1, bR1, bA1, bX1, hB, hsz⟩ := hrel
    have r0 := bA1.c 0 rfl
    obtain ⟨b, hb⟩ : ∃ b, (putK Z L k).2 = b := ⟨_, rfl⟩
    rw [hb] at hf
    subst hf
    have hf := hb
    clear hb
    by_cases hlt : k < n
    · have hltI : (k : Int) < (n : Int) := by omega
      obtain ⟨b', o, rfl, hE⟩ := hc k hlt
      obtain ⟨E, hx⟩ : ∃ E, L.getD k e0 = E := ⟨_, rfl⟩
      rw [hx] at hE
      obtain ⟨pv, cv, hp, hq, G0, G1, G2, G3, G4, G5, G6⟩ := hE
      obtain ⟨pa, px, rfl⟩ := hp.len
      obtain ⟨qa, qx, rfl⟩ := hq.len
      obtain ⟨r, hr⟩ : ∃ r, ecmp Z.a Z.n Z.pe E.a E.n E.pe = r := ⟨_, rfl⟩
      have HEC := Lib.hid hr
      have HX := Lib.hid hx
      clear hr hx
      go_wp2_with fail
      refine wp_region_held_drew (S := fun w' => Bl w' Q [.int .i64 Z.a, .int .i64 Z.n, .int .i64 Z.pe, .slice ea Z.p.length ex, .int .i64 Z.pr, .slice fa Z.c.length fx, .int .i64 Z.bw] ∧ KpA w A [.slice (some ⟨b', o, none⟩) n c] w') (by kernel_rfl) ⟨bX1.keep (over_drew _), bA1.keep (over_drew _), below_step hB (over_drew _)⟩ (fun hHeld => ?_)
      clear hHeld
      obtain ⟨D, hD⟩ : ∃ D, D = wr.drew := ⟨_, rfl⟩
      have OD : Over wr D := by rw [hD]; exact over_drew _
      rw [← hD]
      clear hD
      have hSD : Bl D Q [.int .i64 Z.a, .int .i64 Z.n, .int .i64 Z.pe, .slice ea Z.p.length ex, .int .i64 Z.pr, .slice fa Z.c.length fx, .int .i64 Z.bw] ∧ KpA w A [.slice (some ⟨b', o, none⟩) n c] D := ⟨bX1.keep OD, bA1.keep OD, below_step hB OD⟩
      refine wpAnyH_take (i := 0) (v := ?_) rfl (by kernel_rfl) (by kernel_rfl) (by kernel_rfl) (fun _ _ _ h => h) (Or.inl ⟨by rfl, ?_⟩) hSD ?_
      rotate_left
      · intro wq hSq
        (try dsimp only at hSq)
        have q0 := hSq.1.c 0 rfl
        have q1 := hSq.1.c 1 rfl
        have q2 := hSq.1.c 2 rfl
        have q3 := hSq.1.c 3 rfl
        have q4 := hSq.1.c 4 rfl
        have q5 := hSq.1.c 5 rfl
        have q6 := hSq.1.c 6 rfl
        go_simp
        try rfl
      change wpAnyH _ _ _ _ _ _ _ (Act.put _ (some 16) _) _
      simp only [Act.put, List.setIfInBounds_toArray, List.set_cons_succ, List.set_cons_zero]
      refine wpAnyH_take (i := 1) (v := ?_) rfl (by kernel_rfl) (by kernel_rfl) (by kernel_rfl) (fun _ _ _ h => h) (Or.inl ⟨by rfl, ?_⟩) hSD ?_
      rotate_left
      · intro wq hSq
        (try dsimp only at hSq)

        go_simp
        try rfl
      change wpAnyH _ _ _ _ _ _ _ (Act.put _ (some 17) _) _
      simp only [Act.put, List.setIfInBounds_toArray, List.set_cons_succ, List.set_cons_zero]
      refine wpAnyH_take (i := 2) (v := ?_) rfl (by kernel_rfl) (by kernel_rfl) (by kernel_rfl) (fun _ _ _ h => h) (Or.inl ⟨by rfl, ?_⟩) hSD ?_
      rotate_left
      · intro wq hSq
        (try dsimp only at hSq)
        have q0 := hSq.2.1.c 0 rfl
        go_simp
        try rfl
      change wpAnyH _ _ _ _ _ _ _ (Act.put _ (some 18) _) _
      simp only [Act.put, List.setIfInBounds_toArray, List.set_cons_succ, List.set_cons_zero]
      refine wpAnyH_take (i := 3) (v := ?_) rfl (by kernel_rfl) (by kernel_rfl) (by kernel_rfl) (fun _ _ _ h => h) (Or.inl ⟨by rfl, ?_⟩) hSD ?_
      rotate_left
      · intro wq hSq
        (try dsimp only at hSq)

        go_simp
        try rfl
      change wpAnyH _ _ _ _ _ _ _ (Act.put _ (some 19) _) _
      simp only [Act.put, List.setIfInBounds_toArray, List.set_cons_succ, List.set_cons_zero]
      refine wpAnyH_take (i := 4) (v := ?_) rfl (by kernel_rfl) (by kernel_rfl) (by kernel_rfl) (fun _ _ _ h => h) (Or.inl ⟨by rfl, ?_⟩) hSD ?_
      rotate_left
      · intro wq hSq
        (try dsimp only at hSq)

        go_simp
        try rfl
      change wpAnyH _ _ _ _ _ _ _ (Act.put _ (some 20) _) _
      simp only [Act.put, List.setIfInBounds_toArray, List.set_cons_succ, List.set_cons_zero]
      refine wpAnyH_take (i := 5) (v := ?_) rfl (by kernel_rfl) (by kernel_rfl) (by kernel_rfl) (fun _ _ _ h => h) (Or.inl ⟨by rfl, ?_⟩) hSD ?_
      rotate_left
      · intro wq hSq
        (try dsimp only at hSq)
        have q0 := over_cell hSq.2.2 (World.block_lt_of_cell? _ _ G0) G0
        have q1 := over_cell hSq.2.2 (World.block_lt_of_cell? _ _ G1) G1
        have q2 := over_cell hSq.2.2 (World.block_lt_of_cell? _ _ G2) G2
        have q3 := over_cell hSq.2.2 (World.block_lt_of_cell? _ _ G3) G3
        have q4 := over_cell hSq.2.2 (World.block_lt_of_cell? _ _ G4) G4
        have q5 := over_cell hSq.2.2 (World.block_lt_of_cell? _ _ G5) G5
        have q6 := over_cell hSq.2.2 (World.block_lt_of_cell? _ _ G6) G6
        go_simp
        try rfl
      change wpAnyH _ _ _ _ _ _ _ (Act.put _ (some 21) _) _
      simp only [Act.put, List.setIfInBounds_toArray, List.set_cons_succ, List.set_cons_zero]
      refine wpAnyH_ready (rs := [6]) (by kernel_rfl) (by simp) ?_
      refine (AllReadyH.cons rfl (fun K hK => ?_) AllReadyH.nil)
      go_simp
      refine (scmp6_t _ HEC).mono ?_
      rintro e ws ⟨rfl, hb⟩
      have OS : Over wr ws := over_step OD hb
      replace hB := below_step hB OS
      replace hT := rowK hT OS
      replace bO1 := bO1.keep OS
      replace bR1 := bR1.keep OS
      replace bA1 := bA1.keep OS
      replace bX1 := bX1.keep OS
      replace hsz := Nat.le_trans hsz OS.size
      refine hK.out _ _ ⟨bX1, bA1, hB⟩ (fun hHeld => ?_)
      clear hK K hHeld hSD hb OS OD
      try simp only [Act.put, List.setIfInBounds_toArray, List.set_cons_zero, List.set_cons_succ]
      refine wpAnyH_ready (rs := [7]) (by kernel_rfl) (by simp) ?_
      refine (AllReadyH.cons rfl (fun K hK => ?_) AllReadyH.nil)
      go_simp
      refine hK.out _ _ ⟨bX1, bA1, hB⟩ (fun hHeld => ?_)
      clear hK K hHeld
      try simp only [Act.put, List.setIfInBounds_toArray, List.set_cons_zero, List.set_cons_succ]
      refine wpAnyH_done (by kernel_rfl) ?_ _
      clear r0
      have hk2 := putK_len Z L k
      have HL3 : Hid (T.length + 2 ≤ 4294967296) := Lib.hid (by have e := congrArg List.length hTE; rw [entT_len] at e; omega)
      have HL : Hid (T.length + 1 ≤ 4294967296) := Lib.hid (by have e := congrArg List.length hTE; rw [entT_len] at e; omega)
      cases b
      · have hS := putK_s HX.out HEC.out hf.symm hTE
        by_cases hr0 : r = 0
        · subst hr0
          have HF : Hid (∀ M : List Ent, M = entT T ++ [Z] → M = (putK Z L (k + 1)).1 ∧ Value.bool true = .bool (putK Z L (k + 1)).2) := Lib.hid fun M hM => by rw [hS, hM]; simp
          have HC := Lib.hid hc
          clear hS hc hTE hf hk2 HX
          have o0 := bO1.c 0 rfl
          have p0 := bX1.c 0 rfl
          have p1 := bX1.c 1 rfl
          have p2 := bX1.c 2 rfl
          have p3 := bX1.c 3 rfl
          have p4 := bX1.c 4 rfl
          have p5 := bX1.c 5 rfl
          have p6 := bX1.c 6 rfl
          go_wp2_with (at_builtin; refine Hid.out ?_)
          refine Lib.hid ?_
          clear o0 p0 p1 p2 p3 p4 p5 p6
          have bN := Bl.new ws [.int .i64 Z.a, .int .i64 Z.n, .int .i64 Z.pe, .slice ea Z.p.length ex, .int .i64 Z.pr, .slice fa Z.c.length fx, .int .i64 Z.bw] EI ws.heap.size rfl
          have N1 : Below ws.heap.size ws (ws.alloc (.cells #[.int .i64 Z.a, .int .i64 Z.n, .int .i64 Z.pe, .slice ea Z.p.length ex, .int .i64 Z.pr, .slice fa Z.c.length fx, .int .i64 Z.bw] EI)) := (Below.refl _ _).alloc (Nat.le_refl _) _
          refine wp_appE rfl _ _ rfl W1.heap.size ws.heap.size 1 v2 T.length (flatT T) [.int .i64 Z.a, .int .i64 Z.n, .int .i64 Z.pe, .slice ea Z.p.length ex, .int .i64 Z.pr, .slice fa Z.c.length fx, .int .i64 Z.bw] rfl rfl (rowK hT N1) bN rfl (by simp [Value.oneCell']) HL.out (Nat.le_trans hsz N1.size) ?_
          intro v4 w3 hrow hg hor
          have hB3 : Below w.heap.size w w3 := below_growT (below_step hB N1) (rowK hT N1) hwW hg
          have bO3 := (bO1.keep N1).grown hg (neRow (rowK hT N1) hOW)
          have bR3 := (bR1.keep N1).grown hg (neRow (rowK hT N1) hRW)
          have bA3 := (bA1.keep N1).grown hg (neRow (rowK hT N1) hAW)
          have bX3 := (bX1.keep N1).grown hg (neRow (rowK hT N1) hXW)
          have hs3 := Nat.le_trans hsz (Nat.le_trans N1.size hg.size)
          clear hg hor bN N1 hT bO1 bR1 bA1 bX1 hB hsz
          obtain ⟨x3, y3, rfl⟩ := row_slice hrow
          have o0 := bO3.c 0 rfl
          have of0 := bO3.f 0 rfl
          have hT := rowFar (o := 0) (u := .slice x3 (T.length + 1) y3) hrow hOW
          have bO1 := bO3.set 0 (.slice x3 (T.length + 1) y3)
          have bR1 := bR3.far (o := 0) (u := .slice x3 (T.length + 1) y3) hRO
          have bA1 := bA3.far (o := 0) (u := .slice x3 (T.length + 1) y3) hAO
          have bX1 := bX3.far (o := 0) (u := .slice x3 (T.length + 1) y3) hXO
          have hB := hB3.setCell (p := ⟨O, 0, none⟩) hwO (.slice x3 (T.length + 1) y3)
          have hsz : W1.heap.size ≤ (w3.setCell ⟨O, 0, none⟩ (.slice x3 (T.length + 1) y3)).heap.size := by simpa using hs3
          obtain ⟨T2, eT2⟩ : ∃ S, S = T ++ [(⟨Z, .slice ea Z.p.length ex, .slice fa Z.c.length fx⟩ : ET)] := ⟨_, rfl⟩
          have lT2 : T2.length = T.length + 1 := by rw [eT2]; simp
          have fT2 : flatT T2 = flatT T ++ [.int .i64 Z.a, .int .i64 Z.n, .int .i64 Z.pe, .slice ea Z.p.length ex, .int .i64 Z.pr, .slice fa Z.c.length fx, .int .i64 Z.bw] := by rw [eT2, flatT_append, flatT_one]; rfl
          rw [← fT2, ← lT2] at hT
          rw [← lT2] at bO1 bR1 bA1 bX1 hB hsz ⊢
          have hTR2 : ∀ t ∈ T2, RdI w t.u t.E.p ∧ RdI w t.v t.E.c := by
            intro t ht
            rw [eT2] at ht
            rcases List.mem_append.1 ht with q | q
            · exact hTR t q
            · rw [List.mem_singleton.1 q]; exact ⟨hZ1, hZ2⟩
          have eET2 : entT T2 = entT T ++ [Z] := by rw [eT2, entT_append]; rfl
          have LT2 := Lib.hid lT2
          clear lT2 fT2 eT2 hrow bO3 bR3 bA3 bX3 hB3 hs3 hTR
          have hTR := hTR2
          clear hTR2
          obtain ⟨W6, eW6⟩ : ∃ W, W = w3.setCell ⟨O, 0, none⟩ (.slice x3 T2.length y3) := ⟨_, rfl⟩
          go_wp2
          try rw [← eW6] at hT bO1 bR1 bA1 bX1 hB hsz
          try rw [← eW6]
          go_roundw
          case rel => exact ⟨k + 1, by omega, by go_num, _, T2, hT, hTR, HF.out _ eET2, bO1, bR1, bA1, bX1, hB, hsz⟩
          case measure => simp [intOf]; omega
        · by_cases hrn : r < 0
          · have hle : r ≤ 0 := by omega
            have hfb : (r == 0) = false := by simp [hr0]
            have HF : Hid (∀ M : List Ent, M = entT T ++ [Z] → ∀ t : ET, t.E = E → M ++ [t.E] = (putK Z L (k + 1)).1 ∧ Value.bool true = .bool (putK Z L (k + 1)).2) := Lib.hid fun M hM t ht => by rw [hS, hM, ht]; simp [hr0, hle]
            have HC := Lib.hid hc
            clear hS hc hTE hf hk2 HX hr0 hrn
            have o0 := bO1.c 0 rfl
            have p0 := bX1.c 0 rfl
            have p1 := bX1.c 1 rfl
            have p2 := bX1.c 2 rfl
            have p3 := bX1.c 3 rfl
            have p4 := bX1.c 4 rfl
            have p5 := bX1.c 5 rfl
            have p6 := bX1.c 6 rfl
            go_wp2_with (at_builtin; refine Hid.out ?_)
            refine Lib.hid ?_
            clear o0 p0 p1 p2 p3 p4 p5 p6
            have bN := Bl.new ws [.int .i64 Z.a, .int .i64 Z.n, .int .i64 Z.pe, .slice ea Z.p.length ex, .int .i64 Z.pr, .slice fa Z.c.length fx, .int .i64 Z.bw] EI ws.heap.size rfl
            have N1 : Below ws.heap.size ws (ws.alloc (.cells #[.int .i64 Z.a, .int .i64 Z.n, .int .i64 Z.pe, .slice ea Z.p.length ex, .int .i64 Z.pr, .slice fa Z.c.length fx, .int .i64 Z.bw] EI)) := (Below.refl _ _).alloc (Nat.le_refl _) _
            refine wp_appE rfl _ _ rfl W1.heap.size ws.heap.size 1 v2 T.length (flatT T) [.int .i64 Z.a, .int .i64 Z.n, .int .i64 Z.pe, .slice ea Z.p.length ex, .int .i64 Z.pr, .slice fa Z.c.length fx, .int .i64 Z.bw] rfl rfl (rowK hT N1) bN rfl (by simp [Value.oneCell']) HL.out (Nat.le_trans hsz N1.size) ?_
            intro v4 w3 hrow hg hor
            have hB3 : Below w.heap.size w w3 := below_growT (below_step hB N1) (rowK hT N1) hwW hg
            have bO3 := (bO1.keep N1).grown hg (neRow (rowK hT N1) hOW)
            have bR3 := (bR1.keep N1).grown hg (neRow (rowK hT N1) hRW)
            have bA3 := (bA1.keep N1).grown hg (neRow (rowK hT N1) hAW)
            have bX3 := (bX1.keep N1).grown hg (neRow (rowK hT N1) hXW)
            have hs3 := Nat.le_trans hsz (Nat.le_trans N1.size hg.size)
            clear hg hor bN N1 hT bO1 bR1 bA1 bX1 hB hsz
            obtain ⟨x3, y3, rfl⟩ := row_slice hrow
            have o0 := bO3.c 0 rfl
            have of0 := bO3.f 0 rfl
            have hT := rowFar (o := 0) (u := .slice x3 (T.length + 1) y3) hrow hOW
            have bO1 := bO3.set 0 (.slice x3 (T.length + 1) y3)
            have bR1 := bR3.far (o := 0) (u := .slice x3 (T.length + 1) y3) hRO
            have bA1 := bA3.far (o := 0) (u := .slice x3 (T.length + 1) y3) hAO
            have bX1 := bX3.far (o := 0) (u := .slice x3 (T.length + 1) y3) hXO
            have hB := hB3.setCell (p := ⟨O, 0, none⟩) hwO (.slice x3 (T.length + 1) y3)
            have hsz : W1.heap.size ≤ (w3.setCell ⟨O, 0, none⟩ (.slice x3 (T.length + 1) y3)).heap.size := by simpa using hs3
            obtain ⟨T2, eT2⟩ : ∃ S, S = T ++ [(⟨Z, .slice ea Z.p.length ex, .slice fa Z.c.length fx⟩ : ET)] := ⟨_, rfl⟩
            have lT2 : T2.length = T.length + 1 := by rw [eT2]; simp
            have fT2 : flatT T2 = flatT T ++ [.int .i64 Z.a, .int .i64 Z.n, .int .i64 Z.pe, .slice ea Z.p.length ex, .int .i64 Z.pr, .slice fa Z.c.length fx, .int .i64 Z.bw] := by rw [eT2, flatT_append, flatT_one]; rfl
            rw [← fT2, ← lT2] at hT
            rw [← lT2] at bO1 bR1 bA1 bX1 hB hsz ⊢
            have hTR2 : ∀ t ∈ T2, RdI w t.u t.E.p ∧ RdI w t.v t.E.c := by
              intro t ht
              rw [eT2] at ht
              rcases List.mem_append.1 ht with q | q
              · exact hTR t q
              · rw [List.mem_singleton.1 q]; exact ⟨hZ1, hZ2⟩
            have eET2 : entT T2 = entT T ++ [Z] := by rw [eT2, entT_append]; rfl
            have LT2 := Lib.hid lT2
            clear lT2 fT2 eT2 hrow bO3 bR3 bA3 bX3 hB3 hs3 hTR
            have hTR := hTR2
            clear hTR2
            obtain ⟨W6, eW6⟩ : ∃ W, W = w3.setCell ⟨O, 0, none⟩ (.slice x3 T2.length y3) := ⟨_, rfl⟩
            have HTE : Hid (∀ t : ET, t.E = E → entT (T2 ++ [t]) = (putK Z L (k + 1)).1 ∧ Value.bool true = .bool (putK Z L (k + 1)).2) := Lib.hid fun t ht => by rw [entT_append]; exact HF.out _ eET2 t ht
            have HL2 : Hid (T2.length + 1 ≤ 4294967296) := Lib.hid (by have := HL3.out; have := LT2.out; omega)
            go_wp2_with fail
            rw [← eW6] at hT bO1 bR1 bA1 bX1 hB hsz ⊢
            clear eW6 o0 of0
            have g0 := over_cell hB (World.block_lt_of_cell? _ _ G0) G0
            have g1 := over_cell hB (World.block_lt_of_cell? _ _ G1) G1
            have g2 := over_cell hB (World.block_lt_of_cell? _ _ G2) G2
            have g3 := over_cell hB (World.block_lt_of_cell? _ _ G3) G3
            have g4 := over_cell hB (World.block_lt_of_cell? _ _ G4) G4
            have g5 := over_cell hB (World.block_lt_of_cell? _ _ G5) G5
            have g6 := over_cell hB (World.block_lt_of_cell? _ _ G6) G6
            refine wp_region_held_drew (S := fun w' => Bl w' A [.slice (some ⟨b', o, none⟩) n c] ∧ Below w.heap.size w w') (by kernel_rfl) ⟨bA1.keep (over_drew _), below_step hB (over_drew _)⟩ (fun hHeld => ?_)
            clear hHeld
            obtain ⟨D, hD⟩ : ∃ D, D = W6.drew := ⟨_, rfl⟩
            have OD : Over W6 D := by rw [hD]; exact over_drew _
            rw [← hD]
            clear hD
            have hSD : KpA w A [.slice (some ⟨b', o, none⟩) n c] D := ⟨bA1.keep OD, below_step hB OD⟩
            have hWD : W1.heap.size ≤ D.heap.size := Nat.le_trans hsz OD.size
            clear g0 g1 g2 g3 g4 g5 g6
            refine wpAnyH_take (i := 0) (v := ?_) rfl (by kernel_rfl) (by kernel_rfl) (by kernel_rfl) (fun _ _ _ h => h) (Or.inl ⟨by rfl, ?_⟩) hSD ?_
            rotate_left
            · intro wq hSq
              (try dsimp only at hSq)

              go_simp
              try rfl
            change wpAnyH _ _ _ _ _ _ _ (Act.put _ (some 37) _) _
            simp only [Act.put, List.setIfInBounds_toArray, List.set_cons_succ, List.set_cons_zero]
            refine wpAnyH_take (i := 2) (v := ?_) rfl (by kernel_rfl) (by kernel_rfl) (by kernel_rfl) (fun _ _ _ h => h) (Or.inl ⟨by rfl, ?_⟩) hSD ?_
            rotate_left
            · intro wq hSq
              (try dsimp only at hSq)

              go_simp
              try rfl
            change wpAnyH _ _ _ _ _ _ _ (Act.put _ (some 39) _) _
            simp only [Act.put, List.setIfInBounds_toArray, List.set_cons_succ, List.set_cons_zero]
            refine wpAnyH_take (i := 3) (v := ?_) rfl (by kernel_rfl) (by kernel_rfl) (by kernel_rfl) (fun _ _ _ h => h) (Or.inl ⟨by rfl, ?_⟩) hSD ?_
            rotate_left
            · intro wq hSq
              (try dsimp only at hSq)
              have q0 := hSq.1.c 0 rfl
              go_simp
              try rfl
            change wpAnyH _ _ _ _ _ _ _ (Act.put _ (some 40) _) _
            simp only [Act.put, List.setIfInBounds_toArray, List.set_cons_succ, List.set_cons_zero]
            refine wpAnyH_take (i := 4) (v := ?_) rfl (by kernel_rfl) (by kernel_rfl) (by kernel_rfl) (fun _ _ _ h => h) (Or.inl ⟨by rfl, ?_⟩) hSD ?_
            rotate_left
            · intro wq hSq
              (try dsimp only at hSq)

              go_simp
              try rfl
            change wpAnyH _ _ _ _ _ _ _ (Act.put _ (some 41) _) _
            simp only [Act.put, List.setIfInBounds_toArray, List.set_cons_succ, List.set_cons_zero]
            refine wpAnyH_take (i := 5) (v := ?_) rfl (by kernel_rfl) (by kernel_rfl) (by kernel_rfl) (fun _ _ _ h => h) (Or.inl ⟨by rfl, ?_⟩) hSD ?_
            rotate_left
            · intro wq hSq
              (try dsimp only at hSq)

              go_simp
              try rfl
            change wpAnyH _ _ _ _ _ _ _ (Act.put _ (some 42) _) _
            simp only [Act.put, List.setIfInBounds_toArray, List.set_cons_succ, List.set_cons_zero]
            refine wpAnyH_take (i := 6) (v := ?_) rfl (by kernel_rfl) (by kernel_rfl) (by kernel_rfl) (fun _ _ _ h => h) (Or.inl ⟨by rfl, ?_⟩) hSD ?_
            rotate_left
            · intro wq hSq
              (try dsimp only at hSq)
              have q0 := over_cell hSq.2 (World.block_lt_of_cell? _ _ G0) G0
              have q1 := over_cell hSq.2 (World.block_lt_of_cell? _ _ G1) G1
              have q2 := over_cell hSq.2 (World.block_lt_of_cell? _ _ G2) G2
              have q3 := over_cell hSq.2 (World.block_lt_of_cell? _ _ G3) G3
              have q4 := over_cell hSq.2 (World.block_lt_of_cell? _ _ G4) G4
              have q5 := over_cell hSq.2 (World.block_lt_of_cell? _ _ G5) G5
              have q6 := over_cell hSq.2 (World.block_lt_of_cell? _ _ G6) G6
              go_simp
              try rfl
            change wpAnyH _ _ _ _ _ _ _ (Act.put _ (some 43) _) _
            simp only [Act.put, List.setIfInBounds_toArray, List.set_cons_succ, List.set_cons_zero]
            refine wpAnyH_ready (rs := [1, 7]) (by kernel_rfl) (by simp) ?_
            refine (AllReadyH.cons rfl (fun K hK => ?_) (AllReadyH.cons rfl (fun K hK => ?_) AllReadyH.nil))
            · have q := (bO1.keep OD).c 0 rfl
              go_simp
              refine hK.out _ _ hSD (fun hHeld => ?_)
              clear hK K hHeld q
              try simp only [Act.put, List.setIfInBounds_toArray, List.set_cons_zero, List.set_cons_succ]
              refine wpAnyH_ready (rs := [7]) (by kernel_rfl) (by simp) ?_
              refine (AllReadyH.cons rfl (fun K hK => ?_) AllReadyH.nil)
              go_simp
              have bN := Bl.new D [.int .i64 E.a, .int .i64 E.n, .int .i64 E.pe, .slice pa E.p.length px, .int .i64 E.pr, .slice qa E.c.length qx, .int .i64 E.bw] EI D.heap.size rfl
              have N1 : Below D.heap.size D (D.alloc (.cells #[.int .i64 E.a, .int .i64 E.n, .int .i64 E.pe, .slice pa E.p.length px, .int .i64 E.pr, .slice qa E.c.length qx, .int .i64 E.bw] EI)) := (Below.refl _ _).alloc (Nat.le_refl _) _
              refine hK.out _ _ (hSD.next N1) (fun hHeld => ?_)
              clear hK K hHeld
              try simp only [Act.put, List.setIfInBounds_toArray, List.set_cons_zero, List.set_cons_succ]
              refine wpAnyH_ready (rs := [8]) (by kernel_rfl) (by simp) ?_
              refine (AllReadyH.cons rfl (fun K hK => ?_) AllReadyH.nil)
              refine step_appE rfl (.tmp 38) (.tmp 44) rfl W1.heap.size D.heap.size 1 (.slice x3 T2.length y3) T2.length (flatT T2) [.int .i64 E.a, .int .i64 E.n, .int .i64 E.pe, .slice pa E.p.length px, .int .i64 E.pr, .slice qa E.c.length qx, .int .i64 E.bw] rfl rfl (rowK (rowK hT OD) N1) bN rfl (by simp [Value.oneCell']) HL2.out (Nat.le_trans hWD N1.size) ?_
              intro v3 w3 hrow hg hor
              have hB3 : Below w.heap.size w w3 := below_growT (below_step (below_step hB OD) N1) (rowK (rowK hT OD) N1) hwW hg
              have bO3 := ((bO1.keep OD).keep N1).grown hg (neRow (rowK (rowK hT OD) N1) hOW)
              have bR3 := ((bR1.keep OD).keep N1).grown hg (neRow (rowK (rowK hT OD) N1) hRW)
              have bA3 := ((bA1.keep OD).keep N1).grown hg (neRow (rowK (rowK hT OD) N1) hAW)
              have bX3 := ((bX1.keep OD).keep N1).grown hg (neRow (rowK (rowK hT OD) N1) hXW)
              have hs3 := Nat.le_trans hWD (Nat.le_trans N1.size hg.size)
              clear hg hor
              refine hK.out _ _ ⟨bA3, hB3⟩ (fun hHeld => ?_)
              clear hK K hHeld
              obtain ⟨x3, y3, rfl⟩ := row_slice hrow
              try simp only [Act.put, List.setIfInBounds_toArray, List.set_cons_zero, List.set_cons_succ]
              refine wpAnyH_ready (rs := [9]) (by kernel_rfl) (by simp) ?_
              refine (AllReadyH.cons rfl (fun K hK => ?_) AllReadyH.nil)
              go_simp
              refine hK.out _ _ ⟨bA3, hB3⟩ (fun hHeld => ?_)
              clear hK K hHeld
              try simp only [Act.put, List.setIfInBounds_toArray, List.set_cons_zero, List.set_cons_succ]
              refine wpAnyH_ready (rs := [10]) (by kernel_rfl) (by simp) ?_
              refine (AllReadyH.cons rfl (fun K hK => ?_) AllReadyH.nil)
              have o0 := bO3.c 0 rfl
              have of0 := bO3.f 0 rfl
              go_simp
              refine hK.out _ _ ⟨bA3.far hAO, hB3.setCell (p := ⟨O, 0, none⟩) hwO _⟩ (fun hHeld => ?_)
              clear hK K hHeld o0 of0
              try simp only [Act.put, List.setIfInBounds_toArray, List.set_cons_zero, List.set_cons_succ]
              refine wpAnyH_done (by kernel_rfl) ?_ _
              go_wp2
              go_roundw
              case rel =>
                refine ⟨k + 1, by omega, by go_num, .slice x3 (T2.length + 1) y3, T2 ++ [⟨E, .slice pa E.p.length px, .slice qa E.c.length qx⟩], ?_, ?_, HTE.out _ rfl, bO3.set 0 _, bR3.far hRO, bA3.far hAO, bX3.far hXO, hB3.setCell (p := ⟨O, 0, none⟩) hwO _, by simpa using hs3⟩
                · rw [List.length_append, flatT_append, show flatT [(⟨E, .slice pa E.p.length px, .slice qa E.c.length qx⟩ : ET)] = cellsT ⟨E, .slice pa E.p.length px, .slice qa E.c.length qx⟩ by simp [flatT]]
                  exact rowFar hrow hOW
                · intro t ht
                  rcases List.mem_append.1 ht with q | q
                  · exact hTR t q
                  · rw [List.mem_singleton.1 q]; exact ⟨hp, hq⟩
              case measure => simp [intOf]; omega
            · go_simp
              have bN := Bl.new D [.int .i64 E.a, .int .i64 E.n, .int .i64 E.pe, .slice pa E.p.length px, .int .i64 E.pr, .slice qa E.c.length qx, .int .i64 E.bw] EI D.heap.size rfl
              have N1 : Below D.heap.size D (D.alloc (.cells #[.int .i64 E.a, .int .i64 E.n, .int .i64 E.pe, .slice pa E.p.length px, .int .i64 E.pr, .slice qa E.c.length qx, .int .i64 E.bw] EI)) := (Below.refl _ _).alloc (Nat.le_refl _) _
              refine hK.out _ _ (hSD.next N1) (fun hHeld => ?_)
              clear hK K hHeld
              try simp only [Act.put, List.setIfInBounds_toArray, List.set_cons_zero, List.set_cons_succ]
              refine wpAnyH_ready (rs := [1]) (by kernel_rfl) (by simp) ?_
              refine (AllReadyH.cons rfl (fun K hK => ?_) AllReadyH.nil)
              have q := ((bO1.keep OD).keep N1).c 0 rfl
              go_simp
              refine hK.out _ _ (hSD.next N1) (fun hHeld => ?_)
              clear hK K hHeld q
              try simp only [Act.put, List.setIfInBounds_toArray, List.set_cons_zero, List.set_cons_succ]
              refine wpAnyH_ready (rs := [8]) (by kernel_rfl) (by simp) ?_
              refine (AllReadyH.cons rfl (fun K hK => ?_) AllReadyH.nil)
              refine step_appE rfl (.tmp 38) (.tmp 44) rfl W1.heap.size D.heap.size 1 (.slice x3 T2.length y3) T2.length (flatT T2) [.int .i64 E.a, .int .i64 E.n, .int .i64 E.pe, .slice pa E.p.length px, .int .i64 E.pr, .slice qa E.c.length qx, .int .i64 E.bw] rfl rfl (rowK (rowK hT OD) N1) bN rfl (by simp [Value.oneCell']) HL2.out (Nat.le_trans hWD N1.size) ?_
              intro v3 w3 hrow hg hor
              have hB3 : Below w.heap.size w w3 := below_growT (below_step (below_step hB OD) N1) (rowK (rowK hT OD) N1) hwW hg
              have bO3 := ((bO1.keep OD).keep N1).grown hg (neRow (rowK (rowK hT OD) N1) hOW)
              have bR3 := ((bR1.keep OD).keep N1).grown hg (neRow (rowK (rowK hT OD) N1) hRW)
              have bA3 := ((bA1.keep OD).keep N1).grown hg (neRow (rowK (rowK hT OD) N1) hAW)
              have bX3 := ((bX1.keep OD).keep N1).grown hg (neRow (rowK (rowK hT OD) N1) hXW)
              have hs3 := Nat.le_trans hWD (Nat.le_trans N1.size hg.size)
              clear hg hor
              refine hK.out _ _ ⟨bA3, hB3⟩ (fun hHeld => ?_)
              clear hK K hHeld
              obtain ⟨x3, y3, rfl⟩ := row_slice hrow
              try simp only [Act.put, List.setIfInBounds_toArray, List.set_cons_zero, List.set_cons_succ]
              refine wpAnyH_ready (rs := [9]) (by kernel_rfl) (by simp) ?_
              refine (AllReadyH.cons rfl (fun K hK => ?_) AllReadyH.nil)
              go_simp
              refine hK.out _ _ ⟨bA3, hB3⟩ (fun hHeld => ?_)
              clear hK K hHeld
              try simp only [Act.put, List.setIfInBounds_toArray, List.set_cons_zero, List.set_cons_succ]
              refine wpAnyH_ready (rs := [10]) (by kernel_rfl) (by simp) ?_
              refine (AllReadyH.cons rfl (fun K hK => ?_) AllReadyH.nil)
              have o0 := bO3.c 0 rfl
              have of0 := bO3.f 0 rfl
              go_simp
              refine hK.out _ _ ⟨bA3.far hAO, hB3.setCell (p := ⟨O, 0, none⟩) hwO _⟩ (fun hHeld => ?_)
              clear hK K hHeld o0 of0
              try simp only [Act.put, List.setIfInBounds_toArray, List.set_cons_zero, List.set_cons_succ]
              refine wpAnyH_done (by kernel_rfl) ?_ _
              go_wp2
              go_roundw
              case rel =>
                refine ⟨k + 1, by omega, by go_num, .slice x3 (T2.length + 1) y3, T2 ++ [⟨E, .slice pa E.p.length px, .slice qa E.c.length qx⟩], ?_, ?_, HTE.out _ rfl, bO3.set 0 _, bR3.far hRO, bA3.far hAO, bX3.far hXO, hB3.setCell (p := ⟨O, 0, none⟩) hwO _, by simpa using hs3⟩
                · rw [List.length_append, flatT_append, show flatT [(⟨E, .slice pa E.p.length px, .slice qa E.c.length qx⟩ : ET)] = cellsT ⟨E, .slice pa E.p.length px, .slice qa E.c.length qx⟩ by simp [flatT]]
                  exact rowFar hrow hOW
                · intro t ht
                  rcases List.mem_append.1 ht with q | q
                  · exact hTR t q
                  · rw [List.mem_singleton.1 q]; exact ⟨hp, hq⟩
              case measure => simp [intOf]; omega
          · have hle : ¬ r ≤ 0 := by omega
            have hfb : (r == 0) = false := by simp [hr0]
            have HTE : Hid (∀ t : ET, t.E = E → entT (T ++ [t]) = (putK Z L (k + 1)).1 ∧ Value.bool false = .bool (putK Z L (k + 1)).2) := Lib.hid fun t ht => by rw [hS, entT_append]; simp [hr0, hle, entT, ht]
            have HC := Lib.hid hc
            clear hS hc hTE hf hk2 HX hr0 hrn
            have o0 := bO1.c 0 rfl
            go_wp2_with fail
            clear o0
            have g0 := over_cell hB (World.block_lt_of_cell? _ _ G0) G0
            have g1 := over_cell hB (World.block_lt_of_cell? _ _ G1) G1
            have g2 := over_cell hB (World.block_lt_of_cell? _ _ G2) G2
            have g3 := over_cell hB (World.block_lt_of_cell? _ _ G3) G3
            have g4 := over_cell hB (World.block_lt_of_cell? _ _ G4) G4
            have g5 := over_cell hB (World.block_lt_of_cell? _ _ G5) G5
            have g6 := over_cell hB (World.block_lt_of_cell? _ _ G6) G6
            refine wp_region_held_drew (S := fun w' => Bl w' A [.slice (some ⟨b', o, none⟩) n c] ∧ Below w.heap.size w w') (by kernel_rfl) ⟨bA1.keep (over_drew _), below_step hB (over_drew _)⟩ (fun hHeld => ?_)
            clear hHeld
            obtain ⟨D, hD⟩ : ∃ D, D = ws.drew := ⟨_, rfl⟩
            have OD : Over ws D := by rw [hD]; exact over_drew _
            rw [← hD]
            clear hD
            have hSD : KpA w A [.slice (some ⟨b', o, none⟩) n c] D := ⟨bA1.keep OD, below_step hB OD⟩
            have hWD : W1.heap.size ≤ D.heap.size := Nat.le_trans hsz OD.size
            clear g0 g1 g2 g3 g4 g5 g6
            refine wpAnyH_take (i := 0) (v := ?_) rfl (by kernel_rfl) (by kernel_rfl) (by kernel_rfl) (fun _ _ _ h => h) (Or.inl ⟨by rfl, ?_⟩) hSD ?_
            rotate_left
            · intro wq hSq
              (try dsimp only at hSq)

              go_simp
              try rfl
            change wpAnyH _ _ _ _ _ _ _ (Act.put _ (some 37) _) _
            simp only [Act.put, List.setIfInBounds_toArray, List.set_cons_succ, List.set_cons_zero]
            refine wpAnyH_take (i := 2) (v := ?_) rfl (by kernel_rfl) (by kernel_rfl) (by kernel_rfl) (fun _ _ _ h => h) (Or.inl ⟨by rfl, ?_⟩) hSD ?_
            rotate_left
            · intro wq hSq
              (try dsimp only at hSq)

              go_simp
              try rfl
            change wpAnyH _ _ _ _ _ _ _ (Act.put _ (some 39) _) _
            simp only [Act.put, List.setIfInBounds_toArray, List.set_cons_succ, List.set_cons_zero]
            refine wpAnyH_take (i := 3) (v := ?_) rfl (by kernel_rfl) (by kernel_rfl) (by kernel_rfl) (fun _ _ _ h => h) (Or.inl ⟨by rfl, ?_⟩) hSD ?_
            rotate_left
            · intro wq hSq
              (try dsimp only at hSq)
              have q0 := hSq.1.c 0 rfl
              go_simp
              try rfl
            change wpAnyH _ _ _ _ _ _ _ (Act.put _ (some 40) _) _
            simp only [Act.put, List.setIfInBounds_toArray, List.set_cons_succ, List.set_cons_zero]
            refine wpAnyH_take (i := 4) (v := ?_) rfl (by kernel_rfl) (by kernel_rfl) (by kernel_rfl) (fun _ _ _ h => h) (Or.inl ⟨by rfl, ?_⟩) hSD ?_
            rotate_left
            · intro wq hSq
              (try dsimp only at hSq)

              go_simp
              try rfl
            change wpAnyH _ _ _ _ _ _ _ (Act.put _ (some 41) _) _
            simp only [Act.put, List.setIfInBounds_toArray, List.set_cons_succ, List.set_cons_zero]
            refine wpAnyH_take (i := 5) (v := ?_) rfl (by kernel_rfl) (by kernel_rfl) (by kernel_rfl) (fun _ _ _ h => h) (Or.inl ⟨by rfl, ?_⟩) hSD ?_
            rotate_left
            · intro wq hSq
              (try dsimp only at hSq)

              go_simp
              try rfl
            change wpAnyH _ _ _ _ _ _ _ (Act.put _ (some 42) _) _
            simp only [Act.put, List.setIfInBounds_toArray, List.set_cons_succ, List.set_cons_zero]
            refine wpAnyH_take (i := 6) (v := ?_) rfl (by kernel_rfl) (by kernel_rfl) (by kernel_rfl) (fun _ _ _ h => h) (Or.inl ⟨by rfl, ?_⟩) hSD ?_
            rotate_left
            · intro wq hSq
              (try dsimp only at hSq)
              have q0 := over_cell hSq.2 (World.block_lt_of_cell? _ _ G0) G0
              have q1 := over_cell hSq.2 (World.block_lt_of_cell? _ _ G1) G1
              have q2 := over_cell hSq.2 (World.block_lt_of_cell? _ _ G2) G2
              have q3 := over_cell hSq.2 (World.block_lt_of_cell? _ _ G3) G3
              have q4 := over_cell hSq.2 (World.block_lt_of_cell? _ _ G4) G4
              have q5 := over_cell hSq.2 (World.block_lt_of_cell? _ _ G5) G5
              have q6 := over_cell hSq.2 (World.block_lt_of_cell? _ _ G6) G6
              go_simp
              try rfl
            change wpAnyH _ _ _ _ _ _ _ (Act.put _ (some 43) _) _
            simp only [Act.put, List.setIfInBounds_toArray, List.set_cons_succ, List.set_cons_zero]
            refine wpAnyH_ready (rs := [1, 7]) (by kernel_rfl) (by simp) ?_
            refine (AllReadyH.cons rfl (fun K hK => ?_) (AllReadyH.cons rfl (fun K hK => ?_) AllReadyH.nil))
            · have q := (bO1.keep OD).c 0 rfl
              go_simp
              refine hK.out _ _ hSD (fun hHeld => ?_)
              clear hK K hHeld q
              try simp only [Act.put, List.setIfInBounds_toArray, List.set_cons_zero, List.set_cons_succ]
              refine wpAnyH_ready (rs := [7]) (by kernel_rfl) (by simp) ?_
              refine (AllReadyH.cons rfl (fun K hK => ?_) AllReadyH.nil)
              go_simp
              have bN := Bl.new D [.int .i64 E.a, .int .i64 E.n, .int .i64 E.pe, .slice pa E.p.length px, .int .i64 E.pr, .slice qa E.c.length qx, .int .i64 E.bw] EI D.heap.size rfl
              have N1 : Below D.heap.size D (D.alloc (.cells #[.int .i64 E.a, .int .i64 E.n, .int .i64 E.pe, .slice pa E.p.length px, .int .i64 E.pr, .slice qa E.c.length qx, .int .i64 E.bw] EI)) := (Below.refl _ _).alloc (Nat.le_refl _) _
              refine hK.out _ _ (hSD.next N1) (fun hHeld => ?_)
              clear hK K hHeld
              try simp only [Act.put, List.setIfInBounds_toArray, List.set_cons_zero, List.set_cons_succ]
              refine wpAnyH_ready (rs := [8]) (by kernel_rfl) (by simp) ?_
              refine (AllReadyH.cons rfl (fun K hK => ?_) AllReadyH.nil)
              refine step_appE rfl (.tmp 38) (.tmp 44) rfl W1.heap.size D.heap.size 1 v2 T.length (flatT T) [.int .i64 E.a, .int .i64 E.n, .int .i64 E.pe, .slice pa E.p.length px, .int .i64 E.pr, .slice qa E.c.length qx, .int .i64 E.bw] rfl rfl (rowK (rowK hT OD) N1) bN rfl (by simp [Value.oneCell']) HL.out (Nat.le_trans hWD N1.size) ?_
              intro v3 w3 hrow hg hor
              have hB3 : Below w.heap.size w w3 := below_growT (below_step (below_step hB OD) N1) (rowK (rowK hT OD) N1) hwW hg
              have bO3 := ((bO1.keep OD).keep N1).grown hg (neRow (rowK (rowK hT OD) N1) hOW)
              have bR3 := ((bR1.keep OD).keep N1).grown hg (neRow (rowK (rowK hT OD) N1) hRW)
              have bA3 := ((bA1.keep OD).keep N1).grown hg (neRow (rowK (rowK hT OD) N1) hAW)
              have bX3 := ((bX1.keep OD).keep N1).grown hg (neRow (rowK (rowK hT OD) N1) hXW)
              have hs3 := Nat.le_trans hWD (Nat.le_trans N1.size hg.size)
              clear hg hor
              refine hK.out _ _ ⟨bA3, hB3⟩ (fun hHeld => ?_)
              clear hK K hHeld
              obtain ⟨x3, y3, rfl⟩ := row_slice hrow
              try simp only [Act.put, List.setIfInBounds_toArray, List.set_cons_zero, List.set_cons_succ]
              refine wpAnyH_ready (rs := [9]) (by kernel_rfl) (by simp) ?_
              refine (AllReadyH.cons rfl (fun K hK => ?_) AllReadyH.nil)
              go_simp
              refine hK.out _ _ ⟨bA3, hB3⟩ (fun hHeld => ?_)
              clear hK K hHeld
              try simp only [Act.put, List.setIfInBounds_toArray, List.set_cons_zero, List.set_cons_succ]
              refine wpAnyH_ready (rs := [10]) (by kernel_rfl) (by simp) ?_
              refine (AllReadyH.cons rfl (fun K hK => ?_) AllReadyH.nil)
              have o0 := bO3.c 0 rfl
              have of0 := bO3.f 0 rfl
              go_simp
              refine hK.out _ _ ⟨bA3.far hAO, hB3.setCell (p := ⟨O, 0, none⟩) hwO _⟩ (fun hHeld => ?_)
              clear hK K hHeld o0 of0
              try simp only [Act.put, List.setIfInBounds_toArray, List.set_cons_zero, List.set_cons_succ]
              refine wpAnyH_done (by kernel_rfl) ?_ _
              go_wp2
              go_roundw
              case rel =>
                refine ⟨k + 1, by omega, by go_num, .slice x3 (T.length + 1) y3, T ++ [⟨E, .slice pa E.p.length px, .slice qa E.c.length qx⟩], ?_, ?_, HTE.out _ rfl, bO3.set 0 _, bR3.far hRO, bA3.far hAO, bX3.far hXO, hB3.setCell (p := ⟨O, 0, none⟩) hwO _, by simpa using hs3⟩
                · rw [List.length_append, flatT_append, show flatT [(⟨E, .slice pa E.p.length px, .slice qa E.c.length qx⟩ : ET)] = cellsT ⟨E, .slice pa E.p.length px, .slice qa E.c.length qx⟩ by simp [flatT]]
                  exact rowFar hrow hOW
                · intro t ht
                  rcases List.mem_append.1 ht with q | q
                  · exact hTR t q
                  · rw [List.mem_singleton.1 q]; exact ⟨hp, hq⟩
              case measure => simp [intOf]; omega
            · go_simp
              have bN := Bl.new D [.int .i64 E.a, .int .i64 E.n, .int .i64 E.pe, .slice pa E.p.length px, .int .i64 E.pr, .slice qa E.c.length qx, .int .i64 E.bw] EI D.heap.size rfl
              have N1 : Below D.heap.size D (D.alloc (.cells #[.int .i64 E.a, .int .i64 E.n, .int .i64 E.pe, .slice pa E.p.length px, .int .i64 E.pr, .slice qa E.c.length qx, .int .i64 E.bw] EI)) := (Below.refl _ _).alloc (Nat.le_refl _) _
              refine hK.out _ _ (hSD.next N1) (fun hHeld => ?_)
              clear hK K hHeld
              try simp only [Act.put, List.setIfInBounds_toArray, List.set_cons_zero, List.set_cons_succ]
              refine wpAnyH_ready (rs := [1]) (by kernel_rfl) (by simp) ?_
              refine (AllReadyH.cons rfl (fun K hK => ?_) AllReadyH.nil)
              have q := ((bO1.keep OD).keep N1).c 0 rfl
              go_simp
              refine hK.out _ _ (hSD.next N1) (fun hHeld => ?_)
              clear hK K hHeld q
              try simp only [Act.put, List.setIfInBounds_toArray, List.set_cons_zero, List.set_cons_succ]
              refine wpAnyH_ready (rs := [8]) (by kernel_rfl) (by simp) ?_
              refine (AllReadyH.cons rfl (fun K hK => ?_) AllReadyH.nil)
              refine step_appE rfl (.tmp 38) (.tmp 44) rfl W1.heap.size D.heap.size 1 v2 T.length (flatT T) [.int .i64 E.a, .int .i64 E.n, .int .i64 E.pe, .slice pa E.p.length px, .int .i64 E.pr, .slice qa E.c.length qx, .int .i64 E.bw] rfl rfl (rowK (rowK hT OD) N1) bN rfl (by simp [Value.oneCell']) HL.out (Nat.le_trans hWD N1.size) ?_
              intro v3 w3 hrow hg hor
              have hB3 : Below w.heap.size w w3 := below_growT (below_step (below_step hB OD) N1) (rowK (rowK hT OD) N1) hwW hg
              have bO3 := ((bO1.keep OD).keep N1).grown hg (neRow (rowK (rowK hT OD) N1) hOW)
              have bR3 := ((bR1.keep OD).keep N1).grown hg (neRow (rowK (rowK hT OD) N1) hRW)
              have bA3 := ((bA1.keep OD).keep N1).grown hg (neRow (rowK (rowK hT OD) N1) hAW)
              have bX3 := ((bX1.keep OD).keep N1).grown hg (neRow (rowK (rowK hT OD) N1) hXW)
              have hs3 := Nat.le_trans hWD (Nat.le_trans N1.size hg.size)
              clear hg hor
              refine hK.out _ _ ⟨bA3, hB3⟩ (fun hHeld => ?_)
              clear hK K hHeld
              obtain ⟨x3, y3, rfl⟩ := row_slice hrow
              try simp only [Act.put, List.setIfInBounds_toArray, List.set_cons_zero, List.set_cons_succ]
              refine wpAnyH_ready (rs := [9]) (by kernel_rfl) (by simp) ?_
              refine (AllReadyH.cons rfl (fun K hK => ?_) AllReadyH.nil)
              go_simp
              refine hK.out _ _ ⟨bA3, hB3⟩ (fun hHeld => ?_)
              clear hK K hHeld
              try simp only [Act.put, List.setIfInBounds_toArray, List.set_cons_zero, List.set_cons_succ]
              refine wpAnyH_ready (rs := [10]) (by kernel_rfl) (by simp) ?_
              refine (AllReadyH.cons rfl (fun K hK => ?_) AllReadyH.nil)
              have o0 := bO3.c 0 rfl
              have of0 := bO3.f 0 rfl
              go_simp
              refine hK.out _ _ ⟨bA3.far hAO, hB3.setCell (p := ⟨O, 0, none⟩) hwO _⟩ (fun hHeld => ?_)
              clear hK K hHeld o0 of0
              try simp only [Act.put, List.setIfInBounds_toArray, List.set_cons_zero, List.set_cons_succ]
              refine wpAnyH_done (by kernel_rfl) ?_ _
              go_wp2
              go_roundw
              case rel =>
                refine ⟨k + 1, by omega, by go_num, .slice x3 (T.length + 1) y3, T ++ [⟨E, .slice pa E.p.length px, .slice qa E.c.length qx⟩], ?_, ?_, HTE.out _ rfl, bO3.set 0 _, bR3.far hRO, bA3.far hAO, bX3.far hXO, hB3.setCell (p := ⟨O, 0, none⟩) hwO _, by simpa using hs3⟩
                · rw [List.length_append, flatT_append, show flatT [(⟨E, .slice pa E.p.length px, .slice qa E.c.length qx⟩ : ET)] = cellsT ⟨E, .slice pa E.p.length px, .slice qa E.c.length qx⟩ by simp [flatT]]
                  exact rowFar hrow hOW
                · intro t ht
                  rcases List.mem_append.1 ht with q | q
                  · exact hTR t q
                  · rw [List.mem_singleton.1 q]; exact ⟨hp, hq⟩
              case measure => simp [intOf]; omega
      · have hS := putK_s HX.out HEC.out hf.symm hTE
        by_cases hr0 : r = 0
        · subst hr0
          have HF : Hid (entT T = (putK Z L (k + 1)).1 ∧ Value.bool true = .bool (putK Z L (k + 1)).2) := Lib.hid (by rw [hS]; simp)
          have HC := Lib.hid hc
          clear hS hc hTE hf hk2 HX
          go_wp2
          go_roundw
          case rel => exact ⟨k + 1, by omega, by go_num, _, T, hT, hTR, HF.out, bO1, bR1, bA1, bX1, hB, hsz⟩
          case measure => simp [intOf]; omega
        · have hfb : (r == 0) = false := by simp [hr0]
          have HTE : Hid (∀ t : ET, t.E = E → entT (T ++ [t]) = (putK Z L (k + 1)).1 ∧ Value.bool true = .bool (putK Z L (k + 1)).2) := Lib.hid fun t ht => by rw [hS, entT_append]; simp [hr0, entT, ht]
          have HC := Lib.hid hc
          clear hS hc hTE hf hk2 HX hr0
          go_wp2_with fail
          have g0 := over_cell hB (World.block_lt_of_cell? _ _ G0) G0
          have g1 := over_cell hB (World.block_lt_of_cell? _ _ G1) G1
          have g2 := over_cell hB (World.block_lt_of_cell? _ _ G2) G2
          have g3 := over_cell hB (World.block_lt_of_cell? _ _ G3) G3
          have g4 := over_cell hB (World.block_lt_of_cell? _ _ G4) G4
          have g5 := over_cell hB (World.block_lt_of_cell? _ _ G5) G5
          have g6 := over_cell hB (World.block_lt_of_cell? _ _ G6) G6
          refine wp_region_held_drew (S := fun w' => Bl w' A [.slice (some ⟨b', o, none⟩) n c] ∧ Below w.heap.size w w') (by kernel_rfl) ⟨bA1.keep (over_drew _), below_step hB (over_drew _)⟩ (fun hHeld => ?_)
          clear hHeld
          obtain ⟨D, hD⟩ : ∃ D, D = ws.drew := ⟨_, rfl⟩
          have OD : Over ws D := by rw [hD]; exact over_drew _
          rw [← hD]
          clear hD
          have hSD : KpA w A [.slice (some ⟨b', o, none⟩) n c] D := ⟨bA1.keep OD, below_step hB OD⟩
          have hWD : W1.heap.size ≤ D.heap.size := Nat.le_trans hsz OD.size
          clear g0 g1 g2 g3 g4 g5 g6
          refine wpAnyH_take (i := 0) (v := ?_) rfl (by kernel_rfl) (by kernel_rfl) (by kernel_rfl) (fun _ _ _ h => h) (Or.inl ⟨by rfl, ?_⟩) hSD ?_
          rotate_left
          · intro wq hSq
            (try dsimp only at hSq)

            go_simp
            try rfl
          change wpAnyH _ _ _ _ _ _ _ (Act.put _ (some 37) _) _
          simp only [Act.put, List.setIfInBounds_toArray, List.set_cons_succ, List.set_cons_zero]
          refine wpAnyH_take (i := 2) (v := ?_) rfl (by kernel_rfl) (by kernel_rfl) (by kernel_rfl) (fun _ _ _ h => h) (Or.inl ⟨by rfl, ?_⟩) hSD ?_
          rotate_left
          · intro wq hSq
            (try dsimp only at hSq)

            go_simp
            try rfl
          change wpAnyH _ _ _ _ _ _ _ (Act.put _ (some 39) _) _
          simp only [Act.put, List.setIfInBounds_toArray, List.set_cons_succ, List.set_cons_zero]
          refine wpAnyH_take (i := 3) (v := ?_) rfl (by kernel_rfl) (by kernel_rfl) (by kernel_rfl) (fun _ _ _ h => h) (Or.inl ⟨by rfl, ?_⟩) hSD ?_
          rotate_left
          · intro wq hSq
            (try dsimp only at hSq)
            have q0 := hSq.1.c 0 rfl
            go_simp
            try rfl
          change wpAnyH _ _ _ _ _ _ _ (Act.put _ (some 40) _) _
          simp only [Act.put, List.setIfInBounds_toArray, List.set_cons_succ, List.set_cons_zero]
          refine wpAnyH_take (i := 4) (v := ?_) rfl (by kernel_rfl) (by kernel_rfl) (by kernel_rfl) (fun _ _ _ h => h) (Or.inl ⟨by rfl, ?_⟩) hSD ?_
          rotate_left
          · intro wq hSq
            (try dsimp only at hSq)

            go_simp
            try rfl
          change wpAnyH _ _ _ _ _ _ _ (Act.put _ (some 41) _) _
          simp only [Act.put, List.setIfInBounds_toArray, List.set_cons_succ, List.set_cons_zero]
          refine wpAnyH_take (i := 5) (v := ?_) rfl (by kernel_rfl) (by kernel_rfl) (by kernel_rfl) (fun _ _ _ h => h) (Or.inl ⟨by rfl, ?_⟩) hSD ?_
          rotate_left
          · intro wq hSq
            (try dsimp only at hSq)

            go_simp
            try rfl
          change wpAnyH _ _ _ _ _ _ _ (Act.put _ (some 42) _) _
          simp only [Act.put, List.setIfInBounds_toArray, List.set_cons_succ, List.set_cons_zero]
          refine wpAnyH_take (i := 6) (v := ?_) rfl (by kernel_rfl) (by kernel_rfl) (by kernel_rfl) (fun _ _ _ h => h) (Or.inl ⟨by rfl, ?_⟩) hSD ?_
          rotate_left
          · intro wq hSq
            (try dsimp only at hSq)
            have q0 := over_cell hSq.2 (World.block_lt_of_cell? _ _ G0) G0
            have q1 := over_cell hSq.2 (World.block_lt_of_cell? _ _ G1) G1
            have q2 := over_cell hSq.2 (World.block_lt_of_cell? _ _ G2) G2
            have q3 := over_cell hSq.2 (World.block_lt_of_cell? _ _ G3) G3
            have q4 := over_cell hSq.2 (World.block_lt_of_cell? _ _ G4) G4
            have q5 := over_cell hSq.2 (World.block_lt_of_cell? _ _ G5) G5
            have q6 := over_cell hSq.2 (World.block_lt_of_cell? _ _ G6) G6
            go_simp
            try rfl
          change wpAnyH _ _ _ _ _ _ _ (Act.put _ (some 43) _) _
          simp only [Act.put, List.setIfInBounds_toArray, List.set_cons_succ, List.set_cons_zero]
          refine wpAnyH_ready (rs := [1, 7]) (by kernel_rfl) (by simp) ?_
          refine (AllReadyH.cons rfl (fun K hK => ?_) (AllReadyH.cons rfl (fun K hK => ?_) AllReadyH.nil))
          · have q := (bO1.keep OD).c 0 rfl
            go_simp
            refine hK.out _ _ hSD (fun hHeld => ?_)
            clear hK K hHeld q
            try simp only [Act.put, List.setIfInBounds_toArray, List.set_cons_zero, List.set_cons_succ]
            refine wpAnyH_ready (rs := [7]) (by kernel_rfl) (by simp) ?_
            refine (AllReadyH.cons rfl (fun K hK => ?_) AllReadyH.nil)
            go_simp
            have bN := Bl.new D [.int .i64 E.a, .int .i64 E.n, .int .i64 E.pe, .slice pa E.p.length px, .int .i64 E.pr, .slice qa E.c.length qx, .int .i64 E.bw] EI D.heap.size rfl
            have N1 : Below D.heap.size D (D.alloc (.cells #[.int .i64 E.a, .int .i64 E.n, .int .i64 E.pe, .slice pa E.p.length px, .int .i64 E.pr, .slice qa E.c.length qx, .int .i64 E.bw] EI)) := (Below.refl _ _).alloc (Nat.le_refl _) _
            refine hK.out _ _ (hSD.next N1) (fun hHeld => ?_)
            clear hK K hHeld
            try simp only [Act.put, List.setIfInBounds_toArray, List.set_cons_zero, List.set_cons_succ]
            refine wpAnyH_ready (rs := [8]) (by kernel_rfl) (by simp) ?_
            refine (AllReadyH.cons rfl (fun K hK => ?_) AllReadyH.nil)
            refine step_appE rfl (.tmp 38) (.tmp 44) rfl W1.heap.size D.heap.size 1 v2 T.length (flatT T) [.int .i64 E.a, .int .i64 E.n, .int .i64 E.pe, .slice pa E.p.length px, .int .i64 E.pr, .slice qa E.c.length qx, .int .i64 E.bw] rfl rfl (rowK (rowK hT OD) N1) bN rfl (by simp [Value.oneCell']) HL.out (Nat.le_trans hWD N1.size) ?_
            intro v3 w3 hrow hg hor
            have hB3 : Below w.heap.size w w3 := below_growT (below_step (below_step hB OD) N1) (rowK (rowK hT OD) N1) hwW hg
            have bO3 := ((bO1.keep OD).keep N1).grown hg (neRow (rowK (rowK hT OD) N1) hOW)
            have bR3 := ((bR1.keep OD).keep N1).grown hg (neRow (rowK (rowK hT OD) N1) hRW)
            have bA3 := ((bA1.keep OD).keep N1).grown hg (neRow (rowK (rowK hT OD) N1) hAW)
            have bX3 := ((bX1.keep OD).keep N1).grown hg (neRow (rowK (rowK hT OD) N1) hXW)
            have hs3 := Nat.le_trans hWD (Nat.le_trans N1.size hg.size)
            clear hg hor
            refine hK.out _ _ ⟨bA3, hB3⟩ (fun hHeld => ?_)
            clear hK K hHeld
            obtain ⟨x3, y3, rfl⟩ := row_slice hrow
            try simp only [Act.put, List.setIfInBounds_toArray, List.set_cons_zero, List.set_cons_succ]
            refine wpAnyH_ready (rs := [9]) (by kernel_rfl) (by simp) ?_
            refine (AllReadyH.cons rfl (fun K hK => ?_) AllReadyH.nil)
            go_simp
            refine hK.out _ _ ⟨bA3, hB3⟩ (fun hHeld => ?_)
            clear hK K hHeld
            try simp only [Act.put, List.setIfInBounds_toArray, List.set_cons_zero, List.set_cons_succ]
            refine wpAnyH_ready (rs := [10]) (by kernel_rfl) (by simp) ?_
            refine (AllReadyH.cons rfl (fun K hK => ?_) AllReadyH.nil)
            have o0 := bO3.c 0 rfl
            have of0 := bO3.f 0 rfl
            go_simp
            refine hK.out _ _ ⟨bA3.far hAO, hB3.setCell (p := ⟨O, 0, none⟩) hwO _⟩ (fun hHeld => ?_)
            clear hK K hHeld o0 of0
            try simp only [Act.put, List.setIfInBounds_toArray, List.set_cons_zero, List.set_cons_succ]
            refine wpAnyH_done (by kernel_rfl) ?_ _
            go_wp2
            go_roundw
            case rel =>
              refine ⟨k + 1, by omega, by go_num, .slice x3 (T.length + 1) y3, T ++ [⟨E, .slice pa E.p.length px, .slice qa E.c.length qx⟩], ?_, ?_, HTE.out _ rfl, bO3.set 0 _, bR3.far hRO, bA3.far hAO, bX3.far hXO, hB3.setCell (p := ⟨O, 0, none⟩) hwO _, by simpa using hs3⟩
              · rw [List.length_append, flatT_append, show flatT [(⟨E, .slice pa E.p.length px, .slice qa E.c.length qx⟩ : ET)] = cellsT ⟨E, .slice pa E.p.length px, .slice qa E.c.length qx⟩ by simp [flatT]]
                exact rowFar hrow hOW
              · intro t ht
                rcases List.mem_append.1 ht with q | q
                · exact hTR t q
                · rw [List.mem_singleton.1 q]; exact ⟨hp, hq⟩
            case measure => simp [intOf]; omega
          · go_simp
            have bN := Bl.new D [.int .i64 E.a, .int .i64 E.n, .int .i64 E.pe, .slice pa E.p.length px, .int .i64 E.pr, .slice qa E.c.length qx, .int .i64 E.bw] EI D.heap.size rfl
            have N1 : Below D.heap.size D (D.alloc (.cells #[.int .i64 E.a, .int .i64 E.n, .int .i64 E.pe, .slice pa E.p.length px, .int .i64 E.pr, .slice qa E.c.length qx, .int .i64 E.bw] EI)) := (Below.refl _ _).alloc (Nat.le_refl _) _
            refine hK.out _ _ (hSD.next N1) (fun hHeld => ?_)
            clear hK K hHeld
            try simp only [Act.put, List.setIfInBounds_toArray, List.set_cons_zero, List.set_cons_succ]
            refine wpAnyH_ready (rs := [1]) (by kernel_rfl) (by simp) ?_
            refine (AllReadyH.cons rfl (fun K hK => ?_) AllReadyH.nil)
            have q := ((bO1.keep OD).keep N1).c 0 rfl
            go_simp
            refine hK.out _ _ (hSD.next N1) (fun hHeld => ?_)
            clear hK K hHeld q
            try simp only [Act.put, List.setIfInBounds_toArray, List.set_cons_zero, List.set_cons_succ]
            refine wpAnyH_ready (rs := [8]) (by kernel_rfl) (by simp) ?_
            refine (AllReadyH.cons rfl (fun K hK => ?_) AllReadyH.nil)
            refine step_appE rfl (.tmp 38) (.tmp 44) rfl W1.heap.size D.heap.size 1 v2 T.length (flatT T) [.int .i64 E.a, .int .i64 E.n, .int .i64 E.pe, .slice pa E.p.length px, .int .i64 E.pr, .slice qa E.c.length qx, .int .i64 E.bw] rfl rfl (rowK (rowK hT OD) N1) bN rfl (by simp [Value.oneCell']) HL.out (Nat.le_trans hWD N1.size) ?_
            intro v3 w3 hrow hg hor
            have hB3 : Below w.heap.size w w3 := below_growT (below_step (below_step hB OD) N1) (rowK (rowK hT OD) N1) hwW hg
            have bO3 := ((bO1.keep OD).keep N1).grown hg (neRow (rowK (rowK hT OD) N1) hOW)
            have bR3 := ((bR1.keep OD).keep N1).grown hg (neRow (rowK (rowK hT OD) N1) hRW)
            have bA3 := ((bA1.keep OD).keep N1).grown hg (neRow (rowK (rowK hT OD) N1) hAW)
            have bX3 := ((bX1.keep OD).keep N1).grown hg (neRow (rowK (rowK hT OD) N1) hXW)
            have hs3 := Nat.le_trans hWD (Nat.le_trans N1.size hg.size)
            clear hg hor
            refine hK.out _ _ ⟨bA3, hB3⟩ (fun hHeld => ?_)
            clear hK K hHeld
            obtain ⟨x3, y3, rfl⟩ := row_slice hrow
            try simp only [Act.put, List.setIfInBounds_toArray, List.set_cons_zero, List.set_cons_succ]
            refine wpAnyH_ready (rs := [9]) (by kernel_rfl) (by simp) ?_
            refine (AllReadyH.cons rfl (fun K hK => ?_) AllReadyH.nil)
            go_simp
            refine hK.out _ _ ⟨bA3, hB3⟩ (fun hHeld => ?_)
            clear hK K hHeld
            try simp only [Act.put, List.setIfInBounds_toArray, List.set_cons_zero, List.set_cons_succ]
            refine wpAnyH_ready (rs := [10]) (by kernel_rfl) (by simp) ?_
            refine (AllReadyH.cons rfl (fun K hK => ?_) AllReadyH.nil)
            have o0 := bO3.c 0 rfl
            have of0 := bO3.f 0 rfl
            go_simp
            refine hK.out _ _ ⟨bA3.far hAO, hB3.setCell (p := ⟨O, 0, none⟩) hwO _⟩ (fun hHeld => ?_)
            clear hK K hHeld o0 of0
            try simp only [Act.put, List.setIfInBounds_toArray, List.set_cons_zero, List.set_cons_succ]
            refine wpAnyH_done (by kernel_rfl) ?_ _
            go_wp2
            go_roundw
            case rel =>
              refine ⟨k + 1, by omega, by go_num, .slice x3 (T.length + 1) y3, T ++ [⟨E, .slice pa E.p.length px, .slice qa E.c.length qx⟩], ?_, ?_, HTE.out _ rfl, bO3.set 0 _, bR3.far hRO, bA3.far hAO, bX3.far hXO, hB3.setCell (p := ⟨O, 0, none⟩) hwO _, by simpa using hs3⟩
              · rw [List.length_append, flatT_append, show flatT [(⟨E, .slice pa E.p.length px, .slice qa E.c.length qx⟩ : ET)] = cellsT ⟨E, .slice pa E.p.length px, .slice qa E.c.length qx⟩ by simp [flatT]]
                exact rowFar hrow hOW
              · intro t ht
                rcases List.mem_append.1 ht with q | q
                · exact hTR t q
                · rw [List.mem_singleton.1 q]; exact ⟨hp, hq⟩
            case measure => simp [intOf]; omega
    · have hkn : k = n := by omega
      subst hkn
      clear hc
      have hk2 := putK_len Z L k
      have HL : Hid (T.length + 1 ≤ 4294967296) := Lib.hid (by have e := congrArg List.length hTE; rw [entT_len] at e; omega)
      cases b
      · have HP : Hid (∀ M : List Ent, M = entT T ++ [Z] → putL Z L = M) := Lib.hid fun M hM => by unfold putL; rw [← HN.out, hf, if_neg (by simp), hM, hTE]
        clear hTE hf hk2
        have o0 := bO1.c 0 rfl
        have p0 := bX1.c 0 rfl
        have p1 := bX1.c 1 rfl
        have p2 := bX1.c 2 rfl
        have p3 := bX1.c 3 rfl
        have p4 := bX1.c 4 rfl
        have p5 := bX1.c 5 rfl
        have p6 := bX1.c 6 rfl
        go_wp2_with (at_builtin; refine Hid.out ?_)
        refine Lib.hid ?_
        clear o0 p0 p1 p2 p3 p4 p5 p6
        have bN := Bl.new wr [.int .i64 Z.a, .int .i64 Z.n, .int .i64 Z.pe, .slice ea Z.p.length ex, .int .i64 Z.pr, .slice fa Z.c.length fx, .int .i64 Z.bw] EI wr.heap.size rfl
        have N1 : Below wr.heap.size wr (wr.alloc (.cells #[.int .i64 Z.a, .int .i64 Z.n, .int .i64 Z.pe, .slice ea Z.p.length ex, .int .i64 Z.pr, .slice fa Z.c.length fx, .int .i64 Z.bw] EI)) := (Below.refl _ _).alloc (Nat.le_refl _) _
        refine wp_appE rfl _ _ rfl W1.heap.size wr.heap.size 1 v2 T.length (flatT T) [.int .i64 Z.a, .int .i64 Z.n, .int .i64 Z.pe, .slice ea Z.p.length ex, .int .i64 Z.pr, .slice fa Z.c.length fx, .int .i64 Z.bw] rfl rfl (rowK hT N1) bN rfl (by simp [Value.oneCell']) HL.out (Nat.le_trans hsz N1.size) ?_
        intro v4 w3 hrow hg hor
        have hB3 : Below w.heap.size w w3 := below_growT (below_step hB N1) (rowK hT N1) hwW hg
        have bO3 := (bO1.keep N1).grown hg (neRow (rowK hT N1) hOW)
        have bR3 := (bR1.keep N1).grown hg (neRow (rowK hT N1) hRW)
        have bA3 := (bA1.keep N1).grown hg (neRow (rowK hT N1) hAW)
        have bX3 := (bX1.keep N1).grown hg (neRow (rowK hT N1) hXW)
        have hs3 := Nat.le_trans hsz (Nat.le_trans N1.size hg.size)
        clear hg hor bN N1 hT bO1 bR1 bA1 bX1 hB hsz
        obtain ⟨x3, y3, rfl⟩ := row_slice hrow
        have o0 := bO3.c 0 rfl
        have of0 := bO3.f 0 rfl
        have hT := rowFar (o := 0) (u := .slice x3 (T.length + 1) y3) hrow hOW
        have bO1 := bO3.set 0 (.slice x3 (T.length + 1) y3)
        have bR1 := bR3.far (o := 0) (u := .slice x3 (T.length + 1) y3) hRO
        have bA1 := bA3.far (o := 0) (u := .slice x3 (T.length + 1) y3) hAO
        have bX1 := bX3.far (o := 0) (u := .slice x3 (T.length + 1) y3) hXO
        have hB := hB3.setCell (p := ⟨O, 0, none⟩) hwO (.slice x3 (T.length + 1) y3)
        have hsz : W1.heap.size ≤ (w3.setCell ⟨O, 0, none⟩ (.slice x3 (T.length + 1) y3)).heap.size := by simpa using hs3
        obtain ⟨T2, eT2⟩ : ∃ S, S = T ++ [(⟨Z, .slice ea Z.p.length ex, .slice fa Z.c.length fx⟩ : ET)] := ⟨_, rfl⟩
        have lT2 : T2.length = T.length + 1 := by rw [eT2]; simp
        have fT2 : flatT T2 = flatT T ++ [.int .i64 Z.a, .int .i64 Z.n, .int .i64 Z.pe, .slice ea Z.p.length ex, .int .i64 Z.pr, .slice fa Z.c.length fx, .int .i64 Z.bw] := by rw [eT2, flatT_append, flatT_one]; rfl
        rw [← fT2, ← lT2] at hT
        rw [← lT2] at bO1 bR1 bA1 bX1 hB hsz ⊢
        have hTR2 : ∀ t ∈ T2, RdI w t.u t.E.p ∧ RdI w t.v t.E.c := by
          intro t ht
          rw [eT2] at ht
          rcases List.mem_append.1 ht with q | q
          · exact hTR t q
          · rw [List.mem_singleton.1 q]; exact ⟨hZ1, hZ2⟩
        have eET2 : entT T2 = entT T ++ [Z] := by rw [eT2, entT_append]; rfl
        have LT2 := Lib.hid lT2
        clear lT2 fT2 eT2 hrow bO3 bR3 bA3 bX3 hB3 hs3 hTR
        have hTR := hTR2
        clear hTR2
        obtain ⟨W6, eW6⟩ : ∃ W, W = w3.setCell ⟨O, 0, none⟩ (.slice x3 T2.length y3) := ⟨_, rfl⟩
        clear eW6
        have q0 := bR1.c 0 rfl
        have qf0 := bR1.f 0 rfl
        have s0 := bO1.c 0 rfl
        go_wp2
        have bE := bR1.set 0 (.slice x3 T2.length y3)
        have hBe := hB.setCell (p := ⟨R, 0, none⟩) hwR (.slice x3 T2.length y3)
        have e0 := bE.c 0 rfl
        exact bodyPost_ret (v := .agg #[.slice x3 T2.length y3]) (by simp [results, Try.results59, go_sem, e0]) rfl
          ⟨_, rfl, by rw [HP.out _ eET2]; exact row_rd (rowFar hT hRW) fun t ht => ⟨(hTR t ht).1.keep hBe, (hTR t ht).2.keep hBe⟩, hBe⟩
      · have HP : Hid (putL Z L = entT T) := Lib.hid (by unfold putL; rw [← HN.out, hf, if_pos rfl, hTE])
        clear hTE hf hk2
        obtain ⟨x2, y2, rfl⟩ := row_slice hT
        have o0 := bO1.c 0 rfl
        have q0 := bR1.c 0 rfl
        have qf0 := bR1.f 0 rfl
        go_wp2
        have bE := bR1.set 0 (.slice x2 T.length y2)
        have hBe := hB.setCell (p := ⟨R, 0, none⟩) hwR (.slice x2 T.length y2)
        have e0 := bE.c 0 rfl
        exact bodyPost_ret (v := .agg #[.slice x2 T.length y2]) (by simp [results, Try.results59, go_sem, e0]) rfl
          ⟨_, rfl, by rw [HP.out]; exact row_rd (rowFar hT hRW) fun t ht => ⟨(hTR t ht).1.keep hBe, (hTR t ht).2.keep hBe⟩, hBe⟩
end Go.Proofs.Ytaiffofmhfflkaa
namespace Go.Proofs.Ytaiffofmhfflkaa
open Go.ChangeShapes Go.WideShapes Go.ChangeAt Go.RowKit Go.BigFrame Go.Joins
set_option linter.unusedVariables false
set_option linter.unusedSimpArgs false
set_option maxRecDepth 100000

/-- the entry of a prefix of one's own -/
def entOf (bw : Int) (p : Int × Int) : Ent := ⟨p.1, p.2, -1, [], 100, [], bw⟩
def newB (an : Int) (own : List (Int × Int)) (bw : Int) : Bool := asB an && ((decide ((own.length : Int) ≤ 2) && pfxB own) && inB bw 0 1000)
def newD (an : Int) (own : List (Int × Int)) (bw : Int) : Nd := ⟨an, own, bw, false, own.map (entOf bw), []⟩
def newN (an : Int) (own : List (Int × Int)) (bw : Int) : Nd := if newB an own bw = true then newD an own bw else nd0
theorem getD_map (bw : Int) (own : List (Int × Int)) (i : Nat) (hi : i < own.length) : (own.map (entOf bw)).getD i e0 = entOf bw (own.getD i (0, 0)) := by
  simp [List.getD, hi]
theorem ribB_nil : ribB [] = true := by decide
theorem pfx_at {own : List (Int × Int)} (h : pfxB own = true) : (∀ i, i < own.length → pokB (own.getD i (0, 0)).1 (own.getD i (0, 0)).2 = true) ∧ ∀ i, i < own.length - 1 → cmp2 (own.getD i (0, 0)).1 (own.getD i (0, 0)).2 (own.getD (i + 1) (0, 0)).1 (own.getD (i + 1) (0, 0)).2 < 0 := by
  unfold pfxB at h
  simp only [decide_eq_true_eq] at h
  exact h
theorem aok_own {bw : Int} (h : inB bw 0 1000 = true) : aokB [] 100 [] bw = true := by
  unfold aokB
  rw [h]
  simp [numsB, ascB, inB]
theorem ribB_own {own : List (Int × Int)} {bw : Int} (h1 : (decide ((own.length : Int) ≤ 2) && pfxB own) = true) (h2 : inB bw 0 1000 = true) : ribB (own.map (entOf bw)) = true := by
  simp only [Bool.and_eq_true, decide_eq_true_eq] at h1
  obtain ⟨hl, hp⟩ := h1
  obtain ⟨p1, p2⟩ := pfx_at hp
  unfold ribB tabB
  simp only [Bool.and_eq_true, decide_eq_true_eq, List.length_map]
  refine ⟨by omega, fun i hi => ?_, fun i hi => ?_⟩
  · unfold okE
    rw [getD_map bw own i hi]
    unfold entB entOf
    dsimp only
    rw [p1 i hi]
    rw [aok_own h2]
    rfl
  · unfold upE
    rw [getD_map bw own i (by omega), getD_map bw own (i + 1) (by omega)]
    exact ecmp_lt.2 (by
      have := cmp2_lt8.1 (p2 i hi)
      unfold entOf
      dsimp only
      omega)
theorem ownL_own (own : List (Int × Int)) (bw : Int) : ownL (own.map (entOf bw)) = own := by
  unfold ownL
  rw [List.filter_map, List.map_map]
  induction own with
  | nil => rfl
  | cons p own ih =>
    simp only [List.filter_cons, Function.comp, entOf] at ih ⊢
    simp at ih ⊢
    exact ⟨rfl, ih⟩
theorem ndB_new (an : Int) (own : List (Int × Int)) (bw : Int) : ndB (newD an own bw) = newB an own bw := by
  unfold ndB newB newD
  dsimp only
  cases h0 : asB an
  · rfl
  · cases h1 : (decide ((own.length : Int) ≤ 2) && pfxB own)
    · rfl
    · cases h2 : inB bw 0 1000
      · rfl
      · rw [ribB_own h1 h2, ribB_nil, ownL_own]
        have : ((own.map (entOf bw)).all fun E => knowB an bw E) = true := by
          rw [List.all_eq_true]
          intro E hE
          obtain ⟨p, -, rfl⟩ := List.mem_map.1 hE
          unfold knowB entOf sameB
          simp
        rw [this]
        simp
theorem newD_bd (an : Int) (own : List (Int × Int)) (bw : Int) : BdN (newD an own bw) := by
  refine ⟨fun i hi => ?_, fun i hi => by simp [newD] at hi⟩
  simp only [newD, List.length_map] at hi ⊢
  rw [getD_map bw own i hi]
  exact ⟨fun x hx => by simp [entOf] at hx, fun x hx => by simp [entOf] at hx⟩
theorem newN_bd (an : Int) (own : List (Int × Int)) (bw : Int) : BdN (newN an own bw) := by
  unfold newN
  split
  · exact newD_bd an own bw
  · exact bdN0
theorem wtE_own (own : List (Int × Int)) (bw : Int) : wtE (own.map (entOf bw)) = 0 := by
  unfold wtE
  rw [List.map_map]
  induction own with
  | nil => rfl
  | cons p own ih => rw [List.map_cons, List.sum_cons, ih]; simp [entOf]
theorem newN_wt (an : Int) (own : List (Int × Int)) (bw : Int) : wtN (newN an own bw) ≤ 1048576 := by
  unfold newN
  split
  · rename_i h
    unfold newB at h
    simp only [Bool.and_eq_true, decide_eq_true_eq] at h
    have hl := h.2.1.1
    unfold wtN newD
    dsimp only
    rw [wtE_own, List.length_map]
    simp [wtE]
    omega
  · exact wtN0
/-- a switch of the call's own that reads as D, beside an answer -/
def NewNdB (w : World) (D : Nd) (b : Bool) (e : Ending) (w' : World) : Prop :=
  ∃ ov ru su T1 T2 b0 h1 h2, e = .returned (.tuple #[.agg #[.int .i64 D.an, ov, .int .i64 D.bw, .bool D.dr, ru, su], .bool b]) ∧ NdT w' b0 h1 h2 w'.heap.size ov ru su D.own T1 T2 ∧ entT T1 = D.rib ∧ entT T2 = D.sent ∧ w.heap.size ≤ b0 ∧ Below w.heap.size w w'
theorem iown8_l (an bw : Int) (dr : Bool) (ov rv sv : Value) (w : World) : Calls Try.prog 73 #[.agg #[.int .i64 an, ov, .int .i64 bw, .bool dr, rv, sv]] w fun e w' => e = .returned (.agg #[.slice none 0 0, .int .i64 100, .slice none 0 0, .int .i64 bw]) ∧ Below w.heap.size w w' := iown8_any ov rv sv ⟨an, [], bw, dr, [], []⟩ w
theorem smine8_l (an bw : Int) (dr : Bool) (ov rv sv : Value) (w : World) : Calls Try.prog 46 #[.agg #[.int .i64 an, ov, .int .i64 bw, .bool dr, rv, sv]] w fun e w' => e = .returned (.agg #[.slice none 0 0, .int .i64 100, .slice none 0 0, .int .i64 bw]) ∧ Below w.heap.size w w' := smine8_any ov rv sv ⟨an, [], bw, dr, [], []⟩ w
theorem own_take {own : List (Int × Int)} {bw x y : Int} {k : Nat} {T : List ET} {t : ET} (h : entT T = (own.take k).map (entOf bw)) (hk : k < own.length) (hx : own.getD k (0, 0) = (x, y)) (ht : t.E = entOf bw (x, y)) : entT (T ++ [t]) = (own.take (k + 1)).map (entOf bw) := by
  have hg : own[k] = (x, y) := by simpa [List.getD, hk] using hx
  rw [entT_append, h, List.take_add_one, List.getElem?_eq_getElem hk, hg, List.map_append]
  simp [entT, ht]
theorem apartNil (v : Value) : Apart v (.slice none 0 0) := by
  unfold Apart
  cases hv : v.ownBlock with
  | none => exact ⟨.inl rfl, .inl rfl⟩
  | some k => exact ⟨.inr (by simp [Value.ownBlock]), .inl rfl⟩
theorem ownRow {w : World} {base n : Nat} {v u : Value} {xs : List Value} (h : ∀ k, u.ownBlock = some k → k < base) (hr : w.ownsRow base EI 7 v n xs) : u.ownBlock = none ∨ u.ownBlock ≠ v.ownBlock := by
  cases hu : u.ownBlock with
  | none => exact .inl rfl
  | some k => exact .inr (fun q => by have a := h k hu; have b := (World.ownsRow.lt hr k q.symm).1; omega)
theorem neOf8 {v : Value} {B : Nat} (h : ∀ k, v.ownBlock = some k → k ≠ B) : v.ownBlock = none ∨ v.ownBlock ≠ some B := by
  cases hv : v.ownBlock with
  | none => exact .inl rfl
  | some k => exact .inr (fun q => by injection q with q; exact h k hv q)
theorem ownBd {own : List (Int × Int)} {bw : Int} {E : Ent} (h : E ∈ own.map (entOf bw)) : BdE E := by
  obtain ⟨p, -, rfl⟩ := List.mem_map.1 h
  exact ⟨fun x hx => by simp [entOf] at hx, fun x hx => by simp [entOf] at hx⟩
theorem rdOwn {w : World} {base : Nat} {v : Value} {T : List ET} {own : List (Int × Int)} {bw : Int} (h : OwnT w base v T) (e : entT T = own.map (entOf bw)) : RdE w v (own.map (entOf bw)) := by
  rw [← e]
  exact h.rd fun t ht => ownBd (by rw [← e]; exact entT_mem ht)
theorem indok_new {ov rv sv : Value} {an bw : Int} {own : List (Int × Int)} {b : Bool} {w : World} (h : RdN w ov rv sv (newD an own bw)) (H : Hid (newB an own bw = b)) :
    Calls Try.prog 11 #[.agg #[.int .i64 an, ov, .int .i64 bw, .bool false, rv, sv]] w fun e w' => e = .returned (.bool b) ∧ Below w.heap.size w w' := by
  have q := indok_any ov rv sv (newD an own bw) w h
  rw [ndB_new, H.out] at q
  exact q
set_option maxHeartbeats 16000000 in
theorem inew_any (av : Value) (own : List (Int × Int)) (an bw : Int) (w : World) (h : RdP w av own) (hn : own.length ≤ 1048576) :
    Calls Try.prog 31 #[.int .i64 an, av, .int .i64 bw] w (NewNdB w (newN an own bw) (newB an own bw)) := by
  obtain ⟨a, c, rfl, hc⟩ := h.el
  obtain ⟨bR, B1, z⟩ := one w [.int .i64 0, .slice none 0 0, .int .i64 0, .bool false, .slice none 0 0, .slice none 0 0] 35
  obtain ⟨V0, hV0⟩ : ∃ V, V = w.alloc (.cells #[.int .i64 0, .slice none 0 0, .int .i64 0, .bool false, .slice none 0 0, .slice none 0 0] 35) := ⟨_, rfl⟩
  go_enter Try.func31, Try.ntmps31
  go_wp2_with (at_builtin; refine Hid.out ?_)
  refine Lib.hid ?_
  rw [← hV0] at bR B1 z ⊢
  obtain ⟨R, hR⟩ : ∃ R, R = w.heap.size := ⟨_, rfl⟩
  rw [← hR] at bR
  try rw [← hR]
  have hwR : w.heap.size ≤ R := by omega
  have hRV : R < V0.heap.size := by rw [z]; omega
  have hwV : w.heap.size ≤ V0.heap.size := by omega
  clear hV0 hR z
  refine wp_appPS rfl _ _ rfl V0.heap.size (.slice none 0 0) (.slice a own.length c) [] own rfl rfl (World.ownsRow_nil _ _ _ _) (h.keep B1) (by simp; omega) (Nat.le_refl _) ?_
  intro v1 w1 ho1 hg1
  rw [List.nil_append] at ho1
  obtain ⟨x1, y1, rfl⟩ := ho1.lenS8
  replace bR := bR.grown hg1 (by simp [Value.ownBlock])
  have B2 : Below w.heap.size w w1 := Below.grown B1 hg1 B1.size (fun k hk => by simp [Value.ownBlock] at hk)
  have hVw : V0.heap.size ≤ w1.heap.size := hg1.size
  clear hg1 B1
  obtain ⟨n, hn'⟩ : ∃ n, n = own.length := ⟨_, rfl⟩
  rw [← hn'] at hc
  have HN := Lib.hid hn'
  have HNN := Lib.hid hn
  have hnb : n ≤ 1048576 := by omega
  clear hn' hn h
  go_wp2_with fail
  obtain ⟨bN, N1, z1⟩ := one w1 [.int .i64 an, .slice x1 own.length y1, .int .i64 bw, .bool false, .slice none 0 0, .slice none 0 0] 35
  obtain ⟨Nb, hNb⟩ : ∃ Nb, Nb = w1.heap.size := ⟨_, rfl⟩
  obtain ⟨W1, hW1⟩ : ∃ W, W = w1.alloc (.cells #[.int .i64 an, .slice x1 own.length y1, .int .i64 bw, .bool false, .slice none 0 0, .slice none 0 0] 35) := ⟨_, rfl⟩
  have hon : ∀ k, (Value.slice x1 own.length y1).ownBlock = some k → k < w1.heap.size := fun k hk => (World.ownsRow.lt ho1 k hk).2
  rw [← hW1] at bN N1 z1 ⊢
  rw [← hNb] at bN hon
  try rw [← hNb]
  have hNW : Nb < W1.heap.size := by omega
  have hwN : w.heap.size ≤ Nb := by omega
  have hRN : R < Nb := by omega
  have hNR : Nb ≠ R := by omega
  have hRW : R < W1.heap.size := by omega
  have hV0W : V0.heap.size ≤ W1.heap.size := by omega
  replace bR := bR.keep N1
  replace ho1 := ho1.keep N1
  replace B2 := below_step B2 N1
  have hwW : w.heap.size ≤ W1.heap.size := B2.size
  have HON : Hid ((Value.slice x1 own.length y1).ownBlock = none ∨ (Value.slice x1 own.length y1).ownBlock ≠ some Nb) := Lib.hid (neOf8 fun k hk => Nat.ne_of_lt (hon k hk))
  have HOW : Hid (∀ k, (Value.slice x1 own.length y1).ownBlock = some k → k < W1.heap.size) := Lib.hid fun k hk => by have := hon k hk; omega
  clear hNb hW1 N1 z1 hon
  go_loopw [18] (fun q wr => ∃ k : Nat, k ≤ n ∧ q = .int .i64 k ∧ ∃ (v2 : Value) (T : List ET), OwnT wr W1.heap.size v2 T ∧ entT T = (own.take k).map (entOf bw) ∧ Bl wr Nb [.int .i64 an, .slice x1 own.length y1, .int .i64 bw, .bool false, v2, .slice none 0 0] ∧ Bl wr R [.int .i64 0, .slice none 0 0, .int .i64 0, .bool false, .slice none 0 0, .slice none 0 0] ∧ OwnP wr V0.heap.size (.slice x1 own.length y1) own ∧ Below w.heap.size w wr ∧ W1.heap.size ≤ wr.heap.size) (fun q _ => n - (intOf q).toNat)
  case atStart => exact ⟨0, Nat.zero_le _, rfl, _, [], OwnT.nil _ _, rfl, bN, bR, ho1, B2, Nat.le_refl _⟩
  case round =>
    clear bN bR ho1 B2
    obtain ⟨k, hk, rfl, v2, T, hT, hTE, bN1, bR1, ho1, hB, hsz⟩ := hrel
    by_cases hlt : k < n
    · have hltI : (k : Int) < (own.length : Int) := by rw [← HN.out]; omega
      have hltN : k < own.length := by rw [← HN.out]; exact hlt
      obtain ⟨b, o, rfl, d0, d1⟩ := hc k hlt
      have e0 := cell_keep hB (World.block_lt_of_cell? w _ d0) d0
      have e1 := cell_keep hB (World.block_lt_of_cell? w _ d1) d1
      obtain ⟨⟨x, y⟩, hx⟩ : ∃ q, own.getD k (0, 0) = q := ⟨_, rfl⟩
      rw [hx] at e0 e1
      have HTE : Hid (∀ t : ET, t.E = entOf bw (x, y) → entT (T ++ [t]) = (own.take (k + 1)).map (entOf bw)) := Lib.hid fun t ht => own_take hTE (by rw [← HN.out]; exact hlt) hx ht
      have HL : Hid (T.length + 1 ≤ 4294967296) := Lib.hid (by have e := congrArg List.length hTE; rw [entT_len, List.length_map, List.length_take] at e; omega)
      have HC := Lib.hid hc
      have bP := Bl.new wr [.int .i64 x, .int .i64 y] PT wr.heap.size rfl
      have A1 : Below wr.heap.size wr (wr.alloc (.cells #[.int .i64 x, .int .i64 y] PT)) := (Below.refl _ _).alloc (Nat.le_refl _) _
      have hneP : some wr.heap.size ≠ v2.ownBlock := fun q => by
        have := (World.ownsRow.lt hT.row _ q.symm).2
        omega
      have lN := bN1.lt
      clear hx hc hTE d0 d1
      go_wp2_with fail
      obtain ⟨V, hV⟩ : ∃ V, V = wr.alloc (.cells #[.int .i64 x, .int .i64 y] PT) := ⟨_, rfl⟩
      rw [← hV] at bP A1 ⊢
      obtain ⟨P, hP⟩ : ∃ P, P = wr.heap.size := ⟨_, rfl⟩
      rw [← hP] at bP hneP lN
      try rw [← hP]
      have hNP : Nb ≠ P := by omega
      replace hT := hT.keep A1
      replace hB := below_step hB A1
      replace bN1 := bN1.keep A1
      replace bR1 := bR1.keep A1
      replace ho1 := ho1.keep A1
      have hsV : W1.heap.size ≤ V.heap.size := Nat.le_trans hsz A1.size
      clear hV hP A1 hsz e0 e1 lN
      refine wp_region_held_drew (S := fun w' => Bl w' P [.int .i64 x, .int .i64 y]) (by kernel_rfl) (bP.keep (over_drew _)) (fun hHeld => ?_)
      clear hHeld
      obtain ⟨D, hD⟩ : ∃ D, D = V.drew := ⟨_, rfl⟩
      have ODV : Over V D := by rw [hD]; exact over_drew _
      rw [← hD]
      clear hD
      have bPD := bP.keep ODV
      have bND := bN1.keep ODV
      have BD : Below D.heap.size D D := Below.refl _ _
      refine wpAnyH_take (i := 0) (v := ?_) rfl (by kernel_rfl) (by kernel_rfl) (by kernel_rfl) (fun _ _ _ h => h) (Or.inl ⟨by rfl, ?_⟩) bPD ?_
      rotate_left
      · intro wq hSq
        (try dsimp only at hSq)

        go_simp
        try rfl
      change wpAnyH _ _ _ _ _ _ _ (Act.put _ (some 22) _) _
      simp only [Act.put, List.setIfInBounds_toArray, List.set_cons_succ, List.set_cons_zero]
      refine wpAnyH_take (i := 1) (v := ?_) rfl (by kernel_rfl) (by kernel_rfl) (by kernel_rfl) (fun _ _ _ h => h) (Or.inl ⟨by rfl, ?_⟩) bPD ?_
      rotate_left
      · intro wq hSq
        (try dsimp only at hSq)

        go_simp
        try rfl
      change wpAnyH _ _ _ _ _ _ _ (Act.put _ (some 23) _) _
      simp only [Act.put, List.setIfInBounds_toArray, List.set_cons_succ, List.set_cons_zero]
      refine wpAnyH_take (i := 3) (v := ?_) rfl (by kernel_rfl) (by kernel_rfl) (by kernel_rfl) (fun _ _ _ h => h) (Or.inl ⟨by rfl, ?_⟩) bPD ?_
      rotate_left
      · intro wq hSq
        (try dsimp only at hSq)
        have q0 := hSq.c 0 rfl
        have q1 := hSq.c 1 rfl
        go_simp
        try rfl
      change wpAnyH _ _ _ _ _ _ _ (Act.put _ (some 25) _) _
      simp only [Act.put, List.setIfInBounds_toArray, List.set_cons_succ, List.set_cons_zero]
      refine wpAnyH_ready (rs := [2, 4]) (by kernel_rfl) (by simp) ?_
      refine (AllReadyH.cons rfl (fun K hK => ?_) (AllReadyH.cons rfl (fun K hK => ?_) AllReadyH.nil))
      · have q4 := bND.c 4 rfl
        go_simp
        refine hK.out _ _ bPD (fun _ => ?_)
        clear hK K q4
        try simp only [Act.put, List.setIfInBounds_toArray, List.set_cons_zero, List.set_cons_succ]
        refine wpAnyH_ready (rs := [4]) (by kernel_rfl) (by simp) ?_
        refine (AllReadyH.cons rfl (fun K hK => ?_) AllReadyH.nil)
        have q0 := bND.c 0 rfl
        have q1 := bND.c 1 rfl
        have q2 := bND.c 2 rfl
        have q3 := bND.c 3 rfl
        have q4 := bND.c 4 rfl
        have q5 := bND.c 5 rfl
        go_simp
        refine hK.out _ _ bPD (fun _ => ?_)
        clear hK K q0 q1 q2 q3 q4 q5
        try simp only [Act.put, List.setIfInBounds_toArray, List.set_cons_zero, List.set_cons_succ]
        refine wpAnyH_ready (rs := [5]) (by kernel_rfl) (by simp) ?_
        refine (AllReadyH.cons rfl (fun K hK => ?_) AllReadyH.nil)
        go_simp
        refine (iown8_l an bw false _ _ _ D).mono ?_
        rintro e wa ⟨rfl, hb⟩
        have bNwa := bND.keep hb
        have bPwa := bPD.keep hb
        have Bwa := below_step BD hb
        clear hb
        refine hK.out _ _ bPwa (fun _ => ?_)
        clear hK K
        try simp only [Act.put, List.setIfInBounds_toArray, List.set_cons_zero, List.set_cons_succ]
        refine wpAnyH_take (i := 6) (v := ?_) rfl (by kernel_rfl) (by kernel_rfl) (by kernel_rfl) (fun _ _ _ h => h) (Or.inl ⟨by rfl, ?_⟩) bPwa ?_
        rotate_left
        · intro wq hSq
          (try dsimp only at hSq)

          go_simp
          try rfl
        change wpAnyH _ _ _ _ _ _ _ (Act.put _ (some 28) _) _
        simp only [Act.put, List.setIfInBounds_toArray, List.set_cons_succ, List.set_cons_zero]
        refine wpAnyH_ready (rs := [7]) (by kernel_rfl) (by simp) ?_
        refine (AllReadyH.cons rfl (fun K hK => ?_) AllReadyH.nil)
        go_simp
        have hb : Below wa.heap.size wa (wa.alloc (.cells #[.int .i64 x, .int .i64 y, .int .i64 (-1), .slice none 0 0, .int .i64 100, .slice none 0 0, .int .i64 bw] EI)) := (Below.refl _ _).alloc (Nat.le_refl _) _
        have bL := Bl.new wa [.int .i64 x, .int .i64 y, .int .i64 (-1), .slice none 0 0, .int .i64 100, .slice none 0 0, .int .i64 bw] EI wa.heap.size rfl
        have bNwb := bNwa.keep hb
        have bPwb := bPwa.keep hb
        have Bwb := below_step Bwa hb
        refine hK.out _ _ bPwb (fun _ => ?_)
        clear hK K
        try simp only [Act.put, List.setIfInBounds_toArray, List.set_cons_zero, List.set_cons_succ]
        obtain ⟨G, hG⟩ : ∃ G, G = wa.heap.size := ⟨_, rfl⟩
        obtain ⟨wb, hn'⟩ : ∃ W, W = wa.alloc (.cells #[.int .i64 x, .int .i64 y, .int .i64 (-1), .slice none 0 0, .int .i64 100, .slice none 0 0, .int .i64 bw] EI) := ⟨_, rfl⟩
        rw [← hn'] at bL bNwb bPwb Bwb ⊢
        rw [← hG] at bL
        try rw [← hG]
        clear hn' hG hb
        refine wpAnyH_ready (rs := [8]) (by kernel_rfl) (by simp) ?_
        refine (AllReadyH.cons rfl (fun K hK => ?_) AllReadyH.nil)
        have hTc := hT.keep (below_step ODV Bwb)
        have hWc : W1.heap.size ≤ wb.heap.size := Nat.le_trans hsV (below_step ODV Bwb).size
        refine step_appE rfl (.tmp 24) (.tmp 29) rfl W1.heap.size G 1 v2 T.length (flatT T) [.int .i64 x, .int .i64 y, .int .i64 (-1), .slice none 0 0, .int .i64 100, .slice none 0 0, .int .i64 bw] rfl rfl hTc.row bL rfl (by simp [Value.oneCell']) HL.out hWc ?_
        intro v3 w3 hrow hg hor
        have hT3 : OwnT w3 W1.heap.size v3 (T ++ [⟨⟨x, y, -1, [], 100, [], bw⟩, .slice none 0 0, .slice none 0 0⟩]) := own_appT hTc hWc ⟨World.ownsRow_nil _ _ _ _, World.ownsRow_nil _ _ _ _⟩ ⟨⟨none, 0, rfl⟩, ⟨none, 0, rfl⟩⟩ ⟨.inl rfl, .inl rfl⟩
          (fun s hs => ⟨apartNil s.u, apartNil s.u, apartNil s.v, apartNil s.v⟩) ⟨.inl rfl, .inl rfl⟩ hrow hg hor
        have hB3 : Below w.heap.size w w3 := below_growT (below_step (below_step hB ODV) Bwb) hTc.row hwW hg
        have bN3 := bNwb.grown hg (neRow hTc.row hNW)
        have bP3 := bPwb.grown hg hneP
        have bR3 := ((bR1.keep ODV).keep Bwb).grown hg (neRow hTc.row hRW)
        have ho3 : OwnP w3 V0.heap.size (.slice x1 own.length y1) own := ((ho1.keep ODV).keep Bwb).kept hg (ownRow HOW.out hTc.row)
        have hs3 := Nat.le_trans hWc hg.size
        clear hg hrow hor
        obtain ⟨x3, y3, rfl⟩ : ∃ x3 y3, v3 = .slice x3 (T.length + 1) y3 := by
          obtain ⟨x3, y3, e3⟩ := hT3.lenV
          exact ⟨x3, y3, by simpa using e3⟩
        refine hK.out _ _ bP3 (fun _ => ?_)
        clear hK K
        try simp only [Act.put, List.setIfInBounds_toArray, List.set_cons_zero, List.set_cons_succ]
        refine wpAnyH_take (i := 9) (v := ?_) rfl (by kernel_rfl) (by kernel_rfl) (by kernel_rfl) (fun _ _ _ h => h) (Or.inl ⟨by rfl, ?_⟩) bP3 ?_
        rotate_left
        · intro wq hSq
          (try dsimp only at hSq)

          go_simp
          try rfl
        change wpAnyH _ _ _ _ _ _ _ (Act.put _ (some 31) _) _
        simp only [Act.put, List.setIfInBounds_toArray, List.set_cons_succ, List.set_cons_zero]
        refine wpAnyH_take (i := 10) (v := ?_) rfl (by kernel_rfl) (by kernel_rfl) (by kernel_rfl) (fun _ _ _ h => h) (Or.inl ⟨by rfl, ?_⟩) bP3 ?_
        rotate_left
        · intro wq hSq
          (try dsimp only at hSq)

          go_simp
          try rfl
        change wpAnyH _ _ _ _ _ _ _ (Act.put _ (some 32) _) _
        simp only [Act.put, List.setIfInBounds_toArray, List.set_cons_succ, List.set_cons_zero]
        refine wpAnyH_ready (rs := [11]) (by kernel_rfl) (by simp) ?_
        refine (AllReadyH.cons rfl (fun K hK => ?_) AllReadyH.nil)
        have n4 := bN3.c 4 rfl
        have nf4 := bN3.f 4 rfl
        go_simp
        refine hK.out _ _ (bP3.far hNP.symm) (fun _ => ?_)
        clear hK K n4 nf4
        try simp only [Act.put, List.setIfInBounds_toArray, List.set_cons_zero, List.set_cons_succ]
        refine wpAnyH_done (by kernel_rfl) ?_ _
        go_wp2
        go_roundw
        case rel => exact ⟨k + 1, by omega, by go_num, _, _, hT3.far hNW, HTE.out _ rfl, bN3.set 4 _, bR3.far hNR.symm, ho3.kept (grown_set w3 Nb 4 _) HON.out, hB3.setCell (p := ⟨Nb, 4, none⟩) hwN _, by simpa using hs3⟩
        case measure => simp [intOf]; omega
      · have q0 := bND.c 0 rfl
        have q1 := bND.c 1 rfl
        have q2 := bND.c 2 rfl
        have q3 := bND.c 3 rfl
        have q4 := bND.c 4 rfl
        have q5 := bND.c 5 rfl
        go_simp
        refine hK.out _ _ bPD (fun _ => ?_)
        clear hK K q0 q1 q2 q3 q4 q5
        try simp only [Act.put, List.setIfInBounds_toArray, List.set_cons_zero, List.set_cons_succ]
        refine wpAnyH_ready (rs := [2, 5]) (by kernel_rfl) (by simp) ?_
        refine (AllReadyH.cons rfl (fun K hK => ?_) (AllReadyH.cons rfl (fun K hK => ?_) AllReadyH.nil))
        · have q4 := bND.c 4 rfl
          go_simp
          refine hK.out _ _ bPD (fun _ => ?_)
          clear hK K q4
          try simp only [Act.put, List.setIfInBounds_toArray, List.set_cons_zero, List.set_cons_succ]
          refine wpAnyH_ready (rs := [5]) (by kernel_rfl) (by simp) ?_
          refine (AllReadyH.cons rfl (fun K hK => ?_) AllReadyH.nil)
          go_simp
          refine (iown8_l an bw false _ _ _ D).mono ?_
          rintro e wa ⟨rfl, hb⟩
          have bNwa := bND.keep hb
          have bPwa := bPD.keep hb
          have Bwa := below_step BD hb
          clear hb
          refine hK.out _ _ bPwa (fun _ => ?_)
          clear hK K
          try simp only [Act.put, List.setIfInBounds_toArray, List.set_cons_zero, List.set_cons_succ]
          refine wpAnyH_take (i := 6) (v := ?_) rfl (by kernel_rfl) (by kernel_rfl) (by kernel_rfl) (fun _ _ _ h => h) (Or.inl ⟨by rfl, ?_⟩) bPwa ?_
          rotate_left
          · intro wq hSq
            (try dsimp only at hSq)

            go_simp
            try rfl
          change wpAnyH _ _ _ _ _ _ _ (Act.put _ (some 28) _) _
          simp only [Act.put, List.setIfInBounds_toArray, List.set_cons_succ, List.set_cons_zero]
          refine wpAnyH_ready (rs := [7]) (by kernel_rfl) (by simp) ?_
          refine (AllReadyH.cons rfl (fun K hK => ?_) AllReadyH.nil)
          go_simp
          have hb : Below wa.heap.size wa (wa.alloc (.cells #[.int .i64 x, .int .i64 y, .int .i64 (-1), .slice none 0 0, .int .i64 100, .slice none 0 0, .int .i64 bw] EI)) := (Below.refl _ _).alloc (Nat.le_refl _) _
          have bL := Bl.new wa [.int .i64 x, .int .i64 y, .int .i64 (-1), .slice none 0 0, .int .i64 100, .slice none 0 0, .int .i64 bw] EI wa.heap.size rfl
          have bNwb := bNwa.keep hb
          have bPwb := bPwa.keep hb
          have Bwb := below_step Bwa hb
          refine hK.out _ _ bPwb (fun _ => ?_)
          clear hK K
          try simp only [Act.put, List.setIfInBounds_toArray, List.set_cons_zero, List.set_cons_succ]
          obtain ⟨G, hG⟩ : ∃ G, G = wa.heap.size := ⟨_, rfl⟩
          obtain ⟨wb, hn'⟩ : ∃ W, W = wa.alloc (.cells #[.int .i64 x, .int .i64 y, .int .i64 (-1), .slice none 0 0, .int .i64 100, .slice none 0 0, .int .i64 bw] EI) := ⟨_, rfl⟩
          rw [← hn'] at bL bNwb bPwb Bwb ⊢
          rw [← hG] at bL
          try rw [← hG]
          clear hn' hG hb
          refine wpAnyH_ready (rs := [8]) (by kernel_rfl) (by simp) ?_
          refine (AllReadyH.cons rfl (fun K hK => ?_) AllReadyH.nil)
          have hTc := hT.keep (below_step ODV Bwb)
          have hWc : W1.heap.size ≤ wb.heap.size := Nat.le_trans hsV (below_step ODV Bwb).size
          refine step_appE rfl (.tmp 24) (.tmp 29) rfl W1.heap.size G 1 v2 T.length (flatT T) [.int .i64 x, .int .i64 y, .int .i64 (-1), .slice none 0 0, .int .i64 100, .slice none 0 0, .int .i64 bw] rfl rfl hTc.row bL rfl (by simp [Value.oneCell']) HL.out hWc ?_
          intro v3 w3 hrow hg hor
          have hT3 : OwnT w3 W1.heap.size v3 (T ++ [⟨⟨x, y, -1, [], 100, [], bw⟩, .slice none 0 0, .slice none 0 0⟩]) := own_appT hTc hWc ⟨World.ownsRow_nil _ _ _ _, World.ownsRow_nil _ _ _ _⟩ ⟨⟨none, 0, rfl⟩, ⟨none, 0, rfl⟩⟩ ⟨.inl rfl, .inl rfl⟩
            (fun s hs => ⟨apartNil s.u, apartNil s.u, apartNil s.v, apartNil s.v⟩) ⟨.inl rfl, .inl rfl⟩ hrow hg hor
          have hB3 : Below w.heap.size w w3 := below_growT (below_step (below_step hB ODV) Bwb) hTc.row hwW hg
          have bN3 := bNwb.grown hg (neRow hTc.row hNW)
          have bP3 := bPwb.grown hg hneP
          have bR3 := ((bR1.keep ODV).keep Bwb).grown hg (neRow hTc.row hRW)
          have ho3 : OwnP w3 V0.heap.size (.slice x1 own.length y1) own := ((ho1.keep ODV).keep Bwb).kept hg (ownRow HOW.out hTc.row)
          have hs3 := Nat.le_trans hWc hg.size
          clear hg hrow hor
          obtain ⟨x3, y3, rfl⟩ : ∃ x3 y3, v3 = .slice x3 (T.length + 1) y3 := by
            obtain ⟨x3, y3, e3⟩ := hT3.lenV
            exact ⟨x3, y3, by simpa using e3⟩
          refine hK.out _ _ bP3 (fun _ => ?_)
          clear hK K
          try simp only [Act.put, List.setIfInBounds_toArray, List.set_cons_zero, List.set_cons_succ]
          refine wpAnyH_take (i := 9) (v := ?_) rfl (by kernel_rfl) (by kernel_rfl) (by kernel_rfl) (fun _ _ _ h => h) (Or.inl ⟨by rfl, ?_⟩) bP3 ?_
          rotate_left
          · intro wq hSq
            (try dsimp only at hSq)

            go_simp
            try rfl
          change wpAnyH _ _ _ _ _ _ _ (Act.put _ (some 31) _) _
          simp only [Act.put, List.setIfInBounds_toArray, List.set_cons_succ, List.set_cons_zero]
          refine wpAnyH_take (i := 10) (v := ?_) rfl (by kernel_rfl) (by kernel_rfl) (by kernel_rfl) (fun _ _ _ h => h) (Or.inl ⟨by rfl, ?_⟩) bP3 ?_
          rotate_left
          · intro wq hSq
            (try dsimp only at hSq)

            go_simp
            try rfl
          change wpAnyH _ _ _ _ _ _ _ (Act.put _ (some 32) _) _
          simp only [Act.put, List.setIfInBounds_toArray, List.set_cons_succ, List.set_cons_zero]
          refine wpAnyH_ready (rs := [11]) (by kernel_rfl) (by simp) ?_
          refine (AllReadyH.cons rfl (fun K hK => ?_) AllReadyH.nil)
          have n4 := bN3.c 4 rfl
          have nf4 := bN3.f 4 rfl
          go_simp
          refine hK.out _ _ (bP3.far hNP.symm) (fun _ => ?_)
          clear hK K n4 nf4
          try simp only [Act.put, List.setIfInBounds_toArray, List.set_cons_zero, List.set_cons_succ]
          refine wpAnyH_done (by kernel_rfl) ?_ _
          go_wp2
          go_roundw
          case rel => exact ⟨k + 1, by omega, by go_num, _, _, hT3.far hNW, HTE.out _ rfl, bN3.set 4 _, bR3.far hNR.symm, ho3.kept (grown_set w3 Nb 4 _) HON.out, hB3.setCell (p := ⟨Nb, 4, none⟩) hwN _, by simpa using hs3⟩
          case measure => simp [intOf]; omega
        · go_simp
          refine (iown8_l an bw false _ _ _ D).mono ?_
          rintro e wa ⟨rfl, hb⟩
          have bNwa := bND.keep hb
          have bPwa := bPD.keep hb
          have Bwa := below_step BD hb
          clear hb
          refine hK.out _ _ bPwa (fun _ => ?_)
          clear hK K
          try simp only [Act.put, List.setIfInBounds_toArray, List.set_cons_zero, List.set_cons_succ]
          refine wpAnyH_take (i := 6) (v := ?_) rfl (by kernel_rfl) (by kernel_rfl) (by kernel_rfl) (fun _ _ _ h => h) (Or.inl ⟨by rfl, ?_⟩) bPwa ?_
          rotate_left
          · intro wq hSq
            (try dsimp only at hSq)

            go_simp
            try rfl
          change wpAnyH _ _ _ _ _ _ _ (Act.put _ (some 28) _) _
          simp only [Act.put, List.setIfInBounds_toArray, List.set_cons_succ, List.set_cons_zero]
          refine wpAnyH_ready (rs := [2, 7]) (by kernel_rfl) (by simp) ?_
          refine (AllReadyH.cons rfl (fun K hK => ?_) (AllReadyH.cons rfl (fun K hK => ?_) AllReadyH.nil))
          · have q4 := bNwa.c 4 rfl
            go_simp
            refine hK.out _ _ bPwa (fun _ => ?_)
            clear hK K q4
            try simp only [Act.put, List.setIfInBounds_toArray, List.set_cons_zero, List.set_cons_succ]
            refine wpAnyH_ready (rs := [7]) (by kernel_rfl) (by simp) ?_
            refine (AllReadyH.cons rfl (fun K hK => ?_) AllReadyH.nil)
            go_simp
            have hb : Below wa.heap.size wa (wa.alloc (.cells #[.int .i64 x, .int .i64 y, .int .i64 (-1), .slice none 0 0, .int .i64 100, .slice none 0 0, .int .i64 bw] EI)) := (Below.refl _ _).alloc (Nat.le_refl _) _
            have bL := Bl.new wa [.int .i64 x, .int .i64 y, .int .i64 (-1), .slice none 0 0, .int .i64 100, .slice none 0 0, .int .i64 bw] EI wa.heap.size rfl
            have bNwb := bNwa.keep hb
            have bPwb := bPwa.keep hb
            have Bwb := below_step Bwa hb
            refine hK.out _ _ bPwb (fun _ => ?_)
            clear hK K
            try simp only [Act.put, List.setIfInBounds_toArray, List.set_cons_zero, List.set_cons_succ]
            obtain ⟨G, hG⟩ : ∃ G, G = wa.heap.size := ⟨_, rfl⟩
            obtain ⟨wb, hn'⟩ : ∃ W, W = wa.alloc (.cells #[.int .i64 x, .int .i64 y, .int .i64 (-1), .slice none 0 0, .int .i64 100, .slice none 0 0, .int .i64 bw] EI) := ⟨_, rfl⟩
            rw [← hn'] at bL bNwb bPwb Bwb ⊢
            rw [← hG] at bL
            try rw [← hG]
            clear hn' hG hb
            refine wpAnyH_ready (rs := [8]) (by kernel_rfl) (by simp) ?_
            refine (AllReadyH.cons rfl (fun K hK => ?_) AllReadyH.nil)
            have hTc := hT.keep (below_step ODV Bwb)
            have hWc : W1.heap.size ≤ wb.heap.size := Nat.le_trans hsV (below_step ODV Bwb).size
            refine step_appE rfl (.tmp 24) (.tmp 29) rfl W1.heap.size G 1 v2 T.length (flatT T) [.int .i64 x, .int .i64 y, .int .i64 (-1), .slice none 0 0, .int .i64 100, .slice none 0 0, .int .i64 bw] rfl rfl hTc.row bL rfl (by simp [Value.oneCell']) HL.out hWc ?_
            intro v3 w3 hrow hg hor
            have hT3 : OwnT w3 W1.heap.size v3 (T ++ [⟨⟨x, y, -1, [], 100, [], bw⟩, .slice none 0 0, .slice none 0 0⟩]) := own_appT hTc hWc ⟨World.ownsRow_nil _ _ _ _, World.ownsRow_nil _ _ _ _⟩ ⟨⟨none, 0, rfl⟩, ⟨none, 0, rfl⟩⟩ ⟨.inl rfl, .inl rfl⟩
              (fun s hs => ⟨apartNil s.u, apartNil s.u, apartNil s.v, apartNil s.v⟩) ⟨.inl rfl, .inl rfl⟩ hrow hg hor
            have hB3 : Below w.heap.size w w3 := below_growT (below_step (below_step hB ODV) Bwb) hTc.row hwW hg
            have bN3 := bNwb.grown hg (neRow hTc.row hNW)
            have bP3 := bPwb.grown hg hneP
            have bR3 := ((bR1.keep ODV).keep Bwb).grown hg (neRow hTc.row hRW)
            have ho3 : OwnP w3 V0.heap.size (.slice x1 own.length y1) own := ((ho1.keep ODV).keep Bwb).kept hg (ownRow HOW.out hTc.row)
            have hs3 := Nat.le_trans hWc hg.size
            clear hg hrow hor
            obtain ⟨x3, y3, rfl⟩ : ∃ x3 y3, v3 = .slice x3 (T.length + 1) y3 := by
              obtain ⟨x3, y3, e3⟩ := hT3.lenV
              exact ⟨x3, y3, by simpa using e3⟩
            refine hK.out _ _ bP3 (fun _ => ?_)
            clear hK K
            try simp only [Act.put, List.setIfInBounds_toArray, List.set_cons_zero, List.set_cons_succ]
            refine wpAnyH_take (i := 9) (v := ?_) rfl (by kernel_rfl) (by kernel_rfl) (by kernel_rfl) (fun _ _ _ h => h) (Or.inl ⟨by rfl, ?_⟩) bP3 ?_
            rotate_left
            · intro wq hSq
              (try dsimp only at hSq)

              go_simp
              try rfl
            change wpAnyH _ _ _ _ _ _ _ (Act.put _ (some 31) _) _
            simp only [Act.put, List.setIfInBounds_toArray, List.set_cons_succ, List.set_cons_zero]
            refine wpAnyH_take (i := 10) (v := ?_) rfl (by kernel_rfl) (by kernel_rfl) (by kernel_rfl) (fun _ _ _ h => h) (Or.inl ⟨by rfl, ?_⟩) bP3 ?_
            rotate_left
            · intro wq hSq
              (try dsimp only at hSq)

              go_simp
              try rfl
            change wpAnyH _ _ _ _ _ _ _ (Act.put _ (some 32) _) _
            simp only [Act.put, List.setIfInBounds_toArray, List.set_cons_succ, List.set_cons_zero]
            refine wpAnyH_ready (rs := [11]) (by kernel_rfl) (by simp) ?_
            refine (AllReadyH.cons rfl (fun K hK => ?_) AllReadyH.nil)
            have n4 := bN3.c 4 rfl
            have nf4 := bN3.f 4 rfl
            go_simp
            refine hK.out _ _ (bP3.far hNP.symm) (fun _ => ?_)
            clear hK K n4 nf4
            try simp only [Act.put, List.setIfInBounds_toArray, List.set_cons_zero, List.set_cons_succ]
            refine wpAnyH_done (by kernel_rfl) ?_ _
            go_wp2
            go_roundw
            case rel => exact ⟨k + 1, by omega, by go_num, _, _, hT3.far hNW, HTE.out _ rfl, bN3.set 4 _, bR3.far hNR.symm, ho3.kept (grown_set w3 Nb 4 _) HON.out, hB3.setCell (p := ⟨Nb, 4, none⟩) hwN _, by simpa using hs3⟩
            case measure => simp [intOf]; omega
          · go_simp
            have hb : Below wa.heap.size wa (wa.alloc (.cells #[.int .i64 x, .int .i64 y, .int .i64 (-1), .slice none 0 0, .int .i64 100, .slice none 0 0, .int .i64 bw] EI)) := (Below.refl _ _).alloc (Nat.le_refl _) _
            have bL := Bl.new wa [.int .i64 x, .int .i64 y, .int .i64 (-1), .slice none 0 0, .int .i64 100, .slice none 0 0, .int .i64 bw] EI wa.heap.size rfl
            have bNwb := bNwa.keep hb
            have bPwb := bPwa.keep hb
            have Bwb := below_step Bwa hb
            refine hK.out _ _ bPwb (fun _ => ?_)
            clear hK K
            try simp only [Act.put, List.setIfInBounds_toArray, List.set_cons_zero, List.set_cons_succ]
            obtain ⟨G, hG⟩ : ∃ G, G = wa.heap.size := ⟨_, rfl⟩
            obtain ⟨wb, hn'⟩ : ∃ W, W = wa.alloc (.cells #[.int .i64 x, .int .i64 y, .int .i64 (-1), .slice none 0 0, .int .i64 100, .slice none 0 0, .int .i64 bw] EI) := ⟨_, rfl⟩
            rw [← hn'] at bL bNwb bPwb Bwb ⊢
            rw [← hG] at bL
            try rw [← hG]
            clear hn' hG hb
            refine wpAnyH_ready (rs := [2]) (by kernel_rfl) (by simp) ?_
            refine (AllReadyH.cons rfl (fun K hK => ?_) AllReadyH.nil)
            have q4 := bNwb.c 4 rfl
            go_simp
            refine hK.out _ _ bPwb (fun _ => ?_)
            clear hK K q4
            try simp only [Act.put, List.setIfInBounds_toArray, List.set_cons_zero, List.set_cons_succ]
            refine wpAnyH_ready (rs := [8]) (by kernel_rfl) (by simp) ?_
            refine (AllReadyH.cons rfl (fun K hK => ?_) AllReadyH.nil)
            have hTc := hT.keep (below_step ODV Bwb)
            have hWc : W1.heap.size ≤ wb.heap.size := Nat.le_trans hsV (below_step ODV Bwb).size
            refine step_appE rfl (.tmp 24) (.tmp 29) rfl W1.heap.size G 1 v2 T.length (flatT T) [.int .i64 x, .int .i64 y, .int .i64 (-1), .slice none 0 0, .int .i64 100, .slice none 0 0, .int .i64 bw] rfl rfl hTc.row bL rfl (by simp [Value.oneCell']) HL.out hWc ?_
            intro v3 w3 hrow hg hor
            have hT3 : OwnT w3 W1.heap.size v3 (T ++ [⟨⟨x, y, -1, [], 100, [], bw⟩, .slice none 0 0, .slice none 0 0⟩]) := own_appT hTc hWc ⟨World.ownsRow_nil _ _ _ _, World.ownsRow_nil _ _ _ _⟩ ⟨⟨none, 0, rfl⟩, ⟨none, 0, rfl⟩⟩ ⟨.inl rfl, .inl rfl⟩
              (fun s hs => ⟨apartNil s.u, apartNil s.u, apartNil s.v, apartNil s.v⟩) ⟨.inl rfl, .inl rfl⟩ hrow hg hor
            have hB3 : Below w.heap.size w w3 := below_growT (below_step (below_step hB ODV) Bwb) hTc.row hwW hg
            have bN3 := bNwb.grown hg (neRow hTc.row hNW)
            have bP3 := bPwb.grown hg hneP
            have bR3 := ((bR1.keep ODV).keep Bwb).grown hg (neRow hTc.row hRW)
            have ho3 : OwnP w3 V0.heap.size (.slice x1 own.length y1) own := ((ho1.keep ODV).keep Bwb).kept hg (ownRow HOW.out hTc.row)
            have hs3 := Nat.le_trans hWc hg.size
            clear hg hrow hor
            obtain ⟨x3, y3, rfl⟩ : ∃ x3 y3, v3 = .slice x3 (T.length + 1) y3 := by
              obtain ⟨x3, y3, e3⟩ := hT3.lenV
              exact ⟨x3, y3, by simpa using e3⟩
            refine hK.out _ _ bP3 (fun _ => ?_)
            clear hK K
            try simp only [Act.put, List.setIfInBounds_toArray, List.set_cons_zero, List.set_cons_succ]
            refine wpAnyH_take (i := 9) (v := ?_) rfl (by kernel_rfl) (by kernel_rfl) (by kernel_rfl) (fun _ _ _ h => h) (Or.inl ⟨by rfl, ?_⟩) bP3 ?_
            rotate_left
            · intro wq hSq
              (try dsimp only at hSq)

              go_simp
              try rfl
            change wpAnyH _ _ _ _ _ _ _ (Act.put _ (some 31) _) _
            simp only [Act.put, List.setIfInBounds_toArray, List.set_cons_succ, List.set_cons_zero]
            refine wpAnyH_take (i := 10) (v := ?_) rfl (by kernel_rfl) (by kernel_rfl) (by kernel_rfl) (fun _ _ _ h => h) (Or.inl ⟨by rfl, ?_⟩) bP3 ?_
            rotate_left
            · intro wq hSq
              (try dsimp only at hSq)

              go_simp
              try rfl
            change wpAnyH _ _ _ _ _ _ _ (Act.put _ (some 32) _) _
            simp only [Act.put, List.setIfInBounds_toArray, List.set_cons_succ, List.set_cons_zero]
            refine wpAnyH_ready (rs := [11]) (by kernel_rfl) (by simp) ?_
            refine (AllReadyH.cons rfl (fun K hK => ?_) AllReadyH.nil)
            have n4 := bN3.c 4 rfl
            have nf4 := bN3.f 4 rfl
            go_simp
            refine hK.out _ _ (bP3.far hNP.symm) (fun _ => ?_)
            clear hK K n4 nf4
            try simp only [Act.put, List.setIfInBounds_toArray, List.set_cons_zero, List.set_cons_succ]
            refine wpAnyH_done (by kernel_rfl) ?_ _
            go_wp2
            go_roundw
            case rel => exact ⟨k + 1, by omega, by go_num, _, _, hT3.far hNW, HTE.out _ rfl, bN3.set 4 _, bR3.far hNR.symm, ho3.kept (grown_set w3 Nb 4 _) HON.out, hB3.setCell (p := ⟨Nb, 4, none⟩) hwN _, by simpa using hs3⟩
            case measure => simp [intOf]; omega
    · have hkn : k = n := by omega
      have hltI : ¬ (k : Int) < (own.length : Int) := by rw [← HN.out]; omega
      have e : own.take k = own := List.take_of_length_le (by rw [hkn, HN.out]; exact Nat.le_refl _)
      rw [e] at hTE
      clear hc e
      obtain ⟨x2, y2, rfl⟩ := hT.lenV
      have hrd : RdN wr (.slice x1 own.length y1) (.slice x2 T.length y2) (.slice none 0 0) (newD an own bw) := ⟨ho1.rd, rdOwn hT hTE, RdE.nil _⟩
      have hI := hT.inH
      have HTE := Lib.hid hTE
      clear hTE
      have q0 := bN1.c 0 rfl
      have q1 := bN1.c 1 rfl
      have q2 := bN1.c 2 rfl
      have q3 := bN1.c 3 rfl
      have q4 := bN1.c 4 rfl
      have q5 := bN1.c 5 rfl
      cases hb : newB an own bw
      · have HB := Lib.hid hb
        have en : newN an own bw = nd0 := by unfold newN; rw [if_neg (by rw [hb]; simp)]
        have EN := Lib.hid en
        clear hb en
        go_wp2_with fail
        clear q0 q1 q2 q3 q4 q5
        refine (indok_new hrd HB).mono ?_
        rintro e w5 ⟨rfl, hb⟩
        replace bR1 := bR1.keep hb
        replace hB := below_step hB hb
        clear hb
        have r0 := bR1.c 0 rfl
        have rf0 := bR1.f 0 rfl
        have r1 := bR1.c 1 rfl
        have rf1 := bR1.f 1 rfl
        have r2 := bR1.c 2 rfl
        have rf2 := bR1.f 2 rfl
        have r3 := bR1.c 3 rfl
        have rf3 := bR1.f 3 rfl
        have r4 := bR1.c 4 rfl
        have rf4 := bR1.f 4 rfl
        have r5 := bR1.c 5 rfl
        have rf5 := bR1.f 5 rfl
        go_wp2_with fail
        have bE := ((((((bR1.set 0 (.int .i64 0)).set 1 (.slice none 0 0)).set 2 (.int .i64 0)).set 3 (.bool false)).set 4 (.slice none 0 0)).set 5 (.slice none 0 0))
        have e0 := bE.c 0 rfl
        have e1 := bE.c 1 rfl
        have e2 := bE.c 2 rfl
        have e3 := bE.c 3 rfl
        have e4 := bE.c 4 rfl
        have e5 := bE.c 5 rfl
        rw [EN.out, HB.out]
        exact bodyPost_ret (v := .tuple #[.agg #[.int .i64 0, .slice none 0 0, .int .i64 0, .bool false, .slice none 0 0, .slice none 0 0], .bool false]) (by simp [results, Try.results31, go_sem, e0, e1, e2, e3, e4, e5]) rfl
          ⟨_, _, _, [], [], _, _, _, rfl, ndT_nil _, rfl, rfl, by have := ((((((hB.setCell (p := ⟨R, 0, none⟩) hwR (.int .i64 0)).setCell (p := ⟨R, 1, none⟩) hwR (.slice none 0 0)).setCell (p := ⟨R, 2, none⟩) hwR (.int .i64 0)).setCell (p := ⟨R, 3, none⟩) hwR (.bool false)).setCell (p := ⟨R, 4, none⟩) hwR (.slice none 0 0)).setCell (p := ⟨R, 5, none⟩) hwR (.slice none 0 0)).size; simpa using this, ((((((hB.setCell (p := ⟨R, 0, none⟩) hwR (.int .i64 0)).setCell (p := ⟨R, 1, none⟩) hwR (.slice none 0 0)).setCell (p := ⟨R, 2, none⟩) hwR (.int .i64 0)).setCell (p := ⟨R, 3, none⟩) hwR (.bool false)).setCell (p := ⟨R, 4, none⟩) hwR (.slice none 0 0)).setCell (p := ⟨R, 5, none⟩) hwR (.slice none 0 0))⟩
      · have HB := Lib.hid hb
        have en : newN an own bw = newD an own bw := by unfold newN; rw [if_pos hb]
        have EN := Lib.hid en
        clear hb en
        go_wp2_with fail
        clear q0 q1 q2 q3 q4 q5
        refine (indok_new hrd HB).mono ?_
        rintro e w5 ⟨rfl, hb⟩
        have hs5 := hb.size
        replace bR1 := bR1.keep hb
        replace bN1 := bN1.keep hb
        replace hT := hT.keep hb
        replace ho1 := ho1.keep hb
        replace hB := below_step hB hb
        have hN : NdT w5 V0.heap.size W1.heap.size w5.heap.size w5.heap.size (.slice x1 own.length y1) (.slice x2 T.length y2) (.slice none 0 0) own T [] :=
          ⟨ho1, HOW.out, hT, hT.inH, OwnT.nil _ _, (OwnT.nil w5 w5.heap.size).inH, hV0W, Nat.le_trans hsz hs5, Nat.le_refl _⟩
        clear hb hI
        have q0 := bN1.c 0 rfl
        have r0 := bR1.c 0 rfl
        have rf0 := bR1.f 0 rfl
        have q1 := bN1.c 1 rfl
        have r1 := bR1.c 1 rfl
        have rf1 := bR1.f 1 rfl
        have q2 := bN1.c 2 rfl
        have r2 := bR1.c 2 rfl
        have rf2 := bR1.f 2 rfl
        have q3 := bN1.c 3 rfl
        have r3 := bR1.c 3 rfl
        have rf3 := bR1.f 3 rfl
        have q4 := bN1.c 4 rfl
        have r4 := bR1.c 4 rfl
        have rf4 := bR1.f 4 rfl
        have q5 := bN1.c 5 rfl
        have r5 := bR1.c 5 rfl
        have rf5 := bR1.f 5 rfl
        go_wp2_with fail
        have bE := ((((((bR1.set 0 (.int .i64 an)).set 1 (.slice x1 own.length y1)).set 2 (.int .i64 bw)).set 3 (.bool false)).set 4 (.slice x2 T.length y2)).set 5 (.slice none 0 0))
        have e0 := bE.c 0 rfl
        have e1 := bE.c 1 rfl
        have e2 := bE.c 2 rfl
        have e3 := bE.c 3 rfl
        have e4 := bE.c 4 rfl
        have e5 := bE.c 5 rfl
        rw [EN.out, HB.out]
        exact bodyPost_ret (v := .tuple #[.agg #[.int .i64 an, .slice x1 own.length y1, .int .i64 bw, .bool false, .slice x2 T.length y2, .slice none 0 0], .bool true]) (by simp [results, Try.results31, go_sem, e0, e1, e2, e3, e4, e5]) rfl
          ⟨_, _, _, T, [], V0.heap.size, W1.heap.size, w5.heap.size, rfl, by simpa [newD] using ((((((hN.far (C := R) (o := 0) (u := .int .i64 an) hRV).far (C := R) (o := 1) (u := .slice x1 own.length y1) hRV).far (C := R) (o := 2) (u := .int .i64 bw) hRV).far (C := R) (o := 3) (u := .bool false) hRV).far (C := R) (o := 4) (u := .slice x2 T.length y2) hRV).far (C := R) (o := 5) (u := .slice none 0 0) hRV), HTE.out, rfl, hwV, ((((((hB.setCell (p := ⟨R, 0, none⟩) hwR (.int .i64 an)).setCell (p := ⟨R, 1, none⟩) hwR (.slice x1 own.length y1)).setCell (p := ⟨R, 2, none⟩) hwR (.int .i64 bw)).setCell (p := ⟨R, 3, none⟩) hwR (.bool false)).setCell (p := ⟨R, 4, none⟩) hwR (.slice x2 T.length y2)).setCell (p := ⟨R, 5, none⟩) hwR (.slice none 0 0))⟩
end Go.Proofs.Ytaiffofmhfflkaa
namespace Go.Proofs.Ytaiffofmhfflkaa
open Go.ChangeShapes Go.WideShapes Go.ChangeAt Go.RowKit Go.BigFrame Go.Joins
set_option linter.unusedVariables false
set_option linter.unusedSimpArgs false
set_option maxRecDepth 100000

theorem EntAt.setN {w : World} {b o N j : Nat} {E : Ent} {x0 x2 : Int} {d : Bool} {y : Value} {s1 s4 s5 : Value} (h : EntAt w b o E) (hp : E.p = []) (hc : E.c = []) (bN : Bl w N [.int .i64 x0, s1, .int .i64 x2, .bool d, s4, s5]) (q1 : ∃ a n c, s1 = .slice a n c) (q4 : ∃ a n c, s4 = .slice a n c) (q5 : ∃ a n c, s5 = .slice a n c) (hj : j < 6) : EntAt (w.setCell ⟨N, j, none⟩ y) b o E := by
  obtain ⟨pv, cv, hpv, hcv, k0, k1, k2, k3, k4, k5, k6⟩ := h
  obtain ⟨a1, n1, c1, rfl⟩ := q1
  obtain ⟨a4, n4, c4, rfl⟩ := q4
  obtain ⟨a5, n5, c5, rfl⟩ := q5
  have nilI : ∀ {v : Value} {l : List Int}, l = [] → RdI w v l → RdI (w.setCell ⟨N, j, none⟩ y) v l := fun {v l} e q => by
    subst e
    obtain ⟨r1, r2, r3 | ⟨_, _, _, _, r4, _⟩⟩ := q
    · exact ⟨r1, r2, .inl r3⟩
    · simp at r4
  by_cases hb : b = N
  · subst hb
    have ho : 6 ≤ o := by
      by_cases h6 : 6 ≤ o
      · exact h6
      · exfalso
        have c0 := bN.c 0 rfl
        have c1' := bN.c 1 rfl
        have c2 := bN.c 2 rfl
        have c3 := bN.c 3 rfl
        have c4' := bN.c 4 rfl
        have c5' := bN.c 5 rfl
        have : o = 0 ∨ o = 1 ∨ o = 2 ∨ o = 3 ∨ o = 4 ∨ o = 5 := by omega
        rcases this with rfl | rfl | rfl | rfl | rfl | rfl
        · rw [c1'] at k1; injection k1 with k1; cases k1
        · rw [c1'] at k0; injection k0 with k0; cases k0
        · rw [c3] at k1; injection k1 with k1; cases k1
        · rw [c3] at k0; injection k0 with k0; cases k0
        · rw [c4'] at k0; injection k0 with k0; cases k0
        · rw [c5'] at k0; injection k0 with k0; cases k0
    have ne : ∀ i, (⟨b, j, none⟩ : Addr) ≠ ⟨b, o + i, none⟩ := fun i q => by injection q with q1 q2; omega
    exact ⟨pv, cv, nilI hp hpv, nilI hc hcv, set_other (fun q => by injection q with q1 q2; omega) k0, set_other (ne 1) k1, set_other (ne 2) k2, set_other (ne 3) k3, set_other (ne 4) k4, set_other (ne 5) k5, set_other (ne 6) k6⟩
  · have ne : ∀ i, (⟨N, j, none⟩ : Addr) ≠ ⟨b, i, none⟩ := fun i q => by injection q with q1 q2; exact hb q1.symm
    exact ⟨pv, cv, nilI hp hpv, nilI hc hcv, set_other (ne _) k0, set_other (ne _) k1, set_other (ne _) k2, set_other (ne _) k3, set_other (ne _) k4, set_other (ne _) k5, set_other (ne _) k6⟩
theorem RdE.setN {w : World} {N j : Nat} {u y : Value} {own : List (Int × Int)} {bw : Int} {x0 x2 : Int} {d : Bool} {s1 s4 s5 : Value} (h : RdE w u (own.map (entOf bw))) (bN : Bl w N [.int .i64 x0, s1, .int .i64 x2, .bool d, s4, s5]) (q1 : ∃ a n c, s1 = .slice a n c) (q4 : ∃ a n c, s4 = .slice a n c) (q5 : ∃ a n c, s5 = .slice a n c) (hj : j < 6) : RdE (w.setCell ⟨N, j, none⟩ y) u (own.map (entOf bw)) := by
  obtain ⟨h1, h2 | ⟨b, o, c, hv, hp, hc⟩⟩ := h
  · exact ⟨h1, .inl h2⟩
  · refine ⟨h1, .inr ⟨b, o, c, hv, hp, fun i hi => ?_⟩⟩
    have e := getD_map bw own i (by simpa using hi)
    have q := hc i hi
    rw [e] at q ⊢
    exact q.setN rfl rfl bN q1 q4 q5 hj
theorem rdNew {w : World} {o r s : Value} {an bw : Int} {own : List (Int × Int)} (h1 : RdP w o own) (h2 : RdE w r (own.map (entOf bw))) (h3 : RdE w s []) : RdN w o r s (newD an own bw) := ⟨h1, h2, h3⟩
theorem putK_up {Z : Ent} {L : List Ent} (h : ∀ i, i < L.length → 0 < ecmp Z.a Z.n Z.pe (L.getD i e0).a (L.getD i e0).n (L.getD i e0).pe) : ∀ k, k ≤ L.length → putK Z L k = (L.take k, false)
  | 0, _ => rfl
  | k + 1, hk => by
    have hp := h k (by omega)
    rw [putK, putK_up h k (by omega)]
    rw [if_neg (by rintro ⟨-, q⟩; omega), if_neg (by omega), List.take_add_one, List.getElem?_eq_getElem (by omega)]
    have e : L.getD k e0 = L[k] := by simp [List.getD, show k < L.length by omega]
    rw [e] at hp ⊢
    simp
    omega
theorem putL_up {Z : Ent} {L : List Ent} (h : ∀ i, i < L.length → 0 < ecmp Z.a Z.n Z.pe (L.getD i e0).a (L.getD i e0).n (L.getD i e0).pe) : putL Z L = L ++ [Z] := by
  unfold putL
  rw [putK_up h L.length (Nat.le_refl _)]
  simp
theorem ecmp_gt {a n pe b m qe : Int} (h : ltP (b, m) (a, n)) : 0 < ecmp a n pe b m qe := by
  unfold ltP at h
  dsimp only at h
  unfold ecmp cmp2 cmp1 orv
  split <;> split <;> (try split) <;> (try split) <;> (try split) <;> omega
theorem putL_own {own : List (Int × Int)} {bw x y : Int} {k : Nat} (hs : own.Pairwise ltP) (hk : k < own.length) (hx : own.getD k (0, 0) = (x, y)) : putL (entOf bw (x, y)) ((own.take k).map (entOf bw)) = (own.take (k + 1)).map (entOf bw) := by
  have hg : own[k] = (x, y) := by simpa [List.getD, hk] using hx
  rw [putL_up, List.take_add_one, List.getElem?_eq_getElem hk, hg, List.map_append]
  · rfl
  · intro i hi
    have hi2 : i < (own.take k).length := by simpa using hi
    rw [getD_map bw _ i hi2]
    have hik : i < k := by rw [List.length_take] at hi2; omega
    have := List.pairwise_iff_getElem.1 hs i k (by omega) hk hik
    rw [hg] at this
    have e : (own.take k).getD i (0, 0) = own[i] := by
      rw [List.getD_eq_getElem?_getD, List.getElem?_take, if_pos hik, List.getElem?_eq_getElem (by omega)]
      rfl
    rw [e]
    exact ecmp_gt this
theorem sput_nil {v : Value} {L M : List Ent} {a n bw : Int} (w : World) (h : RdE w v L) (hn1 : L.length ≤ 1048576) (H : Hid (putL (entOf bw (a, n)) L = M)) :
    Calls Try.prog 59 #[.agg #[v], .agg #[.int .i64 a, .int .i64 n, .int .i64 (-1), .slice none 0 0, .int .i64 100, .slice none 0 0, .int .i64 bw]] w fun e w' => ∃ u, e = .returned (.agg #[u]) ∧ RdE w' u M ∧ Below w.heap.size w w' := by
  have q := sput_any v L (entOf bw (a, n)) none 0 none 0 w h (rdI_nil8 w) (rdI_nil8 w) hn1
  rw [H.out] at q
  exact q
set_option maxHeartbeats 4000000 in
theorem sl8new_any (av : Value) (own : List (Int × Int)) (an bw : Int) (w : World) (h : RdP w av own) (hn : own.length ≤ 2) (hs : own.Pairwise ltP) :
    Calls Try.prog 72 #[.int .i64 an, av, .int .i64 bw] w fun e w' => ∃ o r, e = .returned (.agg #[.int .i64 an, o, .int .i64 bw, .bool false, r, .slice none 0 0]) ∧ RdN w' o r (.slice none 0 0) (newD an own bw) ∧ Below w.heap.size w w' := by
  obtain ⟨a, c, rfl, hc⟩ := h.el
  obtain ⟨n, hn'⟩ : ∃ n, n = own.length := ⟨_, rfl⟩
  rw [← hn'] at hc
  have HN := Lib.hid hn'
  have HSS := Lib.hid hs
  have hnb : n ≤ 2 := by omega
  have hob : own.length ≤ 2 := hn
  clear hn' hn hs
  obtain ⟨bR, bN, B1, z⟩ := two w [.int .i64 0, .slice none 0 0, .int .i64 0, .bool false, .slice none 0 0, .slice none 0 0] [.int .i64 an, .slice a own.length c, .int .i64 bw, .bool false, .slice none 0 0, .slice none 0 0] 35 35
  go_enter Try.func72, Try.ntmps72
  go_wp2_with fail
  obtain ⟨R, hR⟩ : ∃ R, R = w.heap.size := ⟨_, rfl⟩
  obtain ⟨Nb, hNb⟩ : ∃ Nb, Nb = w.heap.size + 1 := ⟨_, rfl⟩
  obtain ⟨V, hV⟩ : ∃ V, V = (w.alloc (.cells #[.int .i64 0, .slice none 0 0, .int .i64 0, .bool false, .slice none 0 0, .slice none 0 0] 35)).alloc (.cells #[.int .i64 an, .slice a own.length c, .int .i64 bw, .bool false, .slice none 0 0, .slice none 0 0] 35) := ⟨_, rfl⟩
  rw [← hV] at bR bN B1 z ⊢
  rw [← hR] at bR
  rw [← hNb] at bN
  try rw [← hNb]
  try rw [← hR]
  have hwR : w.heap.size ≤ R := by omega
  have hwN : w.heap.size ≤ Nb := by omega
  have hNR : Nb ≠ R := by omega
  clear hV hR hNb z
  go_loopw [8] (fun q wr => ∃ k : Nat, k ≤ n ∧ q = .int .i64 k ∧ ∃ (v2 : Value), RdE wr v2 ((own.take k).map (entOf bw)) ∧ Bl wr Nb [.int .i64 an, .slice a own.length c, .int .i64 bw, .bool false, v2, .slice none 0 0] ∧ Bl wr R [.int .i64 0, .slice none 0 0, .int .i64 0, .bool false, .slice none 0 0, .slice none 0 0] ∧ Below w.heap.size w wr) (fun q _ => n - (intOf q).toNat)
  case atStart => exact ⟨0, Nat.zero_le _, rfl, _, RdE.nil _, bN, bR, B1⟩
  case round =>
    clear bN bR B1
    obtain ⟨k, hk, rfl, v2, hu, bN1, bR1, hB⟩ := hrel
    by_cases hlt : k < n
    · have hltI : (k : Int) < (own.length : Int) := by rw [← HN.out]; omega
      have hltN : k < own.length := by rw [← HN.out]; exact hlt
      obtain ⟨b, o, rfl, d0, d1⟩ := hc k hlt
      obtain ⟨⟨x, y⟩, hx⟩ : ∃ q, own.getD k (0, 0) = q := ⟨_, rfl⟩
      rw [hx] at d0 d1
      have HP := Lib.hid (putL_own (bw := bw) HSS.out hltN hx)
      have HLn : Hid (((own.take k).map (entOf bw)).length ≤ 1048576) := Lib.hid (by rw [List.length_map, List.length_take]; omega)
      have HC := Lib.hid hc
      have hsl : ∃ a n c, v2 = .slice a n c := by
        obtain ⟨a, c, e⟩ := hu.len
        exact ⟨_, _, _, e⟩
      clear hx hc
      go_wp2_with fail
      refine wp_region_held_drew (S := fun w' => Below w.heap.size w w') (by kernel_rfl) (below_step hB (over_drew _)) (fun hHeld => ?_)
      clear hHeld
      obtain ⟨D, hD⟩ : ∃ D, D = wr.drew := ⟨_, rfl⟩
      have ODW : Over wr D := by rw [hD]; exact over_drew _
      rw [← hD]
      clear hD
      have bND := bN1.keep ODW
      have huD := hu.keep ODW
      have BD := below_step hB ODW
      have ODD := ODW
      refine wpAnyH_take (i := 0) (v := ?_) rfl (by kernel_rfl) (by kernel_rfl) (by kernel_rfl) (fun _ _ _ h => h) (Or.inl ⟨by rfl, ?_⟩) BD ?_
      rotate_left
      · intro wq hSq
        (try dsimp only at hSq)

        go_simp
        try rfl
      change wpAnyH _ _ _ _ _ _ _ (Act.put _ (some 19) _) _
      simp only [Act.put, List.setIfInBounds_toArray, List.set_cons_succ, List.set_cons_zero]
      refine wpAnyH_take (i := 2) (v := ?_) rfl (by kernel_rfl) (by kernel_rfl) (by kernel_rfl) (fun _ _ _ h => h) (Or.inl ⟨by rfl, ?_⟩) BD ?_
      rotate_left
      · intro wq hSq
        (try dsimp only at hSq)

        go_simp
        try rfl
      change wpAnyH _ _ _ _ _ _ _ (Act.put _ (some 21) _) _
      simp only [Act.put, List.setIfInBounds_toArray, List.set_cons_succ, List.set_cons_zero]
      refine wpAnyH_take (i := 3) (v := ?_) rfl (by kernel_rfl) (by kernel_rfl) (by kernel_rfl) (fun _ _ _ h => h) (Or.inl ⟨by rfl, ?_⟩) BD ?_
      rotate_left
      · intro wq hSq
        (try dsimp only at hSq)

        go_simp
        try rfl
      change wpAnyH _ _ _ _ _ _ _ (Act.put _ (some 22) _) _
      simp only [Act.put, List.setIfInBounds_toArray, List.set_cons_succ, List.set_cons_zero]
      refine wpAnyH_take (i := 4) (v := ?_) rfl (by kernel_rfl) (by kernel_rfl) (by kernel_rfl) (fun _ _ _ h => h) (Or.inl ⟨by rfl, ?_⟩) BD ?_
      rotate_left
      · intro wq hSq
        (try dsimp only at hSq)

        go_simp
        try rfl
      change wpAnyH _ _ _ _ _ _ _ (Act.put _ (some 23) _) _
      simp only [Act.put, List.setIfInBounds_toArray, List.set_cons_succ, List.set_cons_zero]
      refine wpAnyH_take (i := 5) (v := ?_) rfl (by kernel_rfl) (by kernel_rfl) (by kernel_rfl) (fun _ _ _ h => h) (Or.inl ⟨by rfl, ?_⟩) BD ?_
      rotate_left
      · intro wq hSq
        (try dsimp only at hSq)
        have q0 := cell_keep hSq (World.block_lt_of_cell? w _ d0) d0
        have q1 := cell_keep hSq (World.block_lt_of_cell? w _ d1) d1
        go_simp
        try rfl
      change wpAnyH _ _ _ _ _ _ _ (Act.put _ (some 24) _) _
      simp only [Act.put, List.setIfInBounds_toArray, List.set_cons_succ, List.set_cons_zero]
      refine wpAnyH_ready (rs := [1, 6]) (by kernel_rfl) (by simp) ?_
      refine (AllReadyH.cons rfl (fun K hK => ?_) (AllReadyH.cons rfl (fun K hK => ?_) AllReadyH.nil))
      · have q4 := bND.c 4 rfl
        go_simp
        refine hK.out _ _ BD (fun _ => ?_)
        clear hK K q4
        try simp only [Act.put, List.setIfInBounds_toArray, List.set_cons_zero, List.set_cons_succ]
        refine wpAnyH_ready (rs := [6]) (by kernel_rfl) (by simp) ?_
        refine (AllReadyH.cons rfl (fun K hK => ?_) AllReadyH.nil)
        have q0 := bND.c 0 rfl
        have q1 := bND.c 1 rfl
        have q2 := bND.c 2 rfl
        have q3 := bND.c 3 rfl
        have q4 := bND.c 4 rfl
        have q5 := bND.c 5 rfl
        go_simp
        refine hK.out _ _ BD (fun _ => ?_)
        clear hK K q0 q1 q2 q3 q4 q5
        try simp only [Act.put, List.setIfInBounds_toArray, List.set_cons_zero, List.set_cons_succ]
        refine wpAnyH_ready (rs := [7]) (by kernel_rfl) (by simp) ?_
        refine (AllReadyH.cons rfl (fun K hK => ?_) AllReadyH.nil)
        go_simp
        refine (smine8_l an bw false _ _ _ D).mono ?_
        rintro e wa ⟨rfl, hb⟩
        have bNwa := bND.keep hb
        have huwa := huD.keep hb
        have Bwa := below_step BD hb
        have ODwa := below_step ODD hb
        clear hb
        refine hK.out _ _ Bwa (fun _ => ?_)
        clear hK K
        try simp only [Act.put, List.setIfInBounds_toArray, List.set_cons_zero, List.set_cons_succ]
        refine wpAnyH_take (i := 8) (v := ?_) rfl (by kernel_rfl) (by kernel_rfl) (by kernel_rfl) (fun _ _ _ h => h) (Or.inl ⟨by rfl, ?_⟩) Bwa ?_
        rotate_left
        · intro wq hSq
          (try dsimp only at hSq)

          go_simp
          try rfl
        change wpAnyH _ _ _ _ _ _ _ (Act.put _ (some 27) _) _
        simp only [Act.put, List.setIfInBounds_toArray, List.set_cons_succ, List.set_cons_zero]
        refine wpAnyH_ready (rs := [9]) (by kernel_rfl) (by simp) ?_
        refine (AllReadyH.cons rfl (fun K hK => ?_) AllReadyH.nil)
        go_simp
        refine (sput_nil wa huwa HLn.out HP.out).mono ?_
        rintro e w3 ⟨v3, rfl, hu3, hb⟩
        have bN3 := bNwa.keep hb
        have B3 := below_step Bwa hb
        have bR3 := bR1.keep (below_step ODwa hb)
        obtain ⟨x3, y3, hv3⟩ := hu3.len
        obtain ⟨m3, hm3⟩ : ∃ m, m = ((own.take (k + 1)).map (entOf bw)).length := ⟨_, rfl⟩
        rw [← hm3] at hv3
        subst hv3
        clear hm3
        clear hb
        refine hK.out _ _ B3 (fun _ => ?_)
        clear hK K
        try simp only [Act.put, List.setIfInBounds_toArray, List.set_cons_zero, List.set_cons_succ]
        refine wpAnyH_take (i := 10) (v := ?_) rfl (by kernel_rfl) (by kernel_rfl) (by kernel_rfl) (fun _ _ _ h => h) (Or.inl ⟨by rfl, ?_⟩) B3 ?_
        rotate_left
        · intro wq hSq
          (try dsimp only at hSq)

          go_simp
          try rfl
        change wpAnyH _ _ _ _ _ _ _ (Act.put _ (some 29) _) _
        simp only [Act.put, List.setIfInBounds_toArray, List.set_cons_succ, List.set_cons_zero]
        refine wpAnyH_ready (rs := [11]) (by kernel_rfl) (by simp) ?_
        refine (AllReadyH.cons rfl (fun K hK => ?_) AllReadyH.nil)
        have n4 := bN3.c 4 rfl
        have nf4 := bN3.f 4 rfl
        have hu4 := hu3.setN (j := 4) (y := .slice x3 m3 y3) bN3 ⟨_, _, _, rfl⟩ hsl ⟨_, _, _, rfl⟩ (by omega)
        have B4 := B3.setCell (p := ⟨Nb, 4, none⟩) hwN (.slice x3 m3 y3)
        go_simp
        refine hK.out _ _ B4 (fun _ => ?_)
        clear hK K n4 nf4
        try simp only [Act.put, List.setIfInBounds_toArray, List.set_cons_zero, List.set_cons_succ]
        refine wpAnyH_done (by kernel_rfl) ?_ _
        go_wp2
        go_roundw
        case rel => exact ⟨k + 1, by omega, by go_num, _, hu4, bN3.set 4 _, bR3.far hNR.symm, B4⟩
        case measure => simp [intOf]; omega
      · have q0 := bND.c 0 rfl
        have q1 := bND.c 1 rfl
        have q2 := bND.c 2 rfl
        have q3 := bND.c 3 rfl
        have q4 := bND.c 4 rfl
        have q5 := bND.c 5 rfl
        go_simp
        refine hK.out _ _ BD (fun _ => ?_)
        clear hK K q0 q1 q2 q3 q4 q5
        try simp only [Act.put, List.setIfInBounds_toArray, List.set_cons_zero, List.set_cons_succ]
        refine wpAnyH_ready (rs := [1, 7]) (by kernel_rfl) (by simp) ?_
        refine (AllReadyH.cons rfl (fun K hK => ?_) (AllReadyH.cons rfl (fun K hK => ?_) AllReadyH.nil))
        · have q4 := bND.c 4 rfl
          go_simp
          refine hK.out _ _ BD (fun _ => ?_)
          clear hK K q4
          try simp only [Act.put, List.setIfInBounds_toArray, List.set_cons_zero, List.set_cons_succ]
          refine wpAnyH_ready (rs := [7]) (by kernel_rfl) (by simp) ?_
          refine (AllReadyH.cons rfl (fun K hK => ?_) AllReadyH.nil)
          go_simp
          refine (smine8_l an bw false _ _ _ D).mono ?_
          rintro e wa ⟨rfl, hb⟩
          have bNwa := bND.keep hb
          have huwa := huD.keep hb
          have Bwa := below_step BD hb
          have ODwa := below_step ODD hb
          clear hb
          refine hK.out _ _ Bwa (fun _ => ?_)
          clear hK K
          try simp only [Act.put, List.setIfInBounds_toArray, List.set_cons_zero, List.set_cons_succ]
          refine wpAnyH_take (i := 8) (v := ?_) rfl (by kernel_rfl) (by kernel_rfl) (by kernel_rfl) (fun _ _ _ h => h) (Or.inl ⟨by rfl, ?_⟩) Bwa ?_
          rotate_left
          · intro wq hSq
            (try dsimp only at hSq)

            go_simp
            try rfl
          change wpAnyH _ _ _ _ _ _ _ (Act.put _ (some 27) _) _
          simp only [Act.put, List.setIfInBounds_toArray, List.set_cons_succ, List.set_cons_zero]
          refine wpAnyH_ready (rs := [9]) (by kernel_rfl) (by simp) ?_
          refine (AllReadyH.cons rfl (fun K hK => ?_) AllReadyH.nil)
          go_simp
          refine (sput_nil wa huwa HLn.out HP.out).mono ?_
          rintro e w3 ⟨v3, rfl, hu3, hb⟩
          have bN3 := bNwa.keep hb
          have B3 := below_step Bwa hb
          have bR3 := bR1.keep (below_step ODwa hb)
          obtain ⟨x3, y3, hv3⟩ := hu3.len
          obtain ⟨m3, hm3⟩ : ∃ m, m = ((own.take (k + 1)).map (entOf bw)).length := ⟨_, rfl⟩
          rw [← hm3] at hv3
          subst hv3
          clear hm3
          clear hb
          refine hK.out _ _ B3 (fun _ => ?_)
          clear hK K
          try simp only [Act.put, List.setIfInBounds_toArray, List.set_cons_zero, List.set_cons_succ]
          refine wpAnyH_take (i := 10) (v := ?_) rfl (by kernel_rfl) (by kernel_rfl) (by kernel_rfl) (fun _ _ _ h => h) (Or.inl ⟨by rfl, ?_⟩) B3 ?_
          rotate_left
          · intro wq hSq
            (try dsimp only at hSq)

            go_simp
            try rfl
          change wpAnyH _ _ _ _ _ _ _ (Act.put _ (some 29) _) _
          simp only [Act.put, List.setIfInBounds_toArray, List.set_cons_succ, List.set_cons_zero]
          refine wpAnyH_ready (rs := [11]) (by kernel_rfl) (by simp) ?_
          refine (AllReadyH.cons rfl (fun K hK => ?_) AllReadyH.nil)
          have n4 := bN3.c 4 rfl
          have nf4 := bN3.f 4 rfl
          have hu4 := hu3.setN (j := 4) (y := .slice x3 m3 y3) bN3 ⟨_, _, _, rfl⟩ hsl ⟨_, _, _, rfl⟩ (by omega)
          have B4 := B3.setCell (p := ⟨Nb, 4, none⟩) hwN (.slice x3 m3 y3)
          go_simp
          refine hK.out _ _ B4 (fun _ => ?_)
          clear hK K n4 nf4
          try simp only [Act.put, List.setIfInBounds_toArray, List.set_cons_zero, List.set_cons_succ]
          refine wpAnyH_done (by kernel_rfl) ?_ _
          go_wp2
          go_roundw
          case rel => exact ⟨k + 1, by omega, by go_num, _, hu4, bN3.set 4 _, bR3.far hNR.symm, B4⟩
          case measure => simp [intOf]; omega
        · go_simp
          refine (smine8_l an bw false _ _ _ D).mono ?_
          rintro e wa ⟨rfl, hb⟩
          have bNwa := bND.keep hb
          have huwa := huD.keep hb
          have Bwa := below_step BD hb
          have ODwa := below_step ODD hb
          clear hb
          refine hK.out _ _ Bwa (fun _ => ?_)
          clear hK K
          try simp only [Act.put, List.setIfInBounds_toArray, List.set_cons_zero, List.set_cons_succ]
          refine wpAnyH_take (i := 8) (v := ?_) rfl (by kernel_rfl) (by kernel_rfl) (by kernel_rfl) (fun _ _ _ h => h) (Or.inl ⟨by rfl, ?_⟩) Bwa ?_
          rotate_left
          · intro wq hSq
            (try dsimp only at hSq)

            go_simp
            try rfl
          change wpAnyH _ _ _ _ _ _ _ (Act.put _ (some 27) _) _
          simp only [Act.put, List.setIfInBounds_toArray, List.set_cons_succ, List.set_cons_zero]
          refine wpAnyH_ready (rs := [1]) (by kernel_rfl) (by simp) ?_
          refine (AllReadyH.cons rfl (fun K hK => ?_) AllReadyH.nil)
          have q4 := bNwa.c 4 rfl
          go_simp
          refine hK.out _ _ Bwa (fun _ => ?_)
          clear hK K q4
          try simp only [Act.put, List.setIfInBounds_toArray, List.set_cons_zero, List.set_cons_succ]
          refine wpAnyH_ready (rs := [9]) (by kernel_rfl) (by simp) ?_
          refine (AllReadyH.cons rfl (fun K hK => ?_) AllReadyH.nil)
          go_simp
          refine (sput_nil wa huwa HLn.out HP.out).mono ?_
          rintro e w3 ⟨v3, rfl, hu3, hb⟩
          have bN3 := bNwa.keep hb
          have B3 := below_step Bwa hb
          have bR3 := bR1.keep (below_step ODwa hb)
          obtain ⟨x3, y3, hv3⟩ := hu3.len
          obtain ⟨m3, hm3⟩ : ∃ m, m = ((own.take (k + 1)).map (entOf bw)).length := ⟨_, rfl⟩
          rw [← hm3] at hv3
          subst hv3
          clear hm3
          clear hb
          refine hK.out _ _ B3 (fun _ => ?_)
          clear hK K
          try simp only [Act.put, List.setIfInBounds_toArray, List.set_cons_zero, List.set_cons_succ]
          refine wpAnyH_take (i := 10) (v := ?_) rfl (by kernel_rfl) (by kernel_rfl) (by kernel_rfl) (fun _ _ _ h => h) (Or.inl ⟨by rfl, ?_⟩) B3 ?_
          rotate_left
          · intro wq hSq
            (try dsimp only at hSq)

            go_simp
            try rfl
          change wpAnyH _ _ _ _ _ _ _ (Act.put _ (some 29) _) _
          simp only [Act.put, List.setIfInBounds_toArray, List.set_cons_succ, List.set_cons_zero]
          refine wpAnyH_ready (rs := [11]) (by kernel_rfl) (by simp) ?_
          refine (AllReadyH.cons rfl (fun K hK => ?_) AllReadyH.nil)
          have n4 := bN3.c 4 rfl
          have nf4 := bN3.f 4 rfl
          have hu4 := hu3.setN (j := 4) (y := .slice x3 m3 y3) bN3 ⟨_, _, _, rfl⟩ hsl ⟨_, _, _, rfl⟩ (by omega)
          have B4 := B3.setCell (p := ⟨Nb, 4, none⟩) hwN (.slice x3 m3 y3)
          go_simp
          refine hK.out _ _ B4 (fun _ => ?_)
          clear hK K n4 nf4
          try simp only [Act.put, List.setIfInBounds_toArray, List.set_cons_zero, List.set_cons_succ]
          refine wpAnyH_done (by kernel_rfl) ?_ _
          go_wp2
          go_roundw
          case rel => exact ⟨k + 1, by omega, by go_num, _, hu4, bN3.set 4 _, bR3.far hNR.symm, B4⟩
          case measure => simp [intOf]; omega
    · have hkn : k = n := by omega
      have hltI : ¬ (k : Int) < (own.length : Int) := by rw [← HN.out]; omega
      have e : own.take k = own := List.take_of_length_le (by rw [hkn, HN.out]; exact Nat.le_refl _)
      rw [e] at hu
      clear hc e
      obtain ⟨x2, y2, hv2⟩ := hu.len
      rw [List.length_map] at hv2
      subst hv2
      have q0 := bN1.c 0 rfl
      have r0 := bR1.c 0 rfl
      have rf0 := bR1.f 0 rfl
      have q1 := bN1.c 1 rfl
      have r1 := bR1.c 1 rfl
      have rf1 := bR1.f 1 rfl
      have q2 := bN1.c 2 rfl
      have r2 := bR1.c 2 rfl
      have rf2 := bR1.f 2 rfl
      have q3 := bN1.c 3 rfl
      have r3 := bR1.c 3 rfl
      have rf3 := bR1.f 3 rfl
      have q4 := bN1.c 4 rfl
      have r4 := bR1.c 4 rfl
      have rf4 := bR1.f 4 rfl
      have q5 := bN1.c 5 rfl
      have r5 := bR1.c 5 rfl
      have rf5 := bR1.f 5 rfl
      go_wp2_with fail
      have hu0r := hu.setN (j := 0) (y := .int .i64 an) bR1 ⟨_, _, _, rfl⟩ ⟨_, _, _, rfl⟩ ⟨_, _, _, rfl⟩ (by omega)
      have bR0r := bR1.set 0 (.int .i64 an)
      simp only [List.set_cons_zero, List.set_cons_succ] at bR0r
      have hu1r := hu0r.setN (j := 1) (y := .slice a own.length c) bR0r ⟨_, _, _, rfl⟩ ⟨_, _, _, rfl⟩ ⟨_, _, _, rfl⟩ (by omega)
      have bR1r := bR0r.set 1 (.slice a own.length c)
      simp only [List.set_cons_zero, List.set_cons_succ] at bR1r
      have hu2r := hu1r.setN (j := 2) (y := .int .i64 bw) bR1r ⟨_, _, _, rfl⟩ ⟨_, _, _, rfl⟩ ⟨_, _, _, rfl⟩ (by omega)
      have bR2r := bR1r.set 2 (.int .i64 bw)
      simp only [List.set_cons_zero, List.set_cons_succ] at bR2r
      have hu3r := hu2r.setN (j := 3) (y := .bool false) bR2r ⟨_, _, _, rfl⟩ ⟨_, _, _, rfl⟩ ⟨_, _, _, rfl⟩ (by omega)
      have bR3r := bR2r.set 3 (.bool false)
      simp only [List.set_cons_zero, List.set_cons_succ] at bR3r
      have hu4r := hu3r.setN (j := 4) (y := .slice x2 own.length y2) bR3r ⟨_, _, _, rfl⟩ ⟨_, _, _, rfl⟩ ⟨_, _, _, rfl⟩ (by omega)
      have bR4r := bR3r.set 4 (.slice x2 own.length y2)
      simp only [List.set_cons_zero, List.set_cons_succ] at bR4r
      have hu5r := hu4r.setN (j := 5) (y := .slice none 0 0) bR4r ⟨_, _, _, rfl⟩ ⟨_, _, _, rfl⟩ ⟨_, _, _, rfl⟩ (by omega)
      have bR5r := bR4r.set 5 (.slice none 0 0)
      simp only [List.set_cons_zero, List.set_cons_succ] at bR5r
      have e0 := bR5r.c 0 rfl
      have e1 := bR5r.c 1 rfl
      have e2 := bR5r.c 2 rfl
      have e3 := bR5r.c 3 rfl
      have e4 := bR5r.c 4 rfl
      have e5 := bR5r.c 5 rfl
      have Be := ((((((hB.setCell (p := ⟨R, 0, none⟩) hwR (.int .i64 an)).setCell (p := ⟨R, 1, none⟩) hwR (.slice a own.length c)).setCell (p := ⟨R, 2, none⟩) hwR (.int .i64 bw)).setCell (p := ⟨R, 3, none⟩) hwR (.bool false)).setCell (p := ⟨R, 4, none⟩) hwR (.slice x2 own.length y2)).setCell (p := ⟨R, 5, none⟩) hwR (.slice none 0 0))
      exact bodyPost_ret (v := .agg #[.int .i64 an, .slice a own.length c, .int .i64 bw, .bool false, .slice x2 own.length y2, .slice none 0 0]) (by simp [results, Try.results72, go_sem, e0, e1, e2, e3, e4, e5]) rfl
        ⟨_, _, rfl, rdNew (h.keep Be) hu5r (RdE.nil _), Be⟩
set_option maxHeartbeats 4000000 in
theorem snew_any (av : Value) (own : List (Int × Int)) (an bw : Int) (w : World) (h : RdP w av own) :
    Calls Try.prog 29 #[.int .i64 an, av, .int .i64 bw] w (NewNdB w (newN an own bw) (newB an own bw)) := by
  obtain ⟨a, c, hav⟩ := h.len
  subst hav
  have hown := h.1
  obtain ⟨bR, B1, z⟩ := one w [.int .i64 0, .slice none 0 0, .int .i64 0, .bool false, .slice none 0 0, .slice none 0 0] 35
  obtain ⟨V, hV⟩ : ∃ V, V = w.alloc (.cells #[.int .i64 0, .slice none 0 0, .int .i64 0, .bool false, .slice none 0 0, .slice none 0 0] 35) := ⟨_, rfl⟩
  obtain ⟨R, hR⟩ : ∃ R, R = w.heap.size := ⟨_, rfl⟩
  rw [← hV] at bR B1 z
  rw [← hR] at bR
  have hwR : w.heap.size ≤ R := by omega
  have hRV : R < V.heap.size := by omega
  have h1 := h.keep B1
  clear z
  cases hAA : asB an
  · have hb : newB an own bw = false := by unfold newB; rw [hAA]; rfl
    have HA := Lib.hid hAA
    clear hAA
    have EN : Hid (newN an own bw = nd0) := Lib.hid (by unfold newN; rw [if_neg (by rw [hb]; simp)])
    have HB := Lib.hid hb
    clear hb
    go_enter Try.func29, Try.ntmps29
    go_wp2_with fail
    rw [← hV]
    try rw [← hR]
    clear hV hR
    refine (sas8 _ HA).mono ?_
    rintro e w1 ⟨rfl, rfl⟩
    have r0 := bR.c 0 rfl
    have rf0 := bR.f 0 rfl
    have r1 := bR.c 1 rfl
    have rf1 := bR.f 1 rfl
    have r2 := bR.c 2 rfl
    have rf2 := bR.f 2 rfl
    have r3 := bR.c 3 rfl
    have rf3 := bR.f 3 rfl
    have r4 := bR.c 4 rfl
    have rf4 := bR.f 4 rfl
    have r5 := bR.c 5 rfl
    have rf5 := bR.f 5 rfl
    go_wp2_with fail
    have bE := ((((((bR.set 0 (.int .i64 0)).set 1 (.slice none 0 0)).set 2 (.int .i64 0)).set 3 (.bool false)).set 4 (.slice none 0 0)).set 5 (.slice none 0 0))
    have e0 := bE.c 0 rfl
    have e1 := bE.c 1 rfl
    have e2 := bE.c 2 rfl
    have e3 := bE.c 3 rfl
    have e4 := bE.c 4 rfl
    have e5 := bE.c 5 rfl
    rw [EN.out, HB.out]
    exact bodyPost_ret (v := .tuple #[.agg #[.int .i64 0, .slice none 0 0, .int .i64 0, .bool false, .slice none 0 0, .slice none 0 0], .bool false]) (by simp [results, Try.results29, go_sem, e0, e1, e2, e3, e4, e5]) rfl
      ⟨_, _, _, [], [], _, _, _, rfl, ndT_nil _, rfl, rfl, by have := ((((((B1.setCell (p := ⟨R, 0, none⟩) hwR (.int .i64 0)).setCell (p := ⟨R, 1, none⟩) hwR (.slice none 0 0)).setCell (p := ⟨R, 2, none⟩) hwR (.int .i64 0)).setCell (p := ⟨R, 3, none⟩) hwR (.bool false)).setCell (p := ⟨R, 4, none⟩) hwR (.slice none 0 0)).setCell (p := ⟨R, 5, none⟩) hwR (.slice none 0 0)).size; simpa using this, ((((((B1.setCell (p := ⟨R, 0, none⟩) hwR (.int .i64 0)).setCell (p := ⟨R, 1, none⟩) hwR (.slice none 0 0)).setCell (p := ⟨R, 2, none⟩) hwR (.int .i64 0)).setCell (p := ⟨R, 3, none⟩) hwR (.bool false)).setCell (p := ⟨R, 4, none⟩) hwR (.slice none 0 0)).setCell (p := ⟨R, 5, none⟩) hwR (.slice none 0 0))⟩
  · cases hGG : (decide ((own.length : Int) ≤ 8) && pfxB own)
    · have hb : newB an own bw = false := by
        unfold newB
        cases hq : (decide ((own.length : Int) ≤ 2) && pfxB own)
        · simp
        · simp only [Bool.and_eq_true, decide_eq_true_eq] at hq
          rw [hq.2, Bool.and_true, decide_eq_false_iff_not] at hGG
          omega
      have HA := Lib.hid hAA
      have HG := Lib.hid hGG
      clear hAA hGG
      have EN : Hid (newN an own bw = nd0) := Lib.hid (by unfold newN; rw [if_neg (by rw [hb]; simp)])
      have HB := Lib.hid hb
      clear hb
      go_enter Try.func29, Try.ntmps29
      go_wp2_with fail
      rw [← hV]
      try rw [← hR]
      clear hV hR
      refine (sas8 _ HA).mono ?_
      rintro e w1 ⟨rfl, rfl⟩
      go_wp2_with fail
      refine (spfx8 _ h1 HG).mono ?_
      rintro e w2 ⟨rfl, hb⟩
      have hVs := hb.size
      replace bR := bR.keep hb
      replace B1 := below_step B1 hb
      clear hb
      have r0 := bR.c 0 rfl
      have rf0 := bR.f 0 rfl
      have r1 := bR.c 1 rfl
      have rf1 := bR.f 1 rfl
      have r2 := bR.c 2 rfl
      have rf2 := bR.f 2 rfl
      have r3 := bR.c 3 rfl
      have rf3 := bR.f 3 rfl
      have r4 := bR.c 4 rfl
      have rf4 := bR.f 4 rfl
      have r5 := bR.c 5 rfl
      have rf5 := bR.f 5 rfl
      go_wp2_with fail
      have bE := ((((((bR.set 0 (.int .i64 0)).set 1 (.slice none 0 0)).set 2 (.int .i64 0)).set 3 (.bool false)).set 4 (.slice none 0 0)).set 5 (.slice none 0 0))
      have e0 := bE.c 0 rfl
      have e1 := bE.c 1 rfl
      have e2 := bE.c 2 rfl
      have e3 := bE.c 3 rfl
      have e4 := bE.c 4 rfl
      have e5 := bE.c 5 rfl
      rw [EN.out, HB.out]
      exact bodyPost_ret (v := .tuple #[.agg #[.int .i64 0, .slice none 0 0, .int .i64 0, .bool false, .slice none 0 0, .slice none 0 0], .bool false]) (by simp [results, Try.results29, go_sem, e0, e1, e2, e3, e4, e5]) rfl
        ⟨_, _, _, [], [], _, _, _, rfl, ndT_nil _, rfl, rfl, by have := ((((((B1.setCell (p := ⟨R, 0, none⟩) hwR (.int .i64 0)).setCell (p := ⟨R, 1, none⟩) hwR (.slice none 0 0)).setCell (p := ⟨R, 2, none⟩) hwR (.int .i64 0)).setCell (p := ⟨R, 3, none⟩) hwR (.bool false)).setCell (p := ⟨R, 4, none⟩) hwR (.slice none 0 0)).setCell (p := ⟨R, 5, none⟩) hwR (.slice none 0 0)).size; simpa using this, ((((((B1.setCell (p := ⟨R, 0, none⟩) hwR (.int .i64 0)).setCell (p := ⟨R, 1, none⟩) hwR (.slice none 0 0)).setCell (p := ⟨R, 2, none⟩) hwR (.int .i64 0)).setCell (p := ⟨R, 3, none⟩) hwR (.bool false)).setCell (p := ⟨R, 4, none⟩) hwR (.slice none 0 0)).setCell (p := ⟨R, 5, none⟩) hwR (.slice none 0 0))⟩
    · by_cases hlen : own.length ≤ 2
      · have hl2 : ¬ (2 : Int) < (own.length : Int) := by omega
        have hGG' : (decide ((own.length : Int) ≤ 2) && pfxB own) = true := by
          simp only [Bool.and_eq_true, decide_eq_true_eq] at hGG ⊢
          exact ⟨by omega, hGG.2⟩
        have HL2 : Hid (own.length ≤ 2) := Lib.hid (by omega)
        have HSS : Hid (own.Pairwise ltP) := Lib.hid (pfx_sorted (by simp only [Bool.and_eq_true] at hGG; exact hGG.2))
        clear hlen
        cases hBB : inB bw 0 1000
        · have hb : newB an own bw = false := by unfold newB; rw [hBB]; simp
          have HA := Lib.hid hAA
          have HG := Lib.hid hGG
          by_cases hb0 : bw < 0
          · clear hAA hGG hGG' hBB
            have EN : Hid (newN an own bw = nd0) := Lib.hid (by unfold newN; rw [if_neg (by rw [hb]; simp)])
            have HB := Lib.hid hb
            clear hb
            go_enter Try.func29, Try.ntmps29
            go_wp2_with fail
            rw [← hV]
            try rw [← hR]
            clear hV hR
            refine (sas8 _ HA).mono ?_
            rintro e w1 ⟨rfl, rfl⟩
            go_wp2_with fail
            refine (spfx8 _ h1 HG).mono ?_
            rintro e w2 ⟨rfl, hb⟩
            have hVs := hb.size
            replace bR := bR.keep hb
            replace B1 := below_step B1 hb
            clear hb
            have r0 := bR.c 0 rfl
            have rf0 := bR.f 0 rfl
            have r1 := bR.c 1 rfl
            have rf1 := bR.f 1 rfl
            have r2 := bR.c 2 rfl
            have rf2 := bR.f 2 rfl
            have r3 := bR.c 3 rfl
            have rf3 := bR.f 3 rfl
            have r4 := bR.c 4 rfl
            have rf4 := bR.f 4 rfl
            have r5 := bR.c 5 rfl
            have rf5 := bR.f 5 rfl
            go_wp2_with fail
            have bE := ((((((bR.set 0 (.int .i64 0)).set 1 (.slice none 0 0)).set 2 (.int .i64 0)).set 3 (.bool false)).set 4 (.slice none 0 0)).set 5 (.slice none 0 0))
            have e0 := bE.c 0 rfl
            have e1 := bE.c 1 rfl
            have e2 := bE.c 2 rfl
            have e3 := bE.c 3 rfl
            have e4 := bE.c 4 rfl
            have e5 := bE.c 5 rfl
            rw [EN.out, HB.out]
            exact bodyPost_ret (v := .tuple #[.agg #[.int .i64 0, .slice none 0 0, .int .i64 0, .bool false, .slice none 0 0, .slice none 0 0], .bool false]) (by simp [results, Try.results29, go_sem, e0, e1, e2, e3, e4, e5]) rfl
              ⟨_, _, _, [], [], _, _, _, rfl, ndT_nil _, rfl, rfl, by have := ((((((B1.setCell (p := ⟨R, 0, none⟩) hwR (.int .i64 0)).setCell (p := ⟨R, 1, none⟩) hwR (.slice none 0 0)).setCell (p := ⟨R, 2, none⟩) hwR (.int .i64 0)).setCell (p := ⟨R, 3, none⟩) hwR (.bool false)).setCell (p := ⟨R, 4, none⟩) hwR (.slice none 0 0)).setCell (p := ⟨R, 5, none⟩) hwR (.slice none 0 0)).size; simpa using this, ((((((B1.setCell (p := ⟨R, 0, none⟩) hwR (.int .i64 0)).setCell (p := ⟨R, 1, none⟩) hwR (.slice none 0 0)).setCell (p := ⟨R, 2, none⟩) hwR (.int .i64 0)).setCell (p := ⟨R, 3, none⟩) hwR (.bool false)).setCell (p := ⟨R, 4, none⟩) hwR (.slice none 0 0)).setCell (p := ⟨R, 5, none⟩) hwR (.slice none 0 0))⟩
          · have hb1 : 1000 < bw := by unfold inB at hBB; rw [decide_eq_false_iff_not] at hBB; omega
            clear hAA hGG hGG' hBB
            have EN : Hid (newN an own bw = nd0) := Lib.hid (by unfold newN; rw [if_neg (by rw [hb]; simp)])
            have HB := Lib.hid hb
            clear hb
            go_enter Try.func29, Try.ntmps29
            go_wp2_with fail
            rw [← hV]
            try rw [← hR]
            clear hV hR
            refine (sas8 _ HA).mono ?_
            rintro e w1 ⟨rfl, rfl⟩
            go_wp2_with fail
            refine (spfx8 _ h1 HG).mono ?_
            rintro e w2 ⟨rfl, hb⟩
            have hVs := hb.size
            replace bR := bR.keep hb
            replace B1 := below_step B1 hb
            clear hb
            have r0 := bR.c 0 rfl
            have rf0 := bR.f 0 rfl
            have r1 := bR.c 1 rfl
            have rf1 := bR.f 1 rfl
            have r2 := bR.c 2 rfl
            have rf2 := bR.f 2 rfl
            have r3 := bR.c 3 rfl
            have rf3 := bR.f 3 rfl
            have r4 := bR.c 4 rfl
            have rf4 := bR.f 4 rfl
            have r5 := bR.c 5 rfl
            have rf5 := bR.f 5 rfl
            go_wp2_with fail
            have bE := ((((((bR.set 0 (.int .i64 0)).set 1 (.slice none 0 0)).set 2 (.int .i64 0)).set 3 (.bool false)).set 4 (.slice none 0 0)).set 5 (.slice none 0 0))
            have e0 := bE.c 0 rfl
            have e1 := bE.c 1 rfl
            have e2 := bE.c 2 rfl
            have e3 := bE.c 3 rfl
            have e4 := bE.c 4 rfl
            have e5 := bE.c 5 rfl
            rw [EN.out, HB.out]
            exact bodyPost_ret (v := .tuple #[.agg #[.int .i64 0, .slice none 0 0, .int .i64 0, .bool false, .slice none 0 0, .slice none 0 0], .bool false]) (by simp [results, Try.results29, go_sem, e0, e1, e2, e3, e4, e5]) rfl
              ⟨_, _, _, [], [], _, _, _, rfl, ndT_nil _, rfl, rfl, by have := ((((((B1.setCell (p := ⟨R, 0, none⟩) hwR (.int .i64 0)).setCell (p := ⟨R, 1, none⟩) hwR (.slice none 0 0)).setCell (p := ⟨R, 2, none⟩) hwR (.int .i64 0)).setCell (p := ⟨R, 3, none⟩) hwR (.bool false)).setCell (p := ⟨R, 4, none⟩) hwR (.slice none 0 0)).setCell (p := ⟨R, 5, none⟩) hwR (.slice none 0 0)).size; simpa using this, ((((((B1.setCell (p := ⟨R, 0, none⟩) hwR (.int .i64 0)).setCell (p := ⟨R, 1, none⟩) hwR (.slice none 0 0)).setCell (p := ⟨R, 2, none⟩) hwR (.int .i64 0)).setCell (p := ⟨R, 3, none⟩) hwR (.bool false)).setCell (p := ⟨R, 4, none⟩) hwR (.slice none 0 0)).setCell (p := ⟨R, 5, none⟩) hwR (.slice none 0 0))⟩
        · have hb : newB an own bw = true := by unfold newB; rw [hAA, hGG', hBB]; rfl
          have hb0 : ¬ bw < 0 := by unfold inB at hBB; rw [decide_eq_true_eq] at hBB; omega
          have hb1 : ¬ 1000 < bw := by unfold inB at hBB; rw [decide_eq_true_eq] at hBB; omega
          have HA := Lib.hid hAA
          have HG := Lib.hid hGG
          clear hAA hGG hGG' hBB
          have EN : Hid (newN an own bw = newD an own bw) := Lib.hid (by unfold newN; rw [if_pos hb])
          have HB := Lib.hid hb
          have HWT : Hid (wtN (newD an own bw) ≤ 1048576) := Lib.hid (by have := newN_wt an own bw; unfold newN at this; rw [if_pos hb] at this; exact this)
          clear hb
          go_enter Try.func29, Try.ntmps29
          go_wp2_with fail
          rw [← hV]
          try rw [← hR]
          clear hV hR
          refine (sas8 _ HA).mono ?_
          rintro e w1 ⟨rfl, rfl⟩
          go_wp2_with fail
          refine (spfx8 _ h1 HG).mono ?_
          rintro e w2 ⟨rfl, hb⟩
          have hVs := hb.size
          replace bR := bR.keep hb
          replace B1 := below_step B1 hb
          clear hb
          go_wp2_with fail
          refine (sl8new_any _ own an bw w2 (h.keep B1) HL2.out HSS.out).mono ?_
          rintro e w3 ⟨o2, r2, rfl, h2, hb⟩
          have hs3 := hb.size
          replace bR := bR.keep hb
          replace B1 := below_step B1 hb
          clear hb
          obtain ⟨oa2, oc2, q1⟩ := h2.1.len
          obtain ⟨ra2, rc2, q2⟩ := h2.2.1.len
          subst q1 q2
          go_wp2_with fail
          refine (sown8_any _ _ _ (newD an own bw) w3 h2 HWT.out).mono ?_
          rintro e w4 ⟨ov, ru, su, T1, T2, b0, g1, g2, rfl, hN, hE1, hE2, hb0, hb4⟩
          have hs4 := hb4.size
          have hRb : R < b0 := by omega
          have hwb : w.heap.size ≤ b0 := by omega
          replace bR := bR.keep hb4
          replace B1 := below_step B1 hb4
          obtain ⟨⟨x1, y1, q1⟩, ⟨x2, y2, q2⟩, x3, y3, q3⟩ := hN.lens
          subst q1 q2 q3
          have HE1 := Lib.hid hE1
          have HE2 := Lib.hid hE2
          clear hE1 hE2 hb4 h2
          have r0 := bR.c 0 rfl
          have rf0 := bR.f 0 rfl
          have r1 := bR.c 1 rfl
          have rf1 := bR.f 1 rfl
          have r2 := bR.c 2 rfl
          have rf2 := bR.f 2 rfl
          have r3 := bR.c 3 rfl
          have rf3 := bR.f 3 rfl
          have r4 := bR.c 4 rfl
          have rf4 := bR.f 4 rfl
          have r5 := bR.c 5 rfl
          have rf5 := bR.f 5 rfl
          go_wp2_with fail
          have bE := ((((((bR.set 0 (.int .i64 (newD an own bw).an)).set 1 (.slice x1 (newD an own bw).own.length y1)).set 2 (.int .i64 (newD an own bw).bw)).set 3 (.bool (newD an own bw).dr)).set 4 (.slice x2 T1.length y2)).set 5 (.slice x3 T2.length y3))
          have e0 := bE.c 0 rfl
          have e1 := bE.c 1 rfl
          have e2 := bE.c 2 rfl
          have e3 := bE.c 3 rfl
          have e4 := bE.c 4 rfl
          have e5 := bE.c 5 rfl
          rw [EN.out, HB.out]
          exact bodyPost_ret (v := .tuple #[.agg #[.int .i64 (newD an own bw).an, .slice x1 (newD an own bw).own.length y1, .int .i64 (newD an own bw).bw, .bool (newD an own bw).dr, .slice x2 T1.length y2, .slice x3 T2.length y3], .bool true]) (by simp [results, Try.results29, go_sem, e0, e1, e2, e3, e4, e5]) rfl
            ⟨_, _, _, T1, T2, b0, g1, g2, rfl, by simpa using ((((((hN.far (C := R) (o := 0) (u := .int .i64 (newD an own bw).an) hRb).far (C := R) (o := 1) (u := .slice x1 (newD an own bw).own.length y1) hRb).far (C := R) (o := 2) (u := .int .i64 (newD an own bw).bw) hRb).far (C := R) (o := 3) (u := .bool (newD an own bw).dr) hRb).far (C := R) (o := 4) (u := .slice x2 T1.length y2) hRb).far (C := R) (o := 5) (u := .slice x3 T2.length y3) hRb), HE1.out, HE2.out, hwb, ((((((B1.setCell (p := ⟨R, 0, none⟩) hwR (.int .i64 (newD an own bw).an)).setCell (p := ⟨R, 1, none⟩) hwR (.slice x1 (newD an own bw).own.length y1)).setCell (p := ⟨R, 2, none⟩) hwR (.int .i64 (newD an own bw).bw)).setCell (p := ⟨R, 3, none⟩) hwR (.bool (newD an own bw).dr)).setCell (p := ⟨R, 4, none⟩) hwR (.slice x2 T1.length y2)).setCell (p := ⟨R, 5, none⟩) hwR (.slice x3 T2.length y3))⟩
      · have hl2 : (2 : Int) < (own.length : Int) := by omega
        have hb : newB an own bw = false := by unfold newB; rw [show decide ((own.length : Int) ≤ 2) = false by simp; omega]; simp
        have HA := Lib.hid hAA
        have HG := Lib.hid hGG
        clear hAA hGG hlen
        have EN : Hid (newN an own bw = nd0) := Lib.hid (by unfold newN; rw [if_neg (by rw [hb]; simp)])
        have HB := Lib.hid hb
        clear hb
        go_enter Try.func29, Try.ntmps29
        go_wp2_with fail
        rw [← hV]
        try rw [← hR]
        clear hV hR
        refine (sas8 _ HA).mono ?_
        rintro e w1 ⟨rfl, rfl⟩
        go_wp2_with fail
        refine (spfx8 _ h1 HG).mono ?_
        rintro e w2 ⟨rfl, hb⟩
        have hVs := hb.size
        replace bR := bR.keep hb
        replace B1 := below_step B1 hb
        clear hb
        have r0 := bR.c 0 rfl
        have rf0 := bR.f 0 rfl
        have r1 := bR.c 1 rfl
        have rf1 := bR.f 1 rfl
        have r2 := bR.c 2 rfl
        have rf2 := bR.f 2 rfl
        have r3 := bR.c 3 rfl
        have rf3 := bR.f 3 rfl
        have r4 := bR.c 4 rfl
        have rf4 := bR.f 4 rfl
        have r5 := bR.c 5 rfl
        have rf5 := bR.f 5 rfl
        go_wp2_with fail
        have bE := ((((((bR.set 0 (.int .i64 0)).set 1 (.slice none 0 0)).set 2 (.int .i64 0)).set 3 (.bool false)).set 4 (.slice none 0 0)).set 5 (.slice none 0 0))
        have e0 := bE.c 0 rfl
        have e1 := bE.c 1 rfl
        have e2 := bE.c 2 rfl
        have e3 := bE.c 3 rfl
        have e4 := bE.c 4 rfl
        have e5 := bE.c 5 rfl
        rw [EN.out, HB.out]
        exact bodyPost_ret (v := .tuple #[.agg #[.int .i64 0, .slice none 0 0, .int .i64 0, .bool false, .slice none 0 0, .slice none 0 0], .bool false]) (by simp [results, Try.results29, go_sem, e0, e1, e2, e3, e4, e5]) rfl
          ⟨_, _, _, [], [], _, _, _, rfl, ndT_nil _, rfl, rfl, by have := ((((((B1.setCell (p := ⟨R, 0, none⟩) hwR (.int .i64 0)).setCell (p := ⟨R, 1, none⟩) hwR (.slice none 0 0)).setCell (p := ⟨R, 2, none⟩) hwR (.int .i64 0)).setCell (p := ⟨R, 3, none⟩) hwR (.bool false)).setCell (p := ⟨R, 4, none⟩) hwR (.slice none 0 0)).setCell (p := ⟨R, 5, none⟩) hwR (.slice none 0 0)).size; simpa using this, ((((((B1.setCell (p := ⟨R, 0, none⟩) hwR (.int .i64 0)).setCell (p := ⟨R, 1, none⟩) hwR (.slice none 0 0)).setCell (p := ⟨R, 2, none⟩) hwR (.int .i64 0)).setCell (p := ⟨R, 3, none⟩) hwR (.bool false)).setCell (p := ⟨R, 4, none⟩) hwR (.slice none 0 0)).setCell (p := ⟨R, 5, none⟩) hwR (.slice none 0 0))⟩
end Go.Proofs.Ytaiffofmhfflkaa
