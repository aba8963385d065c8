/-
  The place that the search finds on an ascending table is where the model puts the entry. Conditions: those in each contract.
  RibPut of the program. Conditions: those in each contract.
  RibPut of the model. Conditions: those in each contract.
  Words for the law on RibPut. Conditions: those in each statement.
-/
import Derived.Test.YtaiffofmhfflkaaER
import Derived.Test.YtaiffofmhfflkaaPE
import Derived.Test.YtaiffofmhfflkaaED
import Derived.Test.YtaiffofmhfflkaaEP
import Derived.Test.YtaiffofmhfflkaaZD
namespace Go.Proofs.Ytaiffofmhfflkaa
open Go.ChangeShapes Go.WideShapes Go.ChangeAt Go.RowKit Go.BigFrame Go.Joins
set_option linter.unusedVariables false
set_option maxRecDepth 100000
set_option linter.unusedSimpArgs false
set_option maxRecDepth 100000

theorem ecmp_flip (a n p b m q : Int) : (ecmp a n p b m q < 0 ↔ 0 < ecmp b m q a n p) ∧ (ecmp a n p b m q = 0 ↔ ecmp b m q a n p = 0) := by
  unfold ecmp cmp2 cmp1 orv
  repeat' split
  all_goals omega
theorem ecmp_sign (a n p b m q : Int) : (ecmp a n p b m q < 0 ↔ a < b ∨ (a = b ∧ (n < m ∨ (n = m ∧ p < q)))) ∧ (ecmp a n p b m q ≤ 0 ↔ a < b ∨ (a = b ∧ (n < m ∨ (n = m ∧ p ≤ q)))) := by
  unfold ecmp cmp2 cmp1 orv
  repeat' split
  all_goals omega
theorem ecmp_le_lt {a n p b m q c k r : Int} (h1 : ecmp a n p b m q ≤ 0) (h2 : ecmp b m q c k r < 0) : ecmp a n p c k r < 0 := by
  rw [(ecmp_sign _ _ _ _ _ _).2] at h1
  rw [(ecmp_sign _ _ _ _ _ _).1] at h2 ⊢
  omega
/-- an entry against another -/
abbrev cE (E F : Ent) : Int := ecmp E.a E.n E.pe F.a F.n F.pe
theorem low_all {L : List Ent} {Z : Ent} (hup : ∀ j, j + 1 < L.length → cE (L.getD j e0) (L.getD (j + 1) e0) < 0) : ∀ (i : Nat), i ≤ L.length → (∀ j, j + 1 = i → cE (L.getD j e0) Z < 0) → ∀ j, j < i → cE (L.getD j e0) Z < 0
  | 0, _, _, j, hj => by omega
  | i + 1, hi, h, j, hj => by
    by_cases e : j = i
    · exact h j (by omega)
    · have h0 := h i rfl
      exact low_all hup i (by omega) (fun k hk => ecmp_le_lt (Int.le_of_lt (hup k (by omega))) (by rw [hk]; exact h0)) j (by omega)
theorem high_all {L : List Ent} {Z : Ent} (hup : ∀ j, j + 1 < L.length → cE (L.getD j e0) (L.getD (j + 1) e0) < 0) {i : Nat} (h : i < L.length → cE Z (L.getD i e0) ≤ 0) : ∀ d, i + 1 + d < L.length → cE Z (L.getD (i + 1 + d) e0) < 0
  | 0, hd => ecmp_le_lt (h (by omega)) (hup i hd)
  | d + 1, hd => ecmp_le_lt (Int.le_of_lt (high_all hup h d (by omega))) (hup (i + 1 + d) hd)
theorem getD_at {L : List Ent} {k : Nat} (h : k < L.length) : L[k]? = some (L.getD k e0) := by
  rw [List.getD_eq_getElem?_getD, List.getElem?_eq_getElem h]
  rfl
theorem putK_low {Z : Ent} {L : List Ent} {i : Nat} (hi : i ≤ L.length) (h : ∀ j, j < i → cE (L.getD j e0) Z < 0) : ∀ k, k ≤ i → putK Z L k = (L.take k, false)
  | 0, _ => rfl
  | k + 1, hk => by
    have hp := (ecmp_flip _ _ _ _ _ _).1.1 (h k (by omega))
    rw [putK, putK_low hi h k (by omega), if_neg (by rintro ⟨-, q⟩; omega), if_neg (by omega), List.take_add_one, getD_at (by omega)]
    have : decide (ecmp Z.a Z.n Z.pe (L.getD k e0).a (L.getD k e0).n (L.getD k e0).pe ≤ 0) = false := decide_eq_false (by omega)
    rw [this]
    rfl
theorem putK_high {Z : Ent} {L M : List Ent} {i : Nat} (h : ∀ k, i < k → k < L.length → cE Z (L.getD k e0) < 0) (h0 : putK Z L (i + 1) = (M, true)) : ∀ d, i + 1 + d ≤ L.length → putK Z L (i + 1 + d) = (M ++ (L.drop (i + 1)).take d, true)
  | 0, _ => by simpa using h0
  | d + 1, hd => by
    have hp := h (i + 1 + d) (by omega) (by omega)
    show putK Z L ((i + 1 + d) + 1) = _
    rw [putK, putK_high h h0 d (by omega), if_neg (by rintro ⟨q, -⟩; cases q), if_neg (by show ¬ (ecmp _ _ _ _ _ _ = 0); have := hp; unfold cE at this; omega), List.take_add_one, List.getElem?_drop, getD_at (by omega)]
    simp
theorem putL_at {L : List Ent} {Z : Ent} {i : Nat} {f : Bool} (hup : ∀ j, j + 1 < L.length → cE (L.getD j e0) (L.getD (j + 1) e0) < 0) (hi : i ≤ L.length) (h1 : ∀ j, j + 1 = i → cE (L.getD j e0) Z < 0)
    (h2 : i < L.length → 0 ≤ cE (L.getD i e0) Z ∧ (f = true ↔ cE (L.getD i e0) Z = 0)) (h3 : i = L.length → f = false) : putL Z L = if f = true then L.set i Z else L.take i ++ Z :: L.drop i := by
  have lo := putK_low hi (low_all hup i hi h1) i (Nat.le_refl _)
  by_cases hin : i < L.length
  · obtain ⟨p1, p2⟩ := h2 hin
    have fl := ecmp_flip Z.a Z.n Z.pe (L.getD i e0).a (L.getD i e0).n (L.getD i e0).pe
    have hle : cE Z (L.getD i e0) ≤ 0 := by
      unfold cE at p1 ⊢
      have fl2 := ecmp_flip (L.getD i e0).a (L.getD i e0).n (L.getD i e0).pe Z.a Z.n Z.pe
      rcases Int.lt_or_le 0 (ecmp Z.a Z.n Z.pe (L.getD i e0).a (L.getD i e0).n (L.getD i e0).pe) with q | q
      · have := fl2.1.2 q
        omega
      · exact q
    have hh : ∀ k, i < k → k < L.length → cE Z (L.getD k e0) < 0 := fun k hk hkl => by
      have := high_all hup (fun _ => hle) (k - (i + 1)) (by omega)
      rwa [show i + 1 + (k - (i + 1)) = k by omega] at this
    have st : putK Z L (i + 1) = (L.take i ++ [Z] ++ (if cE Z (L.getD i e0) = 0 then [] else [L.getD i e0]), true) := by
      rw [putK, lo, if_pos ⟨rfl, hle⟩]
      have : decide (ecmp Z.a Z.n Z.pe (L.getD i e0).a (L.getD i e0).n (L.getD i e0).pe ≤ 0) = true := decide_eq_true hle
      rw [this]
      rfl
    have e := putK_high hh st (L.length - (i + 1)) (by omega)
    rw [show i + 1 + (L.length - (i + 1)) = L.length by omega, List.take_of_length_le (l := L.drop (i + 1)) (by rw [List.length_drop]; omega)] at e
    unfold putL
    rw [e, if_pos rfl]
    have hd : L.drop i = L.getD i e0 :: L.drop (i + 1) := by
      have := List.getElem_cons_drop hin
      rw [← this]
      congr 1
      have g := getD_at hin
      rw [List.getElem?_eq_getElem hin] at g
      exact Option.some.inj g
    by_cases hf : f = true
    · rw [if_pos hf, if_pos (fl.2.2 (p2.1 hf)), List.set_eq_take_append_cons_drop, if_pos hin]
      simp
    · rw [if_neg hf, if_neg (fun q => hf (p2.2 (fl.2.1 q))), hd]
      simp
  · obtain rfl : i = L.length := (by omega)
    unfold putL
    rw [lo, h3 rfl]
    simp
end Go.Proofs.Ytaiffofmhfflkaa
namespace Go.Proofs.Ytaiffofmhfflkaa
open Go.ChangeShapes Go.WideShapes Go.ChangeAt Go.RowKit Go.BigFrame Go.Joins
set_option linter.unusedVariables false
set_option linter.unusedSimpArgs false
set_option maxRecDepth 100000

/-- what RibPut answers -/
def entBZ (Z : Ent) : Bool := entB Z.a Z.n Z.pe Z.p Z.pr Z.c Z.bw
def putA (L : List Ent) (Z : Ent) : List Ent × Bool := if (ribB L && entBZ Z) = true then (if (putL Z L).length ≤ 60 then (putL Z L, true) else (L, false)) else ([], false)
/-- a new table and a Bool -/
def NewRibB (w : World) (L : List Ent) (b : Bool) (e : Ending) (w' : World) : Prop :=
  ∃ (u : Value) (T : List ET), e = .returned (.tuple #[.agg #[u], .bool b]) ∧ OwnT w' w.heap.size u T ∧ entT T = L ∧ Below w.heap.size w w'
theorem below_tr {w V W : World} {X N : Nat} (h : Below X w V) (h2 : Below N V W) (hx : X ≤ N) : Below X w W := ⟨h2.os.trans h.os, h2.tape.trans h.tape, h2.output.trans h.output, Nat.le_trans h.size h2.size, fun k hk => (h2.block k (by omega)).trans (h.block k hk)⟩
theorem below_bl {w w' : World} {X B : Nat} {xs : List Value} (h : Bl w B xs) (hb : Below X w w') (hB : B < X) : Bl w' B xs :=
  ⟨Nat.lt_of_lt_of_le h.lt hb.size, fun i x e => by rw [← h.cs i x e]; unfold World.cell?; rw [hb.block B hB], fun i hi => by rw [← h.fz i hi]; unfold World.frozen?; rw [hb.block B hB]⟩
set_option maxHeartbeats 2000000 in
theorem irp6_any (v : Value) (L : List Ent) (Z : Ent) (ea : Option Addr) (ex : Nat) (fa : Option Addr) (fx : Nat) (w : World) (h : RdE w v L) (hZ1 : RdI w (.slice ea Z.p.length ex) Z.p) (hZ2 : RdI w (.slice fa Z.c.length fx) Z.c)
    (hln : ∀ j, j < L.length → (L.getD j e0).p.length ≤ 1048576 ∧ (L.getD j e0).c.length ≤ 1048576) (hl1 : Z.p.length ≤ 1048576) (hl2 : Z.c.length ≤ 1048576) :
    Calls Try.prog 18 #[.agg #[v], .agg #[.int .i64 Z.a, .int .i64 Z.n, .int .i64 Z.pe, .slice ea Z.p.length ex, .int .i64 Z.pr, .slice fa Z.c.length fx, .int .i64 Z.bw]] w (NewRibB w (putA L Z).1 (putA L Z).2) := by
  obtain ⟨a, c, rfl⟩ := h.len
  obtain ⟨bA, bE, bR, B0, z⟩ := three w [.slice a L.length c] [.int .i64 Z.a, .int .i64 Z.n, .int .i64 Z.pe, .slice ea Z.p.length ex, .int .i64 Z.pr, .slice fa Z.c.length fx, .int .i64 Z.bw] [.slice none 0 0] 33 EI 33
  obtain ⟨V, hV⟩ : ∃ V, V = ((w.alloc (.cells #[.slice a L.length c] 33)).alloc (.cells #[.int .i64 Z.a, .int .i64 Z.n, .int .i64 Z.pe, .slice ea Z.p.length ex, .int .i64 Z.pr, .slice fa Z.c.length fx, .int .i64 Z.bw] EI)).alloc (.cells #[.slice none 0 0] 33) := ⟨_, rfl⟩
  rw [← hV] at bA bE bR B0 z
  obtain ⟨R, hR⟩ : ∃ R, R = w.heap.size + 1 + 1 := ⟨_, rfl⟩
  have hwR : w.heap.size ≤ R := by omega
  have hVw : w.heap.size + 3 ≤ V.heap.size := by omega
  cases hb : ribB L
  · have e1 : putA L Z = ([], false) := by unfold putA; rw [hb]; rfl
    rw [e1]
    have HB := Lib.hid hb
    clear hb z e1
    go_enter Try.func18, Try.ntmps18
    go_wp2_with fail
    rw [← hV]
    clear hV
    refine (irib_t _ (h.keep B0) HB).mono ?_
    rintro e w1 ⟨rfl, hb1⟩
    replace bR := bR.keep hb1
    replace B0 := below_step B0 hb1
    rw [← hR] at bR
    try rw [← hR]
    clear hR
    have r0 := bR.c 0 rfl
    have rf0 := bR.f 0 rfl
    go_wp2
    have bS := bR.set 0 (.slice none 0 0)
    have e0 := bS.c 0 rfl
    exact bodyPost_ret (v := .tuple #[.agg #[.slice none 0 0], .bool false]) (by simp [results, Try.results18, go_sem, e0]) rfl
      ⟨_, [], rfl, OwnT.nil _ _, rfl, B0.setCell (p := ⟨R, 0, none⟩) hwR _⟩
  cases hz : entBZ Z
  · have e1 : putA L Z = ([], false) := by unfold putA; rw [hb, hz]; rfl
    rw [e1]
    have HB := Lib.hid hb
    have HZ : Hid (entB Z.a Z.n Z.pe Z.p Z.pr Z.c Z.bw = false) := Lib.hid hz
    clear hb z e1 hz
    go_enter Try.func18, Try.ntmps18
    go_wp2_with fail
    rw [← hV]
    clear hV
    refine (irib_t _ (h.keep B0) HB).mono ?_
    rintro e w0 ⟨rfl, hb0⟩
    replace B0 := below_step B0 hb0
    replace bE := bE.keep hb0
    replace bR := bR.keep hb0
    have x0 := bE.c 0 rfl
    have x1 := bE.c 1 rfl
    have x2 := bE.c 2 rfl
    have x3 := bE.c 3 rfl
    have x4 := bE.c 4 rfl
    have x5 := bE.c 5 rfl
    have x6 := bE.c 6 rfl
    go_wp2_with fail
    refine (ient_t _ (hZ1.keep B0) (hZ2.keep B0) HZ).mono ?_
    clear x0 x1 x2 x3 x4 x5 x6
    rintro e w1 ⟨rfl, hb1⟩
    replace bR := bR.keep hb1
    replace B0 := below_step B0 hb1
    rw [← hR] at bR
    try rw [← hR]
    clear hR
    have r0 := bR.c 0 rfl
    have rf0 := bR.f 0 rfl
    go_wp2
    have bS := bR.set 0 (.slice none 0 0)
    have e0 := bS.c 0 rfl
    exact bodyPost_ret (v := .tuple #[.agg #[.slice none 0 0], .bool false]) (by simp [results, Try.results18, go_sem, e0]) rfl
      ⟨_, [], rfl, OwnT.nil _ _, rfl, B0.setCell (p := ⟨R, 0, none⟩) hwR _⟩
  have HB := Lib.hid hb
  have HZ : Hid (entB Z.a Z.n Z.pe Z.p Z.pr Z.c Z.bw = true) := Lib.hid hz
  have e1 : putA L Z = (if (putL Z L).length ≤ 60 then (putL Z L, true) else (L, false)) := by unfold putA; rw [hb, hz]; rfl
  obtain ⟨LA, hLA⟩ : ∃ LA, LA = (putA L Z).1 := ⟨_, rfl⟩
  obtain ⟨LB, hLB⟩ : ∃ LB, LB = (putA L Z).2 := ⟨_, rfl⟩
  rw [← hLA, ← hLB]
  rw [e1] at hLA hLB
  have HLA := Lib.hid (And.intro hLA hLB)
  clear hLA hLB
  have HN : Hid (L.length ≤ 1048576) := Lib.hid (by
    unfold ribB at hb
    simp only [Bool.and_eq_true, decide_eq_true_eq] at hb
    omega)
  have HLN := Lib.hid hln
  have hup : Hid (∀ j, j + 1 < L.length → cE (L.getD j e0) (L.getD (j + 1) e0) < 0) := Lib.hid (by
    unfold ribB tabB at hb
    simp only [Bool.and_eq_true, decide_eq_true_eq] at hb
    exact fun j hj => hb.2.2 j (by omega))
  have hpc : Hid (∀ E ∈ L, pcmp E.a E.n Z.a Z.n = cmp2 E.a E.n Z.a Z.n) := Lib.hid (by
    unfold ribB tabB at hb
    simp only [Bool.and_eq_true, decide_eq_true_eq] at hb
    intro E hE
    obtain ⟨j, hj, e⟩ := List.mem_iff_getElem.1 hE
    have h1 := hb.2.1 j hj
    unfold okE at h1
    rw [show L.getD j e0 = E by rw [List.getD_eq_getElem?_getD, List.getElem?_eq_getElem hj]; exact e] at h1
    unfold pcmp
    rw [entB_p h1, entB_p hz]
    rfl)
  clear hb hz e1 hln
  go_enter Try.func18, Try.ntmps18
  go_wp2_with fail
  rw [← hV]
  clear hV
  refine (irib_t _ (h.keep B0) HB).mono ?_
  rintro e w0 ⟨rfl, hb0⟩
  replace B0 := below_step B0 hb0
  replace bA := bA.keep hb0
  replace bE := bE.keep hb0
  replace bR := bR.keep hb0
  have x0 := bE.c 0 rfl
  have x1 := bE.c 1 rfl
  have x2 := bE.c 2 rfl
  have x3 := bE.c 3 rfl
  have x4 := bE.c 4 rfl
  have x5 := bE.c 5 rfl
  have x6 := bE.c 6 rfl
  go_wp2_with fail
  refine (ient_t _ (hZ1.keep B0) (hZ2.keep B0) HZ).mono ?_
  clear x0 x1 x2 x3 x4 x5 x6
  rintro e w1 ⟨rfl, hb1⟩
  have hw1 : w.heap.size + 3 ≤ w1.heap.size := by have := hb0.size; have := hb1.size; omega
  replace B0 := below_step B0 hb1
  replace bA := bA.keep hb1
  replace bE := bE.keep hb1
  replace bR := bR.keep hb1
  obtain ⟨A, hA⟩ : ∃ A, A = w.heap.size := ⟨_, rfl⟩
  obtain ⟨C, hC⟩ : ∃ C, C = w.heap.size + 1 := ⟨_, rfl⟩
  have hA1 : A < w1.heap.size := by omega
  have hC1 : C < w1.heap.size := by omega
  have hR1 : R < w1.heap.size := by omega
  have hwW : w.heap.size ≤ w1.heap.size := by omega
  rw [← hR] at bR
  try rw [← hR]
  rw [← hC] at bE
  try rw [← hC]
  rw [← hA] at bA
  try rw [← hA]
  clear z hVw
  have HAA := Lib.hid (And.intro hA (And.intro hC hR))
  clear hA hC hR
  have a0 := bA.c 0 rfl
  go_wp2_with fail
  clear a0
  refine (irc_any _ L w1 (h.keep B0) HN.out HLN.out).mono ?_
  rintro e w2 ⟨u, T, rfl, hT, hTE, hb2⟩
  obtain ⟨x, y, rfl⟩ := hT.lenV
  have HT := Lib.hid hTE
  have hTn : T.length ≤ 1048576 := by rw [← entT_len, hTE]; exact HN.out
  clear hTE
  have bO := Bl.new w2 [.slice x T.length y] 33 w2.heap.size rfl
  have N1 : Below w2.heap.size w2 (w2.alloc (.cells #[.slice x T.length y] 33)) := (Below.refl _ _).alloc (Nat.le_refl _) _
  have bE3 := (bE.keep hb2).keep N1
  have x0 := bE3.c 0 rfl
  have x1 := bE3.c 1 rfl
  have x2 := bE3.c 2 rfl
  have x3 := bE3.c 3 rfl
  have x4 := bE3.c 4 rfl
  have x5 := bE3.c 5 rfl
  have x6 := bE3.c 6 rfl
  go_wp2_with fail
  clear x0 x1 x2 x3 x4 x5 x6
  obtain ⟨V2, hV2⟩ : ∃ V2, V2 = w2.alloc (.cells #[.slice x T.length y] 33) := ⟨_, rfl⟩
  rw [← hV2] at bO N1 bE3 ⊢
  have B1 := below_step (below_step B0 hb2) N1
  have hTV := hT.keep N1
  have hO2 : ∀ k, (Value.slice x T.length y).ownBlock = some k → k < w2.heap.size := fun k hk => (World.ownsRow.lt hT.row k hk).2
  have hTl := hT.lt
  obtain ⟨O, hO⟩ : ∃ O, O = w2.heap.size := ⟨_, rfl⟩
  rw [← hO] at bO hO2 hTl
  try rw [← hO]
  have hw12 := hb2.size
  have hN1 := N1.size
  have hOw : w1.heap.size ≤ O := by omega
  have bR2 := (bR.keep hb2).keep N1
  have bA2 := (bA.keep hb2).keep N1
  clear hV2 hO
  refine (mput_any _ T Z ea ex fa fx O w1.heap.size w1.heap.size V2 hTV hTn bO (fun q => by have := hO2 O q.symm; omega) (fun t ht => ⟨fun q => by have := ((hTl t ht).1 O q).2; omega, fun q => by have := ((hTl t ht).2 O q).2; omega⟩) (by omega) (Nat.le_refl _) hOw
    (fun w' q => hZ1.keep (below_tr B1 q hwW)) (fun w' q => hZ2.keep (below_tr B1 q hwW)) hl1 hl2 (fun t ht => hpc.out t.E (by rw [← HT.out]; exact List.mem_map_of_mem ht))).mono ?_
  rintro e w4 ⟨rfl, i, f, r, S, hAt, hS, hSE, bO4, B4⟩
  obtain ⟨x4, y4, rfl⟩ := hS.lenV
  have hput : entT S = putL Z L := by
    rw [hSE, HT.out]
    obtain ⟨a1, a2, a3, a4⟩ := hAt
    have hle : L.length = T.length := by rw [← HT.out, entT_len]
    have hg : ∀ (j : Nat) (hj : j < T.length), L.getD j e0 = (T[j]'hj).E := fun j hj => by rw [← HT.out]; exact entT_get hj
    refine (putL_at hup.out (by omega) (fun j hj => ?_) (fun hi => ?_) (fun hi => a4 (List.getElem?_eq_none (by omega)))).symm
    · have hjT : j < T.length := by omega
      rw [hg j hjT]
      exact a2 j _ hj (List.getElem?_eq_getElem hjT)
    · have hiT : i < T.length := by omega
      rw [hg i hiT]
      exact a3 _ (List.getElem?_eq_getElem hiT)
  have hlS : (putL Z L).length = S.length := by rw [← hput, entT_len]
  have HPU := Lib.hid (And.intro hput hlS)
  have B5 := below_tr B1 B4 hwW
  have bR4 : Bl w4 R [.slice none 0 0] := below_bl bR2 B4 hR1
  have bA4 : Bl w4 A [.slice a L.length c] := below_bl bA2 B4 hA1
  clear hput hlS hSE hAt bR2 bA2 B1 hTV hTl hO2 bO
  obtain ⟨n, hn⟩ : ∃ n, n = S.length := ⟨_, rfl⟩
  rw [← hn] at bO4
  have HNS := Lib.hid hn
  clear hn
  have o4 := bO4.c 0 rfl
  have r4 := bR4.c 0 rfl
  have rf4 := bR4.f 0 rfl
  by_cases hle : n ≤ 60
  · have hle2 : ¬ ((60 : Int) < (n : Int)) := by omega
    have hif : (putL Z L).length ≤ 60 := by rw [HPU.out.2, ← HNS.out]; exact hle
    have hLA := HLA.out.1
    have hLB := HLA.out.2
    rw [if_pos hif] at hLA hLB
    have hS6 := hS
    rw [← HNS.out] at hS6
    have HLA2 := Lib.hid hLA
    have HLB2 := Lib.hid hLB
    have HS6 := Lib.hid hS6
    clear hLA hLB hS hS6 hif
    go_wp2
    have bR5 := bR4.set 0 (.slice x4 n y4)
    have r5 := bR5.c 0 rfl
    exact bodyPost_ret (v := .tuple #[.agg #[.slice x4 n y4], .bool true]) (by simp [results, Try.results18, go_sem, r5]) rfl
      ⟨.slice x4 n y4, S, by rw [HLB2.out], (HS6.out.far hR1).mono hwW, by rw [HLA2.out]; exact HPU.out.1, B5.setCell (p := ⟨R, 0, none⟩) hwR _⟩
  · have hle2 : (60 : Int) < (n : Int) := by omega
    have a4 := bA4.c 0 rfl
    have hif : ¬ (putL Z L).length ≤ 60 := by rw [HPU.out.2, ← HNS.out]; exact hle
    have hLA := HLA.out.1
    have hLB := HLA.out.2
    rw [if_neg hif] at hLA hLB
    have HLA2 := Lib.hid hLA
    have HLB2 := Lib.hid hLB
    clear hLA hLB hS hif
    go_wp2_with fail
    refine (irc_any _ L w4 (h.keep B5) HN.out HLN.out).mono ?_
    clear a4 o4 r4 rf4
    rintro e w5 ⟨u5, T2, rfl, hT2, hT2E, hb5⟩
    obtain ⟨x5, y5, rfl⟩ := hT2.lenV
    obtain ⟨n5, hn5⟩ : ∃ n5, n5 = T2.length := ⟨_, rfl⟩
    rw [← hn5] at hT2 ⊢
    have hR4 := bR4.lt
    have hw4 := B5.size
    have bR5 := bR4.keep hb5
    have r5 := bR5.c 0 rfl
    have rf5 := bR5.f 0 rfl
    have HT2 := Lib.hid hT2
    have HTE2 := Lib.hid hT2E
    clear hT2 hT2E hn5
    go_wp2
    have bR6 := bR5.set 0 (.slice x5 n5 y5)
    have r6 := bR6.c 0 rfl
    exact bodyPost_ret (v := .tuple #[.agg #[.slice x5 n5 y5], .bool false]) (by simp [results, Try.results18, go_sem, r6]) rfl
      ⟨.slice x5 n5 y5, T2, by rw [HLB2.out], (HT2.out.far hR4).mono hw4, by rw [HLA2.out]; exact HTE2.out, (below_step B5 hb5).setCell (p := ⟨R, 0, none⟩) hwR _⟩
end Go.Proofs.Ytaiffofmhfflkaa
namespace Go.Proofs.Ytaiffofmhfflkaa
open Go.ChangeShapes Go.WideShapes Go.ChangeAt Go.RowKit Go.BigFrame Go.Joins
set_option linter.unusedVariables false
set_option linter.unusedSimpArgs false
set_option maxRecDepth 100000

theorem putK_mem {Z : Ent} {L : List Ent} : ∀ k, k ≤ L.length → ∀ E ∈ (putK Z L k).1, E = Z ∨ E ∈ L
  | 0, _, E, h => by simp [putK] at h
  | k + 1, hk, E, h => by
    have ih := putK_mem (Z := Z) (L := L) k (by omega)
    rw [putK] at h
    rcases List.mem_append.1 h with q | q
    · split at q
      · rcases List.mem_append.1 q with q | q
        · exact ih E q
        · exact .inl (List.mem_singleton.1 q)
      · exact ih E q
    · split at q
      · cases q
      · rw [List.mem_singleton.1 q]
        exact .inr (List.mem_of_getElem? (getD_at (by omega)))
theorem lens_put {L : List Ent} {Z : Ent} (h : ∀ j, j < L.length → (L.getD j e0).p.length ≤ 1048576 ∧ (L.getD j e0).c.length ≤ 1048576) (hZ : Z.p.length ≤ 1048576 ∧ Z.c.length ≤ 1048576) :
    ∀ j, j < (putL Z L).length → ((putL Z L).getD j e0).p.length ≤ 1048576 ∧ ((putL Z L).getD j e0).c.length ≤ 1048576 := fun j hj => by
  have hm : (putL Z L).getD j e0 = Z ∨ (putL Z L).getD j e0 ∈ L := by
    have hx : (putL Z L).getD j e0 ∈ putL Z L := List.mem_of_getElem? (getD_at hj)
    generalize (putL Z L).getD j e0 = E at hx
    unfold putL at hx
    split at hx
    · exact putK_mem _ (Nat.le_refl _) E hx
    · rcases List.mem_append.1 hx with q | q
      · exact putK_mem _ (Nat.le_refl _) E q
      · exact .inl (List.mem_singleton.1 q)
  rcases hm with e | e
  · rw [e]; exact hZ
  · obtain ⟨i, hi, e⟩ := List.mem_iff_getElem.1 e
    have := h i hi
    rwa [List.getD_eq_getElem?_getD, List.getElem?_eq_getElem hi, show (some L[i]).getD e0 = L[i] by rfl, e] at this
set_option maxHeartbeats 2000000 in
theorem srp6_any (v : Value) (L : List Ent) (Z : Ent) (ea : Option Addr) (ex : Nat) (fa : Option Addr) (fx : Nat) (w : World) (h : RdE w v L) (hZ1 : RdI w (.slice ea Z.p.length ex) Z.p) (hZ2 : RdI w (.slice fa Z.c.length fx) Z.c)
    (hln : ∀ j, j < L.length → (L.getD j e0).p.length ≤ 1048576 ∧ (L.getD j e0).c.length ≤ 1048576) (hl1 : Z.p.length ≤ 1048576) (hl2 : Z.c.length ≤ 1048576) :
    Calls Try.prog 15 #[.agg #[v], .agg #[.int .i64 Z.a, .int .i64 Z.n, .int .i64 Z.pe, .slice ea Z.p.length ex, .int .i64 Z.pr, .slice fa Z.c.length fx, .int .i64 Z.bw]] w (NewRibB w (putA L Z).1 (putA L Z).2) := by
  obtain ⟨a, c, rfl⟩ := h.len
  obtain ⟨bA, bE, bR, B0, z⟩ := three w [.slice a L.length c] [.int .i64 Z.a, .int .i64 Z.n, .int .i64 Z.pe, .slice ea Z.p.length ex, .int .i64 Z.pr, .slice fa Z.c.length fx, .int .i64 Z.bw] [.slice none 0 0] 33 EI 33
  obtain ⟨V, hV⟩ : ∃ V, V = ((w.alloc (.cells #[.slice a L.length c] 33)).alloc (.cells #[.int .i64 Z.a, .int .i64 Z.n, .int .i64 Z.pe, .slice ea Z.p.length ex, .int .i64 Z.pr, .slice fa Z.c.length fx, .int .i64 Z.bw] EI)).alloc (.cells #[.slice none 0 0] 33) := ⟨_, rfl⟩
  rw [← hV] at bA bE bR B0 z
  obtain ⟨R, hR⟩ : ∃ R, R = w.heap.size + 1 + 1 := ⟨_, rfl⟩
  have hwR : w.heap.size ≤ R := by omega
  have hVw : w.heap.size + 3 ≤ V.heap.size := by omega
  cases hb : ribB L
  · have e1 : putA L Z = ([], false) := by unfold putA; rw [hb]; rfl
    rw [e1]
    have HB := Lib.hid hb
    clear hb z e1
    go_enter Try.func15, Try.ntmps15
    go_wp2_with fail
    rw [← hV]
    clear hV
    refine (srib_t _ (h.keep B0) HB).mono ?_
    rintro e w1 ⟨rfl, hb1⟩
    replace bR := bR.keep hb1
    replace B0 := below_step B0 hb1
    rw [← hR] at bR
    try rw [← hR]
    clear hR
    have r0 := bR.c 0 rfl
    have rf0 := bR.f 0 rfl
    go_wp2
    have bS := bR.set 0 (.slice none 0 0)
    have e0 := bS.c 0 rfl
    exact bodyPost_ret (v := .tuple #[.agg #[.slice none 0 0], .bool false]) (by simp [results, Try.results15, go_sem, e0]) rfl
      ⟨_, [], rfl, OwnT.nil _ _, rfl, B0.setCell (p := ⟨R, 0, none⟩) hwR _⟩
  cases hz : entBZ Z
  · have e1 : putA L Z = ([], false) := by unfold putA; rw [hb, hz]; rfl
    rw [e1]
    have HB := Lib.hid hb
    have HZ : Hid (entB Z.a Z.n Z.pe Z.p Z.pr Z.c Z.bw = false) := Lib.hid hz
    clear hb z e1 hz
    go_enter Try.func15, Try.ntmps15
    go_wp2_with fail
    rw [← hV]
    clear hV
    refine (srib_t _ (h.keep B0) HB).mono ?_
    rintro e w0 ⟨rfl, hb0⟩
    replace B0 := below_step B0 hb0
    replace bE := bE.keep hb0
    replace bR := bR.keep hb0
    have x0 := bE.c 0 rfl
    have x1 := bE.c 1 rfl
    have x2 := bE.c 2 rfl
    have x3 := bE.c 3 rfl
    have x4 := bE.c 4 rfl
    have x5 := bE.c 5 rfl
    have x6 := bE.c 6 rfl
    go_wp2_with fail
    refine (sent_t _ (hZ1.keep B0) (hZ2.keep B0) HZ).mono ?_
    clear x0 x1 x2 x3 x4 x5 x6
    rintro e w1 ⟨rfl, hb1⟩
    replace bR := bR.keep hb1
    replace B0 := below_step B0 hb1
    rw [← hR] at bR
    try rw [← hR]
    clear hR
    have r0 := bR.c 0 rfl
    have rf0 := bR.f 0 rfl
    go_wp2
    have bS := bR.set 0 (.slice none 0 0)
    have e0 := bS.c 0 rfl
    exact bodyPost_ret (v := .tuple #[.agg #[.slice none 0 0], .bool false]) (by simp [results, Try.results15, go_sem, e0]) rfl
      ⟨_, [], rfl, OwnT.nil _ _, rfl, B0.setCell (p := ⟨R, 0, none⟩) hwR _⟩
  have HB := Lib.hid hb
  have HZ : Hid (entB Z.a Z.n Z.pe Z.p Z.pr Z.c Z.bw = true) := Lib.hid hz
  have e1 : putA L Z = (if (putL Z L).length ≤ 60 then (putL Z L, true) else (L, false)) := by unfold putA; rw [hb, hz]; rfl
  obtain ⟨LA, hLA⟩ : ∃ LA, LA = (putA L Z).1 := ⟨_, rfl⟩
  obtain ⟨LB, hLB⟩ : ∃ LB, LB = (putA L Z).2 := ⟨_, rfl⟩
  rw [← hLA, ← hLB]
  rw [e1] at hLA hLB
  have HLA := Lib.hid (And.intro hLA hLB)
  clear hLA hLB
  have HN : Hid (L.length ≤ 1048576) := Lib.hid (by
    unfold ribB at hb
    simp only [Bool.and_eq_true, decide_eq_true_eq] at hb
    omega)
  have HLN := Lib.hid hln
  have hup : Hid (∀ j, j + 1 < L.length → cE (L.getD j e0) (L.getD (j + 1) e0) < 0) := Lib.hid (by
    unfold ribB tabB at hb
    simp only [Bool.and_eq_true, decide_eq_true_eq] at hb
    exact fun j hj => hb.2.2 j (by omega))
  have hpc : Hid (∀ E ∈ L, pcmp E.a E.n Z.a Z.n = cmp2 E.a E.n Z.a Z.n) := Lib.hid (by
    unfold ribB tabB at hb
    simp only [Bool.and_eq_true, decide_eq_true_eq] at hb
    intro E hE
    obtain ⟨j, hj, e⟩ := List.mem_iff_getElem.1 hE
    have h1 := hb.2.1 j hj
    unfold okE at h1
    rw [show L.getD j e0 = E by rw [List.getD_eq_getElem?_getD, List.getElem?_eq_getElem hj]; exact e] at h1
    unfold pcmp
    rw [entB_p h1, entB_p hz]
    rfl)
  clear hb hz e1 hln
  go_enter Try.func15, Try.ntmps15
  go_wp2_with fail
  rw [← hV]
  clear hV
  refine (srib_t _ (h.keep B0) HB).mono ?_
  rintro e w0 ⟨rfl, hb0⟩
  replace B0 := below_step B0 hb0
  replace bA := bA.keep hb0
  replace bE := bE.keep hb0
  replace bR := bR.keep hb0
  have x0 := bE.c 0 rfl
  have x1 := bE.c 1 rfl
  have x2 := bE.c 2 rfl
  have x3 := bE.c 3 rfl
  have x4 := bE.c 4 rfl
  have x5 := bE.c 5 rfl
  have x6 := bE.c 6 rfl
  go_wp2_with fail
  refine (sent_t _ (hZ1.keep B0) (hZ2.keep B0) HZ).mono ?_
  clear x0 x1 x2 x3 x4 x5 x6
  rintro e w1 ⟨rfl, hb1⟩
  have hw1 : w.heap.size + 3 ≤ w1.heap.size := by have := hb0.size; have := hb1.size; omega
  replace B0 := below_step B0 hb1
  replace bA := bA.keep hb1
  replace bE := bE.keep hb1
  replace bR := bR.keep hb1
  obtain ⟨A, hA⟩ : ∃ A, A = w.heap.size := ⟨_, rfl⟩
  obtain ⟨C, hC⟩ : ∃ C, C = w.heap.size + 1 := ⟨_, rfl⟩
  have hA1 : A < w1.heap.size := by omega
  have hC1 : C < w1.heap.size := by omega
  have hR1 : R < w1.heap.size := by omega
  have hwW : w.heap.size ≤ w1.heap.size := by omega
  rw [← hR] at bR
  try rw [← hR]
  rw [← hC] at bE
  try rw [← hC]
  rw [← hA] at bA
  try rw [← hA]
  clear z hVw
  have HAA := Lib.hid (And.intro hA (And.intro hC hR))
  clear hA hC hR
  have bA0 := bA
  have a0 := bA.c 0 rfl
  have x0 := bE.c 0 rfl
  have x1 := bE.c 1 rfl
  have x2 := bE.c 2 rfl
  have x3 := bE.c 3 rfl
  have x4 := bE.c 4 rfl
  have x5 := bE.c 5 rfl
  have x6 := bE.c 6 rfl
  go_wp2_with fail
  clear a0 x0 x1 x2 x3 x4 x5 x6
  refine (sput_any _ L Z ea ex fa fx w1 (h.keep B0) (hZ1.keep B0) (hZ2.keep B0) HN.out).mono ?_
  rintro e w2 ⟨u, rfl, hU, hb2⟩
  obtain ⟨ua, uc, rfl⟩ := hU.len
  obtain ⟨n, hn⟩ : ∃ n, n = (putL Z L).length := ⟨_, rfl⟩
  rw [← hn] at hU ⊢
  have N1 : Below w2.heap.size w2 (w2.alloc (.cells #[.slice ua n uc] 33)) := (Below.refl _ _).alloc (Nat.le_refl _) _
  have bO : Bl (w2.alloc (.cells #[.slice ua n uc] 33)) w2.heap.size [.slice ua n uc] := Bl.new w2 [.slice ua n uc] 33 w2.heap.size rfl
  have HU := Lib.hid (hU.keep N1)
  have bR3 := (bR.keep hb2).keep N1
  have bA3 := (bA0.keep hb2).keep N1
  have B3 := below_step (below_step B0 hb2) N1
  have HNS := Lib.hid hn
  clear hU hn N1
  have o3 := bO.c 0 rfl
  by_cases hle : n ≤ 60
  · have hle2 : ¬ ((60 : Int) < (n : Int)) := by omega
    have hif : (putL Z L).length ≤ 60 := by rw [← HNS.out]; exact hle
    have hLA := HLA.out.1
    have hLB := HLA.out.2
    rw [if_pos hif] at hLA hLB
    have HLA2 := Lib.hid hLA
    have HLB2 := Lib.hid hLB
    have HIF := Lib.hid hif
    clear hLA hLB hif
    go_wp2_with fail
    refine (sown6_any _ (putL Z L) _ HU.out (by have := HIF.out; omega) (lens_put HLN.out ⟨hl1, hl2⟩)).mono ?_
    rintro e w5 ⟨u5, T2, rfl, hT2, hT2E, hb5⟩
    obtain ⟨x5, y5, rfl⟩ := hT2.lenV
    obtain ⟨n5, hn5⟩ : ∃ n5, n5 = T2.length := ⟨_, rfl⟩
    rw [← hn5] at hT2 ⊢
    have hR4 := bR3.lt
    have hw4 := B3.size
    have bR5 := bR3.keep hb5
    have r5 := bR5.c 0 rfl
    have rf5 := bR5.f 0 rfl
    have HT2 := Lib.hid hT2
    have HTE2 := Lib.hid hT2E
    have B6 := below_step B3 hb5
    clear hT2 hT2E hn5 hb5 o3
    go_wp2
    have bR6 := bR5.set 0 (.slice x5 n5 y5)
    have r6 := bR6.c 0 rfl
    exact bodyPost_ret (v := .tuple #[.agg #[.slice x5 n5 y5], .bool true]) (by simp [results, Try.results15, go_sem, r6]) rfl
      ⟨.slice x5 n5 y5, T2, by rw [HLB2.out], (HT2.out.far hR4).mono hw4, by rw [HLA2.out]; exact HTE2.out, B6.setCell (p := ⟨R, 0, none⟩) hwR _⟩
  · have hle2 : (60 : Int) < (n : Int) := by omega
    have hif : ¬ (putL Z L).length ≤ 60 := by rw [← HNS.out]; exact hle
    have hLA := HLA.out.1
    have hLB := HLA.out.2
    rw [if_neg hif] at hLA hLB
    have HLA2 := Lib.hid hLA
    have HLB2 := Lib.hid hLB
    clear hLA hLB hif
    have a3 := bA3.c 0 rfl
    go_wp2_with fail
    clear a3
    refine (sown6_any _ L _ (h.keep B3) HN.out HLN.out).mono ?_
    rintro e w5 ⟨u5, T2, rfl, hT2, hT2E, hb5⟩
    obtain ⟨x5, y5, rfl⟩ := hT2.lenV
    obtain ⟨n5, hn5⟩ : ∃ n5, n5 = T2.length := ⟨_, rfl⟩
    rw [← hn5] at hT2 ⊢
    have hR4 := bR3.lt
    have hw4 := B3.size
    have bR5 := bR3.keep hb5
    have r5 := bR5.c 0 rfl
    have rf5 := bR5.f 0 rfl
    have HT2 := Lib.hid hT2
    have HTE2 := Lib.hid hT2E
    have B6 := below_step B3 hb5
    clear hT2 hT2E hn5 hb5 o3
    go_wp2
    have bR6 := bR5.set 0 (.slice x5 n5 y5)
    have r6 := bR6.c 0 rfl
    exact bodyPost_ret (v := .tuple #[.agg #[.slice x5 n5 y5], .bool false]) (by simp [results, Try.results15, go_sem, r6]) rfl
      ⟨.slice x5 n5 y5, T2, by rw [HLB2.out], (HT2.out.far hR4).mono hw4, by rw [HLA2.out]; exact HTE2.out, B6.setCell (p := ⟨R, 0, none⟩) hwR _⟩
end Go.Proofs.Ytaiffofmhfflkaa
namespace Go.Proofs.Ytaiffofmhfflkaa
open Go.ChangeShapes Go.WideShapes Go.ChangeAt Go.RowKit Go.BigFrame Go.Joins
set_option linter.unusedVariables false
set_option linter.unusedSimpArgs false
set_option maxRecDepth 100000

def Is_Entry (W : World) (v : Value) : Prop := ∃ (Z : Ent) (x3 x5 : Value), v = .agg #[.int .i64 Z.a, .int .i64 Z.n, .int .i64 Z.pe, x3, .int .i64 Z.pr, x5, .int .i64 Z.bw] ∧ RdI W x3 Z.p ∧ RdI W x5 Z.c
section
variable {H : Type} {enc : TypeId × Value → H} {W : World} {base : Nat} {d : DataW H} {p : List MemPlace} {v : Value}
theorem is_Entry (hv : Value.okWide Try.prog W .any base 45 v) (h : DataW.Trod enc Try.prog W 0 (fun _ => true) true 45 v d p) : Is_Entry W v := by
  obtain ⟨xs, rfl, hsz⟩ := okWide_struct Try.underlying45 hv
  rw [cellsE7] at hsz
  obtain ⟨l⟩ := xs
  obtain ⟨c0, c1, c2, c3, c4, c5, c6, rfl⟩ := list7 (by simpa using hsz)
  obtain ⟨fuel, hf⟩ := h
  obtain ⟨Z, rfl, rfl, rfl, g3, rfl, g5, rfl⟩ := ent_trod (by simpa [Value.cells] using hf)
  exact ⟨Z, c3, c5, rfl, g3, g5⟩
end
theorem OwnI.mid {base hi b : Nat} {w w' : World} {v : Value} {l : List Int} (h : OwnI w b v l) (s : MidB base hi w w') (hv : hi ≤ b) : OwnI w' b v l := row_mid h s fun k hk => .inr (Nat.le_trans hv (World.ownsRow.lt h k hk).1)
/-- the rows of an attribute are marked: nothing else turns -/
theorem mkAt_mid (pv cv : Value) (p c : List Int) (pr bw k : Int) (base hi : Nat) (w : World) (hp : OwnI w base pv p) (hc : OwnI w base cv c) (hap : Apart pv cv) (h1 : ∀ k, pv.ownBlock = some k → k < hi) (h2 : ∀ k, cv.ownBlock = some k → k < hi) (hk0 : 0 ≤ k) (hk : k + p.length + c.length ≤ 4294967296) :
    Calls Try.prog 68 #[.agg #[pv, .int .i64 pr, cv, .int .i64 bw], .int .i64 k] w fun e w' => e = .returned (.int .i64 (k + p.length + c.length)) ∧ MidB base hi w w' := by
  obtain ⟨bA, B0, z⟩ := one w [pv, .int .i64 pr, cv, .int .i64 bw] 52
  have s0 : MidB base hi w (w.alloc (.cells #[pv, .int .i64 pr, cv, .int .i64 bw] 52)) := .of_below _ _ B0
  have hp1 := hp.keep B0
  have hc1 := hc.keep B0
  have hpl := fun k h => (World.ownsRow.lt hp k h)
  have hcl := fun k h => (World.ownsRow.lt hc k h)
  have a0 := bA.c 0 rfl
  go_enter Try.func68, Try.ntmps68
  go_wp2_with fail
  clear a0
  obtain ⟨V, hV⟩ : ∃ V, V = w.alloc (.cells #[pv, .int .i64 pr, cv, .int .i64 bw] 52) := ⟨_, rfl⟩
  rw [← hV] at bA s0 hp1 hc1 z ⊢
  clear hV
  refine (markB_any_I _ p base _ _ hp1 hk0 (by omega)).mono ?_
  rintro e w1 ⟨rfl, -, hg⟩
  replace s0 := s0.grown hg (fun k hk => ⟨(hpl k hk).1, h1 k hk⟩)
  replace hc1 := hc1.kept hg hap.2
  have bA1 := bA.grown hg (fun h => by have := (hpl _ h.symm).2; omega)
  have a2 := bA1.c 2 rfl
  clear hg hp1
  go_wp2_with fail
  refine (markB_any_I _ c base _ _ hc1 (by omega) (by omega)).mono ?_
  rintro e w2 ⟨rfl, -, hg⟩
  replace s0 := s0.grown hg (fun k hk => ⟨(hcl k hk).1, h2 k hk⟩)
  clear hg hc1 a2 bA1 bA
  go_wp2
  go_ret
  exact ⟨rfl, s0⟩
theorem mkEn_mid (Z : Ent) (pv cv : Value) (k : Int) (base hi : Nat) (w : World) (hp : OwnI w base pv Z.p) (hc : OwnI w base cv Z.c) (hap : Apart pv cv) (h1 : ∀ k, pv.ownBlock = some k → k < hi) (h2 : ∀ k, cv.ownBlock = some k → k < hi) (hk0 : 0 ≤ k) (hk : k + Z.p.length + Z.c.length ≤ 4294967296) :
    Calls Try.prog 22 #[.agg #[.int .i64 Z.a, .int .i64 Z.n, .int .i64 Z.pe, pv, .int .i64 Z.pr, cv, .int .i64 Z.bw], .int .i64 k] w fun e w' => e = .returned (.int .i64 (k + Z.p.length + Z.c.length)) ∧ MidB base hi w w' := by
  obtain ⟨bA, B0, z⟩ := one w [.int .i64 Z.a, .int .i64 Z.n, .int .i64 Z.pe, pv, .int .i64 Z.pr, cv, .int .i64 Z.bw] EI
  have s0 : MidB base hi w (w.alloc (.cells #[.int .i64 Z.a, .int .i64 Z.n, .int .i64 Z.pe, pv, .int .i64 Z.pr, cv, .int .i64 Z.bw] EI)) := .of_below _ _ B0
  have hp1 := hp.keep B0
  have hc1 := hc.keep B0
  have a0 := bA.c 0 rfl
  have a1 := bA.c 1 rfl
  have a2 := bA.c 2 rfl
  have a3 := bA.c 3 rfl
  have a4 := bA.c 4 rfl
  have a5 := bA.c 5 rfl
  have a6 := bA.c 6 rfl
  go_enter Try.func22, Try.ntmps22
  go_wp2_with fail
  refine (mkAt_mid _ _ Z.p Z.c _ _ _ base hi _ hp1 hc1 hap h1 h2 hk0 hk).mono ?_
  rintro e w1 ⟨rfl, hm⟩
  replace s0 := s0.trans hm
  go_wp2
  go_ret
  exact ⟨rfl, s0⟩
theorem putK_w (Z : Ent) (L : List Ent) : ∀ k, k ≤ L.length → ((putK Z L k).1.map wE).sum ≤ ((L.take k).map wE).sum + if (putK Z L k).2 = true then wE Z else 0
  | 0, _ => by simp [putK]
  | k + 1, hk => by
    have ih := putK_w Z L k (by omega)
    have hg : L[k]'(by omega) = L.getD k e0 := by simp [List.getD, show k < L.length by omega]
    obtain ⟨E, hE⟩ : ∃ E, L.getD k e0 = E := ⟨_, rfl⟩
    obtain ⟨r, hr⟩ : ∃ r, ecmp Z.a Z.n Z.pe E.a E.n E.pe = r := ⟨_, rfl⟩
    obtain ⟨b, hb⟩ : ∃ b, b = (putK Z L k).2 := ⟨_, rfl⟩
    obtain ⟨M, hM⟩ : ∃ M, M = (putK Z L k).1 := ⟨_, rfl⟩
    rw [putK_s hE hr hb hM, List.take_add_one, List.getElem?_eq_getElem (by omega), hg, hE]
    rw [← hM, ← hb] at ih
    dsimp only
    rw [List.map_append, List.sum_append, List.map_append, List.sum_append]
    have e1 : ((if r = 0 then ([] : List Ent) else [E]).map wE).sum ≤ wE E := by split <;> simp
    have e2 : (((some E).toList).map wE).sum = wE E := by simp
    rw [e2]
    cases b
    · by_cases h : r ≤ 0
      · rw [if_pos ⟨rfl, h⟩, decide_eq_true h]
        simp at ih ⊢
        omega
      · rw [if_neg (fun q => h q.2), decide_eq_false h]
        simp at ih ⊢
        omega
    · rw [if_neg (by rintro ⟨q, -⟩; cases q)]
      simp at ih ⊢
      omega
theorem putL_w (Z : Ent) (L : List Ent) : ((putL Z L).map wE).sum ≤ (L.map wE).sum + wE Z := by
  have h := putK_w Z L L.length (Nat.le_refl _)
  rw [List.take_of_length_le (Nat.le_refl _)] at h
  unfold putL
  split
  · rename_i q
    rw [if_pos q] at h
    exact h
  · rename_i q
    rw [if_neg q] at h
    rw [List.map_append, List.sum_append]
    simp at h ⊢
    omega
theorem putL_sub {Z : Ent} {L : List Ent} {E : Ent} (h : E ∈ putL Z L) : E = Z ∨ E ∈ L := by
  unfold putL at h
  split at h
  · exact putK_mem _ (Nat.le_refl _) E h
  · rcases List.mem_append.1 h with q | q
    · exact putK_mem _ (Nat.le_refl _) E q
    · exact .inl (List.mem_singleton.1 q)
theorem putA_sub {Z : Ent} {L : List Ent} {E : Ent} (h : E ∈ (putA L Z).1) : E = Z ∨ E ∈ L := by
  unfold putA at h
  split at h
  · split at h
    · exact putL_sub h
    · exact .inr h
  · cases h
theorem putA_w {Z : Ent} {L : List Ent} (h : L.length + wtE L ≤ 1048576) (hz : Z.p.length + Z.c.length ≤ 1048576) : (((putA L Z).1).map wE).sum ≤ 8000000 := by
  have a := wE_all L
  have b := putL_w Z L
  have c : wE Z = 5 + Z.p.length + Z.c.length := rfl
  unfold putA
  split
  · split
    · dsimp only; omega
    · dsimp only; omega
  · simp
theorem srp6_t {v : Value} {L D : List Ent} {Z : Ent} {g : Bool} {ea : Option Addr} {ex : Nat} {fa : Option Addr} {fx : Nat} (w : World) (H : Hid (D = (putA L Z).1 ∧ g = (putA L Z).2)) (h : RdE w v L) (hZ1 : RdI w (.slice ea Z.p.length ex) Z.p) (hZ2 : RdI w (.slice fa Z.c.length fx) Z.c)
    (hln : ∀ j, j < L.length → (L.getD j e0).p.length ≤ 1048576 ∧ (L.getD j e0).c.length ≤ 1048576) (hl1 : Z.p.length ≤ 1048576) (hl2 : Z.c.length ≤ 1048576) :
    Calls Try.prog 15 #[.agg #[v], .agg #[.int .i64 Z.a, .int .i64 Z.n, .int .i64 Z.pe, .slice ea Z.p.length ex, .int .i64 Z.pr, .slice fa Z.c.length fx, .int .i64 Z.bw]] w (NewRibB w D g) := by
  rw [H.out.1, H.out.2]
  exact srp6_any v L Z ea ex fa fx w h hZ1 hZ2 hln hl1 hl2
theorem irp6_t {v : Value} {L D : List Ent} {Z : Ent} {g : Bool} {ea : Option Addr} {ex : Nat} {fa : Option Addr} {fx : Nat} (w : World) (H : Hid (D = (putA L Z).1 ∧ g = (putA L Z).2)) (h : RdE w v L) (hZ1 : RdI w (.slice ea Z.p.length ex) Z.p) (hZ2 : RdI w (.slice fa Z.c.length fx) Z.c)
    (hln : ∀ j, j < L.length → (L.getD j e0).p.length ≤ 1048576 ∧ (L.getD j e0).c.length ≤ 1048576) (hl1 : Z.p.length ≤ 1048576) (hl2 : Z.c.length ≤ 1048576) :
    Calls Try.prog 18 #[.agg #[v], .agg #[.int .i64 Z.a, .int .i64 Z.n, .int .i64 Z.pe, .slice ea Z.p.length ex, .int .i64 Z.pr, .slice fa Z.c.length fx, .int .i64 Z.bw]] w (NewRibB w D g) := by
  rw [H.out.1, H.out.2]
  exact irp6_any v L Z ea ex fa fx w h hZ1 hZ2 hln hl1 hl2
/-- a table kept, and a Bool -/
def KeptTB (V wx : World) (D : List Ent) (g : Bool) (p q : Value) : Prop := KeptT V wx D p ∧ q = .bool g
end Go.Proofs.Ytaiffofmhfflkaa
