/-
  Delta of the model. Conditions: those in each contract.
-/
import Derived.Test.YtbcmoofpgffbhaaDC
namespace Go.Proofs.Ytbcmoofpgffbhaa
open Go.ChangeShapes Go.WideShapes Go.ChangeAt Go.RowKit Go.BigFrame Go.Joins
set_option linter.unusedVariables false
set_option maxRecDepth 100000
set_option linter.unusedSimpArgs false
set_option maxRecDepth 100000

def findV (L : List Grp) (a n : Int) : Int := match findJ L a n L.length with | some j => (j : Int) | none => -1
set_option maxHeartbeats 1000000 in
theorem sfind_any (v : Value) (L : List Grp) (a n : Int) (w : World) (h : RdG w v L) :
    Calls Try.prog 86 #[.agg #[v], .agg #[.int .i64 a, .int .i64 n]] w fun e w' => e = .returned (.int .i64 (findV L a n)) ∧ Below w.heap.size w w' := by
  have hm := h.1
  obtain ⟨x, c, rfl, hc⟩ := h.el
  obtain ⟨m, hm'⟩ : ∃ m, m = L.length := ⟨_, rfl⟩
  rw [← hm'] at hc hm ⊢
  have HN := Lib.hid hm'
  clear h hm'
  obtain ⟨bA, bP, B0, z⟩ := two w [.slice x m c] [.int .i64 a, .int .i64 n] 57 PT
  go_enter Try.func86, Try.ntmps86
  go_wp2
  obtain ⟨W1, hW⟩ : ∃ W1, W1 = (w.alloc (.cells #[.slice x m c] 57)).alloc (.cells #[.int .i64 a, .int .i64 n] PT) := ⟨_, rfl⟩
  rw [← hW] at bA bP B0 z ⊢
  obtain ⟨A, hA⟩ : ∃ A, A = w.heap.size := ⟨_, rfl⟩
  obtain ⟨Q, hQ⟩ : ∃ Q, Q = w.heap.size + 1 := ⟨_, rfl⟩
  rw [← hA] at bA
  rw [← hQ] at bP
  try rw [← hQ]
  try rw [← hA]
  clear hW hA hQ z
  go_loopw [5] (fun q wr => ∃ k : Nat, k ≤ m ∧ q = .int .i64 k ∧ (∀ i, i < k → ¬ ((L.getD i gr0).a = a ∧ (L.getD i gr0).n = n)) ∧ Bl wr A [.slice x m c] ∧ Bl wr Q [.int .i64 a, .int .i64 n] ∧ Below w.heap.size w wr) (fun q _ => m - (intOf q).toNat)
  case atStart => exact ⟨0, Nat.zero_le _, rfl, fun i hi => by omega, bA, bP, B0⟩
  case round =>
    obtain ⟨k, hk, rfl, hno, bA1, bP1, hB⟩ := hrel
    have r0 := bA1.c 0 rfl
    have p0 := bP1.c 0 rfl
    have p1 := bP1.c 1 rfl
    have HNO := Lib.hid hno
    clear hno
    by_cases hlt : k < m
    · have hltI : (k : Int) < (m : Int) := by omega
      obtain ⟨b, o, rfl, hE⟩ := hc k hlt
      obtain ⟨E, hx⟩ : ∃ E, L.getD k gr0 = E := ⟨_, rfl⟩
      rw [hx] at hE
      obtain ⟨ev, he, g0, g1, g2⟩ := hE.keep hB
      have HX := Lib.hid hx
      have HCC := Lib.hid hc
      clear hx hc hE he
      by_cases hea : E.a = a
      · by_cases hen : E.n = n
        · have HF : Hid (findV L a n = (k : Int)) := Lib.hid (by
            unfold findV
            rw [findJ_some (j := k) (by rw [← HN.out]; exact hlt) (by rw [HX.out]; exact ⟨hea, hen⟩) HNO.out])
          subst hea hen
          go_wp2
          go_region
          go_wp2
          go_ret
          exact ⟨ret_int HF.out.symm, hB.drew⟩
        · have HY : Hid (∀ i, i < k + 1 → ¬ ((L.getD i gr0).a = a ∧ (L.getD i gr0).n = n)) := Lib.hid fun i hi => by
            by_cases e : i = k
            · subst e; rw [HX.out]; exact fun q => hen q.2
            · exact HNO.out i (by omega)
          have hb1 : (E.n == n) = false := by simp [hen]
          subst hea
          clear hen
          go_wp2
          go_region
          go_wp2
          go_roundw
          case rel => exact ⟨k + 1, by omega, by go_num, HY.out, bA1.keep (over_drew _), bP1.keep (over_drew _), hB.drew⟩
          case measure => simp [intOf]; omega
      · have HY : Hid (∀ i, i < k + 1 → ¬ ((L.getD i gr0).a = a ∧ (L.getD i gr0).n = n)) := Lib.hid fun i hi => by
          by_cases e : i = k
          · subst e; rw [HX.out]; exact fun q => hea q.1
          · exact HNO.out i (by omega)
        have hb1 : (E.a == a) = false := by simp [hea]
        clear hea
        go_wp2
        go_region
        go_wp2
        go_roundw
        case rel => exact ⟨k + 1, by omega, by go_num, HY.out, bA1.keep (over_drew _), bP1.keep (over_drew _), hB.drew⟩
        case measure => simp [intOf]; omega
    · have hkn : k = m := by omega
      subst hkn
      have HF : Hid (findV L a n = -1) := Lib.hid (by unfold findV; rw [← HN.out, findJ_none HNO.out])
      clear hc
      go_wp2
      go_ret
      exact ⟨ret_int HF.out.symm, hB⟩
theorem sfind_t {v : Value} {L : List Grp} {a n r : Int} (w : World) (H : Hid (findV L a n = r)) (h : RdG w v L) :
    Calls Try.prog 86 #[.agg #[v], .agg #[.int .i64 a, .int .i64 n]] w fun e w' => e = .returned (.int .i64 r) ∧ Below w.heap.size w w' := H.out ▸ sfind_any v L a n w h
set_option maxHeartbeats 1000000 in
theorem ssame_any (v u : Value) (a p : Int) (l m : List (Int × Int)) (w : World) (h1 : RdP w v l) (h2 : RdP w u m) :
    Calls Try.prog 87 #[.agg #[.int .i64 a, .int .i64 p, v], .agg #[.int .i64 a, .int .i64 p, u]] w fun e w' => e = .returned (.bool (decide (l = m))) ∧ Below w.heap.size w w' := by
  by_cases hlen : l.length = m.length
  · have hm1 := h1.1
    obtain ⟨x, c, rfl, hc⟩ := h1.el
    obtain ⟨x', c', rfl, hc'⟩ := h2.el
    obtain ⟨n, hn⟩ : ∃ n, n = l.length := ⟨_, rfl⟩
    have hn' : n = m.length := hn.trans hlen
    rw [← hn'] at hc' ⊢
    rw [← hn] at hc hm1 ⊢
    have HN := Lib.hid hn
    have HN' := Lib.hid hn'
    clear hn hn' hlen h1 h2
    have hnn : ((n : Int) != (n : Int)) = false := by simp
    obtain ⟨bA, bB, B0, z⟩ := two w [.int .i64 a, .int .i64 p, .slice x n c] [.int .i64 a, .int .i64 p, .slice x' n c'] GI GI
    go_enter Try.func87, Try.ntmps87
    go_wp2
    obtain ⟨W1, hW⟩ : ∃ W1, W1 = (w.alloc (.cells #[.int .i64 a, .int .i64 p, .slice x n c] GI)).alloc (.cells #[.int .i64 a, .int .i64 p, .slice x' n c'] GI) := ⟨_, rfl⟩
    rw [← hW] at bA bB B0 z ⊢
    obtain ⟨A, hA⟩ : ∃ A, A = w.heap.size := ⟨_, rfl⟩
    obtain ⟨Q, hQ⟩ : ∃ Q, Q = w.heap.size + 1 := ⟨_, rfl⟩
    rw [← hA] at bA
    rw [← hQ] at bB
    try rw [← hQ]
    try rw [← hA]
    clear hW hA hQ z
    go_loopw [5] (fun i wr => ∃ k : Nat, k ≤ n ∧ i = .int .i64 k ∧ l.take k = m.take k ∧ Bl wr A [.int .i64 a, .int .i64 p, .slice x n c] ∧ Bl wr Q [.int .i64 a, .int .i64 p, .slice x' n c'] ∧ Below w.heap.size w wr) (fun i _ => n - (intOf i).toNat)
    case atStart => exact ⟨0, Nat.zero_le _, rfl, rfl, bA, bB, B0⟩
    case round =>
      obtain ⟨k, hk, rfl, ht, bA1, bB1, hB⟩ := hrel
      have q0 := bA1.c 2 rfl
      have q1 := bB1.c 2 rfl
      have HT := Lib.hid ht
      clear ht
      by_cases hlt : k < n
      · have hltI : (k : Int) < (n : Int) := by omega
        obtain ⟨b, o, rfl, d0, d1⟩ := hc k hlt
        obtain ⟨b', o', rfl, d0', d1'⟩ := hc' k hlt
        have e0 := cell_keep hB (World.block_lt_of_cell? w _ d0) d0
        have e1 := cell_keep hB (World.block_lt_of_cell? w _ d1) d1
        have e2 := cell_keep hB (World.block_lt_of_cell? w _ d0') d0'
        have e3 := cell_keep hB (World.block_lt_of_cell? w _ d1') d1'
        obtain ⟨⟨x, y⟩, hx⟩ : ∃ q, l.getD k (0, 0) = q := ⟨_, rfl⟩
        obtain ⟨⟨x', y'⟩, hx'⟩ : ∃ q, m.getD k (0, 0) = q := ⟨_, rfl⟩
        rw [hx] at e0 e1
        rw [hx'] at e2 e3
        have HX := Lib.hid hx
        have HY := Lib.hid hx'
        clear hx hx' hc hc' d0 d1 d0' d1'
        by_cases hxy : x = x' ∧ y = y'
        · obtain ⟨rfl, rfl⟩ := hxy
          go_wp2
          go_region
          go_wp2
          go_roundw
          case rel => exact ⟨k + 1, by omega, by go_num, takeP_succ HT.out (by rw [← HN.out]; exact hlt) (by rw [← HN'.out]; exact hlt) (by rw [HX.out, HY.out]), bA1.keep (over_drew _), bB1.keep (over_drew _), hB.drew⟩
          case measure => simp [intOf]; omega
        · have hlm : decide (l = m) = false := by
            simp only [decide_eq_false_iff_not]
            rintro rfl
            have := HX.out.symm.trans HY.out
            cases this
            exact hxy ⟨rfl, rfl⟩
          have HL := Lib.hid hlm
          clear hlm
          by_cases hx : x = x'
          · have hy : ¬ y = y' := fun e => hxy ⟨hx, e⟩
            subst hx
            clear hxy
            go_wp2
            go_region
            go_wp2
            go_ret
            exact ⟨ret_bool HL.out.symm, hB.drew⟩
          · clear hxy
            go_wp2
            go_region
            go_wp2
            go_ret
            exact ⟨ret_bool HL.out.symm, hB.drew⟩
      · have hkn : k = n := by omega
        have hlm : decide (l = m) = true := by
          have h := HT.out
          rw [hkn, List.take_of_length_le (by rw [HN.out]; exact Nat.le_refl _), List.take_of_length_le (by rw [HN'.out]; exact Nat.le_refl _)] at h
          simp [h]
        have HL := Lib.hid hlm
        clear hlm hkn hc hc'
        go_wp2
        go_ret
        exact ⟨ret_bool HL.out.symm, hB⟩
  · have hd : decide (l = m) = false := by
      simp only [decide_eq_false_iff_not]
      rintro rfl
      exact hlen rfl
    rw [hd]
    clear hd
    obtain ⟨x, c, rfl⟩ := h1.len
    obtain ⟨x', c', rfl⟩ := h2.len
    obtain ⟨q1, hq1⟩ : ∃ q, q = l.length := ⟨_, rfl⟩
    obtain ⟨q2, hq2⟩ : ∃ q, q = m.length := ⟨_, rfl⟩
    rw [← hq1, ← hq2] at hlen
    rw [← hq1, ← hq2]
    have hne : ((q1 : Int) != (q2 : Int)) = true := by simp; omega
    clear h1 h2 hq1 hq2 hlen
    obtain ⟨bA, bB, B0, z⟩ := two w [.int .i64 a, .int .i64 p, .slice x q1 c] [.int .i64 a, .int .i64 p, .slice x' q2 c'] GI GI
    clear z bA bB
    go_enter Try.func87, Try.ntmps87
    go_wp2
    go_ret
    exact ⟨rfl, B0⟩
theorem ssame_t {v u : Value} {a p : Int} {l m : List (Int × Int)} {b : Bool} (w : World) (H : Hid (decide (l = m) = b)) (h1 : RdP w v l) (h2 : RdP w u m) :
    Calls Try.prog 87 #[.agg #[.int .i64 a, .int .i64 p, v], .agg #[.int .i64 a, .int .i64 p, u]] w fun e w' => e = .returned (.bool b) ∧ Below w.heap.size w w' := H.out ▸ ssame_any v u a p l m w h1 h2
theorem came_step {L M : List Grp} (h : fibB L = true) {k : Nat} {x : Grp} {g : Bool} (hk : k < M.length) (hx : M.getD k gr0 = x) (hg : hadB L x = g) : cameL L (M.take (k + 1)) = cameL L (M.take k) ++ if g = true then [] else [x] := by
  unfold cameL
  rw [filtG_more _ hk hx, came_iff h, hg]
  cases g <;> simp
theorem gone_step {L M : List Grp} {k : Nat} {x : Grp} (hk : k < L.length) (hx : L.getD k gr0 = x) : goneL (L.take (k + 1)) M = goneL (L.take k) M ++ if (findJ M x.a x.n M.length).isSome = true then [] else [(x.a, x.n)] := by
  have hg : L[k] = x := by simpa [List.getD, hk] using hx
  unfold goneL
  rw [List.take_add_one, List.getElem?_eq_getElem hk, hg, List.map_append, List.filter_append]
  congr 1
  have e := gone_iff M x.a x.n
  show List.filter _ [pxG x] = _
  rw [List.filter_cons]
  rw [show ((M.map pxG).any fun q => sameQ (pxG x) q) = (findJ M x.a x.n M.length).isSome from e]
  cases (findJ M x.a x.n M.length).isSome <;> simp [pxG]
set_option maxHeartbeats 8000000 in
theorem sdel_any (v u : Value) (L M : List Grp) (w : World) (h : RdG w v L) (hu : RdG w u M) (hl1 : L.length + wtG L ≤ 1048576) (hl2 : M.length + wtG M ≤ 1048576) :
    Calls Try.prog 38 #[.agg #[v], .agg #[u]] w (DelR w (dCame L M) (dGone L M)) := by
  obtain ⟨a, c, rfl, hcL⟩ := h.el
  obtain ⟨a', c', rfl, hcM⟩ := hu.el
  have hwM : ∀ x ∈ M, x.h.length ≤ 1048576 := fun x hx => by
    obtain ⟨i, hi, e⟩ := mem_getD hx
    have := wtG_at hi
    rw [e] at this
    omega
  have HWM := Lib.hid hwM
  obtain ⟨nL, hnL⟩ : ∃ n, n = L.length := ⟨_, rfl⟩
  obtain ⟨nM, hnM⟩ : ∃ n, n = M.length := ⟨_, rfl⟩
  have hlL : nL ≤ 1048576 := by omega
  have hlM : nM ≤ 1048576 := by omega
  rw [← hnL] at hcL h
  rw [← hnM] at hcM hu
  rw [← hnL, ← hnM]
  have HNL := Lib.hid hnL
  have HNM := Lib.hid hnM
  clear hl1 hl2 hwM hnL hnM
  obtain ⟨bA, bB, B0, z⟩ := two w [.slice a nL c] [.slice a' nM c'] 57 57
  have a0 := bA.c 0 rfl
  have b0 := bB.c 0 rfl
  obtain ⟨g, hg⟩ : ∃ g, fibB L = g := ⟨_, rfl⟩
  obtain ⟨f, hf⟩ : ∃ f, fibB M = f := ⟨_, rfl⟩
  have HG := Lib.hid hg
  have HF := Lib.hid hf
  clear hg hf
  go_enter Try.func38, Try.ntmps38
  go_wp2_with fail
  refine (sfib_t _ (h.keep B0) HG).mono ?_
  rintro e w1 ⟨rfl, hb⟩
  clear a0 b0
  have hs1 := hb.size
  obtain ⟨A, hA⟩ : ∃ A, A = w.heap.size := ⟨_, rfl⟩
  obtain ⟨Q, hQ⟩ : ∃ Q, Q = w.heap.size + 1 := ⟨_, rfl⟩
  rw [← hA] at bA
  rw [← hQ] at bB
  try rw [← hQ]
  try rw [← hA]
  replace bA := bA.keep hb
  replace bB := bB.keep hb
  replace B0 := below_step B0 hb
  have hA1 : A < w1.heap.size := bA.lt
  have hQ1 : Q < w1.heap.size := bB.lt
  clear hb z hA hQ hs1
  have b0 := bB.c 0 rfl
  cases g
  · have HNO := Lib.hid (dCame_no (M := M) (.inl HG.out))
    go_wp2
    exact bodyPost_ret (v := .tuple #[.slice none 0 0, .slice none 0 0]) (by simp [results, Try.results38, go_sem]) rfl (delR_nil HNO.out.1 HNO.out.2 B0)
  · go_wp2_with fail
    refine (sfib_t _ (hu.keep B0) HF).mono ?_
    rintro e w2 ⟨rfl, hb⟩
    replace bA := bA.keep hb
    replace bB := bB.keep hb
    replace B0 := below_step B0 hb
    have hs2 := hb.size
    clear hb b0
    cases f
    · have HNO := Lib.hid (dCame_no (L := L) (.inr HF.out))
      go_wp2
      exact bodyPost_ret (v := .tuple #[.slice none 0 0, .slice none 0 0]) (by simp [results, Try.results38, go_sem]) rfl (delR_nil HNO.out.1 HNO.out.2 B0)
    · have HYES := Lib.hid (dCame_yes HG.out HF.out)
      obtain ⟨W1, rfl⟩ : ∃ W1 : World, W1 = w2 := ⟨_, rfl⟩
      have hAW : A < W1.heap.size := by omega
      have hBW : Q < W1.heap.size := by omega
      have hwW : w.heap.size ≤ W1.heap.size := B0.size
      have HR := Lib.hid (And.intro h hu)
      clear h hu hA1 hQ1 hs2
      go_wp2
      go_loopw [6, 8] (fun lv q wr => ∃ k : Nat, k ≤ nM ∧ q = .int .i64 k ∧ (∃ xs, GrYS wr W1.heap.size lv (cameL L (M.take k)) xs) ∧ Bl wr A [.slice a nL c] ∧ Bl wr Q [.slice a' nM c'] ∧ Below w.heap.size w wr ∧ W1.heap.size ≤ wr.heap.size) (fun _ q _ => nM - (intOf q).toNat)
      case atStart => exact ⟨0, Nat.zero_le _, rfl, ⟨[], GrYS.nil _ _⟩, bA, bB, B0, Nat.le_refl _⟩
      case round =>
        clear bA bB B0
        obtain ⟨k, hk, rfl, ⟨xs, hok⟩, bA, bB, hB, hsz⟩ := hrel
        have b0 := bB.c 0 rfl
        by_cases hlt : k < nM
        · have hltI : (k : Int) < (nM : Int) := by omega
          obtain ⟨b, o, rfl, hE⟩ := hcM k hlt
          obtain ⟨x, hx9⟩ : ∃ x, M.getD k gr0 = x := ⟨_, rfl⟩
          have hxl := HWM.out x (by rw [← hx9]; exact getD_memG (by rw [← HNM.out]; exact hlt))
          rw [hx9] at hE
          obtain ⟨xv, hx, g0, g1, g2⟩ := hE.keep hB
          obtain ⟨xa, xx, rfl⟩ := hx.len
          obtain ⟨m, hm⟩ : ∃ m, m = (cameL L (M.take k)).length := ⟨_, rfl⟩
          have HLN : Hid (m + 1 ≤ 4294967296) := Lib.hid (by
            have := List.length_filter_le (fun x => !(L.any fun y => sameG x y)) (M.take k)
            rw [List.length_take] at this
            rw [hm]
            unfold cameL
            omega)
          have HM := Lib.hid hm
          have HXL := Lib.hid hxl
          have HX9 := Lib.hid hx9
          have HCC := Lib.hid (And.intro hcL hcM)
          have BB := hB
          obtain ⟨fv, hfv⟩ : ∃ r, findV L x.a x.n = r := ⟨_, rfl⟩
          have HFV := Lib.hid hfv
          have HL := HR.out.1
          clear hm hxl hx9 hcL hcM hE
          go_wp2_with fail
          refine wp_region_class (C := Over (wr)) (by kernel_rfl) (by kernel_rfl) (over_drew _) ?_
          repeat (first | go_big_quiet_skip | (go_big_quiet_want; go_big_quiet_op; go_big_quiet_on) | (go_big_quiet_want; go_big_quiet_op; apply Exists.intro; refine ⟨fun w' hC => ?_, ?_⟩; ((first | (go_at_call 86; refine (sfind_t _ HFV (HL.keep (below_step BB hC))).mono ?_; rintro e w1 ⟨rfl, hb1⟩; exact ⟨rfl, over_step hC hb1⟩))); go_big_quiet_on) | (go_big_quiet_want; apply Exists.intro; refine ⟨fun w' hC => ?_, ?_⟩; (have k0 := over_cell hC bA.lt (bA.c 0 rfl); have k1 := over_cell hC bB.lt (bB.c 0 rfl); have k2 := over_cell hC (World.block_lt_of_cell? _ _ g0) g0; have k3 := over_cell hC (World.block_lt_of_cell? _ _ g1) g1; have k4 := over_cell hC (World.block_lt_of_cell? _ _ g2) g2; simp [Oper.quietAt, Oper.quietUpon, go_sem, k0, k1, k2, k3, k4, hltI, hlt]; first | done | rfl); go_big_quiet_on; simp only [Act.put, List.setIfInBounds_toArray, List.set_cons_zero, List.set_cons_succ]))
          refine wpQuiet_nil ?_
          intro ws hC
          have k0 := over_cell hC bA.lt (bA.c 0 rfl)
          have k1 := over_cell hC bB.lt (bB.c 0 rfl)
          have k2 := over_cell hC (World.block_lt_of_cell? _ _ g0) g0
          have k3 := over_cell hC (World.block_lt_of_cell? _ _ g1) g1
          have k4 := over_cell hC (World.block_lt_of_cell? _ _ g2) g2
          replace bA := bA.keep hC
          replace bB := bB.keep hC
          replace hok := hok.keep hC
          replace g0 := over_cell hC (World.block_lt_of_cell? _ _ g0) g0
          replace g1 := over_cell hC (World.block_lt_of_cell? _ _ g1) g1
          replace g2 := over_cell hC (World.block_lt_of_cell? _ _ g2) g2
          replace hx := hx.keep hC
          replace hB := below_step hB hC
          replace hsz := Nat.le_trans hsz hC.size
          clear k0 k1 k2 k3 k4
          clear hC b0 BB
          obtain ⟨V, rfl⟩ : ∃ V : World, V = ws := ⟨_, rfl⟩
          cases hfj : findJ L x.a x.n L.length with
          | none =>
            have hv1 : fv = -1 := by rw [← hfv]; unfold findV; rw [hfj]
            have HF : Hid (cameL L (M.take (k + 1)) = cameL L (M.take k) ++ [x]) := Lib.hid (by
              have q := came_step (M := M) HG.out (k := k) (x := x) (g := false) (by rw [← HNM.out]; exact hlt) HX9.out (hadB_none hfj)
              simpa using q)
            subst hv1
            clear hfv hfj HFV
            go_wp2_with fail
            refine wp_region_class (C := Over (V)) (by kernel_rfl) (by kernel_rfl) (over_drew _) ?_
            repeat (first | go_big_quiet_skip | (go_big_quiet_want; go_big_quiet_op; go_big_quiet_on) | (go_big_quiet_want; apply Exists.intro; refine ⟨fun w' hC => ?_, ?_⟩; (have k0 := over_cell hC bA.lt (bA.c 0 rfl); have k1 := over_cell hC bB.lt (bB.c 0 rfl); have k2 := over_cell hC (World.block_lt_of_cell? _ _ g0) g0; have k3 := over_cell hC (World.block_lt_of_cell? _ _ g1) g1; have k4 := over_cell hC (World.block_lt_of_cell? _ _ g2) g2; simp [Oper.quietAt, Oper.quietUpon, go_sem, k0, k1, k2, k3, k4, hltI, hlt]; first | done | rfl); go_big_quiet_on; simp only [Act.put, List.setIfInBounds_toArray, List.set_cons_zero, List.set_cons_succ]))
            refine wpQuiet_nil ?_
            intro ws hC
            have k0 := over_cell hC bA.lt (bA.c 0 rfl)
            have k1 := over_cell hC bB.lt (bB.c 0 rfl)
            have k2 := over_cell hC (World.block_lt_of_cell? _ _ g0) g0
            have k3 := over_cell hC (World.block_lt_of_cell? _ _ g1) g1
            have k4 := over_cell hC (World.block_lt_of_cell? _ _ g2) g2
            replace g0 := over_cell hC (World.block_lt_of_cell? _ _ g0) g0
            replace g1 := over_cell hC (World.block_lt_of_cell? _ _ g1) g1
            replace g2 := over_cell hC (World.block_lt_of_cell? _ _ g2) g2
            replace bA := bA.keep hC
            replace bB := bB.keep hC
            replace hok := hok.keep hC
            replace hx := hx.keep hC
            replace hB := below_step hB hC
            replace hsz := Nat.le_trans hsz hC.size
            clear hC
            clear k0 k1 k2 k3 k4
            have b0 := bB.c 0 rfl
            go_wp2_with fail
            clear b0
            have hsV := hB.size
            refine (sown7_any _ x.h x.a x.n _ hx HXL.out).mono ?_
            rintro e w1 ⟨pa, px, rfl, ho, hb⟩
            replace bA := bA.keep hb
            replace bB := bB.keep hb
            obtain ⟨bQ, N2, z⟩ := one w1 [.int .i64 x.a, .int .i64 x.n, .slice pa x.h.length px] GI
            have hs1 := hb.size
            go_wp2_with (at_builtin; refine Hid.out ?_)
            refine Lib.hid ?_
            obtain ⟨W2, hW2⟩ : ∃ W2, W2 = w1.alloc (.cells #[.int .i64 x.a, .int .i64 x.n, .slice pa x.h.length px] GI) := ⟨_, rfl⟩
            rw [← hW2] at bQ N2 z ⊢
            replace bA := bA.keep N2
            replace bB := bB.keep N2
            have hok2 := (hok.keep hb).keep N2
            have row2 := hok2.row
            rw [← HM.out] at row2
            have hB2 := below_step hB (below_step hb N2)
            refine wp_apY rfl _ _ rfl W1.heap.size w1.heap.size 1 _ m xs [.int .i64 x.a, .int .i64 x.n, .slice pa x.h.length px] rfl rfl row2 bQ rfl (by simp [Value.oneCell']) HLN.out (by have := hB2.size; have := hb.size; have := N2.size; omega) ?_
            intro v3 w3 o3 g3 r3
            rw [HM.out] at o3
            have hG3 : GrYS w3 W1.heap.size v3 (cameL L (M.take k) ++ [x]) (xs ++ [.int .i64 x.a, .int .i64 x.n, .slice pa x.h.length px]) :=
              GrYS.step (S := Rg ws.heap.size w1.heap.size) hok hsz (below_step hb N2) ⟨Rg ws.heap.size w1.heap.size, fun b q => q, (ho.keep N2).mono (Nat.zero_le _), fun k q => World.ownsRow.lt ho k q, HXL.out⟩ (fun b q => ⟨q.1, by have := q.2; omega⟩) o3 g3 r3
            have O3 : Below w.heap.size w w3 := below_growD hB2 hok2.row hwW g3
            have hn1 := ne_grY hok2 hAW
            have hn2 := ne_grY hok2 hBW
            replace bA := bA.grown g3 hn1
            replace bB := bB.grown g3 hn2
            have hs3 : W1.heap.size ≤ w3.heap.size := by have := g3.size; have := N2.size; omega
            rw [← HF.out] at hG3
            have HG3 := Lib.hid hG3
            clear g3 r3 o3 hG3 bQ N2 z hW2 hok hok2 row2 ho hb hB2 hs1 hn1 hn2 hB
            go_wp2
            go_roundw
            case rel => exact ⟨k + 1, by omega, by go_num, ⟨_, HG3.out⟩, bA, bB, O3, hs3⟩
            case measure => simp [intOf]; omega
          | some j =>
            have hv1 : fv = (j : Int) := by rw [← hfv]; unfold findV; rw [hfj]
            obtain ⟨hjl, hja, hjn⟩ := findJ_yes hfj
            obtain ⟨y, hy9⟩ : ∃ y, L.getD j gr0 = y := ⟨_, rfl⟩
            obtain ⟨d, hd9⟩ : ∃ d, decide (y.h = x.h) = d := ⟨_, rfl⟩
            have H0 := Lib.hid (came_step (M := M) HG.out (k := k) (x := x) (g := d) (by rw [← HNM.out]; exact hlt) HX9.out (by rw [hadB_some hfj, hy9, hd9]))
            rw [← HNL.out] at hjl
            obtain ⟨yb, yo, hya, hY⟩ := HCC.out.1 j hjl
            subst hya
            rw [hy9] at hY hja hjn
            obtain ⟨yv, hd, e0, e1, e2⟩ := hY.keep hB
            rw [hja] at e0
            rw [hjn] at e1
            obtain ⟨ya, yx, rfl⟩ := hd.len
            subst hv1
            have HD := Lib.hid hd9
            have hjI : (j : Int) < (nL : Int) := by omega
            have hj0 : ¬ (j : Int) < 0 := by omega
            have Dj : decide ((j : Int) < 0) = false := decide_eq_false (by omega)
            clear hfv hfj HFV hd9 hy9 hY hja hjn
            go_wp2_with fail
            refine wp_region_class (C := Over (V)) (by kernel_rfl) (by kernel_rfl) (over_drew _) ?_
            repeat (first | go_big_quiet_skip | (go_big_quiet_want; go_big_quiet_op; (try simp only [Dj]); go_big_quiet_on) | (go_big_quiet_want; go_big_quiet_op; apply Exists.intro; refine ⟨fun w' hC => ?_, ?_⟩; ((first | (go_at_call 87; refine (ssame_t _ HD (hd.keep hC) (hx.keep hC)).mono ?_; rintro e w1 ⟨rfl, hb1⟩; exact ⟨rfl, over_step hC hb1⟩))); go_big_quiet_on) | (go_big_quiet_want; apply Exists.intro; refine ⟨fun w' hC => ?_, ?_⟩; (have k0 := over_cell hC bA.lt (bA.c 0 rfl); have k1 := over_cell hC bB.lt (bB.c 0 rfl); have k2 := over_cell hC (World.block_lt_of_cell? _ _ g0) g0; have k3 := over_cell hC (World.block_lt_of_cell? _ _ g1) g1; have k4 := over_cell hC (World.block_lt_of_cell? _ _ g2) g2; have k5 := over_cell hC (World.block_lt_of_cell? _ _ e0) e0; have k6 := over_cell hC (World.block_lt_of_cell? _ _ e1) e1; have k7 := over_cell hC (World.block_lt_of_cell? _ _ e2) e2; simp [Oper.quietAt, Oper.quietUpon, go_sem, k0, k1, k2, k3, k4, k5, k6, k7, hltI, hlt, hjI, hjl, hj0]; first | done | rfl); go_big_quiet_on; simp only [Act.put, List.setIfInBounds_toArray, List.set_cons_zero, List.set_cons_succ]))
            refine wpQuiet_nil ?_
            intro ws hC
            have k0 := over_cell hC bA.lt (bA.c 0 rfl)
            have k1 := over_cell hC bB.lt (bB.c 0 rfl)
            have k2 := over_cell hC (World.block_lt_of_cell? _ _ g0) g0
            have k3 := over_cell hC (World.block_lt_of_cell? _ _ g1) g1
            have k4 := over_cell hC (World.block_lt_of_cell? _ _ g2) g2
            have k5 := over_cell hC (World.block_lt_of_cell? _ _ e0) e0
            have k6 := over_cell hC (World.block_lt_of_cell? _ _ e1) e1
            have k7 := over_cell hC (World.block_lt_of_cell? _ _ e2) e2
            replace g0 := over_cell hC (World.block_lt_of_cell? _ _ g0) g0
            replace g1 := over_cell hC (World.block_lt_of_cell? _ _ g1) g1
            replace g2 := over_cell hC (World.block_lt_of_cell? _ _ g2) g2
            replace bA := bA.keep hC
            replace bB := bB.keep hC
            replace hok := hok.keep hC
            replace hx := hx.keep hC
            replace hd := hd.keep hC
            replace hB := below_step hB hC
            replace hsz := Nat.le_trans hsz hC.size
            clear hC e0 e1 e2 hd
            clear k0 k1 k2 k3 k4 k5 k6 k7
            cases d
            · have HF : Hid (cameL L (M.take (k + 1)) = cameL L (M.take k) ++ [x]) := Lib.hid (by have q := H0.out; simpa using q)
              clear H0
              have b0 := bB.c 0 rfl
              go_wp2_with fail
              clear b0
              have hsV := hB.size
              refine (sown7_any _ x.h x.a x.n _ hx HXL.out).mono ?_
              rintro e w1 ⟨pa, px, rfl, ho, hb⟩
              replace bA := bA.keep hb
              replace bB := bB.keep hb
              obtain ⟨bQ, N2, z⟩ := one w1 [.int .i64 x.a, .int .i64 x.n, .slice pa x.h.length px] GI
              have hs1 := hb.size
              go_wp2_with (at_builtin; refine Hid.out ?_)
              refine Lib.hid ?_
              obtain ⟨W2, hW2⟩ : ∃ W2, W2 = w1.alloc (.cells #[.int .i64 x.a, .int .i64 x.n, .slice pa x.h.length px] GI) := ⟨_, rfl⟩
              rw [← hW2] at bQ N2 z ⊢
              replace bA := bA.keep N2
              replace bB := bB.keep N2
              have hok2 := (hok.keep hb).keep N2
              have row2 := hok2.row
              rw [← HM.out] at row2
              have hB2 := below_step hB (below_step hb N2)
              refine wp_apY rfl _ _ rfl W1.heap.size w1.heap.size 1 _ m xs [.int .i64 x.a, .int .i64 x.n, .slice pa x.h.length px] rfl rfl row2 bQ rfl (by simp [Value.oneCell']) HLN.out (by have := hB2.size; have := hb.size; have := N2.size; omega) ?_
              intro v3 w3 o3 g3 r3
              rw [HM.out] at o3
              have hG3 : GrYS w3 W1.heap.size v3 (cameL L (M.take k) ++ [x]) (xs ++ [.int .i64 x.a, .int .i64 x.n, .slice pa x.h.length px]) :=
                GrYS.step (S := Rg ws.heap.size w1.heap.size) hok hsz (below_step hb N2) ⟨Rg ws.heap.size w1.heap.size, fun b q => q, (ho.keep N2).mono (Nat.zero_le _), fun k q => World.ownsRow.lt ho k q, HXL.out⟩ (fun b q => ⟨q.1, by have := q.2; omega⟩) o3 g3 r3
              have O3 : Below w.heap.size w w3 := below_growD hB2 hok2.row hwW g3
              have hn1 := ne_grY hok2 hAW
              have hn2 := ne_grY hok2 hBW
              replace bA := bA.grown g3 hn1
              replace bB := bB.grown g3 hn2
              have hs3 : W1.heap.size ≤ w3.heap.size := by have := g3.size; have := N2.size; omega
              rw [← HF.out] at hG3
              have HG3 := Lib.hid hG3
              clear g3 r3 o3 hG3 bQ N2 z hW2 hok hok2 row2 ho hb hB2 hs1 hn1 hn2 hB
              go_wp2
              go_roundw
              case rel => exact ⟨k + 1, by omega, by go_num, ⟨_, HG3.out⟩, bA, bB, O3, hs3⟩
              case measure => simp [intOf]; omega
            · have HF : Hid (cameL L (M.take (k + 1)) = cameL L (M.take k)) := Lib.hid (by have q := H0.out; simpa using q)
              clear H0
              go_wp2
              go_roundw
              case rel => exact ⟨k + 1, by omega, by go_num, ⟨xs, by rw [HF.out]; exact hok⟩, bA, bB, hB, hsz⟩
              case measure => simp [intOf]; omega
        · have hkn : k = nM := by omega
          subst hkn
          have HT : Hid (M.take k = M) := Lib.hid (List.take_of_length_le (by rw [HNM.out]; exact Nat.le_refl _))
          rw [HT.out] at hok
          have hCl : (cameL L M).length ≤ 1048576 := by unfold cameL; exact Nat.le_trans (List.length_filter_le _ _) (by rw [← HNM.out]; exact hlM)
          have own1 := hok.own hCl
          obtain ⟨c1, c2, hlv⟩ := hok.lenV
          subst hlv
          obtain ⟨W2, rfl⟩ : ∃ W2 : World, W2 = wr := ⟨_, rfl⟩
          have HO := Lib.hid own1
          have hAW2 : A < W2.heap.size := bA.lt
          have hBW2 : Q < W2.heap.size := bB.lt
          have hwW2 : w.heap.size ≤ W2.heap.size := hB.size
          clear hcM hlt own1 hok
          go_wp2
          go_loopw [7, 10] (fun lv q wr => ∃ i : Nat, i ≤ nL ∧ q = .int .i64 i ∧ OwnP wr W2.heap.size lv (goneL (L.take i) M) ∧ Bl wr A [.slice a nL c] ∧ Bl wr Q [.slice a' k c'] ∧ Below W2.heap.size W2 wr) (fun _ q _ => nL - (intOf q).toNat)
          case atStart => exact ⟨0, Nat.zero_le _, rfl, World.ownsRow_nil _ _ _ _, bA, bB, Below.refl _ _⟩
          case round =>
            clear bA bB
            obtain ⟨i, hi, rfl, hok, bA, bB, hB2⟩ := hrel
            have a0 := bA.c 0 rfl
            by_cases hlt : i < nL
            · have hltI : (i : Int) < (nL : Int) := by omega
              have BB := below_step hB hB2
              obtain ⟨b, o, rfl, hE⟩ := hcL i hlt
              obtain ⟨x, hx9⟩ : ∃ x, L.getD i gr0 = x := ⟨_, rfl⟩
              rw [hx9] at hE
              obtain ⟨xv, hx, g0, g1, g2⟩ := hE.keep BB
              have HLN : Hid ((goneL (L.take i) M).length + 1 ≤ 4294967296) := Lib.hid (by
                have := List.length_filter_le (fun p : Int × Int => !((M.map pxG).any fun q => sameQ p q)) ((L.take i).map pxG)
                rw [List.length_map, List.length_take] at this
                unfold goneL
                omega)
              have HF0 := Lib.hid (gone_step (L := L) (M := M) (k := i) (x := x) (by rw [← HNL.out]; exact hlt) hx9)
              have HCC := Lib.hid hcL
              obtain ⟨fv, hfv⟩ : ∃ r, findV M x.a x.n = r := ⟨_, rfl⟩
              have HFV := Lib.hid hfv
              have HU := HR.out.2
              clear hx9 hcL hE hx
              by_cases hneg : fv < 0
              · have HF : Hid (goneL (L.take (i + 1)) M = goneL (L.take i) M ++ [(x.a, x.n)]) := Lib.hid (by
                  rw [HF0.out]
                  unfold findV at hfv
                  cases hq : findJ M x.a x.n M.length with
                  | none => rfl
                  | some j => rw [hq] at hfv; dsimp only at hfv; omega)
                clear hfv
                go_wp2_with fail
                refine wp_region_class (C := Over (wr)) (by kernel_rfl) (by kernel_rfl) (over_drew _) ?_
                repeat (first | go_big_quiet_skip | (go_big_quiet_want; go_big_quiet_op; go_big_quiet_on) | (go_big_quiet_want; go_big_quiet_op; apply Exists.intro; refine ⟨fun w' hC => ?_, ?_⟩; ((first | (go_at_call 86; refine (sfind_t _ HFV (HU.keep (below_step BB hC))).mono ?_; rintro e w1 ⟨rfl, hb1⟩; exact ⟨rfl, over_step hC hb1⟩))); go_big_quiet_on) | (go_big_quiet_want; apply Exists.intro; refine ⟨fun w' hC => ?_, ?_⟩; (have k0 := over_cell hC bA.lt (bA.c 0 rfl); have k1 := over_cell hC bB.lt (bB.c 0 rfl); have k2 := over_cell hC (World.block_lt_of_cell? _ _ g0) g0; have k3 := over_cell hC (World.block_lt_of_cell? _ _ g1) g1; simp [Oper.quietAt, Oper.quietUpon, go_sem, k0, k1, k2, k3, hltI, hlt, hneg]; first | done | rfl); go_big_quiet_on; simp only [Act.put, List.setIfInBounds_toArray, List.set_cons_zero, List.set_cons_succ]))
                refine wpQuiet_nil ?_
                intro ws hC
                have k0 := over_cell hC bA.lt (bA.c 0 rfl)
                have k1 := over_cell hC bB.lt (bB.c 0 rfl)
                have k2 := over_cell hC (World.block_lt_of_cell? _ _ g0) g0
                have k3 := over_cell hC (World.block_lt_of_cell? _ _ g1) g1
                replace bA := bA.keep hC
                replace bB := bB.keep hC
                replace hok := hok.keep hC
                replace g0 := over_cell hC (World.block_lt_of_cell? _ _ g0) g0
                replace g1 := over_cell hC (World.block_lt_of_cell? _ _ g1) g1
                replace hB2 := below_step hB2 hC
                clear hC a0 BB
                clear k0 k1 k2 k3
                have a0 := bA.c 0 rfl
                go_wp2_with (at_builtin; refine Hid.out ?_)
                refine Lib.hid ?_
                clear a0
                obtain ⟨bN, N2, z⟩ := one ws [.int .i64 x.a, .int .i64 x.n] PT
                clear z
                have hb2 := below_step hB2 N2
                refine wp_appP rfl _ _ rfl W2.heap.size ws.heap.size 1 _ _ (x.a, x.n) rfl rfl (hok.keep N2) (bN.c 0 rfl) (bN.c 1 rfl) HLN.out (Nat.le_trans hB2.size N2.size) ?_
                intro v3 w3 o3 g3
                have O3 : Below W2.heap.size W2 w3 := below_growD hb2 (hok.keep N2) (Nat.le_refl _) g3
                have hn1 : some A ≠ _ := fun q => by have := (World.ownsRow.lt (hok.keep N2) A q.symm).1; omega
                have hn2 : some Q ≠ _ := fun q => by have := (World.ownsRow.lt (hok.keep N2) Q q.symm).1; omega
                replace bA := (bA.keep N2).grown g3 hn1
                replace bB := (bB.keep N2).grown g3 hn2
                clear g3 hok bN N2 hb2 hn1 hn2 hB2
                go_wp2
                go_roundw
                case rel => exact ⟨i + 1, by omega, by go_num, by rw [HF.out]; exact o3, bA, bB, O3⟩
                case measure => simp [intOf]; omega
              · have HF : Hid (goneL (L.take (i + 1)) M = goneL (L.take i) M) := Lib.hid (by
                  rw [HF0.out]
                  unfold findV at hfv
                  cases hq : findJ M x.a x.n M.length with
                  | none => rw [hq] at hfv; dsimp only at hfv; omega
                  | some j => simp)
                clear hfv
                go_wp2_with fail
                refine wp_region_class (C := Over (wr)) (by kernel_rfl) (by kernel_rfl) (over_drew _) ?_
                repeat (first | go_big_quiet_skip | (go_big_quiet_want; go_big_quiet_op; go_big_quiet_on) | (go_big_quiet_want; go_big_quiet_op; apply Exists.intro; refine ⟨fun w' hC => ?_, ?_⟩; ((first | (go_at_call 86; refine (sfind_t _ HFV (HU.keep (below_step BB hC))).mono ?_; rintro e w1 ⟨rfl, hb1⟩; exact ⟨rfl, over_step hC hb1⟩))); go_big_quiet_on) | (go_big_quiet_want; apply Exists.intro; refine ⟨fun w' hC => ?_, ?_⟩; (have k0 := over_cell hC bA.lt (bA.c 0 rfl); have k1 := over_cell hC bB.lt (bB.c 0 rfl); have k2 := over_cell hC (World.block_lt_of_cell? _ _ g0) g0; have k3 := over_cell hC (World.block_lt_of_cell? _ _ g1) g1; simp [Oper.quietAt, Oper.quietUpon, go_sem, k0, k1, k2, k3, hltI, hlt, hneg]; first | done | rfl); go_big_quiet_on; simp only [Act.put, List.setIfInBounds_toArray, List.set_cons_zero, List.set_cons_succ]))
                refine wpQuiet_nil ?_
                intro ws hC
                have k0 := over_cell hC bA.lt (bA.c 0 rfl)
                have k1 := over_cell hC bB.lt (bB.c 0 rfl)
                have k2 := over_cell hC (World.block_lt_of_cell? _ _ g0) g0
                have k3 := over_cell hC (World.block_lt_of_cell? _ _ g1) g1
                replace bA := bA.keep hC
                replace bB := bB.keep hC
                replace hok := hok.keep hC
                replace g0 := over_cell hC (World.block_lt_of_cell? _ _ g0) g0
                replace g1 := over_cell hC (World.block_lt_of_cell? _ _ g1) g1
                replace hB2 := below_step hB2 hC
                clear hC a0 BB
                clear k0 k1 k2 k3
                go_wp2
                go_roundw
                case rel => exact ⟨i + 1, by omega, by go_num, by rw [HF.out]; exact hok, bA, bB, hB2⟩
                case measure => simp [intOf]; omega
            · have hin : i = nL := by omega
              subst hin
              have HT2 : Hid (L.take i = L) := Lib.hid (List.take_of_length_le (by rw [HNL.out]; exact Nat.le_refl _))
              rw [HT2.out] at hok
              obtain ⟨d1, d2, hlv⟩ := hok.rd.len
              subst hlv
              have own1 := HO.out.agr (.of_below hB2)
              have hgl : (goneL L M).length ≤ 1048576 := by
                unfold goneL
                have := List.length_filter_le (fun p : Int × Int => !((M.map pxG).any fun q => sameQ p q)) (L.map pxG)
                rw [List.length_map, ← HNL.out] at this
                omega
              have HQ := Lib.hid (And.intro own1 (And.intro hok hgl))
              have HS := Lib.hid (And.intro hwW2 (And.intro hB2.size (And.intro hwW hsz)))
              have BE := below_step hB hB2
              clear own1 hok hgl hcL hlt
              go_wp2
              refine bodyPost_ret (v := .tuple #[.slice c1 (cameL L M).length c2, .slice d1 (goneL L M).length d2]) (by simp [results, Try.results38, go_sem]) rfl ?_
              refine ⟨_, _, Rg W1.heap.size W2.heap.size, Rg W2.heap.size wr.heap.size, rfl, by rw [HYES.out.1]; exact HQ.out.1, ⟨?_, ?_, ?_⟩, fun b k => ⟨by have := k.1; have := HS.out.2.2.1; omega, by have := k.2; have := HS.out.2.1; omega⟩, fun b k => ⟨by have := k.1; have := HS.out.1; omega, k.2⟩, fun b k l => by have := k.2; have := l.1; omega, BE⟩
              · rw [HYES.out.2]; exact HQ.out.2.1.mono (Nat.zero_le _)
              · exact fun k hk => ⟨(World.ownsRow.lt HQ.out.2.1 k hk).1, (World.ownsRow.lt HQ.out.2.1 k hk).2⟩
              · rw [HYES.out.2]; exact HQ.out.2.2
end Go.Proofs.Ytbcmoofpgffbhaa
