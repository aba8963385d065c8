/-
  The prefixes of a table: contracts of the model's functions that list them. Conditions: those in each contract.
-/
import Derived.Test.YtbcmoofpgffbhaaF3
import Derived.Deep.CutRange
namespace Go.Proofs.Ytbcmoofpgffbhaa
open Go.ChangeShapes Go.WideShapes Go.ChangeAt Go.RowKit Go.BigFrame Go.Joins
set_option linter.unusedVariables false
set_option maxRecDepth 100000
set_option linter.unusedSimpArgs false
set_option maxRecDepth 100000

/-- append(s, p): s is the call's own -/
theorem wp_appP {ops : Array Oper} {rest : List Oper} {o : Oper} {a : Act} {Q : Exit → Act → World → Prop} {w : World} (hgd : o.guard = none) (s x : Operand)
    (ho : o.op = .call { callee := .builtin .append, args := #[s, x], argTypes := #[23, 23] })
    (base g c : Nat) (v : Value) (l : List (Int × Int)) (p : Int × Int) (hs : a.eval s = v) (hx : a.eval x = .slice (some ⟨g, 0, none⟩) 1 c) (hown : OwnP w base v l)
    (h0 : w.cell? ⟨g, 0, none⟩ = some (.int .i64 p.1)) (h1 : w.cell? ⟨g, 1, none⟩ = some (.int .i64 p.2)) (hlen : l.length + 1 ≤ 4294967296) (hbase : base ≤ w.heap.size)
    (h : ∀ v' w', OwnP w' base v' (l ++ [p]) → w.grownBy w' v.ownBlock → wpList Try.prog ops Q rest (a.put o.dst v') w') : wpList Try.prog ops Q (o :: rest) a w := by
  obtain ⟨i0, hi, hz0, hz1, hz2⟩ := info_parts infoP
  have hmap : (flat l).map (Value.int .i64) ++ [.int .i64 p.1, .int .i64 p.2] = (flat (l ++ [p])).map (Value.int .i64) := by simp [flat]
  refine wpList_append_own w hgd s x 23 ho base PT i0 (.agg #[.int .i64 0, .int .i64 0]) 2 16 Try.underlying23 hi hz0 hz1 hz2 rfl (by decide) v l.length ((flat l).map (Value.int .i64)) hs hown ⟨g, 0, none⟩ 1 c [.int .i64 p.1, .int .i64 p.2] hx (by simp) (fun j y hy => ?_) (by simp [Value.oneCell']) (by unfold maxLen; omega) (by omega) hbase ?_
  · have hadd : ∀ j, (⟨g, 0, none⟩ : Addr).add j = ⟨g, j, none⟩ := fun j => by unfold Addr.add; split <;> simp_all
    rw [hadd]
    match j, hy with
    | 0, hy => simp at hy; subst hy; exact h0
    | 1, hy => simp at hy; subst hy; exact h1
  · intro v' w' ho' hg' _
    refine h v' w' ?_ hg'
    unfold OwnP
    rw [List.length_append, ← hmap]
    exact ho'
theorem over_grownP {V w w' : World} {v : Value} {l : List (Int × Int)} {base : Nat} (h : Over V w) (ho : OwnP w base v l) (hb : V.heap.size ≤ base) (hg : w.grownBy w' v.ownBlock) : Over V w' :=
  Below.grown h hg h.size (fun k hk => Nat.le_trans hb (World.ownsRow.lt ho k hk).1)
/-- the prefixes of a table, one for each entry -/
def pfx (L : List Ent) : List (Int × Int) := L.map fun E => (E.a, E.n)
theorem pfx_len (L : List Ent) : (pfx L).length = L.length := by simp [pfx]
theorem pfx_get (L : List Ent) (k : Nat) : (pfx L).getD k (0, 0) = ((L.getD k e0).a, (L.getD k e0).n) := by
  simp only [pfx, List.getD_eq_getElem?_getD, List.getElem?_map]
  cases L[k]? <;> simp [e0]
/-- the first k of a list without those that are the same as the one ahead -/
def kp (l : List (Int × Int)) : Nat → List (Int × Int)
  | 0 => []
  | k + 1 => if k = 0 ∨ l.getD (k - 1) (0, 0) ≠ l.getD k (0, 0) then kp l k ++ [l.getD k (0, 0)] else kp l k
theorem kp_len (l : List (Int × Int)) : ∀ k, (kp l k).length ≤ k
  | 0 => Nat.le_refl _
  | k + 1 => by
    have := kp_len l k
    unfold kp
    split <;> simp <;> omega
theorem kp_first (l : List (Int × Int)) : kp l 1 = [l.getD 0 (0, 0)] := by simp [kp]
theorem kp_new {l : List (Int × Int)} {k : Nat} (h : l.getD k (0, 0) ≠ l.getD (k + 1) (0, 0)) : kp l (k + 1 + 1) = kp l (k + 1) ++ [l.getD (k + 1) (0, 0)] := by
  rw [kp]
  simp only [Nat.add_sub_cancel]
  rw [if_pos (.inr h)]
theorem kp_old {l : List (Int × Int)} {k : Nat} (h : l.getD k (0, 0) = l.getD (k + 1) (0, 0)) : kp l (k + 1 + 1) = kp l (k + 1) := by
  rw [kp]
  simp only [Nat.add_sub_cancel]
  rw [if_neg (by rintro (h1 | h1); omega; exact h1 h)]
theorem sl6p_any (v : Value) (L : List Ent) (w : World) (h : RdE w v L) (hn1 : L.length ≤ 1048576) :
    Calls Try.prog 130 #[.agg #[v]] w fun e w' => ∃ u, e = .returned u ∧ OwnP w' w.heap.size u (kp (pfx L) L.length) ∧ Below w.heap.size w w' := by
  obtain ⟨a, c, rfl, hc⟩ := h.el
  obtain ⟨n, hn⟩ : ∃ n, n = L.length := ⟨_, rfl⟩
  rw [← hn] at hc hn1 ⊢
  have HN := Lib.hid hn
  clear h hn
  obtain ⟨bR, B0, z⟩ := one w [.slice a n c] 46
  clear z
  obtain ⟨W1, hW⟩ : ∃ W1, W1 = w.alloc (.cells #[.slice a n c] 46) := ⟨_, rfl⟩
  obtain ⟨R, hR⟩ : ∃ R, R = w.heap.size := ⟨_, rfl⟩
  have hW2 := hW
  have hRW : w.heap.size < W1.heap.size := by rw [hW]; simp
  go_enter Try.func130, Try.ntmps130
  go_wp2
  rw [← hW2]
  try simp only [← hR]
  rw [← hR] at bR
  rw [← hW2] at bR B0
  clear hW hW2 hR
  go_loopw [3, 4] (fun lv q wr => ∃ k : Nat, k ≤ n ∧ q = .int .i64 k ∧ OwnP wr W1.heap.size lv (kp (pfx L) k) ∧ Over W1 wr) (fun _ q _ => n - (intOf q).toNat)
  case atStart => exact ⟨0, Nat.zero_le _, rfl, World.ownsRow_nil _ _ _ _, over_refl _⟩
  case round =>
    obtain ⟨k, hk, rfl, hok, hB⟩ := hrel
    replace bR := bR.keep hB
    have r0 := bR.c 0 rfl
    by_cases hlt : k < n
    · have hltI : (k : Int) < (n : Int) := by omega
      obtain ⟨b, o, rfl, hE⟩ := hc k hlt
      obtain ⟨E, hx⟩ : ∃ E, L.getD k e0 = E := ⟨_, rfl⟩
      rw [hx] at hE
      obtain ⟨pv, cv, -, -, g0, g1, -⟩ := hE.keep (below_step B0 hB)
      have HX := Lib.hid hx
      have HCC := Lib.hid hc
      have HLN : Hid ((kp (pfx L) k).length + 1 ≤ 4294967296) := Lib.hid (by have := kp_len (pfx L) k; omega)
      clear hx hc hE
      rcases Nat.eq_zero_or_pos k with rfl | hpos
      · simp only [Nat.zero_mul, Nat.add_zero] at g0 g1
        go_wp2_with fail
        refine wp_region_class (C := Over (wr)) (by kernel_rfl) (by kernel_rfl) (over_drew _) ?_
        repeat (first | go_big_quiet_skip | (go_big_quiet_want; go_big_quiet_op; go_big_quiet_on) | (go_big_quiet_want; apply Exists.intro; refine ⟨fun w' hC => ?_, ?_⟩; (have k0 := over_cell hC bR.lt (bR.c 0 rfl); have k1 := over_cell hC (World.block_lt_of_cell? _ _ g0) g0; have k2 := over_cell hC (World.block_lt_of_cell? _ _ g1) g1; simp [Oper.quietAt, Oper.quietUpon, go_sem, k0, k1, k2]; first | done | rfl); go_big_quiet_on; simp only [Act.put, List.setIfInBounds_toArray, List.set_cons_zero, List.set_cons_succ]))
        refine wpQuiet_nil ?_
        intro ws hC
        have k0 := over_cell hC bR.lt (bR.c 0 rfl)
        have k1 := over_cell hC (World.block_lt_of_cell? _ _ g0) g0
        have k2 := over_cell hC (World.block_lt_of_cell? _ _ g1) g1
        have hB2 := hC
        have hVs : W1.heap.size ≤ ws.heap.size := (over_step hB hB2).size
        go_wp2_with (at_builtin; refine Hid.out ?_)
        refine Lib.hid ?_
        refine wp_appP rfl _ _ rfl W1.heap.size ws.heap.size 1 _ (kp (pfx L) 0) (E.a, E.n) rfl rfl ((hok.keep hB2).alloc _) ((Bl.new ws [.int .i64 E.a, .int .i64 E.n] PT _ rfl).c 0 rfl) ((Bl.new ws [.int .i64 E.a, .int .i64 E.n] PT _ rfl).c 1 rfl) HLN.out (Nat.le_trans hVs (by simp)) ?_
        intro v3 w3 o3 g3
        have O3 := over_grownP (over_alloc (over_step hB hB2) (.cells #[.int .i64 E.a, .int .i64 E.n] PT)) ((hok.keep hB2).alloc _) (Nat.le_refl _) g3
        clear g3
        go_wp2
        go_roundw
        case rel =>
          refine ⟨0 + 1, by omega, by go_num, ?_, O3⟩
          have e := kp_first (pfx L)
          rw [pfx_get, HX.out] at e
          exact e ▸ o3
        case measure => simp [intOf]; omega
      · obtain ⟨j, rfl⟩ : ∃ j, k = j + 1 := ⟨k - 1, by omega⟩
        obtain ⟨b', o', hbo, hE'⟩ := HCC.out j (by omega)
        obtain ⟨rfl, rfl⟩ : b = b' ∧ o = o' := by simpa using hbo
        clear hbo
        obtain ⟨F, hs⟩ : ∃ F, L.getD j e0 = F := ⟨_, rfl⟩
        rw [hs] at hE'
        obtain ⟨pu, cu, -, -, m0, m1, -⟩ := hE'.keep (below_step B0 hB)
        have HS := Lib.hid hs
        clear hE' hs
        have hwj : IntKind.i64.wrap (j : Int) = j := wrap64_in _ (by omega) (by omega)
        have hjI : (j : Int) < (n : Int) := by omega
        have hjN : j < n := by omega
        have hkJ : (j : Int) + 1 < (n : Int) := by omega
        have hkT : ((j : Int) + 1).toNat = j + 1 := by omega
        have hk0 : (0 : Int) ≤ (j : Int) + 1 := by omega
        have hjz : ((j : Int) + 1 == 0) = false := by simp; omega
        by_cases hsame : F.a = E.a ∧ F.n = E.n
        · rw [hsame.1] at m0
          rw [hsame.2] at m1
          have HSA := Lib.hid hsame
          clear hsame
          go_wp2_with fail
          refine wp_region_class (C := Over (wr)) (by kernel_rfl) (by kernel_rfl) (over_drew _) ?_
          repeat (first | go_big_quiet_skip | (go_big_quiet_want; go_big_quiet_op; go_big_quiet_on) | (go_big_quiet_want; apply Exists.intro; refine ⟨fun w' hC => ?_, ?_⟩; (have k0 := over_cell hC bR.lt (bR.c 0 rfl); have k1 := over_cell hC (World.block_lt_of_cell? _ _ g0) g0; have k2 := over_cell hC (World.block_lt_of_cell? _ _ g1) g1; have k3 := over_cell hC (World.block_lt_of_cell? _ _ m0) m0; have k4 := over_cell hC (World.block_lt_of_cell? _ _ m1) m1; simp [Oper.quietAt, Oper.quietUpon, go_sem, k0, k1, k2, k3, k4, hltI, hlt, hwj, hjI, hjN, hkJ, hkT, hk0, hjz]; first | done | rfl); go_big_quiet_on; simp only [Act.put, List.setIfInBounds_toArray, List.set_cons_zero, List.set_cons_succ]))
          refine wpQuiet_nil ?_
          intro ws hC
          have k0 := over_cell hC bR.lt (bR.c 0 rfl)
          have k1 := over_cell hC (World.block_lt_of_cell? _ _ g0) g0
          have k2 := over_cell hC (World.block_lt_of_cell? _ _ g1) g1
          have k3 := over_cell hC (World.block_lt_of_cell? _ _ m0) m0
          have k4 := over_cell hC (World.block_lt_of_cell? _ _ m1) m1
          have hB2 := hC
          go_wp2
          go_roundw
          case rel =>
            refine ⟨j + 1 + 1, by omega, by go_num, ?_, over_step hB hB2⟩
            have e := kp_old (l := pfx L) (k := j) (by rw [pfx_get, pfx_get, HX.out, HS.out, HSA.out.1, HSA.out.2])
            rw [e]
            exact hok.keep hB2
          case measure => simp [intOf]; omega
        · have HSA := Lib.hid hsame
          by_cases hfa : F.a = E.a
          · have hfn : ¬ F.n = E.n := fun q => hsame ⟨hfa, q⟩
            rw [hfa] at m0
            have hfb : (F.n == E.n) = false := by simp [hfn]
            clear hsame hfa
            go_wp2_with fail
            refine wp_region_class (C := Over (wr)) (by kernel_rfl) (by kernel_rfl) (over_drew _) ?_
            repeat (first | go_big_quiet_skip | (go_big_quiet_want; go_big_quiet_op; go_big_quiet_on) | (go_big_quiet_want; apply Exists.intro; refine ⟨fun w' hC => ?_, ?_⟩; (have k0 := over_cell hC bR.lt (bR.c 0 rfl); have k1 := over_cell hC (World.block_lt_of_cell? _ _ g0) g0; have k2 := over_cell hC (World.block_lt_of_cell? _ _ g1) g1; have k3 := over_cell hC (World.block_lt_of_cell? _ _ m0) m0; have k4 := over_cell hC (World.block_lt_of_cell? _ _ m1) m1; simp [Oper.quietAt, Oper.quietUpon, go_sem, k0, k1, k2, k3, k4, hltI, hlt, hwj, hjI, hjN, hkJ, hkT, hk0, hjz, hfb]; first | done | rfl); go_big_quiet_on; simp only [Act.put, List.setIfInBounds_toArray, List.set_cons_zero, List.set_cons_succ]))
            refine wpQuiet_nil ?_
            intro ws hC
            have k0 := over_cell hC bR.lt (bR.c 0 rfl)
            have k1 := over_cell hC (World.block_lt_of_cell? _ _ g0) g0
            have k2 := over_cell hC (World.block_lt_of_cell? _ _ g1) g1
            have k3 := over_cell hC (World.block_lt_of_cell? _ _ m0) m0
            have k4 := over_cell hC (World.block_lt_of_cell? _ _ m1) m1
            have hB2 := hC
            have hVs : W1.heap.size ≤ ws.heap.size := (over_step hB hB2).size
            go_wp2_with (at_builtin; refine Hid.out ?_)
            refine Lib.hid ?_
            refine wp_appP rfl _ _ rfl W1.heap.size ws.heap.size 1 _ (kp (pfx L) (j + 1)) (E.a, E.n) rfl rfl ((hok.keep hB2).alloc _) ((Bl.new ws [.int .i64 E.a, .int .i64 E.n] PT _ rfl).c 0 rfl) ((Bl.new ws [.int .i64 E.a, .int .i64 E.n] PT _ rfl).c 1 rfl) HLN.out (Nat.le_trans hVs (by simp)) ?_
            intro v3 w3 o3 g3
            have O3 := over_grownP (over_alloc (over_step hB hB2) (.cells #[.int .i64 E.a, .int .i64 E.n] PT)) ((hok.keep hB2).alloc _) (Nat.le_refl _) g3
            clear g3
            go_wp2
            go_roundw
            case rel =>
              refine ⟨j + 1 + 1, by omega, by go_num, ?_, O3⟩
              have e := kp_new (l := pfx L) (k := j) (by rw [pfx_get, pfx_get, HX.out, HS.out]; intro q; injection q with q1 q2; exact HSA.out ⟨q1, q2⟩)
              rw [pfx_get L (j + 1), HX.out] at e
              exact e ▸ o3
            case measure => simp [intOf]; omega
          · have hfb : (F.a == E.a) = false := by simp [hfa]
            clear hsame
            go_wp2_with fail
            refine wp_region_class (C := Over (wr)) (by kernel_rfl) (by kernel_rfl) (over_drew _) ?_
            repeat (first | go_big_quiet_skip | (go_big_quiet_want; go_big_quiet_op; go_big_quiet_on) | (go_big_quiet_want; apply Exists.intro; refine ⟨fun w' hC => ?_, ?_⟩; (have k0 := over_cell hC bR.lt (bR.c 0 rfl); have k1 := over_cell hC (World.block_lt_of_cell? _ _ g0) g0; have k2 := over_cell hC (World.block_lt_of_cell? _ _ g1) g1; have k3 := over_cell hC (World.block_lt_of_cell? _ _ m0) m0; have k4 := over_cell hC (World.block_lt_of_cell? _ _ m1) m1; simp [Oper.quietAt, Oper.quietUpon, go_sem, k0, k1, k2, k3, k4, hltI, hlt, hwj, hjI, hjN, hkJ, hkT, hk0, hjz, hfb]; first | done | rfl); go_big_quiet_on; simp only [Act.put, List.setIfInBounds_toArray, List.set_cons_zero, List.set_cons_succ]))
            refine wpQuiet_nil ?_
            intro ws hC
            have k0 := over_cell hC bR.lt (bR.c 0 rfl)
            have k1 := over_cell hC (World.block_lt_of_cell? _ _ g0) g0
            have k2 := over_cell hC (World.block_lt_of_cell? _ _ g1) g1
            have k3 := over_cell hC (World.block_lt_of_cell? _ _ m0) m0
            have k4 := over_cell hC (World.block_lt_of_cell? _ _ m1) m1
            have hB2 := hC
            have hVs : W1.heap.size ≤ ws.heap.size := (over_step hB hB2).size
            go_wp2_with (at_builtin; refine Hid.out ?_)
            refine Lib.hid ?_
            refine wp_appP rfl _ _ rfl W1.heap.size ws.heap.size 1 _ (kp (pfx L) (j + 1)) (E.a, E.n) rfl rfl ((hok.keep hB2).alloc _) ((Bl.new ws [.int .i64 E.a, .int .i64 E.n] PT _ rfl).c 0 rfl) ((Bl.new ws [.int .i64 E.a, .int .i64 E.n] PT _ rfl).c 1 rfl) HLN.out (Nat.le_trans hVs (by simp)) ?_
            intro v3 w3 o3 g3
            have O3 := over_grownP (over_alloc (over_step hB hB2) (.cells #[.int .i64 E.a, .int .i64 E.n] PT)) ((hok.keep hB2).alloc _) (Nat.le_refl _) g3
            clear g3
            go_wp2
            go_roundw
            case rel =>
              refine ⟨j + 1 + 1, by omega, by go_num, ?_, O3⟩
              have e := kp_new (l := pfx L) (k := j) (by rw [pfx_get, pfx_get, HX.out, HS.out]; intro q; injection q with q1 q2; exact HSA.out ⟨q1, q2⟩)
              rw [pfx_get L (j + 1), HX.out] at e
              exact e ▸ o3
            case measure => simp [intOf]; omega
    · have hkn : k = n := by omega
      subst hkn
      clear hc
      go_wp2
      go_ret
      exact ⟨_, rfl, hok.mono (Nat.le_of_lt hRW), below_step B0 hB⟩
end Go.Proofs.Ytbcmoofpgffbhaa
