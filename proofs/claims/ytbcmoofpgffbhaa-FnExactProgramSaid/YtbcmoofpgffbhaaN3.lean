/-
  Lists of prefixes: contracts of the program's and the model's test that they are valid and ascending, of the program's comparison of two lists. Conditions: those in each contract.
-/
import Derived.Test.YtbcmoofpgffbhaaN1
import Derived.Test.YtbcmoofpgffbhaaI5
import Derived.Test.YtbcmoofpgffbhaaW3
namespace Go.Proofs.Ytbcmoofpgffbhaa
open Go.ChangeShapes Go.WideShapes Go.ChangeAt Go.RowKit Go.BigFrame
set_option linter.unusedVariables false
set_option maxRecDepth 100000
set_option linter.unusedSimpArgs false

def okAt (l : List (Int × Int)) (i : Nat) : Prop := pokB (l.getD i (0, 0)).1 (l.getD i (0, 0)).2 = true
def upAt (l : List (Int × Int)) (i : Nat) : Prop := cmp2 (l.getD i (0, 0)).1 (l.getD i (0, 0)).2 (l.getD (i + 1) (0, 0)).1 (l.getD (i + 1) (0, 0)).2 < 0
instance (l : List (Int × Int)) (i : Nat) : Decidable (okAt l i) := by unfold okAt; infer_instance
instance (l : List (Int × Int)) (i : Nat) : Decidable (upAt l i) := by unfold upAt; infer_instance
/-- valid and ascending -/
def pfxB (l : List (Int × Int)) : Bool := decide ((∀ i, i < l.length → okAt l i) ∧ ∀ i, i < l.length - 1 → upAt l i)
theorem pfxB_yes {l : List (Int × Int)} {n : Nat} (hn : n = l.length) (h : ∀ i, i < n → okAt l i) (h2 : ∀ i, i + 1 < n → upAt l i) : pfxB l = true := by
  subst hn
  simp only [pfxB, decide_eq_true_eq]
  exact ⟨h, fun i hi => h2 i (by omega)⟩
theorem pfxB_ok {l : List (Int × Int)} {k : Nat} {x y : Int} (hk : k < l.length) (hx : l.getD k (0, 0) = (x, y)) (h : pokB x y = false) : pfxB l = false := by
  simp only [pfxB, decide_eq_false_iff_not]
  rintro ⟨h1, -⟩
  have := h1 k hk
  unfold okAt at this
  rw [hx] at this
  rw [this] at h
  cases h
theorem pfxB_up {l : List (Int × Int)} {k : Nat} {a b x y : Int} (hk : k + 1 < l.length) (ha : l.getD k (0, 0) = (a, b)) (hx : l.getD (k + 1) (0, 0) = (x, y)) (h : ¬ cmp2 a b x y < 0) : pfxB l = false := by
  simp only [pfxB, decide_eq_false_iff_not]
  rintro ⟨-, h1⟩
  have := h1 k (by omega)
  unfold upAt at this
  rw [ha, hx] at this
  exact h this
theorem icmp_t {a n b m r : Int} (w : World) (h : Hid (pcmp a n b m = r)) : Calls Try.prog 153 #[.agg #[.int .i64 a, .int .i64 n], .agg #[.int .i64 b, .int .i64 m]] w fun e w' => e = .returned (.int .i64 r) ∧ Below w.heap.size w w' :=
  h.out ▸ icmp_any a n b m w
theorem scmp_t {a n b m r : Int} (w : World) (h : Hid (cmp2 a n b m = r)) : Calls Try.prog 142 #[.agg #[.int .i64 a, .int .i64 n], .agg #[.int .i64 b, .int .i64 m]] w fun e w' => e = .returned (.int .i64 r) ∧ Below w.heap.size w w' :=
  h.out ▸ scmp_l a n b m w
theorem ipfx_any (v : Value) (l : List (Int × Int)) (most : Int) (w : World) (h : RdP w v l) :
    Calls Try.prog 245 #[v, .int .i64 most] w fun e w' => e = .returned (.bool (decide ((l.length : Int) ≤ most) && pfxB l)) ∧ Below w.heap.size w w' := by
  have hm := h.1
  obtain ⟨a, c, rfl, hc⟩ := h.el
  obtain ⟨n, hn⟩ : ∃ n, n = l.length := ⟨_, rfl⟩
  rw [← hn] at hc hm ⊢
  have HN := Lib.hid hn
  clear h hn
  by_cases hmost : (n : Int) ≤ most
  · have e : decide ((n : Int) ≤ most) = true := by simp [hmost]
    rw [e, Bool.true_and]
    clear e
    go_enter Try.func245, Try.ntmps245
    go_wp2
    go_loopw [13] (fun q wr => ∃ k : Nat, k ≤ n ∧ q = .int .i64 k ∧ (∀ i, i < k → okAt l i) ∧ (∀ i, i + 1 < k → upAt l i) ∧ Below w.heap.size w wr) (fun q _ => n - (intOf q).toNat)
    case atStart => exact ⟨0, Nat.zero_le _, rfl, fun i hi => by omega, fun i hi => by omega, Below.refl _ _⟩
    case round =>
      obtain ⟨k, hk, rfl, hok, hup, hB⟩ := hrel
      have HO := Lib.hid hok
      have HU := Lib.hid hup
      clear hok hup
      by_cases hlt : k < n
      · have hltI : (k : Int) < (n : Int) := by omega
        obtain ⟨b, o, rfl, d0, d1⟩ := hc k hlt
        have e0 := cell_keep hB (World.block_lt_of_cell? w _ d0) d0
        have e1 := cell_keep hB (World.block_lt_of_cell? w _ d1) d1
        obtain ⟨⟨x, y⟩, hx⟩ : ∃ q, l.getD k (0, 0) = q := ⟨_, rfl⟩
        rw [hx] at e0 e1
        have HX := Lib.hid hx
        have HCC := Lib.hid hc
        clear hx hc d0 d1
        cases hp : pokB x y
        · have HP := Lib.hid hp
          have HF := Lib.hid (pfxB_ok (by rw [← HN.out]; exact hlt) HX.out hp)
          clear hp
          have bP := Bl.new wr [.int .i64 x, .int .i64 y] PT wr.heap.size rfl
          have hB2 : Below w.heap.size w (wr.alloc (.cells #[.int .i64 x, .int .i64 y] PT)) := hB.alloc hB.size _
          go_wp2
          refine wp_region_class (C := Over ((wr.alloc (.cells #[.int .i64 x, .int .i64 y] PT)))) (by kernel_rfl) (by kernel_rfl) (over_drew _) ?_
          repeat (first | go_big_quiet_skip | (go_big_quiet_want; go_big_quiet_op; go_big_quiet_on) | (go_big_quiet_want; go_big_quiet_op; apply Exists.intro; refine ⟨fun w' hC => ?_, ?_⟩; ((first | (go_at_call 136; refine (ipok_t _ HP).mono ?_; rintro e w1 ⟨rfl, hb1⟩; exact ⟨rfl, over_step hC hb1⟩))); go_big_quiet_on) | (go_big_quiet_want; apply Exists.intro; refine ⟨fun w' hC => ?_, ?_⟩; (have k0 := over_cell hC bP.lt (bP.c 0 rfl); have k1 := over_cell hC bP.lt (bP.c 1 rfl); simp [Oper.quietAt, Oper.quietUpon, go_sem, k0, k1]; first | done | rfl); go_big_quiet_on; simp only [Act.put, List.setIfInBounds_toArray, List.set_cons_zero, List.set_cons_succ]))
          refine wpQuiet_nil ?_
          intro wr hC
          have k0 := over_cell hC bP.lt (bP.c 0 rfl)
          have k1 := over_cell hC bP.lt (bP.c 1 rfl)
          go_wp2
          go_ret
          exact ⟨ret_bool HF.out.symm, below_step hB2 hC⟩
        · have HP := Lib.hid hp
          have HOK : Hid (∀ i, i < k + 1 → okAt l i) := Lib.hid fun i hi => by
            by_cases e : i = k
            · unfold okAt; rw [e, HX.out]; exact hp
            · exact HO.out i (by omega)
          clear hp
          rcases Nat.eq_zero_or_pos k with rfl | hpos
          · 
            simp only [Nat.zero_mul, Nat.add_zero] at e0 e1
            have bP := Bl.new wr [.int .i64 x, .int .i64 y] PT wr.heap.size rfl
            have hB2 : Below w.heap.size w (wr.alloc (.cells #[.int .i64 x, .int .i64 y] PT)) := hB.alloc hB.size _
            go_wp2
            refine wp_region_class (C := Over ((wr.alloc (.cells #[.int .i64 x, .int .i64 y] PT)))) (by kernel_rfl) (by kernel_rfl) (over_drew _) ?_
            repeat (first | go_big_quiet_skip | (go_big_quiet_want; go_big_quiet_op; go_big_quiet_on) | (go_big_quiet_want; go_big_quiet_op; apply Exists.intro; refine ⟨fun w' hC => ?_, ?_⟩; ((first | (go_at_call 136; refine (ipok_t _ HP).mono ?_; rintro e w1 ⟨rfl, hb1⟩; exact ⟨rfl, over_step hC hb1⟩))); go_big_quiet_on) | (go_big_quiet_want; apply Exists.intro; refine ⟨fun w' hC => ?_, ?_⟩; (have k0 := over_cell hC bP.lt (bP.c 0 rfl); have k1 := over_cell hC bP.lt (bP.c 1 rfl); simp [Oper.quietAt, Oper.quietUpon, go_sem, k0, k1]; first | done | rfl); go_big_quiet_on; simp only [Act.put, List.setIfInBounds_toArray, List.set_cons_zero, List.set_cons_succ]))
            refine wpQuiet_nil ?_
            intro wr hC
            have k0 := over_cell hC bP.lt (bP.c 0 rfl)
            have k1 := over_cell hC bP.lt (bP.c 1 rfl)
            go_wp2
            go_roundw
            case rel => exact ⟨0 + 1, by omega, by go_num, HOK.out, fun i hi => by omega, below_step hB2 hC⟩
            case measure => simp [intOf]; omega
          · obtain ⟨j, rfl⟩ : ∃ j, k = j + 1 := ⟨k - 1, by omega⟩
            obtain ⟨b', o', hbo, d2, d3⟩ := HCC.out j (by omega)
            obtain ⟨rfl, rfl⟩ : b = b' ∧ o = o' := by simpa using hbo
            clear hbo
            obtain ⟨⟨s, t⟩, hs⟩ : ∃ q, l.getD j (0, 0) = q := ⟨_, rfl⟩
            rw [hs] at d2 d3
            have HS := Lib.hid hs
            have hr0 : pcmp s t x y = cmp2 s t x y := by
              have h1 := HO.out j (by omega)
              unfold okAt at h1
              rw [hs] at h1
              unfold pcmp
              rw [h1, HP.out]
              rfl
            obtain ⟨r, hr⟩ : ∃ r, pcmp s t x y = r := ⟨_, rfl⟩
            have HR := Lib.hid hr
            rw [hr] at hr0
            have HR0 := Lib.hid hr0
            clear hs hr hr0
            by_cases hneg : r < 0
            · have HUP : Hid (∀ i, i + 1 < j + 1 + 1 → upAt l i) := Lib.hid fun i hi => by
                by_cases e : i = j
                · unfold upAt; rw [e, HS.out, HX.out, ← HR0.out]; exact hneg
                · exact HU.out i (by omega)
              have bP := Bl.new wr [.int .i64 x, .int .i64 y] PT wr.heap.size rfl
              have hB2 : Below w.heap.size w (wr.alloc (.cells #[.int .i64 x, .int .i64 y] PT)) := hB.alloc hB.size _
              have f0 := cell_keep hB2 (World.block_lt_of_cell? w _ d2) d2
              have f1 := cell_keep hB2 (World.block_lt_of_cell? w _ d3) d3
              clear d2 d3
              have hwj : IntKind.i64.wrap (j : Int) = j := wrap64_in _ (by omega) (by omega)
              have hjI : (j : Int) < (n : Int) := by omega
              have hjN : j < n := by omega
              go_wp2
              refine wp_region_class (C := Over ((wr.alloc (.cells #[.int .i64 x, .int .i64 y] PT)))) (by kernel_rfl) (by kernel_rfl) (over_drew _) ?_
              repeat (first | go_big_quiet_skip | (go_big_quiet_want; go_big_quiet_op; go_big_quiet_on) | (go_big_quiet_want; go_big_quiet_op; apply Exists.intro; refine ⟨fun w' hC => ?_, ?_⟩; ((first | (go_at_call 136; refine (ipok_t _ HP).mono ?_; rintro e w1 ⟨rfl, hb1⟩; exact ⟨rfl, over_step hC hb1⟩) | (go_at_call 153; refine (icmp_t _ HR).mono ?_; rintro e w1 ⟨rfl, hb1⟩; exact ⟨rfl, over_step hC hb1⟩))); go_big_quiet_on) | (go_big_quiet_want; apply Exists.intro; refine ⟨fun w' hC => ?_, ?_⟩; (have k0 := over_cell hC bP.lt (bP.c 0 rfl); have k1 := over_cell hC bP.lt (bP.c 1 rfl); have k2 := over_cell hC (World.block_lt_of_cell? _ _ f0) f0; have k3 := over_cell hC (World.block_lt_of_cell? _ _ f1) f1; simp [Oper.quietAt, Oper.quietUpon, go_sem, k0, k1, k2, k3, hwj, hjI, hjN]; first | done | rfl); go_big_quiet_on; simp only [Act.put, List.setIfInBounds_toArray, List.set_cons_zero, List.set_cons_succ]))
              refine wpQuiet_nil ?_
              intro wr hC
              have k0 := over_cell hC bP.lt (bP.c 0 rfl)
              have k1 := over_cell hC bP.lt (bP.c 1 rfl)
              have k2 := over_cell hC (World.block_lt_of_cell? _ _ f0) f0
              have k3 := over_cell hC (World.block_lt_of_cell? _ _ f1) f1
              go_wp2
              go_roundw
              case rel => exact ⟨j + 1 + 1, by omega, by go_num, HOK.out, HUP.out, below_step hB2 hC⟩
              case measure => simp [intOf]; omega
            · have HF := Lib.hid (pfxB_up (by rw [← HN.out]; exact hlt) HS.out HX.out (by rw [← HR0.out]; exact hneg))
              have bP := Bl.new wr [.int .i64 x, .int .i64 y] PT wr.heap.size rfl
              have hB2 : Below w.heap.size w (wr.alloc (.cells #[.int .i64 x, .int .i64 y] PT)) := hB.alloc hB.size _
              have f0 := cell_keep hB2 (World.block_lt_of_cell? w _ d2) d2
              have f1 := cell_keep hB2 (World.block_lt_of_cell? w _ d3) d3
              clear d2 d3
              have hwj : IntKind.i64.wrap (j : Int) = j := wrap64_in _ (by omega) (by omega)
              have hjI : (j : Int) < (n : Int) := by omega
              have hjN : j < n := by omega
              go_wp2
              refine wp_region_class (C := Over ((wr.alloc (.cells #[.int .i64 x, .int .i64 y] PT)))) (by kernel_rfl) (by kernel_rfl) (over_drew _) ?_
              repeat (first | go_big_quiet_skip | (go_big_quiet_want; go_big_quiet_op; go_big_quiet_on) | (go_big_quiet_want; go_big_quiet_op; apply Exists.intro; refine ⟨fun w' hC => ?_, ?_⟩; ((first | (go_at_call 136; refine (ipok_t _ HP).mono ?_; rintro e w1 ⟨rfl, hb1⟩; exact ⟨rfl, over_step hC hb1⟩) | (go_at_call 153; refine (icmp_t _ HR).mono ?_; rintro e w1 ⟨rfl, hb1⟩; exact ⟨rfl, over_step hC hb1⟩))); go_big_quiet_on) | (go_big_quiet_want; apply Exists.intro; refine ⟨fun w' hC => ?_, ?_⟩; (have k0 := over_cell hC bP.lt (bP.c 0 rfl); have k1 := over_cell hC bP.lt (bP.c 1 rfl); have k2 := over_cell hC (World.block_lt_of_cell? _ _ f0) f0; have k3 := over_cell hC (World.block_lt_of_cell? _ _ f1) f1; simp [Oper.quietAt, Oper.quietUpon, go_sem, k0, k1, k2, k3, hwj, hjI, hjN]; first | done | rfl); go_big_quiet_on; simp only [Act.put, List.setIfInBounds_toArray, List.set_cons_zero, List.set_cons_succ]))
              refine wpQuiet_nil ?_
              intro wr hC
              have k0 := over_cell hC bP.lt (bP.c 0 rfl)
              have k1 := over_cell hC bP.lt (bP.c 1 rfl)
              have k2 := over_cell hC (World.block_lt_of_cell? _ _ f0) f0
              have k3 := over_cell hC (World.block_lt_of_cell? _ _ f1) f1
              go_wp2
              go_ret
              exact ⟨ret_bool HF.out.symm, below_step hB2 hC⟩
      · have hkn : k = n := by omega
        subst hkn
        have HF := Lib.hid (pfxB_yes HN.out HO.out HU.out)
        clear hc
        go_wp2
        go_ret
        exact ⟨ret_bool HF.out.symm, hB⟩
  · have e : (decide ((n : Int) ≤ most) && pfxB l) = false := by simp [hmost]
    rw [e]
    clear e
    go_enter Try.func245, Try.ntmps245
    go_wp2
    go_ret
    exact ⟨rfl, Below.refl _ _⟩
end Go.Proofs.Ytbcmoofpgffbhaa
