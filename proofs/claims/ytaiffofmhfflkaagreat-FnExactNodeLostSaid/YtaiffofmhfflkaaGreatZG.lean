/-
  NodeOk of the model. Conditions: those in each contract.
-/
import Derived.Test.YtaiffofmhfflkaaGreatZF
import Derived.Test.YtaiffofmhfflkaaGreatI12
namespace Go.Proofs.YtaiffofmhfflkaaGreat
open Go.ChangeShapes Go.WideShapes Go.ChangeAt Go.RowKit Go.BigFrame Go.Joins
set_option linter.unusedVariables false
set_option maxRecDepth 100000
set_option linter.unusedSimpArgs false
set_option maxRecDepth 100000

theorem smine8_any (ov rv sv : Value) (N : Nd) (w : World) : Calls Tryz.prog 108 #[.agg #[.int .i64 N.an, ov, .int .i64 N.bw, .bool N.dr, rv, sv]] w fun e w' => e = .returned (.agg #[.slice none 0 0, .int .i64 100, .slice none 0 0, .int .i64 N.bw]) ∧ Below w.heap.size w w' := by
  obtain ⟨bA, bR, B0, z⟩ := two w [.int .i64 N.an, ov, .int .i64 N.bw, .bool N.dr, rv, sv] [.slice none 0 0, .int .i64 100, .slice none 0 0, .int .i64 N.bw] 34 133
  have a2 := (Bl.new w [.int .i64 N.an, ov, .int .i64 N.bw, .bool N.dr, rv, sv] 34 w.heap.size rfl).c 2 rfl
  have e0 := bR.c 0 rfl
  have e1 := bR.c 1 rfl
  have e2 := bR.c 2 rfl
  have e3 := bR.c 3 rfl
  clear z
  go_enter Tryz.func108, Tryz.ntmps108
  go_wp2_with fail
  exact bodyPost_ret (v := .agg #[.slice none 0 0, .int .i64 100, .slice none 0 0, .int .i64 N.bw]) (by simp [results, Tryz.results108, go_sem, e0, e1, e2, e3]) rfl
    ⟨rfl, B0⟩
theorem lx_zero8 : ∀ (l m : List Int), lx l m = 0 ↔ l = m
  | [], [] => by simp [lx]
  | [], _ :: _ => by simp [lx]
  | _ :: _, [] => by simp [lx]
  | x :: l, y :: m => by
    rw [lx, List.cons.injEq]
    by_cases h : nm x y = 0
    · rw [if_pos h, lx_zero8 l m]
      have := (nm_zero x y).1 h
      simp [this]
    · rw [if_neg h]
      constructor
      · intro q; exact absurd q h
      · rintro ⟨q, -⟩; exact absurd ((nm_zero x y).2 q) h
theorem or4_zero8 {p q c d : List Int} {pr pr' bw bw' : Int} : (or4 (rk pr p.length pr' q.length) (lx p q) (lx c d) (nm bw bw') = 0) ↔ sameB p pr c bw q pr' d bw' = true := by
  unfold sameB or4
  rw [decide_eq_true_eq]
  by_cases h2 : lx p q = 0
  · have e2 := (lx_zero8 p q).1 h2
    subst e2
    by_cases h1 : pr = pr'
    · subst h1
      have : rk pr p.length pr p.length = 0 := by
        unfold rk
        rw [if_pos rfl]
        exact (nm_zero _ _).2 rfl
      rw [this, h2]
      simp only [ne_eq, not_true_eq_false, if_false]
      by_cases h3 : lx c d = 0
      · have e3 := (lx_zero8 c d).1 h3
        subst e3
        have hz := (lx_zero8 c c).2 rfl
        simp [hz, nm_zero]
      · have e3 : ¬ c = d := fun q => h3 ((lx_zero8 c d).2 q)
        simp [e3, h3]
    · have h0 : rk pr p.length pr' p.length ≠ 0 := by
        unfold rk
        rw [if_neg h1]
        intro q
        exact h1 ((nm_zero _ _).1 q).symm
      rw [if_pos h0]
      simp [h0, h1]
  · have e2 : ¬ p = q := fun q => h2 ((lx_zero8 _ _).2 q)
    simp only [e2, false_and, iff_false]
    split
    · assumption
    · simpa using h2
theorem scmp8_t (pa ca : Option Addr) (pd cd : Nat) (p c : List Int) (pr bw bw' : Int) (r : Int) (w : World) (hp : RdI w (.slice pa p.length pd) p) (hc : RdI w (.slice ca c.length cd) c) (H : Hid (p.length ≤ 8 ∧ or4 (rk pr p.length 100 0) (lx p []) (lx c []) (nm bw bw') = r)) :
    Calls Tryz.prog 107 #[.agg #[.slice pa p.length pd, .int .i64 pr, .slice ca c.length cd, .int .i64 bw], .agg #[.slice none 0 0, .int .i64 100, .slice none 0 0, .int .i64 bw']] w fun e w' => e = .returned (.int .i64 r) ∧ Below w.heap.size w w' :=
  H.out.2 ▸ sl2cmp_any pa ca none none pd cd 0 0 p c [] [] pr bw 100 bw' w hp hc (rdI_nil8 w) (rdI_nil8 w) H.out.1 (by simp)
set_option maxHeartbeats 1000000 in
theorem sgone_any (v : Value) (l : List (Int × Int)) (a0 n0 : Int) (w : World) (h : RdP w v l) :
    Calls Tryz.prog 106 #[v, .agg #[.int .i64 a0, .int .i64 n0]] w fun e w' => e = .returned (.bool (decide ((a0, n0) ∈ l))) ∧ Below w.heap.size w w' := by
  have hm := h.1
  obtain ⟨a, c, rfl, hc⟩ := h.el
  obtain ⟨n, hn⟩ : ∃ n, n = l.length := ⟨_, rfl⟩
  rw [← hn] at hc hm ⊢
  have HN := Lib.hid hn
  clear h hn
  obtain ⟨bP, B0, z⟩ := one w [.int .i64 a0, .int .i64 n0] PT
  obtain ⟨V, hV⟩ : ∃ V, V = w.alloc (.cells #[.int .i64 a0, .int .i64 n0] PT) := ⟨_, rfl⟩
  rw [← hV] at bP B0
  clear z
  go_enter Tryz.func106, Tryz.ntmps106
  go_wp2
  rw [← hV]
  clear hV
  go_loopw [5] (fun i wr => ∃ k : Nat, k ≤ n ∧ i = .int .i64 k ∧ (∀ j, j < k → l.getD j (0, 0) ≠ (a0, n0)) ∧ Over V wr) (fun i _ => n - (intOf i).toNat)
  case atStart => exact ⟨0, Nat.zero_le _, rfl, fun j hj => by omega, over_refl _⟩
  case round =>
    obtain ⟨k, hk, rfl, ht, hB⟩ := hrel
    have HT := Lib.hid ht
    clear ht
    by_cases hlt : k < n
    · have hltI : (k : Int) < (n : Int) := by omega
      obtain ⟨b, o, rfl, d0, d1⟩ := hc k hlt
      have e0 := cell_keep (below_step B0 hB) (World.block_lt_of_cell? w _ d0) d0
      have e1 := cell_keep (below_step B0 hB) (World.block_lt_of_cell? w _ d1) d1
      have e2 := over_cell hB bP.lt (bP.c 0 rfl)
      have e3 := over_cell hB bP.lt (bP.c 1 rfl)
      obtain ⟨⟨x, y⟩, hx⟩ : ∃ q, l.getD k (0, 0) = q := ⟨_, rfl⟩
      rw [hx] at e0 e1
      have HX := Lib.hid hx
      clear hx hc d0 d1
      by_cases hxy : x = a0 ∧ y = n0
      · obtain ⟨rfl, rfl⟩ := hxy
        have hM : decide ((x, y) ∈ l) = true := by
          rw [decide_eq_true_eq, ← HX.out, List.getD_eq_getElem?_getD, List.getElem?_eq_getElem (by rw [← HN.out]; exact hlt)]
          exact List.getElem_mem _
        have HM := Lib.hid hM
        clear hM
        go_wp2
        go_region
        go_wp2
        go_ret
        exact ⟨ret_bool HM.out.symm, below_step B0 hB.drew⟩
      · have HT2 : Hid (∀ j, j < k + 1 → l.getD j (0, 0) ≠ (a0, n0)) := Lib.hid fun j hj => by
          by_cases e : j = k
          · subst e
            rw [HX.out]
            intro q
            injection q with q1 q2
            exact hxy ⟨q1, q2⟩
          · exact HT.out j (by omega)
        by_cases hx : x = a0
        · have hy : ¬ y = n0 := fun e => hxy ⟨hx, e⟩
          subst hx
          clear hxy
          go_wp2
          go_region
          go_wp2
          go_roundw
          case rel => exact ⟨k + 1, by omega, by go_num, HT2.out, hB.drew⟩
          case measure => simp [intOf]; omega
        · clear hxy
          go_wp2
          go_region
          go_wp2
          go_roundw
          case rel => exact ⟨k + 1, by omega, by go_num, HT2.out, hB.drew⟩
          case measure => simp [intOf]; omega
    · have hkn : k = n := by omega
      have hM : decide ((a0, n0) ∈ l) = false := by
        rw [decide_eq_false_iff_not]
        intro q
        obtain ⟨i, hi, e⟩ := List.mem_iff_getElem.1 q
        refine HT.out i (by rw [hkn, HN.out]; exact hi) ?_
        rw [List.getD_eq_getElem?_getD, List.getElem?_eq_getElem hi]
        exact e
      have HM := Lib.hid hM
      clear hM hkn hc
      go_wp2
      go_ret
      exact ⟨ret_bool HM.out.symm, below_step B0 hB⟩
theorem sgone_t {v : Value} {l : List (Int × Int)} {a0 n0 : Int} {b : Bool} (w : World) (h : RdP w v l) (H : Hid (decide ((a0, n0) ∈ l) = b)) :
    Calls Tryz.prog 106 #[v, .agg #[.int .i64 a0, .int .i64 n0]] w fun e w' => e = .returned (.bool b) ∧ Below w.heap.size w w' := H.out ▸ sgone_any v l a0 n0 w h
theorem nd_iff {N : Nd} (h1 : asB N.an = true) (h2 : (decide ((N.own.length : Int) ≤ 2) && pfxB N.own) = true) (h3 : inB N.bw 0 1000 = true) (h4 : ribB N.rib = true) (h5 : ribB N.sent = true) :
    ndB N = ((N.rib.all (knowM N.an N.bw N.own) && decide (ownN N.rib = N.own.length)) && N.sent.all fun E => sendB E) := by
  have e := know_iff (an := N.an) (bw := N.bw) (rib_ok h4).2.2 (pfx_sorted (by simp only [Bool.and_eq_true] at h2; exact h2.2)) (fun E hE => by obtain ⟨i, hi, q⟩ := mem_get hE; rw [← q]; exact rib_peer h4 i hi)
  unfold ndB
  rw [h1, h2, h3, h4, h5, Bool.true_and, Bool.true_and, Bool.true_and, Bool.true_and, Bool.true_and, ← Bool.and_assoc, ← e]
theorem all_no {L : List Ent} {f : Ent → Bool} {k : Nat} {E : Ent} (hk : k < L.length) (hx : L.getD k e0 = E) (h : f E = false) : L.all f = false := by
  rw [List.all_eq_false]
  refine ⟨E, ?_, by rw [h]; simp⟩
  rw [← hx, List.getD_eq_getElem?_getD, List.getElem?_eq_getElem hk]
  exact List.getElem_mem _
theorem all_yes {L : List Ent} {f : Ent → Bool} {n : Nat} (hn : n = L.length) (h : ∀ i, i < n → f (L.getD i e0) = true) : L.all f = true := by
  rw [List.all_eq_true]
  intro E hE
  obtain ⟨i, hi, e⟩ := mem_get hE
  rw [← e]
  exact h i (by omega)
theorem ownN_next {L : List Ent} {k : Nat} {E : Ent} (hk : k < L.length) (hx : L.getD k e0 = E) : ownN (L.take (k + 1)) = ownN (L.take k) + (if 0 ≤ E.pe then 0 else 1) := by
  have hg : L[k] = E := by simpa [List.getD, hk] using hx
  unfold ownN
  rw [List.take_add_one, List.getElem?_eq_getElem hk, hg, List.filter_append, List.length_append]
  by_cases h : 0 ≤ E.pe <;> simp [h]
theorem ownN_le (L : List Ent) (k : Nat) : ownN (L.take k) ≤ k := by
  unfold ownN
  have := List.length_filter_le (fun E : Ent => !decide (0 ≤ E.pe)) (L.take k)
  rw [List.length_take] at this
  omega
end Go.Proofs.YtaiffofmhfflkaaGreat
