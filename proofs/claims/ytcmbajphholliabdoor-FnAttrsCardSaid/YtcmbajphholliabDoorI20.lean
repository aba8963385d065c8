/-
  The program's set with one element more. Conditions: those in each contract.
-/
import Derived.Test.YtcmbajphholliabDoorI19
namespace Go.Proofs.YtcmbajphholliabDoor
open Go.ChangeShapes Go.WideShapes Go.ChangeAt Go.RowKit Go.BigFrame Go.Joins
set_option linter.unusedVariables false
set_option maxRecDepth 100000
theorem rd_take {w : World} {ad : Addr} {n c k : Nat} {l : List Int} (h : RdI w (.slice (some ad) n c) l) (hn : n = l.length) (hk : k ≤ l.length) : RdI w (.slice (some ad) k c) (l.take k) := by
  have hlen : (l.take k).length = k := by rw [List.length_take]; omega
  refine ⟨fun y hy => h.1 y (List.mem_of_mem_take hy), by have := h.2.1; omega, ?_⟩
  by_cases h0 : k = 0
  · subst h0
    exact .inl ⟨some ad, c, rfl, by simp, fun h => by cases h⟩
  · rcases h.2.2 with ⟨a, c', hv, rfl, hac⟩ | ⟨b, o, c', hv, hp, hc⟩
    · simp at hk; omega
    · simp only [Value.slice.injEq, Option.some.injEq] at hv
      obtain ⟨rfl, -, rfl⟩ := hv
      refine .inr ⟨b, o, c, by rw [hlen], by omega, fun i hi => ?_⟩
      rw [hlen] at hi
      rw [hc i (by omega)]
      simp [List.getD, hi]
theorem rd_drop {w : World} {ad : Addr} {n c c' k : Nat} {l : List Int} (h : RdI w (.slice (some ad) n c) l) (hn : n = l.length) (hk : k ≤ l.length) : RdI w (.slice (some (ad.add k)) (l.length - k) c') (l.drop k) := by
  have hlen : (l.drop k).length = l.length - k := List.length_drop
  refine ⟨fun y hy => h.1 y (List.mem_of_mem_drop hy), by have := h.2.1; omega, ?_⟩
  by_cases h0 : k = l.length
  · subst h0
    exact .inl ⟨some _, c', by rw [Nat.sub_self], by simp, fun h => by cases h⟩
  · rcases h.2.2 with ⟨a, c', hv, rfl, hac⟩ | ⟨b, o, c'', hv, hp, hc⟩
    · simp at hk; simp at h0; omega
    · simp only [Value.slice.injEq, Option.some.injEq] at hv
      obtain ⟨rfl, -, rfl⟩ := hv
      have hadd : (⟨b, o, none⟩ : Addr).add k = ⟨b, o + k, none⟩ := by unfold Addr.add; split <;> simp_all
      refine .inr ⟨b, o + k, c', by rw [hlen, hadd], by omega, fun i hi => ?_⟩
      rw [hlen] at hi
      rw [Nat.add_assoc, hc (k + i) (by omega)]
      simp [List.getD]
theorem rd_nil (w : World) (a : Addr) : RdI w (.slice (some a) 0 0) [] := ⟨by simp, by simp, .inl ⟨some a, 0, rfl, rfl, fun h => by cases h⟩⟩
theorem concat_at (a c : Value) (l k : List Int) (x : Int) (w : World) (ha : RdI w a l) (hc : RdI w c k) (hx : I64 x) (hn : l.length + k.length ≤ 7) {L : List Int} (HL : Hid (l ++ x :: k = L)) :
    Calls Tryd.prog 79 #[.slice (some ⟨w.heap.size + 1, 0, none⟩) 3 3] (((w.alloc (.cells #[.int .i64 x] IT)).alloc (.cells #[a, .slice (some ⟨w.heap.size, 0, none⟩) 1 1, c] 88)).drew) (NewI w L) := by
  rw [← HL.out]
  have b1 : Below w.heap.size w (w.alloc (.cells #[.int .i64 x] IT)) := (Below.refl _ _).alloc (Nat.le_refl _) _
  have b2 : Below w.heap.size w ((w.alloc (.cells #[.int .i64 x] IT)).alloc (.cells #[a, .slice (some ⟨w.heap.size, 0, none⟩) 1 1, c] 88)).drew := (b1.alloc b1.size _).drew
  have hX := ((own_lit1_I w x w.heap.size rfl).rd (by simpa [I64] using hx)).keep (w' := ((w.alloc (.cells #[.int .i64 x] IT)).alloc (.cells #[a, .slice (some ⟨w.heap.size, 0, none⟩) 1 1, c] 88)).drew) (((Below.refl _ _).alloc (Nat.le_refl _) _).drew)
  refine (concat_any a (.slice (some ⟨w.heap.size, 0, none⟩) 1 1) c l [x] k (w.heap.size + 1) _ (ha.keep b2) hX (hc.keep b2) (by simp; omega) (by simp; omega) (by simp) (by simp) (by simp)).mono ?_
  rintro e w' ⟨y, z, rfl, ho, hb⟩
  rw [List.append_assoc, List.singleton_append] at ho ⊢
  exact ⟨y, z, rfl, ho.mono b2.size, below_step b2 hb⟩
theorem with_any (v : Value) (l : List Int) (x : Int) (w : World) (h : RdI w v l) (hn : l.length ≤ 4) (hs : l.Pairwise (· < ·)) (hx : I64 x) (hcap : ∃ a c, v = .slice a l.length c ∧ l.length ≤ c) :
    Calls Tryd.prog 54 #[v, .int .i64 x] w (NewI w (insL l x)) := by
  have hsle : l.Pairwise (· ≤ ·) := hs.imp (fun h => Int.le_of_lt h)
  by_cases hm : x ∈ l
  · rw [ins_found l x hs hm]
    have hpos : 0 < l.length := List.length_pos_of_mem hm
    have hd : decide (x ∈ l) = true := by simp [hm]
    have HD := Lib.hid hd
    clear hm hd
    go_enter Tryd.func54, Tryd.ntmps54
    go_wp2_with fail
    refine (search_any v l x _ h hn hsle).mono ?_
    rintro e w1 ⟨rfl, hb⟩
    rw [HD.out]
    replace h := h.keep hb
    go_wp2_with fail
    refine (clone_set v l _ h hpos (by omega)).mono ?_
    rintro e w2 ⟨y, z, rfl, ho, hb2⟩
    go_wp2
    go_ret
    exact ⟨y, z, rfl, ho.mono hb.size, below_step hb hb2⟩
  · rw [ins_new l x hs hm]
    have hd : decide (x ∈ l) = false := by simp [hm]
    have HD := Lib.hid hd
    clear hm hd
    obtain ⟨k, hk⟩ : ∃ k, l.countP (fun y => decide (y < x)) = k := ⟨_, rfl⟩
    have hkl : k ≤ l.length := by rw [← hk]; exact List.countP_le_length
    rw [hk]
    have HK := Lib.hid hk
    clear hk
    obtain ⟨L, hL⟩ : ∃ L, l.take k ++ x :: l.drop k = L := ⟨_, rfl⟩
    rw [hL]
    have HL := Lib.hid hL
    clear hL
    obtain ⟨va, vc, rfl, hvc⟩ := hcap
    have hm63 := h.2.1
    unfold maxLen at hm63
    cases va with
    | none =>
      have hl0 : l = [] ∧ vc = 0 := by
        rcases h.2.2 with ⟨a, c, hv, hl, hac⟩ | ⟨b, o, c, hv, hp, hc⟩
        · simp only [Value.slice.injEq] at hv
          obtain ⟨rfl, -, rfl⟩ := hv
          exact ⟨hl, hac rfl⟩
        · cases hv
      obtain ⟨rfl, rfl⟩ := hl0
      obtain rfl : k = 0 := by simpa using hkl
      have hnil : ∀ w : World, RdI w (.slice none 0 0) [] := fun w => ⟨by simp, by simp, .inl ⟨none, 0, rfl, rfl, fun _ => rfl⟩⟩
      go_enter Tryd.func54, Tryd.ntmps54
      go_wp2_with fail
      refine (search_any _ [] x _ (hnil w) (by simp) (by simp)).mono ?_
      rintro e w1 ⟨rfl, hb⟩
      rw [HD.out, HK.out]
      go_wp2_with fail
      go_region_held3 (fun w' => Over w1 w')
        ((first | assumption | exact over_drew w1 | exact over_step (by assumption) (by assumption) | exact over_alloc (by assumption) _))
        ((first | (go_at_call 79; refine (concat_at _ _ [] [] x w1 (hnil w1) (hnil w1) hx (by simp) HL).mono ?_; rintro e w2 ⟨y, z, rfl, ho, hb2⟩)))
      go_wp2
      go_ret
      exact ⟨y, z, rfl, ho.mono hb.size, below_step hb hb2⟩
    | some ad =>
      by_cases hkc : vc = k
      · subst hkc
        have HL' : Hid (l.take vc ++ x :: [] = L) := Lib.hid (by
          rw [← HL.out, List.drop_eq_nil_of_le (show l.length ≤ vc by omega)])
        have hkc3 : (vc : Int) ≤ (l.length : Int) := by omega
        go_enter Tryd.func54, Tryd.ntmps54
        go_wp2_with fail
        refine (search_any _ l x _ h hn hsle).mono ?_
        rintro e w1 ⟨rfl, hb⟩
        rw [HD.out, HK.out]
        have h1 := h.keep hb
        go_wp2_with fail
        go_region_held3 (fun w' => Over w1 w')
          ((first | assumption | exact over_drew w1 | exact over_step (by assumption) (by assumption) | exact over_alloc (by assumption) _))
          ((first | (go_at_call 79; refine (concat_at _ _ (l.take vc) [] x w1 (rd_take h1 rfl hkl) (rd_nil w1 _) hx (by rw [List.length_take]; simp; omega) HL').mono ?_; rintro e w2 ⟨y, z, rfl, ho, hb2⟩)))
        go_wp2
        go_ret
        exact ⟨y, z, rfl, ho.mono hb.size, below_step hb hb2⟩
      · have hkc1 : k < vc := by omega
        have hkc2 : (k : Int) ≤ (vc : Int) := by omega
        have hkc3 : (k : Int) ≤ (l.length : Int) := by omega
        go_enter Tryd.func54, Tryd.ntmps54
        go_wp2_with fail
        refine (search_any _ l x _ h hn hsle).mono ?_
        rintro e w1 ⟨rfl, hb⟩
        rw [HD.out, HK.out]
        have h1 := h.keep hb
        go_wp2_with fail
        go_region_held3 (fun w' => Over w1 w')
          ((first | assumption | exact over_drew w1 | exact over_step (by assumption) (by assumption) | exact over_alloc (by assumption) _))
          ((first | (go_at_call 79; refine (concat_at _ _ (l.take k) (l.drop k) x w1 (rd_take h1 rfl hkl) (rd_drop h1 rfl hkl) hx (by rw [List.length_take, List.length_drop]; omega) HL).mono ?_; rintro e w2 ⟨y, z, rfl, ho, hb2⟩)))
        go_wp2
        go_ret
        exact ⟨y, z, rfl, ho.mono hb.size, below_step hb hb2⟩
end Go.Proofs.YtcmbajphholliabDoor
