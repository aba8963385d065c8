/-
  Contracts of PutPrefix of the program and of the model: one list of bytes behind the given one. Conditions: those in each contract.
-/
import Derived.Test.YthecdnfloahoaaaB3
import Derived.Test.YthecdnfloahoaaaW4
namespace Go.Proofs.Ythecdnfloahoaaa
open Go.ChangeShapes Go.WideShapes Go.ChangeAt Go.RowKit Go.BigFrame
set_option linter.unusedVariables false
set_option maxRecDepth 100000

/-- what is put behind -/
def putL (a n : Int) : List Int := if pokB a n = true then (if n = 0 then [n] else if n ≤ 8 then [n, a / 256] else [n, a / 256, a % 256]) else []
theorem putL_bd (a n : Int) : ∀ x ∈ putL a n, 0 ≤ x ∧ x ≤ 255 := by
  intro x hx
  unfold putL at hx
  split at hx
  · next h =>
    obtain ⟨h0, h1, h2, h3, -⟩ := pok_of h
    split at hx
    · simp at hx; omega
    · split at hx
      · simp at hx; omega
      · simp at hx; omega
  · simp at hx
theorem putL_len (a n : Int) : (putL a n).length ≤ 3 := by
  unfold putL
  split
  · split
    · simp
    · split <;> simp
  · simp
/-- the list l in a row of the call's own -/
def PutB (w : World) (l : List Int) (e : Ending) (w' : World) : Prop := ∃ u, e = .returned u ∧ Own w' w.heap.size u l ∧ Below w.heap.size w w'

theorem sput_any (v : Value) (l : List Int) (a n : Int) (w : World) (hR : Rd w v l) (hlen : l.length ≤ 1048576) :
    Calls Try.prog 120 #[v, .agg #[.int .i64 a, .int .i64 n]] w (PutB w (l ++ putL a n)) := by
  cases hp : pokB a n
  · rw [show putL a n = [] by simp [putL, hp], List.append_nil]
    have H := Lib.hid hp
    clear hp
    obtain ⟨c0, c1, lt, B0⟩ := box2 w (.int .i64 a) (.int .i64 n) 94
    go_enter Try.func120, Try.ntmps120
    go_wp2_with (first | (at_builtin; refine wp_app rfl (.tmp 6) (.tmp 7) rfl (w.heap.size + 1) _ _ ([]) (l) rfl rfl (own_empty_at (w.alloc (.cells #[.int .i64 a, .int .i64 n] 94)) (w.heap.size + 1) (w.heap.size + 1) (by simp) (Nat.le_refl _)) ((hR.alloc _).alloc _) (by simp <;> omega) (by simp <;> omega) ?_; intro v1 w1 ho1 hg1; have o1 : Over (w.alloc (.cells #[.int .i64 a, .int .i64 n] 94)) w1 := over_grown (over_alloc (over_refl _) _) (own_empty_at (w.alloc (.cells #[.int .i64 a, .int .i64 n] 94)) (w.heap.size + 1) (w.heap.size + 1) (by simp) (Nat.le_refl _)) (by simp) hg1; have k0 := over_cell o1 lt c0; have k1 := over_cell o1 lt c1; have z1 : w.heap.size + 1 ≤ w1.heap.size := le_over o1 (by simp); clear hg1))
    rw [List.nil_append] at ho1
    refine (spok_t _ H).mono ?_
    rintro e w2 ⟨rfl, hb2⟩
    have o2 := over_step o1 hb2
    have ho2 := ho1.keep hb2
    have k0 := over_cell o2 lt c0
    have k1 := over_cell o2 lt c1
    have z2 : w.heap.size + 1 ≤ w2.heap.size := le_over o2 (by simp)
    clear hb2
    go_wp2_with fail
    go_ret
    exact ⟨_, rfl, ho2.mono (by omega), below_step B0 (over_below o2)⟩
  · obtain ⟨ha0, ha1, hn0', hn1, -⟩ := pok_of hp
    by_cases hn : n = 0
    · subst hn
      rw [show putL a 0 = [0] by simp [putL, hp]]
      have H := Lib.hid hp
      clear hp
      obtain ⟨c0, c1, lt, B0⟩ := box2 w (.int .i64 a) (.int .i64 0) 94
      go_enter Try.func120, Try.ntmps120
      go_wp2_with (first | (at_builtin; refine wp_app rfl (.tmp 6) (.tmp 7) rfl (w.heap.size + 1) _ _ ([]) (l) rfl rfl (own_empty_at (w.alloc (.cells #[.int .i64 a, .int .i64 0] 94)) (w.heap.size + 1) (w.heap.size + 1) (by simp) (Nat.le_refl _)) ((hR.alloc _).alloc _) (by simp <;> omega) (by simp <;> omega) ?_; intro v1 w1 ho1 hg1; have o1 : Over (w.alloc (.cells #[.int .i64 a, .int .i64 0] 94)) w1 := over_grown (over_alloc (over_refl _) _) (own_empty_at (w.alloc (.cells #[.int .i64 a, .int .i64 0] 94)) (w.heap.size + 1) (w.heap.size + 1) (by simp) (Nat.le_refl _)) (by simp) hg1; have k0 := over_cell o1 lt c0; have k1 := over_cell o1 lt c1; have z1 : w.heap.size + 1 ≤ w1.heap.size := le_over o1 (by simp); clear hg1))
      rw [List.nil_append] at ho1
      refine (spok_t _ H).mono ?_
      rintro e w2 ⟨rfl, hb2⟩
      have o2 := over_step o1 hb2
      have ho2 := ho1.keep hb2
      have k0 := over_cell o2 lt c0
      have k1 := over_cell o2 lt c1
      have z2 : w.heap.size + 1 ≤ w2.heap.size := le_over o2 (by simp)
      clear hb2
      go_wp2_with (first | (at_builtin; refine wp_app rfl (.tmp 13) (.tmp 17) rfl (w.heap.size + 1) _ _ (l) ([0]) rfl rfl (ho2.alloc _) (rd_lit1 _ _ (by omega)) (by simp <;> omega) (by simp <;> omega) ?_; intro v3 w3 ho3 hg3; have o3 : Over (w.alloc (.cells #[.int .i64 a, .int .i64 0] 94)) w3 := over_grown (over_alloc o2 _) (ho2.alloc _) (by simp) hg3; have k0 := over_cell o3 lt c0; have k1 := over_cell o3 lt c1; have z3 : w.heap.size + 1 ≤ w3.heap.size := le_over o3 (by simp); clear hg3))
      go_ret
      exact ⟨_, rfl, (by simpa using ho3 : Own w3 (w.heap.size + 1) v3 _).mono (by omega), below_step B0 (over_below o3)⟩
    · by_cases h8 : n ≤ 8
      · rw [show putL a n = [n, a / 256] by rw [putL, if_pos hp, if_neg hn, if_pos h8]]
        have H := Lib.hid hp
        clear hp
        have hn0 : 0 < n := by omega
        have h8x : ¬ 8 < n := by omega
        obtain ⟨c0, c1, lt, B0⟩ := box2 w (.int .i64 a) (.int .i64 n) 94
        go_enter Try.func120, Try.ntmps120
        go_wp2_with (first | (at_builtin; refine wp_app rfl (.tmp 6) (.tmp 7) rfl (w.heap.size + 1) _ _ ([]) (l) rfl rfl (own_empty_at (w.alloc (.cells #[.int .i64 a, .int .i64 n] 94)) (w.heap.size + 1) (w.heap.size + 1) (by simp) (Nat.le_refl _)) ((hR.alloc _).alloc _) (by simp <;> omega) (by simp <;> omega) ?_; intro v1 w1 ho1 hg1; have o1 : Over (w.alloc (.cells #[.int .i64 a, .int .i64 n] 94)) w1 := over_grown (over_alloc (over_refl _) _) (own_empty_at (w.alloc (.cells #[.int .i64 a, .int .i64 n] 94)) (w.heap.size + 1) (w.heap.size + 1) (by simp) (Nat.le_refl _)) (by simp) hg1; have k0 := over_cell o1 lt c0; have k1 := over_cell o1 lt c1; have z1 : w.heap.size + 1 ≤ w1.heap.size := le_over o1 (by simp); clear hg1))
        rw [List.nil_append] at ho1
        refine (spok_t _ H).mono ?_
        rintro e w2 ⟨rfl, hb2⟩
        have o2 := over_step o1 hb2
        have ho2 := ho1.keep hb2
        have k0 := over_cell o2 lt c0
        have k1 := over_cell o2 lt c1
        have z2 : w.heap.size + 1 ≤ w2.heap.size := le_over o2 (by simp)
        clear hb2
        go_wp2_with (first | (at_builtin; refine wp_app rfl (.tmp 13) (.tmp 17) rfl (w.heap.size + 1) _ _ (l) ([n]) rfl rfl (ho2.alloc _) (rd_lit1 _ _ (by omega)) (by simp <;> omega) (by simp <;> omega) ?_; intro v3 w3 ho3 hg3; have o3 : Over (w.alloc (.cells #[.int .i64 a, .int .i64 n] 94)) w3 := over_grown (over_alloc o2 _) (ho2.alloc _) (by simp) hg3; have k0 := over_cell o3 lt c0; have k1 := over_cell o3 lt c1; have z3 : w.heap.size + 1 ≤ w3.heap.size := le_over o3 (by simp); clear hg3) | (at_builtin; refine wp_app rfl (.tmp 22) (.tmp 27) rfl (w.heap.size + 1) _ _ (l ++ [n]) ([a / 256]) rfl rfl (ho3.alloc _) (rd_lit1 _ _ (by omega)) (by simp <;> omega) (by simp <;> omega) ?_; intro v4 w4 ho4 hg4; have o4 : Over (w.alloc (.cells #[.int .i64 a, .int .i64 n] 94)) w4 := over_grown (over_alloc o3 _) (ho3.alloc _) (by simp) hg4; have k0 := over_cell o4 lt c0; have k1 := over_cell o4 lt c1; have z4 : w.heap.size + 1 ≤ w4.heap.size := le_over o4 (by simp); clear hg4))
        go_ret
        exact ⟨_, rfl, (by simpa using ho4 : Own w4 (w.heap.size + 1) v4 _).mono (by omega), below_step B0 (over_below o4)⟩
      · rw [show putL a n = [n, a / 256, a % 256] by rw [putL, if_pos hp, if_neg hn, if_neg h8]]
        have H := Lib.hid hp
        clear hp
        have hn0 : 0 < n := by omega
        have h8x : 8 < n := by omega
        obtain ⟨c0, c1, lt, B0⟩ := box2 w (.int .i64 a) (.int .i64 n) 94
        go_enter Try.func120, Try.ntmps120
        go_wp2_with (first | (at_builtin; refine wp_app rfl (.tmp 6) (.tmp 7) rfl (w.heap.size + 1) _ _ ([]) (l) rfl rfl (own_empty_at (w.alloc (.cells #[.int .i64 a, .int .i64 n] 94)) (w.heap.size + 1) (w.heap.size + 1) (by simp) (Nat.le_refl _)) ((hR.alloc _).alloc _) (by simp <;> omega) (by simp <;> omega) ?_; intro v1 w1 ho1 hg1; have o1 : Over (w.alloc (.cells #[.int .i64 a, .int .i64 n] 94)) w1 := over_grown (over_alloc (over_refl _) _) (own_empty_at (w.alloc (.cells #[.int .i64 a, .int .i64 n] 94)) (w.heap.size + 1) (w.heap.size + 1) (by simp) (Nat.le_refl _)) (by simp) hg1; have k0 := over_cell o1 lt c0; have k1 := over_cell o1 lt c1; have z1 : w.heap.size + 1 ≤ w1.heap.size := le_over o1 (by simp); clear hg1))
        rw [List.nil_append] at ho1
        refine (spok_t _ H).mono ?_
        rintro e w2 ⟨rfl, hb2⟩
        have o2 := over_step o1 hb2
        have ho2 := ho1.keep hb2
        have k0 := over_cell o2 lt c0
        have k1 := over_cell o2 lt c1
        have z2 : w.heap.size + 1 ≤ w2.heap.size := le_over o2 (by simp)
        clear hb2
        go_wp2_with (first | (at_builtin; refine wp_app rfl (.tmp 13) (.tmp 17) rfl (w.heap.size + 1) _ _ (l) ([n]) rfl rfl (ho2.alloc _) (rd_lit1 _ _ (by omega)) (by simp <;> omega) (by simp <;> omega) ?_; intro v3 w3 ho3 hg3; have o3 : Over (w.alloc (.cells #[.int .i64 a, .int .i64 n] 94)) w3 := over_grown (over_alloc o2 _) (ho2.alloc _) (by simp) hg3; have k0 := over_cell o3 lt c0; have k1 := over_cell o3 lt c1; have z3 : w.heap.size + 1 ≤ w3.heap.size := le_over o3 (by simp); clear hg3) | (at_builtin; refine wp_app rfl (.tmp 22) (.tmp 27) rfl (w.heap.size + 1) _ _ (l ++ [n]) ([a / 256]) rfl rfl (ho3.alloc _) (rd_lit1 _ _ (by omega)) (by simp <;> omega) (by simp <;> omega) ?_; intro v4 w4 ho4 hg4; have o4 : Over (w.alloc (.cells #[.int .i64 a, .int .i64 n] 94)) w4 := over_grown (over_alloc o3 _) (ho3.alloc _) (by simp) hg4; have k0 := over_cell o4 lt c0; have k1 := over_cell o4 lt c1; have z4 : w.heap.size + 1 ≤ w4.heap.size := le_over o4 (by simp); clear hg4) | (at_builtin; refine wp_app rfl (.tmp 32) (.tmp 36) rfl (w.heap.size + 1) _ _ ((l ++ [n]) ++ [a / 256]) ([a % 256]) rfl rfl (ho4.alloc _) (rd_lit1 _ _ (by omega)) (by simp <;> omega) (by simp <;> omega) ?_; intro v5 w5 ho5 hg5; have o5 : Over (w.alloc (.cells #[.int .i64 a, .int .i64 n] 94)) w5 := over_grown (over_alloc o4 _) (ho4.alloc _) (by simp) hg5; have k0 := over_cell o5 lt c0; have k1 := over_cell o5 lt c1; have z5 : w.heap.size + 1 ≤ w5.heap.size := le_over o5 (by simp); clear hg5))
        go_ret
        exact ⟨_, rfl, (by simpa using ho5 : Own w5 (w.heap.size + 1) v5 _).mono (by omega), below_step B0 (over_below o5)⟩

theorem ebytes_at (n m : Int) (w : World) (h0 : 0 ≤ n) (h1 : n ≤ 255) (hm : nbytes n = m) : Calls Try.prog 131 #[.int .i64 n] w fun e w' => e = .returned (.int .i64 m) ∧ w = w' := hm ▸ ebytes n w h0 h1

theorem iput_any (v : Value) (l : List Int) (a n : Int) (w : World) (hR : Rd w v l) (hlen : l.length ≤ 1048576) :
    Calls Try.prog 181 #[v, .agg #[.int .i64 a, .int .i64 n]] w (PutB w (l ++ putL a n)) := by
  cases hp : pokB a n
  · rw [show putL a n = [] by simp [putL, hp], List.append_nil]
    have H := Lib.hid hp
    clear hp
    obtain ⟨c0, c1, lt, B0⟩ := box2 w (.int .i64 a) (.int .i64 n) 94
    go_enter Try.func181, Try.ntmps181
    go_wp2_with fail
    refine (clone_any v l _ (hR.alloc _) hlen).mono ?_
    rintro e w1 ⟨v1, rfl, ho1', hb1⟩
    have ho1 : Own w1 (w.heap.size + 1) v1 l := ho1'.mono (by simp)
    have o1 := over_step (over_refl (w.alloc (.cells #[.int .i64 a, .int .i64 n] 94))) hb1
    have k0 := over_cell o1 lt c0
    have k1 := over_cell o1 lt c1
    clear hb1 ho1'
    go_wp2_with fail
    refine (ipok_t _ H).mono ?_
    rintro e w2 ⟨rfl, hb2⟩
    have o2 := over_step o1 hb2
    have ho2 := ho1.keep hb2
    have k0 := over_cell o2 lt c0
    have k1 := over_cell o2 lt c1
    have z2 : w.heap.size + 1 ≤ w2.heap.size := le_over o2 (by simp)
    clear hb2
    go_wp2_with fail
    go_ret
    exact ⟨_, rfl, ho2.mono (by omega), below_step B0 (over_below o2)⟩
  · obtain ⟨ha0, ha1, hn0', hn1, -⟩ := pok_of hp
    by_cases hn : n = 0
    · subst hn
      rw [show putL a 0 = [0] by simp [putL, hp]]
      have H := Lib.hid hp
      clear hp
      obtain ⟨c0, c1, lt, B0⟩ := box2 w (.int .i64 a) (.int .i64 0) 94
      go_enter Try.func181, Try.ntmps181
      go_wp2_with fail
      refine (clone_any v l _ (hR.alloc _) hlen).mono ?_
      rintro e w1 ⟨v1, rfl, ho1', hb1⟩
      have ho1 : Own w1 (w.heap.size + 1) v1 l := ho1'.mono (by simp)
      have o1 := over_step (over_refl (w.alloc (.cells #[.int .i64 a, .int .i64 0] 94))) hb1
      have k0 := over_cell o1 lt c0
      have k1 := over_cell o1 lt c1
      clear hb1 ho1'
      go_wp2_with fail
      refine (ipok_t _ H).mono ?_
      rintro e w2 ⟨rfl, hb2⟩
      have o2 := over_step o1 hb2
      have ho2 := ho1.keep hb2
      have k0 := over_cell o2 lt c0
      have k1 := over_cell o2 lt c1
      have z2 : w.heap.size + 1 ≤ w2.heap.size := le_over o2 (by simp)
      clear hb2
      go_wp2_with (first | (at_builtin; refine wp_app rfl (.tmp 13) (.tmp 17) rfl (w.heap.size + 1) _ _ (l) ([0]) rfl rfl (ho2.alloc _) (rd_lit1 _ _ (by omega)) (by simp <;> omega) (by simp <;> omega) ?_; intro v3 w3 ho3 hg3; have o3 : Over (w.alloc (.cells #[.int .i64 a, .int .i64 0] 94)) w3 := over_grown (over_alloc o2 _) (ho2.alloc _) (by simp) hg3; have k0 := over_cell o3 lt c0; have k1 := over_cell o3 lt c1; have z3 : w.heap.size + 1 ≤ w3.heap.size := le_over o3 (by simp); clear hg3))
      refine (ebytes_at 0 0 _ (by omega) (by omega) (by unfold nbytes; omega)).mono ?_
      rintro e wx ⟨rfl, rfl⟩
      go_wp2_with fail
      refine wp_loop_rounds 1 ?_
      rw [rounds_succ]
      go_wp2_with fail
      go_ret
      exact ⟨_, rfl, (by simpa using ho3 : Own w3 (w.heap.size + 1) v3 _).mono (by omega), below_step B0 (over_below o3)⟩
    · by_cases h8 : n ≤ 8
      · rw [show putL a n = [n, a / 256] by rw [putL, if_pos hp, if_neg hn, if_pos h8]]
        have H := Lib.hid hp
        clear hp
        have hn0 : 0 < n := by omega
        have h8x : ¬ 8 < n := by omega
        obtain ⟨c0, c1, lt, B0⟩ := box2 w (.int .i64 a) (.int .i64 n) 94
        go_enter Try.func181, Try.ntmps181
        go_wp2_with fail
        refine (clone_any v l _ (hR.alloc _) hlen).mono ?_
        rintro e w1 ⟨v1, rfl, ho1', hb1⟩
        have ho1 : Own w1 (w.heap.size + 1) v1 l := ho1'.mono (by simp)
        have o1 := over_step (over_refl (w.alloc (.cells #[.int .i64 a, .int .i64 n] 94))) hb1
        have k0 := over_cell o1 lt c0
        have k1 := over_cell o1 lt c1
        clear hb1 ho1'
        go_wp2_with fail
        refine (ipok_t _ H).mono ?_
        rintro e w2 ⟨rfl, hb2⟩
        have o2 := over_step o1 hb2
        have ho2 := ho1.keep hb2
        have k0 := over_cell o2 lt c0
        have k1 := over_cell o2 lt c1
        have z2 : w.heap.size + 1 ≤ w2.heap.size := le_over o2 (by simp)
        clear hb2
        go_wp2_with (first | (at_builtin; refine wp_app rfl (.tmp 13) (.tmp 17) rfl (w.heap.size + 1) _ _ (l) ([n]) rfl rfl (ho2.alloc _) (rd_lit1 _ _ (by omega)) (by simp <;> omega) (by simp <;> omega) ?_; intro v3 w3 ho3 hg3; have o3 : Over (w.alloc (.cells #[.int .i64 a, .int .i64 n] 94)) w3 := over_grown (over_alloc o2 _) (ho2.alloc _) (by simp) hg3; have k0 := over_cell o3 lt c0; have k1 := over_cell o3 lt c1; have z3 : w.heap.size + 1 ≤ w3.heap.size := le_over o3 (by simp); clear hg3))
        refine (ebytes_at n 1 _ (by omega) (by omega) (by unfold nbytes; omega)).mono ?_
        rintro e wx ⟨rfl, rfl⟩
        go_wp2_with fail
        refine wp_loop_rounds 2 ?_
        rw [rounds_succ]
        go_wp2_with (first | (at_builtin; refine wp_app rfl (.tmp 25) (.tmp 33) rfl (w.heap.size + 1) _ _ (l ++ [n]) ([a / 256]) rfl rfl (ho3.alloc _) (rd_lit1 _ _ (by omega)) (by simp <;> omega) (by simp <;> omega) ?_; intro v4 w4 ho4 hg4; have o4 : Over (w.alloc (.cells #[.int .i64 a, .int .i64 n] 94)) w4 := over_grown (over_alloc o3 _) (ho3.alloc _) (by simp) hg4; have k0 := over_cell o4 lt c0; have k1 := over_cell o4 lt c1; have z4 : w.heap.size + 1 ≤ w4.heap.size := le_over o4 (by simp); clear hg4))
        rw [rounds_succ]
        go_wp2_with fail
        go_ret
        exact ⟨_, rfl, (by simpa using ho4 : Own w4 (w.heap.size + 1) v4 _).mono (by omega), below_step B0 (over_below o4)⟩
      · rw [show putL a n = [n, a / 256, a % 256] by rw [putL, if_pos hp, if_neg hn, if_neg h8]]
        have H := Lib.hid hp
        clear hp
        have hn0 : 0 < n := by omega
        have h8x : 8 < n := by omega
        obtain ⟨c0, c1, lt, B0⟩ := box2 w (.int .i64 a) (.int .i64 n) 94
        go_enter Try.func181, Try.ntmps181
        go_wp2_with fail
        refine (clone_any v l _ (hR.alloc _) hlen).mono ?_
        rintro e w1 ⟨v1, rfl, ho1', hb1⟩
        have ho1 : Own w1 (w.heap.size + 1) v1 l := ho1'.mono (by simp)
        have o1 := over_step (over_refl (w.alloc (.cells #[.int .i64 a, .int .i64 n] 94))) hb1
        have k0 := over_cell o1 lt c0
        have k1 := over_cell o1 lt c1
        clear hb1 ho1'
        go_wp2_with fail
        refine (ipok_t _ H).mono ?_
        rintro e w2 ⟨rfl, hb2⟩
        have o2 := over_step o1 hb2
        have ho2 := ho1.keep hb2
        have k0 := over_cell o2 lt c0
        have k1 := over_cell o2 lt c1
        have z2 : w.heap.size + 1 ≤ w2.heap.size := le_over o2 (by simp)
        clear hb2
        go_wp2_with (first | (at_builtin; refine wp_app rfl (.tmp 13) (.tmp 17) rfl (w.heap.size + 1) _ _ (l) ([n]) rfl rfl (ho2.alloc _) (rd_lit1 _ _ (by omega)) (by simp <;> omega) (by simp <;> omega) ?_; intro v3 w3 ho3 hg3; have o3 : Over (w.alloc (.cells #[.int .i64 a, .int .i64 n] 94)) w3 := over_grown (over_alloc o2 _) (ho2.alloc _) (by simp) hg3; have k0 := over_cell o3 lt c0; have k1 := over_cell o3 lt c1; have z3 : w.heap.size + 1 ≤ w3.heap.size := le_over o3 (by simp); clear hg3))
        refine (ebytes_at n 2 _ (by omega) (by omega) (by unfold nbytes; omega)).mono ?_
        rintro e wx ⟨rfl, rfl⟩
        go_wp2_with fail
        refine wp_loop_rounds 3 ?_
        rw [rounds_succ]
        go_wp2_with (first | (at_builtin; refine wp_app rfl (.tmp 25) (.tmp 33) rfl (w.heap.size + 1) _ _ (l ++ [n]) ([a / 256]) rfl rfl (ho3.alloc _) (rd_lit1 _ _ (by omega)) (by simp <;> omega) (by simp <;> omega) ?_; intro v4 w4 ho4 hg4; have o4 : Over (w.alloc (.cells #[.int .i64 a, .int .i64 n] 94)) w4 := over_grown (over_alloc o3 _) (ho3.alloc _) (by simp) hg4; have k0 := over_cell o4 lt c0; have k1 := over_cell o4 lt c1; have z4 : w.heap.size + 1 ≤ w4.heap.size := le_over o4 (by simp); clear hg4))
        rw [rounds_succ]
        go_wp2_with (first | (at_builtin; refine wp_app rfl (.tmp 25) (.tmp 33) rfl (w.heap.size + 1) _ _ ((l ++ [n]) ++ [a / 256]) ([a % 256]) rfl rfl (ho4.alloc _) (rd_lit1 _ _ (by omega)) (by simp <;> omega) (by simp <;> omega) ?_; intro v5 w5 ho5 hg5; have o5 : Over (w.alloc (.cells #[.int .i64 a, .int .i64 n] 94)) w5 := over_grown (over_alloc o4 _) (ho4.alloc _) (by simp) hg5; have k0 := over_cell o5 lt c0; have k1 := over_cell o5 lt c1; have z5 : w.heap.size + 1 ≤ w5.heap.size := le_over o5 (by simp); clear hg5))
        rw [rounds_succ]
        go_wp2_with fail
        go_ret
        exact ⟨_, rfl, (by simpa using ho5 : Own w5 (w.heap.size + 1) v5 _).mono (by omega), below_step B0 (over_below o5)⟩
end Go.Proofs.Ythecdnfloahoaaa
