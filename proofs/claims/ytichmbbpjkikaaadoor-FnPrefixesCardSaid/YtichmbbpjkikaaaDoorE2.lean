/-
  What is drawn for the laws on encodings: bytes that are spoilt. Conditions: those in each contract.
-/
import Derived.Test.YtichmbbpjkikaaaDoorE1
namespace Go.Proofs.YtichmbbpjkikaaaDoor
open Go.ChangeShapes Go.WideShapes Go.ChangeAt Go.RowKit Go.BigFrame
set_option linter.unusedVariables false
set_option maxRecDepth 100000
set_option linter.unusedSimpArgs false

/-- the bytes xs, whatever the cursor in block g does -/
def Hold (w : World) (g : Nat) (u : Value) (xs : List Int) : Prop := ∀ w', w.grownBy w' (some g) → Rd w' u xs
theorem Hold.rd {w : World} {g : Nat} {u : Value} {xs : List Int} (h : Hold w g u xs) : Rd w u xs := h w (World.grownBy.refl w _)
theorem Hold.step {w w1 : World} {g : Nat} {u : Value} {xs : List Int} (h : Hold w g u xs) (hg : w.grownBy w1 (some g)) : Hold w1 g u xs := fun w' k => h w' (grown_trans hg k)
/-- the slice's room -/
def Cap (u : Value) (xs : List Int) : Prop := ∃ a c, u = .slice a xs.length c ∧ xs.length ≤ c
theorem Own.cap {w : World} {base : Nat} {v : Value} {xs : List Int} (h : Own w base v xs) : Cap v xs := by
  rcases h.2 with ⟨hv, hn⟩ | ⟨g, cap, cur, hv, hb, hg, hnc, hcm, _⟩
  · exact ⟨none, 0, by rw [hv, hn], by omega⟩
  · exact ⟨_, cap, hv, hnc⟩
/-- bytes that read, out of the cursor -/
def CurR (V : World) (g : Nat) (v : Value) (l : List Int) (n : Nat) (w : World) (e : Ending) (w' : World) : Prop :=
  ∃ u xs, e = .returned u ∧ Hold w' g u xs ∧ xs.length ≤ n ∧ Cur V w' g v l ∧ w.grownBy w' (some g) ∧ Cap u xs
theorem Own.at {w : World} {base : Nat} {v : Value} {xs : List Int} (h : Own w base v xs) (hp : 0 < xs.length) : ∃ b cap, v = .slice (some ⟨b, 0, none⟩) xs.length cap ∧ base ≤ b ∧ xs.length ≤ cap ∧ cap ≤ maxLen := by
  rcases h.2 with ⟨_, hn⟩ | ⟨g, cap, cur, hv, hb, hg, hnc, hcm, _⟩
  · omega
  · exact ⟨g, cap, hv, hb, hnc, hcm⟩
theorem Own.cell {w : World} {base b cap : Nat} {xs : List Int} (h : Own w base (.slice (some ⟨b, 0, none⟩) xs.length cap) xs) (i : Nat) (hi : i < xs.length) : w.cell? ⟨b, i, none⟩ = some (.int .u8 (xs.getD i 0)) := by
  have := World.ownsRow.cellAt h i (by omega)
  rw [this, List.getElem?_map]
  simp [List.getD, hi]
theorem Own.rd_take {w : World} {base b cap : Nat} {xs : List Int} (h : Own w base (.slice (some ⟨b, 0, none⟩) xs.length cap) xs) (hb : ∀ x ∈ xs, 0 ≤ x ∧ x ≤ 255) (i : Nat) (hi : i ≤ xs.length) : Rd w (.slice (some ⟨b, 0, none⟩) i cap) (xs.take i) := by
  have hr := h.rd hb
  refine ⟨fun x hx => hb x (List.mem_of_mem_take hx), Nat.le_trans (by rw [List.length_take]; omega) hr.2.1, ?_⟩
  by_cases h0 : i = 0
  · subst h0
    exact .inl ⟨_, cap, rfl, by simp, fun q => by cases q⟩
  · refine .inr ⟨b, 0, cap, by rw [List.length_take, Nat.min_eq_left hi], by rw [List.length_take]; omega, fun j hj => ?_⟩
    rw [List.length_take] at hj
    rw [Nat.zero_add, h.cell j (by omega)]
    congr 2
    simp [List.getD, List.getElem?_take, show j < i by omega]
theorem Own.set {w : World} {base b cap : Nat} {xs : List Int} (h : Own w base (.slice (some ⟨b, 0, none⟩) xs.length cap) xs) (i : Nat) (y : Int) : Own (w.setCell ⟨b, i, none⟩ (.int .u8 y)) base (.slice (some ⟨b, 0, none⟩) xs.length cap) (xs.set i y) := by
  have := World.ownsRow.stored h i (.int .u8 y)
  unfold Own
  rw [List.length_set, ← map_set_u8]
  exact this.1
theorem spoil_any (V : World) (g : Nat) (v u : Value) (l xs : List Int) (w : World) (h : Cur V w g v l) (hu : Rd w u xs) (hx : xs.length ≤ 100) :
    Calls Tryd.prog 59 #[.pointer (some ⟨g, 0, none⟩), u] w (CurR V g v l 101 w) := by
  have hlt := h.lt
  have hh := h.over.size
  obtain ⟨ad, cc, rfl⟩ := hu.len
  have hu0 := hu
  have hu2 := hu.keep ((Below.refl _ _).alloc (Nat.le_refl _) (.cells #[] BT))
  go_enter Tryd.func59, Tryd.ntmps59
  go_wp2_with (at_builtin; refine Hid.out ?_)
  refine Lib.hid ?_
  refine wp_app rfl _ _ rfl w.heap.size _ _ [] xs rfl rfl (own_empty w w.heap.size (Nat.le_refl _)) hu2 (by simp; omega) (by simp) ?_
  intro v1 w1 own1 hg1
  rw [List.nil_append] at own1
  have hr1 : ∀ k, (Value.slice (some ⟨w.heap.size, 0, none⟩) 0 0).ownBlock = some k → w.heap.size ≤ k := fun k hk => by simp [Value.ownBlock] at hk; omega
  have cu1 := (h.alloc (.cells #[] BT)).far hg1 (fun e => by have := hr1 g e.symm; omega) (fun k hk => Nat.le_trans hh (hr1 k hk))
  have gr1 := grown_new (grown_alloc (World.grownBy.refl w (some g)) (.cells #[] BT)) hg1 hr1
  clear hg1 hr1 hu2
  by_cases hp : xs.length = 0
  · obtain rfl : xs = [] := List.eq_nil_of_length_eq_zero hp
    have hv1 : v1 = .slice none 0 0 ∨ ∃ b cap, v1 = .slice (some ⟨b, 0, none⟩) 0 cap := by
      rcases own1.2 with ⟨hv, _⟩ | ⟨b, cap, cur, hv, _⟩
      · exact .inl hv
      · exact .inr ⟨b, cap, hv⟩
    rcases hv1 with rfl | ⟨b, cap, rfl⟩
    · go_wp2_with fail
      refine (byte_any V g v l _ cu1).mono ?_
      rintro e w2 ⟨y, rfl, ⟨hy0, hy1⟩, cu2, hg2⟩
      have hu : IntKind.u8.wrap y = y := by rw [IntKind.wrap_u8]; omega
      have s2 := own1.kept hg2 (sepG own1 hlt)
      have gr2 := grown_trans gr1 hg2
      have z2 := gr2.size
      have hxb := hu0.1
      go_wp2_with (at_builtin; refine Hid.out ?_)
      refine Lib.hid ?_
      refine wp_app rfl _ _ rfl w.heap.size _ _ [] [y] rfl rfl (s2.alloc _) (rd_lit1 _ y ⟨hy0, hy1⟩) (by simp; try omega) (by simp; omega) ?_
      intro v3 w3 own3 hg3
      have hr : ∀ k, (_ : Value).ownBlock = some k → w.heap.size ≤ k := fun k hk => (World.ownsRow.lt s2 k hk).1
      have cu3 := (cu2.alloc (.cells #[.int .u8 y] BT)).far hg3 (fun e => by have := hr g e.symm; omega) (fun k hk => Nat.le_trans hh (hr k hk))
      have gr3 := grown_new (grown_alloc gr2 (.cells #[.int .u8 y] BT)) hg3 hr
      clear cu2 hg2 hg3 s2 gr2
      go_wp2_with fail
      go_ret
      exact ⟨_, [] ++ [y], rfl, fun w9 hg9 => (own3.kept hg9 (sepG own3 hlt)).rd (fun z hz => by rcases List.mem_append.1 hz with q | q; exact hxb z q; simp at q; omega), by simp; try omega, cu3, gr3, own3.cap⟩
    · go_wp2_with fail
      refine (byte_any V g v l _ cu1).mono ?_
      rintro e w2 ⟨y, rfl, ⟨hy0, hy1⟩, cu2, hg2⟩
      have hu : IntKind.u8.wrap y = y := by rw [IntKind.wrap_u8]; omega
      have s2 := own1.kept hg2 (sepG own1 hlt)
      have gr2 := grown_trans gr1 hg2
      have z2 := gr2.size
      have hxb := hu0.1
      go_wp2_with (at_builtin; refine Hid.out ?_)
      refine Lib.hid ?_
      refine wp_app rfl _ _ rfl w.heap.size _ _ [] [y] rfl rfl (s2.alloc _) (rd_lit1 _ y ⟨hy0, hy1⟩) (by simp; try omega) (by simp; omega) ?_
      intro v3 w3 own3 hg3
      have hr : ∀ k, (_ : Value).ownBlock = some k → w.heap.size ≤ k := fun k hk => (World.ownsRow.lt s2 k hk).1
      have cu3 := (cu2.alloc (.cells #[.int .u8 y] BT)).far hg3 (fun e => by have := hr g e.symm; omega) (fun k hk => Nat.le_trans hh (hr k hk))
      have gr3 := grown_new (grown_alloc gr2 (.cells #[.int .u8 y] BT)) hg3 hr
      clear cu2 hg2 hg3 s2 gr2
      go_wp2_with fail
      go_ret
      exact ⟨_, [] ++ [y], rfl, fun w9 hg9 => (own3.kept hg9 (sepG own3 hlt)).rd (fun z hz => by rcases List.mem_append.1 hz with q | q; exact hxb z q; simp at q; omega), by simp; try omega, cu3, gr3, own3.cap⟩
  · obtain ⟨b, cap, rfl, hb, hcap, hcm⟩ := own1.at (by omega)
    have hpI : ¬ (xs.length : Int) = 0 := by omega
    have hpb : ((xs.length : Int) == 0) = false := by rw [beq_eq_false_iff_ne]; exact hpI
    go_wp2_with fail
    refine (below_any V g v l (xs.length : Int) _ cu1 (by omega) (by omega)).mono ?_
    rintro e w4 ⟨i, rfl, ⟨hi0, hi1⟩, cu4, hg4⟩
    obtain ⟨i, rfl⟩ := Int.eq_ofNat_of_zero_le hi0
    have hix : i < xs.length := by omega
    have own4 := own1.kept hg4 (sepG own1 hlt)
    have gr4 := grown_trans gr1 hg4
    clear hi0 hi1 hg4 own1 cu1 gr1
    go_wp2_with fail
    refine (below_any V g v l 3 _ cu4 (by decide) (by decide)).mono ?_
    rintro e w5 ⟨z, rfl, ⟨hz0, hz1⟩, cu5, hg5⟩
    have own5 := own4.kept hg5 (sepG own4 hlt)
    have gr5 := grown_trans gr4 hg5
    clear hg5 own4 cu4 gr4
    by_cases z0 : z = 0
    · subst z0
      go_wp2_with fail
      refine (byte_any V g v l _ cu5).mono ?_
      rintro e w6 ⟨y, rfl, ⟨hy0, hy1⟩, cu6, hg6⟩
      have hu : IntKind.u8.wrap y = y := by rw [IntKind.wrap_u8]; omega
      have own6 := own5.kept hg6 (sepG own5 hlt)
      have gr6 := grown_trans gr5 hg6
      have e6 := own6.cell i hix
      have f6 := World.ownsRow.frozenAt own6 i
      have hxb := hu0.1
      clear hg6 own5 cu5 gr5
      go_wp2_with fail
      have hst := own6.set i y
      have hbg : b ≠ g := by omega
      go_ret
      exact ⟨_, xs.set i y, rfl, fun w9 hg9 => (hst.kept hg9 (sepG hst hlt)).rd (fun z hz => by rcases List.mem_or_eq_of_mem_set hz with q | q; exact hxb z q; omega), by rw [List.length_set]; omega, cu6.setNew hbg (by omega), grown_setNew gr6 (by omega), hst.cap⟩
    · by_cases z1 : z = 1
      · subst z1
        have hiI : (i : Int) ≤ (cap : Int) := by omega
        go_wp2_with fail
        go_ret
        refine ⟨_, xs.take i, rfl, ?_, by rw [List.length_take]; omega, cu5, gr5, ⟨_, cap, (by rw [List.length_take, Nat.min_eq_left (by omega)]; rfl), by rw [List.length_take]; omega⟩⟩
        exact fun w9 hg9 => (own5.kept hg9 (sepG own5 hlt)).rd_take hu0.1 i (by omega)
      · obtain rfl : z = 2 := by omega
        go_wp2_with fail
        refine (byte_any V g v l _ cu5).mono ?_
        rintro e w2 ⟨y, rfl, ⟨hy0, hy1⟩, cu2, hg2⟩
        have hu : IntKind.u8.wrap y = y := by rw [IntKind.wrap_u8]; omega
        have s2 := own5.kept hg2 (sepG own5 hlt)
        have gr2 := grown_trans gr5 hg2
        have z2 := gr2.size
        have hxb := hu0.1
        go_wp2_with (at_builtin; refine Hid.out ?_)
        refine Lib.hid ?_
        refine wp_app rfl _ _ rfl w.heap.size _ _ xs [y] rfl rfl (s2.alloc _) (rd_lit1 _ y ⟨hy0, hy1⟩) (by simp; try omega) (by simp; omega) ?_
        intro v3 w3 own3 hg3
        have hr : ∀ k, (_ : Value).ownBlock = some k → w.heap.size ≤ k := fun k hk => (World.ownsRow.lt s2 k hk).1
        have cu3 := (cu2.alloc (.cells #[.int .u8 y] BT)).far hg3 (fun e => by have := hr g e.symm; omega) (fun k hk => Nat.le_trans hh (hr k hk))
        have gr3 := grown_new (grown_alloc gr2 (.cells #[.int .u8 y] BT)) hg3 hr
        clear cu2 hg2 hg3 s2 gr2
        go_wp2_with fail
        go_ret
        exact ⟨_, xs ++ [y], rfl, fun w9 hg9 => (own3.kept hg9 (sepG own3 hlt)).rd (fun z hz => by rcases List.mem_append.1 hz with q | q; exact hxb z q; simp at q; omega), by simp; try omega, cu3, gr3, own3.cap⟩
end Go.Proofs.YtichmbbpjkikaaaDoor
