/-
  What is drawn for the laws on encodings: an encoding with its place. Conditions: those in each contract.
-/
import Derived.Test.YtichmbbpjkikaaaDoorE3
namespace Go.Proofs.YtichmbbpjkikaaaDoor
open Go.ChangeShapes Go.WideShapes Go.ChangeAt Go.RowKit Go.BigFrame
set_option linter.unusedVariables false
set_option maxRecDepth 100000
set_option linter.unusedSimpArgs false

theorem dget_any (v : Value) (l : List Int) (w : World) (h : Rd w v l) :
    Calls Tryd.prog 16 #[v] w fun e w' => ∃ u xs x, e = .returned (.tuple #[u, .int .i64 x]) ∧ Rd w' u xs ∧ xs.length ≤ 200 ∧ Over w w' ∧ fits x ∧ Cap u xs := by
  go_enter Tryd.func16, Tryd.ntmps16
  go_wp2_with fail
  refine (new_any v l _ h).mono ?_
  rintro e w1 ⟨g, rfl, cu1⟩
  go_wp2_with fail
  refine (some_any _ g v l 3 _ cu1 (by decide)).mono ?_
  rintro e w2 ⟨u, xs, rfl, own, hxb, hxl, cu2, hg2⟩
  have hgl := cu1.lt
  have hu := own.rd hxb
  obtain ⟨ad, cc, rfl⟩ := hu.len
  clear cu1 hg2 hu
  go_wp2_with fail
  refine (draw_any _ g v l _ cu2).mono ?_
  rintro e w3 ⟨a, n, rfl, cu3, hg3, -, -⟩
  have own3 := own.kept hg3 (sepG own hgl)
  have hgl3 := cu3.lt
  have hV3 := cu3.over.size
  clear hg3 own cu2 hgl
  go_wp2_with fail
  refine (sput_any _ xs a n _ (own3.rd hxb) (by omega)).mono ?_
  rintro e w4 ⟨u4, rfl, own4, hb4⟩
  have cu4 := cu3.below hb4
  have hz4 := hb4.size
  clear own3 hb4 cu3
  go_wp2_with fail
  refine (some_any _ g v l 2 _ cu4 (by decide)).mono ?_
  rintro e w5 ⟨u5, ys, rfl, own5, hyb, hyl, cu5, hg5⟩
  have own4' := own4.kept hg5 (sepG own4 hgl3)
  have hz5 := hg5.size
  have hpl := putL_len a n
  have hLb : ∀ x ∈ xs ++ putL a n, 0 ≤ x ∧ x ≤ 255 := fun z hz => by
    rcases List.mem_append.1 hz with q | q
    · exact hxb z q
    · exact putL_bd a n z q
  obtain ⟨L, hL⟩ : ∃ L, xs ++ putL a n = L := ⟨_, rfl⟩
  have hLl : L.length ≤ 6 := by rw [← hL, List.length_append]; omega
  rw [hL] at own4' hLb
  clear own4 hg5 cu4 hL hpl
  go_wp2_with (at_builtin; refine Hid.out ?_)
  refine Lib.hid ?_
  refine wp_app rfl _ _ rfl w3.heap.size u4 u5 L ys rfl rfl own4' (own5.rd hyb) (by omega) (by omega) ?_
  intro v6 w6 own6 hg6
  have hr : ∀ k, u4.ownBlock = some k → w3.heap.size ≤ k := fun k hk => (World.ownsRow.lt own4' k hk).1
  have cu6 := cu5.far hg6 (fun e => by have := hr g e.symm; omega) (fun k hk => Nat.le_trans hV3 (hr k hk))
  have hh6 : Hold w6 g v6 (L ++ ys) := fun w9 hg9 => (own6.kept hg9 (sepG own6 hgl3)).rd (fun z hz => by
    rcases List.mem_append.1 hz with q | q
    · exact hLb z q
    · exact hyb z q)
  have hcp := own6.cap
  have hl6 : (L ++ ys).length ≤ 100 := by rw [List.length_append]; omega
  clear own6 hg6 cu5 own5 own4' hr
  go_wp2_with fail
  refine (once_any _ g v l 3 _ cu6 (by decide) (by decide)).mono ?_
  rintro e w7 ⟨b, rfl, cu7, hg7⟩
  have hh7 := hh6.step hg7
  clear hh6 hg7 cu6
  cases b
  · obtain ⟨LL, hLL⟩ : ∃ LL, L ++ ys = LL := ⟨_, rfl⟩
    rw [hLL] at hh7 hl6 hcp
    clear hLL
    have hLn : LL.length ≤ 200 := by omega
    obtain ⟨a6, c6, rfl⟩ := hh7.rd.len
    go_wp2_with fail
    refine (once_any _ g v l 8 _ cu7 (by decide) (by decide)).mono ?_
    rintro e w11 ⟨b, rfl, cu11, hg11⟩
    have hh11 := hh7.step hg11
    clear hh7 hg11 cu7
    cases b
    · go_wp2_with fail
      exact bodyPost_ret (v := .tuple #[.slice a6 LL.length c6, .int .i64 (xs.length : Int)]) (by simp [results, Tryd.results16, go_sem]) rfl ⟨_, LL, (xs.length : Int), rfl, hh11.rd, by omega, cu11.over, ⟨by omega, by omega⟩, hcp⟩
    · go_wp2_with fail
      have hcl := cu11.lt
      refine (pick_any _ g v l (fun i => [-1, (LL.length : Int), 9223372036854775807].getD i 0) 3 w11.heap.size _ (cu11.alloc _) (by decide) (by decide) (by omega) (by simp) (lit_cells _ [-1, (LL.length : Int), 9223372036854775807] _ _ rfl)).mono ?_
      rintro e w12 ⟨x, rfl, ⟨i, hi, hx⟩, cu12, hg12⟩
      have hh12 := hh11.step (grown_trans (grown_alloc (World.grownBy.refl w11 (some g)) _) hg12)
      have hfx : fits x := by
        rw [hx]
        match i, hi with
        | 0, _ => exact (show fits (-1) from ⟨by decide, by decide⟩)
        | 1, _ => exact (show fits (LL.length : Int) from ⟨by omega, by omega⟩)
        | 2, _ => exact (show fits 9223372036854775807 from ⟨by decide, by decide⟩)
      clear hx hi hg12 hh11 cu11
      go_wp2_with fail
      exact bodyPost_ret (v := .tuple #[.slice a6 LL.length c6, .int .i64 x]) (by simp [results, Tryd.results16, go_sem]) rfl ⟨_, LL, x, rfl, hh12.rd, by omega, cu12.over, hfx, hcp⟩
  · go_wp2_with fail
    refine (spoil_any _ g v v6 l (L ++ ys) _ cu7 hh7.rd hl6).mono ?_
    rintro e w8 ⟨u8, LL, rfl, hh8, hl8, cu8, hg8, hcp8⟩
    clear hh7 hg8 cu7 hl6 hcp
    have hcp := hcp8
    clear hcp8
    have hLn : LL.length ≤ 200 := by omega
    obtain ⟨a6, c6, rfl⟩ := hh8.rd.len
    go_wp2_with fail
    refine (once_any _ g v l 8 _ cu8 (by decide) (by decide)).mono ?_
    rintro e w11 ⟨b, rfl, cu11, hg11⟩
    have hh11 := hh8.step hg11
    clear hh8 hg11 cu8
    cases b
    · go_wp2_with fail
      exact bodyPost_ret (v := .tuple #[.slice a6 LL.length c6, .int .i64 (xs.length : Int)]) (by simp [results, Tryd.results16, go_sem]) rfl ⟨_, LL, (xs.length : Int), rfl, hh11.rd, by omega, cu11.over, ⟨by omega, by omega⟩, hcp⟩
    · go_wp2_with fail
      have hcl := cu11.lt
      refine (pick_any _ g v l (fun i => [-1, (LL.length : Int), 9223372036854775807].getD i 0) 3 w11.heap.size _ (cu11.alloc _) (by decide) (by decide) (by omega) (by simp) (lit_cells _ [-1, (LL.length : Int), 9223372036854775807] _ _ rfl)).mono ?_
      rintro e w12 ⟨x, rfl, ⟨i, hi, hx⟩, cu12, hg12⟩
      have hh12 := hh11.step (grown_trans (grown_alloc (World.grownBy.refl w11 (some g)) _) hg12)
      have hfx : fits x := by
        rw [hx]
        match i, hi with
        | 0, _ => exact (show fits (-1) from ⟨by decide, by decide⟩)
        | 1, _ => exact (show fits (LL.length : Int) from ⟨by omega, by omega⟩)
        | 2, _ => exact (show fits 9223372036854775807 from ⟨by decide, by decide⟩)
      clear hx hi hg12 hh11 cu11
      go_wp2_with fail
      exact bodyPost_ret (v := .tuple #[.slice a6 LL.length c6, .int .i64 x]) (by simp [results, Tryd.results16, go_sem]) rfl ⟨_, LL, x, rfl, hh12.rd, by omega, cu12.over, hfx, hcp⟩
end Go.Proofs.YtichmbbpjkikaaaDoor
