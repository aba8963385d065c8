/-
  Bytes of a message: the bodies as the model writes them. Conditions: those in each contract.
-/
import Derived.Test.YthecdnfloahoaaaQ3
import Derived.Test.YthecdnfloahoaaaN2
namespace Go.Proofs.Ythecdnfloahoaaa
open Go.ChangeShapes Go.WideShapes Go.ChangeAt Go.RowKit Go.BigFrame
set_option linter.unusedVariables false
set_option maxRecDepth 100000
set_option linter.unusedSimpArgs false

theorem own_lit1_at (w : World) (base g : Nat) (z : Int) (hg : g = w.heap.size) (hb : base ≤ g) : Own (w.alloc (.cells #[.int .u8 z] BT)) base (.slice (some ⟨g, 0, none⟩) 1 1) [z] := by
  subst hg
  exact Own.lit w #[.int .u8 z] [z] hb (by simp [maxLen]) rfl
theorem Rd.lit_grown2 {w w' : World} {g : Nat} {y z : Int} {row : Option Nat} (h : Rd w (.slice (some ⟨g, 0, none⟩) 2 2) [y, z]) (hg : w.grownBy w' row) (hne : row ≠ some g) : Rd w' (.slice (some ⟨g, 0, none⟩) 2 2) [y, z] := by
  obtain ⟨h1, h2, ⟨a, c, hv, hl, -⟩ | ⟨b, o, c, hv, hp, hc⟩⟩ := h
  · cases hl
  · refine ⟨h1, h2, .inr ⟨b, o, c, hv, hp, fun i hi => ?_⟩⟩
    obtain ⟨rfl, rfl⟩ : g = b ∧ 0 = o := by simp at hv; exact ⟨hv.1.1, hv.1.2⟩
    exact (hg.cell_far _ (World.block_lt_of_cell? w _ (hc i hi)) (Ne.symm hne)).trans (hc i hi)
theorem rd_lit2_at (w : World) (g : Nat) (y z : Int) (hg : g = w.heap.size) (h : 0 ≤ y ∧ y ≤ 255) (h2 : 0 ≤ z ∧ z ≤ 255) : Rd (w.alloc (.cells #[.int .u8 y, .int .u8 z] BT)) (.slice (some ⟨g, 0, none⟩) 2 2) [y, z] := by
  subst hg
  exact rd_lit2 w y z h h2
theorem le_alloc (w : World) (o : Obj) : w.heap.size ≤ (w.alloc o).heap.size := by simp
theorem grown_drew {w w' : World} {row : Option Nat} (h : w.drew.grownBy w' row) : w.grownBy w' row := ⟨h.os, h.tape, h.output, h.size, h.block⟩
set_option maxHeartbeats 2000000 in
theorem sbody1_any (ga ca pa ma : Option Addr) (gx cx px mx : Nat) (gs cs : List (Int × Int)) (ps ms : List Int) (sa ho ix pr bw er : Int) (w : World) (h0 : 0 ≤ sa ∧ sa ≤ 65535) (h1 : 0 ≤ ho ∧ ho ≤ 255) (h2 : 0 ≤ ix ∧ ix ≤ 255) :
    Calls Try.prog 76 #[.agg #[.int .i64 1, .int .i64 sa, .int .i64 ho, .int .i64 ix, .slice ga gs.length gx, .slice ca cs.length cx, .slice pa ps.length px, .int .i64 pr, .slice ma ms.length mx, .int .i64 bw, .int .i64 er]] w (NewB w (bodyO sa ho ix)) := by
  obtain ⟨bA, B0, z⟩ := one w [.int .i64 1, .int .i64 sa, .int .i64 ho, .int .i64 ix, .slice ga gs.length gx, .slice ca cs.length cx, .slice pa ps.length px, .int .i64 pr, .slice ma ms.length mx, .int .i64 bw, .int .i64 er] 41
  obtain ⟨A, hA⟩ : ∃ A, A = w.heap.size := ⟨_, rfl⟩
  rw [← hA] at bA z
  have hAw : w.heap.size = A := hA.symm
  obtain ⟨V, hV⟩ : ∃ V, V = w.alloc (.cells #[.int .i64 1, .int .i64 sa, .int .i64 ho, .int .i64 ix, .slice ga gs.length gx, .slice ca cs.length cx, .slice pa ps.length px, .int .i64 pr, .slice ma ms.length mx, .int .i64 bw, .int .i64 er] 41) := ⟨_, rfl⟩
  have HV := hV.symm
  rw [← hV] at bA B0 z
  have a0 := bA.c 0 rfl
  have a1 := bA.c 1 rfl
  have a2 := bA.c 2 rfl
  have a3 := bA.c 3 rfl
  have q1 : IntKind.u8.wrap ho = ho := by rw [IntKind.wrap_u8]; omega
  have q2 : IntKind.u8.wrap ix = ix := by rw [IntKind.wrap_u8]; omega
  have lA := bA.lt
  have HZ := Lib.hid z
  have L1 := own_lit1_at V.drew V.heap.size V.heap.size 4 rfl (Nat.le_refl _)
  have L2 := own_lit1_at (V.drew.alloc (.cells #[.int .u8 ho, .int .u8 ix] BT)) V.heap.size (V.heap.size + 1) 4 (by simp) (by omega)
  have S1 : V.heap.size ≤ (V.drew.alloc (.cells #[.int .u8 4] BT)).heap.size := by simp <;> omega
  have S2 : V.heap.size ≤ ((V.drew.alloc (.cells #[.int .u8 4] BT)).alloc (.cells #[.int .u8 ho, .int .u8 ix] BT)).heap.size := by simp <;> omega
  have S3 : V.heap.size ≤ ((V.drew.alloc (.cells #[.int .u8 ho, .int .u8 ix] BT)).alloc (.cells #[.int .u8 4] BT)).heap.size := by simp <;> omega
  have HLN := Lib.hid (show ([4] ++ two2 sa).length + [ho, ix].length ≤ 4294967296 by simp [two2])
  have HO := Lib.hid (show 0 < [ho, ix].length by simp)
  have H4 := Lib.hid (show ([4] : List Int).length ≤ 1048576 by simp)
  have F1 : (Value.slice (some ⟨V.heap.size, 0, none⟩) 1 1).ownBlock ≠ some (V.heap.size + 1) := by simp [Value.ownBlock]
  have F2 : (Value.slice (some ⟨V.heap.size + 1, 0, none⟩) 1 1).ownBlock ≠ some V.heap.size := by simp [Value.ownBlock]
  have E1 : V.heap.size + 1 = (V.drew.alloc (.cells #[.int .u8 4] BT)).heap.size := by simp
  have X2 := rd_lit2_at (V.drew.alloc (.cells #[.int .u8 4] BT)) (V.heap.size + 1) ho ix E1 h1 h2
  have X3 := rd_lit2_at V.drew V.heap.size ho ix rfl h1 h2
  have hF1 := Lib.hid F1
  have hF2 := Lib.hid F2
  have LE := Nat.le_succ V.heap.size
  clear F1 F2 E1
  clear hA hV z
  go_enter Try.func76, Try.ntmps76
  go_wp2_with fail
  go_region_held3 (fun w' => w'.cell? ⟨A, 1, none⟩ = some (.int .i64 sa) ∧ w'.cell? ⟨A, 2, none⟩ = some (.int .i64 ho) ∧ w'.cell? ⟨A, 3, none⟩ = some (.int .i64 ix))
    ((first | exact ⟨bA.c 1 rfl, bA.c 2 rfl, bA.c 3 rfl⟩ | exact ⟨(bA.alloc _).c 1 rfl, (bA.alloc _).c 2 rfl, (bA.alloc _).c 3 rfl⟩ | exact ⟨((bA.alloc _).alloc _).c 1 rfl, ((bA.alloc _).alloc _).c 2 rfl, ((bA.alloc _).alloc _).c 3 rfl⟩ | exact ⟨bX.c 1 rfl, bX.c 2 rfl, bX.c 3 rfl⟩ | exact ⟨(bX.alloc _).c 1 rfl, (bX.alloc _).c 2 rfl, (bX.alloc _).c 3 rfl⟩ | exact ⟨bZ.c 1 rfl, bZ.c 2 rfl, bZ.c 3 rfl⟩ | fail))
    ((first
      | (go_at_call_of 104 (Value.slice (some ⟨V.heap.size, 0, none⟩) 1 1); refine (stwo_any (.slice (some ⟨V.heap.size, 0, none⟩) 1 1) [4] sa V.heap.size _ ?_ h0.1 h0.2 ?_ H4.out).mono ?_; (first | exact L1 | exact L1.alloc _); (first | exact S1 | exact S2); rintro e w3 ⟨v3, rfl, o3, g3, r3⟩; (first | (have G3 : V.grownBy w3 (some V.heap.size) := grown_pre (grown_drew g3)) | (have G3 : V.grownBy w3 (some V.heap.size) := grown_pre (grown_pre (grown_drew g3))) | (have G3 : V.grownBy w3 (some V.heap.size) := grown_drew (grown_pre g3)) | (have G3 : V.grownBy w3 (some V.heap.size) := grown_drew (grown_pre (grown_pre g3)))); have O3 : Over V w3 := over_row (over_refl V) (Nat.le_refl _) G3; have bX := bA.keep O3; have hb3 : V.heap.size ≤ w3.heap.size := G3.size)
      | (go_at_call 104; refine (stwo_any (.slice (some ⟨V.heap.size + 1, 0, none⟩) 1 1) [4] sa V.heap.size _ ?_ h0.1 h0.2 ?_ H4.out).mono ?_; exact L2; exact S3; rintro e w3 ⟨v3, rfl, o3, g3, r3⟩; (first | (have G3 : V.grownBy w3 (some (V.heap.size + 1)) := grown_pre (grown_pre (grown_drew g3))) | (have G3 : V.grownBy w3 (some (V.heap.size + 1)) := grown_drew (grown_pre (grown_pre g3)))); have O3 : Over V w3 := over_row (over_refl V) LE G3; have bX := bA.keep O3; have hb3 : V.heap.size ≤ w3.heap.size := G3.size)
      | (refine step_app2 ?_ (.tmp 11) (.tmp 18) ?_ V.heap.size v3 (.slice (some ⟨w3.heap.size, 0, none⟩) 2 2) _ [ho, ix] ?_ ?_ (o3.alloc (.cells #[.int .u8 ho, .int .u8 ix] BT)) (rd_lit2 w3 _ _ h1 h2) HO.out HLN.out (Nat.le_trans hb3 (le_alloc _ _)) ?_; rfl; rfl; rfl; rfl; intro v5 w5 o5 g5 r5; have O5 : Over V w5 := over_grown (over_alloc O3 _) (o3.alloc _) (Nat.le_refl _) g5; have bZ := bA.keep O5)
      | (refine step_app2 ?_ (.tmp 11) (.tmp 18) ?_ V.heap.size v3 (.slice (some ⟨V.heap.size + 1, 0, none⟩) 2 2) _ [ho, ix] ?_ ?_ o3 (Rd.lit_grown2 X2 g3 hF1.out) HO.out HLN.out hb3 ?_; rfl; rfl; rfl; rfl; intro v5 w5 o5 g5 r5; have O5 : Over V w5 := over_grown O3 o3 (Nat.le_refl _) g5; have bZ := bA.keep O5)
      | (refine step_app2 ?_ (.tmp 11) (.tmp 18) ?_ V.heap.size v3 (.slice (some ⟨V.heap.size, 0, none⟩) 2 2) _ [ho, ix] ?_ ?_ o3 (Rd.lit_grown2 X3 (grown_pre (w := V.drew.alloc (.cells #[.int .u8 ho, .int .u8 ix] BT)) (o := .cells #[.int .u8 4] BT) g3) hF2.out) HO.out HLN.out hb3 ?_; rfl; rfl; rfl; rfl; intro v5 w5 o5 g5 r5; have O5 : Over V w5 := over_grown O3 o3 (Nat.le_refl _) g5; have bZ := bA.keep O5)
      | fail))
  all_goals
    have o6 := Own.mono (base' := w.heap.size) o5 (by omega)
    have B6 := below_step B0 O5
    clear o5 g5 r5 bZ O5 o3 g3 r3 bX G3 O3 hb3
    go_wp2
    go_ret
    exact ⟨_, rfl, o6, B6⟩
set_option maxHeartbeats 2000000 in
theorem sbody2_any (ga ca pa ma : Option Addr) (gx cx px mx : Nat) (gs cs : List (Int × Int)) (ps ms : List Int) (sa ho ix pr bw er : Int) (w : World) (hg : RdP w (.slice ga gs.length gx) gs) (hc : RdP w (.slice ca cs.length cx) cs) (hp : RdI w (.slice pa ps.length px) ps) (hm : RdI w (.slice ma ms.length mx) ms) (hgl : gs.length ≤ 8) (hcl : cs.length ≤ 8) (hpl : ps.length ≤ 8) (hml : ms.length ≤ 8) (hpb : ∀ x ∈ ps, 0 ≤ x ∧ x ≤ 65535) (hmb : ∀ x ∈ ms, 0 ≤ x ∧ x ≤ 65535) (hpr : 0 ≤ pr ∧ pr ≤ 1000) (hbw : 0 ≤ bw ∧ bw ≤ 1000) :
    Calls Try.prog 76 #[.agg #[.int .i64 2, .int .i64 sa, .int .i64 ho, .int .i64 ix, .slice ga gs.length gx, .slice ca cs.length cx, .slice pa ps.length px, .int .i64 pr, .slice ma ms.length mx, .int .i64 bw, .int .i64 er]] w (NewB w (bodyU gs cs ps ms pr bw)) := by
  obtain ⟨bA, B0, z⟩ := one w [.int .i64 2, .int .i64 sa, .int .i64 ho, .int .i64 ix, .slice ga gs.length gx, .slice ca cs.length cx, .slice pa ps.length px, .int .i64 pr, .slice ma ms.length mx, .int .i64 bw, .int .i64 er] 41
  obtain ⟨A, hA⟩ : ∃ A, A = w.heap.size := ⟨_, rfl⟩
  rw [← hA] at bA z
  have hAw : w.heap.size = A := hA.symm
  obtain ⟨V, hV⟩ : ∃ V, V = w.alloc (.cells #[.int .i64 2, .int .i64 sa, .int .i64 ho, .int .i64 ix, .slice ga gs.length gx, .slice ca cs.length cx, .slice pa ps.length px, .int .i64 pr, .slice ma ms.length mx, .int .i64 bw, .int .i64 er] 41) := ⟨_, rfl⟩
  have HV := hV.symm
  rw [← hV] at bA B0 z
  have lA := bA.lt
  replace hg := hg.keep B0
  replace hc := hc.keep B0
  replace hp := hp.keep B0
  replace hm := hm.keep B0
  have a0 := bA.c 0 rfl
  have a1 := bA.c 4 rfl
  have a2 := bA.c 5 rfl
  have HZ := Lib.hid z
  have HP := Lib.hid hpb
  have HM := Lib.hid hmb
  have hnil : Own V.drew V.heap.size (.slice none 0 0) [] := World.ownsRow_nil _ _ _ _
  have HLG := Lib.hid (show ([] ++ pfxL gs).length ≤ 10000 by have := pfxL_len gs; simp; omega)
  have HBG := Lib.hid (show ∀ x ∈ [] ++ pfxL gs, 0 ≤ x ∧ x ≤ 255 by simpa using pfxL_bd (l := gs) (by omega))
  have HLC := Lib.hid (show ([] ++ pfxL gs ++ pfxL cs).length ≤ 1000 by have := pfxL_len gs; have := pfxL_len cs; simp; omega)
  have HBC := Lib.hid (show ∀ x ∈ [] ++ pfxL gs ++ pfxL cs, 0 ≤ x ∧ x ≤ 255 by simpa using byt_app (pfxL_bd (l := gs) (by omega)) (pfxL_bd (l := cs) (by omega)))
  clear hA hV z hpb hmb
  by_cases h0 : 0 < cs.length
  · have hE : bodyU gs cs ps ms pr bw = [] ++ pfxL gs ++ pfxL cs ++ attL ps ms pr bw := if_pos h0
    have HE := Lib.hid hE
    have hI : (0 : Int) < cs.length := by omega
    clear hE h0
    go_enter Try.func76, Try.ntmps76
    go_wp2_with fail
    go_region_held3 (fun w' => w'.cell? ⟨A, 4, none⟩ = some (.slice ga gs.length gx) ∧ w'.cell? ⟨A, 5, none⟩ = some (.slice ca cs.length cx))
      ((first | exact ⟨bA.c 4 rfl, bA.c 5 rfl⟩ | exact ⟨bX.c 4 rfl, bX.c 5 rfl⟩ | exact ⟨bY.c 4 rfl, bY.c 5 rfl⟩))
      ((first
        | (go_at_call_of 105 (Value.slice none 0 0); refine (slist_any V (.slice none 0 0) _ [] gs V.heap.size _ hnil hg (by omega) (over_drew V) (Nat.le_refl _) (Nat.le_refl _) (by simp) (by simp)).mono ?_; rintro e w3 ⟨v3, rfl, o3, g3, r3⟩; have O3 : Over V w3 := over_grown (over_drew V) hnil (Nat.le_refl _) g3; have bX := bA.keep O3; have hb3 : V.heap.size ≤ w3.heap.size := O3.size)
        | (go_at_call_of 105 v3; refine (slist_any V v3 _ _ cs V.heap.size _ o3 hc (by omega) O3 (Nat.le_refl _) hb3 HLG.out HBG.out).mono ?_; rintro e w4 ⟨v4, rfl, o4, g4, r4⟩; have O4 : Over V w4 := over_grown O3 o3 (Nat.le_refl _) g4; have bY := bA.keep O4; have hb4 : V.heap.size ≤ w4.heap.size := O4.size)))
    clear o3 g3 r3 O3 bX hb3 g4 r4 a0 a1 a2
    have b5 := bY.c 5 rfl
    have b6 := bY.c 6 rfl
    have b7 := bY.c 7 rfl
    have b8 := bY.c 8 rfl
    have b9 := bY.c 9 rfl
    go_wp2_with fail
    clear b5 b6 b7 b8 b9
    refine (sputA_any V v4 _ _ _ _ _ ps ms pr bw V.heap.size _ o4 hp hm HP.out HM.out (by omega) (by omega) hpr hbw O4 (Nat.le_refl _) hb4 HLC.out HBC.out).mono ?_
    rintro e w5 ⟨v5, rfl, o5, g5, r5⟩
    have O5 : Over V w5 := over_grown O4 o4 (Nat.le_refl _) g5
    clear g5 r5
    go_wp2_with fail
    go_ret
    exact ⟨_, rfl, by rw [HE.out]; exact Own.mono o5 (by omega), below_step B0 O5⟩
  · have hE : bodyU gs cs ps ms pr bw = [] ++ pfxL gs ++ pfxL cs := if_neg h0
    have HE := Lib.hid hE
    have hI : ¬ (0 : Int) < cs.length := by omega
    clear hE h0
    go_enter Try.func76, Try.ntmps76
    go_wp2_with fail
    go_region_held3 (fun w' => w'.cell? ⟨A, 4, none⟩ = some (.slice ga gs.length gx) ∧ w'.cell? ⟨A, 5, none⟩ = some (.slice ca cs.length cx))
      ((first | exact ⟨bA.c 4 rfl, bA.c 5 rfl⟩ | exact ⟨bX.c 4 rfl, bX.c 5 rfl⟩ | exact ⟨bY.c 4 rfl, bY.c 5 rfl⟩))
      ((first
        | (go_at_call_of 105 (Value.slice none 0 0); refine (slist_any V (.slice none 0 0) _ [] gs V.heap.size _ hnil hg (by omega) (over_drew V) (Nat.le_refl _) (Nat.le_refl _) (by simp) (by simp)).mono ?_; rintro e w3 ⟨v3, rfl, o3, g3, r3⟩; have O3 : Over V w3 := over_grown (over_drew V) hnil (Nat.le_refl _) g3; have bX := bA.keep O3; have hb3 : V.heap.size ≤ w3.heap.size := O3.size)
        | (go_at_call_of 105 v3; refine (slist_any V v3 _ _ cs V.heap.size _ o3 hc (by omega) O3 (Nat.le_refl _) hb3 HLG.out HBG.out).mono ?_; rintro e w4 ⟨v4, rfl, o4, g4, r4⟩; have O4 : Over V w4 := over_grown O3 o3 (Nat.le_refl _) g4; have bY := bA.keep O4; have hb4 : V.heap.size ≤ w4.heap.size := O4.size)))
    clear o3 g3 r3 O3 bX hb3 g4 r4 a0 a1 a2
    have b5 := bY.c 5 rfl
    go_wp2_with fail
    go_ret
    exact ⟨_, rfl, by rw [HE.out]; exact Own.mono o4 (by omega), below_step B0 O4⟩
theorem sbody3_any (ga ca pa ma : Option Addr) (gx cx px mx : Nat) (gs cs : List (Int × Int)) (ps ms : List Int) (sa ho ix pr bw er : Int) (w : World) (h0 : 0 ≤ er ∧ er ≤ 255) :
    Calls Try.prog 76 #[.agg #[.int .i64 3, .int .i64 sa, .int .i64 ho, .int .i64 ix, .slice ga gs.length gx, .slice ca cs.length cx, .slice pa ps.length px, .int .i64 pr, .slice ma ms.length mx, .int .i64 bw, .int .i64 er]] w (NewB w [er]) := by
  obtain ⟨bA, B0, z⟩ := one w [.int .i64 3, .int .i64 sa, .int .i64 ho, .int .i64 ix, .slice ga gs.length gx, .slice ca cs.length cx, .slice pa ps.length px, .int .i64 pr, .slice ma ms.length mx, .int .i64 bw, .int .i64 er] 41
  obtain ⟨A, hA⟩ : ∃ A, A = w.heap.size := ⟨_, rfl⟩
  rw [← hA] at bA z
  have hAw : w.heap.size = A := hA.symm
  obtain ⟨V, hV⟩ : ∃ V, V = w.alloc (.cells #[.int .i64 3, .int .i64 sa, .int .i64 ho, .int .i64 ix, .slice ga gs.length gx, .slice ca cs.length cx, .slice pa ps.length px, .int .i64 pr, .slice ma ms.length mx, .int .i64 bw, .int .i64 er] 41) := ⟨_, rfl⟩
  have HV := hV.symm
  rw [← hV] at bA B0 z
  have a0 := bA.c 0 rfl
  have a1 := bA.c 10 rfl
  have hlit := own_lit1_at V V.heap.size V.heap.size er rfl (Nat.le_refl _)
  have HL := Lib.hid hlit
  have HZ := Lib.hid z
  have B1 := B0.alloc B0.size (.cells #[.int .u8 er] BT)
  clear hA hV z hlit
  go_enter Try.func76, Try.ntmps76
  go_wp2
  go_ret
  exact ⟨_, rfl, Own.mono HL.out B0.size, B1⟩
theorem sbody4_any (ga ca pa ma : Option Addr) (gx cx px mx : Nat) (gs cs : List (Int × Int)) (ps ms : List Int) (sa ho ix pr bw er : Int) (w : World) :
    Calls Try.prog 76 #[.agg #[.int .i64 4, .int .i64 sa, .int .i64 ho, .int .i64 ix, .slice ga gs.length gx, .slice ca cs.length cx, .slice pa ps.length px, .int .i64 pr, .slice ma ms.length mx, .int .i64 bw, .int .i64 er]] w (NewB w []) := by
  obtain ⟨bA, B0, z⟩ := one w [.int .i64 4, .int .i64 sa, .int .i64 ho, .int .i64 ix, .slice ga gs.length gx, .slice ca cs.length cx, .slice pa ps.length px, .int .i64 pr, .slice ma ms.length mx, .int .i64 bw, .int .i64 er] 41
  obtain ⟨A, hA⟩ : ∃ A, A = w.heap.size := ⟨_, rfl⟩
  rw [← hA] at bA z
  have hAw : w.heap.size = A := hA.symm
  obtain ⟨V, hV⟩ : ∃ V, V = w.alloc (.cells #[.int .i64 4, .int .i64 sa, .int .i64 ho, .int .i64 ix, .slice ga gs.length gx, .slice ca cs.length cx, .slice pa ps.length px, .int .i64 pr, .slice ma ms.length mx, .int .i64 bw, .int .i64 er] 41) := ⟨_, rfl⟩
  have HV := hV.symm
  rw [← hV] at bA B0 z
  have a0 := bA.c 0 rfl
  clear hA hV z
  go_enter Try.func76, Try.ntmps76
  go_wp2
  go_ret
  exact ⟨_, rfl, World.ownsRow_nil _ _ _ _, B0⟩
end Go.Proofs.Ythecdnfloahoaaa
