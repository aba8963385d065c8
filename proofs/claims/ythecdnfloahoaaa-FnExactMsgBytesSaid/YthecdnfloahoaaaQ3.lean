/-
  Bytes of a message: what the model appends for attributes. Conditions: those in each contract.
-/
import Derived.Test.YthecdnfloahoaaaQ2
namespace Go.Proofs.Ythecdnfloahoaaa
open Go.ChangeShapes Go.WideShapes Go.ChangeAt Go.RowKit Go.BigFrame
set_option linter.unusedVariables false
set_option maxRecDepth 100000
set_option linter.unusedSimpArgs false

set_option maxHeartbeats 2000000 in
theorem sputA_any (V : World) (v : Value) (pa ma : Option Addr) (px mx : Nat) (l ps ms : List Int) (pr bw : Int) (base : Nat) (w : World) (ho : Own w base v l) (hp : RdI V (.slice pa ps.length px) ps) (hm : RdI V (.slice ma ms.length mx) ms) (hpb : ∀ x ∈ ps, 0 ≤ x ∧ x ≤ 65535) (hmb : ∀ x ∈ ms, 0 ≤ x ∧ x ≤ 65535)
    (hpl : ps.length ≤ 255) (hml : ms.length ≤ 255) (hpr : 0 ≤ pr ∧ pr ≤ 1000) (hbw : 0 ≤ bw ∧ bw ≤ 1000) (hov : Over V w) (hVb : V.heap.size ≤ base) (hbs : base ≤ w.heap.size) (hl : l.length ≤ 1000) (hlb : ∀ x ∈ l, 0 ≤ x ∧ x ≤ 255) :
    Calls Try.prog 106 #[v, .agg #[.slice pa ps.length px, .int .i64 pr, .slice ma ms.length mx, .int .i64 bw]] w (AppR w v base (l ++ attL ps ms pr bw)) := by
  obtain ⟨bA, B0, z⟩ := one w [.slice pa ps.length px, .int .i64 pr, .slice ma ms.length mx, .int .i64 bw] 39
  obtain ⟨A, hA⟩ : ∃ A, A = w.heap.size := ⟨_, rfl⟩
  have ne0 : v.ownBlock ≠ some A := fun e => by have := ho.blt A e; omega
  have ho1 := ho.alloc (.cells #[.slice pa ps.length px, .int .i64 pr, .slice ma ms.length mx, .int .i64 bw] 39)
  have hov1 := over_alloc hov (.cells #[.slice pa ps.length px, .int .i64 pr, .slice ma ms.length mx, .int .i64 bw] 39)
  obtain ⟨w0, hw0⟩ : ∃ w0, w0 = w.alloc (.cells #[.slice pa ps.length px, .int .i64 pr, .slice ma ms.length mx, .int .i64 bw] 39) := ⟨_, rfl⟩
  have HE := hw0.symm
  rw [← hw0] at bA B0 z ho1 hov1
  rw [← hA] at bA z
  have hb1 : base ≤ w0.heap.size := by omega
  have hg0 : w.grownBy w0 v.ownBlock := grown_below B0 _
  have hs0 := B0.size
  have hAw : w.heap.size = A := hA.symm
  have a0 := bA.c 0 rfl
  have h1 : 0 ≤ (ps.length : Int) ∧ (ps.length : Int) ≤ 255 := by omega
  have h2 : 0 ≤ (ms.length : Int) ∧ (ms.length : Int) ≤ 255 := by omega
  have HP := Lib.hid hpb
  have HM := Lib.hid hmb
  have HLB := Lib.hid hlb
  have HZ := Lib.hid z
  clear hw0 hA hpb hmb hlb z
  go_enter Try.func106, Try.ntmps106
  go_wp2_with (at_builtin; refine Hid.out ?_)
  refine Lib.hid ?_
  refine wp_app2 rfl _ _ rfl base _ _ l [(ps.length : Int)] rfl rfl (ho1.alloc _) (rd_lit1 _ _ h1) (by simp; omega) (by simp; omega) ?_
  intro v1 w1 o1 g1' r1'
  have g1 : w0.grownBy w1 v.ownBlock := grown_pre g1'
  have r1 : Rw w0 v v1 := Rw.later (by simp) r1'
  clear g1' r1' a0
  go_wp2
  go_loopw [0, 5] (fun wv i wr => ∃ k : Nat, k ≤ ps.length ∧ i = .int .i64 (k : Int) ∧ Own wr base wv ((l ++ [(ps.length : Int)]) ++ (ps.take k).flatMap two2) ∧ w0.grownBy wr v.ownBlock ∧ Rw w0 v wv) (fun _ i _ => ps.length - (intOf i).toNat)
  case atStart => exact ⟨0, Nat.zero_le _, rfl, by simpa using o1, g1, r1⟩
  case round =>
    obtain ⟨k, hk, rfl, hok, hgr, hrr⟩ := hrel
    have hovr : Over V wr := over_grown hov1 ho1 hVb hgr
    have hbr : base ≤ wr.heap.size := Nat.le_trans hb1 hgr.size
    have bW := bA.rw hgr ne0
    have neW := hrr.ne ne0 bA.lt
    have a0 := bW.c 0 rfl
    by_cases hlt : k < ps.length
    · have hltI : (k : Int) < (ps.length : Int) := by omega
      obtain ⟨ad, cc, hv, hce⟩ := hp.el
      obtain ⟨b, o, had, d0⟩ := hce k hlt
      obtain ⟨rfl, -⟩ := (by simpa using hv : pa = ad ∧ px = cc)
      subst had
      have e1 := over_cell hovr (World.block_lt_of_cell? V _ d0) d0
      obtain ⟨x, hx1⟩ : ∃ x, ps.getD k 0 = x := ⟨_, rfl⟩
      rw [hx1] at e1
      have hxm : x ∈ ps := by rw [← hx1]; simp [List.getD, hlt]
      obtain ⟨x0, x9⟩ := HP.out x hxm
      have htk : (ps.take (k + 1)).flatMap two2 = (ps.take k).flatMap two2 ++ two2 x := by
        rw [List.take_succ_eq_append_getElem hlt, List.flatMap_append]
        congr 1
        rw [← hx1]; simp [List.getD, hlt]
      have HT := Lib.hid htk
      have hln : ((l ++ [(ps.length : Int)]) ++ (ps.take k).flatMap two2).length ≤ 1048576 := by rw [List.length_append, flatTwo_len, List.length_take]; simp; omega
      have HLN := Lib.hid hln
      clear htk hx1 hxm hln d0 hce hv
      go_wp2_with fail
      refine (stwo_any _ _ x base _ hok x0 x9 hbr HLN.out).mono ?_
      rintro e w3 ⟨v3, rfl, ho3, hg3', hr3'⟩
      rw [List.append_assoc, ← HT.out] at ho3
      obtain ⟨hg4, hr4⟩ := row_step hgr hrr hg3' hr3'
      clear hg3' hr3' hok hrr a0 e1
      go_wp2
      go_roundw
      case rel => exact ⟨k + 1, by omega, by simp, ho3, hg4, hr4⟩
      case measure => simp [intOf]; omega
    · have hltI : ¬ (k : Int) < (ps.length : Int) := by omega
      have hkn : ps.take k = ps := List.take_of_length_le (by omega)
      rw [hkn] at hok
      clear hkn
      have hgD : w0.grownBy wr.drew v.ownBlock := grown_trans hgr (grown_below (over_drew wr) _)
      have okD := hok.keep (over_drew wr)
      have hrD := hrr
      have bD := bA.rw hgD ne0
      have hbD : base ≤ wr.drew.heap.size := Nat.le_trans hb1 hgD.size
      have a1 := bW.c 1 rfl
      have a2 := bW.c 2 rfl
      have a3 := bW.c 3 rfl
      have HL1 := Lib.hid (show (l ++ [(ps.length : Int)] ++ ps.flatMap two2).length ≤ 1048576 by rw [List.length_append, flatTwo_len]; simp; omega)
      have HL2 := Lib.hid (show (l ++ [(ps.length : Int)] ++ ps.flatMap two2 ++ two2 pr).length ≤ 1048576 by rw [List.length_append, List.length_append, flatTwo_len]; simp [two2]; omega)
      have HL3 := Lib.hid (show (l ++ [(ps.length : Int)] ++ ps.flatMap two2 ++ two2 pr ++ two2 bw).length + [(ms.length : Int)].length ≤ 4294967296 by rw [List.length_append, List.length_append, List.length_append, flatTwo_len]; simp [two2]; omega)
      have HR := Lib.hid h2
      have hwm : IntKind.u8.wrap (ms.length : Int) = (ms.length : Int) := by rw [IntKind.wrap_u8]; omega
      have hone : 0 < [(ms.length : Int)].length := by simp
      have HO := Lib.hid hone
      clear hok hgr hrr bW neW hovr hbr hone h2
      go_wp2_with fail
      clear a0
      go_region_held3 (fun w' => w'.cell? ⟨A, 1, none⟩ = some (.int .i64 pr) ∧ w'.cell? ⟨A, 2, none⟩ = some (.slice ma ms.length mx) ∧ w'.cell? ⟨A, 3, none⟩ = some (.int .i64 bw))
        ((first | exact ⟨bD.c 1 rfl, bD.c 2 rfl, bD.c 3 rfl⟩ | exact ⟨(bD.alloc _).c 1 rfl, (bD.alloc _).c 2 rfl, (bD.alloc _).c 3 rfl⟩ | exact ⟨bX.c 1 rfl, bX.c 2 rfl, bX.c 3 rfl⟩ | exact ⟨(bX.alloc _).c 1 rfl, (bX.alloc _).c 2 rfl, (bX.alloc _).c 3 rfl⟩ | exact ⟨bY.c 1 rfl, bY.c 2 rfl, bY.c 3 rfl⟩ | exact ⟨(bY.alloc _).c 1 rfl, (bY.alloc _).c 2 rfl, (bY.alloc _).c 3 rfl⟩ | exact ⟨bZ.c 1 rfl, bZ.c 2 rfl, bZ.c 3 rfl⟩))
        ((first
          | (go_at_call_of 104 u0; refine (stwo_any u0 _ pr base _ (by first | exact okD | exact okD.alloc _) hpr.1 (by omega) (by first | exact hbD | exact Nat.le_trans hbD (by simp)) HL1.out).mono ?_; rintro e w3 ⟨v3, rfl, o3, g3, r3⟩; have G4 : w0.grownBy w3 v.ownBlock ∧ Rw w0 v v3 := (by first | exact row_step hgD hrD g3 r3 | exact row_step hgD hrD (grown_pre g3) (Rw.later (by simp) r3)); have bX := bA.rw G4.1 ne0; have hb3 : base ≤ w3.heap.size := Nat.le_trans hb1 G4.1.size)
          | (go_at_call_of 104 v3; refine (stwo_any v3 _ bw base _ (by first | exact o3 | exact o3.alloc _) hbw.1 (by omega) (by first | exact hb3 | exact Nat.le_trans hb3 (by simp)) HL2.out).mono ?_; rintro e w4 ⟨v4, rfl, o4, g5, r5⟩; have G6 : w0.grownBy w4 v.ownBlock ∧ Rw w0 v v4 := (by first | exact row_step G4.1 G4.2 g5 r5 | exact row_step G4.1 G4.2 (grown_pre g5) (Rw.later (by simp) r5)); have bY := bA.rw G6.1 ne0; have hb4 : base ≤ w4.heap.size := Nat.le_trans hb1 G6.1.size)
          | (refine step_app2 ?_ (.tmp 34) (.tmp 39) ?_ base v4 (.slice (some ⟨w4.heap.size, 0, none⟩) 1 1) _ [(ms.length : Int)] ?_ ?_ (o4.alloc (.cells #[.int .u8 (ms.length : Int)] BT)) (rd_lit1 w4 _ HR.out) HO.out HL3.out (Nat.le_trans hb4 (by simp)) ?_; rfl; rfl; rfl; rfl; intro v5 w5 o5 g7' r7'; have G8 := row_step G6.1 G6.2 (grown_pre g7') (Rw.later (by simp) r7'); have bZ := bA.rw G8.1 ne0)
          | (refine step_app2 ?_ (.tmp 34) (.tmp 39) ?_ base v4 (.slice (some ⟨w3.heap.size, 0, none⟩) 1 1) _ [(ms.length : Int)] ?_ ?_ o4 (Rd.lit_grown (rd_lit1 w3 _ HR.out) g5 (fun e => Nat.lt_irrefl _ (o3.blt _ e))) HO.out HL3.out hb4 ?_; rfl; rfl; rfl; rfl; intro v5 w5 o5 g7' r7'; have G8 := row_step G6.1 G6.2 g7' r7'; have bZ := bA.rw G8.1 ne0)
          | (refine step_app2 ?_ (.tmp 34) (.tmp 39) ?_ base v4 (.slice (some ⟨wr.drew.heap.size, 0, none⟩) 1 1) _ [(ms.length : Int)] ?_ ?_ o4 (Rd.lit_grown (Rd.lit_grown (rd_lit1 wr.drew _ HR.out) g3 (fun e => Nat.lt_irrefl _ (okD.blt _ e))) g5 (r3.ne (fun e => Nat.lt_irrefl _ (okD.blt _ e)) (by simp))) HO.out HL3.out hb4 ?_; rfl; rfl; rfl; rfl; intro v5 w5 o5 g7' r7'; have G8 := row_step G6.1 G6.2 g7' r7'; have bZ := bA.rw G8.1 ne0)))
      all_goals
        have g8 := G8.1
        have r8 := G8.2
        have h2 := HR.out
        clear g7' r7' G6 G8 bY o4 hb4 G4 g5 r5 bX hb3 o3 g3 r3 okD hgD hrD bD hbD a1 a2 a3
        go_wp2
        go_loopw [0, 6] (fun wv i wr => ∃ k : Nat, k ≤ ms.length ∧ i = .int .i64 (k : Int) ∧ Own wr base wv ((l ++ [(ps.length : Int)] ++ ps.flatMap two2 ++ two2 pr ++ two2 bw ++ [(ms.length : Int)]) ++ (ms.take k).flatMap two2) ∧ w0.grownBy wr v.ownBlock ∧ Rw w0 v wv) (fun _ i _ => ms.length - (intOf i).toNat)
        case atStart => exact ⟨0, Nat.zero_le _, rfl, by simpa using o5, g8, r8⟩
        case round =>
          obtain ⟨k, hk, rfl, hok, hgr, hrr⟩ := hrel
          have hovr : Over V wr := over_grown hov1 ho1 hVb hgr
          have hbr : base ≤ wr.heap.size := Nat.le_trans hb1 hgr.size
          have bW := bA.rw hgr ne0
          have neW := hrr.ne ne0 bA.lt
          have a0 := bW.c 2 rfl
          by_cases hlt : k < ms.length
          · have hltI : (k : Int) < (ms.length : Int) := by omega
            obtain ⟨ad, cc, hv, hce⟩ := hm.el
            obtain ⟨b, o, had, d0⟩ := hce k hlt
            obtain ⟨rfl, -⟩ := (by simpa using hv : ma = ad ∧ mx = cc)
            subst had
            have e1 := over_cell hovr (World.block_lt_of_cell? V _ d0) d0
            obtain ⟨x, hx1⟩ : ∃ x, ms.getD k 0 = x := ⟨_, rfl⟩
            rw [hx1] at e1
            have hxm : x ∈ ms := by rw [← hx1]; simp [List.getD, hlt]
            obtain ⟨x0, x9⟩ := HM.out x hxm
            have htk : (ms.take (k + 1)).flatMap two2 = (ms.take k).flatMap two2 ++ two2 x := by
              rw [List.take_succ_eq_append_getElem hlt, List.flatMap_append]
              congr 1
              rw [← hx1]; simp [List.getD, hlt]
            have HT := Lib.hid htk
            have hln : ((l ++ [(ps.length : Int)] ++ ps.flatMap two2 ++ two2 pr ++ two2 bw ++ [(ms.length : Int)]) ++ (ms.take k).flatMap two2).length ≤ 1048576 := by rw [List.length_append, flatTwo_len, List.length_take]; rw [List.length_append, List.length_append, List.length_append, List.length_append, flatTwo_len]; simp [two2]; omega
            have HLN := Lib.hid hln
            clear htk hx1 hxm hln d0 hce hv
            go_wp2_with fail
            refine (stwo_any _ _ x base _ hok x0 x9 hbr HLN.out).mono ?_
            rintro e w3 ⟨v3, rfl, ho3, hg3', hr3'⟩
            rw [List.append_assoc, ← HT.out] at ho3
            obtain ⟨hg4, hr4⟩ := row_step hgr hrr hg3' hr3'
            clear hg3' hr3' hok hrr a0 e1
            go_wp2
            go_roundw
            case rel => exact ⟨k + 1, by omega, by simp, ho3, hg4, hr4⟩
            case measure => simp [intOf]; omega
          · have hltI : ¬ (k : Int) < (ms.length : Int) := by omega
            have hkn : ms.take k = ms := List.take_of_length_le (by omega)
            rw [hkn] at hok
            clear hkn
            rw [show l ++ [(ps.length : Int)] ++ ps.flatMap two2 ++ two2 pr ++ two2 bw ++ [(ms.length : Int)] ++ ms.flatMap two2 = l ++ attL ps ms pr bw by unfold attL numL; simp] at hok
            have HK := Lib.hid hok
            have gg := grown_trans hg0 hgr
            have rr := Rw.later hs0 hrr
            clear hok
            go_wp2
            go_ret
            exact ⟨_, rfl, HK.out, gg, rr⟩
end Go.Proofs.Ythecdnfloahoaaa
