/-
  Contracts of PrefixText of the model: the same text. Conditions: those in each contract.
-/
import Derived.Test.YtichmbbpjkikaaaDoorT1
import Derived.Deep.RegionHeld3
namespace Go.Proofs.YtichmbbpjkikaaaDoor
open Go.ChangeShapes Go.WideShapes Go.ChangeAt Go.RowKit Go.BigFrame
set_option linter.unusedVariables false
set_option maxRecDepth 100000

/-- append inside a region: s is the call's own, x reads as m -/
theorem step_app {ops : Array Oper} {o : Oper} {a : Act} {K : Act → World → Prop} {Q : Exit → Act → World → Prop} {E : Prop} {w : World} (hgd : o.guard = none) (s x : Operand)
    (ho : o.op = .call { callee := .builtin .append, args := #[s, x], argTypes := #[22, 22] })
    (base : Nat) (v u : Value) (l m : List Int) (hs : a.eval s = v) (hx : a.eval x = u) (hown : Own w base v l) (hu : Rd w u m) (hm : 0 < m.length) (hlen : l.length + m.length ≤ 4294967296) (hbase : base ≤ w.heap.size)
    (h : ∀ v' w', Own w' base v' (l ++ m) → w.grownBy w' v.ownBlock → K (a.put o.dst v') w') : if Region.wanted o (yielded ops a.tmps) = true then Oper.wp Tryd.prog o a w K Q else E := by
  have hw : Region.wanted o (yielded ops a.tmps) = true := by simp [Region.wanted, hgd]
  rw [if_pos hw]
  obtain ⟨i0, hi, hz0, hz1, hz2⟩ := info_parts infoB
  have hmap : l.map (Value.int .u8) ++ m.map (Value.int .u8) = (l ++ m).map (Value.int .u8) := by simp
  have hl2 : (l ++ m).length = l.length + m.length := by simp
  obtain ⟨hb, _, ⟨p, c, hv, rfl, hac⟩ | ⟨b, off, c, hv, hp, hc⟩⟩ := hu
  · simp at hm
  · refine wp_append_own w s x 22 ho base BT i0 (.int .u8 0) 1 1 Tryd.underlying22 hi hz0 hz1 hz2 rfl (by decide) v l.length (l.map (Value.int .u8)) hs hown ⟨b, off, none⟩ m.length c (m.map (Value.int .u8)) (hx.trans hv) (by simp) (fun j y hy => ?_) (by simp [Value.oneCell']) (by unfold maxLen; omega) (by omega) hbase ?_
    · have hj : j < m.length := by
        have := (List.getElem?_eq_some_iff.1 hy).1
        simpa using this
      have hadd : (⟨b, off, none⟩ : Addr).add j = ⟨b, off + j, none⟩ := by unfold Addr.add; split <;> simp_all
      rw [hadd, hc j hj]
      simpa [List.getD, hj] using hy
    · intro v' w' ho' hg' _
      refine h v' w' ?_ hg'
      unfold Own
      rw [hl2, ← hmap]
      exact ho'
theorem rd_lit1_at (w : World) (g : Nat) (z : Int) (hg : g = w.heap.size) (h : 0 ≤ z ∧ z ≤ 255) : Rd (w.alloc (.cells #[.int .u8 z] BT)) (.slice (some ⟨g, 0, none⟩) 1 1) [z] := by
  subst hg; exact rd_lit1 w z h
def dgI (n : Int) : List Int := dg n.toNat
theorem dgI_small {n : Int} (h0 : 0 ≤ n) (h : n < 10) : dgI n = [48 + n] := by
  unfold dgI
  rw [dg_small (by omega)]
  congr 1
  omega
theorem dgI_big {n : Int} (h0 : 0 ≤ n) (h : ¬ n < 10) : dgI n = dgI (n / 10) ++ [48 + n % 10] := by
  unfold dgI
  rw [dg_big (by omega), show (n / 10).toNat = n.toNat / 10 by omega]
  congr 2
  omega
theorem dg_len (n : Nat) (h : n < 1000) : (dg n).length ≤ 3 := by unfold dg; rw [List.length_map]; exact dd_len h
theorem dgI_bd (n : Int) : ∀ x ∈ dgI n, 0 ≤ x ∧ x ≤ 255 := dg_bd _
theorem dg_pos (n : Nat) : 0 < (dg n).length := by
  unfold dg
  rw [Lib.decDigits]
  split <;> simp
theorem dgI_pos (n : Int) : 0 < (dgI n).length := dg_pos _
theorem dig1 (n : Int) (w : World) (h0 : 0 ≤ n) (h : n < 10) : Calls Tryd.prog 82 #[.int .i64 n] w (NewB w (dgI n)) := by
  rw [dgI_small h0 h]
  go_enter Tryd.func82, Tryd.ntmps82
  go_wp2
  go_ret
  exact ⟨_, rfl, Own.lit w _ [48 + n] (Nat.le_refl _) (by simp [maxLen]) (by simp), (Below.refl _ _).alloc (Nat.le_refl _) _⟩
theorem dig2 (n : Int) (w : World) (h0 : 0 ≤ n) (h : n < 100) : Calls Tryd.prog 82 #[.int .i64 n] w (NewB w (dgI n)) := by
  by_cases hn : n < 10
  · exact dig1 n w h0 hn
  · rw [dgI_big h0 hn]
    have hd : (dgI (n / 10)).length ≤ 3 := dg_len _ (by omega)
    go_enter Tryd.func82, Tryd.ntmps82
    go_wp2_with (first | (go_at_call 82; refine (dig1 (n / 10) _ (by omega) (by omega)).mono ?_; rintro e w1 ⟨u1, rfl, ho1, hb1⟩) | (at_builtin; refine wp_app rfl (.tmp 11) (.tmp 16) rfl w.heap.size u1 _ (dgI (n / 10)) [48 + n % 10] rfl rfl (ho1.alloc _) (rd_lit1 _ _ (by omega)) (by simp; omega) (by have := hb1.size; simp; omega) ?_; intro v2 w2 ho2 hg2))
    go_ret
    exact ⟨_, rfl, ho2, (hb1.alloc hb1.size _).grown hg2 (by have := hb1.size; simp; omega) (fun k hk => (World.ownsRow.lt ho1 k hk).1)⟩
theorem dig_any (n : Int) (w : World) (h0 : 0 ≤ n) (h : n < 1000) : Calls Tryd.prog 82 #[.int .i64 n] w (NewB w (dgI n)) := by
  by_cases hn : n < 10
  · exact dig1 n w h0 hn
  · rw [dgI_big h0 hn]
    have hd : (dgI (n / 10)).length ≤ 3 := dg_len _ (by omega)
    go_enter Tryd.func82, Tryd.ntmps82
    go_wp2_with (first | (go_at_call 82; refine (dig2 (n / 10) _ (by omega) (by omega)).mono ?_; rintro e w1 ⟨u1, rfl, ho1, hb1⟩) | (at_builtin; refine wp_app rfl (.tmp 11) (.tmp 16) rfl w.heap.size u1 _ (dgI (n / 10)) [48 + n % 10] rfl rfl (ho1.alloc _) (rd_lit1 _ _ (by omega)) (by simp; omega) (by have := hb1.size; simp; omega) ?_; intro v2 w2 ho2 hg2))
    go_ret
    exact ⟨_, rfl, ho2, (hb1.alloc hb1.size _).grown hg2 (by have := hb1.size; simp; omega) (fun k hk => (World.ownsRow.lt ho1 k hk).1)⟩

set_option maxHeartbeats 1000000 in
theorem l1text_any (a n : Int) (w : World) (ha0 : 0 ≤ a) (ha1 : a ≤ 65535) (hn0 : 0 ≤ n) (hn1 : n ≤ 16) :
    Calls Tryd.prog 53 #[.agg #[.int .i64 a, .int .i64 n]] w (NewB w (((dgI (a / 256) ++ [46]) ++ dgI (a % 256)) ++ [47] ++ dgI n)) := by
  obtain ⟨c0, c1, lt, B0⟩ := box2 w (.int .i64 a) (.int .i64 n) 24
  have hand := and_255 a ha0 ha1
  have q1 : (dgI (a / 256)).length ≤ 3 := dg_len _ (by omega)
  have q2 : (dgI (a % 256)).length ≤ 3 := dg_len _ (by omega)
  have q3 : (dgI n).length ≤ 3 := dg_len _ (by omega)
  go_enter Tryd.func53, Tryd.ntmps53
  go_wp2_with fail
  go_region_held3 (fun w' => Over (w.alloc (.cells #[.int .i64 a, .int .i64 n] 24)) w' ∧ w'.cell? ⟨w.heap.size, 0, none⟩ = some (.int .i64 a) ∧ w'.cell? ⟨w.heap.size, 1, none⟩ = some (.int .i64 n))
    ((first | exact held2 lt c0 c1 (over_drew _) | exact held2 lt c0 c1 (Below.drew (Below.alloc (Below.refl _ _) (Nat.le_refl _) _)) | exact held2 lt c0 c1 (over_alloc (‹Over (w.alloc (.cells #[.int .i64 a, .int .i64 n] 24)) _ ∧ _›.1) _) | exact held2 lt c0 c1 (by assumption)))
    ((first | (go_at_call 82; refine (dig_any _ _ (by omega) (by omega)).mono ?_; rintro e wd ⟨ud, rfl, hod, hbd⟩; have hov := over_step (‹Over (w.alloc (.cells #[.int .i64 a, .int .i64 n] 24)) _ ∧ _›.1) hbd) | (have hown := (hod.mono (show w.heap.size + 1 ≤ _ by simp <;> omega)).alloc (.cells #[.int .u8 46] BT); have hsz := hbd.size; simp at hsz; (refine step_app ?_ (.tmp 7) (.tmp 8) ?_ (w.heap.size + 1) ud _ (dgI (a / 256)) ([46]) ?_ ?_ (hown) (rd_lit1 _ 46 ?_) ?_ ?_ ?_ ?_; rfl; rfl; rfl; rfl; omega; (simp <;> omega); (simp <;> omega); (simp; omega); intro v5 w5 ho5 hg5; have hov : Over (w.alloc (.cells #[.int .i64 a, .int .i64 n] 24)) w5 := over_grown (‹Over (w.alloc (.cells #[.int .i64 a, .int .i64 n] 24)) _ ∧ _›.1) hown (by simp) hg5; clear hown)) | (have hown := hod.mono (show w.heap.size + 1 ≤ _ by simp <;> omega); have hsz := hbd.size; simp at hsz; (refine step_app ?_ (.tmp 7) (.tmp 8) ?_ (w.heap.size + 1) ud _ (dgI (a / 256)) ([46]) ?_ ?_ (hown) (((rd_lit1_at (w.alloc (.cells #[.int .i64 a, .int .i64 n] 24)) (w.heap.size + 1) 46 ?_ ?_).keep (over_drew _)).keep hbd) ?_ ?_ ?_ ?_; rfl; rfl; rfl; rfl; simp; omega; (simp <;> omega); (simp <;> omega); omega; intro v5 w5 ho5 hg5; have hov : Over (w.alloc (.cells #[.int .i64 a, .int .i64 n] 24)) w5 := over_grown (‹Over (w.alloc (.cells #[.int .i64 a, .int .i64 n] 24)) _ ∧ _›.1) hown (by simp) hg5; clear hown)) | (have hown := ho5.keep hbd; have hwz : w.heap.size + 1 ≤ wd.heap.size := le_over (‹Over (w.alloc (.cells #[.int .i64 a, .int .i64 n] 24)) _ ∧ _›.1) (by simp); have hpos := dgI_pos (a % 256); (refine step_app ?_ (.tmp 9) (.tmp 13) ?_ (w.heap.size + 1) v5 ud (dgI (a / 256) ++ [46]) (dgI (a % 256)) ?_ ?_ (hown) (hod.rd (dgI_bd _)) ?_ ?_ ?_ ?_; rfl; rfl; rfl; rfl; exact hpos; (simp <;> omega); exact hwz; intro v10 w10 ho10 hg10; have hov : Over (w.alloc (.cells #[.int .i64 a, .int .i64 n] 24)) w10 := over_grown (‹Over (w.alloc (.cells #[.int .i64 a, .int .i64 n] 24)) _ ∧ _›.1) hown (by simp) hg10; clear hown))))
  all_goals
    have hovA := hov
    have hw10 : w.heap.size + 1 ≤ w10.heap.size := le_over hovA (by simp)
    clear hov hbd hod ho5
    go_wp2_with fail
    go_region_held3 (fun w' => Over (w.alloc (.cells #[.int .i64 a, .int .i64 n] 24)) w' ∧ w'.cell? ⟨w.heap.size, 0, none⟩ = some (.int .i64 a) ∧ w'.cell? ⟨w.heap.size, 1, none⟩ = some (.int .i64 n))
      ((first | exact held2 lt c0 c1 (Below.drew hovA) | exact held2 lt c0 c1 (Below.drew (over_alloc hovA _)) | exact held2 lt c0 c1 (by assumption)))
      ((first | (go_at_call 82; refine (dig_any _ _ (by omega) (by omega)).mono ?_; rintro e wy ⟨uy, rfl, hoy, hby⟩; have hov := over_step (‹Over (w.alloc (.cells #[.int .i64 a, .int .i64 n] 24)) _ ∧ _›.1) hby) | (have hown := (ho10.alloc (.cells #[.int .u8 47] BT)).keep (over_drew _); (refine step_app ?_ (.tmp 15) (.tmp 16) ?_ (w.heap.size + 1) v10 _ ((dgI (a / 256) ++ [46]) ++ dgI (a % 256)) ([47]) ?_ ?_ (hown) ((rd_lit1 _ 47 ?_).keep (over_drew _)) ?_ ?_ ?_ ?_; rfl; rfl; rfl; rfl; omega; (simp <;> omega); (simp <;> omega); (simp; omega); intro v2 w2 ho2 hg2; have hov : Over (w.alloc (.cells #[.int .i64 a, .int .i64 n] 24)) w2 := over_grown (‹Over (w.alloc (.cells #[.int .i64 a, .int .i64 n] 24)) _ ∧ _›.1) hown (by simp) hg2; clear hown)) | (have hown := ho2.keep hby; have hwz2 : w.heap.size + 1 ≤ wy.heap.size := le_over (‹Over (w.alloc (.cells #[.int .i64 a, .int .i64 n] 24)) _ ∧ _›.1) (by simp); have hpos2 := dgI_pos n; (refine step_app ?_ (.tmp 17) (.tmp 20) ?_ (w.heap.size + 1) v2 uy (((dgI (a / 256) ++ [46]) ++ dgI (a % 256)) ++ [47]) (dgI n) ?_ ?_ (hown) (hoy.rd (dgI_bd _)) ?_ ?_ ?_ ?_; rfl; rfl; rfl; rfl; exact hpos2; (simp <;> omega); exact hwz2; intro v6 w6 ho6 hg6; have hov : Over (w.alloc (.cells #[.int .i64 a, .int .i64 n] 24)) w6 := over_grown (‹Over (w.alloc (.cells #[.int .i64 a, .int .i64 n] 24)) _ ∧ _›.1) hown (by simp) hg6; clear hown))))
    go_wp2_with fail
    go_ret
    exact ⟨_, rfl, ho6.mono (by omega), below_step B0 (over_below hov)⟩

theorem textL_is (a n : Int) (h : pokB a n = true) : textL a n = ((dgI (a / 256) ++ [46]) ++ dgI (a % 256)) ++ [47] ++ dgI n := by
  rw [textL, if_pos h]
  simp [dgI]
theorem textL_len (a n : Int) : (textL a n).length ≤ 16 := by
  unfold textL
  split
  · next h =>
    obtain ⟨h0, h1, h2, h3, -⟩ := pok_of h
    have q1 := dg_len (a / 256).toNat (by omega)
    have q2 := dg_len (a % 256).toNat (by omega)
    have q3 := dg_len n.toNat (by omega)
    simp only [List.length_append, List.length_cons]
    omega
  · simp
theorem stext_any (a n : Int) (w : World) : Calls Tryd.prog 36 #[.agg #[.int .i64 a, .int .i64 n]] w (TextB w (textL a n)) := by
  obtain ⟨c0, c1, lt, B0⟩ := box2 w (.int .i64 a) (.int .i64 n) 24
  cases hp : pokB a n
  · rw [show textL a n = [] by simp [textL, hp]]
    have H := Lib.hid hp
    clear hp
    go_enter Tryd.func36, Tryd.ntmps36
    go_wp2_with fail
    refine (spok_t _ H).mono ?_
    rintro e w1 ⟨rfl, hb1⟩
    go_wp2_with fail
    go_ret
    exact ⟨_, rfl, ⟨by simp, by simp, .inl ⟨none, 0, rfl, rfl, fun _ => rfl⟩⟩, below_step B0 hb1⟩
  · obtain ⟨ha0, ha1, hn0, hn1, -⟩ := pok_of hp
    have hbd := textL_bd a n
    rw [textL_is a n hp] at hbd ⊢
    have H := Lib.hid hp
    clear hp
    go_enter Tryd.func36, Tryd.ntmps36
    go_wp2_with fail
    refine (spok_t _ H).mono ?_
    rintro e w1 ⟨rfl, hb1⟩
    have k0 := cell_keep hb1 lt c0
    have k1 := cell_keep hb1 lt c1
    have B1 := below_step B0 hb1
    clear hb1 c0 c1 lt B0
    go_wp2_with fail
    refine (l1text_any a n _ ha0 ha1 hn0 hn1).mono ?_
    rintro e w2 ⟨u, rfl, ho, hb2⟩
    clear k0 k1
    go_wp2_with fail
    go_ret
    exact ⟨_, rfl, (ho.m hbd).mono B1.size, below_step B1 hb2⟩
end Go.Proofs.YtichmbbpjkikaaaDoor
