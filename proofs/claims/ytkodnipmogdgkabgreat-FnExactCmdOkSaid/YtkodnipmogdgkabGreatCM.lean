/-
  Commands: which are valid. Conditions: those in each contract.
-/
import Derived.Test.YtkodnipmogdgkabGreatUK
namespace Go.Proofs.YtkodnipmogdgkabGreat
open Go.ChangeShapes Go.WideShapes Go.ChangeAt Go.RowKit Go.BigFrame Go.Joins
set_option linter.unusedVariables false
set_option maxRecDepth 100000
set_option linter.unusedSimpArgs false
set_option maxRecDepth 100000

def Is_Cmd (W : World) (v : Value) : Prop := ∃ (k at9 : Int) (on : Bool) (ad ha : Int), v = .agg #[.int .i64 k, .int .i64 at9, .bool on, .int .i64 ad, .int .i64 ha]
theorem array5Cm {α : Type} {xs : Array α} (h : xs.size = 5) : ∃ c0 c1 c2 c3 c4, xs = #[c0, c1, c2, c3, c4] := by
  obtain ⟨l⟩ := xs
  match l, h with
  | [c0, c1, c2, c3, c4], _ => exact ⟨c0, c1, c2, c3, c4, rfl⟩
theorem list5Cm {α : Type} {xs : List α} (h : xs.length = 5) : ∃ c0 c1 c2 c3 c4, xs = [c0, c1, c2, c3, c4] := by
  match xs, h with
  | [c0, c1, c2, c3, c4], _ => exact ⟨c0, c1, c2, c3, c4, rfl⟩
section
variable {H : Type} {enc : TypeId × Value → H} {W : World} {base : Nat} {d : DataW H} {p : List MemPlace} {v : Value}
theorem cellsCm : Tryz.prog.cellsOf 27 = 5 := by kernel_rfl
theorem cellsCmI : Tryz.prog.cellsOf 3 = 1 := by kernel_rfl
theorem cellsCmB : Tryz.prog.cellsOf 4 = 1 := by kernel_rfl
theorem is_Cmd (hv : Value.okWide Tryz.prog W .any base 27 v) (h : DataW.Trod enc Tryz.prog W 0 (fun _ => true) true 27 v d p) : Is_Cmd W v := by
  obtain ⟨xs, rfl, hsz⟩ := okWide_struct Tryz.underlying27 hv
  rw [cellsCm] at hsz
  obtain ⟨c0, c1, c2, c3, c4, rfl⟩ := array5Cm hsz
  obtain ⟨fuel, hf⟩ := h
  obtain ⟨ys, n, _, hx, hl, hlen, hf⟩ := DataW.trod_struct Tryz.underlying27 hf
  obtain ⟨y0, y1, y2, y3, y4, rfl⟩ := list5Cm hlen
  clear hlen hl hx hsz hv
  have h0 := hf 0 _ rfl
  have h1 := hf 1 _ rfl
  have h2 := hf 2 _ rfl
  have h3 := hf 3 _ rfl
  have h4 := hf 4 _ rfl
  clear hf
  simp [Value.cells, cellsCmI, cellsCmB] at h0 h1 h2 h3 h4
  obtain ⟨x0, e0, -, -⟩ := DataW.trod_int Tryz.underlying3 h0
  obtain ⟨x1, e1, -, -⟩ := DataW.trod_int Tryz.underlying3 h1
  obtain ⟨x2, e2, -⟩ := DataW.trod_bool Tryz.underlying4 h2
  obtain ⟨x3, e3, -, -⟩ := DataW.trod_int Tryz.underlying3 h3
  obtain ⟨x4, e4, -, -⟩ := DataW.trod_int Tryz.underlying3 h4
  simp at e0 e1 e2 e3 e4
  subst e0 e1 e2 e3 e4
  exact ⟨x0, x1, x2, x3, x4, rfl⟩
end
theorem toCm_any (k at9 : Int) (on : Bool) (ad ha : Int) (w : World) : Calls Tryz.prog 7 #[.agg #[.int .i64 k, .int .i64 at9, .bool on, .int .i64 ad, .int .i64 ha]] w fun e w' => e = .returned (.agg #[.int .i64 k, .int .i64 at9, .bool on, .int .i64 ad, .int .i64 ha]) ∧ Below w.heap.size w w' := by
  obtain ⟨bA, bR, bO, B0, z⟩ := three w [.int .i64 k, .int .i64 at9, .bool on, .int .i64 ad, .int .i64 ha] [.int .i64 0, .int .i64 0, .bool false, .int .i64 0, .int .i64 0] [.int .i64 0, .int .i64 0, .bool false, .int .i64 0, .int .i64 0] 27 35 35
  clear bA bR bO z
  go_enter Tryz.func7, Tryz.ntmps7
  go_wp2
  exact bodyPost_ret (v := .agg #[.int .i64 k, .int .i64 at9, .bool on, .int .i64 ad, .int .i64 ha]) (by simp [results, Tryz.results7, go_sem]) rfl ⟨rfl, (((Below.refl _ _).alloc (Nat.le_refl _) _).alloc (by simp) _).alloc (by simp; omega) _⟩
def placeB (x : Fb) (k at9 : Int) (on : Bool) : Bool :=
  if k = 0 ∨ k = 3 then inB at9 0 ((x.links.length : Int) - 1) else if k = 4 then decide (at9 = 0) && !on else if k = 1 then inB at9 0 ((x.nodes.length : Int) - 1) else inB at9 0 ((x.nodes.length : Int) - 1) && !on
def routeB (k ad ha : Int) : Bool := if k = 5 then addrB ad && inB ha 0 65535 else decide (ad = 0) && decide (ha = 0)
def cmdB (x : Fb) (k at9 : Int) (on : Bool) (ad ha : Int) : Bool := fbB x && (inB k 0 5 && (routeB k ad ha && placeB x k at9 on))
theorem saddr0 (w : World) : Calls Tryz.prog 13 #[.int .i64 0] w fun e w' => e = .returned (.bool true) ∧ w = w' := saddr_t w (Lib.hid (by decide))
set_option maxHeartbeats 4000000 in
theorem scmd_any (nv lv : Value) (x : Fb) (k at9 : Int) (on : Bool) (ad ha : Int) (w : World) (h : RdF w nv lv x) (hw : wtF x ≤ 1048576) :
    Calls Tryz.prog 5 #[.agg #[nv, lv, .int .i64 x.width], .agg #[.int .i64 k, .int .i64 at9, .bool on, .int .i64 ad, .int .i64 ha]] w fun e w' => e = .returned (.bool (cmdB x k at9 on ad ha)) ∧ Below w.heap.size w w' := by
  obtain ⟨na, nc, rfl⟩ := h.1.len
  obtain ⟨la, lc, rfl⟩ := h.2.len
  obtain ⟨bA, bC, B1, z⟩ := two w [.slice na x.nodes.length nc, .slice la x.links.length lc, .int .i64 x.width] [.int .i64 k, .int .i64 at9, .bool on, .int .i64 ad, .int .i64 ha] 33 35
  have hR := h.keep B1
  have a0 := bA.c 0 rfl
  have a1 := bA.c 1 rfl
  have a2 := bA.c 2 rfl
  go_enter Tryz.func5, Tryz.ntmps5
  go_wp2_with fail
  clear a0 a1 a2
  refine (sfok_any _ _ x _ hR hw).mono ?_
  rintro e w1 ⟨rfl, hb⟩
  replace bA := bA.keep hb
  replace bC := bC.keep hb
  replace B1 := below_step B1 hb
  have a0 := bA.c 0 rfl
  have a1 := bA.c 1 rfl
  have c0 := bC.c 0 rfl
  have c1 := bC.c 1 rfl
  have c2 := bC.c 2 rfl
  have c3 := bC.c 3 rfl
  have c4 := bC.c 4 rfl
  clear hb h hR bA bC z hw
  have HSF := fsB_eq x
  cases hfs : fsB x
  · have hfb : fbB x = false := HSF ▸ hfs
    clear HSF hfs
    have hv : cmdB x k at9 on ad ha = false := by unfold cmdB routeB placeB inB; simp [hfb]; try omega
    have HV := Lib.hid hv
    clear hv
    go_wp2_with (first | (go_at_call 13; refine (saddr0 _).mono ?_; rintro e w9 ⟨rfl, rfl⟩) | (go_at_call 13; refine (saddr_t _ HAD).mono ?_; rintro e w9 ⟨rfl, rfl⟩))
    go_ret
    exact ⟨by rw [HV.out] <;> rfl, B1⟩
  · have hfb : fbB x = true := HSF ▸ hfs
    clear HSF hfs
    by_cases hk0 : k < 0
    · have hv : cmdB x k at9 on ad ha = false := by unfold cmdB routeB placeB inB; simp [hfb, hk0]; try omega
      have HV := Lib.hid hv
      clear hv
      go_wp2_with (first | (go_at_call 13; refine (saddr0 _).mono ?_; rintro e w9 ⟨rfl, rfl⟩) | (go_at_call 13; refine (saddr_t _ HAD).mono ?_; rintro e w9 ⟨rfl, rfl⟩))
      go_ret
      exact ⟨by rw [HV.out] <;> rfl, B1⟩
    · by_cases hk5 : k > 5
      · have hv : cmdB x k at9 on ad ha = false := by unfold cmdB routeB placeB inB; simp [hfb, hk5]; try omega
        have HV := Lib.hid hv
        clear hv
        go_wp2_with (first | (go_at_call 13; refine (saddr0 _).mono ?_; rintro e w9 ⟨rfl, rfl⟩) | (go_at_call 13; refine (saddr_t _ HAD).mono ?_; rintro e w9 ⟨rfl, rfl⟩))
        go_ret
        exact ⟨by rw [HV.out] <;> rfl, B1⟩
      · obtain rfl | rfl | rfl | rfl | rfl | rfl : k = 0 ∨ k = 1 ∨ k = 2 ∨ k = 3 ∨ k = 4 ∨ k = 5 := by omega
        · clear hk0 hk5
          by_cases hz1 : ad = 0
          · subst hz1
            by_cases hz2 : ha = 0
            · subst hz2
              by_cases hlo : at9 ≥ 0
              · by_cases hhi : at9 < (x.links.length : Int)
                · have hv : cmdB x 0 at9 on 0 0 = true := by unfold cmdB routeB placeB inB; simp [hfb]; try omega
                  have HV := Lib.hid hv
                  clear hv
                  go_wp2_with (first | (go_at_call 13; refine (saddr0 _).mono ?_; rintro e w9 ⟨rfl, rfl⟩) | (go_at_call 13; refine (saddr_t _ HAD).mono ?_; rintro e w9 ⟨rfl, rfl⟩))
                  go_ret
                  exact ⟨by rw [HV.out] <;> rfl, B1⟩
                · have hv : cmdB x 0 at9 on 0 0 = false := by unfold cmdB routeB placeB inB; simp [hfb, hlo, hhi]; try omega
                  have HV := Lib.hid hv
                  clear hv
                  go_wp2_with (first | (go_at_call 13; refine (saddr0 _).mono ?_; rintro e w9 ⟨rfl, rfl⟩) | (go_at_call 13; refine (saddr_t _ HAD).mono ?_; rintro e w9 ⟨rfl, rfl⟩))
                  go_ret
                  exact ⟨by rw [HV.out] <;> first | rfl | (show Ending.returned (.bool (decide (at9 < (x.links.length : Int)))) = _; rw [decide_eq_false (by omega)]), B1⟩
              · have hlo2 : at9 < 0 := by omega
                have hv : cmdB x 0 at9 on 0 0 = false := by unfold cmdB routeB placeB inB; simp [hfb, hlo]; try omega
                have HV := Lib.hid hv
                clear hv
                go_wp2_with (first | (go_at_call 13; refine (saddr0 _).mono ?_; rintro e w9 ⟨rfl, rfl⟩) | (go_at_call 13; refine (saddr_t _ HAD).mono ?_; rintro e w9 ⟨rfl, rfl⟩))
                go_ret
                exact ⟨by rw [HV.out] <;> rfl, B1⟩
            · have hz2b : (ha == 0) = false := by simp [hz2]
              have hz2c : (ha != 0) = true := by simp [hz2]
              have hv : cmdB x 0 at9 on 0 ha = false := by unfold cmdB routeB placeB inB; simp [hfb, hz2]; try omega
              have HV := Lib.hid hv
              clear hv
              go_wp2_with (first | (go_at_call 13; refine (saddr0 _).mono ?_; rintro e w9 ⟨rfl, rfl⟩) | (go_at_call 13; refine (saddr_t _ HAD).mono ?_; rintro e w9 ⟨rfl, rfl⟩))
              go_ret
              exact ⟨by rw [HV.out] <;> rfl, B1⟩
          · have hz1b : (ad == 0) = false := by simp [hz1]
            have hz1c : (ad != 0) = true := by simp [hz1]
            have hv : cmdB x 0 at9 on ad ha = false := by unfold cmdB routeB placeB inB; simp [hfb, hz1]; try omega
            have HV := Lib.hid hv
            clear hv
            go_wp2_with (first | (go_at_call 13; refine (saddr0 _).mono ?_; rintro e w9 ⟨rfl, rfl⟩) | (go_at_call 13; refine (saddr_t _ HAD).mono ?_; rintro e w9 ⟨rfl, rfl⟩))
            go_ret
            exact ⟨by rw [HV.out] <;> rfl, B1⟩
        · clear hk0 hk5
          by_cases hz1 : ad = 0
          · subst hz1
            by_cases hz2 : ha = 0
            · subst hz2
              by_cases hlo : at9 ≥ 0
              · by_cases hhi : at9 < (x.nodes.length : Int)
                · have hv : cmdB x 1 at9 on 0 0 = true := by unfold cmdB routeB placeB inB; simp [hfb]; try omega
                  have HV := Lib.hid hv
                  clear hv
                  go_wp2_with (first | (go_at_call 13; refine (saddr0 _).mono ?_; rintro e w9 ⟨rfl, rfl⟩) | (go_at_call 13; refine (saddr_t _ HAD).mono ?_; rintro e w9 ⟨rfl, rfl⟩))
                  go_ret
                  exact ⟨by rw [HV.out] <;> rfl, B1⟩
                · have hv : cmdB x 1 at9 on 0 0 = false := by unfold cmdB routeB placeB inB; simp [hfb, hlo, hhi]; try omega
                  have HV := Lib.hid hv
                  clear hv
                  go_wp2_with (first | (go_at_call 13; refine (saddr0 _).mono ?_; rintro e w9 ⟨rfl, rfl⟩) | (go_at_call 13; refine (saddr_t _ HAD).mono ?_; rintro e w9 ⟨rfl, rfl⟩))
                  go_ret
                  exact ⟨by rw [HV.out] <;> first | rfl | (show Ending.returned (.bool (decide (at9 < (x.nodes.length : Int)))) = _; rw [decide_eq_false (by omega)]), B1⟩
              · have hlo2 : at9 < 0 := by omega
                have hv : cmdB x 1 at9 on 0 0 = false := by unfold cmdB routeB placeB inB; simp [hfb, hlo]; try omega
                have HV := Lib.hid hv
                clear hv
                go_wp2_with (first | (go_at_call 13; refine (saddr0 _).mono ?_; rintro e w9 ⟨rfl, rfl⟩) | (go_at_call 13; refine (saddr_t _ HAD).mono ?_; rintro e w9 ⟨rfl, rfl⟩))
                go_ret
                exact ⟨by rw [HV.out] <;> rfl, B1⟩
            · have hz2b : (ha == 0) = false := by simp [hz2]
              have hz2c : (ha != 0) = true := by simp [hz2]
              have hv : cmdB x 1 at9 on 0 ha = false := by unfold cmdB routeB placeB inB; simp [hfb, hz2]; try omega
              have HV := Lib.hid hv
              clear hv
              go_wp2_with (first | (go_at_call 13; refine (saddr0 _).mono ?_; rintro e w9 ⟨rfl, rfl⟩) | (go_at_call 13; refine (saddr_t _ HAD).mono ?_; rintro e w9 ⟨rfl, rfl⟩))
              go_ret
              exact ⟨by rw [HV.out] <;> rfl, B1⟩
          · have hz1b : (ad == 0) = false := by simp [hz1]
            have hz1c : (ad != 0) = true := by simp [hz1]
            have hv : cmdB x 1 at9 on ad ha = false := by unfold cmdB routeB placeB inB; simp [hfb, hz1]; try omega
            have HV := Lib.hid hv
            clear hv
            go_wp2_with (first | (go_at_call 13; refine (saddr0 _).mono ?_; rintro e w9 ⟨rfl, rfl⟩) | (go_at_call 13; refine (saddr_t _ HAD).mono ?_; rintro e w9 ⟨rfl, rfl⟩))
            go_ret
            exact ⟨by rw [HV.out] <;> rfl, B1⟩
        · clear hk0 hk5
          by_cases hz1 : ad = 0
          · subst hz1
            by_cases hz2 : ha = 0
            · subst hz2
              by_cases hlo : at9 ≥ 0
              · by_cases hhi : at9 < (x.nodes.length : Int)
                · cases on
                  · have hv : cmdB x 2 at9 false 0 0 = true := by unfold cmdB routeB placeB inB; simp [hfb]; try omega
                    have HV := Lib.hid hv
                    clear hv
                    go_wp2_with (first | (go_at_call 13; refine (saddr0 _).mono ?_; rintro e w9 ⟨rfl, rfl⟩) | (go_at_call 13; refine (saddr_t _ HAD).mono ?_; rintro e w9 ⟨rfl, rfl⟩))
                    go_ret
                    exact ⟨by rw [HV.out] <;> rfl, B1⟩
                  · have hv : cmdB x 2 at9 true 0 0 = false := by unfold cmdB routeB placeB inB; simp [hfb]; try omega
                    have HV := Lib.hid hv
                    clear hv
                    go_wp2_with (first | (go_at_call 13; refine (saddr0 _).mono ?_; rintro e w9 ⟨rfl, rfl⟩) | (go_at_call 13; refine (saddr_t _ HAD).mono ?_; rintro e w9 ⟨rfl, rfl⟩))
                    go_ret
                    exact ⟨by rw [HV.out] <;> rfl, B1⟩
                · have hv : cmdB x 2 at9 on 0 0 = false := by unfold cmdB routeB placeB inB; simp [hfb, hlo, hhi]; try omega
                  have HV := Lib.hid hv
                  clear hv
                  go_wp2_with (first | (go_at_call 13; refine (saddr0 _).mono ?_; rintro e w9 ⟨rfl, rfl⟩) | (go_at_call 13; refine (saddr_t _ HAD).mono ?_; rintro e w9 ⟨rfl, rfl⟩))
                  go_ret
                  exact ⟨by rw [HV.out] <;> first | rfl | (show Ending.returned (.bool (decide (at9 < (x.nodes.length : Int)))) = _; rw [decide_eq_false (by omega)]), B1⟩
              · have hlo2 : at9 < 0 := by omega
                have hv : cmdB x 2 at9 on 0 0 = false := by unfold cmdB routeB placeB inB; simp [hfb, hlo]; try omega
                have HV := Lib.hid hv
                clear hv
                go_wp2_with (first | (go_at_call 13; refine (saddr0 _).mono ?_; rintro e w9 ⟨rfl, rfl⟩) | (go_at_call 13; refine (saddr_t _ HAD).mono ?_; rintro e w9 ⟨rfl, rfl⟩))
                go_ret
                exact ⟨by rw [HV.out] <;> rfl, B1⟩
            · have hz2b : (ha == 0) = false := by simp [hz2]
              have hz2c : (ha != 0) = true := by simp [hz2]
              have hv : cmdB x 2 at9 on 0 ha = false := by unfold cmdB routeB placeB inB; simp [hfb, hz2]; try omega
              have HV := Lib.hid hv
              clear hv
              go_wp2_with (first | (go_at_call 13; refine (saddr0 _).mono ?_; rintro e w9 ⟨rfl, rfl⟩) | (go_at_call 13; refine (saddr_t _ HAD).mono ?_; rintro e w9 ⟨rfl, rfl⟩))
              go_ret
              exact ⟨by rw [HV.out] <;> rfl, B1⟩
          · have hz1b : (ad == 0) = false := by simp [hz1]
            have hz1c : (ad != 0) = true := by simp [hz1]
            have hv : cmdB x 2 at9 on ad ha = false := by unfold cmdB routeB placeB inB; simp [hfb, hz1]; try omega
            have HV := Lib.hid hv
            clear hv
            go_wp2_with (first | (go_at_call 13; refine (saddr0 _).mono ?_; rintro e w9 ⟨rfl, rfl⟩) | (go_at_call 13; refine (saddr_t _ HAD).mono ?_; rintro e w9 ⟨rfl, rfl⟩))
            go_ret
            exact ⟨by rw [HV.out] <;> rfl, B1⟩
        · clear hk0 hk5
          by_cases hz1 : ad = 0
          · subst hz1
            by_cases hz2 : ha = 0
            · subst hz2
              by_cases hlo : at9 ≥ 0
              · by_cases hhi : at9 < (x.links.length : Int)
                · have hv : cmdB x 3 at9 on 0 0 = true := by unfold cmdB routeB placeB inB; simp [hfb]; try omega
                  have HV := Lib.hid hv
                  clear hv
                  go_wp2_with (first | (go_at_call 13; refine (saddr0 _).mono ?_; rintro e w9 ⟨rfl, rfl⟩) | (go_at_call 13; refine (saddr_t _ HAD).mono ?_; rintro e w9 ⟨rfl, rfl⟩))
                  go_ret
                  exact ⟨by rw [HV.out] <;> rfl, B1⟩
                · have hv : cmdB x 3 at9 on 0 0 = false := by unfold cmdB routeB placeB inB; simp [hfb, hlo, hhi]; try omega
                  have HV := Lib.hid hv
                  clear hv
                  go_wp2_with (first | (go_at_call 13; refine (saddr0 _).mono ?_; rintro e w9 ⟨rfl, rfl⟩) | (go_at_call 13; refine (saddr_t _ HAD).mono ?_; rintro e w9 ⟨rfl, rfl⟩))
                  go_ret
                  exact ⟨by rw [HV.out] <;> first | rfl | (show Ending.returned (.bool (decide (at9 < (x.links.length : Int)))) = _; rw [decide_eq_false (by omega)]), B1⟩
              · have hlo2 : at9 < 0 := by omega
                have hv : cmdB x 3 at9 on 0 0 = false := by unfold cmdB routeB placeB inB; simp [hfb, hlo]; try omega
                have HV := Lib.hid hv
                clear hv
                go_wp2_with (first | (go_at_call 13; refine (saddr0 _).mono ?_; rintro e w9 ⟨rfl, rfl⟩) | (go_at_call 13; refine (saddr_t _ HAD).mono ?_; rintro e w9 ⟨rfl, rfl⟩))
                go_ret
                exact ⟨by rw [HV.out] <;> rfl, B1⟩
            · have hz2b : (ha == 0) = false := by simp [hz2]
              have hz2c : (ha != 0) = true := by simp [hz2]
              have hv : cmdB x 3 at9 on 0 ha = false := by unfold cmdB routeB placeB inB; simp [hfb, hz2]; try omega
              have HV := Lib.hid hv
              clear hv
              go_wp2_with (first | (go_at_call 13; refine (saddr0 _).mono ?_; rintro e w9 ⟨rfl, rfl⟩) | (go_at_call 13; refine (saddr_t _ HAD).mono ?_; rintro e w9 ⟨rfl, rfl⟩))
              go_ret
              exact ⟨by rw [HV.out] <;> rfl, B1⟩
          · have hz1b : (ad == 0) = false := by simp [hz1]
            have hz1c : (ad != 0) = true := by simp [hz1]
            have hv : cmdB x 3 at9 on ad ha = false := by unfold cmdB routeB placeB inB; simp [hfb, hz1]; try omega
            have HV := Lib.hid hv
            clear hv
            go_wp2_with (first | (go_at_call 13; refine (saddr0 _).mono ?_; rintro e w9 ⟨rfl, rfl⟩) | (go_at_call 13; refine (saddr_t _ HAD).mono ?_; rintro e w9 ⟨rfl, rfl⟩))
            go_ret
            exact ⟨by rw [HV.out] <;> rfl, B1⟩
        · clear hk0 hk5
          by_cases hz1 : ad = 0
          · subst hz1
            by_cases hz2 : ha = 0
            · subst hz2
              by_cases hz : at9 = 0
              · subst hz
                cases on
                · have hv : cmdB x 4 0 false 0 0 = true := by unfold cmdB routeB placeB inB; simp [hfb]; try omega
                  have HV := Lib.hid hv
                  clear hv
                  go_wp2_with (first | (go_at_call 13; refine (saddr0 _).mono ?_; rintro e w9 ⟨rfl, rfl⟩) | (go_at_call 13; refine (saddr_t _ HAD).mono ?_; rintro e w9 ⟨rfl, rfl⟩))
                  go_ret
                  exact ⟨by rw [HV.out] <;> rfl, B1⟩
                · have hv : cmdB x 4 0 true 0 0 = false := by unfold cmdB routeB placeB inB; simp [hfb]; try omega
                  have HV := Lib.hid hv
                  clear hv
                  go_wp2_with (first | (go_at_call 13; refine (saddr0 _).mono ?_; rintro e w9 ⟨rfl, rfl⟩) | (go_at_call 13; refine (saddr_t _ HAD).mono ?_; rintro e w9 ⟨rfl, rfl⟩))
                  go_ret
                  exact ⟨by rw [HV.out] <;> rfl, B1⟩
              · have hzb : (at9 == 0) = false := by simp [hz]
                have hv : cmdB x 4 at9 on 0 0 = false := by unfold cmdB routeB placeB inB; simp [hfb, hz]; try omega
                have HV := Lib.hid hv
                clear hv
                go_wp2_with (first | (go_at_call 13; refine (saddr0 _).mono ?_; rintro e w9 ⟨rfl, rfl⟩) | (go_at_call 13; refine (saddr_t _ HAD).mono ?_; rintro e w9 ⟨rfl, rfl⟩))
                go_ret
                exact ⟨by rw [HV.out] <;> rfl, B1⟩
            · have hz2b : (ha == 0) = false := by simp [hz2]
              have hz2c : (ha != 0) = true := by simp [hz2]
              have hv : cmdB x 4 at9 on 0 ha = false := by unfold cmdB routeB placeB inB; simp [hfb, hz2]; try omega
              have HV := Lib.hid hv
              clear hv
              go_wp2_with (first | (go_at_call 13; refine (saddr0 _).mono ?_; rintro e w9 ⟨rfl, rfl⟩) | (go_at_call 13; refine (saddr_t _ HAD).mono ?_; rintro e w9 ⟨rfl, rfl⟩))
              go_ret
              exact ⟨by rw [HV.out] <;> rfl, B1⟩
          · have hz1b : (ad == 0) = false := by simp [hz1]
            have hz1c : (ad != 0) = true := by simp [hz1]
            have hv : cmdB x 4 at9 on ad ha = false := by unfold cmdB routeB placeB inB; simp [hfb, hz1]; try omega
            have HV := Lib.hid hv
            clear hv
            go_wp2_with (first | (go_at_call 13; refine (saddr0 _).mono ?_; rintro e w9 ⟨rfl, rfl⟩) | (go_at_call 13; refine (saddr_t _ HAD).mono ?_; rintro e w9 ⟨rfl, rfl⟩))
            go_ret
            exact ⟨by rw [HV.out] <;> rfl, B1⟩
        · clear hk0 hk5
          cases hadr : addrB ad
          · have HAD := Lib.hid hadr
            have hv : cmdB x 5 at9 on ad ha = false := by unfold cmdB routeB placeB inB; simp [hfb, hadr]; try omega
            have HV := Lib.hid hv
            clear hv
            go_wp2_with (first | (go_at_call 13; refine (saddr0 _).mono ?_; rintro e w9 ⟨rfl, rfl⟩) | (go_at_call 13; refine (saddr_t _ HAD).mono ?_; rintro e w9 ⟨rfl, rfl⟩))
            go_ret
            exact ⟨by rw [HV.out] <;> rfl, B1⟩
          · have HAD := Lib.hid hadr
            by_cases h0 : ha < 0
            · have hv : cmdB x 5 at9 on ad ha = false := by unfold cmdB routeB placeB inB; simp [hfb, hadr, h0]; try omega
              have HV := Lib.hid hv
              clear hv
              go_wp2_with (first | (go_at_call 13; refine (saddr0 _).mono ?_; rintro e w9 ⟨rfl, rfl⟩) | (go_at_call 13; refine (saddr_t _ HAD).mono ?_; rintro e w9 ⟨rfl, rfl⟩))
              go_ret
              exact ⟨by rw [HV.out] <;> rfl, B1⟩
            · by_cases h1 : ha > 65535
              · have hv : cmdB x 5 at9 on ad ha = false := by unfold cmdB routeB placeB inB; simp [hfb, hadr, h1]; try omega
                have HV := Lib.hid hv
                clear hv
                go_wp2_with (first | (go_at_call 13; refine (saddr0 _).mono ?_; rintro e w9 ⟨rfl, rfl⟩) | (go_at_call 13; refine (saddr_t _ HAD).mono ?_; rintro e w9 ⟨rfl, rfl⟩))
                go_ret
                exact ⟨by rw [HV.out] <;> rfl, B1⟩
              · by_cases hlo : at9 ≥ 0
                · by_cases hhi : at9 < (x.nodes.length : Int)
                  · cases on
                    · have hv : cmdB x 5 at9 false ad ha = true := by unfold cmdB routeB placeB inB; simp [hfb, hadr]; try omega
                      have HV := Lib.hid hv
                      clear hv
                      go_wp2_with (first | (go_at_call 13; refine (saddr0 _).mono ?_; rintro e w9 ⟨rfl, rfl⟩) | (go_at_call 13; refine (saddr_t _ HAD).mono ?_; rintro e w9 ⟨rfl, rfl⟩))
                      go_ret
                      exact ⟨by rw [HV.out] <;> rfl, B1⟩
                    · have hv : cmdB x 5 at9 true ad ha = false := by unfold cmdB routeB placeB inB; simp [hfb, hadr]; try omega
                      have HV := Lib.hid hv
                      clear hv
                      go_wp2_with (first | (go_at_call 13; refine (saddr0 _).mono ?_; rintro e w9 ⟨rfl, rfl⟩) | (go_at_call 13; refine (saddr_t _ HAD).mono ?_; rintro e w9 ⟨rfl, rfl⟩))
                      go_ret
                      exact ⟨by rw [HV.out] <;> rfl, B1⟩
                  · have hv : cmdB x 5 at9 on ad ha = false := by unfold cmdB routeB placeB inB; simp [hfb, hadr, hlo, hhi]; try omega
                    have HV := Lib.hid hv
                    clear hv
                    go_wp2_with (first | (go_at_call 13; refine (saddr0 _).mono ?_; rintro e w9 ⟨rfl, rfl⟩) | (go_at_call 13; refine (saddr_t _ HAD).mono ?_; rintro e w9 ⟨rfl, rfl⟩))
                    go_ret
                    exact ⟨by rw [HV.out] <;> first | rfl | (show Ending.returned (.bool (decide (at9 < (x.nodes.length : Int)))) = _; rw [decide_eq_false (by omega)]), B1⟩
                · have hlo2 : at9 < 0 := by omega
                  have hv : cmdB x 5 at9 on ad ha = false := by unfold cmdB routeB placeB inB; simp [hfb, hadr, hlo]; try omega
                  have HV := Lib.hid hv
                  clear hv
                  go_wp2_with (first | (go_at_call 13; refine (saddr0 _).mono ?_; rintro e w9 ⟨rfl, rfl⟩) | (go_at_call 13; refine (saddr_t _ HAD).mono ?_; rintro e w9 ⟨rfl, rfl⟩))
                  go_ret
                  exact ⟨by rw [HV.out] <;> rfl, B1⟩
end Go.Proofs.YtkodnipmogdgkabGreat
