/-
  Attributes: what an argument that is one reads as; contracts of the laws' own functions that size, copy, compare, mark and ask them. Conditions: those in each contract.
-/
import Derived.Test.YtbcmoofpgffbhaaI1
import Derived.Test.YtbcmoofpgffbhaaG1
namespace Go.Proofs.Ytbcmoofpgffbhaa
open Go.ChangeShapes Go.WideShapes Go.ChangeAt Go.RowKit Go.BigFrame Go.Joins
set_option linter.unusedVariables false
set_option maxRecDepth 100000

def I64 (x : Int) : Prop := -9223372036854775808 ≤ x ∧ x ≤ 9223372036854775807
def Is_Attr (W : World) (v : Value) : Prop := ∃ (pv cv : Value) (p c : List Int) (pr bw : Int), v = .agg #[pv, .int .i64 pr, cv, .int .i64 bw] ∧ RdI W pv p ∧ RdI W cv c ∧ I64 pr ∧ I64 bw

section
variable {H : Type} {enc : TypeId × Value → H} {W : World} {base : Nat} {d : DataW H} {p : List MemPlace} {v : Value}
theorem rdI_trod {fuel : Nat} {y : DataW H × List MemPlace} (h : DataW.trod enc Try.prog W 0 (fun _ => true) true fuel 24 [v] = some y) : ∃ l, RdI W v l := by
  rcases open_ints Try.underlying24 Try.underlying3 (by kernel_rfl) h with ⟨hcs, _⟩ | ⟨x, len, cap, zs, hcs, _, hl, hm, hz, _, hc, hwf⟩
  · simp at hcs
    subst hcs
    exact ⟨[], by simp, by simp, .inl ⟨none, 0, rfl, rfl, fun _ => rfl⟩⟩
  · simp at hcs
    subst hcs
    simp at hz
    have hlen : (zs.take len).length = len := by simp; omega
    refine ⟨zs.take len, fun y hy => bounds_i64 (hwf y (List.mem_of_mem_take hy)), by omega, ?_⟩
    by_cases h0 : len = 0
    · subst h0
      exact .inl ⟨some x, cap, by simp, by simp, fun h => by cases h⟩
    · obtain ⟨b, off, spot⟩ := x
      have hspot : spot = none := by
        have h1 := hc 0 (by omega)
        simpa [Addr.add] using World.cell?_spot h1
      subst hspot
      refine .inr ⟨b, off, cap, by rw [hlen], by omega, fun i hi => ?_⟩
      rw [hlen] at hi
      have h1 := hc i (by omega)
      have e1 : (zs.take len).getD i 0 = zs.getD i 0 := by simp [List.getD, hi]
      rw [e1]
      have hadd : (⟨b, off, none⟩ : Addr).add i = ⟨b, off + i, none⟩ := by unfold Addr.add; split <;> simp_all
      rw [hadd] at h1
      exact h1
theorem cellsA : Try.prog.cellsOf 159 = 4 := by kernel_rfl
theorem is_Attr (hv : Value.okWide Try.prog W .any base 159 v) (h : DataW.Trod enc Try.prog W 0 (fun _ => true) true 159 v d p) : Is_Attr W v := by
  obtain ⟨c0, c1, c2, c3, y0, y1, y2, y3, m, rfl, rfl, rfl, hy0, hy1, hy2, hy3⟩ := open_agg4 Try.underlying159 (by kernel_rfl) cellsA hv h
  obtain ⟨l0, h0⟩ := rdI_trod hy0
  obtain ⟨a, e1, rfl, wa⟩ := DataW.trod_int Try.underlying3 hy1
  obtain ⟨l2, h2⟩ := rdI_trod hy2
  obtain ⟨b, e3, rfl, wb⟩ := DataW.trod_int Try.underlying3 hy3
  simp at e1 e3
  subst e1 e3
  exact ⟨c0, c2, l0, l2, a, b, rfl, h0, h2, bounds_i64 wa, bounds_i64 wb⟩
end

/-- the cells of a struct of four fields in a new block -/
theorem box4 (w : World) (u0 u1 u2 u3 : Value) (T : TypeId) : (w.alloc (.cells #[u0, u1, u2, u3] T)).cell? ⟨w.heap.size, 0, none⟩ = some u0 ∧ (w.alloc (.cells #[u0, u1, u2, u3] T)).cell? ⟨w.heap.size, 1, none⟩ = some u1 ∧ (w.alloc (.cells #[u0, u1, u2, u3] T)).cell? ⟨w.heap.size, 2, none⟩ = some u2 ∧ (w.alloc (.cells #[u0, u1, u2, u3] T)).cell? ⟨w.heap.size, 3, none⟩ = some u3 ∧ w.heap.size < (w.alloc (.cells #[u0, u1, u2, u3] T)).heap.size ∧ Below w.heap.size w (w.alloc (.cells #[u0, u1, u2, u3] T)) :=
  ⟨by simp, by simp, by simp, by simp, by simp, (Below.refl _ _).alloc (Nat.le_refl _) _⟩
theorem RdI.alloc {w : World} {v : Value} {l : List Int} (h : RdI w v l) (o : Obj) : RdI (w.alloc o) v l := h.keep ((Below.refl _ _).alloc (Nat.le_refl _) _)
theorem rdI_over {V w : World} {v : Value} {l : List Int} (h : RdI V v l) (o : Over V w) : RdI w v l := h.keep o
theorem OwnI.alloc {w : World} {base : Nat} {v : Value} {l : List Int} (h : OwnI w base v l) (o : Obj) : OwnI (w.alloc o) base v l := h.keep ((Below.refl _ _).alloc (Nat.le_refl _) _)
theorem OwnI.kept {w w' : World} {base : Nat} {v : Value} {l : List Int} {row : Option Nat} (h : OwnI w base v l) (hg : w.grownBy w' row) (hne : v.ownBlock = none ∨ v.ownBlock ≠ row) : OwnI w' base v l := World.ownsRow.kept h hg hne
/-- two rows apart -/
def Apart (v u : Value) : Prop := (v.ownBlock = none ∨ v.ownBlock ≠ u.ownBlock) ∧ (u.ownBlock = none ∨ u.ownBlock ≠ v.ownBlock)
theorem Apart.symm {v u : Value} (h : Apart v u) : Apart u v := ⟨h.2, h.1⟩
theorem apartI {w w' : World} {b1 b2 : Nat} {v u : Value} {l m : List Int} (h1 : OwnI w b1 v l) (h2 : OwnI w' b2 u m) (h : w.heap.size ≤ b2) : Apart v u := by
  have a : v.ownBlock = none ∨ v.ownBlock ≠ u.ownBlock := by
    cases hv : v.ownBlock with
    | none => exact .inl rfl
    | some k =>
      refine .inr (fun e => ?_)
      have a1 := (World.ownsRow.lt h1 k hv).2
      have a2 := (World.ownsRow.lt h2 k e.symm).1
      omega
  refine ⟨a, ?_⟩
  rcases a with h0 | h0
  · cases hu : u.ownBlock with
    | none => exact .inl rfl
    | some k => exact .inr (by rw [h0]; simp)
  · exact .inr (Ne.symm h0)
theorem over_grownI {V w w' : World} {v : Value} {l : List Int} {base : Nat} (h : Over V w) (ho : OwnI w base v l) (hb : V.heap.size ≤ base) (hg : w.grownBy w' v.ownBlock) : Over V w' :=
  Below.grown h hg h.size (fun k hk => Nat.le_trans hb (World.ownsRow.lt ho k hk).1)
/-- a fresh copy -/
def NewI (w : World) (l : List Int) (e : Ending) (w' : World) : Prop := ∃ a c, e = .returned (.slice a l.length c) ∧ OwnI w' w.heap.size (.slice a l.length c) l ∧ Below w.heap.size w w'
theorem OwnI.len {w : World} {base : Nat} {v : Value} {l : List Int} (h : OwnI w base v l) : ∃ a c, v = .slice a l.length c := by
  unfold OwnI at h
  rcases h.2 with ⟨rfl, hn⟩ | ⟨g, cap, cur, rfl, hb, hg, hnc, hcm, hcs, htake⟩
  · exact ⟨none, 0, by rw [hn]⟩
  · exact ⟨_, cap, rfl⟩
theorem toI_new (v : Value) (l : List Int) (w : World) (h : RdI w v l) (hn : l.length ≤ 1048576) : Calls Try.prog 195 #[v] w (NewI w l) :=
  (toB_any_I v l w h hn).mono fun _ _ ⟨he, ho, hb⟩ => ⟨_, _, he, ho, hb⟩
theorem eqI_same (v u : Value) (l : List Int) (w : World) (h1 : RdI w v l) (h2 : RdI w u l) :
    Calls Try.prog 117 #[v, u] w fun e w' => e = .returned (.bool true) ∧ Below w.heap.size w w' :=
  (eqB_any_I v u l l w h1 h2).mono fun _ _ ⟨he, hb⟩ => ⟨by rw [he]; simp, hb⟩

/-- how much room is left -/
def szN (left n : Int) : Int := if left < n then -1 else left - n
theorem szN_lt {left n : Int} (h : left < n) : szN left n = -1 := by simp [szN, h]
theorem szN_ge {left n : Int} (h : ¬ left < n) : szN left n = left - n := by simp [szN, h]
theorem szI_any (v : Value) (l : List Int) (left : Int) (w : World) (h : RdI w v l) (h0 : 0 ≤ left) (h1 : left ≤ 1048576) :
    Calls Try.prog 194 #[v, .int .i64 left] w fun e w' => e = .returned (.int .i64 (szN left l.length)) ∧ w = w' := by
  obtain ⟨a, c, rfl⟩ := h.len
  have hm := h.2.1
  unfold maxLen at hm
  clear h
  obtain ⟨n, hn⟩ : ∃ n, l.length = n := ⟨_, rfl⟩
  rw [hn] at hm ⊢
  clear hn
  by_cases hlt : left < n
  · rw [szN_lt hlt]
    go_enter Try.func194, Try.ntmps194
    go_wp2
    go_ret
    exact ⟨rfl, rfl⟩
  · rw [szN_ge hlt]
    go_enter Try.func194, Try.ntmps194
    go_wp2
    go_ret
    exact ⟨rfl, rfl⟩
/-- the size of an attribute -/
def szA (left : Int) (p c : List Int) : Int := if left < p.length then -1 else szN (left - p.length) c.length
theorem szA_p {p c : List Int} (h : ¬ szA 1048576 p c < 0) : p.length ≤ 1048576 := by
  unfold szA at h
  split at h
  · exact absurd (by decide) h
  · omega
theorem szA_c {p c : List Int} (h : ¬ szA 1048576 p c < 0) : c.length ≤ 1048576 := by
  unfold szA szN at h
  split at h
  · exact absurd (by decide) h
  · split at h
    · exact absurd (by decide) h
    · omega
theorem szA_any (pv cv : Value) (p c : List Int) (pr bw left : Int) (w : World) (hp : RdI w pv p) (hc : RdI w cv c) (h0 : 0 ≤ left) (h1 : left ≤ 1048576) :
    Calls Try.prog 165 #[.agg #[pv, .int .i64 pr, cv, .int .i64 bw], .int .i64 left] w fun e w' => e = .returned (.int .i64 (szA left p c)) ∧ Below w.heap.size w w' := by
  obtain ⟨c0, c1, c2, c3, lt, B0⟩ := box4 w pv (.int .i64 pr) cv (.int .i64 bw) 159
  have hp1 := hp.alloc (.cells #[pv, .int .i64 pr, cv, .int .i64 bw] 159)
  have hc1 := hc.alloc (.cells #[pv, .int .i64 pr, cv, .int .i64 bw] 159)
  by_cases hlt : left < p.length
  · have e : szA left p c = -1 := by simp [szA, hlt]
    rw [e]
    have e2 := szN_lt hlt
    have HE := Lib.hid e2
    clear e hlt e2
    go_enter Try.func165, Try.ntmps165
    go_wp2_with fail
    refine (szI_any _ p _ _ hp1 h0 h1).mono ?_
    rintro e w1 ⟨rfl, rfl⟩
    rw [HE.out]
    go_wp2
    go_ret
    exact ⟨rfl, B0⟩
  · have hge : 0 ≤ left - p.length := by omega
    have e2 := szN_ge hlt
    have HE := Lib.hid e2
    have hle : left - p.length ≤ 1048576 := by omega
    have e : szA left p c = szN (left - p.length) c.length := by simp [szA, hlt]
    rw [e]
    clear e e2 hlt
    obtain ⟨m, hm⟩ : ∃ m : Int, left - p.length = m := ⟨_, rfl⟩
    rw [hm] at hge hle ⊢
    have HM := Lib.hid hm
    clear hm
    by_cases hlt : m < c.length
    · have e3 := szN_lt hlt
      have HF := Lib.hid e3
      rw [e3]
      clear e3 hlt
      go_enter Try.func165, Try.ntmps165
      go_wp2_with fail
      refine (szI_any _ p _ _ hp1 h0 h1).mono ?_
      rintro e w1 ⟨rfl, rfl⟩
      rw [HE.out, HM.out]
      go_wp2_with fail
      refine (szI_any _ c _ _ hc1 hge hle).mono ?_
      rintro e w1 ⟨rfl, rfl⟩
      rw [HF.out]
      go_wp2
      go_ret
      exact ⟨rfl, B0⟩
    · have e3 := szN_ge hlt
      have HF := Lib.hid e3
      have hg2 : 0 ≤ m - c.length := by omega
      rw [e3]
      clear e3 hlt
      obtain ⟨k, hk⟩ : ∃ k : Int, m - c.length = k := ⟨_, rfl⟩
      rw [hk] at hg2 ⊢
      have HK := Lib.hid hk
      clear hk
      go_enter Try.func165, Try.ntmps165
      go_wp2_with fail
      refine (szI_any _ p _ _ hp1 h0 h1).mono ?_
      rintro e w1 ⟨rfl, rfl⟩
      rw [HE.out, HM.out]
      go_wp2_with fail
      refine (szI_any _ c _ _ hc1 hge hle).mono ?_
      rintro e w1 ⟨rfl, rfl⟩
      rw [HF.out, HK.out]
      go_wp2
      go_ret
      exact ⟨rfl, B0⟩
/-- a fresh attribute: two rows of its own, apart -/
def NewA (w : World) (p : List Int) (pr : Int) (c : List Int) (bw : Int) (e : Ending) (w' : World) : Prop :=
  ∃ a d b f, e = .returned (.agg #[.slice a p.length d, .int .i64 pr, .slice b c.length f, .int .i64 bw]) ∧ OwnI w' w.heap.size (.slice a p.length d) p ∧ OwnI w' w.heap.size (.slice b c.length f) c ∧ Apart (.slice a p.length d) (.slice b c.length f) ∧ Below w.heap.size w w'
theorem OwnI.far {w : World} {base : Nat} {v u : Value} {l : List Int} {B o : Nat} (h : OwnI w base v l) (hB : B < base) : OwnI (w.setCell ⟨B, o, none⟩ u) base v l :=
  h.kept (grown_set w B o u) (by
    cases hv : v.ownBlock with
    | none => exact .inl rfl
    | some k => exact .inr (by have := (World.ownsRow.lt h k hv).1; intro e; cases e; omega))
theorem toA_any (pv cv : Value) (p c : List Int) (pr bw : Int) (w : World) (hp : RdI w pv p) (hc : RdI w cv c) (h0 : p.length ≤ 1048576) (h1 : c.length ≤ 1048576) :
    Calls Try.prog 167 #[.agg #[pv, .int .i64 pr, cv, .int .i64 bw]] w (NewA w p pr c bw) := by
  have bA := Bx.new w pv (.int .i64 pr) cv (.int .i64 bw) 159 w.heap.size rfl
  have B1 : Below w.heap.size w (w.alloc (.cells #[pv, .int .i64 pr, cv, .int .i64 bw] 159)) := (Below.refl _ _).alloc (Nat.le_refl _) _
  have z0 : (w.alloc (.cells #[pv, .int .i64 pr, cv, .int .i64 bw] 159)).heap.size = w.heap.size + 1 := by simp
  have bR := Bx.new (w.alloc (.cells #[pv, .int .i64 pr, cv, .int .i64 bw] 159)) (.slice none 0 0) (.int .i64 0) (.slice none 0 0) (.int .i64 0) 26 (w.heap.size + 1) z0.symm
  replace bA := bA.alloc (.cells #[.slice none 0 0, .int .i64 0, .slice none 0 0, .int .i64 0] 26)
  have z1 : ((w.alloc (.cells #[pv, .int .i64 pr, cv, .int .i64 bw] 159)).alloc (.cells #[.slice none 0 0, .int .i64 0, .slice none 0 0, .int .i64 0] 26)).heap.size = w.heap.size + 2 := by simp
  replace B1 := B1.alloc (by rw [z0]; omega) (.cells #[.slice none 0 0, .int .i64 0, .slice none 0 0, .int .i64 0] 26)
  have bO := Bx.new ((w.alloc (.cells #[pv, .int .i64 pr, cv, .int .i64 bw] 159)).alloc (.cells #[.slice none 0 0, .int .i64 0, .slice none 0 0, .int .i64 0] 26)) (.slice none 0 0) (.int .i64 0) (.slice none 0 0) (.int .i64 0) 26 (w.heap.size + 1 + 1) z1.symm
  replace bA := bA.alloc (.cells #[.slice none 0 0, .int .i64 0, .slice none 0 0, .int .i64 0] 26)
  replace bR := bR.alloc (.cells #[.slice none 0 0, .int .i64 0, .slice none 0 0, .int .i64 0] 26)
  replace B1 := B1.alloc (by rw [z1]; omega) (.cells #[.slice none 0 0, .int .i64 0, .slice none 0 0, .int .i64 0] 26)
  have z2 : (((w.alloc (.cells #[pv, .int .i64 pr, cv, .int .i64 bw] 159)).alloc (.cells #[.slice none 0 0, .int .i64 0, .slice none 0 0, .int .i64 0] 26)).alloc (.cells #[.slice none 0 0, .int .i64 0, .slice none 0 0, .int .i64 0] 26)).heap.size = w.heap.size + 3 := by simp
  have hp1 := hp.keep B1
  clear z0 z1
  go_enter Try.func167, Try.ntmps167
  go_wp2_with fail
  refine (toI_new _ p _ hp1 h0).mono ?_
  rintro e w1 ⟨ua, uc, rfl, ho, hb⟩
  replace bA := bA.keep hb
  replace bR := bR.keep hb
  replace bO := bO.keep hb
  have hs := hb.size
  replace B1 := B1.trans (hb.mono (by omega))
  rw [z2] at ho hs
  clear z2 hb hp1
  have B2 := fun O (h : w.heap.size ≤ O) => (B1.setCell (p := ⟨O, 0, none⟩) h (.slice ua p.length uc)).setCell (p := ⟨O, 1, none⟩) h (.int .i64 pr)
  have hc2 := fun O h => hc.keep (B2 O h)
  obtain ⟨B, hB⟩ : ∃ B, B = w.heap.size := ⟨_, rfl⟩
  obtain ⟨R, hR⟩ : ∃ R, R = w.heap.size + 1 := ⟨_, rfl⟩
  obtain ⟨O, hO⟩ : ∃ O, O = w.heap.size + 1 + 1 := ⟨_, rfl⟩
  rw [← hB] at bA
  rw [← hR] at bR
  rw [← hO] at bO
  rw [← hO, ← hR, ← hB]
  have hO3 : O < w.heap.size + 3 := by omega
  have hRO : R ≠ O := by omega
  have hR3 : R < w.heap.size + 3 := by omega
  have hBO : B ≠ O := by omega
  have hBR : B ≠ R := by omega
  have hOR : O ≠ R := by omega
  have hwO : w.heap.size ≤ O := by omega
  have hwR : w.heap.size ≤ R := by omega
  clear hB hR hO
  have a0 := bA.c0
  have a1 := bA.c1
  have a2 := bA.c2
  have a3 := bA.c3
  have o0 := bO.c0
  have o1 := bO.c1
  have o2 := bO.c2
  have o3 := bO.c3
  have of0 := bO.f0
  have of1 := bO.f1
  have of2 := bO.f2
  have of3 := bO.f3
  go_wp2_with fail
  clear a0 a1 a2 a3 o0 o1 o2 o3 of0 of1 of2 of3
  replace hc2 := hc2 O hwO
  replace B2 := B2 O hwO
  replace bO := (bO.set0 (u := .slice ua p.length uc)).set1 (u := .int .i64 pr)
  replace bA := (bA.far (o := 0) (u := .slice ua p.length uc) hBO).far (o := 1) (u := .int .i64 pr) hBO
  replace bR := (bR.far (o := 0) (u := .slice ua p.length uc) hRO).far (o := 1) (u := .int .i64 pr) hRO
  replace ho := (ho.far (o := 0) (u := .slice ua p.length uc) hO3).far (o := 1) (u := .int .i64 pr) hO3
  clear B1
  refine (toI_new _ c _ hc2 h1).mono ?_
  rintro e w2 ⟨va, vc, rfl, hq, hb⟩
  have hap := apartI ho hq (Nat.le_refl _)
  have hs2 := (grown_set (w1.setCell ⟨O, 0, none⟩ (.slice ua p.length uc)) O 1 (.int .i64 pr)).size
  have hs3 := (grown_set w1 O 0 (.slice ua p.length uc)).size
  replace bA := bA.keep hb
  replace bR := bR.keep hb
  replace bO := bO.keep hb
  replace ho := ho.keep hb
  replace B2 := below_step B2 hb
  replace hq := hq.mono (Nat.le_trans hs (Nat.le_trans hs3 hs2))
  clear hb hc2 hs hs2 hs3
  have a0 := bA.c0
  have a1 := bA.c1
  have a2 := bA.c2
  have a3 := bA.c3
  have o0 := bO.c0
  have o1 := bO.c1
  have o2 := bO.c2
  have o3 := bO.c3
  have of0 := bO.f0
  have of1 := bO.f1
  have of2 := bO.f2
  have of3 := bO.f3
  have r0 := bR.c0
  have r1 := bR.c1
  have r2 := bR.c2
  have r3 := bR.c3
  have rf0 := bR.f0
  have rf1 := bR.f1
  have rf2 := bR.f2
  have rf3 := bR.f3
  go_wp2_with fail
  have bE := ((bR.far (o := 2) (u := .slice va c.length vc) hRO).far (o := 3) (u := .int .i64 bw) hRO).all (y0 := .slice ua p.length uc) (y1 := .int .i64 pr) (y2 := .slice va c.length vc) (y3 := .int .i64 bw)
  have e0 := bE.c0
  have e1 := bE.c1
  have e2 := bE.c2
  have e3 := bE.c3
  refine bodyPost_ret (v := .agg #[.slice ua p.length uc, .int .i64 pr, .slice va c.length vc, .int .i64 bw]) (by simp [results, Try.results167, go_sem, e0, e1, e2, e3]) rfl
    ⟨ua, uc, va, vc, rfl, OwnI.mono (((((((ho).far (o := 2) hO3).far (o := 3) hO3).far (o := 0) hR3).far (o := 1) hR3).far (o := 2) hR3).far (o := 3) hR3) (by omega), OwnI.mono (((((((hq).far (o := 2) hO3).far (o := 3) hO3).far (o := 0) hR3).far (o := 1) hR3).far (o := 2) hR3).far (o := 3) hR3) (by omega), hap, ((((((B2).setCell (p := ⟨O, 2, none⟩) hwO _).setCell (p := ⟨O, 3, none⟩) hwO _).setCell (p := ⟨R, 0, none⟩) hwR _).setCell (p := ⟨R, 1, none⟩) hwR _).setCell (p := ⟨R, 2, none⟩) hwR _).setCell (p := ⟨R, 3, none⟩) hwR _⟩
/-- the two attributes read alike -/
theorem eqA_same (pv cv qv dv : Value) (p c : List Int) (pr bw : Int) (w : World) (hp : RdI w pv p) (hc : RdI w cv c) (hq : RdI w qv p) (hd : RdI w dv c) :
    Calls Try.prog 57 #[.agg #[pv, .int .i64 pr, cv, .int .i64 bw], .agg #[qv, .int .i64 pr, dv, .int .i64 bw]] w fun e w' => e = .returned (.bool true) ∧ Below w.heap.size w w' := by
  have bA := Bx.new w pv (.int .i64 pr) cv (.int .i64 bw) 26 w.heap.size rfl
  have z0 : (w.alloc (.cells #[pv, .int .i64 pr, cv, .int .i64 bw] 26)).heap.size = w.heap.size + 1 := by simp
  have bB := Bx.new (w.alloc (.cells #[pv, .int .i64 pr, cv, .int .i64 bw] 26)) qv (.int .i64 pr) dv (.int .i64 bw) 26 (w.heap.size + 1) z0.symm
  replace bA := bA.alloc (.cells #[qv, .int .i64 pr, dv, .int .i64 bw] 26)
  have B1 : Below w.heap.size w ((w.alloc (.cells #[pv, .int .i64 pr, cv, .int .i64 bw] 26)).alloc (.cells #[qv, .int .i64 pr, dv, .int .i64 bw] 26)) := ((Below.refl _ _).alloc (Nat.le_refl _) _).alloc (by rw [z0]; omega) _
  have hp1 := hp.keep B1
  have hq1 := hq.keep B1
  clear z0
  have ha : (pr != pr) = false := by simp
  have hn : (bw != bw) = false := by simp
  go_enter Try.func57, Try.ntmps57
  go_wp2_with fail
  refine (eqI_same _ _ p _ hp1 hq1).mono ?_
  rintro e w1 ⟨rfl, hb⟩
  replace bA := bA.keep hb
  replace bB := bB.keep hb
  replace B1 := below_step B1 hb
  clear hb
  have a1 := bA.c1
  have a2 := bA.c2
  have a3 := bA.c3
  have b1 := bB.c1
  have b2 := bB.c2
  have b3 := bB.c3
  go_wp2_with fail
  refine (eqI_same _ _ c _ (hc.keep B1) (hd.keep B1)).mono ?_
  rintro e w2 ⟨rfl, hb⟩
  replace bA := bA.keep hb
  replace bB := bB.keep hb
  replace B1 := below_step B1 hb
  clear hb a1 a2 a3 b1 b2 b3
  have a3 := bA.c3
  have b3 := bB.c3
  go_wp2
  go_ret
  exact ⟨rfl, B1⟩
/-- the rows of an attribute are marked -/
theorem markA_any (pv cv : Value) (p c : List Int) (pr bw k : Int) (base : Nat) (w : World) (hp : OwnI w base pv p) (hc : OwnI w base cv c) (hap : Apart pv cv) (hb : base ≤ w.heap.size) (hk0 : 0 ≤ k) (hk : k + p.length + c.length ≤ 4294967296) :
    Calls Try.prog 58 #[.agg #[pv, .int .i64 pr, cv, .int .i64 bw], .int .i64 k] w fun e w' => e = .returned (.int .i64 (k + p.length + c.length)) ∧
      OwnI w' base pv (imarks k p.length) ∧ OwnI w' base cv (imarks (k + p.length) c.length) ∧ Below base w w' ∧
      (∀ (b : Nat) (v : Value) (l : List Int), OwnI w b v l → Apart v pv → Apart v cv → OwnI w' b v l) ∧
      (∀ (B : Nat) (x0 x1 x2 x3 : Value), Bx w B x0 x1 x2 x3 → (pv.ownBlock = none ∨ pv.ownBlock ≠ some B) → (cv.ownBlock = none ∨ cv.ownBlock ≠ some B) → Bx w' B x0 x1 x2 x3) := by
  have notB : ∀ {v : Value} {B : Nat}, (v.ownBlock = none ∨ v.ownBlock ≠ some B) → some B ≠ v.ownBlock := fun h e => by
    rcases h with h | h
    · rw [h] at e; cases e
    · exact h e.symm
  have K1 : ∀ (b : Nat) (v : Value) (l : List Int), OwnI w b v l → OwnI (w.alloc (.cells #[pv, .int .i64 pr, cv, .int .i64 bw] 26)) b v l := fun b v l h => h.alloc _
  have K2 : ∀ (B : Nat) (x0 x1 x2 x3 : Value), Bx w B x0 x1 x2 x3 → Bx (w.alloc (.cells #[pv, .int .i64 pr, cv, .int .i64 bw] 26)) B x0 x1 x2 x3 := fun B x0 x1 x2 x3 h => h.alloc _
  have bA := Bx.new w pv (.int .i64 pr) cv (.int .i64 bw) 26 w.heap.size rfl
  have hp1 := hp.alloc (.cells #[pv, .int .i64 pr, cv, .int .i64 bw] 26)
  have hc1 := hc.alloc (.cells #[pv, .int .i64 pr, cv, .int .i64 bw] 26)
  have B1 : Below base w (w.alloc (.cells #[pv, .int .i64 pr, cv, .int .i64 bw] 26)) := (Below.refl _ _).alloc hb _
  have hbs : base ≤ (w.alloc (.cells #[pv, .int .i64 pr, cv, .int .i64 bw] 26)).heap.size := by simp; omega
  have hpl := fun k h => (World.ownsRow.lt hp k h)
  have hcl := fun k h => (World.ownsRow.lt hc k h)
  go_enter Try.func58, Try.ntmps58
  go_wp2_with fail
  refine (markB_any_I _ p base _ _ hp1 hk0 (by omega)).mono ?_
  rintro e w1 ⟨rfl, hp2, hg⟩
  replace hc1 := hc1.kept hg hap.2
  have K3 : ∀ (b : Nat) (v : Value) (l : List Int), OwnI w b v l → Apart v pv → OwnI w1 b v l := fun b v l h a => (K1 b v l h).kept hg a.1
  have K4 : ∀ (B : Nat) (x0 x1 x2 x3 : Value), Bx w B x0 x1 x2 x3 → (pv.ownBlock = none ∨ pv.ownBlock ≠ some B) → Bx w1 B x0 x1 x2 x3 := fun B x0 x1 x2 x3 h a => (K2 B x0 x1 x2 x3 h).grown hg (notB a)
  clear K1 K2
  replace bA := bA.grown hg (fun h => by have := (hpl _ h.symm).2; omega)
  replace B1 := Below.grown B1 hg hbs (fun k hk => (hpl k hk).1)
  have hs := hg.size
  clear hg hp1
  have a2 := bA.c2
  go_wp2_with fail
  refine (markB_any_I _ c base _ _ hc1 (by omega) (by omega)).mono ?_
  rintro e w2 ⟨rfl, hc2, hg⟩
  replace hp2 := hp2.kept hg hap.1
  have K5 : ∀ (b : Nat) (v : Value) (l : List Int), OwnI w b v l → Apart v pv → Apart v cv → OwnI w2 b v l := fun b v l h a a' => (K3 b v l h a).kept hg a'.1
  have K6 : ∀ (B : Nat) (x0 x1 x2 x3 : Value), Bx w B x0 x1 x2 x3 → (pv.ownBlock = none ∨ pv.ownBlock ≠ some B) → (cv.ownBlock = none ∨ cv.ownBlock ≠ some B) → Bx w2 B x0 x1 x2 x3 := fun B x0 x1 x2 x3 h a a' => (K4 B x0 x1 x2 x3 h a).grown hg (notB a')
  clear K3 K4
  replace B1 := Below.grown B1 hg (Nat.le_trans hbs hs) (fun k hk => (hcl k hk).1)
  clear hg hc1 a2 bA
  have HK := Lib.hid (And.intro K5 K6)
  clear K5 K6
  go_wp2
  go_ret
  exact ⟨rfl, hp2, hc2, B1, HK.out.1, HK.out.2⟩
/-- asked: the marks -/
theorem heldA_any (pv cv : Value) (n m : Nat) (pr bw k : Int) (w : World) (hp : RdI w pv (imarks k n)) (hc : RdI w cv (imarks (k + n) m)) (hk0 : 0 ≤ k) (hk : k + n + m ≤ 4294967296) :
    Calls Try.prog 59 #[.agg #[pv, .int .i64 pr, cv, .int .i64 bw], .int .i64 k] w fun e w' => e = .returned (.int .i64 (k + n + m)) ∧ Below w.heap.size w w' := by
  have bA := Bx.new w pv (.int .i64 pr) cv (.int .i64 bw) 26 w.heap.size rfl
  have hp1 := hp.alloc (.cells #[pv, .int .i64 pr, cv, .int .i64 bw] 26)
  have hc1 := hc.alloc (.cells #[pv, .int .i64 pr, cv, .int .i64 bw] 26)
  have B1 : Below w.heap.size w (w.alloc (.cells #[pv, .int .i64 pr, cv, .int .i64 bw] 26)) := (Below.refl _ _).alloc (Nat.le_refl _) _
  go_enter Try.func59, Try.ntmps59
  go_wp2_with fail
  refine (heldB_any_I _ _ n _ hp1 hk0 (by omega)).mono ?_
  rintro e w1 ⟨rfl, hb⟩
  replace bA := bA.keep hb
  replace hc1 := hc1.keep hb
  replace B1 := below_step B1 hb
  clear hb hp1
  have a2 := bA.c2
  go_wp2_with fail
  refine (heldB_any_I _ _ m _ hc1 (by omega) (by omega)).mono ?_
  rintro e w2 ⟨rfl, hb⟩
  replace B1 := below_step B1 hb
  clear hb hc1 a2 bA
  go_wp2
  go_ret
  exact ⟨rfl, B1⟩
end Go.Proofs.Ytbcmoofpgffbhaa
