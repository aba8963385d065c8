/-
  Streams: what an argument that is one reads as; contracts of the laws' own functions on streams; contracts of StreamOk of the program and of the model. Conditions: those in each contract.
-/
import Derived.Test.YthecdnfloahoaaaG2
import Derived.Test.YthecdnfloahoaaaK1
namespace Go.Proofs.Ythecdnfloahoaaa
open Go.ChangeShapes Go.WideShapes Go.ChangeAt Go.RowKit Go.BigFrame Go.Joins
set_option linter.unusedVariables false
set_option maxRecDepth 100000
set_option linter.unusedSimpArgs false

def Is_Stream (W : World) (v : Value) : Prop := ∃ (u : Value) (l : List Int), v = .agg #[u] ∧ Rd W u l
section
variable {H : Type} {enc : TypeId × Value → H} {W : World} {base : Nat} {d : DataW H} {p : List MemPlace} {v : Value}
theorem rd_trod {fuel : Nat} {y : DataW H × List MemPlace} (h : DataW.trod enc Try.prog W 0 (fun _ => true) true fuel 22 [v] = some y) : ∃ l, Rd W v l := by
  rcases open_ints Try.underlying22 Try.underlying5 (by kernel_rfl) h with ⟨hcs, _⟩ | ⟨x, len, cap, zs, hcs, _, hl, hm, hz, _, hc, hwf⟩
  · simp at hcs
    subst hcs
    exact ⟨[], by simp, by simp, .inl ⟨none, 0, rfl, rfl, fun _ => rfl⟩⟩
  · simp at hcs
    subst hcs
    exact Is_bytes.rd (.inr ⟨_, _, _, zs, rfl, hl, hm, by simpa using hz, hc, hwf⟩)
theorem cellsSt : Try.prog.cellsOf 60 = 1 := by kernel_rfl
theorem is_Stream (hv : Value.okWide Try.prog W .any base 60 v) (h : DataW.Trod enc Try.prog W 0 (fun _ => true) true 60 v d p) : Is_Stream W v := by
  obtain ⟨cs, rfl, hsz⟩ := okWide_struct Try.underlying60 hv
  rw [cellsSt] at hsz
  obtain ⟨c0, rfl⟩ : ∃ c0, cs = #[c0] := by
    obtain ⟨l⟩ := cs
    match l, hsz with
    | [c0], _ => exact ⟨c0, rfl⟩
  obtain ⟨fuel, hf⟩ := h
  obtain ⟨xs, n, _, hx, hl, hlen, hf⟩ := DataW.trod_struct Try.underlying60 hf
  have h0 := hf 0 _ rfl
  match xs, hlen with
  | [y0], _ =>
    obtain ⟨l, hl⟩ := rd_trod (W := W) (v := c0) (fuel := n) (y := y0) (by simpa [Value.cells, show Try.prog.cellsOf 22 = 1 by kernel_rfl] using h0)
    exact ⟨c0, l, rfl, hl⟩
end
theorem szB_any (v : Value) (l : List Int) (left : Int) (w : World) (h : Rd w v l) (h0 : 0 ≤ left) (h1 : left ≤ 1048576) :
    Calls Try.prog 70 #[v, .int .i64 left] w fun e w' => e = .returned (.int .i64 (szN left l.length)) ∧ w = w' := by
  obtain ⟨a, c, rfl⟩ := h.len
  have hm := h.2.1
  unfold maxLen at hm
  clear h
  obtain ⟨n, hn⟩ : ∃ n, l.length = n := ⟨_, rfl⟩
  rw [hn] at hm ⊢
  clear hn
  by_cases hlt : left < n
  · rw [szN_lt hlt]
    go_enter Try.func70, Try.ntmps70
    go_wp2
    go_ret
    exact ⟨rfl, rfl⟩
  · rw [szN_ge hlt]
    go_enter Try.func70, Try.ntmps70
    go_wp2
    go_ret
    exact ⟨rfl, rfl⟩
theorem szN_le {left n : Nat} (h : n ≤ left) : szN left n = ((left - n : Nat) : Int) := by
  unfold szN
  rw [if_neg (by omega)]
  omega
theorem szS_any (v : Value) (l : List Int) (w : World) (h : Rd w v l) :
    Calls Try.prog 38 #[.agg #[v], .int .i64 1048576] w fun e w' => e = .returned (.int .i64 (szN 1048576 l.length)) ∧ Below w.heap.size w w' := by
  have h1 := h.alloc (.cells #[v] 60)
  have B0 : Below w.heap.size w (w.alloc (.cells #[v] 60)) := (Below.refl _ _).alloc (Nat.le_refl _) _
  by_cases hlt : (1048576 : Int) < l.length
  · have e2 := szN_lt hlt
    rw [e2]
    have HE := Lib.hid e2
    clear hlt e2
    go_enter Try.func38, Try.ntmps38
    go_wp2_with fail
    refine (szB_any _ l _ _ h1 (by decide) (by decide)).mono ?_
    rintro e w1 ⟨rfl, rfl⟩
    rw [HE.out]
    go_wp2
    go_ret
    exact ⟨rfl, B0⟩
  · have e2 := szN_ge hlt
    have hg : 0 ≤ 1048576 - (l.length : Int) := by omega
    rw [e2]
    have HE := Lib.hid e2
    clear hlt e2
    obtain ⟨k, hk⟩ : ∃ k : Int, 1048576 - (l.length : Int) = k := ⟨_, rfl⟩
    rw [hk] at hg ⊢
    have HK := Lib.hid hk
    clear hk
    go_enter Try.func38, Try.ntmps38
    go_wp2_with fail
    refine (szB_any _ l _ _ h1 (by decide) (by decide)).mono ?_
    rintro e w1 ⟨rfl, rfl⟩
    rw [HE.out, HK.out]
    go_wp2
    go_ret
    exact ⟨rfl, B0⟩
theorem Own.len {w : World} {base : Nat} {v : Value} {l : List Int} (h : Own w base v l) : ∃ a c, v = .slice a l.length c := by
  obtain ⟨a, c, h, _⟩ := h.cap
  exact ⟨a, c, h⟩
theorem Own.far {w : World} {base : Nat} {v u : Value} {l : List Int} {B o : Nat} (h : Own w base v l) (hB : B < base) : Own (w.setCell ⟨B, o, none⟩ u) base v l :=
  h.kept (grown_set w B o u) (by
    cases hv : v.ownBlock with
    | none => exact .inl rfl
    | some k => exact .inr (by have := (World.ownsRow.lt h k hv).1; intro e; cases e; omega))
theorem toS_any (v : Value) (l : List Int) (w : World) (h : Rd w v l) (hn : l.length ≤ 1048576) :
    Calls Try.prog 39 #[.agg #[v]] w fun e w' => ∃ u, e = .returned (.agg #[u]) ∧ Own w' w.heap.size u l ∧ Below w.heap.size w w' := by
  obtain ⟨bA, bR, bO, B1, z⟩ := three w [v] [.slice none 0 0] [.slice none 0 0] 60 24 24
  have h1 := h.keep B1
  go_enter Try.func39, Try.ntmps39
  go_wp2_with fail
  refine (toB_new _ l _ h1 hn).mono ?_
  rintro e w1 ⟨u, rfl, ho, hb⟩
  obtain ⟨ua, uc, rfl⟩ := ho.len
  replace bA := bA.keep hb
  replace bR := bR.keep hb
  replace bO := bO.keep hb
  have hs := hb.size
  replace B1 := below_step B1 hb
  rw [z] at ho hs
  clear z hb h1
  obtain ⟨A, hA⟩ : ∃ A, A = w.heap.size := ⟨_, rfl⟩
  obtain ⟨R, hR⟩ : ∃ R, R = w.heap.size + 1 := ⟨_, rfl⟩
  obtain ⟨O, hO⟩ : ∃ O, O = w.heap.size + 1 + 1 := ⟨_, rfl⟩
  rw [← hA] at bA
  rw [← hR] at bR
  rw [← hO] at bO
  rw [← hO, ← hR, ← hA]
  have hO3 : O < w.heap.size + 3 := by omega
  have hRO : R ≠ O := by omega
  have hR3 : R < w.heap.size + 3 := by omega
  have hwO : w.heap.size ≤ O := by omega
  have hwR : w.heap.size ≤ R := by omega
  clear hA hR hO
  have o0 := bO.c 0 rfl
  have of0 := bO.f 0 rfl
  have r0 := bR.c 0 rfl
  have rf0 := bR.f 0 rfl
  go_wp2_with fail
  have bE := (bR.far (o := 0) (u := .slice ua l.length uc) hRO).set 0 (.slice ua l.length uc)
  have e0 := bE.c 0 rfl
  exact bodyPost_ret (v := .agg #[.slice ua l.length uc]) (by simp [results, Try.results39, go_sem, e0]) rfl
    ⟨_, rfl, Own.mono ((ho.far (o := 0) hO3).far (o := 0) hR3) (by omega), (B1.setCell (p := ⟨O, 0, none⟩) hwO _).setCell (p := ⟨R, 0, none⟩) hwR _⟩
theorem eqS_same (v u : Value) (l : List Int) (w : World) (h1 : Rd w v l) (h2 : Rd w u l) :
    Calls Try.prog 40 #[.agg #[v], .agg #[u]] w fun e w' => e = .returned (.bool true) ∧ Below w.heap.size w w' := by
  obtain ⟨bA, bB, B1, z⟩ := two w [v] [u] 24 24
  have hp1 := h1.keep B1
  have hq1 := h2.keep B1
  clear z
  go_enter Try.func40, Try.ntmps40
  go_wp2_with fail
  refine (eqB_same _ _ l _ hp1 hq1).mono ?_
  rintro e w1 ⟨rfl, hb⟩
  replace B1 := below_step B1 hb
  clear hb
  go_wp2
  go_ret
  exact ⟨rfl, B1⟩
/-- what StreamOk answers -/
def stokB (l : List Int) : Bool := decide (fsz l = 0 ∨ (l.length : Int) < fsz l)
theorem headB_of {s k : Int} (h : headB s k = true) : 4 ≤ s ∧ s ≤ 100 ∧ 1 ≤ k ∧ k ≤ 4 := by
  unfold headB inB at h
  simp at h
  omega
theorem fsz_cases (l : List Int) : fsz l = -1 ∨ (fsz l = 0 ∧ l.length < 4) ∨ (fsz l = l.getD 2 0 ∧ 4 ≤ l.length ∧ headB (l.getD 2 0) (l.getD 3 0) = true) := by
  unfold fsz
  split
  · exact .inl rfl
  · split
    · exact .inl rfl
    · split
      · rename_i h
        exact .inr (.inl ⟨rfl, h⟩)
      · rename_i h
        split
        · rename_i h1
          exact .inr (.inr ⟨rfl, by omega, h1⟩)
        · exact .inl rfl
theorem fsz_le (l : List Int) : fsz l ≤ 100 := by
  rcases fsz_cases l with h | h | ⟨h, -, h2⟩
  · omega
  · omega
  · have := headB_of h2; omega
theorem fsz_ge (l : List Int) : -1 ≤ fsz l := by
  rcases fsz_cases l with h | h | ⟨h, -, h2⟩
  · omega
  · omega
  · have := headB_of h2; omega
theorem fsz_0 {l : List Int} (h : fsz l = 0) : l.length < 4 := by
  rcases fsz_cases l with h1 | h1 | ⟨h1, -, h2⟩
  · omega
  · exact h1.2
  · have := headB_of h2; omega
theorem fsz_neg {l : List Int} (h : ¬ 0 ≤ fsz l) : fsz l = -1 := by have := fsz_ge l; omega
theorem istok_any (v : Value) (l : List Int) (w : World) (h : Rd w v l) (hcap : Cap v l) :
    Calls Try.prog 18 #[.agg #[v]] w fun e w' => e = .returned (.bool (stokB l)) ∧ Below w.heap.size w w' := by
  obtain ⟨bA, B1, z⟩ := one w [v] 24
  obtain ⟨a, c, rfl⟩ := h.len
  have hp1 := h.keep B1
  have hm := h.2.1
  have hm : l.length ≤ 9223372036854775807 := by unfold maxLen at hm; omega
  obtain ⟨r, hr⟩ : ∃ r, fsz l = r := ⟨_, rfl⟩
  obtain ⟨t, ht⟩ : ∃ t, stokB l = t := ⟨_, rfl⟩
  have HT := Lib.hid ht
  have HR := Lib.hid hr
  rw [ht]
  unfold stokB at ht
  rw [hr] at ht
  have HT := Lib.hid ht
  clear z ht hr h
  go_enter Try.func18, Try.ntmps18
  go_wp2_with fail
  refine (ifr_any _ l _ hp1 hcap).mono ?_
  rw [HR.out]
  rintro e w1 ⟨rfl, hb⟩
  replace bA := bA.keep hb
  replace B1 := below_step B1 hb
  clear hb hp1
  have a0 := bA.c 0 rfl
  go_wp2_with fail
  all_goals
    go_ret
    exact ⟨ret_bool (by rw [← HT.out, Bool.eq_iff_iff]; first | (simp; done) | (simp; omega)), B1⟩
theorem sstok_any (v : Value) (l : List Int) (w : World) (h : Rd w v l) :
    Calls Try.prog 12 #[.agg #[v]] w fun e w' => e = .returned (.bool (stokB l)) ∧ Below w.heap.size w w' := by
  obtain ⟨bA, B1, z⟩ := one w [v] 24
  obtain ⟨a, c, rfl⟩ := h.len
  have hp1 := h.keep B1
  have hm := h.2.1
  have hm : l.length ≤ 9223372036854775807 := by unfold maxLen at hm; omega
  obtain ⟨r, hr⟩ : ∃ r, fsz l = r := ⟨_, rfl⟩
  obtain ⟨t, ht⟩ : ∃ t, stokB l = t := ⟨_, rfl⟩
  have HT := Lib.hid ht
  have HR := Lib.hid hr
  rw [ht]
  have Q0 := Lib.hid (fsz_le l)
  have Q1 := Lib.hid (fun h : fsz l = 0 => fsz_0 h)
  rw [hr] at Q0 Q1
  unfold stokB at ht
  rw [hr] at ht
  have HT := Lib.hid ht
  clear z ht hr h
  go_enter Try.func12, Try.ntmps12
  go_wp2_with fail
  refine (sfr_any _ l _ hp1).mono ?_
  rw [HR.out]
  rintro e w1 ⟨rfl, hb⟩
  replace bA := bA.keep hb
  replace B1 := below_step B1 hb
  clear hb hp1
  have a0 := bA.c 0 rfl
  go_wp2_with fail
  all_goals
    go_ret
    have q0 := Q0.out
    have q1 := Q1.out
    exact ⟨ret_bool (by rw [← HT.out, Bool.eq_iff_iff]; first | (simp; done) | (simp; omega)), B1⟩
end Go.Proofs.Ythecdnfloahoaaa
