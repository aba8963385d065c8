/-
  Bytes of a message: what the program appends for attributes; the bodies of the four kinds. Conditions: those in each contract.
-/
import Derived.Test.YthecdnfloahoaaaQ1
namespace Go.Proofs.Ythecdnfloahoaaa
open Go.ChangeShapes Go.WideShapes Go.ChangeAt Go.RowKit Go.BigFrame
set_option linter.unusedVariables false
set_option maxRecDepth 100000
set_option linter.unusedSimpArgs false

def attL (ps ms : List Int) (pr bw : Int) : List Int := numL ps ++ (two2 pr ++ (two2 bw ++ numL ms))
theorem attL_len (ps ms : List Int) (pr bw : Int) : (attL ps ms pr bw).length = ps.length * 2 + ms.length * 2 + 6 := by
  unfold attL
  rw [List.length_append, List.length_append, List.length_append, numL_len, numL_len]
  simp [two2]
  omega
theorem byt_app {l m : List Int} (h : ∀ x ∈ l, 0 ≤ x ∧ x ≤ 255) (k : ∀ x ∈ m, 0 ≤ x ∧ x ≤ 255) : ∀ x ∈ l ++ m, 0 ≤ x ∧ x ≤ 255 := by
  intro x hx
  rcases List.mem_append.mp hx with hx | hx
  · exact h x hx
  · exact k x hx
theorem Own.blt {w : World} {base : Nat} {v : Value} {l : List Int} (h : Own w base v l) : ∀ k, v.ownBlock = some k → k < w.heap.size := fun k hk => (World.ownsRow.lt h k hk).2
theorem Bl.rw {w w' : World} {B : Nat} {xs : List Value} {v : Value} (h : Bl w B xs) (hg : w.grownBy w' v.ownBlock) (hne : v.ownBlock ≠ some B) : Bl w' B xs := h.grown hg (Ne.symm hne)
/-- a row that lies elsewhere than block B goes on elsewhere -/
theorem Rw.ne {w : World} {v v2 : Value} {B : Nat} (r : Rw w v v2) (h : v.ownBlock ≠ some B) (hB : B < w.heap.size) : v2.ownBlock ≠ some B := by
  rcases r with r | r
  · rw [r]; exact h
  · intro e
    have := r B e
    omega
set_option maxHeartbeats 1000000 in
theorem iputA_any (V : World) (v pv mv : Value) (l ps ms : List Int) (pr bw : Int) (base : Nat) (w : World) (ho : Own w base v l) (hp : RdI V pv ps) (hm : RdI V mv ms) (hpb : ∀ x ∈ ps, 0 ≤ x ∧ x ≤ 65535) (hmb : ∀ x ∈ ms, 0 ≤ x ∧ x ≤ 65535)
    (hpl : ps.length ≤ 255) (hml : ms.length ≤ 255) (hpr : 0 ≤ pr ∧ pr ≤ 1000) (hbw : 0 ≤ bw ∧ bw ≤ 1000) (hov : Over V w) (hVb : V.heap.size ≤ base) (hbs : base ≤ w.heap.size) (hl : l.length ≤ 1000) (hlb : ∀ x ∈ l, 0 ≤ x ∧ x ≤ 255) :
    Calls Try.prog 176 #[v, .agg #[pv, .int .i64 pr, mv, .int .i64 bw]] w (AppR w v base (l ++ attL ps ms pr bw)) := by
  obtain ⟨bA, B0, z⟩ := one w [pv, .int .i64 pr, mv, .int .i64 bw] 39
  obtain ⟨A, hA⟩ : ∃ A, A = w.heap.size := ⟨_, rfl⟩
  have ne0 : v.ownBlock ≠ some A := fun e => by have := ho.blt A e; omega
  have ho1 := ho.alloc (.cells #[pv, .int .i64 pr, mv, .int .i64 bw] 39)
  have hov1 := over_alloc hov (.cells #[pv, .int .i64 pr, mv, .int .i64 bw] 39)
  have hb1 : base ≤ (w.alloc (.cells #[pv, .int .i64 pr, mv, .int .i64 bw] 39)).heap.size := by rw [z]; omega
  have hg0 : w.grownBy (w.alloc (.cells #[pv, .int .i64 pr, mv, .int .i64 bw] 39)) v.ownBlock := grown_below B0 _
  have hlb1 := byt_app hlb (numL_bd hpl hpb)
  have hl1 : (l ++ numL ps).length ≤ 1048576 := by rw [List.length_append, numL_len]; omega
  have hl2 : (l ++ numL ps ++ two2 pr).length ≤ 1048576 := by rw [List.length_append, List.length_append, numL_len]; simp [two2]; omega
  have hl3 : (l ++ numL ps ++ two2 pr ++ two2 bw).length ≤ 10000 := by rw [List.length_append, List.length_append, List.length_append, numL_len]; simp [two2]; omega
  have hlb3 := byt_app (byt_app hlb1 (two_bd (n := pr) (by omega) (by omega))) (two_bd (n := bw) (by omega) (by omega))
  rw [← hA] at bA
  have H1 := Lib.hid hl1
  have H2 := Lib.hid hl2
  have H3 := Lib.hid hl3
  have HB := Lib.hid hlb3
  have HP := Lib.hid hpb
  have HM := Lib.hid hmb
  have HLB := Lib.hid hlb
  clear z hl1 hl2 hl3 hlb3 hpb hmb hlb hlb1
  have hAw : w.heap.size = A := hA.symm
  clear hA
  go_enter Try.func176, Try.ntmps176
  go_wp2_with fail
  refine (inums_any V v pv l ps base _ ho1 hp HP.out hpl hov1 hVb hb1 (by omega) HLB.out).mono ?_
  rintro e w1 ⟨v1, rfl, o1, g1, r1⟩
  have bA1 := bA.rw g1 ne0
  have ne1 := r1.ne ne0 bA.lt
  have hs1 : base ≤ w1.heap.size := Nat.le_trans hb1 g1.size
  have a1 := bA1.c 1 rfl
  go_wp2_with fail
  refine (itwo_any v1 _ pr base _ o1 hpr.1 (by omega) hs1 H1.out).mono ?_
  rintro e w2 ⟨v2, rfl, o2, g2, r2⟩
  have bA2 := bA1.rw g2 ne1
  have ne2 := r2.ne ne1 bA1.lt
  have hs2 : base ≤ w2.heap.size := Nat.le_trans hs1 g2.size
  have a3 := bA2.c 3 rfl
  clear a1
  go_wp2_with fail
  refine (itwo_any v2 _ bw base _ o2 hbw.1 (by omega) hs2 H2.out).mono ?_
  rintro e w3 ⟨v3, rfl, o3, g3, r3⟩
  have bA3 := bA2.rw g3 ne2
  have ne3 := r3.ne ne2 bA2.lt
  have hs3 : base ≤ w3.heap.size := Nat.le_trans hs2 g3.size
  have a2 := bA3.c 2 rfl
  obtain ⟨g12, r12⟩ := row_step g1 r1 g2 r2
  obtain ⟨g13, r13⟩ := row_step g12 r12 g3 r3
  have hov3 : Over V w3 := over_grown hov1 ho1 hVb g13
  clear a3
  go_wp2_with fail
  refine (inums_any V v3 mv _ ms base _ o3 hm HM.out hml hov3 hVb hs3 H3.out HB.out).mono ?_
  rintro e w4 ⟨v4, rfl, o4, g4, r4⟩
  obtain ⟨g14, r14⟩ := row_step g13 r13 g4 r4
  have gg := grown_trans hg0 g14
  have rr : Rw w v v4 := Rw.later B0.size r14
  rw [show l ++ numL ps ++ two2 pr ++ two2 bw ++ numL ms = l ++ attL ps ms pr bw by unfold attL; simp] at o4
  clear g1 g2 g3 g4 r1 r2 r3 r4 g12 g13 r12 r13
  go_wp2_with fail
  go_ret
  exact ⟨_, rfl, o4, gg, rr⟩
/-- the bodies -/
def bodyO (sa ho ix : Int) : List Int := [4] ++ two2 sa ++ [ho, ix]
def bodyU (gs cs : List (Int × Int)) (ps ms : List Int) (pr bw : Int) : List Int := if 0 < cs.length then [] ++ pfxL gs ++ pfxL cs ++ attL ps ms pr bw else [] ++ pfxL gs ++ pfxL cs
theorem ibodyO_any (sa ho ix : Int) (w : World) (h0 : 0 ≤ sa ∧ sa ≤ 65535) (h1 : 0 ≤ ho ∧ ho ≤ 255) (h2 : 0 ≤ ix ∧ ix ≤ 255) :
    Calls Try.prog 152 #[.agg #[.int .i64 sa, .int .i64 ho, .int .i64 ix]] w (NewB w (bodyO sa ho ix)) := by
  obtain ⟨bA, B0, z⟩ := one w [.int .i64 sa, .int .i64 ho, .int .i64 ix] 137
  obtain ⟨A, hA⟩ : ∃ A, A = w.heap.size := ⟨_, rfl⟩
  have hlit : Own ((w.alloc (.cells #[.int .i64 sa, .int .i64 ho, .int .i64 ix] 137)).alloc (.cells #[.int .u8 4] BT)) (A + 1) (.slice (some ⟨A + 1, 0, none⟩) 1 1) [4] := by
    have := Own.lit (base := A + 1) (w.alloc (.cells #[.int .i64 sa, .int .i64 ho, .int .i64 ix] 137)) #[.int .u8 4] [4] (by rw [z]; omega) (by simp [maxLen]) rfl
    rw [z, ← hA] at this
    exact this
  have bB := bA.alloc (.cells #[.int .u8 4] BT)
  have B1 := B0.alloc B0.size (.cells #[.int .u8 4] BT)
  have z1 : ((w.alloc (.cells #[.int .i64 sa, .int .i64 ho, .int .i64 ix] 137)).alloc (.cells #[.int .u8 4] BT)).heap.size = A + 2 := by simp; omega
  rw [← hA] at bB
  have hAw : w.heap.size = A := hA.symm
  clear bA B0 z hA
  go_enter Try.func152, Try.ntmps152
  go_wp2_with fail
  refine (itwo_any _ [4] sa (A + 1) _ hlit h0.1 h0.2 (by rw [z1]; omega) (by simp)).mono ?_
  rintro e w1 ⟨v1, rfl, o1, g1, r1⟩
  have ne0 : (Value.slice (some ⟨A + 1, 0, none⟩) 1 1).ownBlock ≠ some A := by simp [Value.ownBlock]
  have bC := bB.rw g1 ne0
  have B2 : Below w.heap.size w w1 := B1.grown g1 (by rw [z1]; omega) (fun k hk => by simp [Value.ownBlock] at hk; omega)
  have hs1 : A + 2 ≤ w1.heap.size := by have := g1.size; omega
  clear g1 r1 B1 z1 hlit bB ne0
  have a1 := bC.c 1 rfl
  have a2 := bC.c 2 rfl
  go_wp2_with (at_builtin; refine Hid.out ?_)
  refine Lib.hid ?_
  refine wp_app2 rfl _ _ rfl (A + 1) _ _ _ [ho, ix] rfl rfl (o1.alloc _) (rd_lit2 _ _ _ h1 h2) (by simp [two2]) (by simp; omega) ?_
  intro v2 w2 o2 g2 r2
  have B3 : Below w.heap.size w w2 := (B2.alloc (by omega) _).grown g2 (by simp; omega) (fun k hk => by have := (World.ownsRow.lt o1 k hk).1; omega)
  clear g2 r2
  go_wp2
  go_ret
  exact ⟨_, rfl, Own.mono o2 (by omega), B3⟩
theorem ibodyN_any (er : Int) (w : World) (h : 0 ≤ er ∧ er ≤ 255) : Calls Try.prog 191 #[.agg #[.int .i64 er]] w (NewB w [er]) := by
  obtain ⟨bA, B0, z⟩ := one w [.int .i64 er] 141
  have hlit := Own.lit (base := w.heap.size) (w.alloc (.cells #[.int .i64 er] 141)) #[.int .u8 er] [er] (by rw [z]; omega) (by simp [maxLen]) rfl
  have B1 := B0.alloc B0.size (.cells #[.int .u8 er] BT)
  clear bA B0 z
  go_enter Try.func191, Try.ntmps191
  go_wp2
  go_ret
  exact ⟨_, rfl, by simpa using hlit, B1⟩
theorem ibodyK_any (w : World) : Calls Try.prog 194 #[.agg #[]] w (NewB w []) := by
  obtain ⟨bA, B0, z⟩ := one w [] 143
  clear bA z
  go_enter Try.func194, Try.ntmps194
  go_wp2
  go_ret
  exact ⟨_, rfl, World.ownsRow_nil _ _ _ _, B0⟩
set_option maxHeartbeats 1000000 in
theorem ibodyU_any (ga ca pa ma : Option Addr) (gx cx px mx : Nat) (gs cs : List (Int × Int)) (ps ms : List Int) (pr bw : Int) (w : World)
    (hg : RdP w (.slice ga gs.length gx) gs) (hc : RdP w (.slice ca cs.length cx) cs) (hp : RdI w (.slice pa ps.length px) ps) (hm : RdI w (.slice ma ms.length mx) ms)
    (hgl : gs.length ≤ 8) (hcl : cs.length ≤ 8) (hpl : ps.length ≤ 8) (hml : ms.length ≤ 8) (hpb : ∀ x ∈ ps, 0 ≤ x ∧ x ≤ 65535) (hmb : ∀ x ∈ ms, 0 ≤ x ∧ x ≤ 65535) (hpr : 0 ≤ pr ∧ pr ≤ 1000) (hbw : 0 ≤ bw ∧ bw ≤ 1000) :
    Calls Try.prog 172 #[.agg #[.slice ga gs.length gx, .slice ca cs.length cx, .slice pa ps.length px, .int .i64 pr, .slice ma ms.length mx, .int .i64 bw]] w (NewB w (bodyU gs cs ps ms pr bw)) := by
  obtain ⟨bA, B0, z⟩ := one w [.slice ga gs.length gx, .slice ca cs.length cx, .slice pa ps.length px, .int .i64 pr, .slice ma ms.length mx, .int .i64 bw] 139
  replace hg := hg.keep B0
  replace hc := hc.keep B0
  replace hp := hp.keep B0
  replace hm := hm.keep B0
  obtain ⟨V, hV⟩ : ∃ V, V = w.alloc (.cells #[.slice ga gs.length gx, .slice ca cs.length cx, .slice pa ps.length px, .int .i64 pr, .slice ma ms.length mx, .int .i64 bw] 139) := ⟨_, rfl⟩
  obtain ⟨A, hA⟩ : ∃ A, A = w.heap.size := ⟨_, rfl⟩
  rw [← hV] at bA B0 z hg hc hp hm
  rw [← hA] at bA z
  have hAw : w.heap.size = A := hA.symm
  have HP := Lib.hid hpb
  have HM := Lib.hid hmb
  have HV := hV.symm
  clear hV hA hpb hmb
  by_cases h0 : 0 < cs.length
  · have hE : bodyU gs cs ps ms pr bw = [] ++ pfxL gs ++ pfxL cs ++ attL ps ms pr bw := if_pos h0
    have HE := Lib.hid hE
    have hI : (0 : Int) < cs.length := by omega
    clear hE h0
    have hnil : Own V (A + 1) (.slice none 0 0) [] := World.ownsRow_nil _ _ _ _
    have a0 := bA.c 0 rfl
    go_enter Try.func172, Try.ntmps172
    go_wp2_with fail
    clear a0
    refine (ipfxs_any V (.slice none 0 0) _ [] gs (A + 1) _ hnil hg (by omega) (over_refl V) (by omega) (by omega) (by simp) (by simp)).mono ?_
    rintro e w1 ⟨v1, rfl, o1, g1, r1⟩
    have bA1 := bA.grown g1 (by simp [Value.ownBlock])
    have ov1 : Over V w1 := over_grown (over_refl V) hnil (by omega) g1
    have ne1 : v1.ownBlock ≠ some A := fun e => by have := (World.ownsRow.lt o1 A e).1; omega
    have hs1 : A + 1 ≤ w1.heap.size := by have := g1.size; omega
    have a1 := bA1.c 1 rfl
    clear g1 r1
    go_wp2_with fail
    refine (ipfxs_any V v1 _ _ cs (A + 1) _ o1 hc (by omega) ov1 (by omega) hs1 (by have := pfxL_len gs; simp; omega) (by simpa using pfxL_bd (l := gs) (by omega))).mono ?_
    rintro e w2 ⟨v2, rfl, o2, g2, r2⟩
    have bA2 := bA1.rw g2 ne1
    have ov2 : Over V w2 := over_grown ov1 o1 (by omega) g2
    have ne2 := r2.ne ne1 bA1.lt
    have hs2 : A + 1 ≤ w2.heap.size := Nat.le_trans hs1 g2.size
    clear a1 g2 r2
    have b1 := bA2.c 1 rfl
    have b2 := bA2.c 2 rfl
    have b3 := bA2.c 3 rfl
    have b4 := bA2.c 4 rfl
    have b5 := bA2.c 5 rfl
    go_wp2_with fail
    clear b1 b2 b3 b4 b5
    refine (iputA_any V v2 _ _ _ ps ms pr bw (A + 1) _ o2 hp hm HP.out HM.out (by omega) (by omega) hpr hbw ov2 (by omega) hs2 (by have := pfxL_len gs; have := pfxL_len cs; simp; omega) (by simpa using byt_app (pfxL_bd (l := gs) (by omega)) (pfxL_bd (l := cs) (by omega)))).mono ?_
    rintro e w3 ⟨v3, rfl, o3, g3, r3⟩
    have ov3 : Over V w3 := over_grown ov2 o2 (by omega) g3
    clear g3 r3
    go_wp2_with fail
    go_ret
    exact ⟨_, rfl, by rw [HE.out]; exact Own.mono o3 (by omega), below_step B0 ov3⟩
  · have hE : bodyU gs cs ps ms pr bw = [] ++ pfxL gs ++ pfxL cs := if_neg h0
    have HE := Lib.hid hE
    have hI : ¬ (0 : Int) < cs.length := by omega
    clear hE h0
    have hnil : Own V (A + 1) (.slice none 0 0) [] := World.ownsRow_nil _ _ _ _
    have a0 := bA.c 0 rfl
    go_enter Try.func172, Try.ntmps172
    go_wp2_with fail
    clear a0
    refine (ipfxs_any V (.slice none 0 0) _ [] gs (A + 1) _ hnil hg (by omega) (over_refl V) (by omega) (by omega) (by simp) (by simp)).mono ?_
    rintro e w1 ⟨v1, rfl, o1, g1, r1⟩
    have bA1 := bA.grown g1 (by simp [Value.ownBlock])
    have ov1 : Over V w1 := over_grown (over_refl V) hnil (by omega) g1
    have ne1 : v1.ownBlock ≠ some A := fun e => by have := (World.ownsRow.lt o1 A e).1; omega
    have hs1 : A + 1 ≤ w1.heap.size := by have := g1.size; omega
    have a1 := bA1.c 1 rfl
    clear g1 r1
    go_wp2_with fail
    refine (ipfxs_any V v1 _ _ cs (A + 1) _ o1 hc (by omega) ov1 (by omega) hs1 (by have := pfxL_len gs; simp; omega) (by simpa using pfxL_bd (l := gs) (by omega))).mono ?_
    rintro e w2 ⟨v2, rfl, o2, g2, r2⟩
    have bA2 := bA1.rw g2 ne1
    have ov2 : Over V w2 := over_grown ov1 o1 (by omega) g2
    have ne2 := r2.ne ne1 bA1.lt
    have hs2 : A + 1 ≤ w2.heap.size := Nat.le_trans hs1 g2.size
    clear a1 g2 r2
    have b1 := bA2.c 1 rfl
    go_wp2_with fail
    go_ret
    exact ⟨_, rfl, by rw [HE.out]; exact Own.mono o2 (by omega), below_step B0 ov2⟩
end Go.Proofs.Ythecdnfloahoaaa
