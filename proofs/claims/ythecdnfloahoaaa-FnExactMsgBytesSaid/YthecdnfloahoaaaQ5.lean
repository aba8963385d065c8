/-
  Bytes of a message: the whole, as the model and the program write it. Conditions: those in each contract.
-/
import Derived.Test.YthecdnfloahoaaaQ4
import Derived.Test.YthecdnfloahoaaaN8
namespace Go.Proofs.Ythecdnfloahoaaa
open Go.ChangeShapes Go.WideShapes Go.ChangeAt Go.RowKit Go.BigFrame
set_option linter.unusedVariables false
set_option maxRecDepth 100000
set_option linter.unusedSimpArgs false

def bodyM (gs cs : List (Int × Int)) (ps ms : List Int) (kn sa ho ix pr bw er : Int) : List Int := if kn = 1 then bodyO sa ho ix else if kn = 2 then bodyU gs cs ps ms pr bw else if kn = 3 then [er] else []
def msgL (kn : Int) (b : List Int) : List Int := [255, 255, (b.length : Int) + 4, kn] ++ b
theorem nums_in {l : List Int} (h : numsB l = true) : ∀ x ∈ l, 0 ≤ x ∧ x ≤ 65535 := by
  intro x hx
  obtain ⟨i, hi, rfl⟩ := List.mem_iff_getElem.mp hx
  unfold numsB at h
  rw [decide_eq_true_eq] at h
  have := asB_iff.mp (h i hi)
  simp [List.getD, hi] at this
  omega
theorem aok_parts {p c : List Int} {pr bw : Int} (h : aokB p pr c bw = true) : p.length ≤ 8 ∧ c.length ≤ 4 ∧ (0 ≤ pr ∧ pr ≤ 1000) ∧ (0 ≤ bw ∧ bw ≤ 1000) ∧ numsB p = true ∧ numsB c = true := by
  unfold aokB at h
  simp only [Bool.and_eq_true, decide_eq_true_eq] at h
  obtain ⟨⟨⟨⟨⟨h1, h2⟩, h3⟩, h4⟩, h5, h6⟩, -⟩ := h
  exact ⟨h1, h5, inB_iff.mp h3, inB_iff.mp h4, h2, h6⟩
/-- what a valid message's numbers keep to -/
structure MsB (gs cs : List (Int × Int)) (ps ms : List Int) (kn sa ho ix pr bw er : Int) : Prop where
  kn : 1 ≤ kn ∧ kn ≤ 4
  sa : 0 ≤ sa ∧ sa ≤ 65535
  ho : 0 ≤ ho ∧ ho ≤ 255
  ix : 0 ≤ ix ∧ ix ≤ 255
  er : 0 ≤ er ∧ er ≤ 255
  gl : gs.length ≤ 8
  cl : cs.length ≤ 8
  pl : ps.length ≤ 8
  ml : ms.length ≤ 8
  pb : ∀ x ∈ ps, 0 ≤ x ∧ x ≤ 65535
  mb : ∀ x ∈ ms, 0 ≤ x ∧ x ≤ 65535
  pr : 0 ≤ pr ∧ pr ≤ 1000
  bw : 0 ≤ bw ∧ bw ≤ 1000
theorem mok_bounds {gs cs : List (Int × Int)} {ps ms : List Int} {kn sa ho ix pr bw er : Int} (h : mokB gs cs ps ms kn sa ho ix pr bw er = true) : MsB gs cs ps ms kn sa ho ix pr bw er := by
  have hk : 1 ≤ kn ∧ kn ≤ 4 := by
    by_cases hk : 1 ≤ kn ∧ kn ≤ 4
    · exact hk
    · rw [mok_no hk] at h
      cases h
  by_cases k1 : kn = 1
  · subst k1
    obtain ⟨⟨a1, a2, a3⟩, rfl, rfl, hz, rfl⟩ := mok_1.mp h
    obtain ⟨rfl, rfl, rfl, rfl⟩ := zA_iff.mp hz
    have b1 := asB_iff.mp a1
    have b2 := inB_iff.mp a2
    have b3 := inB_iff.mp a3
    exact ⟨by omega, by omega, by omega, by omega, by omega, by simp, by simp, by simp, by simp, by simp, by simp, by omega, by omega⟩
  by_cases k2 : kn = 2
  · subst k2
    by_cases h0 : cs.length = 0
    · obtain rfl := List.eq_nil_of_length_eq_zero h0
      obtain ⟨hg, rfl, rfl, rfl, hz, rfl⟩ := mok_2.mp h
      obtain ⟨rfl, rfl, rfl, rfl⟩ := zA_iff.mp hz
      exact ⟨by omega, by omega, by omega, by omega, by omega, pokL_le hg, by simp, by simp, by simp, by simp, by simp, by omega, by omega⟩
    · obtain ⟨⟨hg, hc, ha, -⟩, rfl, rfl, rfl, rfl⟩ := (mok_2c h0).mp h
      obtain ⟨p1, p2, p3, p4, p5, p6⟩ := aok_parts ha
      exact ⟨by omega, by omega, by omega, by omega, by omega, pokL_le hg, pokL_le hc, p1, by omega, nums_in p5, nums_in p6, p3, p4⟩
  · obtain ⟨⟨rfl, rfl, rfl, rfl, rfl, hz⟩, he⟩ := (mok_34 k1 k2 hk).mp h
    obtain ⟨rfl, rfl, rfl, rfl⟩ := zA_iff.mp hz
    have : 0 ≤ er ∧ er ≤ 255 := by
      by_cases k3 : kn = 3
      · rw [if_pos k3] at he; omega
      · rw [if_neg k3] at he; omega
    exact ⟨hk, by omega, by omega, by omega, this, by simp, by simp, by simp, by simp, by simp, by simp, by omega, by omega⟩
theorem bodyM_len {gs cs : List (Int × Int)} {ps ms : List Int} {kn sa ho ix pr bw er : Int} (h : MsB gs cs ps ms kn sa ho ix pr bw er) : (bodyM gs cs ps ms kn sa ho ix pr bw er).length ≤ 96 := by
  unfold bodyM bodyO bodyU
  have h1 := pfxL_len gs
  have h2 := pfxL_len cs
  have h3 := attL_len ps ms pr bw
  have := h.gl; have := h.cl; have := h.pl; have := h.ml
  split
  · simp [two2]
  · split
    · split
      · simp only [List.length_append, List.length_nil]; omega
      · simp only [List.length_append, List.length_nil]; omega
    · split <;> simp
theorem bodyM_bd {gs cs : List (Int × Int)} {ps ms : List Int} {kn sa ho ix pr bw er : Int} (h : MsB gs cs ps ms kn sa ho ix pr bw er) : ∀ x ∈ bodyM gs cs ps ms kn sa ho ix pr bw er, 0 ≤ x ∧ x ≤ 255 := by
  have hA : ∀ x ∈ attL ps ms pr bw, 0 ≤ x ∧ x ≤ 255 := byt_app (numL_bd (by have := h.pl; omega) h.pb) (byt_app (two_bd h.pr.1 (by have := h.pr; omega)) (byt_app (two_bd h.bw.1 (by have := h.bw; omega)) (numL_bd (by have := h.ml; omega) h.mb)))
  have hG := pfxL_bd (l := gs) (by have := h.gl; omega)
  have hC := pfxL_bd (l := cs) (by have := h.cl; omega)
  unfold bodyM bodyO bodyU
  split
  · exact byt_app (byt_app (by simp) (two_bd h.sa.1 h.sa.2)) (by intro x hx; simp at hx; rcases hx with rfl | rfl; exact h.ho; exact h.ix)
  · split
    · split
      · exact byt_app (byt_app (byt_app (by simp) hG) hC) hA
      · exact byt_app (byt_app (by simp) hG) hC
    · split
      · intro x hx; simp at hx; subst hx; exact h.er
      · simp
theorem sbody_any (ga ca pa ma : Option Addr) (gx cx px mx : Nat) (gs cs : List (Int × Int)) (ps ms : List Int) (kn sa ho ix pr bw er : Int) (w : World) (hg : RdP w (.slice ga gs.length gx) gs) (hc : RdP w (.slice ca cs.length cx) cs) (hp : RdI w (.slice pa ps.length px) ps) (hm : RdI w (.slice ma ms.length mx) ms) (hok : mokB gs cs ps ms kn sa ho ix pr bw er = true) :
    Calls Try.prog 76 #[.agg #[.int .i64 kn, .int .i64 sa, .int .i64 ho, .int .i64 ix, .slice ga gs.length gx, .slice ca cs.length cx, .slice pa ps.length px, .int .i64 pr, .slice ma ms.length mx, .int .i64 bw, .int .i64 er]] w (NewB w (bodyM gs cs ps ms kn sa ho ix pr bw er)) := by
  have h := mok_bounds hok
  have hk := h.kn
  obtain rfl | rfl | rfl | rfl : kn = 1 ∨ kn = 2 ∨ kn = 3 ∨ kn = 4 := by omega
  · exact sbody1_any ga ca pa ma gx cx px mx gs cs ps ms sa ho ix pr bw er w h.sa h.ho h.ix
  · exact sbody2_any ga ca pa ma gx cx px mx gs cs ps ms sa ho ix pr bw er w hg hc hp hm h.gl h.cl h.pl h.ml h.pb h.mb h.pr h.bw
  · exact sbody3_any ga ca pa ma gx cx px mx gs cs ps ms sa ho ix pr bw er w h.er
  · exact sbody4_any ga ca pa ma gx cx px mx gs cs ps ms sa ho ix pr bw er w
theorem sbytes_any (ga ca pa ma : Option Addr) (gx cx px mx : Nat) (gs cs : List (Int × Int)) (ps ms : List Int) (kn sa ho ix pr bw er : Int) (w : World) (hg : RdP w (.slice ga gs.length gx) gs) (hc : RdP w (.slice ca cs.length cx) cs) (hp : RdI w (.slice pa ps.length px) ps) (hm : RdI w (.slice ma ms.length mx) ms) (hok : mokB gs cs ps ms kn sa ho ix pr bw er = true) :
    Calls Try.prog 45 #[.agg #[.int .i64 kn, .int .i64 sa, .int .i64 ho, .int .i64 ix, .slice ga gs.length gx, .slice ca cs.length cx, .slice pa ps.length px, .int .i64 pr, .slice ma ms.length mx, .int .i64 bw, .int .i64 er]] w (NewB w (msgL kn (bodyM gs cs ps ms kn sa ho ix pr bw er))) := by
  have hB := mok_bounds hok
  have hbl := bodyM_len hB
  have hbb := bodyM_bd hB
  have hkn := hB.kn
  obtain ⟨bA, B0, z⟩ := one w [.int .i64 kn, .int .i64 sa, .int .i64 ho, .int .i64 ix, .slice ga gs.length gx, .slice ca cs.length cx, .slice pa ps.length px, .int .i64 pr, .slice ma ms.length mx, .int .i64 bw, .int .i64 er] 41
  have hbody := sbody_any ga ca pa ma gx cx px mx gs cs ps ms kn sa ho ix pr bw er _ (hg.keep B0) (hc.keep B0) (hp.keep B0) (hm.keep B0) hok
  obtain ⟨L, hL⟩ : ∃ L, bodyM gs cs ps ms kn sa ho ix pr bw er = L := ⟨_, rfl⟩
  rw [hL] at hbody hbl hbb ⊢
  have HBB := Lib.hid hbb
  clear hL hbb hB hok hg hc hp hm z
  go_enter Try.func45, Try.ntmps45
  go_wp2_with fail
  refine hbody.mono ?_
  rintro e w1 ⟨v1, rfl, o1, hb⟩
  obtain ⟨x1, c1, rfl, -⟩ := Own.cap o1
  have bA1 := bA.keep hb
  have B1 := below_step B0 hb
  have a0 := bA1.c 0 rfl
  have hlit := Own.lit (base := w1.heap.size) w1 #[.int .u8 255, .int .u8 255, .int .u8 ((L.length : Int) + 4), .int .u8 kn] [255, 255, (L.length : Int) + 4, kn] (Nat.le_refl _) (by simp [maxLen]) rfl
  have hrd := (Own.rd o1 HBB.out).alloc (.cells #[.int .u8 255, .int .u8 255, .int .u8 ((L.length : Int) + 4), .int .u8 kn] BT)
  have HL := Lib.hid hlit
  have HR := Lib.hid hrd
  have HLN := Lib.hid (show [255, 255, (L.length : Int) + 4, kn].length + L.length ≤ 4294967296 by simp; omega)
  have sB := B1.size
  clear hlit hrd bA bA1 hb B0 o1
  go_wp2_with (at_builtin; refine Hid.out ?_)
  refine Lib.hid ?_
  refine wp_app2 rfl _ _ rfl w1.heap.size (.slice (some ⟨w1.heap.size, 0, none⟩) 4 4) _ [255, 255, (L.length : Int) + 4, kn] L rfl rfl HL.out HR.out HLN.out (le_alloc _ _) ?_
  intro v2 w2 o2 g2 r2
  have B2 := (B1.alloc sB (.cells #[.int .u8 255, .int .u8 255, .int .u8 ((L.length : Int) + 4), .int .u8 kn] BT)).grown g2 (Nat.le_trans sB (le_alloc _ _)) (fun k hk => by simp [Value.ownBlock] at hk; omega)
  have o3 := Own.mono (base' := w.heap.size) o2 sB
  clear o2 g2 r2 a0 B1
  go_wp2
  go_ret
  exact ⟨_, rfl, o3, B2⟩
theorem msgL_len (k : Int) (l : List Int) : (msgL k l).length = l.length + 4 := by simp [msgL]
theorem smsgb_any (ga ca pa ma : Option Addr) (gx cx px mx : Nat) (gs cs : List (Int × Int)) (ps ms : List Int) (kn sa ho ix pr bw er : Int) (w : World) (hg : RdP w (.slice ga gs.length gx) gs) (hc : RdP w (.slice ca cs.length cx) cs) (hp : RdI w (.slice pa ps.length px) ps) (hm : RdI w (.slice ma ms.length mx) ms) (hpl : ps.length ≤ 1048576) (hml : ms.length ≤ 1048576) (hok : mokB gs cs ps ms kn sa ho ix pr bw er = true) :
    Calls Try.prog 27 #[.agg #[.int .i64 kn, .int .i64 sa, .int .i64 ho, .int .i64 ix, .slice ga gs.length gx, .slice ca cs.length cx, .slice pa ps.length px, .int .i64 pr, .slice ma ms.length mx, .int .i64 bw, .int .i64 er]] w fun e w' => ∃ u, e = .returned (.tuple #[u, .bool true]) ∧ Own w' w.heap.size u (msgL kn (bodyM gs cs ps ms kn sa ho ix pr bw er)) ∧ Below w.heap.size w w' := by
  obtain ⟨bA, B0, z⟩ := one w [.int .i64 kn, .int .i64 sa, .int .i64 ho, .int .i64 ix, .slice ga gs.length gx, .slice ca cs.length cx, .slice pa ps.length px, .int .i64 pr, .slice ma ms.length mx, .int .i64 bw, .int .i64 er] 41
  replace hg := hg.keep B0
  replace hc := hc.keep B0
  replace hp := hp.keep B0
  replace hm := hm.keep B0
  have hsm := fun w hg hc hp hm => sbytes_any ga ca pa ma gx cx px mx gs cs ps ms kn sa ho ix pr bw er w hg hc hp hm hok
  have hlen : (msgL kn (bodyM gs cs ps ms kn sa ho ix pr bw er)).length ≤ 100 := by rw [msgL_len]; have := bodyM_len (mok_bounds hok); omega
  obtain ⟨L, hL⟩ : ∃ L, msgL kn (bodyM gs cs ps ms kn sa ho ix pr bw er) = L := ⟨_, rfl⟩
  rw [hL] at hsm hlen ⊢
  have hlI : ¬ (100 : Int) < (L.length : Int) := by omega
  have HS := Lib.hid hsm
  have HO := Lib.hid hok
  clear hL z hsm hok
  go_enter Try.func27, Try.ntmps27
  go_wp2_with fail
  refine (smok_any ga ca pa ma gx cx px mx gs cs ps ms kn sa ho ix pr bw er _ hg hc hp hm hpl hml).mono ?_
  rw [HO.out]
  rintro e w1 ⟨rfl, hb⟩
  replace bA := bA.keep hb
  replace hg := hg.keep hb
  replace hc := hc.keep hb
  replace hp := hp.keep hb
  replace hm := hm.keep hb
  replace B0 := below_step B0 hb
  clear hb
  have fa0 := bA.c 0 rfl
  have fa1 := bA.c 1 rfl
  have fa2 := bA.c 2 rfl
  have fa3 := bA.c 3 rfl
  have fa4 := bA.c 4 rfl
  have fa5 := bA.c 5 rfl
  have fa6 := bA.c 6 rfl
  have fa7 := bA.c 7 rfl
  have fa8 := bA.c 8 rfl
  have fa9 := bA.c 9 rfl
  have fa10 := bA.c 10 rfl
  go_wp2_with fail
  clear fa0 fa1 fa2 fa3 fa4 fa5 fa6 fa7 fa8 fa9 fa10
  refine (HS.out _ hg hc hp hm).mono ?_
  rintro e w2 ⟨v2, rfl, o2, hb⟩
  obtain ⟨x2, c2, rfl, -⟩ := Own.cap o2
  clear o2
  replace bA := bA.keep hb
  replace hg := hg.keep hb
  replace hc := hc.keep hb
  replace hp := hp.keep hb
  replace hm := hm.keep hb
  replace B0 := below_step B0 hb
  clear hb
  have fa0 := bA.c 0 rfl
  have fa1 := bA.c 1 rfl
  have fa2 := bA.c 2 rfl
  have fa3 := bA.c 3 rfl
  have fa4 := bA.c 4 rfl
  have fa5 := bA.c 5 rfl
  have fa6 := bA.c 6 rfl
  have fa7 := bA.c 7 rfl
  have fa8 := bA.c 8 rfl
  have fa9 := bA.c 9 rfl
  have fa10 := bA.c 10 rfl
  go_wp2_with fail
  clear fa0 fa1 fa2 fa3 fa4 fa5 fa6 fa7 fa8 fa9 fa10
  refine (HS.out _ hg hc hp hm).mono ?_
  rintro e w3 ⟨v3, rfl, o3, hb⟩
  have o4 := Own.mono (base' := w.heap.size) o3 B0.size
  replace B0 := below_step B0 hb
  clear hb o3
  go_wp2_with fail
  exact bodyPost_ret (v := .tuple #[v3, .bool true]) (by simp [results, Try.results27, go_sem]) rfl ⟨v3, rfl, o4, B0⟩
theorem smsgb_no (ga ca pa ma : Option Addr) (gx cx px mx : Nat) (gs cs : List (Int × Int)) (ps ms : List Int) (kn sa ho ix pr bw er : Int) (w : World) (hg : RdP w (.slice ga gs.length gx) gs) (hc : RdP w (.slice ca cs.length cx) cs) (hp : RdI w (.slice pa ps.length px) ps) (hm : RdI w (.slice ma ms.length mx) ms) (hpl : ps.length ≤ 1048576) (hml : ms.length ≤ 1048576) (hok : mokB gs cs ps ms kn sa ho ix pr bw er = false) :
    Calls Try.prog 27 #[.agg #[.int .i64 kn, .int .i64 sa, .int .i64 ho, .int .i64 ix, .slice ga gs.length gx, .slice ca cs.length cx, .slice pa ps.length px, .int .i64 pr, .slice ma ms.length mx, .int .i64 bw, .int .i64 er]] w fun e w' => e = .returned (.tuple #[.slice none 0 0, .bool false]) ∧ Below w.heap.size w w' := by
  obtain ⟨bA, B0, z⟩ := one w [.int .i64 kn, .int .i64 sa, .int .i64 ho, .int .i64 ix, .slice ga gs.length gx, .slice ca cs.length cx, .slice pa ps.length px, .int .i64 pr, .slice ma ms.length mx, .int .i64 bw, .int .i64 er] 41
  replace hg := hg.keep B0
  replace hc := hc.keep B0
  replace hp := hp.keep B0
  replace hm := hm.keep B0
  have HO := Lib.hid hok
  clear z hok
  go_enter Try.func27, Try.ntmps27
  go_wp2_with fail
  refine (smok_any ga ca pa ma gx cx px mx gs cs ps ms kn sa ho ix pr bw er _ hg hc hp hm hpl hml).mono ?_
  rw [HO.out]
  rintro e w1 ⟨rfl, hb⟩
  replace B0 := below_step B0 hb
  clear hb
  go_wp2_with fail
  exact bodyPost_ret (v := .tuple #[.slice none 0 0, .bool false]) (by simp [results, Try.results27, go_sem]) rfl ⟨rfl, B0⟩
end Go.Proofs.Ythecdnfloahoaaa
