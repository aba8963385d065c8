/-
  Groups: lists of one's own, and marks on them; lists that grow. Conditions: those in each contract.
-/
import Derived.Test.YtbcmoofpgffbhaaSB
import Derived.Test.YtbcmoofpgffbhaaGM
namespace Go.Proofs.Ytbcmoofpgffbhaa
open Go.ChangeShapes Go.WideShapes Go.ChangeAt Go.RowKit Go.BigFrame Go.Joins
set_option linter.unusedVariables false
set_option maxRecDepth 100000
set_option linter.unusedSimpArgs false
set_option maxRecDepth 100000

abbrev RdHp (w : World) (v : Value) (l : List (Int × Int)) : Prop := RdP w v l
/-- rows of hops -/
def OwHr (w : World) (S : Nat → Prop) (v : Value) (l : List (Int × Int)) : Prop := OwnHp w 0 v l ∧ (∀ k, v.ownBlock = some k → S k) ∧ l.length ≤ 1048576
theorem OwHr.agr {w w' : World} {S : Nat → Prop} {v : Value} {l : List (Int × Int)} (h : OwHr w S v l) (a : AgrS S w w') : OwHr w' S v l := ⟨row_agrS h.1 h.2.1 a, h.2⟩
theorem OwHr.rd {w : World} {S : Nat → Prop} {v : Value} {l : List (Int × Int)} (h : OwHr w S v l) : RdHp w v l := h.1.rd
def cntH (l : List (Int × Int)) : Nat := l.length * 2
def MkHr (k : Int) (l : List (Int × Int)) : Prop := MarkH k l.length l
theorem mkHr_any (v : Value) (l : List (Int × Int)) (k : Int) (S : Nat → Prop) (w : World) (h : OwHr w S v l) (hk0 : 0 ≤ k) (hk : k + (cntH l : Nat) ≤ 40000000) :
    Calls Try.prog 96 #[v, .int .i64 k] w fun e w' => ∃ l', e = .returned (.int .i64 (k + (cntH l : Nat))) ∧ cntH l' = cntH l ∧ l'.length = l.length ∧ MkHr k l' ∧ OwHr w' S v l' ∧ MidS S w w' := by
  unfold cntH at hk
  refine (markH_is v l 0 k w h.1 hk0 (by omega)).mono ?_
  rintro e w' ⟨rfl, ⟨l', hl, hm, ho⟩, hg⟩
  exact ⟨l', by unfold cntH; congr 2, by unfold cntH; rw [hl], hl, hm, ⟨ho, h.2.1, by rw [hl]; exact h.2.2⟩, .of_grown hg h.2.1⟩
theorem heldH_k (v : Value) (l : List (Int × Int)) (k : Int) (w : World) (h : RdP w v l) (hm : MarkH k l.length l) (hn : l.length ≤ 40000000) (hk0 : 0 ≤ k) (hk : k ≤ 40000000) :
    Calls Try.prog 97 #[v, .int .i64 k] w fun e w' => e = .returned (.int .i64 (k + l.length * 2)) ∧ Below w.heap.size w w' := by
  obtain ⟨a, c, rfl, hc⟩ := h.el
  obtain ⟨n, hn'⟩ : ∃ n, n = l.length := ⟨_, rfl⟩
  rw [← hn'] at hc hm hn ⊢
  clear hn' h
  have HM := Lib.hid hm
  clear hm
  go_enter Try.func97, Try.ntmps97
  go_wp2
  go_loopw [1, 5] (fun q i wr => ∃ j : Nat, j ≤ n ∧ i = .int .i64 j ∧ q = .int .i64 (k + (j : Int) * 2) ∧ Below w.heap.size w wr) (fun _ i _ => n - (intOf i).toNat)
  case atStart => exact ⟨0, Nat.zero_le _, rfl, by simp, Below.refl _ _⟩
  case round =>
    obtain ⟨j, hj, rfl, rfl, hB⟩ := hrel
    by_cases hlt : j < n
    · have hltI : (j : Int) < (n : Int) := by omega
      obtain ⟨b, o, rfl, g0, g1⟩ := hc j hlt
      rw [HM.out j hlt] at g0 g1
      dsimp only at g0 g1
      replace g0 := cell_keep hB (World.block_lt_of_cell? _ _ g0) g0
      replace g1 := cell_keep hB (World.block_lt_of_cell? _ _ g1) g1
      have hw1 : IntKind.i64.wrap (k + (j : Int) * 2 + 1) = k + (j : Int) * 2 + 1 := wrap64_in _ (by omega) (by omega)
      have hw2 : IntKind.i64.wrap (k + (j : Int) * 2 + 1 + 1) = k + (j : Int) * 2 + 1 + 1 := wrap64_in _ (by omega) (by omega)
      have hb0 : (k + (j : Int) * 2 != k + (j : Int) * 2) = false := by simp
      have hb1 : (k + (j : Int) * 2 + 1 != k + (j : Int) * 2 + 1) = false := by simp
      clear hc
      go_wp2
      go_roundw
      case rel => exact ⟨j + 1, by omega, by go_num, by congr 1; omega, hB⟩
      case measure => simp [intOf]; omega
    · have hjn : j = n := by omega
      subst hjn
      clear hc
      go_wp2
      go_ret
      exact ⟨rfl, hB⟩
theorem hdHr_any (v : Value) (l : List (Int × Int)) (k : Int) (w : World) (h : RdHp w v l) (hm : MkHr k l) (hk0 : 0 ≤ k) (hk : k + (cntH l : Nat) ≤ 40000000) :
    Calls Try.prog 97 #[v, .int .i64 k] w fun e w' => e = .returned (.int .i64 (k + (cntH l : Nat))) ∧ Below w.heap.size w w' := by
  unfold cntH at hk
  refine (heldH_k v l k w h hm (by omega) hk0 (by omega)).mono ?_
  rintro e w' ⟨rfl, hb⟩
  exact ⟨by unfold cntH; congr 2, hb⟩
def wtY (x : Grp) : Nat := x.h.length
def RdY (w : World) (yv : Value) (x : Grp) : Prop := RdHp w yv x.h
theorem RdY.keep {w w' : World} {yv : Value} {x : Grp} (h : RdY w yv x) (hb : Below w.heap.size w w') : RdY w' yv x := by
  exact RdP.keep h hb
/-- the cells of block b from o on hold it -/
def AtY (w : World) (b o : Nat) (x : Grp) : Prop :=
  ∃ yv, RdY w yv x ∧ w.cell? ⟨b, o, none⟩ = some (.int .i64 x.a) ∧ w.cell? ⟨b, o + 1, none⟩ = some (.int .i64 x.n) ∧ w.cell? ⟨b, o + 2, none⟩ = some (yv)
theorem AtY.keep {w w' : World} {b o : Nat} {x : Grp} (h : AtY w b o x) (hb : Below w.heap.size w w') : AtY w' b o x := by
  obtain ⟨yv, hr, k0, k1, k2⟩ := h
  exact ⟨yv, hr.keep hb, cell_keep hb (World.block_lt_of_cell? w _ k0) k0, cell_keep hb (World.block_lt_of_cell? w _ k1) k1, cell_keep hb (World.block_lt_of_cell? w _ k2) k2⟩
def RdYS (w : World) (v : Value) (L : List Grp) : Prop :=
  L.length ≤ 9223372036854775807 ∧
  ((∃ a c, v = .slice a 0 c ∧ L = [] ∧ (a = none → c = 0)) ∨
   ∃ b o c, v = .slice (some ⟨b, o, none⟩) L.length c ∧ 0 < L.length ∧ ∀ i, i < L.length → AtY w b (o + i * 3) (L.getD i gr0))
theorem RdYS.keep {w w' : World} {v : Value} {L : List Grp} (h : RdYS w v L) (hb : Below w.heap.size w w') : RdYS w' v L := by
  obtain ⟨h2, h3⟩ := h
  refine ⟨h2, ?_⟩
  rcases h3 with h3 | ⟨b, o, c, hv, hp, hc⟩
  · exact .inl h3
  · exact .inr ⟨b, o, c, hv, hp, fun i hi => (hc i hi).keep hb⟩
theorem RdYS.len {w : World} {v : Value} {L : List Grp} (h : RdYS w v L) : ∃ a c, v = .slice a L.length c := by
  rcases h.2 with ⟨a, c, rfl, rfl, hac⟩ | ⟨b, o, c, rfl, _⟩
  · exact ⟨a, c, rfl⟩
  · exact ⟨_, c, rfl⟩
theorem RdYS.el {w : World} {v : Value} {L : List Grp} (h : RdYS w v L) : ∃ a c, v = .slice a L.length c ∧ ∀ i, i < L.length → ∃ b o, a = some ⟨b, o, none⟩ ∧ AtY w b (o + i * 3) (L.getD i gr0) := by
  rcases h.2 with ⟨a, c, rfl, rfl, -⟩ | ⟨b, o, c, rfl, -, hc⟩
  · exact ⟨a, c, rfl, fun i hi => absurd hi (by simp)⟩
  · exact ⟨_, c, rfl, fun i hi => ⟨b, o, rfl, hc i hi⟩⟩
theorem RdYS.nil (w : World) : RdYS w (.slice none 0 0) [] := ⟨by simp, .inl ⟨none, 0, rfl, rfl, fun _ => rfl⟩⟩
def wtYS (L : List Grp) : Nat := (L.map wtY).sum
theorem wtY_take {L : List Grp} {j : Nat} (h : j < L.length) : wtYS (L.take (j + 1)) = wtYS (L.take j) + wtY (L.getD j gr0) := by
  unfold wtYS
  rw [List.take_succ_eq_append_getElem h, List.map_append, List.sum_append]
  have e : L.getD j gr0 = L[j] := by simp [List.getD, h]
  rw [e]
  simp
theorem wtY_le (L : List Grp) (j : Nat) : wtYS (L.take j) ≤ wtYS L := by
  conv => rhs; rw [← List.take_append_drop j L]
  unfold wtYS
  rw [List.map_append, List.sum_append]
  omega
theorem wtY_at {L : List Grp} {j : Nat} (h : j < L.length) : wtY (L.getD j gr0) ≤ wtYS L := by
  have h1 := wtY_take h
  have h2 := wtY_le L (j + 1)
  omega
def OwY (w : World) (S : Nat → Prop) (yv : Value) (x : Grp) : Prop := ∃ S0 : Nat → Prop, (∀ b, S0 b → S b) ∧ OwHr w S0 yv x.h
theorem OwY.agr {w w' : World} {S : Nat → Prop} {yv : Value} {x : Grp} (h : OwY w S yv x) (a : AgrS S w w') : OwY w' S yv x := by
  obtain ⟨S0, sb0, h0⟩ := h
  exact ⟨S0, sb0, h0.agr (a.sub sb0)⟩
theorem OwY.rd {w : World} {S : Nat → Prop} {yv : Value} {x : Grp} (h : OwY w S yv x) : RdY w yv x := by
  obtain ⟨S0, -, h0⟩ := h
  exact h0.rd
def cntY (x : Grp) : Nat := 2 + cntH x.h
def MkY (k : Int) (x : Grp) : Prop := x.a = k ∧ x.n = k + 1 ∧ MkHr (k + 1 + 1) x.h
/-- element i of the cells xs is that, its rows lie in blocks of E -/
def ElY (xs : List Value) (w : World) (E : Nat → Prop) (i : Nat) (x : Grp) : Prop := ∃ yv, OwY w E yv x ∧ xs[i * 3]? = some (.int .i64 x.a) ∧ xs[i * 3 + 1]? = some (.int .i64 x.n) ∧ xs[i * 3 + 2]? = some (yv)
def OwYS (w : World) (S : Nat → Prop) (v : Value) (L : List Grp) : Prop :=
  L.length ≤ 1048576 ∧ ((v = .slice none 0 0 ∧ L = []) ∨ ∃ (g cap : Nat) (xs : List Value) (E : Nat → Nat → Prop), v = .slice (some ⟨g, 0, none⟩) L.length cap ∧ S g ∧ Bl w g xs ∧ xs.length = L.length * 3 ∧
    (∀ i, i < L.length → (∀ b, E i b → S b) ∧ ¬ E i g ∧ ElY xs w (E i) i (L.getD i gr0)) ∧ ∀ i j, i < L.length → j < L.length → i ≠ j → Dj (E i) (E j))
theorem OwYS.agr {w w' : World} {S : Nat → Prop} {v : Value} {L : List Grp} (h : OwYS w S v L) (a : AgrS S w w') : OwYS w' S v L := by
  obtain ⟨hl, h | ⟨g, cap, xs, E, hv, h1, hB, hx, hE, hd⟩⟩ := h
  · exact ⟨hl, .inl h⟩
  · refine ⟨hl, .inr ⟨g, cap, xs, E, hv, h1, bl_agrS hB a h1, hx, fun i hi => ?_, hd⟩⟩
    obtain ⟨e1, e2, yv, ho, e5⟩ := hE i hi
    exact ⟨e1, e2, yv, ho.agr (a.sub e1), e5⟩
theorem OwYS.mono {w : World} {S S' : Nat → Prop} {v : Value} {L : List Grp} (h : OwYS w S v L) (hs : ∀ b, S b → S' b) : OwYS w S' v L := by
  obtain ⟨hl, h | ⟨g, cap, xs, E, hv, h1, hB, hx, hE, hd⟩⟩ := h
  · exact ⟨hl, .inl h⟩
  · exact ⟨hl, .inr ⟨g, cap, xs, E, hv, hs _ h1, hB, hx, fun i hi => ⟨fun b hb => hs _ ((hE i hi).1 b hb), (hE i hi).2⟩, hd⟩⟩
theorem OwYS.rd {w : World} {S : Nat → Prop} {v : Value} {L : List Grp} (h : OwYS w S v L) : RdYS w v L := by
  obtain ⟨hl, ⟨rfl, rfl⟩ | ⟨g, cap, xs, E, rfl, h1, hB, hx, hE, hd⟩⟩ := h
  · exact RdYS.nil w
  · refine ⟨by omega, ?_⟩
    by_cases h0 : L.length = 0
    · exact .inl ⟨some ⟨g, 0, none⟩, cap, by rw [h0], List.eq_nil_of_length_eq_zero h0, fun h => by cases h⟩
    · refine .inr ⟨g, 0, cap, rfl, by omega, fun i hi => ?_⟩
      obtain ⟨-, -, yv, ho, e0, e1, e2⟩ := hE i hi
      refine ⟨yv, ho.rd, ?_⟩
      simp only [Nat.zero_add]
      exact ⟨hB.c _ e0, hB.c _ e1, hB.c _ e2⟩
def cntYS (L : List Grp) : Nat := (L.map cntY).sum
def MkYS (k : Int) (L : List Grp) : Prop := ∀ i, i < L.length → MkY (k + (cntYS (L.take i) : Nat)) (L.getD i gr0)
theorem cntYS_take {L : List Grp} {j : Nat} (h : j < L.length) : cntYS (L.take (j + 1)) = cntYS (L.take j) + cntY (L.getD j gr0) := by
  unfold cntYS
  rw [List.take_succ_eq_append_getElem h, List.map_append, List.sum_append]
  have e : L.getD j gr0 = L[j] := by simp [List.getD, h]
  rw [e]
  simp
theorem cntYS_le (L : List Grp) (j : Nat) : cntYS (L.take j) ≤ cntYS L := by
  conv => rhs; rw [← List.take_append_drop j L]
  unfold cntYS
  rw [List.map_append, List.sum_append]
  omega
theorem cntYS_same {L L' : List Grp} (h : L'.map cntY = L.map cntY) (j : Nat) : cntYS (L'.take j) = cntYS (L.take j) := by
  unfold cntYS
  rw [List.map_take, List.map_take, h]
/-- element j turns, nothing else of the list -/
theorem OwYS.upd {w w' : World} {S : Nat → Prop} {g cap j : Nat} {xs xs' : List Value} {E : Nat → Nat → Prop} {L : List Grp} {x' : Grp} (hl : L.length ≤ 1048576) (h1 : S g) (hB : Bl w' g xs') (hx : xs'.length = L.length * 3)
    (hE : ∀ i, i < L.length → (∀ b, E i b → S b) ∧ ¬ E i g ∧ ElY xs w (E i) i (L.getD i gr0)) (hd : ∀ i j, i < L.length → j < L.length → i ≠ j → Dj (E i) (E j)) (hj : j < L.length)
    (hsame : ∀ i, i < L.length → i ≠ j → ∀ f, f < 3 → xs'[i * 3 + f]? = xs[i * 3 + f]?) (hb : ButS g (E j) w w') (hn : ElY xs' w' (E j) j x') : OwYS w' S (.slice (some ⟨g, 0, none⟩) L.length cap) (L.set j x') := by
  refine ⟨by rw [List.length_set]; exact hl, .inr ⟨g, cap, xs', E, by rw [List.length_set], h1, hB, by rw [List.length_set]; exact hx, fun i hi => ?_, fun i j hi hj' hij => hd i j (by rwa [List.length_set] at hi) (by rwa [List.length_set] at hj') hij⟩⟩
  rw [List.length_set] at hi
  obtain ⟨e1, e2, e5⟩ := hE i hi
  refine ⟨e1, e2, ?_⟩
  by_cases e : i = j
  · subst e
    rw [show (L.set i x').getD i gr0 = x' by simp [List.getD, hi]]
    exact hn
  · rw [show (L.set j x').getD i gr0 = L.getD i gr0 by simp [List.getD, List.getElem?_set, Ne.symm e]]
    obtain ⟨yv, ho, f0, f1, f2⟩ := e5
    refine ⟨yv, ho.agr (hb.agr e2 (hd i j hi hj e)), ?_, ?_, ?_⟩
    · rw [show i * 3 = i * 3 + 0 from rfl, hsame i hi e 0 (by omega)]; exact f0
    · rw [hsame i hi e 1 (by omega)]; exact f1
    · rw [hsame i hi e 2 (by omega)]; exact f2
set_option maxHeartbeats 8000000 in
theorem mkYS_any (v : Value) (L : List Grp) (k : Int) (S : Nat → Prop) (w : World) (h : OwYS w S v L) (hk0 : 0 ≤ k) (hk : k + (cntYS L : Nat) ≤ 40000000) :
    Calls Try.prog 43 #[v, .int .i64 k] w fun e w' => ∃ L', e = .returned (.int .i64 (k + (cntYS L : Nat))) ∧ cntYS L' = cntYS L ∧ L'.length = L.length ∧ MkYS k L' ∧ OwYS w' S v L' ∧ MidS S w w' := by
  obtain ⟨va, vx, hv⟩ := h.rd.len
  obtain ⟨n, hn⟩ : ∃ n, n = L.length := ⟨_, rfl⟩
  rw [← hn] at hv ⊢
  subst hv
  have hnb := h.1
  rw [← hn] at hnb
  have HN := Lib.hid hn
  have HH := Lib.hid h
  clear h hn
  go_enter Try.func43, Try.ntmps43
  go_wp2
  go_loopw [1, 5] (fun s i wr => ∃ (j : Nat) (L' : List Grp), j ≤ n ∧ i = .int .i64 j ∧ s = .int .i64 (k + (cntYS (L.take j) : Nat)) ∧ L'.length = n ∧ L'.map cntY = L.map cntY ∧ (∀ i, i < j → MkY (k + (cntYS (L'.take i) : Nat)) (L'.getD i gr0)) ∧ OwYS wr S (.slice va n vx) L' ∧ MidS S w wr) (fun _ i _ => n - (intOf i).toNat)
  case atStart => exact ⟨0, L, Nat.zero_le _, rfl, by simp [cntYS], HN.out.symm, rfl, fun i hi => by omega, HH.out, MidS.refl _ _⟩
  case round =>
    obtain ⟨j, L', hj, rfl, rfl, hlen, hcm, hyes, hO, hB⟩ := hrel
    by_cases hlt : j < n
    · have hltI : (j : Int) < (n : Int) := by omega
      obtain ⟨hl, hnil | ⟨g, cap, xs, E, hv, hSg, bX, hxl, hE, hdis⟩⟩ := hO
      · exact absurd hnil.2 (by intro q; rw [q] at hlen; simp at hlen; omega)
      simp only [Value.slice.injEq] at hv
      obtain ⟨rfl, -, rfl⟩ := hv
      obtain ⟨e1, e2, yv, ho, x0, x1, x2⟩ := hE j (by omega)
      obtain ⟨x, hx⟩ : ∃ x, L'.getD j gr0 = x := ⟨_, rfl⟩
      rw [hx] at ho x0 x1
      have HX := Lib.hid hx
      have hcnt := cntYS_take (L := L') (j := j) (by omega)
      rw [cntYS_same hcm, cntYS_same hcm, hx] at hcnt
      have hle := cntYS_le L (j + 1)
      obtain ⟨r0, hr0⟩ : ∃ r : Int, r = k + (cntYS (L.take j) : Nat) := ⟨_, rfl⟩
      have hend : r0 + (cntY x : Nat) = k + (cntYS (L.take (j + 1)) : Nat) := by omega
      have hbd : 0 ≤ r0 ∧ r0 + (cntY x : Nat) ≤ 40000000 := by omega
      rw [← hr0]
      have HR0 := Lib.hid hr0
      have HEND := Lib.hid hend
      have HYES := Lib.hid hyes
      have HCM := Lib.hid hcm
      have HLL := Lib.hid (And.intro hl hlen)
      have HEE := Lib.hid hE
      have HDD := Lib.hid hdis
      have HXL := Lib.hid hxl
      clear hr0 hend hyes hcm hcnt hle hE hdis hx hl hlen hxl
      obtain ⟨S0, sb0, o0⟩ := ho
      unfold cntY at hbd
      obtain ⟨r1, hr1⟩ : ∃ r : Int, r = r0 + 1 := ⟨_, rfl⟩
      obtain ⟨r2, hr2⟩ : ∃ r : Int, r = r1 + 1 := ⟨_, rfl⟩
      obtain ⟨r3, hr3⟩ : ∃ r : Int, r = r2 + (cntH x.h : Nat) := ⟨_, rfl⟩
      have b0 : 0 ≤ r0 ∧ r0 ≤ 40000000 := by omega
      have b1 : 0 ≤ r1 ∧ r1 ≤ 40000000 := by omega
      have b2 : 0 ≤ r2 ∧ r2 ≤ 40000000 := by omega
      have b3 : 0 ≤ r3 ∧ r3 ≤ 40000000 := by omega
      have w0 : IntKind.i64.wrap (r0 + 1) = r1 := by rw [hr1]; exact wrap64_in _ (by omega) (by omega)
      have w1 : IntKind.i64.wrap (r1 + 1) = r2 := by rw [hr2]; exact wrap64_in _ (by omega) (by omega)
      have Q1 := Lib.hid hr1
      have Q2 := Lib.hid hr2
      have Q3 := Lib.hid hr3
      clear hr1 hr2 hr3 hbd
      have but : ButS g (E j) wr wr := ButS.refl _ _ _
      have y0 := bX.c (j * 3) (x0)
      have z0 := bX.f (j * 3) (x0)
      have y1 := bX.c (j * 3 + 1) (x1)
      have z1 := bX.f (j * 3 + 1) (x1)
      have y2 := bX.c (j * 3 + 2) (x2)
      go_wp2_with fail
      clear y0 z0 y1 z1 y2
      replace bX := bX.set (j * 3) (.int .i64 r0)
      replace but := but.set (o := j * 3) (u := .int .i64 r0)
      replace o0 := o0.agr (agr_setS (g := g) (o := j * 3) (u := .int .i64 r0) _ (fun h => e2 (sb0 _ h)))
      replace bX := bX.set (j * 3 + 1) (.int .i64 r1)
      replace but := but.set (o := j * 3 + 1) (u := .int .i64 r1)
      replace o0 := o0.agr (agr_setS (g := g) (o := j * 3 + 1) (u := .int .i64 r1) _ (fun h => e2 (sb0 _ h)))
      obtain ⟨X0, hX0⟩ : ∃ X, X = ((wr.setCell ⟨g, j * 3, none⟩ (.int .i64 r0)).setCell ⟨g, j * 3 + 1, none⟩ (.int .i64 r1)) := ⟨_, rfl⟩
      rw [← hX0] at bX but o0 ⊢
      clear hX0
      refine (mkHr_any _ x.h r2 _ X0 o0 (by omega) (by have := Q3.out; omega)).mono ?_
      rintro e w1 ⟨nw0, rfl, s0, lm0, t0, o0, mid⟩
      rw [← Q3.out]
      replace bX := mid.bl bX (fun h => e2 (sb0 _ h))
      replace but := but.mid mid sb0
      clear mid
      have KB := Lib.hid bX
      go_wp2
      go_roundw
      case rel =>
        have hup := OwYS.upd (cap := vx) (x' := ⟨r0, r1, nw0⟩) HLL.out.1 hSg bX (by simpa using HXL.out) HEE.out HDD.out (by have := HLL.out; omega) (fun i hi hij f hf => by rw [List.getElem?_set_ne (by omega)]; rw [List.getElem?_set_ne (by omega)]) but
          ⟨yv, ⟨S0, sb0, o0⟩, by rw [List.getElem?_set_ne (by omega)]; rw [List.getElem?_set_self (by (try simp only [List.length_set]); have := HXL.out; have := HLL.out; omega)], by rw [List.getElem?_set_self (by (try simp only [List.length_set]); have := HXL.out; have := HLL.out; omega)], by rw [List.getElem?_set_ne (by omega)]; rw [List.getElem?_set_ne (by omega)]; exact x2⟩
        rw [HLL.out.2] at hup
        have hc2 : cntY ⟨r0, r1, nw0⟩ = cntY x := by unfold cntY; simp only [s0]
        refine ⟨j + 1, L'.set j ⟨r0, r1, nw0⟩, by omega, by go_num, ?_, by rw [List.length_set]; exact HLL.out.2, ?_, fun i hi => ?_, hup, ?_⟩
        · rw [← HEND.out]
          unfold cntY
          have := Q1.out
          have := Q2.out
          have := Q3.out
          congr 1
          omega
        · rw [List.map_set, hc2, ← HX.out, List.getD_eq_getElem?_getD, List.getElem?_eq_getElem (by have := HLL.out; omega)]
          rw [← HCM.out]
          apply List.ext_getElem?
          intro i
          by_cases e : j = i
          · subst e; rw [List.getElem?_set_self (by rw [List.length_map]; have := HLL.out; omega), List.getElem?_map, List.getElem?_eq_getElem (by have := HLL.out; omega)]; rfl
          · rw [List.getElem?_set_ne e]
        · by_cases e : i = j
          · subst e
            rw [show (L'.set i ⟨r0, r1, nw0⟩).getD i gr0 = ⟨r0, r1, nw0⟩ by simp [List.getD, show i < L'.length by have := HLL.out; omega], List.take_set_of_le (Nat.le_refl i), cntYS_same HCM.out, ← HR0.out]
            refine ⟨?_, ?_, ?_⟩
            · (try rfl)
            · rw [show r0 + 1 = r1 by have := Q1.out; first | omega | (simp only [s0]; omega) | simp only [s0]]; (try rfl)
            · rw [show r0 + 1 + 1 = r2 by have := Q1.out; have := Q2.out; first | omega | (simp only [s0]; omega) | simp only [s0]]; exact t0
          · rw [show (L'.set j ⟨r0, r1, nw0⟩).getD i gr0 = L'.getD i gr0 by simp [List.getD, List.getElem?_set, Ne.symm e], List.take_set_of_le (by omega)]
            exact HYES.out i (by omega)
        · exact hB.trans (but.midS e1 hSg)
      case measure => simp [intOf]; omega
    · have hkn : j = n := by omega
      subst hkn
      have HT : Hid (L.take j = L) := Lib.hid (List.take_of_length_le (by rw [HN.out]; exact Nat.le_refl _))
      have HF := Lib.hid (And.intro hcm (And.intro hyes (And.intro hO (And.intro hB hlen))))
      clear hcm hyes hO hB hlen
      go_wp2
      go_ret
      obtain ⟨hcm, hyes, hO, hB, hlen⟩ := HF.out
      refine ⟨L', by first | rfl | (rw [HT.out]; rfl), ?_, hlen, fun i hi => hyes i (by omega), hO, hB⟩
      unfold cntYS
      rw [hcm]
set_option maxHeartbeats 4000000 in
theorem hdYS_any (v : Value) (L : List Grp) (k : Int) (w : World) (h : RdYS w v L) (hm : MkYS k L) (hk0 : 0 ≤ k) (hk : k + (cntYS L : Nat) ≤ 40000000) :
    Calls Try.prog 45 #[v, .int .i64 k] w fun e w' => e = .returned (.int .i64 (k + (cntYS L : Nat))) ∧ Below w.heap.size w w' := by
  have hnn := h.1
  obtain ⟨a, c, rfl, hc⟩ := h.el
  obtain ⟨n, hn⟩ : ∃ n, n = L.length := ⟨_, rfl⟩
  rw [← hn] at hc hnn ⊢
  have HN := Lib.hid hn
  have HM := Lib.hid hm
  clear h hn hm
  go_enter Try.func45, Try.ntmps45
  go_wp2
  go_loopw [1, 5] (fun s i wr => ∃ j : Nat, j ≤ n ∧ i = .int .i64 j ∧ s = .int .i64 (k + (cntYS (L.take j) : Nat)) ∧ Below w.heap.size w wr) (fun _ i _ => n - (intOf i).toNat)
  case atStart => exact ⟨0, Nat.zero_le _, rfl, by simp [cntYS], Below.refl _ _⟩
  case round =>
    obtain ⟨j, hj, rfl, rfl, hB⟩ := hrel
    by_cases hlt : j < n
    · have hltI : (j : Int) < (n : Int) := by omega
      obtain ⟨b, o, rfl, hE⟩ := hc j hlt
      obtain ⟨x, hx⟩ : ∃ x, L.getD j gr0 = x := ⟨_, rfl⟩
      have hmx := HM.out j (by rw [← HN.out]; exact hlt)
      rw [hx] at hE hmx
      obtain ⟨yv, o0, g0, g1, g2⟩ := hE.keep hB
      have hcnt := cntYS_take (L := L) (j := j) (by rw [← HN.out]; exact hlt)
      rw [hx] at hcnt
      have hle := cntYS_le L (j + 1)
      obtain ⟨r0, hr0⟩ : ∃ r : Int, r = k + (cntYS (L.take j) : Nat) := ⟨_, rfl⟩
      have hend : r0 + (cntY x : Nat) = k + (cntYS (L.take (j + 1)) : Nat) := by omega
      have hbd : 0 ≤ r0 ∧ r0 + (cntY x : Nat) ≤ 40000000 := by omega
      rw [← hr0] at hmx ⊢
      have HEND := Lib.hid hend
      have HC := Lib.hid hc
      clear hr0 hend hcnt hle hx hc hE
      unfold cntY at hbd
      unfold MkY at hmx
      obtain ⟨a0, a1, a2⟩ := hmx
      obtain ⟨r1, hr1⟩ : ∃ r : Int, r = r0 + 1 := ⟨_, rfl⟩
      have t0 : x.a = r0 := by rw [a0]; (try omega)
      rw [t0] at g0
      obtain ⟨r2, hr2⟩ : ∃ r : Int, r = r1 + 1 := ⟨_, rfl⟩
      have t1 : x.n = r1 := by rw [a1]; (try omega)
      rw [t1] at g1
      obtain ⟨r3, hr3⟩ : ∃ r : Int, r = r2 + (cntH x.h : Nat) := ⟨_, rfl⟩
      have t2 : MkHr r2 x.h := by
        have e : r0 + 1 + 1 = r2 := by omega
        rw [← e]; exact a2
      have b0 : 0 ≤ r0 ∧ r0 ≤ 40000000 := by omega
      have b1 : 0 ≤ r1 ∧ r1 ≤ 40000000 := by omega
      have b2 : 0 ≤ r2 ∧ r2 ≤ 40000000 := by omega
      have b3 : 0 ≤ r3 ∧ r3 ≤ 40000000 := by omega
      have ng0 : ¬ r0 < 0 := by omega
      have ng1 : ¬ r1 < 0 := by omega
      have ng2 : ¬ r2 < 0 := by omega
      have ng3 : ¬ r3 < 0 := by omega
      have w0 : IntKind.i64.wrap (r0 + 1) = r1 := by rw [hr1]; exact wrap64_in _ (by omega) (by omega)
      have e0 : (r0 != r0) = false := by simp
      have w1 : IntKind.i64.wrap (r1 + 1) = r2 := by rw [hr2]; exact wrap64_in _ (by omega) (by omega)
      have e1 : (r1 != r1) = false := by simp
      have Q1 := Lib.hid hr1
      have Q2 := Lib.hid hr2
      have Q3 := Lib.hid hr3
      clear hr1 hr2 hr3 hbd a0 a1 a2 t0 t1
      go_wp2_with fail
      refine (hdHr_any _ x.h r2 _ o0 t2 (by omega) (by have := Q3.out; omega)).mono ?_
      rintro e v2 ⟨rfl, hb⟩
      rw [← Q3.out]
      replace hB := below_step hB hb
      clear hb
      go_wp2
      go_roundw
      case rel => exact ⟨j + 1, by omega, by go_num, by rw [← HEND.out]; unfold cntY; have := Q1.out; have := Q2.out; have := Q3.out; congr 1; omega, hB⟩
      case measure => simp [intOf]; omega
    · have hkn : j = n := by omega
      subst hkn
      have HT : Hid (L.take j = L) := Lib.hid (List.take_of_length_le (by rw [HN.out]; exact Nat.le_refl _))
      clear hc
      go_wp2
      go_ret
      exact ⟨by first | rfl | (rw [HT.out]; rfl), hB⟩
theorem rdY_of {w : World} {v : Value} {L : List Grp} (h : RdG w v L) : RdYS w v L := by
  refine ⟨h.1, ?_⟩
  rcases h.2 with q | ⟨b, o, c, hv, hp, hc⟩
  · exact .inl q
  · exact .inr ⟨b, o, c, hv, hp, fun i hi => hc i hi⟩
theorem rdG_of {w : World} {v : Value} {L : List Grp} (h : RdYS w v L) : RdG w v L := by
  refine ⟨h.1, ?_⟩
  rcases h.2 with q | ⟨b, o, c, hv, hp, hc⟩
  · exact .inl q
  · exact .inr ⟨b, o, c, hv, hp, fun i hi => hc i hi⟩
theorem wtY_eq (L : List Grp) : wtYS L = wtG L := rfl
theorem toY_o (yv : Value) (x : Grp) (w : World) (h : RdY w yv x) (hw : wtY x ≤ 1048576) :
    Calls Try.prog 34 #[.agg #[.int .i64 x.a, .int .i64 x.n, yv]] w fun e w' => ∃ yv, e = .returned (.agg #[.int .i64 x.a, .int .i64 x.n, yv]) ∧ OwY w' (Rg w.heap.size w'.heap.size) yv x ∧ Below w.heap.size w w' := by
  refine (toGrp_any yv x.h x.a x.n w h hw).mono ?_
  rintro e w' ⟨pa, px, rfl, ho, hb⟩
  exact ⟨_, rfl, ⟨Rg w.heap.size w'.heap.size, fun b q => q, ho.mono (Nat.zero_le _), fun k q => World.ownsRow.lt ho k q, hw⟩, hb⟩
def MadeOY (w : World) (B n j : Nat) (L : List Grp) : Prop := ∃ (xs : List Value) (E : Nat → Nat → Prop), xs.length = n * 3 ∧ Bl w B xs ∧ (∀ i, i < j → (∀ b, E i b → B < b ∧ b < w.heap.size) ∧ ElY xs w (E i) i (L.getD i gr0)) ∧ ∀ i i', i < j → i' < j → i ≠ i' → Dj (E i) (E i')
theorem MadeOY.keep {w w' : World} {B n j : Nat} {L : List Grp} (h : MadeOY w B n j L) (hb : Below w.heap.size w w') : MadeOY w' B n j L := by
  obtain ⟨xs, E, hl, hB, hx, hd⟩ := h
  refine ⟨xs, E, hl, hB.keep hb, fun i hi => ?_, hd⟩
  obtain ⟨h1, yv, h2, h3⟩ := hx i hi
  exact ⟨fun b q => ⟨(h1 b q).1, Nat.lt_of_lt_of_le (h1 b q).2 hb.size⟩, yv, h2.agr (.of_below hb), h3⟩
theorem MadeOY.cell {w : World} {B n k : Nat} {L : List Grp} (h : MadeOY w B n k L) (j : Nat) (hj : j < n * 3) : ∃ x, w.cell? ⟨B, j, none⟩ = some x ∧ w.frozen? ⟨B, j, none⟩ = false := by
  obtain ⟨xs, E, hl, hB, hx, -⟩ := h
  exact ⟨_, hB.c j (List.getElem?_eq_getElem (by omega)), hB.f j (List.getElem?_eq_getElem (by omega))⟩
/-- element j has been copied in the world from w0 on -/
theorem MadeOY.step {w0 w : World} {B n j : Nat} {L : List Grp} (h0 : MadeOY w0 B n j L) (hb : Below w0.heap.size w0 w) (hB0 : B < w0.heap.size) (hk : j < n) {yv : Value} {x : Grp} (hE : L.getD j gr0 = x) (h1 : OwY w (Rg w0.heap.size w.heap.size) yv x) :
    MadeOY (((w.setCell ⟨B, j * 3, none⟩ (.int .i64 x.a)).setCell ⟨B, j * 3 + 1, none⟩ (.int .i64 x.n)).setCell ⟨B, j * 3 + 2, none⟩ (yv)) B n (j + 1) L := by
  obtain ⟨xs, E, hl, hB, hx, hd⟩ := h0
  replace hB := hB.keep hb
  have hsz : (((w.setCell ⟨B, j * 3, none⟩ (.int .i64 x.a)).setCell ⟨B, j * 3 + 1, none⟩ (.int .i64 x.n)).setCell ⟨B, j * 3 + 2, none⟩ (yv)).heap.size = w.heap.size := by simp
  refine ⟨(((xs.set (j * 3) (.int .i64 x.a)).set (j * 3 + 1) (.int .i64 x.n)).set (j * 3 + 2) (yv)), fun i => if i = j then Rg w0.heap.size w.heap.size else E i, by simpa using hl, (((hB.set (j * 3) (.int .i64 x.a)).set (j * 3 + 1) (.int .i64 x.n)).set (j * 3 + 2) (yv)), fun i hi => ?_, fun i i' hi hi' hne => ?_⟩
  · by_cases e : i = j
    · have e' := e.symm
      subst e'
      (try dsimp only)
      rw [if_pos rfl, hE]
      have hn : ¬ Rg w0.heap.size w.heap.size B := fun q => by have := q.1; omega
      refine ⟨fun b q => ⟨by have := q.1; omega, by rw [hsz]; exact q.2⟩, yv, h1.agr ((((AgrS.refl _ _).trans (agr_setS _ hn)).trans (agr_setS _ hn)).trans (agr_setS _ hn)), ?_, ?_, ?_⟩
      all_goals simp only [List.getElem?_set, List.length_set]
      all_goals simp (disch := omega) [hl]
      all_goals omega
    · (try dsimp only)
      rw [if_neg e]
      obtain ⟨g0, v0, g1, c0, c1, c2⟩ := hx i (by omega)
      have hn : ¬ E i B := fun q => by have := (g0 B q).1; omega
      refine ⟨fun b q => ⟨(g0 b q).1, by rw [hsz]; exact Nat.lt_of_lt_of_le (g0 b q).2 hb.size⟩, v0, (g1.agr (.of_below hb)).agr ((((AgrS.refl _ _).trans (agr_setS _ hn)).trans (agr_setS _ hn)).trans (agr_setS _ hn)), ?_, ?_, ?_⟩
      all_goals (repeat rw [List.getElem?_set_ne (by omega)])
      all_goals assumption
  · intro b q1 q2
    (try dsimp only at q1 q2)
    by_cases e : i = j
    · rw [if_pos e] at q1
      rw [if_neg (fun e' => hne (e.trans e'.symm))] at q2
      have := ((hx i' (by omega)).1 b q2).2
      have := q1.1
      omega
    · rw [if_neg e] at q1
      by_cases e' : i' = j
      · rw [if_pos e'] at q2
        have := ((hx i (by omega)).1 b q1).2
        have := q2.1
        omega
      · rw [if_neg e'] at q2
        exact hd i i' (by omega) (by omega) hne b q1 q2
theorem MadeOY.own {w : World} {B n a : Nat} {L : List Grp} (h : MadeOY w B n n L) (hn : n = L.length) (ha : a ≤ B) (hl : L.length ≤ 1048576) : OwYS w (Rg a w.heap.size) (.slice (some ⟨B, 0, none⟩) n n) L := by
  obtain ⟨xs, E, hxl, hB, hx, hd⟩ := h
  subst hn
  refine ⟨hl, .inr ⟨B, L.length, xs, E, rfl, ⟨ha, hB.lt⟩, hB, hxl, fun i hi => ?_, hd⟩⟩
  obtain ⟨g0, g1⟩ := hx i hi
  exact ⟨fun b q => ⟨by have := (g0 b q).1; omega, (g0 b q).2⟩, fun q => by have := (g0 B q).1; omega, g1⟩
theorem infoOY : (Try.prog.info? 70).map (fun i => (i.zero, i.size, i.bytes)) = some (some (.agg #[.int .i64 0, .int .i64 0, .slice none 0 0]), 3, 40) := by kernel_rfl
theorem makeO_Y (t : TypeId) (ht : Try.prog.underlying t = some (.slice 70)) (n : Nat) (hn : n ≤ 1048576) (w : World) :
    (Instr.makeSlice t (.int .i64 (n : Int)) (.int .i64 (n : Int))).run Try.prog w = .ok (.slice (some ⟨w.heap.size, 0, none⟩) n n) (w.alloc (.cells (madeCells #[Value.int .i64 0, Value.int .i64 0, Value.slice none 0 0] (n * 3)) 70)) := by
  obtain ⟨i, hi, hzz⟩ := Option.map_eq_some_iff.1 infoOY
  simp only [Prod.mk.injEq] at hzz
  obtain ⟨hz, hs, hb⟩ := hzz
  have hr := run_make (P := Try.prog) w t 70 i _ ht hi hz .i64 .i64 n n (by omega) (Int.le_refl _) (by rw [hb]; omega) (by omega)
  simpa only [Int.toNat_natCast, hs, Value.cells] using hr
theorem madeOY_start (w : World) (n : Nat) (L : List Grp) : MadeOY (w.alloc (.cells (madeCells #[Value.int .i64 0, Value.int .i64 0, Value.slice none 0 0] (n * 3)) 70)) w.heap.size n 0 L := by
  refine ⟨(madeCells #[Value.int .i64 0, Value.int .i64 0, Value.slice none 0 0] (n * 3)).toList, fun _ _ => False, by simp [size_madeCells], ?_, fun i hi => absurd hi (Nat.not_lt_zero _), fun i i' hi => absurd hi (Nat.not_lt_zero _)⟩
  have := Bl.new w (madeCells #[Value.int .i64 0, Value.int .i64 0, Value.slice none 0 0] (n * 3)).toList 70 w.heap.size rfl
  simpa using this
set_option maxHeartbeats 2000000 in
theorem toYS_o (v : Value) (L : List Grp) (w : World) (h : RdYS w v L) (hn : L.length + wtYS L ≤ 1048576) :
    Calls Try.prog 50 #[v] w fun e w' => ∃ u, e = .returned u ∧ OwYS w' (Rg w.heap.size w'.heap.size) u L ∧ Below w.heap.size w w' := by
  have hmk := fun W => makeO_Y 55 Try.underlying55 L.length (by omega) W
  obtain ⟨a, c, rfl, hc⟩ := h.el
  obtain ⟨n, hn'⟩ : ∃ n, n = L.length := ⟨_, rfl⟩
  rw [← hn'] at hc hn hmk ⊢
  have hnn : n ≤ 1048576 := by omega
  have HN := Lib.hid hn'
  have HW := Lib.hid hn
  clear hn' h hn
  obtain ⟨B, hBB⟩ : ∃ B, B = w.heap.size := ⟨_, rfl⟩
  have hst := madeOY_start w n L
  rw [← hBB] at hst
  have HS := Lib.hid hst
  have HBB := Lib.hid hBB
  have hwB : w.heap.size ≤ B := by omega
  clear hst
  go_enter Try.func50, Try.ntmps50
  go_wp2
  rw [← hBB]
  clear hmk hBB
  go_loopw [4] (fun i wr => ∃ j : Nat, j ≤ n ∧ i = .int .i64 j ∧ MadeOY wr B n j L ∧ Below w.heap.size w wr) (fun i _ => n - (intOf i).toNat)
  case atStart => exact ⟨0, Nat.zero_le _, rfl, HS.out, (Below.refl _ _).alloc (Nat.le_refl _) _⟩
  case round =>
    obtain ⟨j, hj, rfl, hM, hB⟩ := hrel
    by_cases hlt : j < n
    · have hltI : (j : Int) < (n : Int) := by omega
      obtain ⟨b, o, rfl, hE⟩ := hc j hlt
      obtain ⟨x, hx⟩ : ∃ x, L.getD j gr0 = x := ⟨_, rfl⟩
      rw [hx] at hE
      obtain ⟨yv, hr, k0, k1, k2⟩ := hE.keep hB
      have HX := Lib.hid hx
      have HCC := Lib.hid hc
      clear hx hc hE
      have hwx : wtY x ≤ 1048576 := by
        have h1 := wtY_at (L := L) (j := j) (by rw [← HN.out]; exact hlt)
        rw [HX.out] at h1
        have := HW.out
        omega
      have hBW : B < wr.heap.size := by
        obtain ⟨xs, E, hl, hBl, -⟩ := hM
        exact hBl.lt
      have HMM := Lib.hid hM
      go_wp2_with fail
      refine (toY_o yv x _ hr hwx).mono ?_
      clear hr hwx k0 k1 k2
      rintro e w2 ⟨yv, rfl, h1, hb⟩
      have hM2 := hM.keep hb
      have hB2 := below_step hB hb
      clear hM hB
      obtain ⟨yva, yvx, rfl⟩ := (h1.rd).len
      obtain ⟨p0, g0, f0⟩ := hM2.cell (j * 3) (by omega)
      obtain ⟨p1, g1, f1⟩ := hM2.cell (j * 3 + 1) (by omega)
      obtain ⟨p2, g2, f2⟩ := hM2.cell (j * 3 + 2) (by omega)
      have HM := Lib.hid (HMM.out.step hb hBW hlt HX.out h1)
      have hB3 := (((hB2.setCell (p := ⟨B, j * 3, none⟩) hwB (.int .i64 x.a)).setCell (p := ⟨B, j * 3 + 1, none⟩) hwB (.int .i64 x.n)).setCell (p := ⟨B, j * 3 + 2, none⟩) hwB (.slice yva x.h.length yvx))
      clear hM2 hB2 h1 hb
      go_wp2
      go_roundw
      case rel => exact ⟨j + 1, by omega, by go_num, HM.out, hB3⟩
      case measure => simp [intOf]; omega
    · have hkn : j = n := by omega
      subst hkn
      clear hc
      have HF := Lib.hid (hM.own (a := w.heap.size) HN.out hwB (by rw [← HN.out]; exact hnn))
      go_wp2
      go_ret
      exact ⟨.slice (some ⟨B, 0, none⟩) j j, rfl, HF.out, hB⟩
theorem ElY.app {xs : List Value} {w : World} {E : Nat → Prop} {i : Nat} {x : Grp} (h : ElY xs w E i x) (ys : List Value) : ElY (xs ++ ys) w E i x := by
  obtain ⟨yv, ho, k0, k1, k2⟩ := h
  exact ⟨yv, ho, app_some k0, app_some k1, app_some k2⟩
theorem ElY.agr {xs : List Value} {w w' : World} {E : Nat → Prop} {i : Nat} {x : Grp} (h : ElY xs w E i x) (a : AgrS E w w') : ElY xs w' E i x := by
  obtain ⟨yv, ho, k⟩ := h
  exact ⟨yv, ho.agr a, k⟩
/-- a list of the call's own that grows -/
structure GrYS (w : World) (base : Nat) (v : Value) (L : List Grp) (xs : List Value) : Prop where
  row : w.ownsRow base 70 3 v L.length xs
  el : ∃ E : Nat → Nat → Prop, (∀ i, i < L.length → (∀ b, E i b → base ≤ b ∧ b < w.heap.size) ∧ (∀ b, E i b → v.ownBlock ≠ some b) ∧ ElY xs w (E i) i (L.getD i gr0)) ∧ ∀ i j, i < L.length → j < L.length → i ≠ j → Dj (E i) (E j)
theorem GrYS.nil (w : World) (base : Nat) : GrYS w base (.slice none 0 0) [] [] := ⟨World.ownsRow_nil _ _ _ _, fun _ _ => False, fun i hi => absurd hi (by simp), fun i j hi => absurd hi (by simp)⟩
theorem GrYS.agr {w w' : World} {base : Nat} {v : Value} {L : List Grp} {xs : List Value} (h : GrYS w base v L xs) (a : AgrS (fun b => base ≤ b) w w') : GrYS w' base v L xs := by
  obtain ⟨hr, E, hE, hd⟩ := h
  refine ⟨row_agrS hr (fun k hk => (World.ownsRow.lt hr k hk).1) a, E, fun i hi => ?_, hd⟩
  obtain ⟨e1, e2, e3⟩ := hE i hi
  exact ⟨fun b hb => ⟨(e1 b hb).1, Nat.lt_of_lt_of_le (e1 b hb).2 a.1⟩, e2, e3.agr (a.sub fun b hb => (e1 b hb).1)⟩
theorem GrYS.keep {w w' : World} {base : Nat} {v : Value} {L : List Grp} {xs : List Value} (h : GrYS w base v L xs) (b : Below w.heap.size w w') : GrYS w' base v L xs := h.agr (.of_below b)
theorem GrYS.far {w : World} {base B o : Nat} {v u : Value} {L : List Grp} {xs : List Value} (h : GrYS w base v L xs) (hB : B < base) : GrYS (w.setCell ⟨B, o, none⟩ u) base v L xs := h.agr (agr_setS w (by omega))
theorem GrYS.lenV {w : World} {base : Nat} {v : Value} {L : List Grp} {xs : List Value} (h : GrYS w base v L xs) : ∃ a c, v = .slice a L.length c := by
  rcases h.row.2 with ⟨hv, hn⟩ | ⟨g, cap, cur, hv, _⟩
  · exact ⟨none, 0, by rw [hv, hn]⟩
  · exact ⟨_, cap, hv⟩
theorem GrYS.step {w0 w1 w4 : World} {base : Nat} {v v' : Value} {L : List Grp} {xs : List Value} {S : Nat → Prop} {yv : Value} {x : Grp} (h : GrYS w0 base v L xs) (hb : base ≤ w0.heap.size) (B : Below w0.heap.size w0 w1) (o : OwY w1 S yv x)
    (hS : ∀ b, S b → w0.heap.size ≤ b ∧ b < w1.heap.size) (hrow : w4.ownsRow base 70 3 v' (L.length + 1) (xs ++ [.int .i64 x.a, .int .i64 x.n, yv])) (hg : w1.grownBy w4 v.ownBlock) (hor : v'.ownBlock = v.ownBlock ∨ v'.ownBlock = some w1.heap.size) : GrYS w4 base v' (L ++ [x]) (xs ++ [.int .i64 x.a, .int .i64 x.n, yv]) := by
  obtain ⟨hr, E, hE, hd⟩ := h
  have hxl := hr.1
  have hv := World.ownsRow.lt hr
  have B' := B.size
  have hg' := hg.size
  refine ⟨by simpa using hrow, fun i => if i = L.length then S else E i, fun i hi => ?_, fun i j hi hj hne => ?_⟩
  · dsimp only
    by_cases hi1 : i = L.length
    · subst hi1
      rw [if_pos rfl, show (L ++ [x]).getD L.length gr0 = x by simp [List.getD]]
      refine ⟨fun b q => ⟨Nat.le_trans hb (hS b q).1, Nat.lt_of_lt_of_le (hS b q).2 hg'⟩, fun b q e => ?_, yv, o.agr ⟨hg', fun b q l => hg.block b l fun e => ?_⟩, by rw [List.getElem?_append_right (by omega), show L.length * 3 - xs.length = 0 by omega]; rfl, by rw [List.getElem?_append_right (by omega), show L.length * 3 + 1 - xs.length = 1 by omega]; rfl, by rw [List.getElem?_append_right (by omega), show L.length * 3 + 2 - xs.length = 2 by omega]; rfl⟩
      · have hb1 := hS b q
        rcases hor with r | r
        · have := (hv b (by rw [← r]; exact e)).2; omega
        · rw [r] at e; cases e; omega
      · have hb1 := hS b q
        have := (hv b e.symm).2; omega
    · have hi2 : i < L.length := by simp at hi; omega
      obtain ⟨e1, e2, e3⟩ := hE i hi2
      rw [if_neg hi1, show (L ++ [x]).getD i gr0 = L.getD i gr0 by simp [List.getD, List.getElem?_append_left hi2]]
      refine ⟨fun b q => ⟨(e1 b q).1, by have := (e1 b q).2; omega⟩, fun b q e => ?_, (e3.agr ⟨by omega, fun b q l => ?_⟩).app _⟩
      · rcases hor with r | r
        · exact e2 b q (by rw [← r]; exact e)
        · have := (e1 b q).2
          rw [r] at e; cases e; omega
      · have := (e1 b q).2
        exact (hg.block b (by omega) (fun e => e2 b q e.symm)).trans (B.block b this)
  · have hi' : i < L.length + 1 := by simpa using hi
    have hj' : j < L.length + 1 := by simpa using hj
    dsimp only
    by_cases hi1 : i = L.length
    · have hj2 : j < L.length := by omega
      rw [if_pos hi1, if_neg (by omega)]
      intro b q r
      have h1 := hS b q
      have h2 := ((hE j hj2).1 b r).2
      omega
    · by_cases hj1 : j = L.length
      · rw [if_neg hi1, if_pos hj1]
        intro b q r
        have h1 := hS b r
        have h2 := ((hE i (by omega)).1 b q).2
        omega
      · rw [if_neg hi1, if_neg hj1]
        exact hd i j (by omega) (by omega) hne
theorem GrYS.own {w : World} {base : Nat} {v : Value} {L : List Grp} {xs : List Value} (h : GrYS w base v L xs) (hl : L.length ≤ 1048576) : OwYS w (Rg base w.heap.size) v L := by
  obtain ⟨hr, E, hE, hd⟩ := h
  have hv := World.ownsRow.lt hr
  refine ⟨hl, ?_⟩
  rcases hr.2 with ⟨rfl, hn⟩ | ⟨g, cap, cur, rfl, hb, hc, rest⟩
  · exact .inl ⟨rfl, List.eq_nil_of_length_eq_zero hn⟩
  · have hgl := hv g rfl
    refine .inr ⟨g, cap, xs, E, rfl, hgl, ⟨hgl.2, fun i x e => ?_, fun i hi => World.ownsRow.frozenAt hr i⟩, hr.1, fun i hi => ?_, hd⟩
    · have hil : i < xs.length := (List.getElem?_eq_some_iff.1 e).1
      exact (World.ownsRow.cellAt hr i (by rw [← hr.1]; exact hil)).trans e
    · obtain ⟨e1, e2, e3⟩ := hE i hi
      exact ⟨e1, fun q => e2 g q rfl, e3⟩
theorem below_grY {V w w' : World} {base : Nat} {v : Value} {L : List Grp} {xs : List Value} (h : Below V.heap.size V w) (ho : GrYS w base v L xs) (hb : V.heap.size ≤ base) (hg : w.grownBy w' v.ownBlock) : Below V.heap.size V w' :=
  Below.grown h hg h.size (fun k hk => Nat.le_trans hb (World.ownsRow.lt ho.row k hk).1)
theorem ne_grY {w : World} {base B : Nat} {v : Value} {L : List Grp} {xs : List Value} (h : GrYS w base v L xs) (hB : B < base) : some B ≠ v.ownBlock := fun q => by
  have := (World.ownsRow.lt h.row B q.symm).1
  omega
theorem wp_apY {ops : Array Oper} {rest : List Oper} {o : Oper} {a : Act} {Q : Exit → Act → World → Prop} {w : World} (hgd : o.guard = none) (s x : Operand)
    (ho : o.op = .call { callee := .builtin .append, args := #[s, x], argTypes := #[55, 55] })
    (base g c : Nat) (v : Value) (n : Nat) (xs : List Value) (ys : List Value) (hs : a.eval s = v) (hx : a.eval x = .slice (some ⟨g, 0, none⟩) 1 c) (hown : w.ownsRow base 70 3 v n xs)
    (h0 : Bl w g ys) (h7 : ys.length = 3) (h1 : ∀ u ∈ ys, u.oneCell' = true) (hlen : n + 1 ≤ 4294967296) (hbase : base ≤ w.heap.size)
    (h : ∀ v' w', w'.ownsRow base 70 3 v' (n + 1) (xs ++ ys) → w.grownBy w' v.ownBlock → (v'.ownBlock = v.ownBlock ∨ v'.ownBlock = some w.heap.size) → wpList Try.prog ops Q rest (a.put o.dst v') w') : wpList Try.prog ops Q (o :: rest) a w := by
  obtain ⟨i0, hi, hz0, hz1, hz2⟩ := info_parts infoOY
  refine wpList_append_own_at (w := w) hgd s x 55 ho base 70 i0 (.agg #[.int .i64 0, .int .i64 0, .slice none 0 0]) 3 40 Try.underlying55 hi hz0 hz1 hz2 rfl (by decide) v n xs hs hown ⟨g, 0, none⟩ 1 c ys hx (by omega) (fun j y hy => ?_) h1 (by unfold maxLen; omega) (by omega) hbase fun v' w' ho' hg' _ hor => h v' w' ho' hg' hor
  have hadd : ∀ j, (⟨g, 0, none⟩ : Addr).add j = ⟨g, j, none⟩ := fun j => by unfold Addr.add; split <;> simp_all
  rw [hadd]
  exact h0.c j hy
theorem step_apY {ops : Array Oper} {o : Oper} {a : Act} {K : Act → World → Prop} {Q : Exit → Act → World → Prop} {E : Prop} {w : World} (hgd : o.guard = none) (s x : Operand)
    (ho : o.op = .call { callee := .builtin .append, args := #[s, x], argTypes := #[55, 55] })
    (base g c : Nat) (v : Value) (n : Nat) (xs : List Value) (ys : List Value) (hs : a.eval s = v) (hx : a.eval x = .slice (some ⟨g, 0, none⟩) 1 c) (hown : w.ownsRow base 70 3 v n xs)
    (h0 : Bl w g ys) (h7 : ys.length = 3) (h1 : ∀ u ∈ ys, u.oneCell' = true) (hlen : n + 1 ≤ 4294967296) (hbase : base ≤ w.heap.size)
    (h : ∀ v' w', w'.ownsRow base 70 3 v' (n + 1) (xs ++ ys) → w.grownBy w' v.ownBlock → (v'.ownBlock = v.ownBlock ∨ v'.ownBlock = some w.heap.size) → K (a.put o.dst v') w') : if Region.wanted o (yielded ops a.tmps) = true then Oper.wp Try.prog o a w K Q else E := by
  have hw : Region.wanted o (yielded ops a.tmps) = true := by simp [Region.wanted, hgd]
  rw [if_pos hw]
  obtain ⟨i0, hi, hz0, hz1, hz2⟩ := info_parts infoOY
  obtain ⟨v', w', hr, h2, h3, -, h5⟩ := run_append_own_at (P := Try.prog) w base 55 o.type 70 i0 (.agg #[.int .i64 0, .int .i64 0, .slice none 0 0]) 3 40 Try.underlying55 hi hz0 hz1 hz2 rfl (by decide) v n xs hown ⟨g, 0, none⟩ 1 c ys (by omega) (fun j y hy => by
    have hadd : ∀ j, (⟨g, 0, none⟩ : Addr).add j = ⟨g, j, none⟩ := fun j => by unfold Addr.add; split <;> simp_all
    rw [hadd]
    exact h0.c j hy) h1 (by unfold maxLen; omega) (by omega) hbase
  unfold Oper.wp execOp
  simp only [ho, resolve, invoke, builtin, Sem.run_bind, Sem.run_pure, Result.andThen_ok, List.map_toArray, List.map_cons, List.map_nil, hs, hx, hr]
  exact h v' w' h2 h3 h5
end Go.Proofs.Ytbcmoofpgffbhaa
