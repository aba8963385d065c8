/-
  Sets of blocks; rows of prefixes and of numbers in them; marks on them. Conditions: those in each contract.
-/
import Derived.Test.YtbcmoofpgffbhaaF9
namespace Go.Proofs.Ytbcmoofpgffbhaa
open Go.ChangeShapes Go.WideShapes Go.ChangeAt Go.RowKit Go.BigFrame Go.Joins
set_option linter.unusedVariables false
set_option maxRecDepth 100000
set_option linter.unusedSimpArgs false
set_option maxRecDepth 100000

/-- two sets of blocks that have none in common -/
def Dj (S T : Nat → Prop) : Prop := ∀ i, S i → T i → False
theorem Dj.symm {S T : Nat → Prop} (h : Dj S T) : Dj T S := fun i a b => h i b a
/-- w' is a later world in which the blocks of S lie as they lay -/
def AgrS (S : Nat → Prop) (w w' : World) : Prop := w.heap.size ≤ w'.heap.size ∧ ∀ i, S i → i < w.heap.size → w'.heap[i]? = w.heap[i]?
theorem AgrS.sub {S T : Nat → Prop} {w w' : World} (h : AgrS S w w') (hs : ∀ b, T b → S b) : AgrS T w w' := ⟨h.1, fun i a c => h.2 i (hs i a) c⟩
theorem AgrS.of_below {S : Nat → Prop} {w w' : World} (h : Below w.heap.size w w') : AgrS S w w' := ⟨h.size, fun i _ hi => h.block i hi⟩
theorem agr_setS {S : Nat → Prop} {g o : Nat} (w : World) {u : Value} (h : ¬ S g) : AgrS S w (w.setCell ⟨g, o, none⟩ u) := ⟨(grown_set w g o u).size, fun i h1 hl => (grown_set w g o u).block i hl (by intro e; cases e; exact h h1)⟩
theorem bl_agrS {S : Nat → Prop} {B : Nat} {w w' : World} {xs : List Value} (h : Bl w B xs) (k : AgrS S w w') (h1 : S B) : Bl w' B xs :=
  ⟨Nat.lt_of_lt_of_le h.lt k.1, fun i x e => (World.cell?_of_block (k.2 B h1 h.lt)).trans (h.cs i x e), fun i hi => (World.frozen?_of_block (k.2 B h1 h.lt)).trans (h.fz i hi)⟩
/-- only blocks of S have turned -/
structure MidS (S : Nat → Prop) (w w' : World) : Prop where
  os : w'.os = w.os
  tape : w'.tape = w.tape
  output : w'.output = w.output
  size : w.heap.size ≤ w'.heap.size
  block : ∀ i, i < w.heap.size → ¬ S i → w'.heap[i]? = w.heap[i]?
theorem MidS.refl (S : Nat → Prop) (w : World) : MidS S w w := ⟨rfl, rfl, rfl, Nat.le_refl _, fun _ _ _ => rfl⟩
theorem MidS.trans {S : Nat → Prop} {a b c : World} (h : MidS S a b) (k : MidS S b c) : MidS S a c :=
  ⟨k.os.trans h.os, k.tape.trans h.tape, k.output.trans h.output, Nat.le_trans h.size k.size, fun i hi hc => (k.block i (Nat.lt_of_lt_of_le hi h.size) hc).trans (h.block i hi hc)⟩
theorem MidS.agr {S T : Nat → Prop} {w w' : World} (s : MidS S w w') (h : Dj T S) : AgrS T w w' := ⟨s.size, fun i h1 h3 => s.block i h3 (fun q => h i h1 q)⟩
theorem MidS.bl {S : Nat → Prop} {B : Nat} {w w' : World} {xs : List Value} (s : MidS S w w') (h : Bl w B xs) (hn : ¬ S B) : Bl w' B xs :=
  ⟨Nat.lt_of_lt_of_le h.lt s.size, fun i x e => (World.cell?_of_block (s.block B h.lt hn)).trans (h.cs i x e), fun i hi => (World.frozen?_of_block (s.block B h.lt hn)).trans (h.fz i hi)⟩
theorem MidS.below {S : Nat → Prop} {B : Nat} {w w' : World} (s : MidS S w w') (hB : B ≤ w.heap.size) (h : ∀ b, S b → B ≤ b) : Below B w w' :=
  ⟨s.os, s.tape, s.output, s.size, fun i hi => s.block i (by omega) (fun q => by have := h i q; omega)⟩
theorem MidS.of_grown {w w' : World} {row : Option Nat} {S : Nat → Prop} (h : w.grownBy w' row) (hs : ∀ k, row = some k → S k) : MidS S w w' := ⟨h.os, h.tape, h.output, h.size, fun i hi hc => h.block i hi (fun e => hc (hs i e.symm))⟩
/-- only block g and the blocks of S have turned -/
structure ButS (g : Nat) (S : Nat → Prop) (w w' : World) : Prop where
  os : w'.os = w.os
  tape : w'.tape = w.tape
  output : w'.output = w.output
  size : w.heap.size ≤ w'.heap.size
  block : ∀ i, i < w.heap.size → i ≠ g → ¬ S i → w'.heap[i]? = w.heap[i]?
theorem ButS.refl (g : Nat) (S : Nat → Prop) (w : World) : ButS g S w w := ⟨rfl, rfl, rfl, Nat.le_refl _, fun _ _ _ _ => rfl⟩
theorem ButS.set {g o : Nat} {S : Nat → Prop} {w w' : World} {u : Value} (h : ButS g S w w') : ButS g S w (w'.setCell ⟨g, o, none⟩ u) :=
  ⟨(grown_set w' g o u).os.trans h.os, (grown_set w' g o u).tape.trans h.tape, (grown_set w' g o u).output.trans h.output, Nat.le_trans h.size (grown_set w' g o u).size, fun i hi hg hc => ((grown_set w' g o u).block i (Nat.lt_of_lt_of_le hi h.size) (by intro e; cases e; exact hg rfl)).trans (h.block i hi hg hc)⟩
theorem ButS.mid {g : Nat} {S T : Nat → Prop} {w w1 w' : World} (h : ButS g S w w1) (s : MidS T w1 w') (hs : ∀ b, T b → S b) : ButS g S w w' :=
  ⟨s.os.trans h.os, s.tape.trans h.tape, s.output.trans h.output, Nat.le_trans h.size s.size, fun i hi hg hc => (s.block i (Nat.lt_of_lt_of_le hi h.size) (fun q => hc (hs i q))).trans (h.block i hi hg hc)⟩
theorem ButS.agr {g : Nat} {S T : Nat → Prop} {w w' : World} (h : ButS g S w w') (h1 : ¬ T g) (h2 : Dj T S) : AgrS T w w' := ⟨h.size, fun i a l => h.block i l (fun e => h1 (e ▸ a)) (fun q => h2 i a q)⟩
theorem ButS.midS {g : Nat} {S T : Nat → Prop} {w w' : World} (h : ButS g S w w') (hs : ∀ b, S b → T b) (hg : T g) : MidS T w w' := ⟨h.os, h.tape, h.output, h.size, fun i hi hc => h.block i hi (fun e => hc (e ▸ hg)) (fun q => hc (hs i q))⟩
theorem row_agrS {p e s n : Nat} {S : Nat → Prop} {w w' : World} {v : Value} {xs : List Value} (h : w.ownsRow p e s v n xs) (hq : ∀ k, v.ownBlock = some k → S k) (k : AgrS S w w') : w'.ownsRow p e s v n xs := by
  refine ⟨h.1, ?_⟩
  rcases h.2 with hn | ⟨g, cap, cur, hv, hb, hg, rest⟩
  · exact .inl hn
  · exact .inr ⟨g, cap, cur, hv, hb, (k.2 g (hq g (by rw [hv]; rfl)) (Array.getElem?_eq_some_iff.1 hg).1).trans hg, rest⟩
/-- rows of prefixes -/
def OwPr (w : World) (S : Nat → Prop) (v : Value) (l : List (Int × Int)) : Prop := OwnP w 0 v l ∧ (∀ k, v.ownBlock = some k → S k) ∧ l.length ≤ 1048576
theorem OwPr.agr {w w' : World} {S : Nat → Prop} {v : Value} {l : List (Int × Int)} (h : OwPr w S v l) (a : AgrS S w w') : OwPr w' S v l := ⟨row_agrS h.1 h.2.1 a, h.2⟩
theorem OwPr.rd {w : World} {S : Nat → Prop} {v : Value} {l : List (Int × Int)} (h : OwPr w S v l) : RdP w v l := h.1.rd
def cntP (l : List (Int × Int)) : Nat := l.length * 2
def MkP (k : Int) (l : List (Int × Int)) : Prop := MarkP k l.length l
theorem mkPr_any (v : Value) (l : List (Int × Int)) (k : Int) (S : Nat → Prop) (w : World) (h : OwPr w S v l) (hk0 : 0 ≤ k) (hk : k + (cntP l : Nat) ≤ 40000000) :
    Calls Try.prog 44 #[v, .int .i64 k] w fun e w' => ∃ l', e = .returned (.int .i64 (k + (cntP l : Nat))) ∧ cntP l' = cntP l ∧ l'.length = l.length ∧ MkP k l' ∧ OwPr w' S v l' ∧ MidS S w w' := by
  unfold cntP at hk
  refine (markP_is v l 0 k w h.1 hk0 (by omega)).mono ?_
  rintro e w' ⟨rfl, ⟨l', hl, hm, ho⟩, hg⟩
  exact ⟨l', by unfold cntP; congr 2, by unfold cntP; rw [hl], hl, hm, ⟨ho, h.2.1, by rw [hl]; exact h.2.2⟩, .of_grown hg h.2.1⟩
/-- rows of numbers -/
def OwIr (w : World) (S : Nat → Prop) (v : Value) (l : List Int) : Prop := OwnI w 0 v l ∧ (∀ k, v.ownBlock = some k → S k) ∧ l.length ≤ 1048576 ∧ ∀ x ∈ l, -9223372036854775808 ≤ x ∧ x ≤ 9223372036854775807
theorem OwIr.agr {w w' : World} {S : Nat → Prop} {v : Value} {l : List Int} (h : OwIr w S v l) (a : AgrS S w w') : OwIr w' S v l := ⟨row_agrS h.1 h.2.1 a, h.2⟩
theorem OwIr.rd {w : World} {S : Nat → Prop} {v : Value} {l : List Int} (h : OwIr w S v l) : RdI w v l := OwnI.rd h.1 h.2.2.2
def cntI (l : List Int) : Nat := l.length
def MkI (k : Int) (l : List Int) : Prop := l = imarks k l.length
theorem mkIr_any (v : Value) (l : List Int) (k : Int) (S : Nat → Prop) (w : World) (h : OwIr w S v l) (hk0 : 0 ≤ k) (hk : k + (cntI l : Nat) ≤ 40000000) :
    Calls Try.prog 70 #[v, .int .i64 k] w fun e w' => ∃ l', e = .returned (.int .i64 (k + (cntI l : Nat))) ∧ cntI l' = cntI l ∧ l'.length = l.length ∧ MkI k l' ∧ OwIr w' S v l' ∧ MidS S w w' := by
  unfold cntI at hk
  refine (markB_any_I v l 0 k w h.1 hk0 (by omega)).mono ?_
  rintro e w' ⟨rfl, ho, hg⟩
  exact ⟨imarks k l.length, rfl, by unfold cntI; rw [imarks_len], imarks_len _ _, by unfold MkI; rw [imarks_len], ⟨ho, h.2.1, by rw [imarks_len]; exact h.2.2.1, imarks_bd _ _ hk0 (by omega)⟩, .of_grown hg h.2.1⟩
/-- the mark of a truth value -/
def modB (k : Int) : Bool := decide (k % 3 = 0)
theorem heldP_k (v : Value) (l : List (Int × Int)) (k : Int) (w : World) (h : RdP w v l) (hm : MarkP k l.length l) (hn : l.length ≤ 40000000) (hk0 : 0 ≤ k) (hk : k ≤ 40000000) :
    Calls Try.prog 46 #[v, .int .i64 k] w fun e w' => e = .returned (.int .i64 (k + l.length * 2)) ∧ Below w.heap.size w w' := by
  obtain ⟨a, c, rfl, hc⟩ := h.el
  obtain ⟨n, hn'⟩ : ∃ n, n = l.length := ⟨_, rfl⟩
  rw [← hn'] at hc hm hn ⊢
  clear hn' h
  have HM := Lib.hid hm
  clear hm
  go_enter Try.func46, Try.ntmps46
  go_wp2
  go_loopw [1, 5] (fun q i wr => ∃ j : Nat, j ≤ n ∧ i = .int .i64 j ∧ q = .int .i64 (k + (j : Int) * 2) ∧ Below w.heap.size w wr) (fun _ i _ => n - (intOf i).toNat)
  case atStart => exact ⟨0, Nat.zero_le _, rfl, by simp, Below.refl _ _⟩
  case round =>
    obtain ⟨j, hj, rfl, rfl, hB⟩ := hrel
    by_cases hlt : j < n
    · have hltI : (j : Int) < (n : Int) := by omega
      obtain ⟨b, o, rfl, g0, g1⟩ := hc j hlt
      rw [HM.out j hlt] at g0 g1
      dsimp only at g0 g1
      replace g0 := cell_keep hB (World.block_lt_of_cell? _ _ g0) g0
      replace g1 := cell_keep hB (World.block_lt_of_cell? _ _ g1) g1
      have hw1 : IntKind.i64.wrap (k + (j : Int) * 2 + 1) = k + (j : Int) * 2 + 1 := wrap64_in _ (by omega) (by omega)
      have hw2 : IntKind.i64.wrap (k + (j : Int) * 2 + 1 + 1) = k + (j : Int) * 2 + 1 + 1 := wrap64_in _ (by omega) (by omega)
      have hb0 : (k + (j : Int) * 2 != k + (j : Int) * 2) = false := by simp
      have hb1 : (k + (j : Int) * 2 + 1 != k + (j : Int) * 2 + 1) = false := by simp
      clear hc
      go_wp2
      go_roundw
      case rel => exact ⟨j + 1, by omega, by go_num, by congr 1; omega, hB⟩
      case measure => simp [intOf]; omega
    · have hjn : j = n := by omega
      subst hjn
      clear hc
      go_wp2
      go_ret
      exact ⟨rfl, hB⟩
theorem hdPr_any (v : Value) (l : List (Int × Int)) (k : Int) (w : World) (h : RdP w v l) (hm : MkP k l) (hk0 : 0 ≤ k) (hk : k + (cntP l : Nat) ≤ 40000000) :
    Calls Try.prog 46 #[v, .int .i64 k] w fun e w' => e = .returned (.int .i64 (k + (cntP l : Nat))) ∧ Below w.heap.size w w' := by
  unfold cntP at hk
  refine (heldP_k v l k w h hm (by omega) hk0 (by omega)).mono ?_
  rintro e w' ⟨rfl, hb⟩
  exact ⟨by unfold cntP; congr 2, hb⟩
theorem hdIr_any (v : Value) (l : List Int) (k : Int) (w : World) (h : RdI w v l) (hm : MkI k l) (hk0 : 0 ≤ k) (hk : k + (cntI l : Nat) ≤ 40000000) :
    Calls Try.prog 71 #[v, .int .i64 k] w fun e w' => e = .returned (.int .i64 (k + (cntI l : Nat))) ∧ Below w.heap.size w w' := by
  unfold cntI at hk
  refine (heldB_any_I v k l.length w (by rw [← hm]; exact h) hk0 (by omega)).mono ?_
  rintro e w' ⟨rfl, hb⟩
  exact ⟨rfl, hb⟩
/-- the blocks from a to b -/
def Rg (a b : Nat) : Nat → Prop := fun i => a ≤ i ∧ i < b
theorem AgrS.refl (S : Nat → Prop) (w : World) : AgrS S w w := ⟨Nat.le_refl _, fun _ _ _ => rfl⟩
theorem AgrS.trans {S : Nat → Prop} {a b c : World} (h : AgrS S a b) (k : AgrS S b c) : AgrS S a c := ⟨Nat.le_trans h.1 k.1, fun i hs hi => (k.2 i hs (Nat.lt_of_lt_of_le hi h.1)).trans (h.2 i hs hi)⟩
theorem dj_apart {u v : Value} (h : Apart u v) : Dj (fun b => u.ownBlock = some b) (fun b => v.ownBlock = some b) := fun i a b => by
  rcases h.1 with q | q
  · rw [q] at a; cases a
  · exact q (a.trans b.symm)
theorem MidS.up {S T : Nat → Prop} {w w' : World} (h : MidS S w w') (hs : ∀ b, S b → T b) : MidS T w w' := ⟨h.os, h.tape, h.output, h.size, fun i hi hc => h.block i hi (fun q => hc (hs i q))⟩
theorem app_some {xs ys : List Value} {i : Nat} {x : Value} (h : xs[i]? = some x) : (xs ++ ys)[i]? = some x := by
  rw [List.getElem?_append_left (List.getElem?_eq_some_iff.1 h).1]; exact h
end Go.Proofs.Ytbcmoofpgffbhaa
