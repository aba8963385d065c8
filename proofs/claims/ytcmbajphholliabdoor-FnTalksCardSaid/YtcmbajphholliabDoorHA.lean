/-
  The model's cursor over the bytes of a draw: what a step leaves. Conditions: those in each contract.
  What is drawn for the laws on sessions: two Confs. Conditions: those in each contract.
-/
import Derived.Test.YtcmbajphholliabDoorB3
import Derived.Deep.AppendLies
import Derived.Test.YtcmbajphholliabDoorG1
import Derived.Test.YtcmbajphholliabDoorG2
namespace Go.Proofs.YtcmbajphholliabDoor
open Go.ChangeShapes Go.WideShapes Go.ChangeAt Go.RowKit Go.BigFrame
set_option linter.unusedVariables false
set_option maxRecDepth 100000

/-- block g is a cursor over the bytes l, which lie in the older world V -/
structure Cur (V w : World) (g : Nat) (v : Value) (l : List Int) : Prop where
  rd : Rd V v l
  over : Over V w
  hg : V.heap.size ≤ g
  lt : g < w.heap.size
  len : l.length ≤ 9223372036854775807
  c0 : w.cell? ⟨g, 0, none⟩ = some v
  c1 : ∃ i : Nat, i ≤ l.length ∧ w.cell? ⟨g, 1, none⟩ = some (.int .i64 i)
  c2 : ∃ h : Int, w.cell? ⟨g, 2, none⟩ = some (.int .i64 h)
  f1 : w.frozen? ⟨g, 1, none⟩ = false
  f2 : w.frozen? ⟨g, 2, none⟩ = false
/-- a step of the cursor: a number, the cursor anew, all other blocks as they were -/
def CurB (V : World) (g : Nat) (v : Value) (l : List Int) (P : Int → Prop) (w : World) (e : Ending) (w' : World) : Prop :=
  ∃ x : Int, e = .returned (.int .i64 x) ∧ P x ∧ Cur V w' g v l ∧ w.grownBy w' (some g)
theorem and255_bd (x : Int) : 0 ≤ bits .and .i64 x 255 ∧ bits .and .i64 x 255 ≤ 255 := by
  unfold bits
  show 0 ≤ IntKind.i64.wrap ((BitVec.ofInt 64 x &&& BitVec.ofInt 64 255).toNat : Int) ∧ IntKind.i64.wrap ((BitVec.ofInt 64 x &&& BitVec.ofInt 64 255).toNat : Int) ≤ 255
  rw [BitVec.toNat_and]
  have h : (BitVec.ofInt 64 255).toNat = 255 := by decide
  rw [h]
  have := Nat.and_le_right (n := (BitVec.ofInt 64 x).toNat) (m := 255)
  rw [wrap64_in _ (by omega) (by omega)]
  omega

theorem Cur.drewN {V w : World} {g : Nat} {v : Value} {l : List Int} (h : Cur V w g v l) (n : Nat) : Cur V (w.drewN n) g v l :=
  ⟨h.rd, below_drewN h.over n, h.hg, h.lt, h.len, h.c0, h.c1, h.c2, h.f1, h.f2⟩
theorem cur_end {V w w2 : World} {g i : Nat} {v : Value} {l : List Int} {X : Int} (h : Cur V w g v l) (hg : w.grownBy w2 (some g)) (d0 : w2.cell? ⟨g, 0, none⟩ = some v) (hi : i ≤ l.length) (d1 : w2.cell? ⟨g, 1, none⟩ = some (.int .i64 i)) (d2 : w2.cell? ⟨g, 2, none⟩ = some (.int .i64 X))
    (f1 : w2.frozen? ⟨g, 1, none⟩ = false) (f2 : w2.frozen? ⟨g, 2, none⟩ = false) : Cur V w2 g v l :=
  ⟨h.rd, over_row h.over h.hg hg, h.hg, Nat.lt_of_lt_of_le h.lt hg.size, h.len, d0, ⟨i, hi, d1⟩, ⟨X, d2⟩, f1, f2⟩

theorem byte_any (V : World) (g : Nat) (v : Value) (l : List Int) (w : World) (h : Cur V w g v l) :
    Calls Tryd.prog 85 #[.pointer (some ⟨g, 0, none⟩)] w (CurB V g v l (fun x => 0 ≤ x ∧ x ≤ 255) w) := by
  obtain ⟨i, hi, c1⟩ := h.c1
  obtain ⟨q, c2⟩ := h.c2
  have c0 := h.c0
  have f1 := h.f1
  have f2 := h.f2
  have hlen := h.len
  by_cases hlt : i < l.length
  · have hR := rd_over h.rd h.over
    have hRV := h.rd
    obtain ⟨hbd, _, ⟨p, c, rfl, rfl, _⟩ | ⟨b, o, c, rfl, hp, hc⟩⟩ := hRV
    · simp at hlt
    · have hb : b < V.heap.size := World.block_lt_of_cell? V _ (hc i hlt)
      have e0 := over_cell h.over hb (hc i hlt)
      have hbg : b ≠ g := by have := h.hg; omega
      obtain ⟨y, hy⟩ : ∃ y, l.getD i 0 = y := ⟨_, rfl⟩
      rw [hy] at e0
      have hy0 : 0 ≤ y ∧ y ≤ 255 := by rw [← hy]; exact getD_bd hbd i
      have hltI : (i : Int) < (l.length : Int) := by omega
      have hneg : ⟨g, 2, none⟩ ≠ (⟨b, o + i, none⟩ : Addr) := by intro e; injection e with e1 _; exact hbg e1.symm
      have hO := h.over
      have hgV := h.hg
      have hgl := h.lt
      clear hy hc hR hp
      go_enter Tryd.func85, Tryd.ntmps85
      go_wp2_with fail
      obtain ⟨X, hX⟩ : ∃ X, X = wrap64 (wrap64 (q * 6364136223846793005) + 1442695040888963407) := ⟨_, rfl⟩
      rw [← hX]
      clear hX
      have d0 := set_other (u := .int .i64 X) (a := ⟨g, 2, none⟩) (by simp) c0
      have d1 := set_other (u := .int .i64 X) (a := ⟨g, 2, none⟩) (by simp) c1
      have d2 := set_same (u := .int .i64 X) c2
      have de := set_other (u := .int .i64 X) hneg e0
      have df1 : (w.setCell ⟨g, 2, none⟩ (.int .i64 X)).frozen? ⟨g, 1, none⟩ = false := by rw [World.frozen?_setCell]; exact f1
      have df2 : (w.setCell ⟨g, 2, none⟩ (.int .i64 X)).frozen? ⟨g, 2, none⟩ = false := by rw [World.frozen?_setCell]; exact f2
      have dg := grown_set w g 2 (.int .i64 X)
      have dl : g < (w.setCell ⟨g, 2, none⟩ (.int .i64 X)).heap.size := Nat.lt_of_lt_of_le hgl dg.size
      clear c0 c1 c2 e0 f1 f2 hneg
      generalize w.setCell ⟨g, 2, none⟩ (.int .i64 X) = w2 at *
      go_quiet (fail)
      go_wp2_with fail
      have hz := and255_bd (bits .xor .i64 (X / 8589934592) (X / 35184372088832))
      generalize bits .and .i64 (bits .xor .i64 (X / 8589934592) (X / 35184372088832)) 255 = z at hz ⊢
      go_quiet (fail)
      go_wp2_with fail
      have hwz : IntKind.i64.wrap (z + y) = z + y := wrap64_in _ (by omega) (by omega)
      go_quiet (fail)
      clear hwz
      go_wp2_with fail
      have hx := and255_bd (z + y)
      have hci : ((i + 1 : Nat) : Int) = (i : Int) + 1 := by omega
      have e1 := set_same (u := .int .i64 ((i : Int) + 1)) d1
      rw [← hci] at e1
      have cu := cur_end (i := i + 1) h (grown_trans dg (grown_set w2 g 1 (.int .i64 ((i + 1 : Nat) : Int)))) (set_other (by simp) d0) (by omega) e1 (set_other (by simp) d2) (by rw [World.frozen?_setCell]; exact df1) (by rw [World.frozen?_setCell]; exact df2)
      have gr := grown_trans dg (grown_set w2 g 1 (.int .i64 ((i + 1 : Nat) : Int)))
      rw [hci] at cu gr
      clear hci e1
      go_ret
      exact ⟨_, rfl, hx, by rw [set_drewN]; exact cu.drewN _, by rw [set_drewN]; exact grown_dn gr _⟩
  · obtain ⟨p, c, hv⟩ := h.rd.len
    have hnI : ¬ (i : Int) < (l.length : Int) := by omega
    have hO := h.over
    have hgV := h.hg
    have hgl := h.lt
    rw [hv] at c0
    go_enter Tryd.func85, Tryd.ntmps85
    go_wp2_with fail
    obtain ⟨X, hX⟩ : ∃ X, X = wrap64 (wrap64 (q * 6364136223846793005) + 1442695040888963407) := ⟨_, rfl⟩
    rw [← hX]
    clear hX
    have d0 := set_other (u := .int .i64 X) (a := ⟨g, 2, none⟩) (by simp) c0
    have d1 := set_other (u := .int .i64 X) (a := ⟨g, 2, none⟩) (by simp) c1
    have d2 := set_same (u := .int .i64 X) c2
    have df1 : (w.setCell ⟨g, 2, none⟩ (.int .i64 X)).frozen? ⟨g, 1, none⟩ = false := by rw [World.frozen?_setCell]; exact f1
    have df2 : (w.setCell ⟨g, 2, none⟩ (.int .i64 X)).frozen? ⟨g, 2, none⟩ = false := by rw [World.frozen?_setCell]; exact f2
    have dg := grown_set w g 2 (.int .i64 X)
    have cu := cur_end (i := i) h dg (by rw [hv]; exact d0) hi d1 d2 df1 df2
    clear c0 c1 c2 f1 f2
    generalize w.setCell ⟨g, 2, none⟩ (.int .i64 X) = w2 at *
    go_quiet (fail)
    go_wp2_with fail
    have hz := and255_bd (bits .xor .i64 (X / 8589934592) (X / 35184372088832))
    generalize bits .and .i64 (bits .xor .i64 (X / 8589934592) (X / 35184372088832)) 255 = z at hz ⊢
    go_quiet (fail)
    go_wp2_with fail
    go_ret
    exact ⟨_, rfl, hz, by repeat' (first | exact cu | apply Cur.drewN), by repeat' (first | exact dg | apply grown_dn)⟩

/-- a number below n -/
theorem below_small (V : World) (g : Nat) (v : Value) (l : List Int) (n : Int) (w : World) (h : Cur V w g v l) (h0 : 1 ≤ n) (h1 : n ≤ 256) :
    Calls Tryd.prog 61 #[.pointer (some ⟨g, 0, none⟩), .int .i64 n] w (CurB V g v l (fun x => 0 ≤ x ∧ x < n) w) := by
  go_enter Tryd.func61, Tryd.ntmps61
  go_wp2_with fail
  refine (byte_any V g v l _ h).mono ?_
  rintro e w1 ⟨x, rfl, ⟨hx0, hx1⟩, hc, hg⟩
  have hm0 : 0 ≤ x % n := Int.emod_nonneg _ (by omega)
  have hm1 : x % n < n := Int.emod_lt_of_pos _ (by omega)
  go_wp2_with fail
  go_ret
  exact ⟨_, rfl, ⟨hm0, hm1⟩, hc, hg⟩
theorem below_big (V : World) (g : Nat) (v : Value) (l : List Int) (n : Int) (w : World) (h : Cur V w g v l) (h0 : 256 < n) (h1 : n ≤ 4294967296) :
    Calls Tryd.prog 61 #[.pointer (some ⟨g, 0, none⟩), .int .i64 n] w (CurB V g v l (fun x => 0 ≤ x ∧ x < n) w) := by
  go_enter Tryd.func61, Tryd.ntmps61
  go_wp2_with fail
  refine (byte_any V g v l _ h).mono ?_
  rintro e w1 ⟨x, rfl, ⟨hx0, hx1⟩, hc1, hg1⟩
  go_wp2_with fail
  refine (byte_any V g v l _ hc1).mono ?_
  rintro e w2 ⟨y, rfl, ⟨hy0, hy1⟩, hc2, hg2⟩
  go_wp2_with fail
  refine (byte_any V g v l _ hc2).mono ?_
  rintro e w3 ⟨z, rfl, ⟨hz0, hz1⟩, hc3, hg3⟩
  go_wp2_with fail
  refine (byte_any V g v l _ hc3).mono ?_
  rintro e w4 ⟨t, rfl, ⟨ht0, ht1⟩, hc4, hg4⟩
  have hm0 : 0 ≤ (x * 16777216 + y * 65536 + z * 256 + t) % n := Int.emod_nonneg _ (by omega)
  have hm1 : (x * 16777216 + y * 65536 + z * 256 + t) % n < n := Int.emod_lt_of_pos _ (by omega)
  go_wp2_with fail
  go_ret
  exact ⟨_, rfl, ⟨hm0, hm1⟩, hc4, grown_trans hg1 (grown_trans hg2 (grown_trans hg3 hg4))⟩
theorem below_any (V : World) (g : Nat) (v : Value) (l : List Int) (n : Int) (w : World) (h : Cur V w g v l) (h0 : 1 ≤ n) (h1 : n ≤ 4294967296) :
    Calls Tryd.prog 61 #[.pointer (some ⟨g, 0, none⟩), .int .i64 n] w (CurB V g v l (fun x => 0 ≤ x ∧ x < n) w) := by
  by_cases hn : n ≤ 256
  · exact below_small V g v l n w h h0 hn
  · exact below_big V g v l n w h (by omega) h1
/-- a bool out of the cursor -/
def CurO (V : World) (g : Nat) (v : Value) (l : List Int) (w : World) (e : Ending) (w' : World) : Prop :=
  ∃ b : Bool, e = .returned (.bool b) ∧ Cur V w' g v l ∧ w.grownBy w' (some g)
theorem once_any (V : World) (g : Nat) (v : Value) (l : List Int) (n : Int) (w : World) (h : Cur V w g v l) (h0 : 1 ≤ n) (h1 : n ≤ 4294967296) :
    Calls Tryd.prog 41 #[.pointer (some ⟨g, 0, none⟩), .int .i64 n] w (CurO V g v l w) := by
  go_enter Tryd.func41, Tryd.ntmps41
  go_wp2_with fail
  refine (below_any V g v l n _ h h0 h1).mono ?_
  rintro e w1 ⟨x, rfl, -, hc, hg⟩
  go_wp2_with fail
  go_ret
  exact ⟨_, rfl, hc, hg⟩
/-- one of a row of numbers that lies in an older block -/
theorem pick_any (V : World) (g : Nat) (v : Value) (l : List Int) (f : Nat → Int) (n b : Nat) (w : World) (h : Cur V w g v l) (hp : 1 ≤ n) (hz : n ≤ 1000) (hb : b ≠ g) (hbl : b < w.heap.size)
    (hc : ∀ i, i < n → w.cell? ⟨b, i, none⟩ = some (.int .i64 (f i))) :
    Calls Tryd.prog 43 #[.pointer (some ⟨g, 0, none⟩), .slice (some ⟨b, 0, none⟩) n n] w (CurB V g v l (fun x => ∃ i : Nat, i < n ∧ x = f i) w) := by
  have hn0 : (1 : Int) ≤ n := by omega
  have hn1 : (n : Int) ≤ 4294967296 := by omega
  go_enter Tryd.func43, Tryd.ntmps43
  go_wp2_with fail
  refine (below_any V g v l n _ h hn0 hn1).mono ?_
  rintro e w1 ⟨x, rfl, ⟨hx0, hx1⟩, hcu, hg⟩
  obtain ⟨i, rfl⟩ := Int.eq_ofNat_of_zero_le hx0
  have e0 := hg.cell (hc i (by omega)) (by simpa using hb)
  clear hc
  go_wp2_with fail
  go_ret
  exact ⟨_, rfl, ⟨i, by omega, rfl⟩, hcu, hg⟩
theorem cur_new {w wr : World} {v : Value} {l : List Int} (h : Rd w v l) (hl : l.length ≤ 9223372036854775807) (hB : Over w wr) (q : Int) (t : TypeId) :
    Cur w (wr.alloc (.cells #[v, .int .i64 0, .int .i64 q] t)) wr.heap.size v l := by
  have lt : wr.heap.size < (wr.alloc (.cells #[v, .int .i64 0, .int .i64 q] t)).heap.size := by simp
  exact ⟨h, over_alloc hB _, hB.size, lt, hl, by simp, ⟨0, Nat.zero_le _, by simp⟩, ⟨q, by simp⟩, World.frozen?_alloc_at _ _ _ _ rfl, World.frozen?_alloc_at _ _ _ _ rfl⟩
theorem new_any (v : Value) (l : List Int) (w : World) (h : Rd w v l) :
    Calls Tryd.prog 27 #[v] w (fun e w' => ∃ g, e = .returned (.pointer (some ⟨g, 0, none⟩)) ∧ Cur w w' g v l) := by
  have hR := h
  have hlm : l.length ≤ 9223372036854775807 := by have := h.2.1; unfold maxLen at this; omega
  have hce : ∀ i, i < l.length → ∃ b o c, v = .slice (some ⟨b, o, none⟩) l.length c ∧ b < w.heap.size ∧ w.cell? ⟨b, o + i, none⟩ = some (.int .u8 (l.getD i 0)) := by
    intro i hi
    rcases hR.2.2 with ⟨p, c, rfl, rfl, _⟩ | ⟨b, o, c, rfl, hp, hc⟩
    · simp at hi
    · exact ⟨b, o, c, rfl, World.block_lt_of_cell? _ _ (hc i hi), hc i hi⟩
  obtain ⟨p, c, hv⟩ := hR.len
  subst hv
  clear h
  go_enter Tryd.func27, Tryd.ntmps27
  go_wp2_with fail
  go_loopw [3, 4] (fun a i wr => ∃ (q : Int) (k : Nat), k ≤ l.length ∧ k ≤ 4000 ∧ a = .int .i64 q ∧ i = .int .i64 k ∧ Over w wr) (fun _ i _ => 4000 - (intOf i).toNat)
  case atStart => exact ⟨_, 0, Nat.zero_le _, Nat.zero_le _, rfl, rfl, over_refl _⟩
  case round =>
    obtain ⟨q, k, hk, hk4, rfl, rfl, hB⟩ := hrel
    by_cases hlt : k < l.length
    · obtain ⟨b, o, c2, hv, hbl, hcc⟩ := hce k hlt
      obtain rfl : p = some ⟨b, o, none⟩ := by injection hv
      have e0 := over_cell hB hbl hcc
      have hltI : (k : Int) < (l.length : Int) := by omega
      obtain ⟨x, hx⟩ : ∃ x, l.getD k 0 = x := ⟨_, rfl⟩
      rw [hx] at e0
      have hx0 : 0 ≤ x ∧ x ≤ 255 := by rw [← hx]; exact getD_bd hR.1 k
      clear hx hcc hv hce
      by_cases h4 : k < 4000
      · have h4I : (k : Int) < 4000 := by omega
        go_wp2_with fail
        go_roundw
        case rel => exact ⟨_, k + 1, by omega, by omega, rfl, by go_num, by first | exact hB | exact below_drewN hB _⟩
        case measure => simp [intOf]; omega
      · have h4I : ¬ (k : Int) < 4000 := by omega
        go_wp2_with fail
        go_ret
        exact ⟨_, rfl, cur_new hR hlm hB _ _⟩
    · have hltI : ¬ (k : Int) < (l.length : Int) := by omega
      clear hce
      go_wp2_with fail
      go_ret
      exact ⟨_, rfl, cur_new hR hlm hB _ _⟩

theorem Cur.alloc {V w : World} {g : Nat} {v : Value} {l : List Int} (h : Cur V w g v l) (o : Obj) : Cur V (w.alloc o) g v l := by
  have e (i : Nat) : (w.alloc o).cell? ⟨g, i, none⟩ = w.cell? ⟨g, i, none⟩ := World.cell?_alloc_past _ _ _ h.lt
  obtain ⟨i, hi, c1⟩ := h.c1
  obtain ⟨q, c2⟩ := h.c2
  exact ⟨h.rd, over_alloc h.over o, h.hg, Nat.lt_of_lt_of_le h.lt (by simp), h.len, (e 0).trans h.c0, ⟨i, hi, (e 1).trans c1⟩, ⟨q, (e 2).trans c2⟩, (World.frozen?_alloc_past _ _ _ h.lt).trans h.f1, (World.frozen?_alloc_past _ _ _ h.lt).trans h.f2⟩
theorem Cur.setNew {V w : World} {g B o : Nat} {v u : Value} {l : List Int} (h : Cur V w g v l) (hne : B ≠ g) (hB : V.heap.size ≤ B) : Cur V (w.setCell ⟨B, o, none⟩ u) g v l := by
  have e (i : Nat) : (w.setCell ⟨B, o, none⟩ u).cell? ⟨g, i, none⟩ = w.cell? ⟨g, i, none⟩ := World.cell?_setCell_other _ _ _ _ (by intro q; injection q with q _; exact hne q)
  obtain ⟨i, hi, c1⟩ := h.c1
  obtain ⟨q, c2⟩ := h.c2
  have gr := grown_set w B o u
  exact ⟨h.rd, over_row h.over hB gr, h.hg, Nat.lt_of_lt_of_le h.lt gr.size, h.len, (e 0).trans h.c0, ⟨i, hi, (e 1).trans c1⟩, ⟨q, (e 2).trans c2⟩, by rw [World.frozen?_setCell]; exact h.f1, by rw [World.frozen?_setCell]; exact h.f2⟩
theorem lit_cells (w : World) (zs : List Int) (T : TypeId) (b : Nat) (hb : b = w.heap.size) : ∀ i, i < zs.length → (w.alloc (.cells (zs.map (Value.int .i64)).toArray T)).cell? ⟨b, i, none⟩ = some (.int .i64 (zs.getD i 0)) := by
  intro i hi
  rw [World.cell?_alloc_at _ _ _ _ hb]
  simp [List.getD, hi]
end Go.Proofs.YtcmbajphholliabDoor
namespace Go.Proofs.YtcmbajphholliabDoor
open Go.ChangeShapes Go.WideShapes Go.ChangeAt Go.RowKit Go.BigFrame
set_option linter.unusedVariables false
set_option linter.unusedSimpArgs false

def CurC (V : World) (g : Nat) (v : Value) (l : List Int) (w : World) (e : Ending) (w' : World) : Prop :=
  ∃ s i h p : Int, e = .returned (.agg #[.int .i64 s, .int .i64 i, .int .i64 h, .int .i64 p]) ∧ Cur V w' g v l ∧ w.grownBy w' (some g)
theorem conf_any (V : World) (g : Nat) (v : Value) (l : List Int) (w : World) (h : Cur V w g v l) :
    Calls Tryd.prog 60 #[.pointer (some ⟨g, 0, none⟩)] w (CurC V g v l w) := by
  have hlt := h.lt
  have hRg : w.heap.size ≠ g := by omega
  have hRV := h.over.size
  have hRw := Nat.le_refl w.heap.size
  obtain ⟨bR, B0, z⟩ := one w [.int .i64 0, .int .i64 0, .int .i64 0, .int .i64 0] 24
  clear z
  have cu0 := h.alloc (.cells #[.int .i64 0, .int .i64 0, .int .i64 0, .int .i64 0] 24)
  have g1 := grown_alloc (World.grownBy.refl w (some g)) (.cells #[.int .i64 0, .int .i64 0, .int .i64 0, .int .i64 0] 24)
  clear B0
  go_enter Tryd.func60, Tryd.ntmps60
  go_wp2_with fail
  have hcl := cu0.lt
  refine (pick_any V g v l (fun i => [1, 2, 3, 65535].getD i 0) 4 (w.heap.size + 1) _ (cu0.alloc _) (by decide) (by decide) (by simp <;> omega) (by simp) (lit_cells _ [1, 2, 3, 65535] _ _ (by simp))).mono ?_
  rintro e w1 ⟨x, rfl, -, cu1, hg1⟩
  replace g1 := grown_trans (grown_alloc g1 _) hg1
  replace bR := (bR.alloc _).grown hg1 (by simpa using hRg)
  clear hg1 cu0 hcl
  go_wp2_with fail
  have hcl := cu1.lt
  refine (pick_any V g v l (fun i => [1, 2, 255].getD i 0) 3 w1.heap.size _ (cu1.alloc _) (by decide) (by decide) (by simp <;> omega) (by simp) (lit_cells _ [1, 2, 255] _ _ (by simp))).mono ?_
  rintro e w2 ⟨y, rfl, -, cu2, hg2⟩
  replace g1 := grown_trans (grown_alloc g1 _) hg2
  replace bR := (bR.alloc _).grown hg2 (by simpa using hRg)
  clear hg2 cu1 hcl
  go_wp2_with fail
  have hcl := cu2.lt
  refine (pick_any V g v l (fun i => [3, 4, 9, 255].getD i 0) 4 w2.heap.size _ (cu2.alloc _) (by decide) (by decide) (by simp <;> omega) (by simp) (lit_cells _ [3, 4, 9, 255] _ _ (by simp))).mono ?_
  rintro e w3 ⟨z, rfl, -, cu3, hg3⟩
  replace g1 := grown_trans (grown_alloc g1 _) hg3
  replace bR := (bR.alloc _).grown hg3 (by simpa using hRg)
  clear hg3 cu2 hcl
  go_wp2_with fail
  have hcl := cu3.lt
  refine (pick_any V g v l (fun i => [0, 0, 1, 2].getD i 0) 4 w3.heap.size _ (cu3.alloc _) (by decide) (by decide) (by simp <;> omega) (by simp) (lit_cells _ [0, 0, 1, 2] _ _ (by simp))).mono ?_
  rintro e w4 ⟨t, rfl, -, cu4, hg4⟩
  replace g1 := grown_trans (grown_alloc g1 _) hg4
  replace bR := (bR.alloc _).grown hg4 (by simpa using hRg)
  clear hg4 cu3 hcl
  have r0 := bR.c 0 rfl
  have rf0 := bR.f 0 rfl
  have r1 := bR.c 1 rfl
  have rf1 := bR.f 1 rfl
  have r2 := bR.c 2 rfl
  have rf2 := bR.f 2 rfl
  have r3 := bR.c 3 rfl
  have rf3 := bR.f 3 rfl
  go_wp2_with fail
  have bE := ((((bR.set 0 (.int .i64 x)).set 1 (.int .i64 y)).set 2 (.int .i64 z)).set 3 (.int .i64 t))
  have e0 := bE.c 0 rfl
  have e1 := bE.c 1 rfl
  have e2 := bE.c 2 rfl
  have e3 := bE.c 3 rfl
  exact bodyPost_ret (v := .agg #[.int .i64 x, .int .i64 y, .int .i64 z, .int .i64 t]) (by simp [results, Tryd.results60, go_sem, e0, e1, e2, e3]) rfl
    ⟨_, _, _, _, rfl, by repeat' (first | exact cu4 | (refine Cur.setNew ?_ hRg hRV)), by repeat' (first | exact g1 | (refine grown_setNew ?_ hRw))⟩
set_option maxHeartbeats 4000000 in
theorem bentConf_any (V : World) (g : Nat) (v : Value) (l : List Int) (w : World) (h : Cur V w g v l) :
    Calls Tryd.prog 28 #[.pointer (some ⟨g, 0, none⟩)] w (CurC V g v l w) := by
  have hlt := h.lt
  have hRg : w.heap.size ≠ g := by omega
  have hRV := h.over.size
  have hRw := Nat.le_refl w.heap.size
  obtain ⟨bR, B0, z⟩ := one w [.int .i64 0, .int .i64 0, .int .i64 0, .int .i64 0] 24
  clear z B0
  have cu0 := h.alloc (.cells #[.int .i64 0, .int .i64 0, .int .i64 0, .int .i64 0] 24)
  have g1 := grown_alloc (World.grownBy.refl w (some g)) (.cells #[.int .i64 0, .int .i64 0, .int .i64 0, .int .i64 0] 24)
  go_enter Tryd.func28, Tryd.ntmps28
  go_wp2_with fail
  refine (conf_any V g v l _ cu0).mono ?_
  rintro e w1 ⟨x, y, z, t, rfl, cu1, hg1⟩
  replace g1 := grown_trans g1 hg1
  replace bR := bR.grown hg1 (by simpa using hRg)
  clear hg1 cu0
  go_wp2_with fail
  obtain ⟨X, eX⟩ : ∃ X, X = w1.heap.size := ⟨_, rfl⟩
  try rw [← eX]
  have hcl := cu1.lt
  have hXg : X ≠ g := by omega
  have hRl := bR.lt
  have hRX : w.heap.size ≠ X := by omega
  have hXV : V.heap.size ≤ X := by omega
  have hXw : w.heap.size ≤ X := by omega
  obtain ⟨bX, -, -⟩ := one w1 [.int .i64 x, .int .i64 y, .int .i64 z, .int .i64 t] 24
  rw [← eX] at bX
  clear eX hcl hRl
  replace bR := bR.alloc (.cells #[.int .i64 x, .int .i64 y, .int .i64 z, .int .i64 t] 24)
  replace cu1 := cu1.alloc (.cells #[.int .i64 x, .int .i64 y, .int .i64 z, .int .i64 t] 24)
  replace g1 := grown_alloc g1 (.cells #[.int .i64 x, .int .i64 y, .int .i64 z, .int .i64 t] 24)
  refine (once_any V g v l 9 _ cu1 (by decide) (by decide)).mono ?_
  rintro e w2 ⟨b, rfl, cu2, hg2⟩
  replace g1 := grown_trans g1 hg2
  replace bR := bR.grown hg2 (by simpa using hRg)
  replace bX := bX.grown hg2 (by simpa using hXg)
  clear hg2 cu1
  cases b
  · have r0 := bR.c 0 rfl
    have rf0 := bR.f 0 rfl
    have r1 := bR.c 1 rfl
    have rf1 := bR.f 1 rfl
    have r2 := bR.c 2 rfl
    have rf2 := bR.f 2 rfl
    have r3 := bR.c 3 rfl
    have rf3 := bR.f 3 rfl
    have x0 := bX.c 0 rfl
    have xf0 := bX.f 0 rfl
    have x1 := bX.c 1 rfl
    have xf1 := bX.f 1 rfl
    have x2 := bX.c 2 rfl
    have xf2 := bX.f 2 rfl
    have x3 := bX.c 3 rfl
    have xf3 := bX.f 3 rfl
    go_wp2_with fail
    have bE := ((((bR.set 0 (.int .i64 x)).set 1 (.int .i64 y)).set 2 (.int .i64 z)).set 3 (.int .i64 t))
    have e0 := bE.c 0 rfl
    have e1 := bE.c 1 rfl
    have e2 := bE.c 2 rfl
    have e3 := bE.c 3 rfl
    exact bodyPost_ret (v := .agg #[.int .i64 x, .int .i64 y, .int .i64 z, .int .i64 t]) (by simp [results, Tryd.results28, go_sem, e0, e1, e2, e3]) rfl
      ⟨_, _, _, _, rfl, by repeat' (first | exact cu2 | (refine Cur.setNew ?_ hRg hRV) | (refine Cur.setNew ?_ hXg hXV)), by repeat' (first | exact g1 | (refine grown_setNew ?_ hRw) | (refine grown_setNew ?_ hXw))⟩
  · go_wp2_with fail
    refine (below_any V g v l 4 _ cu2 (by decide) (by decide)).mono ?_
    rintro e w3 ⟨q, rfl, ⟨hq0, hq1⟩, cu3, hg3⟩
    replace g1 := grown_trans g1 hg3
    replace bR := bR.grown hg3 (by simpa using hRg)
    replace bX := bX.grown hg3 (by simpa using hXg)
    clear hg3 cu2
    by_cases q0 : q = 0
    · subst q0
      clear hq0 hq1
      go_wp2_with fail
      have hcl := cu3.lt
      refine (pick_any V g v l (fun i => [0, 65536].getD i 0) 2 w3.heap.size _ (cu3.alloc _) (by decide) (by decide) (by simp <;> omega) (by simp) (lit_cells _ [0, 65536] _ _ (by simp))).mono ?_
      rintro e w4 ⟨r, rfl, -, cu4, hg4⟩
      replace g1 := grown_trans (grown_alloc g1 _) hg4
      replace bR := (bR.alloc _).grown hg4 (by simpa using hRg)
      replace bX := (bX.alloc _).grown hg4 (by simpa using hXg)
      clear hg4 cu3 hcl
      have r0 := bR.c 0 rfl
      have rf0 := bR.f 0 rfl
      have r1 := bR.c 1 rfl
      have rf1 := bR.f 1 rfl
      have r2 := bR.c 2 rfl
      have rf2 := bR.f 2 rfl
      have r3 := bR.c 3 rfl
      have rf3 := bR.f 3 rfl
      have x0 := bX.c 0 rfl
      have xf0 := bX.f 0 rfl
      have x1 := bX.c 1 rfl
      have xf1 := bX.f 1 rfl
      have x2 := bX.c 2 rfl
      have xf2 := bX.f 2 rfl
      have x3 := bX.c 3 rfl
      have xf3 := bX.f 3 rfl
      go_wp2_with fail
      have bE := (((((bR.far (o := 0) (u := .int .i64 r) hRX).set 0 (.int .i64 r)).set 1 (.int .i64 y)).set 2 (.int .i64 z)).set 3 (.int .i64 t))
      have e0 := bE.c 0 rfl
      have e1 := bE.c 1 rfl
      have e2 := bE.c 2 rfl
      have e3 := bE.c 3 rfl
      exact bodyPost_ret (v := .agg #[.int .i64 r, .int .i64 y, .int .i64 z, .int .i64 t]) (by simp [results, Tryd.results28, go_sem, e0, e1, e2, e3]) rfl
        ⟨_, _, _, _, rfl, by repeat' (first | exact cu4 | (refine Cur.setNew ?_ hRg hRV) | (refine Cur.setNew ?_ hXg hXV)), by repeat' (first | exact g1 | (refine grown_setNew ?_ hRw) | (refine grown_setNew ?_ hXw))⟩
    · skip
      by_cases q1 : q = 1
      · subst q1
        clear hq0 hq1
        go_wp2_with fail
        have hcl := cu3.lt
        refine (pick_any V g v l (fun i => [0, 256].getD i 0) 2 w3.heap.size _ (cu3.alloc _) (by decide) (by decide) (by simp <;> omega) (by simp) (lit_cells _ [0, 256] _ _ (by simp))).mono ?_
        rintro e w4 ⟨r, rfl, -, cu4, hg4⟩
        replace g1 := grown_trans (grown_alloc g1 _) hg4
        replace bR := (bR.alloc _).grown hg4 (by simpa using hRg)
        replace bX := (bX.alloc _).grown hg4 (by simpa using hXg)
        clear hg4 cu3 hcl
        have r0 := bR.c 0 rfl
        have rf0 := bR.f 0 rfl
        have r1 := bR.c 1 rfl
        have rf1 := bR.f 1 rfl
        have r2 := bR.c 2 rfl
        have rf2 := bR.f 2 rfl
        have r3 := bR.c 3 rfl
        have rf3 := bR.f 3 rfl
        have x0 := bX.c 0 rfl
        have xf0 := bX.f 0 rfl
        have x1 := bX.c 1 rfl
        have xf1 := bX.f 1 rfl
        have x2 := bX.c 2 rfl
        have xf2 := bX.f 2 rfl
        have x3 := bX.c 3 rfl
        have xf3 := bX.f 3 rfl
        go_wp2_with fail
        have bE := (((((bR.far (o := 1) (u := .int .i64 r) hRX).set 0 (.int .i64 x)).set 1 (.int .i64 r)).set 2 (.int .i64 z)).set 3 (.int .i64 t))
        have e0 := bE.c 0 rfl
        have e1 := bE.c 1 rfl
        have e2 := bE.c 2 rfl
        have e3 := bE.c 3 rfl
        exact bodyPost_ret (v := .agg #[.int .i64 x, .int .i64 r, .int .i64 z, .int .i64 t]) (by simp [results, Tryd.results28, go_sem, e0, e1, e2, e3]) rfl
          ⟨_, _, _, _, rfl, by repeat' (first | exact cu4 | (refine Cur.setNew ?_ hRg hRV) | (refine Cur.setNew ?_ hXg hXV)), by repeat' (first | exact g1 | (refine grown_setNew ?_ hRw) | (refine grown_setNew ?_ hXw))⟩
      · skip
        by_cases q2 : q = 2
        · subst q2
          clear hq0 hq1
          go_wp2_with fail
          have hcl := cu3.lt
          refine (pick_any V g v l (fun i => [2, 256].getD i 0) 2 w3.heap.size _ (cu3.alloc _) (by decide) (by decide) (by simp <;> omega) (by simp) (lit_cells _ [2, 256] _ _ (by simp))).mono ?_
          rintro e w4 ⟨r, rfl, -, cu4, hg4⟩
          replace g1 := grown_trans (grown_alloc g1 _) hg4
          replace bR := (bR.alloc _).grown hg4 (by simpa using hRg)
          replace bX := (bX.alloc _).grown hg4 (by simpa using hXg)
          clear hg4 cu3 hcl
          have r0 := bR.c 0 rfl
          have rf0 := bR.f 0 rfl
          have r1 := bR.c 1 rfl
          have rf1 := bR.f 1 rfl
          have r2 := bR.c 2 rfl
          have rf2 := bR.f 2 rfl
          have r3 := bR.c 3 rfl
          have rf3 := bR.f 3 rfl
          have x0 := bX.c 0 rfl
          have xf0 := bX.f 0 rfl
          have x1 := bX.c 1 rfl
          have xf1 := bX.f 1 rfl
          have x2 := bX.c 2 rfl
          have xf2 := bX.f 2 rfl
          have x3 := bX.c 3 rfl
          have xf3 := bX.f 3 rfl
          go_wp2_with fail
          have bE := (((((bR.far (o := 2) (u := .int .i64 r) hRX).set 0 (.int .i64 x)).set 1 (.int .i64 y)).set 2 (.int .i64 r)).set 3 (.int .i64 t))
          have e0 := bE.c 0 rfl
          have e1 := bE.c 1 rfl
          have e2 := bE.c 2 rfl
          have e3 := bE.c 3 rfl
          exact bodyPost_ret (v := .agg #[.int .i64 x, .int .i64 y, .int .i64 r, .int .i64 t]) (by simp [results, Tryd.results28, go_sem, e0, e1, e2, e3]) rfl
            ⟨_, _, _, _, rfl, by repeat' (first | exact cu4 | (refine Cur.setNew ?_ hRg hRV) | (refine Cur.setNew ?_ hXg hXV)), by repeat' (first | exact g1 | (refine grown_setNew ?_ hRw) | (refine grown_setNew ?_ hXw))⟩
        · skip
          have n0 : (q == 0) = false := by simp [q0]
          have n1 : (q == 1) = false := by simp [q1]
          have n2 : (q == 2) = false := by simp [q2]
          go_wp2_with fail
          have hcl := cu3.lt
          refine (pick_any V g v l (fun i => [-1, 65536].getD i 0) 2 w3.heap.size _ (cu3.alloc _) (by decide) (by decide) (by simp <;> omega) (by simp) (lit_cells _ [-1, 65536] _ _ (by simp))).mono ?_
          rintro e w4 ⟨r, rfl, -, cu4, hg4⟩
          replace g1 := grown_trans (grown_alloc g1 _) hg4
          replace bR := (bR.alloc _).grown hg4 (by simpa using hRg)
          replace bX := (bX.alloc _).grown hg4 (by simpa using hXg)
          clear hg4 cu3 hcl
          have r0 := bR.c 0 rfl
          have rf0 := bR.f 0 rfl
          have r1 := bR.c 1 rfl
          have rf1 := bR.f 1 rfl
          have r2 := bR.c 2 rfl
          have rf2 := bR.f 2 rfl
          have r3 := bR.c 3 rfl
          have rf3 := bR.f 3 rfl
          have x0 := bX.c 0 rfl
          have xf0 := bX.f 0 rfl
          have x1 := bX.c 1 rfl
          have xf1 := bX.f 1 rfl
          have x2 := bX.c 2 rfl
          have xf2 := bX.f 2 rfl
          have x3 := bX.c 3 rfl
          have xf3 := bX.f 3 rfl
          go_wp2_with fail
          have bE := (((((bR.far (o := 3) (u := .int .i64 r) hRX).set 0 (.int .i64 x)).set 1 (.int .i64 y)).set 2 (.int .i64 z)).set 3 (.int .i64 r))
          have e0 := bE.c 0 rfl
          have e1 := bE.c 1 rfl
          have e2 := bE.c 2 rfl
          have e3 := bE.c 3 rfl
          exact bodyPost_ret (v := .agg #[.int .i64 x, .int .i64 y, .int .i64 z, .int .i64 r]) (by simp [results, Tryd.results28, go_sem, e0, e1, e2, e3]) rfl
            ⟨_, _, _, _, rfl, by repeat' (first | exact cu4 | (refine Cur.setNew ?_ hRg hRV) | (refine Cur.setNew ?_ hXg hXV)), by repeat' (first | exact g1 | (refine grown_setNew ?_ hRw) | (refine grown_setNew ?_ hXw))⟩
theorem drawGreet_any (v : Value) (l : List Int) (w : World) (hr : Rd w v l) :
    Calls Tryd.prog 6 #[v] w fun e w' => ∃ sa si sh sp ta ti th tp : Int, e = .returned (.tuple #[.agg #[.int .i64 sa, .int .i64 si, .int .i64 sh, .int .i64 sp], .agg #[.int .i64 ta, .int .i64 ti, .int .i64 th, .int .i64 tp]]) ∧ Below w.heap.size w w' := by
  obtain ⟨bR, bS, B0, z⟩ := two w [.int .i64 0, .int .i64 0, .int .i64 0, .int .i64 0] [.int .i64 0, .int .i64 0, .int .i64 0, .int .i64 0] 24 24
  have hV := hr.keep B0
  obtain ⟨R, hR⟩ : ∃ R, R = w.heap.size := ⟨_, rfl⟩
  obtain ⟨S, hS⟩ : ∃ S, S = w.heap.size + 1 := ⟨_, rfl⟩
  have hRS : R ≠ S := by omega
  have hwR : w.heap.size ≤ R := by omega
  have hwS : w.heap.size ≤ S := by omega
  rw [← hR] at bR
  rw [← hS] at bS
  go_enter Tryd.func6, Tryd.ntmps6
  go_wp2_with fail
  refine (new_any v l _ hV).mono ?_
  rintro e w1 ⟨g, rfl, cu1⟩
  have hgz := cu1.hg
  rw [z] at hgz
  have hRg : R ≠ g := by omega
  have hSg : S ≠ g := by omega
  replace bR := bR.keep cu1.over
  replace bS := bS.keep cu1.over
  have o1 := below_step B0 cu1.over
  clear z hgz hV
  try rw [← hS]
  try rw [← hR]
  clear hR hS
  go_wp2_with fail
  refine (bentConf_any _ g v l _ cu1).mono ?_
  rintro e w2 ⟨sa, si, sh, sp, rfl, cu2, hg2⟩
  replace bR := bR.grown hg2 (by simpa using hRg)
  replace bS := bS.grown hg2 (by simpa using hSg)
  clear hg2 cu1 o1
  go_wp2_with fail
  refine (bentConf_any _ g v l _ cu2).mono ?_
  rintro e w3 ⟨ta, ti, th, tp, rfl, cu3, hg3⟩
  replace bR := bR.grown hg3 (by simpa using hRg)
  replace bS := bS.grown hg3 (by simpa using hSg)
  have o3 := below_step B0 cu3.over
  clear hg3 cu2
  have r0 := bR.c 0 rfl
  have rf0 := bR.f 0 rfl
  have r1 := bR.c 1 rfl
  have rf1 := bR.f 1 rfl
  have r2 := bR.c 2 rfl
  have rf2 := bR.f 2 rfl
  have r3 := bR.c 3 rfl
  have rf3 := bR.f 3 rfl
  have s0 := bS.c 0 rfl
  have sf0 := bS.f 0 rfl
  have s1 := bS.c 1 rfl
  have sf1 := bS.f 1 rfl
  have s2 := bS.c 2 rfl
  have sf2 := bS.f 2 rfl
  have s3 := bS.c 3 rfl
  have sf3 := bS.f 3 rfl
  go_wp2_with fail
  have bE := ((((((((bR.set 0 (.int .i64 sa)).set 1 (.int .i64 si)).set 2 (.int .i64 sh)).set 3 (.int .i64 sp)).far (o := 0) (u := .int .i64 ta) hRS).far (o := 1) (u := .int .i64 ti) hRS).far (o := 2) (u := .int .i64 th) hRS).far (o := 3) (u := .int .i64 tp) hRS)
  have bF := ((((((((bS.far (o := 0) (u := .int .i64 sa) hRS.symm).far (o := 1) (u := .int .i64 si) hRS.symm).far (o := 2) (u := .int .i64 sh) hRS.symm).far (o := 3) (u := .int .i64 sp) hRS.symm).set 0 (.int .i64 ta)).set 1 (.int .i64 ti)).set 2 (.int .i64 th)).set 3 (.int .i64 tp))
  have e0 := bE.c 0 rfl
  have d0 := bF.c 0 rfl
  have e1 := bE.c 1 rfl
  have d1 := bF.c 1 rfl
  have e2 := bE.c 2 rfl
  have d2 := bF.c 2 rfl
  have e3 := bE.c 3 rfl
  have d3 := bF.c 3 rfl
  exact bodyPost_ret (v := .tuple #[.agg #[.int .i64 sa, .int .i64 si, .int .i64 sh, .int .i64 sp], .agg #[.int .i64 ta, .int .i64 ti, .int .i64 th, .int .i64 tp]]) (by simp [results, Tryd.results6, go_sem, e0, e1, e2, e3, d0, d1, d2, d3]) rfl
    ⟨_, _, _, _, _, _, _, _, rfl, ((((((((o3.setCell (p := ⟨R, 0, none⟩) hwR (.int .i64 sa)).setCell (p := ⟨R, 1, none⟩) hwR (.int .i64 si)).setCell (p := ⟨R, 2, none⟩) hwR (.int .i64 sh)).setCell (p := ⟨R, 3, none⟩) hwR (.int .i64 sp)).setCell (p := ⟨S, 0, none⟩) hwS (.int .i64 ta)).setCell (p := ⟨S, 1, none⟩) hwS (.int .i64 ti)).setCell (p := ⟨S, 2, none⟩) hwS (.int .i64 th)).setCell (p := ⟨S, 3, none⟩) hwS (.int .i64 tp))⟩
end Go.Proofs.YtcmbajphholliabDoor
