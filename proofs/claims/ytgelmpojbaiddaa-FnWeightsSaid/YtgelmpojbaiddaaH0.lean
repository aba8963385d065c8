/-
  The model's cursor over the bytes of a draw: what a step leaves. Conditions: those in each contract.
-/
import Derived.Test.YtgelmpojbaiddaaB3
import Derived.Deep.AppendLies
import Derived.Test.YtgelmpojbaiddaaG1
namespace Go.Proofs.Ytgelmpojbaiddaa
open Go.ChangeShapes Go.WideShapes Go.ChangeAt Go.RowKit Go.BigFrame
set_option linter.unusedVariables false
set_option maxRecDepth 100000

/-- block g is a cursor over the bytes l, which lie in the older world V -/
structure Cur (V w : World) (g : Nat) (v : Value) (l : List Int) : Prop where
  rd : Rd V v l
  over : Over V w
  hg : V.heap.size ≤ g
  lt : g < w.heap.size
  len : l.length ≤ 9223372036854775807
  c0 : w.cell? ⟨g, 0, none⟩ = some v
  c1 : ∃ i : Nat, i ≤ l.length ∧ w.cell? ⟨g, 1, none⟩ = some (.int .i64 i)
  c2 : ∃ h : Int, w.cell? ⟨g, 2, none⟩ = some (.int .i64 h)
  f1 : w.frozen? ⟨g, 1, none⟩ = false
  f2 : w.frozen? ⟨g, 2, none⟩ = false
/-- a step of the cursor: a number, the cursor anew, all other blocks as they were -/
def CurB (V : World) (g : Nat) (v : Value) (l : List Int) (P : Int → Prop) (w : World) (e : Ending) (w' : World) : Prop :=
  ∃ x : Int, e = .returned (.int .i64 x) ∧ P x ∧ Cur V w' g v l ∧ w.grownBy w' (some g)
theorem and255_bd (x : Int) : 0 ≤ bits .and .i64 x 255 ∧ bits .and .i64 x 255 ≤ 255 := by
  unfold bits
  show 0 ≤ IntKind.i64.wrap ((BitVec.ofInt 64 x &&& BitVec.ofInt 64 255).toNat : Int) ∧ IntKind.i64.wrap ((BitVec.ofInt 64 x &&& BitVec.ofInt 64 255).toNat : Int) ≤ 255
  rw [BitVec.toNat_and]
  have h : (BitVec.ofInt 64 255).toNat = 255 := by decide
  rw [h]
  have := Nat.and_le_right (n := (BitVec.ofInt 64 x).toNat) (m := 255)
  rw [wrap64_in _ (by omega) (by omega)]
  omega

theorem Cur.drewN {V w : World} {g : Nat} {v : Value} {l : List Int} (h : Cur V w g v l) (n : Nat) : Cur V (w.drewN n) g v l :=
  ⟨h.rd, below_drewN h.over n, h.hg, h.lt, h.len, h.c0, h.c1, h.c2, h.f1, h.f2⟩
theorem cur_end {V w w2 : World} {g i : Nat} {v : Value} {l : List Int} {X : Int} (h : Cur V w g v l) (hg : w.grownBy w2 (some g)) (d0 : w2.cell? ⟨g, 0, none⟩ = some v) (hi : i ≤ l.length) (d1 : w2.cell? ⟨g, 1, none⟩ = some (.int .i64 i)) (d2 : w2.cell? ⟨g, 2, none⟩ = some (.int .i64 X))
    (f1 : w2.frozen? ⟨g, 1, none⟩ = false) (f2 : w2.frozen? ⟨g, 2, none⟩ = false) : Cur V w2 g v l :=
  ⟨h.rd, over_row h.over h.hg hg, h.hg, Nat.lt_of_lt_of_le h.lt hg.size, h.len, d0, ⟨i, hi, d1⟩, ⟨X, d2⟩, f1, f2⟩

theorem byte_any (V : World) (g : Nat) (v : Value) (l : List Int) (w : World) (h : Cur V w g v l) :
    Calls Try.prog 111 #[.pointer (some ⟨g, 0, none⟩)] w (CurB V g v l (fun x => 0 ≤ x ∧ x ≤ 255) w) := by
  obtain ⟨i, hi, c1⟩ := h.c1
  obtain ⟨q, c2⟩ := h.c2
  have c0 := h.c0
  have f1 := h.f1
  have f2 := h.f2
  have hlen := h.len
  by_cases hlt : i < l.length
  · have hR := rd_over h.rd h.over
    have hRV := h.rd
    obtain ⟨hbd, _, ⟨p, c, rfl, rfl, _⟩ | ⟨b, o, c, rfl, hp, hc⟩⟩ := hRV
    · simp at hlt
    · have hb : b < V.heap.size := World.block_lt_of_cell? V _ (hc i hlt)
      have e0 := over_cell h.over hb (hc i hlt)
      have hbg : b ≠ g := by have := h.hg; omega
      obtain ⟨y, hy⟩ : ∃ y, l.getD i 0 = y := ⟨_, rfl⟩
      rw [hy] at e0
      have hy0 : 0 ≤ y ∧ y ≤ 255 := by rw [← hy]; exact getD_bd hbd i
      have hltI : (i : Int) < (l.length : Int) := by omega
      have hneg : ⟨g, 2, none⟩ ≠ (⟨b, o + i, none⟩ : Addr) := by intro e; injection e with e1 _; exact hbg e1.symm
      have hO := h.over
      have hgV := h.hg
      have hgl := h.lt
      clear hy hc hR hp
      go_enter Try.func111, Try.ntmps111
      go_wp2_with fail
      obtain ⟨X, hX⟩ : ∃ X, X = wrap64 (wrap64 (q * 6364136223846793005) + 1442695040888963407) := ⟨_, rfl⟩
      rw [← hX]
      clear hX
      have d0 := set_other (u := .int .i64 X) (a := ⟨g, 2, none⟩) (by simp) c0
      have d1 := set_other (u := .int .i64 X) (a := ⟨g, 2, none⟩) (by simp) c1
      have d2 := set_same (u := .int .i64 X) c2
      have de := set_other (u := .int .i64 X) hneg e0
      have df1 : (w.setCell ⟨g, 2, none⟩ (.int .i64 X)).frozen? ⟨g, 1, none⟩ = false := by rw [World.frozen?_setCell]; exact f1
      have df2 : (w.setCell ⟨g, 2, none⟩ (.int .i64 X)).frozen? ⟨g, 2, none⟩ = false := by rw [World.frozen?_setCell]; exact f2
      have dg := grown_set w g 2 (.int .i64 X)
      have dl : g < (w.setCell ⟨g, 2, none⟩ (.int .i64 X)).heap.size := Nat.lt_of_lt_of_le hgl dg.size
      clear c0 c1 c2 e0 f1 f2 hneg
      generalize w.setCell ⟨g, 2, none⟩ (.int .i64 X) = w2 at *
      go_quiet (fail)
      go_wp2_with fail
      have hz := and255_bd (bits .xor .i64 (X / 8589934592) (X / 35184372088832))
      generalize bits .and .i64 (bits .xor .i64 (X / 8589934592) (X / 35184372088832)) 255 = z at hz ⊢
      go_quiet (fail)
      go_wp2_with fail
      have hwz : IntKind.i64.wrap (z + y) = z + y := wrap64_in _ (by omega) (by omega)
      go_quiet (fail)
      clear hwz
      go_wp2_with fail
      have hx := and255_bd (z + y)
      have hci : ((i + 1 : Nat) : Int) = (i : Int) + 1 := by omega
      have e1 := set_same (u := .int .i64 ((i : Int) + 1)) d1
      rw [← hci] at e1
      have cu := cur_end (i := i + 1) h (grown_trans dg (grown_set w2 g 1 (.int .i64 ((i + 1 : Nat) : Int)))) (set_other (by simp) d0) (by omega) e1 (set_other (by simp) d2) (by rw [World.frozen?_setCell]; exact df1) (by rw [World.frozen?_setCell]; exact df2)
      have gr := grown_trans dg (grown_set w2 g 1 (.int .i64 ((i + 1 : Nat) : Int)))
      rw [hci] at cu gr
      clear hci e1
      go_ret
      exact ⟨_, rfl, hx, by rw [set_drewN]; exact cu.drewN _, by rw [set_drewN]; exact grown_dn gr _⟩
  · obtain ⟨p, c, hv⟩ := h.rd.len
    have hnI : ¬ (i : Int) < (l.length : Int) := by omega
    have hO := h.over
    have hgV := h.hg
    have hgl := h.lt
    rw [hv] at c0
    go_enter Try.func111, Try.ntmps111
    go_wp2_with fail
    obtain ⟨X, hX⟩ : ∃ X, X = wrap64 (wrap64 (q * 6364136223846793005) + 1442695040888963407) := ⟨_, rfl⟩
    rw [← hX]
    clear hX
    have d0 := set_other (u := .int .i64 X) (a := ⟨g, 2, none⟩) (by simp) c0
    have d1 := set_other (u := .int .i64 X) (a := ⟨g, 2, none⟩) (by simp) c1
    have d2 := set_same (u := .int .i64 X) c2
    have df1 : (w.setCell ⟨g, 2, none⟩ (.int .i64 X)).frozen? ⟨g, 1, none⟩ = false := by rw [World.frozen?_setCell]; exact f1
    have df2 : (w.setCell ⟨g, 2, none⟩ (.int .i64 X)).frozen? ⟨g, 2, none⟩ = false := by rw [World.frozen?_setCell]; exact f2
    have dg := grown_set w g 2 (.int .i64 X)
    have cu := cur_end (i := i) h dg (by rw [hv]; exact d0) hi d1 d2 df1 df2
    clear c0 c1 c2 f1 f2
    generalize w.setCell ⟨g, 2, none⟩ (.int .i64 X) = w2 at *
    go_quiet (fail)
    go_wp2_with fail
    have hz := and255_bd (bits .xor .i64 (X / 8589934592) (X / 35184372088832))
    generalize bits .and .i64 (bits .xor .i64 (X / 8589934592) (X / 35184372088832)) 255 = z at hz ⊢
    go_quiet (fail)
    go_wp2_with fail
    go_ret
    exact ⟨_, rfl, hz, by repeat' (first | exact cu | apply Cur.drewN), by repeat' (first | exact dg | apply grown_dn)⟩

/-- a number below n -/
theorem below_small (V : World) (g : Nat) (v : Value) (l : List Int) (n : Int) (w : World) (h : Cur V w g v l) (h0 : 1 ≤ n) (h1 : n ≤ 256) :
    Calls Try.prog 97 #[.pointer (some ⟨g, 0, none⟩), .int .i64 n] w (CurB V g v l (fun x => 0 ≤ x ∧ x < n) w) := by
  go_enter Try.func97, Try.ntmps97
  go_wp2_with fail
  refine (byte_any V g v l _ h).mono ?_
  rintro e w1 ⟨x, rfl, ⟨hx0, hx1⟩, hc, hg⟩
  have hm0 : 0 ≤ x % n := Int.emod_nonneg _ (by omega)
  have hm1 : x % n < n := Int.emod_lt_of_pos _ (by omega)
  go_wp2_with fail
  go_ret
  exact ⟨_, rfl, ⟨hm0, hm1⟩, hc, hg⟩
theorem below_big (V : World) (g : Nat) (v : Value) (l : List Int) (n : Int) (w : World) (h : Cur V w g v l) (h0 : 256 < n) (h1 : n ≤ 4294967296) :
    Calls Try.prog 97 #[.pointer (some ⟨g, 0, none⟩), .int .i64 n] w (CurB V g v l (fun x => 0 ≤ x ∧ x < n) w) := by
  go_enter Try.func97, Try.ntmps97
  go_wp2_with fail
  refine (byte_any V g v l _ h).mono ?_
  rintro e w1 ⟨x, rfl, ⟨hx0, hx1⟩, hc1, hg1⟩
  go_wp2_with fail
  refine (byte_any V g v l _ hc1).mono ?_
  rintro e w2 ⟨y, rfl, ⟨hy0, hy1⟩, hc2, hg2⟩
  go_wp2_with fail
  refine (byte_any V g v l _ hc2).mono ?_
  rintro e w3 ⟨z, rfl, ⟨hz0, hz1⟩, hc3, hg3⟩
  go_wp2_with fail
  refine (byte_any V g v l _ hc3).mono ?_
  rintro e w4 ⟨t, rfl, ⟨ht0, ht1⟩, hc4, hg4⟩
  have hm0 : 0 ≤ (x * 16777216 + y * 65536 + z * 256 + t) % n := Int.emod_nonneg _ (by omega)
  have hm1 : (x * 16777216 + y * 65536 + z * 256 + t) % n < n := Int.emod_lt_of_pos _ (by omega)
  go_wp2_with fail
  go_ret
  exact ⟨_, rfl, ⟨hm0, hm1⟩, hc4, grown_trans hg1 (grown_trans hg2 (grown_trans hg3 hg4))⟩
theorem below_any (V : World) (g : Nat) (v : Value) (l : List Int) (n : Int) (w : World) (h : Cur V w g v l) (h0 : 1 ≤ n) (h1 : n ≤ 4294967296) :
    Calls Try.prog 97 #[.pointer (some ⟨g, 0, none⟩), .int .i64 n] w (CurB V g v l (fun x => 0 ≤ x ∧ x < n) w) := by
  by_cases hn : n ≤ 256
  · exact below_small V g v l n w h h0 hn
  · exact below_big V g v l n w h (by omega) h1
/-- a bool out of the cursor -/
def CurO (V : World) (g : Nat) (v : Value) (l : List Int) (w : World) (e : Ending) (w' : World) : Prop :=
  ∃ b : Bool, e = .returned (.bool b) ∧ Cur V w' g v l ∧ w.grownBy w' (some g)
/-- one of a row of numbers that lies in an older block -/
theorem pick_any (V : World) (g : Nat) (v : Value) (l : List Int) (f : Nat → Int) (n b : Nat) (w : World) (h : Cur V w g v l) (hp : 1 ≤ n) (hz : n ≤ 1000) (hb : b ≠ g) (hbl : b < w.heap.size)
    (hc : ∀ i, i < n → w.cell? ⟨b, i, none⟩ = some (.int .i64 (f i))) :
    Calls Try.prog 66 #[.pointer (some ⟨g, 0, none⟩), .slice (some ⟨b, 0, none⟩) n n] w (CurB V g v l (fun x => ∃ i : Nat, i < n ∧ x = f i) w) := by
  have hn0 : (1 : Int) ≤ n := by omega
  have hn1 : (n : Int) ≤ 4294967296 := by omega
  go_enter Try.func66, Try.ntmps66
  go_wp2_with fail
  refine (below_any V g v l n _ h hn0 hn1).mono ?_
  rintro e w1 ⟨x, rfl, ⟨hx0, hx1⟩, hcu, hg⟩
  obtain ⟨i, rfl⟩ := Int.eq_ofNat_of_zero_le hx0
  have e0 := hg.cell (hc i (by omega)) (by simpa using hb)
  clear hc
  go_wp2_with fail
  go_ret
  exact ⟨_, rfl, ⟨i, by omega, rfl⟩, hcu, hg⟩
theorem cur_new {w wr : World} {v : Value} {l : List Int} (h : Rd w v l) (hl : l.length ≤ 9223372036854775807) (hB : Over w wr) (q : Int) (t : TypeId) :
    Cur w (wr.alloc (.cells #[v, .int .i64 0, .int .i64 q] t)) wr.heap.size v l := by
  have lt : wr.heap.size < (wr.alloc (.cells #[v, .int .i64 0, .int .i64 q] t)).heap.size := by simp
  exact ⟨h, over_alloc hB _, hB.size, lt, hl, by simp, ⟨0, Nat.zero_le _, by simp⟩, ⟨q, by simp⟩, World.frozen?_alloc_at _ _ _ _ rfl, World.frozen?_alloc_at _ _ _ _ rfl⟩
theorem new_any (v : Value) (l : List Int) (w : World) (h : Rd w v l) :
    Calls Try.prog 65 #[v] w (fun e w' => ∃ g, e = .returned (.pointer (some ⟨g, 0, none⟩)) ∧ Cur w w' g v l) := by
  have hR := h
  have hlm : l.length ≤ 9223372036854775807 := by have := h.2.1; unfold maxLen at this; omega
  have hce : ∀ i, i < l.length → ∃ b o c, v = .slice (some ⟨b, o, none⟩) l.length c ∧ b < w.heap.size ∧ w.cell? ⟨b, o + i, none⟩ = some (.int .u8 (l.getD i 0)) := by
    intro i hi
    rcases hR.2.2 with ⟨p, c, rfl, rfl, _⟩ | ⟨b, o, c, rfl, hp, hc⟩
    · simp at hi
    · exact ⟨b, o, c, rfl, World.block_lt_of_cell? _ _ (hc i hi), hc i hi⟩
  obtain ⟨p, c, hv⟩ := hR.len
  subst hv
  clear h
  go_enter Try.func65, Try.ntmps65
  go_wp2_with fail
  go_loopw [3, 4] (fun a i wr => ∃ (q : Int) (k : Nat), k ≤ l.length ∧ k ≤ 4000 ∧ a = .int .i64 q ∧ i = .int .i64 k ∧ Over w wr) (fun _ i _ => 4000 - (intOf i).toNat)
  case atStart => exact ⟨_, 0, Nat.zero_le _, Nat.zero_le _, rfl, rfl, over_refl _⟩
  case round =>
    obtain ⟨q, k, hk, hk4, rfl, rfl, hB⟩ := hrel
    by_cases hlt : k < l.length
    · obtain ⟨b, o, c2, hv, hbl, hcc⟩ := hce k hlt
      obtain rfl : p = some ⟨b, o, none⟩ := by injection hv
      have e0 := over_cell hB hbl hcc
      have hltI : (k : Int) < (l.length : Int) := by omega
      obtain ⟨x, hx⟩ : ∃ x, l.getD k 0 = x := ⟨_, rfl⟩
      rw [hx] at e0
      have hx0 : 0 ≤ x ∧ x ≤ 255 := by rw [← hx]; exact getD_bd hR.1 k
      clear hx hcc hv hce
      by_cases h4 : k < 4000
      · have h4I : (k : Int) < 4000 := by omega
        go_wp2_with fail
        go_roundw
        case rel => exact ⟨_, k + 1, by omega, by omega, rfl, by go_num, by first | exact hB | exact below_drewN hB _⟩
        case measure => simp [intOf]; omega
      · have h4I : ¬ (k : Int) < 4000 := by omega
        go_wp2_with fail
        go_ret
        exact ⟨_, rfl, cur_new hR hlm hB _ _⟩
    · have hltI : ¬ (k : Int) < (l.length : Int) := by omega
      clear hce
      go_wp2_with fail
      go_ret
      exact ⟨_, rfl, cur_new hR hlm hB _ _⟩

theorem Cur.alloc {V w : World} {g : Nat} {v : Value} {l : List Int} (h : Cur V w g v l) (o : Obj) : Cur V (w.alloc o) g v l := by
  have e (i : Nat) : (w.alloc o).cell? ⟨g, i, none⟩ = w.cell? ⟨g, i, none⟩ := World.cell?_alloc_past _ _ _ h.lt
  obtain ⟨i, hi, c1⟩ := h.c1
  obtain ⟨q, c2⟩ := h.c2
  exact ⟨h.rd, over_alloc h.over o, h.hg, Nat.lt_of_lt_of_le h.lt (by simp), h.len, (e 0).trans h.c0, ⟨i, hi, (e 1).trans c1⟩, ⟨q, (e 2).trans c2⟩, (World.frozen?_alloc_past _ _ _ h.lt).trans h.f1, (World.frozen?_alloc_past _ _ _ h.lt).trans h.f2⟩
theorem Cur.setNew {V w : World} {g B o : Nat} {v u : Value} {l : List Int} (h : Cur V w g v l) (hne : B ≠ g) (hB : V.heap.size ≤ B) : Cur V (w.setCell ⟨B, o, none⟩ u) g v l := by
  have e (i : Nat) : (w.setCell ⟨B, o, none⟩ u).cell? ⟨g, i, none⟩ = w.cell? ⟨g, i, none⟩ := World.cell?_setCell_other _ _ _ _ (by intro q; injection q with q _; exact hne q)
  obtain ⟨i, hi, c1⟩ := h.c1
  obtain ⟨q, c2⟩ := h.c2
  have gr := grown_set w B o u
  exact ⟨h.rd, over_row h.over hB gr, h.hg, Nat.lt_of_lt_of_le h.lt gr.size, h.len, (e 0).trans h.c0, ⟨i, hi, (e 1).trans c1⟩, ⟨q, (e 2).trans c2⟩, by rw [World.frozen?_setCell]; exact h.f1, by rw [World.frozen?_setCell]; exact h.f2⟩
theorem lit_cells (w : World) (zs : List Int) (T : TypeId) (b : Nat) (hb : b = w.heap.size) : ∀ i, i < zs.length → (w.alloc (.cells (zs.map (Value.int .i64)).toArray T)).cell? ⟨b, i, none⟩ = some (.int .i64 (zs.getD i 0)) := by
  intro i hi
  rw [World.cell?_alloc_at _ _ _ _ hb]
  simp [List.getD, hi]
end Go.Proofs.Ytgelmpojbaiddaa
