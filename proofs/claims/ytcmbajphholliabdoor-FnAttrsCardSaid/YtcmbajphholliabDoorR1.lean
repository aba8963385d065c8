/-
  PrefixRead of the program: what it reads out of the bytes, and its contract. Conditions: those in each statement.
-/
import Derived.Test.YtcmbajphholliabDoorT2
import Derived.Test.YtcmbajphholliabDoorT3
import Derived.Test.YtcmbajphholliabDoorShelf
import Derived.Test.YtcmbajphholliabDoorD3
import Derived.Lib.OthersKept
import Derived.LoopTactic
import Derived.Shelf.Bytes.SlEqualAll
namespace Go.Proofs.YtcmbajphholliabDoor
open Go.ChangeShapes Go.WideShapes Go.ChangeAt Go.RowKit Go.BigFrame
set_option linter.unusedVariables false
set_option maxRecDepth 100000
set_option linter.unusedSimpArgs false

theorem Rd.bytesIn {w : World} {ad : Option Addr} {c : Nat} {l : List Int} (h : Rd w (.slice ad l.length c) l) : Lib.BytesIn w ad l.length l := by
  intro hp
  rcases h.2.2 with ⟨a, c, e, rfl, _⟩ | ⟨b, o, c, e, _, hc⟩
  · exact absurd hp (by simp)
  · injection e with e1 e2 e3
    exact ⟨b, o, e1, hc⟩
theorem conv_rd {w : World} {ad : Option Addr} {c : Nat} {l : List Int} (h : Rd w (.slice ad l.length c) l) :
    (convert 22 9 (.slice ad l.length c)).run Tryd.prog w = .ok (.string (strOfNums l)) w :=
  h.bytesIn.convert rfl c 22 5 9 Tryd.underlying22 Tryd.underlying5 Tryd.underlying9

def upd (f : Nat → Int) (k : Nat) (x : Int) : Nat → Int := fun i => if i = k then x else f i
def stepv (x : Int) (c : Nat) : Int := wrap64 (wrap64 (x * 10) + ((c : Int) - 48))
/-- the three numbers that the loop gathers; 'none': too many signs between them -/
def scan (s : ByteArray) : Nat → Nat → Nat → (Nat → Int) → Option (Nat → Int)
  | 0, _, _, f => some f
  | n + 1, pos, k, f => if pos < s.size then
      if 48 ≤ (Utf8.decode s pos).1 ∧ (Utf8.decode s pos).1 ≤ 57 then scan s n (pos + (Utf8.decode s pos).2) k (upd f k (stepv (f k) (Utf8.decode s pos).1))
      else if k + 1 = 3 then none else scan s n (pos + (Utf8.decode s pos).2) (k + 1) f
    else some f
theorem scan_step (s : ByteArray) (n pos k : Nat) (f : Nat → Int) (h : pos < s.size) : scan s (n + 1) pos k f =
    if 48 ≤ (Utf8.decode s pos).1 ∧ (Utf8.decode s pos).1 ≤ 57 then scan s n (pos + (Utf8.decode s pos).2) k (upd f k (stepv (f k) (Utf8.decode s pos).1))
      else if k + 1 = 3 then none else scan s n (pos + (Utf8.decode s pos).2) (k + 1) f := by
  rw [scan, if_pos h]
theorem grown_iterAt (w : World) (T : Nat) (s : ByteArray) (p : Nat) : w.grownBy (w.iterAt T s p) (some T) :=
  ⟨rfl, rfl, rfl, by rw [Lib.iterAt_size]; exact Nat.le_refl _, fun k hk hne => Lib.iterAt_other w T k s p (by simpa using hne)⟩
theorem scan_end (s : ByteArray) (n pos k : Nat) (f : Nat → Int) (h : ¬ pos < s.size) : scan s n pos k f = some f := by
  cases n <;> simp [scan, h]
theorem width_pos (s : ByteArray) (pos : Nat) (h : pos < s.size) : 1 ≤ (Utf8.decode s pos).2 := by
  by_cases ha : (s[pos]'h).toNat < 128
  · rw [decode_ascii s pos h ha]
    exact Nat.le_refl _
  · exact (decode_high s pos h (by omega)).2

theorem below_set {B b o : Nat} {a w : World} {u : Value} (h : Below B a w) (hb : B ≤ b) : Below B a (w.setCell ⟨b, o, none⟩ u) :=
  h.trans ⟨rfl, rfl, rfl, by simp [World.setCell], fun k hk => Below.heap_setCell _ _ _ _ (by show k ≠ b; omega)⟩
theorem bytes_eq {xs ys : List Int} (hx : ∀ x ∈ xs, 0 ≤ x ∧ x ≤ 255) (hy : ∀ x ∈ ys, 0 ≤ x ∧ x ≤ 255) : (Lib.bytesOf xs == Lib.bytesOf ys) = decide (xs = ys) := by
  have inj : ∀ (xs ys : List Int), (∀ x ∈ xs, 0 ≤ x ∧ x ≤ 255) → (∀ x ∈ ys, 0 ≤ x ∧ x ≤ 255) → Lib.bytesOf xs = Lib.bytesOf ys → xs = ys := by
    intro xs
    induction xs with
    | nil => intro ys _ _ h; cases ys with | nil => rfl | cons y ys => simp [Lib.bytesOf] at h
    | cons x xs ih =>
      intro ys h1 h2 h
      cases ys with
      | nil => simp [Lib.bytesOf] at h
      | cons y ys =>
        simp only [Lib.bytesOf, List.map_cons, List.cons.injEq] at h
        have q1 := h1 x (by simp)
        have q2 := h2 y (by simp)
        have e : x = y := by
          have := congrArg UInt8.toNat h.1
          simp at this
          omega
        rw [e, ih ys (fun z hz => h1 z (by simp [hz])) (fun z hz => h2 z (by simp [hz])) h.2]
  rw [Bool.eq_iff_iff, beq_iff_eq, decide_eq_true_eq]
  exact ⟨inj xs ys hx hy, fun e => by rw [e]⟩
/-- the address and the length that the three numbers give -/
def adr (f : Nat → Int) : Int := bits .or .i64 (wrap64 (f 0 * 256)) (f 1)
/-- r is what is read out of the bytes l -/
def ReadsAs (l : List Int) (r : Value) : Prop :=
  (∃ f, scan (strOfNums l) (strOfNums l).size 0 0 (fun _ => 0) = some f ∧ pokB (adr f) (f 2) = true ∧ textL (adr f) (f 2) = l ∧ r = .tuple #[.agg #[.int .i64 (adr f), .int .i64 (f 2)], .bool true]) ∨
  ((∀ f, scan (strOfNums l) (strOfNums l).size 0 0 (fun _ => 0) = some f → pokB (adr f) (f 2) = true → textL (adr f) (f 2) ≠ l) ∧ r = .tuple #[.agg #[.int .i64 0, .int .i64 0], .bool false])
theorem reads_ok {s : ByteArray} {l : List Int} {f : Nat → Int} (H : Hid (s = strOfNums l)) (h : scan s s.size 0 0 (fun _ => 0) = some f) (hp : pokB (adr f) (f 2) = true) (ht : textL (adr f) (f 2) = l) : ReadsAs l (.tuple #[.agg #[.int .i64 (adr f), .int .i64 (f 2)], .bool true]) := by
  have e := H.out
  subst e
  exact .inl ⟨f, h, hp, ht, rfl⟩
theorem reads_bad {s : ByteArray} {l : List Int} (H : Hid (s = strOfNums l)) (h : ∀ f, scan s s.size 0 0 (fun _ => 0) = some f → pokB (adr f) (f 2) = true → textL (adr f) (f 2) ≠ l) : ReadsAs l (.tuple #[.agg #[.int .i64 0, .int .i64 0], .bool false]) := by
  have e := H.out
  subst e
  exact .inr ⟨h, rfl⟩
set_option maxHeartbeats 4000000 in
theorem iread_any (v : Value) (l : List Int) (w : World) (h : Rd w v l) (hl : l.length ≤ 1048576) (ht : Tab w) :
    Calls Tryd.prog 48 #[v] w fun e w' => ∃ r, e = .returned r ∧ ReadsAs l r ∧ Below w.heap.size w w' := by
  obtain ⟨ad, c, rfl⟩ := h.len
  have hb0 : Below w.heap.size w ((w.alloc (.cells #[.int .i64 0, .int .i64 0] 83)).alloc (.cells #[.int .i64 0, .int .i64 0, .int .i64 0] 118)) := ((Below.refl _ _).alloc (Nat.le_refl _) _).alloc (by simp) _
  have hcv := conv_rd (h.keep hb0)
  go_enter Tryd.func48, Tryd.ntmps48
  go_wp2_with fail
  clear hcv
  obtain ⟨s, hs⟩ : ∃ s, s = strOfNums l := ⟨_, rfl⟩
  rw [← hs]
  have H := Lib.hid hs
  clear hs
  obtain ⟨R, hR⟩ : ∃ R, R = w.heap.size := ⟨_, rfl⟩
  obtain ⟨F, hF⟩ : ∃ F, F = w.heap.size + 1 := ⟨_, rfl⟩
  obtain ⟨T, hT⟩ : ∃ T, T = w.heap.size + 2 := ⟨_, rfl⟩
  obtain ⟨w0, hw0⟩ : ∃ w0, w0 = ((w.alloc (.cells #[.int .i64 0, .int .i64 0] 83)).alloc (.cells #[.int .i64 0, .int .i64 0, .int .i64 0] 118)) := ⟨_, rfl⟩
  have hT0 : T = w0.heap.size := by rw [hT, hw0]; simp
  have hb1 : Below w.heap.size w (w0.iter s 0) := by rw [hw0]; exact Below.alloc hb0 (by simp; omega) _
  have ci (i : Nat) (hi : i < 3) : (w0.iter s 0).cell? ⟨F, i, none⟩ = some (.int .i64 0) := by
    rw [World.iter, World.cell?_alloc_past _ _ _ (by rw [hw0, hF]; simp), hw0, hF]
    match i, hi with
    | 0, _ => simp
    | 1, _ => simp
    | 2, _ => simp
  have cf (i : Nat) (hi : i < 3) : (w0.iter s 0).frozen? ⟨F, i, none⟩ = false := by
    rw [World.iter, World.frozen?_alloc_past _ _ _ (by rw [hw0, hF]; simp), hw0, hF]
    match i, hi with
    | 0, _ => simp
    | 1, _ => simp
    | 2, _ => simp
  have cr (i : Nat) (hi : i < 2) : (w0.iter s 0).cell? ⟨R, i, none⟩ = some (.int .i64 0) ∧ (w0.iter s 0).frozen? ⟨R, i, none⟩ = false := by
    rw [World.iter, World.cell?_alloc_past _ _ _ (by rw [hw0, hR]; simp; omega), World.frozen?_alloc_past _ _ _ (by rw [hw0, hR]; simp; omega), hw0, hR]
    match i, hi with
    | 0, _ => constructor <;> simp
    | 1, _ => constructor <;> simp
  have hit0 : (w0.iter s 0).heap[T]? = some (.stringIter s 0) := by rw [hT0]; exact World.iter_heap _ _ _
  try rw [← hw0]
  try rw [← hT0]
  try rw [← hT]
  try rw [← hF]
  try rw [← hR]
  have hRF : R ≠ F := by omega
  have hRT : R ≠ T := by omega
  have hFT : F ≠ T := by omega
  have hRw : w.heap.size ≤ R := by omega
  have hFw : w.heap.size ≤ F := by omega
  have hTw : w.heap.size ≤ T := by omega
  generalize w0.iter s 0 = w1 at hb1 ci cf cr hit0 ⊢
  clear hw0 hT0 hb0 hR hF hT
  go_loopw [5, 7] (fun i _ wr => ∃ (pos n k : Nat) (f : Nat → Int), i = .int .i64 (k : Int) ∧ k ≤ 2 ∧ (∀ j, j < 3 → wr.cell? ⟨F, j, none⟩ = some (.int .i64 (f j))) ∧ (∀ j, j < 3 → wr.frozen? ⟨F, j, none⟩ = false) ∧ (∀ j, j < 2 → wr.cell? ⟨R, j, none⟩ = some (.int .i64 0) ∧ wr.frozen? ⟨R, j, none⟩ = false) ∧ wr.heap[T]? = some (.stringIter s pos) ∧ Below w.heap.size w wr ∧ scan s n pos k f = scan s s.size 0 0 (fun _ => 0) ∧ s.size ≤ pos + n) (fun _ _ wr => s.size - wr.iterPos T)
  case atStart => exact ⟨0, s.size, 0, fun _ => 0, rfl, by omega, ci, cf, cr, hit0, hb1, rfl, by omega⟩
  case round =>
    obtain ⟨pos, n, k, f, rfl, hk, ci, cf, cr, hit, hbw, hsc, hfu⟩ := hrel
    have hTz : T < wr.heap.size := (Array.getElem?_eq_some_iff.1 hit).1
    by_cases hp : pos < s.size
    · have hnx : ∀ ty, (Instr.next (.pointer (some ⟨T, 0, none⟩)) true ty).run Tryd.prog wr = _ := fun ty => Lib.run_next_any_at wr T s pos ty hit hp
      have hwd := width_pos s pos hp
      have hd1 := decode_le s pos
      have hit2 := Lib.iterAt_heap wr T s pos (pos + (Utf8.decode s pos).2) hit
      have hbw2 := Lib.below_iterAt hbw (k := T) hTw s (pos + (Utf8.decode s pos).2)
      have hgr := grown_iterAt wr T s (pos + (Utf8.decode s pos).2)
      obtain ⟨m, rfl⟩ : ∃ m, n = m + 1 := ⟨n - 1, by omega⟩
      rw [scan_step s m pos k f hp] at hsc
      have hpm : (wr.iterAt T s (pos + (Utf8.decode s pos).2)).iterPos T = pos + (Utf8.decode s pos).2 := by simp only [World.iterPos, hit2]
      have hpw : wr.iterPos T = pos := by simp only [World.iterPos, hit]
      have hFz : F < wr.heap.size := World.block_lt_of_cell? wr _ (ci 0 (by omega))
      have hRz : R < wr.heap.size := World.block_lt_of_cell? wr _ (cr 0 (by omega)).1
      have ci2 : ∀ j, j < 3 → (wr.iterAt T s (pos + (Utf8.decode s pos).2)).cell? ⟨F, j, none⟩ = some (.int .i64 (f j)) := fun j hj => (hgr.cell_far _ hFz (by simpa using hFT)).trans (ci j hj)
      have cf2 : ∀ j, j < 3 → (wr.iterAt T s (pos + (Utf8.decode s pos).2)).frozen? ⟨F, j, none⟩ = false := fun j hj => (hgr.frozen_far _ hFz (by simpa using hFT)).trans (cf j hj)
      have cr2 : ∀ j, j < 2 → (wr.iterAt T s (pos + (Utf8.decode s pos).2)).cell? ⟨R, j, none⟩ = some (.int .i64 0) ∧ (wr.iterAt T s (pos + (Utf8.decode s pos).2)).frozen? ⟨R, j, none⟩ = false := fun j hj => ⟨(hgr.cell_far _ hRz (by simpa using hRT)).trans (cr j hj).1, (hgr.frozen_far _ hRz (by simpa using hRT)).trans (cr j hj).2⟩
      generalize wr.iterAt T s (pos + (Utf8.decode s pos).2) = w2 at hnx hit2 hbw2 hpm ci2 cf2 cr2
      generalize (Utf8.decode s pos).1 = cc at hnx hsc hd1
      generalize (Utf8.decode s pos).2 = dd at hsc hwd hit2 hpm
      clear ci cf cr hgr hFz hRz hit hbw hTz
      have ck := ci2 k (by omega)
      have ckf := cf2 k (by omega)
      obtain ⟨cr0, cf0⟩ := cr2 0 (by omega)
      obtain ⟨cr1, cf1⟩ := cr2 1 (by omega)
      by_cases h48 : 48 ≤ cc
      · have i48 : (48 : Int) ≤ (cc : Int) := by omega
        by_cases h57 : cc ≤ 57
        · have i57 : (cc : Int) ≤ 57 := by omega
          rw [if_pos ⟨h48, h57⟩] at hsc
          have hik : IntKind.i32.wrap ((cc : Int) - 48) = (cc : Int) - 48 := by rw [IntKind.wrap_i32]; omega
          go_wp2_with fail
          go_roundw
          case rel =>
            have hset : ∀ j, j < 3 → (w2.setCell ⟨F, k, none⟩ (.int .i64 (wrap64 (wrap64 (f k * 10) + ((cc : Int) - 48))))).cell? ⟨F, j, none⟩ = some (.int .i64 (upd f k (stepv (f k) cc) j)) := by
              intro j hj
              unfold upd stepv
              by_cases hjk : j = k
              · subst hjk
                rw [if_pos rfl]
                exact set_same ck
              · rw [if_neg hjk]
                exact set_other (by intro q; injection q with _ q; exact hjk q.symm) (ci2 j hj)
            exact ⟨pos + dd, m, k, upd f k (stepv (f k) cc), rfl, hk, hset, fun j hj => by rw [World.frozen?_setCell]; exact cf2 j hj, fun j hj => ⟨set_other (by intro q; injection q with q _; exact hRF q.symm) (cr2 j hj).1, by rw [World.frozen?_setCell]; exact (cr2 j hj).2⟩, (Below.heap_setCell _ _ _ _ (by show T ≠ F; exact hFT.symm)).trans hit2, below_set hbw2 hFw, hsc, by omega⟩
          case measure =>
            rw [show (w2.setCell ⟨F, k, none⟩ (.int .i64 (wrap64 (wrap64 (f k * 10) + ((cc : Int) - 48))))).iterPos T = pos + dd by simp only [World.iterPos, (Below.heap_setCell w2 ⟨F, k, none⟩ _ T (by show T ≠ F; exact hFT.symm)).trans hit2], hpw]
            omega
        · have i57 : ¬ (cc : Int) ≤ 57 := by omega
          rw [if_neg (by omega)] at hsc
          by_cases hk2 : k + 1 = 3
          · have ik2 : (k : Int) + 1 = 3 := by omega
            rw [if_pos hk2] at hsc
            go_wp2_with fail
            have e0 := set_other (u := .int .i64 0) (a := ⟨R, 1, none⟩) (by simp) (set_same (u := .int .i64 0) cr0)
            have e1 := set_same (u := .int .i64 0) (set_other (u := .int .i64 0) (a := ⟨R, 0, none⟩) (by simp) cr1)
            exact bodyPost_ret (v := .tuple #[.agg #[.int .i64 0, .int .i64 0], .bool false]) (by simp [results, Tryd.results48, go_sem, e0, e1]) rfl ⟨_, rfl, reads_bad H (fun f hf => by rw [← hsc] at hf; cases hf), below_set (below_set hbw2 hRw) hRw⟩
          · have ik2 : ¬ (k : Int) + 1 = 3 := by omega
            rw [if_neg hk2] at hsc
            go_wp2_with fail
            go_roundw
            case rel =>
              exact ⟨pos + dd, m, k + 1, f, by simp, by omega, ci2, cf2, cr2, hit2, hbw2, hsc, by omega⟩
            case measure =>
              rw [hpm, hpw]; omega
      · have i48 : ¬ (48 : Int) ≤ (cc : Int) := by omega
        rw [if_neg (by omega)] at hsc
        by_cases hk2 : k + 1 = 3
        · have ik2 : (k : Int) + 1 = 3 := by omega
          rw [if_pos hk2] at hsc
          go_wp2_with fail
          have e0 := set_other (u := .int .i64 0) (a := ⟨R, 1, none⟩) (by simp) (set_same (u := .int .i64 0) cr0)
          have e1 := set_same (u := .int .i64 0) (set_other (u := .int .i64 0) (a := ⟨R, 0, none⟩) (by simp) cr1)
          exact bodyPost_ret (v := .tuple #[.agg #[.int .i64 0, .int .i64 0], .bool false]) (by simp [results, Tryd.results48, go_sem, e0, e1]) rfl ⟨_, rfl, reads_bad H (fun f hf => by rw [← hsc] at hf; cases hf), below_set (below_set hbw2 hRw) hRw⟩
        · have ik2 : ¬ (k : Int) + 1 = 3 := by omega
          rw [if_neg hk2] at hsc
          go_wp2_with fail
          go_roundw
          case rel =>
            exact ⟨pos + dd, m, k + 1, f, by simp, by omega, ci2, cf2, cr2, hit2, hbw2, hsc, by omega⟩
          case measure =>
            rw [hpm, hpw]; omega
    · have hnx : ∀ ty, (Instr.next (.pointer (some ⟨T, 0, none⟩)) true ty).run Tryd.prog wr = _ := fun ty => Lib.run_next_end_at wr T s pos ty hit hp
      rw [scan_end s n pos k f hp] at hsc
      have q0 := ci 0 (by omega)
      have q1 := ci 1 (by omega)
      have q2 := ci 2 (by omega)
      obtain ⟨cr0, cf0⟩ := cr 0 (by omega)
      obtain ⟨cr1, cf1⟩ := cr 1 (by omega)
      clear ci cf cr
      go_wp2_with fail
      obtain ⟨P, hP⟩ : ∃ P, P = wr.heap.size := ⟨_, rfl⟩
      have hRz : R < wr.heap.size := World.block_lt_of_cell? wr _ cr0
      have hRP : R ≠ P := by omega
      have bP := Box.new wr (.int .i64 (adr f)) (.int .i64 (f 2)) 83 P hP
      have hsc2 : ∀ g, scan s s.size 0 0 (fun _ => 0) = some g → g = f := fun g hg => by rw [← hsc] at hg; injection hg with hg; exact hg.symm
      replace hbw : Below w.heap.size w (wr.alloc (.cells #[.int .i64 (adr f), .int .i64 (f 2)] 83)) := hbw.alloc (by omega) _
      replace cr0 : (wr.alloc (.cells #[.int .i64 (adr f), .int .i64 (f 2)] 83)).cell? ⟨R, 0, none⟩ = some (.int .i64 0) := (World.cell?_alloc_past _ _ _ hRz).trans cr0
      replace cr1 : (wr.alloc (.cells #[.int .i64 (adr f), .int .i64 (f 2)] 83)).cell? ⟨R, 1, none⟩ = some (.int .i64 0) := (World.cell?_alloc_past _ _ _ hRz).trans cr1
      replace cf0 : (wr.alloc (.cells #[.int .i64 (adr f), .int .i64 (f 2)] 83)).frozen? ⟨R, 0, none⟩ = false := (World.frozen?_alloc_past _ _ _ hRz).trans cf0
      replace cf1 : (wr.alloc (.cells #[.int .i64 (adr f), .int .i64 (f 2)] 83)).frozen? ⟨R, 1, none⟩ = false := (World.frozen?_alloc_past _ _ _ hRz).trans cf1
      clear hnx hit q0 q1 q2 hTz
      rw [← hP]
      clear hP
      change Calls _ _ #[.agg #[.int .i64 (adr f), .int .i64 (f 2)]] (wr.alloc (.cells #[.int .i64 (adr f), .int .i64 (f 2)] 83)) _
      replace hRz : R < (wr.alloc (.cells #[.int .i64 (adr f), .int .i64 (f 2)] 83)).heap.size := Nat.lt_of_lt_of_le hRz (by simp)
      refine (ipok_any (adr f) (f 2) _).mono ?_
      rintro e w3 ⟨rfl, hb3⟩
      replace bP := bP.grown (grown_below hb3 none) (by simp)
      replace cr0 := cell_keep hb3 hRz cr0
      replace cr1 := cell_keep hb3 hRz cr1
      replace cf0 := ((grown_below hb3 none).frozen_far ⟨R, 0, none⟩ hRz (by simp)).trans cf0
      replace cf1 := ((grown_below hb3 none).frozen_far ⟨R, 1, none⟩ hRz (by simp)).trans cf1
      replace hbw := below_step hbw hb3
      replace hRz := Nat.lt_of_lt_of_le hRz hb3.size
      clear hb3
      cases hk : pokB (adr f) (f 2)
      · go_wp2_with fail
        have e0 := set_other (u := .int .i64 0) (a := ⟨R, 1, none⟩) (by simp) (set_same (u := .int .i64 0) cr0)
        have e1 := set_same (u := .int .i64 0) (set_other (u := .int .i64 0) (a := ⟨R, 0, none⟩) (by simp) cr1)
        exact bodyPost_ret (v := .tuple #[.agg #[.int .i64 0, .int .i64 0], .bool false]) (by simp [results, Tryd.results48, go_sem, e0, e1]) rfl ⟨_, rfl, reads_bad H (fun g hg hp => by rw [hsc2 g hg, hk] at hp; cases hp), below_set (below_set hbw hRw) hRw⟩
      · have p0 := bP.c0
        have p1 := bP.c1
        have hK := Lib.hid hk
        clear hk
        go_wp2_with fail
        clear p0 p1
        refine (itext_any (adr f) (f 2) _ (ht.keep hbw)).mono ?_
        rintro e w4 ⟨u, rfl, hu, hb4⟩
        replace bP := bP.grown (grown_below hb4 none) (by simp)
        replace cr0 := cell_keep hb4 hRz cr0
        replace cr1 := cell_keep hb4 hRz cr1
        replace cf0 := ((grown_below hb4 none).frozen_far ⟨R, 0, none⟩ hRz (by simp)).trans cf0
        replace cf1 := ((grown_below hb4 none).frozen_far ⟨R, 1, none⟩ hRz (by simp)).trans cf1
        replace hbw := below_step hbw hb4
        replace hRz := Nat.lt_of_lt_of_le hRz hb4.size
        obtain ⟨a4, c4, rfl⟩ := hu.rd.len
        go_wp2_with fail
        refine (Tryd.bytes_Equal_all a4 ad _ c4 _ c (textL (adr f) (f 2)) l _ rfl rfl hu.rd.bytesIn (h.keep hbw).bytesIn).mono ?_
        rintro e w5 ⟨rfl, rfl⟩
        rw [bytes_eq hu.1 h.1]
        have p0 := bP.c0
        have p1 := bP.c1
        clear hb4
        by_cases hq : textL (adr f) (f 2) = l
        · rw [decide_eq_true hq]
          have hQ := Lib.hid hq
          clear hq hu
          go_wp2_with fail
          have e0 := set_other (u := .int .i64 (f 2)) (a := ⟨R, 1, none⟩) (by simp) (set_same (u := .int .i64 (adr f)) cr0)
          have e1 := set_same (u := .int .i64 (f 2)) (set_other (u := .int .i64 (adr f)) (a := ⟨R, 0, none⟩) (by simp) cr1)
          exact bodyPost_ret (v := .tuple #[.agg #[.int .i64 (adr f), .int .i64 (f 2)], .bool true]) (by simp [results, Tryd.results48, go_sem, e0, e1]) rfl ⟨_, rfl, reads_ok H hsc.symm hK.out hQ.out, below_set (below_set hbw hRw) hRw⟩
        · rw [decide_eq_false hq]
          have hQ := Lib.hid hq
          clear hq hu
          go_wp2_with fail
          have e0 := set_other (u := .int .i64 0) (a := ⟨R, 1, none⟩) (by simp) (set_same (u := .int .i64 0) cr0)
          have e1 := set_same (u := .int .i64 0) (set_other (u := .int .i64 0) (a := ⟨R, 0, none⟩) (by simp) cr1)
          exact bodyPost_ret (v := .tuple #[.agg #[.int .i64 0, .int .i64 0], .bool false]) (by simp [results, Tryd.results48, go_sem, e0, e1]) rfl ⟨_, rfl, reads_bad H (fun g hg hp => by rw [hsc2 g hg]; exact hQ.out), below_set (below_set hbw hRw) hRw⟩
end Go.Proofs.YtcmbajphholliabDoor
