/-
  Contracts of GetPrefix of the program and of the model. Conditions: those in each contract.
-/
import Derived.Test.YthecdnfloahoaaaB1
import Derived.StillTailTactics
namespace Go.Proofs.Ythecdnfloahoaaa
open Go.ChangeShapes Go.WideShapes Go.ChangeAt Go.RowKit Go.BigFrame
set_option linter.unusedVariables false
set_option maxRecDepth 100000

theorem wp_still_tail {P : Program} {id : Nat} {Q : Exit → Act → World → Prop} {a : Act} {w : World} {l : List Oper} (n : Nat) (hm : P.follows .mixedOrders = true) (hB : Region.lexTailB .any l.toArray n = true)
    (h : wpStill P l.toArray w.drew (fun a' => wpList P l.toArray Q (l.drop n) a' w.drew) (l.take n) a) : (Code.region id l.toArray true).wp P Q a w := wp_region_still_tail n hm hB h
theorem or_i64 (a b : Nat) (ha : a < 4294967296) (hb : b < 4294967296) : bits .or .i64 (a : Int) (b : Int) = ((a ||| b : Nat) : Int) := by
  unfold bits
  show IntKind.i64.wrap ((BitVec.ofInt 64 (a : Int) ||| BitVec.ofInt 64 (b : Int)).toNat : Int) = _
  rw [bvInt a, bvInt b, BitVec.toNat_or, BitVec.toNat_ofNat, BitVec.toNat_ofNat, Nat.mod_eq_of_lt (by omega), Nat.mod_eq_of_lt (by omega)]
  have := Nat.or_lt_two_pow (x := a) (y := b) (n := 32) ha hb
  exact wrap64_in _ (by omega) (by omega)
theorem or_zero (x : Int) (h0 : 0 ≤ x) (h1 : x < 4294967296) : bits .or .i64 0 x = x := by
  obtain ⟨a, rfl⟩ := Int.eq_ofNat_of_zero_le h0
  have := or_i64 0 a (by omega) (by omega)
  simpa using this
theorem or_hl (x y : Int) (h0 : 0 ≤ x) (h1 : x ≤ 255) (h2 : 0 ≤ y) (h3 : y ≤ 255) : bits .or .i64 (x * 256) y = x * 256 + y := by
  obtain ⟨a, rfl⟩ := Int.eq_ofNat_of_zero_le h0
  obtain ⟨b, rfl⟩ := Int.eq_ofNat_of_zero_le h2
  have e : ((a : Int) * 256) = ((a * 256 : Nat) : Int) := by simp
  rw [e, or_i64 _ _ (by omega) (by omega)]
  have h := Nat.shiftLeft_add_eq_or_of_lt (b := b) (i := 8) (by omega) a
  rw [Nat.shiftLeft_eq] at h
  rw [← show 2 ^ 8 = 256 by rfl, ← h]
  simp

/-- the number of bytes behind the length -/
def nbytes (n : Int) : Int := (n + 7) / 8
def gAddr (l : List Int) (k : Nat) : Int :=
  if l.getD k 0 = 0 then 0 else if l.getD k 0 ≤ 8 then l.getD (k + 1) 0 * 256 else l.getD (k + 1) 0 * 256 + l.getD (k + 2) 0
/-- the prefix at place k, if it is there whole -/
def gHas (l : List Int) (k : Nat) : Prop := k < l.length ∧ l.getD k 0 ≤ 16 ∧ (k : Int) + 1 + nbytes (l.getD k 0) ≤ l.length
def gOk (l : List Int) (at_ : Int) : Prop := 0 ≤ at_ ∧ gHas l at_.toNat ∧ pokB (gAddr l at_.toNat) (l.getD at_.toNat 0) = true
instance (l : List Int) (k : Nat) : Decidable (gHas l k) := by unfold gHas; infer_instance
instance (l : List Int) (a : Int) : Decidable (gOk l a) := by unfold gOk; infer_instance
/-- what GetPrefix answers -/
def gAns (l : List Int) (a : Int) : Value :=
  if gOk l a then .tuple #[.agg #[.int .i64 (gAddr l a.toNat), .int .i64 (l.getD a.toNat 0)], .int .i64 (a + 1 + nbytes (l.getD a.toNat 0))] else .tuple #[.agg #[.int .i64 0, .int .i64 0], .int .i64 (-1)]
theorem gAns_no {l : List Int} {a : Int} (h : ¬ gOk l a) : gAns l a = .tuple #[.agg #[.int .i64 0, .int .i64 0], .int .i64 (-1)] := if_neg h
theorem gAns_yes {l : List Int} {a : Int} (h : gOk l a) : gAns l a = .tuple #[.agg #[.int .i64 (gAddr l a.toNat), .int .i64 (l.getD a.toNat 0)], .int .i64 (a + 1 + nbytes (l.getD a.toNat 0))] := if_pos h

theorem ebytes (n : Int) (w : World) (h0 : 0 ≤ n) (h1 : n ≤ 255) : Calls Try.prog 131 #[.int .i64 n] w fun e w' => e = .returned (.int .i64 (nbytes n)) ∧ w = w' := by
  unfold nbytes
  go_enter Try.func131, Try.ntmps131
  go_wp2
  go_ret
  exact ⟨rfl, rfl⟩

theorem fr_keep {B b o : Nat} {w w1 : World} {v : Bool} (hb : Below B w w1) (hl : b < B) (h : w.frozen? ⟨b, o, none⟩ = v) : w1.frozen? ⟨b, o, none⟩ = v :=
  (hb.frozen (p := ⟨b, o, none⟩) hl).trans h

theorem sget_none (v : Value) (l : List Int) (a : Int) (w : World) (h : Rd w v l) (ha : ¬ (0 ≤ a ∧ a < l.length)) :
    Calls Try.prog 122 #[v, .int .i64 a] w fun e w' => e = .returned (.tuple #[.agg #[.int .i64 0, .int .i64 0], .int .i64 (-1)]) ∧ Below w.heap.size w w' := by
  obtain ⟨p, c, rfl⟩ := h.len
  obtain ⟨n, hn⟩ : ∃ n, n = l.length := ⟨_, rfl⟩
  rw [← hn] at ha ⊢
  clear hn h
  by_cases h0 : 0 ≤ a
  · have h1 : ¬ a < n := by omega
    go_enter Try.func122, Try.ntmps122
    go_wp2
    exact bodyPost_ret (v := .tuple #[.agg #[.int .i64 0, .int .i64 0], .int .i64 (-1)]) (by simp [results, Try.results122, go_sem]) rfl ⟨rfl, (Below.refl _ _).alloc (Nat.le_refl _) _⟩
  · go_enter Try.func122, Try.ntmps122
    go_wp2
    exact bodyPost_ret (v := .tuple #[.agg #[.int .i64 0, .int .i64 0], .int .i64 (-1)]) (by simp [results, Try.results122, go_sem]) rfl ⟨rfl, (Below.refl _ _).alloc (Nat.le_refl _) _⟩

theorem sget_long (b o c n : Nat) (l0 : Int) (k : Nat) (w : World) (hk : k < n) (hm : n ≤ 9223372036854775807) (hb : b < w.heap.size) (e0 : w.cell? ⟨b, o + k, none⟩ = some (.int .u8 l0)) (hl : 0 ≤ l0) (hl2 : l0 ≤ 255) (h16 : ¬ l0 ≤ 16) :
    Calls Try.prog 122 #[.slice (some ⟨b, o, none⟩) n c, .int .i64 k] w fun e w' => e = .returned (.tuple #[.agg #[.int .i64 0, .int .i64 0], .int .i64 (-1)]) ∧ Below w.heap.size w w' := by
  have hkI : (k : Int) < (n : Int) := by omega
  have h16' : 16 < l0 := by omega
  go_enter Try.func122, Try.ntmps122
  go_wp2
  exact bodyPost_ret (v := .tuple #[.agg #[.int .i64 0, .int .i64 0], .int .i64 (-1)]) (by simp [results, Try.results122, go_sem]) rfl ⟨rfl, (Below.refl _ _).alloc (Nat.le_refl _) _⟩
theorem sget_short (b o c n : Nat) (l0 : Int) (k : Nat) (w : World) (hk : k < n) (hm : n ≤ 1048576) (hb : b < w.heap.size) (e0 : w.cell? ⟨b, o + k, none⟩ = some (.int .u8 l0)) (hl : 0 ≤ l0) (h16 : l0 ≤ 16) (hs : ¬ (k : Int) + 1 + (l0 + 7) / 8 ≤ n) :
    Calls Try.prog 122 #[.slice (some ⟨b, o, none⟩) n c, .int .i64 k] w fun e w' => e = .returned (.tuple #[.agg #[.int .i64 0, .int .i64 0], .int .i64 (-1)]) ∧ Below w.heap.size w w' := by
  have hkI : (k : Int) < (n : Int) := by omega
  have h16' : ¬ 16 < l0 := by omega
  go_enter Try.func122, Try.ntmps122
  go_wp2
  exact bodyPost_ret (v := .tuple #[.agg #[.int .i64 0, .int .i64 0], .int .i64 (-1)]) (by simp [results, Try.results122, go_sem]) rfl ⟨rfl, by repeat' (first | exact Below.refl _ _ | (refine Below.setCell ?_ (by simp) _) | (refine Below.alloc ?_ (by simp) _) | (refine Below.drew ?_))⟩
theorem sget_0_yes (b o c n : Nat) (l0 : Int) (k : Nat) (w : World) (hk : k < n) (hm : n ≤ 1048576) (hb : b < w.heap.size) (e0 : w.cell? ⟨b, o + k, none⟩ = some (.int .u8 l0)) (hl : 0 ≤ l0) (h16 : l0 = 0) (H : Hid (pokB (0) (0) = true)) :
    Calls Try.prog 122 #[.slice (some ⟨b, o, none⟩) n c, .int .i64 k] w fun e w' => e = .returned (.tuple #[.agg #[.int .i64 (0), .int .i64 0], .int .i64 (k + 1)]) ∧ Below w.heap.size w w' := by
  have hkI : (k : Int) < (n : Int) := by omega
  subst h16
  go_enter Try.func122, Try.ntmps122
  go_wp2_with fail
  refine (spok_t _ H).mono ?_
  rintro e w1 ⟨rfl, hb1⟩
  have k0 : w1.cell? ⟨w.heap.size + 1, 0, none⟩ = some (.int .i64 (0)) := cell_keep hb1 (by simp <;> omega) (by simp)
  have k1 : w1.cell? ⟨w.heap.size + 1, 1, none⟩ = some (.int .i64 (0)) := cell_keep hb1 (by simp <;> omega) (by simp)
  have r0 : w1.cell? ⟨w.heap.size, 0, none⟩ = some (.int .i64 0) := cell_keep hb1 (by simp <;> omega) (by simp)
  have r1 : w1.cell? ⟨w.heap.size, 1, none⟩ = some (.int .i64 0) := cell_keep hb1 (by simp <;> omega) (by simp)
  have f0 : w1.frozen? ⟨w.heap.size, 0, none⟩ = false := fr_keep hb1 (by simp <;> omega) (by simp)
  have f1 : w1.frozen? ⟨w.heap.size, 1, none⟩ = false := fr_keep hb1 (by simp <;> omega) (by simp)
  have B1 : Below w.heap.size w w1 := below_step (by repeat' (first | exact Below.refl _ _ | (refine Below.setCell ?_ (by simp) _) | (refine Below.alloc ?_ (by simp) _) | (refine Below.drew ?_))) hb1
  clear hb1
  go_wp2
  exact bodyPost_ret (v := .tuple #[.agg #[.int .i64 (0), .int .i64 0], .int .i64 (k + 1)]) (by simp [results, Try.results122, go_sem, r0, r1]) rfl ⟨rfl, by repeat' (first | exact B1 | (refine Below.setCell ?_ (by simp) _))⟩

theorem sget_1_yes (b o c n : Nat) (l0 : Int) (k : Nat) (w : World) (hk : k < n) (hm : n ≤ 1048576) (hb : b < w.heap.size) (e0 : w.cell? ⟨b, o + k, none⟩ = some (.int .u8 l0)) (hl : 0 ≤ l0) (h16 : 1 ≤ l0) (h17 : l0 ≤ 8) (x : Int) (ex : w.cell? ⟨b, o + (k + 1), none⟩ = some (.int .u8 x)) (hx0 : 0 ≤ x) (hx1 : x ≤ 255) (hs : k + 2 ≤ n) (H : Hid (pokB (x * 256) (l0) = true)) :
    Calls Try.prog 122 #[.slice (some ⟨b, o, none⟩) n c, .int .i64 k] w fun e w' => e = .returned (.tuple #[.agg #[.int .i64 (x * 256), .int .i64 l0], .int .i64 (k + 1 + 1)]) ∧ Below w.heap.size w w' := by
  have hkI : (k : Int) < (n : Int) := by omega
  have h8 : (l0 + 7) / 8 = 1 := by omega
  have hk2 : (k : Int) + 1 < n := by omega
  go_enter Try.func122, Try.ntmps122
  go_wp2_with fail
  refine (spok_t _ H).mono ?_
  rintro e w1 ⟨rfl, hb1⟩
  have k0 : w1.cell? ⟨w.heap.size + 1, 0, none⟩ = some (.int .i64 (x * 256)) := cell_keep hb1 (by simp <;> omega) (by simp)
  have k1 : w1.cell? ⟨w.heap.size + 1, 1, none⟩ = some (.int .i64 (l0)) := cell_keep hb1 (by simp <;> omega) (by simp)
  have r0 : w1.cell? ⟨w.heap.size, 0, none⟩ = some (.int .i64 0) := cell_keep hb1 (by simp <;> omega) (by simp)
  have r1 : w1.cell? ⟨w.heap.size, 1, none⟩ = some (.int .i64 0) := cell_keep hb1 (by simp <;> omega) (by simp)
  have f0 : w1.frozen? ⟨w.heap.size, 0, none⟩ = false := fr_keep hb1 (by simp <;> omega) (by simp)
  have f1 : w1.frozen? ⟨w.heap.size, 1, none⟩ = false := fr_keep hb1 (by simp <;> omega) (by simp)
  have B1 : Below w.heap.size w w1 := below_step (by repeat' (first | exact Below.refl _ _ | (refine Below.setCell ?_ (by simp) _) | (refine Below.alloc ?_ (by simp) _) | (refine Below.drew ?_))) hb1
  clear hb1
  go_wp2
  exact bodyPost_ret (v := .tuple #[.agg #[.int .i64 (x * 256), .int .i64 l0], .int .i64 (k + 1 + 1)]) (by simp [results, Try.results122, go_sem, r0, r1]) rfl ⟨rfl, by repeat' (first | exact B1 | (refine Below.setCell ?_ (by simp) _))⟩

theorem sget_1_no (b o c n : Nat) (l0 : Int) (k : Nat) (w : World) (hk : k < n) (hm : n ≤ 1048576) (hb : b < w.heap.size) (e0 : w.cell? ⟨b, o + k, none⟩ = some (.int .u8 l0)) (hl : 0 ≤ l0) (h16 : 1 ≤ l0) (h17 : l0 ≤ 8) (x : Int) (ex : w.cell? ⟨b, o + (k + 1), none⟩ = some (.int .u8 x)) (hx0 : 0 ≤ x) (hx1 : x ≤ 255) (hs : k + 2 ≤ n) (H : Hid (pokB (x * 256) (l0) = false)) :
    Calls Try.prog 122 #[.slice (some ⟨b, o, none⟩) n c, .int .i64 k] w fun e w' => e = .returned (.tuple #[.agg #[.int .i64 0, .int .i64 0], .int .i64 (-1)]) ∧ Below w.heap.size w w' := by
  have hkI : (k : Int) < (n : Int) := by omega
  have h8 : (l0 + 7) / 8 = 1 := by omega
  have hk2 : (k : Int) + 1 < n := by omega
  go_enter Try.func122, Try.ntmps122
  go_wp2_with fail
  refine (spok_t _ H).mono ?_
  rintro e w1 ⟨rfl, hb1⟩
  have k0 : w1.cell? ⟨w.heap.size + 1, 0, none⟩ = some (.int .i64 (x * 256)) := cell_keep hb1 (by simp <;> omega) (by simp)
  have k1 : w1.cell? ⟨w.heap.size + 1, 1, none⟩ = some (.int .i64 (l0)) := cell_keep hb1 (by simp <;> omega) (by simp)
  have r0 : w1.cell? ⟨w.heap.size, 0, none⟩ = some (.int .i64 0) := cell_keep hb1 (by simp <;> omega) (by simp)
  have r1 : w1.cell? ⟨w.heap.size, 1, none⟩ = some (.int .i64 0) := cell_keep hb1 (by simp <;> omega) (by simp)
  have f0 : w1.frozen? ⟨w.heap.size, 0, none⟩ = false := fr_keep hb1 (by simp <;> omega) (by simp)
  have f1 : w1.frozen? ⟨w.heap.size, 1, none⟩ = false := fr_keep hb1 (by simp <;> omega) (by simp)
  have B1 : Below w.heap.size w w1 := below_step (by repeat' (first | exact Below.refl _ _ | (refine Below.setCell ?_ (by simp) _) | (refine Below.alloc ?_ (by simp) _) | (refine Below.drew ?_))) hb1
  clear hb1
  go_wp2
  exact bodyPost_ret (v := .tuple #[.agg #[.int .i64 0, .int .i64 0], .int .i64 (-1)]) (by simp [results, Try.results122, go_sem, r0, r1]) rfl ⟨rfl, by repeat' (first | exact B1 | (refine Below.setCell ?_ (by simp) _))⟩

theorem sget_2_yes (b o c n : Nat) (l0 : Int) (k : Nat) (w : World) (hk : k < n) (hm : n ≤ 1048576) (hb : b < w.heap.size) (e0 : w.cell? ⟨b, o + k, none⟩ = some (.int .u8 l0)) (hl : 0 ≤ l0) (h16 : 9 ≤ l0) (h17 : l0 ≤ 16) (x y : Int) (ex : w.cell? ⟨b, o + (k + 1), none⟩ = some (.int .u8 x)) (ey : w.cell? ⟨b, o + (k + 2), none⟩ = some (.int .u8 y)) (hx0 : 0 ≤ x) (hx1 : x ≤ 255) (hy0 : 0 ≤ y) (hy1 : y ≤ 255) (hs : k + 3 ≤ n) (H : Hid (pokB (x * 256 + y) (l0) = true)) :
    Calls Try.prog 122 #[.slice (some ⟨b, o, none⟩) n c, .int .i64 k] w fun e w' => e = .returned (.tuple #[.agg #[.int .i64 (x * 256 + y), .int .i64 l0], .int .i64 (k + 1 + 2)]) ∧ Below w.heap.size w w' := by
  have hkI : (k : Int) < (n : Int) := by omega
  have h8 : (l0 + 7) / 8 = 2 := by omega
  have hk2 : (k : Int) + 1 < n := by omega
  have hk3 : (k : Int) + 2 < n := by omega
  rw [← or_hl x y hx0 hx1 hy0 hy1] at H ⊢
  go_enter Try.func122, Try.ntmps122
  go_wp2_with fail
  have hw2 : IntKind.i64.wrap ((k : Int) + 2) = (k : Int) + 2 := wrap64_in _ (by omega) (by omega)
  have hz2 : (0 : Int) ≤ (k : Int) + 2 := by omega
  have ht2 : ((k : Int) + 2).toNat = k + 2 := by omega
  refine wp_still_tail 10 (by kernel_rfl) (by kernel_rfl) ?_
  simp only [List.take_succ_cons, List.take_zero, List.drop_succ_cons, List.drop_zero]
  repeat still_step
  refine wpStill_nil ?_
  clear hw2 hz2 ht2
  go_wp2_with fail
  refine (spok_t _ H).mono ?_
  rintro e w1 ⟨rfl, hb1⟩
  have k0 : w1.cell? ⟨w.heap.size + 1, 0, none⟩ = some (.int .i64 (bits .or .i64 (x * 256) y)) := cell_keep hb1 (by simp <;> omega) (by simp)
  have k1 : w1.cell? ⟨w.heap.size + 1, 1, none⟩ = some (.int .i64 (l0)) := cell_keep hb1 (by simp <;> omega) (by simp)
  have r0 : w1.cell? ⟨w.heap.size, 0, none⟩ = some (.int .i64 0) := cell_keep hb1 (by simp <;> omega) (by simp)
  have r1 : w1.cell? ⟨w.heap.size, 1, none⟩ = some (.int .i64 0) := cell_keep hb1 (by simp <;> omega) (by simp)
  have f0 : w1.frozen? ⟨w.heap.size, 0, none⟩ = false := fr_keep hb1 (by simp <;> omega) (by simp)
  have f1 : w1.frozen? ⟨w.heap.size, 1, none⟩ = false := fr_keep hb1 (by simp <;> omega) (by simp)
  have B1 : Below w.heap.size w w1 := below_step (by repeat' (first | exact Below.refl _ _ | (refine Below.setCell ?_ (by simp) _) | (refine Below.alloc ?_ (by simp) _) | (refine Below.drew ?_))) hb1
  clear hb1
  go_wp2
  exact bodyPost_ret (v := .tuple #[.agg #[.int .i64 (bits .or .i64 (x * 256) y), .int .i64 l0], .int .i64 (k + 1 + 2)]) (by simp [results, Try.results122, go_sem, r0, r1]) rfl ⟨rfl, by repeat' (first | exact B1 | (refine Below.setCell ?_ (by simp) _))⟩

theorem sget_2_no (b o c n : Nat) (l0 : Int) (k : Nat) (w : World) (hk : k < n) (hm : n ≤ 1048576) (hb : b < w.heap.size) (e0 : w.cell? ⟨b, o + k, none⟩ = some (.int .u8 l0)) (hl : 0 ≤ l0) (h16 : 9 ≤ l0) (h17 : l0 ≤ 16) (x y : Int) (ex : w.cell? ⟨b, o + (k + 1), none⟩ = some (.int .u8 x)) (ey : w.cell? ⟨b, o + (k + 2), none⟩ = some (.int .u8 y)) (hx0 : 0 ≤ x) (hx1 : x ≤ 255) (hy0 : 0 ≤ y) (hy1 : y ≤ 255) (hs : k + 3 ≤ n) (H : Hid (pokB (x * 256 + y) (l0) = false)) :
    Calls Try.prog 122 #[.slice (some ⟨b, o, none⟩) n c, .int .i64 k] w fun e w' => e = .returned (.tuple #[.agg #[.int .i64 0, .int .i64 0], .int .i64 (-1)]) ∧ Below w.heap.size w w' := by
  have hkI : (k : Int) < (n : Int) := by omega
  have h8 : (l0 + 7) / 8 = 2 := by omega
  have hk2 : (k : Int) + 1 < n := by omega
  have hk3 : (k : Int) + 2 < n := by omega
  rw [← or_hl x y hx0 hx1 hy0 hy1] at H
  go_enter Try.func122, Try.ntmps122
  go_wp2_with fail
  have hw2 : IntKind.i64.wrap ((k : Int) + 2) = (k : Int) + 2 := wrap64_in _ (by omega) (by omega)
  have hz2 : (0 : Int) ≤ (k : Int) + 2 := by omega
  have ht2 : ((k : Int) + 2).toNat = k + 2 := by omega
  refine wp_still_tail 10 (by kernel_rfl) (by kernel_rfl) ?_
  simp only [List.take_succ_cons, List.take_zero, List.drop_succ_cons, List.drop_zero]
  repeat still_step
  refine wpStill_nil ?_
  clear hw2 hz2 ht2
  go_wp2_with fail
  refine (spok_t _ H).mono ?_
  rintro e w1 ⟨rfl, hb1⟩
  have k0 : w1.cell? ⟨w.heap.size + 1, 0, none⟩ = some (.int .i64 (bits .or .i64 (x * 256) y)) := cell_keep hb1 (by simp <;> omega) (by simp)
  have k1 : w1.cell? ⟨w.heap.size + 1, 1, none⟩ = some (.int .i64 (l0)) := cell_keep hb1 (by simp <;> omega) (by simp)
  have r0 : w1.cell? ⟨w.heap.size, 0, none⟩ = some (.int .i64 0) := cell_keep hb1 (by simp <;> omega) (by simp)
  have r1 : w1.cell? ⟨w.heap.size, 1, none⟩ = some (.int .i64 0) := cell_keep hb1 (by simp <;> omega) (by simp)
  have f0 : w1.frozen? ⟨w.heap.size, 0, none⟩ = false := fr_keep hb1 (by simp <;> omega) (by simp)
  have f1 : w1.frozen? ⟨w.heap.size, 1, none⟩ = false := fr_keep hb1 (by simp <;> omega) (by simp)
  have B1 : Below w.heap.size w w1 := below_step (by repeat' (first | exact Below.refl _ _ | (refine Below.setCell ?_ (by simp) _) | (refine Below.alloc ?_ (by simp) _) | (refine Below.drew ?_))) hb1
  clear hb1
  go_wp2
  exact bodyPost_ret (v := .tuple #[.agg #[.int .i64 0, .int .i64 0], .int .i64 (-1)]) (by simp [results, Try.results122, go_sem, r0, r1]) rfl ⟨rfl, by repeat' (first | exact B1 | (refine Below.setCell ?_ (by simp) _))⟩

end Go.Proofs.Ythecdnfloahoaaa
