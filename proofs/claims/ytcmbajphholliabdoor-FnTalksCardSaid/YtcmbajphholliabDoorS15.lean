/-
  The program's machine handles an event: by the reaction in the map, or not at all. Conditions: those in each contract.
-/
import Derived.Test.YtcmbajphholliabDoorS14
namespace Go.Proofs.YtcmbajphholliabDoor
open Go.ChangeShapes Go.WideShapes Go.ChangeAt Go.RowKit Go.BigFrame Go.Joins
set_option linter.unusedVariables false
set_option maxRecDepth 100000
set_option linter.unusedSimpArgs false

set_option maxHeartbeats 4000000 in
theorem handle_skip (X : Nat) (xa xi xh xp s0 s1 s2 s3 s4 : Int) (ga ca pa ma : Option Addr) (gx cx px mx : Nat) (gs cs : List (Int × Int)) (ps ms : List Int) (ek ee kn sa ho ix pr bw er : Int) (es : Array MapEntry) (n : Nat) (w : World) (hX : Bl w X [.int .i64 xa, .int .i64 xi, .int .i64 xh, .int .i64 xp, .int .i64 s0, .int .i64 s1, .int .i64 s2, .int .i64 s3, .int .i64 s4, .slice none 0 0]) (HR : ∀ w, Bl w X [.int .i64 xa, .int .i64 xi, .int .i64 xh, .int .i64 xp, .int .i64 s0, .int .i64 s1, .int .i64 s2, .int .i64 s3, .int .i64 s4, .slice none 0 0] → Calls Tryd.prog 62 #[.pointer (some ⟨X, 0, none⟩)] w fun e w' => e = .returned (.map (some w.heap.size)) ∧ w'.heap[w.heap.size]? = some (.map es n) ∧ Below w.heap.size w w')
    (hf : Instr.findNow (.int .i64) (.int .i64 ek) es.toList 0 = some none) :
    Calls Tryd.prog 29 #[.pointer (some ⟨X, 0, none⟩), .agg #[.int .i64 ek, .int .i64 kn, .int .i64 sa, .int .i64 ho, .int .i64 ix, .slice ga gs.length gx, .slice ca cs.length cx, .slice pa ps.length px, .int .i64 pr, .slice ma ms.length mx, .int .i64 bw, .int .i64 er, .int .i64 ee]] w fun e w' => e = .returned (.tuple #[]) ∧ Bl w' X [.int .i64 xa, .int .i64 xi, .int .i64 xh, .int .i64 xp, .int .i64 s0, .int .i64 s1, .int .i64 s2, .int .i64 s3, .int .i64 s4, .slice none 0 0] ∧ w.grownBy w' (some X) := by
  obtain ⟨bE, B0, z⟩ := one w [.int .i64 ek, .int .i64 kn, .int .i64 sa, .int .i64 ho, .int .i64 ix, .slice ga gs.length gx, .slice ca cs.length cx, .slice pa ps.length px, .int .i64 pr, .slice ma ms.length mx, .int .i64 bw, .int .i64 er, .int .i64 ee] 48
  have hne : X ≠ w.heap.size := Nat.ne_of_lt hX.lt
  have hne' : w.heap.size ≠ X := Nat.ne_of_gt hX.lt
  replace hX := hX.keep B0
  have g0 := grown_below B0 (some X)
  clear z
  have fe0 := bE.c 0 rfl
  have fe1 := bE.c 1 rfl
  have fe2 := bE.c 2 rfl
  have fe3 := bE.c 3 rfl
  have fe4 := bE.c 4 rfl
  have fe5 := bE.c 5 rfl
  have fe6 := bE.c 6 rfl
  have fe7 := bE.c 7 rfl
  have fe8 := bE.c 8 rfl
  have fe9 := bE.c 9 rfl
  have fe10 := bE.c 10 rfl
  have fe11 := bE.c 11 rfl
  have fe12 := bE.c 12 rfl
  go_enter Tryd.func29, Tryd.ntmps29
  go_wp2_with fail
  clear fe0 fe1 fe2 fe3 fe4 fe5 fe6 fe7 fe8 fe9 fe10 fe11 fe12
  obtain ⟨V, eV⟩ : ∃ V, V = w.alloc (.cells #[.int .i64 ek, .int .i64 kn, .int .i64 sa, .int .i64 ho, .int .i64 ix, .slice ga gs.length gx, .slice ca cs.length cx, .slice pa ps.length px, .int .i64 pr, .slice ma ms.length mx, .int .i64 bw, .int .i64 er, .int .i64 ee] 48) := ⟨_, rfl⟩
  obtain ⟨E, eE⟩ : ∃ E, E = w.heap.size := ⟨_, rfl⟩
  rw [← eE] at bE ⊢
  have HE := Lib.hid eE
  rw [← eV] at bE hX g0 B0 ⊢
  clear eV eE hne hne'
  have HRR := Lib.hid HR
  have HF := Lib.hid hf
  clear HR hf
  go_region_held3 (fun w' => Over V w' ∧ w'.cell? ⟨E, 0, none⟩ = some (.int .i64 ek))
    ((first | exact ⟨over_drew _, over_cell (over_drew _) bE.lt (bE.c 0 rfl)⟩ | exact ⟨over_step (‹Over V _ ∧ _›).1 (by assumption), over_cell (over_step (‹Over V _ ∧ _›).1 (by assumption)) bE.lt (bE.c 0 rfl)⟩ | assumption | fail))
    ((first | (go_at_call 62; refine (HRR.out _ (hX.keep (‹Over V _ ∧ _›).1)).mono ?_; rintro e wm ⟨rfl, hmap, hbm⟩; have hlk := (show (Instr.lookup 100 (.map (some V.heap.size)) (.int .i64 ek) true).run Tryd.prog wm = .ok (.tuple #[.nilFunc, .bool false]) wm from look_no es n _ ek wm hmap HF.out)) | fail))
  all_goals
    rename_i hH
    replace hH := hH.1
    have hX1 := hX.keep hH
    have g1 := grow_row g0 (grown_below hH none) (fun k hk => by cases hk)
    clear hH hlk hbm hmap bE B0 g0 hX
    go_wp2
    exact bodyPost_ret (v := .tuple #[]) (by simp [results, Tryd.results29, go_sem]) rfl ⟨rfl, hX1, g1⟩
set_option maxHeartbeats 4000000 in
theorem handle_nil_start (X : Nat) (xa xi xh xp s0 s1 s2 s3 s4 : Int) (ga ca pa ma : Option Addr) (gx cx px mx : Nat) (gs cs : List (Int × Int)) (ps ms : List Int) (ek ee kn sa ho ix pr bw er : Int) (r0 r1 r2 r3 r4 : Int) (ml : List Bm) (es : Array MapEntry) (n i : Nat) (w : World) (hX : Bl w X [.int .i64 xa, .int .i64 xi, .int .i64 xh, .int .i64 xp, .int .i64 s0, .int .i64 s1, .int .i64 s2, .int .i64 s3, .int .i64 s4, .slice none 0 0]) (HR : ∀ w, Bl w X [.int .i64 xa, .int .i64 xi, .int .i64 xh, .int .i64 xp, .int .i64 s0, .int .i64 s1, .int .i64 s2, .int .i64 s3, .int .i64 s4, .slice none 0 0] → Calls Tryd.prog 62 #[.pointer (some ⟨X, 0, none⟩)] w fun e w' => e = .returned (.map (some w.heap.size)) ∧ w'.heap[w.heap.size]? = some (.map es n) ∧ Below w.heap.size w w')
    (hf : Instr.findNow (.int .i64) (.int .i64 ek) es.toList 0 = some (some (i, .func (.func 89) #[.pointer (some ⟨X, 0, none⟩)] #[])))
    (HM : ∀ w', Below w.heap.size w w' → Bl w' X [.int .i64 xa, .int .i64 xi, .int .i64 xh, .int .i64 xp, .int .i64 s0, .int .i64 s1, .int .i64 s2, .int .i64 s3, .int .i64 s4, .slice none 0 0] → Calls Tryd.prog 89 #[.pointer (some ⟨X, 0, none⟩), .agg #[.int .i64 ek, .int .i64 kn, .int .i64 sa, .int .i64 ho, .int .i64 ix, .slice ga gs.length gx, .slice ca cs.length cx, .slice pa ps.length px, .int .i64 pr, .slice ma ms.length mx, .int .i64 bw, .int .i64 er, .int .i64 ee]] w' fun e w'' => e = .returned (.nilIface) ∧ ∃ v, Bl w'' X [.int .i64 xa, .int .i64 xi, .int .i64 xh, .int .i64 xp, .int .i64 r0, .int .i64 r1, .int .i64 r2, .int .i64 r3, .int .i64 r4, v] ∧ OwnG w'' w'.heap.size v ml ∧ w'.grownBy w'' (some X)) :
    Calls Tryd.prog 29 #[.pointer (some ⟨X, 0, none⟩), .agg #[.int .i64 ek, .int .i64 kn, .int .i64 sa, .int .i64 ho, .int .i64 ix, .slice ga gs.length gx, .slice ca cs.length cx, .slice pa ps.length px, .int .i64 pr, .slice ma ms.length mx, .int .i64 bw, .int .i64 er, .int .i64 ee]] w fun e w' => e = .returned (.tuple #[]) ∧ ∃ v, Bl w' X [.int .i64 xa, .int .i64 xi, .int .i64 xh, .int .i64 xp, .int .i64 r0, .int .i64 r1, .int .i64 r2, .int .i64 r3, .int .i64 r4, v] ∧ OwnG w' w.heap.size v ml ∧ w.grownBy w' (some X) := by
  obtain ⟨bE, B0, z⟩ := one w [.int .i64 ek, .int .i64 kn, .int .i64 sa, .int .i64 ho, .int .i64 ix, .slice ga gs.length gx, .slice ca cs.length cx, .slice pa ps.length px, .int .i64 pr, .slice ma ms.length mx, .int .i64 bw, .int .i64 er, .int .i64 ee] 48
  have hne : X ≠ w.heap.size := Nat.ne_of_lt hX.lt
  have hne' : w.heap.size ≠ X := Nat.ne_of_gt hX.lt
  replace hX := hX.keep B0
  have g0 := grown_below B0 (some X)
  clear z
  have HMM := Lib.hid HM
  clear HM
  have fe0 := bE.c 0 rfl
  have fe1 := bE.c 1 rfl
  have fe2 := bE.c 2 rfl
  have fe3 := bE.c 3 rfl
  have fe4 := bE.c 4 rfl
  have fe5 := bE.c 5 rfl
  have fe6 := bE.c 6 rfl
  have fe7 := bE.c 7 rfl
  have fe8 := bE.c 8 rfl
  have fe9 := bE.c 9 rfl
  have fe10 := bE.c 10 rfl
  have fe11 := bE.c 11 rfl
  have fe12 := bE.c 12 rfl
  go_enter Tryd.func29, Tryd.ntmps29
  go_wp2_with fail
  clear fe0 fe1 fe2 fe3 fe4 fe5 fe6 fe7 fe8 fe9 fe10 fe11 fe12
  obtain ⟨V, eV⟩ : ∃ V, V = w.alloc (.cells #[.int .i64 ek, .int .i64 kn, .int .i64 sa, .int .i64 ho, .int .i64 ix, .slice ga gs.length gx, .slice ca cs.length cx, .slice pa ps.length px, .int .i64 pr, .slice ma ms.length mx, .int .i64 bw, .int .i64 er, .int .i64 ee] 48) := ⟨_, rfl⟩
  obtain ⟨E, eE⟩ : ∃ E, E = w.heap.size := ⟨_, rfl⟩
  rw [← eE] at bE ⊢
  have HE := Lib.hid eE
  rw [← eV] at bE hX g0 B0 ⊢
  clear eV eE hne hne'
  have HRR := Lib.hid HR
  have HF := Lib.hid hf
  clear HR hf
  go_region_held3 (fun w' => Over V w' ∧ w'.cell? ⟨E, 0, none⟩ = some (.int .i64 ek))
    ((first | exact ⟨over_drew _, over_cell (over_drew _) bE.lt (bE.c 0 rfl)⟩ | exact ⟨over_step (‹Over V _ ∧ _›).1 (by assumption), over_cell (over_step (‹Over V _ ∧ _›).1 (by assumption)) bE.lt (bE.c 0 rfl)⟩ | assumption | fail))
    ((first | (go_at_call 62; refine (HRR.out _ (hX.keep (‹Over V _ ∧ _›).1)).mono ?_; rintro e wm ⟨rfl, hmap, hbm⟩; have hlk := (show (Instr.lookup 100 (.map (some V.heap.size)) (.int .i64 ek) true).run Tryd.prog wm = .ok (.tuple #[.func (.func 89) #[.pointer (some ⟨X, 0, none⟩)] #[], .bool true]) wm from look_yes es n _ i ek _ wm hmap HF.out)) | fail))
  all_goals
    rename_i hH
    replace hH := hH.1
    have hX1 := hX.keep hH
    have bE1 := bE.keep hH
    have g1 := grow_row g0 (grown_below hH none) (fun k hk => by cases hk)
    have B1 := below_step B0 hH
    clear hH hlk hbm hmap bE B0 g0 hX
    have fe0 := bE1.c 0 rfl
    have fe1 := bE1.c 1 rfl
    have fe2 := bE1.c 2 rfl
    have fe3 := bE1.c 3 rfl
    have fe4 := bE1.c 4 rfl
    have fe5 := bE1.c 5 rfl
    have fe6 := bE1.c 6 rfl
    have fe7 := bE1.c 7 rfl
    have fe8 := bE1.c 8 rfl
    have fe9 := bE1.c 9 rfl
    have fe10 := bE1.c 10 rfl
    have fe11 := bE1.c 11 rfl
    have fe12 := bE1.c 12 rfl
    go_wp2_with fail
    clear fe0 fe1 fe2 fe3 fe4 fe5 fe6 fe7 fe8 fe9 fe10 fe11 fe12
    refine (HMM.out _ B1 hX1).mono ?_
    rintro e w2 ⟨rfl, v9, hX9, o9, g9⟩
    have G9 := grown_trans g1 g9
    have O9 := o9.mono (base' := w.heap.size) g1.size
    clear o9 g9 g1 bE1 hX1 B1
    go_wp2
    first | go_end0 | go_ret
    exact ⟨rfl, v9, hX9, O9, G9⟩
set_option maxHeartbeats 4000000 in
theorem handle_nil_connect (X : Nat) (xa xi xh xp s0 s1 s2 s3 s4 : Int) (ga ca pa ma : Option Addr) (gx cx px mx : Nat) (gs cs : List (Int × Int)) (ps ms : List Int) (ek ee kn sa ho ix pr bw er : Int) (r0 r1 r2 r3 r4 : Int) (ml : List Bm) (es : Array MapEntry) (n i : Nat) (w : World) (hX : Bl w X [.int .i64 xa, .int .i64 xi, .int .i64 xh, .int .i64 xp, .int .i64 s0, .int .i64 s1, .int .i64 s2, .int .i64 s3, .int .i64 s4, .slice none 0 0]) (HR : ∀ w, Bl w X [.int .i64 xa, .int .i64 xi, .int .i64 xh, .int .i64 xp, .int .i64 s0, .int .i64 s1, .int .i64 s2, .int .i64 s3, .int .i64 s4, .slice none 0 0] → Calls Tryd.prog 62 #[.pointer (some ⟨X, 0, none⟩)] w fun e w' => e = .returned (.map (some w.heap.size)) ∧ w'.heap[w.heap.size]? = some (.map es n) ∧ Below w.heap.size w w')
    (hf : Instr.findNow (.int .i64) (.int .i64 ek) es.toList 0 = some (some (i, .func (.func 90) #[.pointer (some ⟨X, 0, none⟩)] #[])))
    (HM : ∀ w', Below w.heap.size w w' → Bl w' X [.int .i64 xa, .int .i64 xi, .int .i64 xh, .int .i64 xp, .int .i64 s0, .int .i64 s1, .int .i64 s2, .int .i64 s3, .int .i64 s4, .slice none 0 0] → Calls Tryd.prog 90 #[.pointer (some ⟨X, 0, none⟩), .agg #[.int .i64 ek, .int .i64 kn, .int .i64 sa, .int .i64 ho, .int .i64 ix, .slice ga gs.length gx, .slice ca cs.length cx, .slice pa ps.length px, .int .i64 pr, .slice ma ms.length mx, .int .i64 bw, .int .i64 er, .int .i64 ee]] w' fun e w'' => e = .returned (.nilIface) ∧ ∃ v, Bl w'' X [.int .i64 xa, .int .i64 xi, .int .i64 xh, .int .i64 xp, .int .i64 r0, .int .i64 r1, .int .i64 r2, .int .i64 r3, .int .i64 r4, v] ∧ OwnG w'' w'.heap.size v ml ∧ w'.grownBy w'' (some X)) :
    Calls Tryd.prog 29 #[.pointer (some ⟨X, 0, none⟩), .agg #[.int .i64 ek, .int .i64 kn, .int .i64 sa, .int .i64 ho, .int .i64 ix, .slice ga gs.length gx, .slice ca cs.length cx, .slice pa ps.length px, .int .i64 pr, .slice ma ms.length mx, .int .i64 bw, .int .i64 er, .int .i64 ee]] w fun e w' => e = .returned (.tuple #[]) ∧ ∃ v, Bl w' X [.int .i64 xa, .int .i64 xi, .int .i64 xh, .int .i64 xp, .int .i64 r0, .int .i64 r1, .int .i64 r2, .int .i64 r3, .int .i64 r4, v] ∧ OwnG w' w.heap.size v ml ∧ w.grownBy w' (some X) := by
  obtain ⟨bE, B0, z⟩ := one w [.int .i64 ek, .int .i64 kn, .int .i64 sa, .int .i64 ho, .int .i64 ix, .slice ga gs.length gx, .slice ca cs.length cx, .slice pa ps.length px, .int .i64 pr, .slice ma ms.length mx, .int .i64 bw, .int .i64 er, .int .i64 ee] 48
  have hne : X ≠ w.heap.size := Nat.ne_of_lt hX.lt
  have hne' : w.heap.size ≠ X := Nat.ne_of_gt hX.lt
  replace hX := hX.keep B0
  have g0 := grown_below B0 (some X)
  clear z
  have HMM := Lib.hid HM
  clear HM
  have fe0 := bE.c 0 rfl
  have fe1 := bE.c 1 rfl
  have fe2 := bE.c 2 rfl
  have fe3 := bE.c 3 rfl
  have fe4 := bE.c 4 rfl
  have fe5 := bE.c 5 rfl
  have fe6 := bE.c 6 rfl
  have fe7 := bE.c 7 rfl
  have fe8 := bE.c 8 rfl
  have fe9 := bE.c 9 rfl
  have fe10 := bE.c 10 rfl
  have fe11 := bE.c 11 rfl
  have fe12 := bE.c 12 rfl
  go_enter Tryd.func29, Tryd.ntmps29
  go_wp2_with fail
  clear fe0 fe1 fe2 fe3 fe4 fe5 fe6 fe7 fe8 fe9 fe10 fe11 fe12
  obtain ⟨V, eV⟩ : ∃ V, V = w.alloc (.cells #[.int .i64 ek, .int .i64 kn, .int .i64 sa, .int .i64 ho, .int .i64 ix, .slice ga gs.length gx, .slice ca cs.length cx, .slice pa ps.length px, .int .i64 pr, .slice ma ms.length mx, .int .i64 bw, .int .i64 er, .int .i64 ee] 48) := ⟨_, rfl⟩
  obtain ⟨E, eE⟩ : ∃ E, E = w.heap.size := ⟨_, rfl⟩
  rw [← eE] at bE ⊢
  have HE := Lib.hid eE
  rw [← eV] at bE hX g0 B0 ⊢
  clear eV eE hne hne'
  have HRR := Lib.hid HR
  have HF := Lib.hid hf
  clear HR hf
  go_region_held3 (fun w' => Over V w' ∧ w'.cell? ⟨E, 0, none⟩ = some (.int .i64 ek))
    ((first | exact ⟨over_drew _, over_cell (over_drew _) bE.lt (bE.c 0 rfl)⟩ | exact ⟨over_step (‹Over V _ ∧ _›).1 (by assumption), over_cell (over_step (‹Over V _ ∧ _›).1 (by assumption)) bE.lt (bE.c 0 rfl)⟩ | assumption | fail))
    ((first | (go_at_call 62; refine (HRR.out _ (hX.keep (‹Over V _ ∧ _›).1)).mono ?_; rintro e wm ⟨rfl, hmap, hbm⟩; have hlk := (show (Instr.lookup 100 (.map (some V.heap.size)) (.int .i64 ek) true).run Tryd.prog wm = .ok (.tuple #[.func (.func 90) #[.pointer (some ⟨X, 0, none⟩)] #[], .bool true]) wm from look_yes es n _ i ek _ wm hmap HF.out)) | fail))
  all_goals
    rename_i hH
    replace hH := hH.1
    have hX1 := hX.keep hH
    have bE1 := bE.keep hH
    have g1 := grow_row g0 (grown_below hH none) (fun k hk => by cases hk)
    have B1 := below_step B0 hH
    clear hH hlk hbm hmap bE B0 g0 hX
    have fe0 := bE1.c 0 rfl
    have fe1 := bE1.c 1 rfl
    have fe2 := bE1.c 2 rfl
    have fe3 := bE1.c 3 rfl
    have fe4 := bE1.c 4 rfl
    have fe5 := bE1.c 5 rfl
    have fe6 := bE1.c 6 rfl
    have fe7 := bE1.c 7 rfl
    have fe8 := bE1.c 8 rfl
    have fe9 := bE1.c 9 rfl
    have fe10 := bE1.c 10 rfl
    have fe11 := bE1.c 11 rfl
    have fe12 := bE1.c 12 rfl
    go_wp2_with fail
    clear fe0 fe1 fe2 fe3 fe4 fe5 fe6 fe7 fe8 fe9 fe10 fe11 fe12
    refine (HMM.out _ B1 hX1).mono ?_
    rintro e w2 ⟨rfl, v9, hX9, o9, g9⟩
    have G9 := grown_trans g1 g9
    have O9 := o9.mono (base' := w.heap.size) g1.size
    clear o9 g9 g1 bE1 hX1 B1
    go_wp2
    first | go_end0 | go_ret
    exact ⟨rfl, v9, hX9, O9, G9⟩
set_option maxHeartbeats 4000000 in
theorem handle_nil_hearOpen (X : Nat) (xa xi xh xp s0 s1 s2 s3 s4 : Int) (ga ca pa ma : Option Addr) (gx cx px mx : Nat) (gs cs : List (Int × Int)) (ps ms : List Int) (ek ee kn sa ho ix pr bw er : Int) (r0 r1 r2 r3 r4 : Int) (ml : List Bm) (es : Array MapEntry) (n i : Nat) (w : World) (hX : Bl w X [.int .i64 xa, .int .i64 xi, .int .i64 xh, .int .i64 xp, .int .i64 s0, .int .i64 s1, .int .i64 s2, .int .i64 s3, .int .i64 s4, .slice none 0 0]) (HR : ∀ w, Bl w X [.int .i64 xa, .int .i64 xi, .int .i64 xh, .int .i64 xp, .int .i64 s0, .int .i64 s1, .int .i64 s2, .int .i64 s3, .int .i64 s4, .slice none 0 0] → Calls Tryd.prog 62 #[.pointer (some ⟨X, 0, none⟩)] w fun e w' => e = .returned (.map (some w.heap.size)) ∧ w'.heap[w.heap.size]? = some (.map es n) ∧ Below w.heap.size w w')
    (hf : Instr.findNow (.int .i64) (.int .i64 ek) es.toList 0 = some (some (i, .func (.func 91) #[.pointer (some ⟨X, 0, none⟩)] #[])))
    (HM : ∀ w', Below w.heap.size w w' → Bl w' X [.int .i64 xa, .int .i64 xi, .int .i64 xh, .int .i64 xp, .int .i64 s0, .int .i64 s1, .int .i64 s2, .int .i64 s3, .int .i64 s4, .slice none 0 0] → Calls Tryd.prog 91 #[.pointer (some ⟨X, 0, none⟩), .agg #[.int .i64 ek, .int .i64 kn, .int .i64 sa, .int .i64 ho, .int .i64 ix, .slice ga gs.length gx, .slice ca cs.length cx, .slice pa ps.length px, .int .i64 pr, .slice ma ms.length mx, .int .i64 bw, .int .i64 er, .int .i64 ee]] w' fun e w'' => e = .returned (.nilIface) ∧ ∃ v, Bl w'' X [.int .i64 xa, .int .i64 xi, .int .i64 xh, .int .i64 xp, .int .i64 r0, .int .i64 r1, .int .i64 r2, .int .i64 r3, .int .i64 r4, v] ∧ OwnG w'' w'.heap.size v ml ∧ w'.grownBy w'' (some X)) :
    Calls Tryd.prog 29 #[.pointer (some ⟨X, 0, none⟩), .agg #[.int .i64 ek, .int .i64 kn, .int .i64 sa, .int .i64 ho, .int .i64 ix, .slice ga gs.length gx, .slice ca cs.length cx, .slice pa ps.length px, .int .i64 pr, .slice ma ms.length mx, .int .i64 bw, .int .i64 er, .int .i64 ee]] w fun e w' => e = .returned (.tuple #[]) ∧ ∃ v, Bl w' X [.int .i64 xa, .int .i64 xi, .int .i64 xh, .int .i64 xp, .int .i64 r0, .int .i64 r1, .int .i64 r2, .int .i64 r3, .int .i64 r4, v] ∧ OwnG w' w.heap.size v ml ∧ w.grownBy w' (some X) := by
  obtain ⟨bE, B0, z⟩ := one w [.int .i64 ek, .int .i64 kn, .int .i64 sa, .int .i64 ho, .int .i64 ix, .slice ga gs.length gx, .slice ca cs.length cx, .slice pa ps.length px, .int .i64 pr, .slice ma ms.length mx, .int .i64 bw, .int .i64 er, .int .i64 ee] 48
  have hne : X ≠ w.heap.size := Nat.ne_of_lt hX.lt
  have hne' : w.heap.size ≠ X := Nat.ne_of_gt hX.lt
  replace hX := hX.keep B0
  have g0 := grown_below B0 (some X)
  clear z
  have HMM := Lib.hid HM
  clear HM
  have fe0 := bE.c 0 rfl
  have fe1 := bE.c 1 rfl
  have fe2 := bE.c 2 rfl
  have fe3 := bE.c 3 rfl
  have fe4 := bE.c 4 rfl
  have fe5 := bE.c 5 rfl
  have fe6 := bE.c 6 rfl
  have fe7 := bE.c 7 rfl
  have fe8 := bE.c 8 rfl
  have fe9 := bE.c 9 rfl
  have fe10 := bE.c 10 rfl
  have fe11 := bE.c 11 rfl
  have fe12 := bE.c 12 rfl
  go_enter Tryd.func29, Tryd.ntmps29
  go_wp2_with fail
  clear fe0 fe1 fe2 fe3 fe4 fe5 fe6 fe7 fe8 fe9 fe10 fe11 fe12
  obtain ⟨V, eV⟩ : ∃ V, V = w.alloc (.cells #[.int .i64 ek, .int .i64 kn, .int .i64 sa, .int .i64 ho, .int .i64 ix, .slice ga gs.length gx, .slice ca cs.length cx, .slice pa ps.length px, .int .i64 pr, .slice ma ms.length mx, .int .i64 bw, .int .i64 er, .int .i64 ee] 48) := ⟨_, rfl⟩
  obtain ⟨E, eE⟩ : ∃ E, E = w.heap.size := ⟨_, rfl⟩
  rw [← eE] at bE ⊢
  have HE := Lib.hid eE
  rw [← eV] at bE hX g0 B0 ⊢
  clear eV eE hne hne'
  have HRR := Lib.hid HR
  have HF := Lib.hid hf
  clear HR hf
  go_region_held3 (fun w' => Over V w' ∧ w'.cell? ⟨E, 0, none⟩ = some (.int .i64 ek))
    ((first | exact ⟨over_drew _, over_cell (over_drew _) bE.lt (bE.c 0 rfl)⟩ | exact ⟨over_step (‹Over V _ ∧ _›).1 (by assumption), over_cell (over_step (‹Over V _ ∧ _›).1 (by assumption)) bE.lt (bE.c 0 rfl)⟩ | assumption | fail))
    ((first | (go_at_call 62; refine (HRR.out _ (hX.keep (‹Over V _ ∧ _›).1)).mono ?_; rintro e wm ⟨rfl, hmap, hbm⟩; have hlk := (show (Instr.lookup 100 (.map (some V.heap.size)) (.int .i64 ek) true).run Tryd.prog wm = .ok (.tuple #[.func (.func 91) #[.pointer (some ⟨X, 0, none⟩)] #[], .bool true]) wm from look_yes es n _ i ek _ wm hmap HF.out)) | fail))
  all_goals
    rename_i hH
    replace hH := hH.1
    have hX1 := hX.keep hH
    have bE1 := bE.keep hH
    have g1 := grow_row g0 (grown_below hH none) (fun k hk => by cases hk)
    have B1 := below_step B0 hH
    clear hH hlk hbm hmap bE B0 g0 hX
    have fe0 := bE1.c 0 rfl
    have fe1 := bE1.c 1 rfl
    have fe2 := bE1.c 2 rfl
    have fe3 := bE1.c 3 rfl
    have fe4 := bE1.c 4 rfl
    have fe5 := bE1.c 5 rfl
    have fe6 := bE1.c 6 rfl
    have fe7 := bE1.c 7 rfl
    have fe8 := bE1.c 8 rfl
    have fe9 := bE1.c 9 rfl
    have fe10 := bE1.c 10 rfl
    have fe11 := bE1.c 11 rfl
    have fe12 := bE1.c 12 rfl
    go_wp2_with fail
    clear fe0 fe1 fe2 fe3 fe4 fe5 fe6 fe7 fe8 fe9 fe10 fe11 fe12
    refine (HMM.out _ B1 hX1).mono ?_
    rintro e w2 ⟨rfl, v9, hX9, o9, g9⟩
    have G9 := grown_trans g1 g9
    have O9 := o9.mono (base' := w.heap.size) g1.size
    clear o9 g9 g1 bE1 hX1 B1
    go_wp2
    first | go_end0 | go_ret
    exact ⟨rfl, v9, hX9, O9, G9⟩
set_option maxHeartbeats 4000000 in
theorem handle_nil_hearKeep (X : Nat) (xa xi xh xp s0 s1 s2 s3 s4 : Int) (ga ca pa ma : Option Addr) (gx cx px mx : Nat) (gs cs : List (Int × Int)) (ps ms : List Int) (ek ee kn sa ho ix pr bw er : Int) (r0 r1 r2 r3 r4 : Int) (ml : List Bm) (es : Array MapEntry) (n i : Nat) (w : World) (hX : Bl w X [.int .i64 xa, .int .i64 xi, .int .i64 xh, .int .i64 xp, .int .i64 s0, .int .i64 s1, .int .i64 s2, .int .i64 s3, .int .i64 s4, .slice none 0 0]) (HR : ∀ w, Bl w X [.int .i64 xa, .int .i64 xi, .int .i64 xh, .int .i64 xp, .int .i64 s0, .int .i64 s1, .int .i64 s2, .int .i64 s3, .int .i64 s4, .slice none 0 0] → Calls Tryd.prog 62 #[.pointer (some ⟨X, 0, none⟩)] w fun e w' => e = .returned (.map (some w.heap.size)) ∧ w'.heap[w.heap.size]? = some (.map es n) ∧ Below w.heap.size w w')
    (hf : Instr.findNow (.int .i64) (.int .i64 ek) es.toList 0 = some (some (i, .func (.func 93) #[.pointer (some ⟨X, 0, none⟩)] #[])))
    (HM : ∀ w', Below w.heap.size w w' → Bl w' X [.int .i64 xa, .int .i64 xi, .int .i64 xh, .int .i64 xp, .int .i64 s0, .int .i64 s1, .int .i64 s2, .int .i64 s3, .int .i64 s4, .slice none 0 0] → Calls Tryd.prog 93 #[.pointer (some ⟨X, 0, none⟩), .agg #[.int .i64 ek, .int .i64 kn, .int .i64 sa, .int .i64 ho, .int .i64 ix, .slice ga gs.length gx, .slice ca cs.length cx, .slice pa ps.length px, .int .i64 pr, .slice ma ms.length mx, .int .i64 bw, .int .i64 er, .int .i64 ee]] w' fun e w'' => e = .returned (.nilIface) ∧ ∃ v, Bl w'' X [.int .i64 xa, .int .i64 xi, .int .i64 xh, .int .i64 xp, .int .i64 r0, .int .i64 r1, .int .i64 r2, .int .i64 r3, .int .i64 r4, v] ∧ OwnG w'' w'.heap.size v ml ∧ w'.grownBy w'' (some X)) :
    Calls Tryd.prog 29 #[.pointer (some ⟨X, 0, none⟩), .agg #[.int .i64 ek, .int .i64 kn, .int .i64 sa, .int .i64 ho, .int .i64 ix, .slice ga gs.length gx, .slice ca cs.length cx, .slice pa ps.length px, .int .i64 pr, .slice ma ms.length mx, .int .i64 bw, .int .i64 er, .int .i64 ee]] w fun e w' => e = .returned (.tuple #[]) ∧ ∃ v, Bl w' X [.int .i64 xa, .int .i64 xi, .int .i64 xh, .int .i64 xp, .int .i64 r0, .int .i64 r1, .int .i64 r2, .int .i64 r3, .int .i64 r4, v] ∧ OwnG w' w.heap.size v ml ∧ w.grownBy w' (some X) := by
  obtain ⟨bE, B0, z⟩ := one w [.int .i64 ek, .int .i64 kn, .int .i64 sa, .int .i64 ho, .int .i64 ix, .slice ga gs.length gx, .slice ca cs.length cx, .slice pa ps.length px, .int .i64 pr, .slice ma ms.length mx, .int .i64 bw, .int .i64 er, .int .i64 ee] 48
  have hne : X ≠ w.heap.size := Nat.ne_of_lt hX.lt
  have hne' : w.heap.size ≠ X := Nat.ne_of_gt hX.lt
  replace hX := hX.keep B0
  have g0 := grown_below B0 (some X)
  clear z
  have HMM := Lib.hid HM
  clear HM
  have fe0 := bE.c 0 rfl
  have fe1 := bE.c 1 rfl
  have fe2 := bE.c 2 rfl
  have fe3 := bE.c 3 rfl
  have fe4 := bE.c 4 rfl
  have fe5 := bE.c 5 rfl
  have fe6 := bE.c 6 rfl
  have fe7 := bE.c 7 rfl
  have fe8 := bE.c 8 rfl
  have fe9 := bE.c 9 rfl
  have fe10 := bE.c 10 rfl
  have fe11 := bE.c 11 rfl
  have fe12 := bE.c 12 rfl
  go_enter Tryd.func29, Tryd.ntmps29
  go_wp2_with fail
  clear fe0 fe1 fe2 fe3 fe4 fe5 fe6 fe7 fe8 fe9 fe10 fe11 fe12
  obtain ⟨V, eV⟩ : ∃ V, V = w.alloc (.cells #[.int .i64 ek, .int .i64 kn, .int .i64 sa, .int .i64 ho, .int .i64 ix, .slice ga gs.length gx, .slice ca cs.length cx, .slice pa ps.length px, .int .i64 pr, .slice ma ms.length mx, .int .i64 bw, .int .i64 er, .int .i64 ee] 48) := ⟨_, rfl⟩
  obtain ⟨E, eE⟩ : ∃ E, E = w.heap.size := ⟨_, rfl⟩
  rw [← eE] at bE ⊢
  have HE := Lib.hid eE
  rw [← eV] at bE hX g0 B0 ⊢
  clear eV eE hne hne'
  have HRR := Lib.hid HR
  have HF := Lib.hid hf
  clear HR hf
  go_region_held3 (fun w' => Over V w' ∧ w'.cell? ⟨E, 0, none⟩ = some (.int .i64 ek))
    ((first | exact ⟨over_drew _, over_cell (over_drew _) bE.lt (bE.c 0 rfl)⟩ | exact ⟨over_step (‹Over V _ ∧ _›).1 (by assumption), over_cell (over_step (‹Over V _ ∧ _›).1 (by assumption)) bE.lt (bE.c 0 rfl)⟩ | assumption | fail))
    ((first | (go_at_call 62; refine (HRR.out _ (hX.keep (‹Over V _ ∧ _›).1)).mono ?_; rintro e wm ⟨rfl, hmap, hbm⟩; have hlk := (show (Instr.lookup 100 (.map (some V.heap.size)) (.int .i64 ek) true).run Tryd.prog wm = .ok (.tuple #[.func (.func 93) #[.pointer (some ⟨X, 0, none⟩)] #[], .bool true]) wm from look_yes es n _ i ek _ wm hmap HF.out)) | fail))
  all_goals
    rename_i hH
    replace hH := hH.1
    have hX1 := hX.keep hH
    have bE1 := bE.keep hH
    have g1 := grow_row g0 (grown_below hH none) (fun k hk => by cases hk)
    have B1 := below_step B0 hH
    clear hH hlk hbm hmap bE B0 g0 hX
    have fe0 := bE1.c 0 rfl
    have fe1 := bE1.c 1 rfl
    have fe2 := bE1.c 2 rfl
    have fe3 := bE1.c 3 rfl
    have fe4 := bE1.c 4 rfl
    have fe5 := bE1.c 5 rfl
    have fe6 := bE1.c 6 rfl
    have fe7 := bE1.c 7 rfl
    have fe8 := bE1.c 8 rfl
    have fe9 := bE1.c 9 rfl
    have fe10 := bE1.c 10 rfl
    have fe11 := bE1.c 11 rfl
    have fe12 := bE1.c 12 rfl
    go_wp2_with fail
    clear fe0 fe1 fe2 fe3 fe4 fe5 fe6 fe7 fe8 fe9 fe10 fe11 fe12
    refine (HMM.out _ B1 hX1).mono ?_
    rintro e w2 ⟨rfl, v9, hX9, o9, g9⟩
    have G9 := grown_trans g1 g9
    have O9 := o9.mono (base' := w.heap.size) g1.size
    clear o9 g9 g1 bE1 hX1 B1
    go_wp2
    first | go_end0 | go_ret
    exact ⟨rfl, v9, hX9, O9, G9⟩
set_option maxHeartbeats 4000000 in
theorem handle_nil_hearMore (X : Nat) (xa xi xh xp s0 s1 s2 s3 s4 : Int) (ga ca pa ma : Option Addr) (gx cx px mx : Nat) (gs cs : List (Int × Int)) (ps ms : List Int) (ek ee kn sa ho ix pr bw er : Int) (r0 r1 r2 r3 r4 : Int) (ml : List Bm) (es : Array MapEntry) (n i : Nat) (w : World) (hX : Bl w X [.int .i64 xa, .int .i64 xi, .int .i64 xh, .int .i64 xp, .int .i64 s0, .int .i64 s1, .int .i64 s2, .int .i64 s3, .int .i64 s4, .slice none 0 0]) (HR : ∀ w, Bl w X [.int .i64 xa, .int .i64 xi, .int .i64 xh, .int .i64 xp, .int .i64 s0, .int .i64 s1, .int .i64 s2, .int .i64 s3, .int .i64 s4, .slice none 0 0] → Calls Tryd.prog 62 #[.pointer (some ⟨X, 0, none⟩)] w fun e w' => e = .returned (.map (some w.heap.size)) ∧ w'.heap[w.heap.size]? = some (.map es n) ∧ Below w.heap.size w w')
    (hf : Instr.findNow (.int .i64) (.int .i64 ek) es.toList 0 = some (some (i, .func (.func 95) #[.pointer (some ⟨X, 0, none⟩)] #[])))
    (HM : ∀ w', Below w.heap.size w w' → Bl w' X [.int .i64 xa, .int .i64 xi, .int .i64 xh, .int .i64 xp, .int .i64 s0, .int .i64 s1, .int .i64 s2, .int .i64 s3, .int .i64 s4, .slice none 0 0] → Calls Tryd.prog 95 #[.pointer (some ⟨X, 0, none⟩), .agg #[.int .i64 ek, .int .i64 kn, .int .i64 sa, .int .i64 ho, .int .i64 ix, .slice ga gs.length gx, .slice ca cs.length cx, .slice pa ps.length px, .int .i64 pr, .slice ma ms.length mx, .int .i64 bw, .int .i64 er, .int .i64 ee]] w' fun e w'' => e = .returned (.nilIface) ∧ ∃ v, Bl w'' X [.int .i64 xa, .int .i64 xi, .int .i64 xh, .int .i64 xp, .int .i64 r0, .int .i64 r1, .int .i64 r2, .int .i64 r3, .int .i64 r4, v] ∧ OwnG w'' w'.heap.size v ml ∧ w'.grownBy w'' (some X)) :
    Calls Tryd.prog 29 #[.pointer (some ⟨X, 0, none⟩), .agg #[.int .i64 ek, .int .i64 kn, .int .i64 sa, .int .i64 ho, .int .i64 ix, .slice ga gs.length gx, .slice ca cs.length cx, .slice pa ps.length px, .int .i64 pr, .slice ma ms.length mx, .int .i64 bw, .int .i64 er, .int .i64 ee]] w fun e w' => e = .returned (.tuple #[]) ∧ ∃ v, Bl w' X [.int .i64 xa, .int .i64 xi, .int .i64 xh, .int .i64 xp, .int .i64 r0, .int .i64 r1, .int .i64 r2, .int .i64 r3, .int .i64 r4, v] ∧ OwnG w' w.heap.size v ml ∧ w.grownBy w' (some X) := by
  obtain ⟨bE, B0, z⟩ := one w [.int .i64 ek, .int .i64 kn, .int .i64 sa, .int .i64 ho, .int .i64 ix, .slice ga gs.length gx, .slice ca cs.length cx, .slice pa ps.length px, .int .i64 pr, .slice ma ms.length mx, .int .i64 bw, .int .i64 er, .int .i64 ee] 48
  have hne : X ≠ w.heap.size := Nat.ne_of_lt hX.lt
  have hne' : w.heap.size ≠ X := Nat.ne_of_gt hX.lt
  replace hX := hX.keep B0
  have g0 := grown_below B0 (some X)
  clear z
  have HMM := Lib.hid HM
  clear HM
  have fe0 := bE.c 0 rfl
  have fe1 := bE.c 1 rfl
  have fe2 := bE.c 2 rfl
  have fe3 := bE.c 3 rfl
  have fe4 := bE.c 4 rfl
  have fe5 := bE.c 5 rfl
  have fe6 := bE.c 6 rfl
  have fe7 := bE.c 7 rfl
  have fe8 := bE.c 8 rfl
  have fe9 := bE.c 9 rfl
  have fe10 := bE.c 10 rfl
  have fe11 := bE.c 11 rfl
  have fe12 := bE.c 12 rfl
  go_enter Tryd.func29, Tryd.ntmps29
  go_wp2_with fail
  clear fe0 fe1 fe2 fe3 fe4 fe5 fe6 fe7 fe8 fe9 fe10 fe11 fe12
  obtain ⟨V, eV⟩ : ∃ V, V = w.alloc (.cells #[.int .i64 ek, .int .i64 kn, .int .i64 sa, .int .i64 ho, .int .i64 ix, .slice ga gs.length gx, .slice ca cs.length cx, .slice pa ps.length px, .int .i64 pr, .slice ma ms.length mx, .int .i64 bw, .int .i64 er, .int .i64 ee] 48) := ⟨_, rfl⟩
  obtain ⟨E, eE⟩ : ∃ E, E = w.heap.size := ⟨_, rfl⟩
  rw [← eE] at bE ⊢
  have HE := Lib.hid eE
  rw [← eV] at bE hX g0 B0 ⊢
  clear eV eE hne hne'
  have HRR := Lib.hid HR
  have HF := Lib.hid hf
  clear HR hf
  go_region_held3 (fun w' => Over V w' ∧ w'.cell? ⟨E, 0, none⟩ = some (.int .i64 ek))
    ((first | exact ⟨over_drew _, over_cell (over_drew _) bE.lt (bE.c 0 rfl)⟩ | exact ⟨over_step (‹Over V _ ∧ _›).1 (by assumption), over_cell (over_step (‹Over V _ ∧ _›).1 (by assumption)) bE.lt (bE.c 0 rfl)⟩ | assumption | fail))
    ((first | (go_at_call 62; refine (HRR.out _ (hX.keep (‹Over V _ ∧ _›).1)).mono ?_; rintro e wm ⟨rfl, hmap, hbm⟩; have hlk := (show (Instr.lookup 100 (.map (some V.heap.size)) (.int .i64 ek) true).run Tryd.prog wm = .ok (.tuple #[.func (.func 95) #[.pointer (some ⟨X, 0, none⟩)] #[], .bool true]) wm from look_yes es n _ i ek _ wm hmap HF.out)) | fail))
  all_goals
    rename_i hH
    replace hH := hH.1
    have hX1 := hX.keep hH
    have bE1 := bE.keep hH
    have g1 := grow_row g0 (grown_below hH none) (fun k hk => by cases hk)
    have B1 := below_step B0 hH
    clear hH hlk hbm hmap bE B0 g0 hX
    have fe0 := bE1.c 0 rfl
    have fe1 := bE1.c 1 rfl
    have fe2 := bE1.c 2 rfl
    have fe3 := bE1.c 3 rfl
    have fe4 := bE1.c 4 rfl
    have fe5 := bE1.c 5 rfl
    have fe6 := bE1.c 6 rfl
    have fe7 := bE1.c 7 rfl
    have fe8 := bE1.c 8 rfl
    have fe9 := bE1.c 9 rfl
    have fe10 := bE1.c 10 rfl
    have fe11 := bE1.c 11 rfl
    have fe12 := bE1.c 12 rfl
    go_wp2_with fail
    clear fe0 fe1 fe2 fe3 fe4 fe5 fe6 fe7 fe8 fe9 fe10 fe11 fe12
    refine (HMM.out _ B1 hX1).mono ?_
    rintro e w2 ⟨rfl, v9, hX9, o9, g9⟩
    have G9 := grown_trans g1 g9
    have O9 := o9.mono (base' := w.heap.size) g1.size
    clear o9 g9 g1 bE1 hX1 B1
    go_wp2
    first | go_end0 | go_ret
    exact ⟨rfl, v9, hX9, O9, G9⟩
set_option maxHeartbeats 4000000 in
theorem handle_nil_wait (X : Nat) (xa xi xh xp s0 s1 s2 s3 s4 : Int) (ga ca pa ma : Option Addr) (gx cx px mx : Nat) (gs cs : List (Int × Int)) (ps ms : List Int) (ek ee kn sa ho ix pr bw er : Int) (r0 r1 r2 r3 r4 : Int) (ml : List Bm) (es : Array MapEntry) (n i : Nat) (w : World) (hX : Bl w X [.int .i64 xa, .int .i64 xi, .int .i64 xh, .int .i64 xp, .int .i64 s0, .int .i64 s1, .int .i64 s2, .int .i64 s3, .int .i64 s4, .slice none 0 0]) (HR : ∀ w, Bl w X [.int .i64 xa, .int .i64 xi, .int .i64 xh, .int .i64 xp, .int .i64 s0, .int .i64 s1, .int .i64 s2, .int .i64 s3, .int .i64 s4, .slice none 0 0] → Calls Tryd.prog 62 #[.pointer (some ⟨X, 0, none⟩)] w fun e w' => e = .returned (.map (some w.heap.size)) ∧ w'.heap[w.heap.size]? = some (.map es n) ∧ Below w.heap.size w w')
    (hf : Instr.findNow (.int .i64) (.int .i64 ek) es.toList 0 = some (some (i, .func (.func 92) #[.pointer (some ⟨X, 0, none⟩)] #[])))
    (HM : ∀ w', Below w.heap.size w w' → Bl w' X [.int .i64 xa, .int .i64 xi, .int .i64 xh, .int .i64 xp, .int .i64 s0, .int .i64 s1, .int .i64 s2, .int .i64 s3, .int .i64 s4, .slice none 0 0] → Calls Tryd.prog 92 #[.pointer (some ⟨X, 0, none⟩), .agg #[.int .i64 ek, .int .i64 kn, .int .i64 sa, .int .i64 ho, .int .i64 ix, .slice ga gs.length gx, .slice ca cs.length cx, .slice pa ps.length px, .int .i64 pr, .slice ma ms.length mx, .int .i64 bw, .int .i64 er, .int .i64 ee]] w' fun e w'' => e = .returned (.nilIface) ∧ ∃ v, Bl w'' X [.int .i64 xa, .int .i64 xi, .int .i64 xh, .int .i64 xp, .int .i64 r0, .int .i64 r1, .int .i64 r2, .int .i64 r3, .int .i64 r4, v] ∧ OwnG w'' w'.heap.size v ml ∧ w'.grownBy w'' (some X)) :
    Calls Tryd.prog 29 #[.pointer (some ⟨X, 0, none⟩), .agg #[.int .i64 ek, .int .i64 kn, .int .i64 sa, .int .i64 ho, .int .i64 ix, .slice ga gs.length gx, .slice ca cs.length cx, .slice pa ps.length px, .int .i64 pr, .slice ma ms.length mx, .int .i64 bw, .int .i64 er, .int .i64 ee]] w fun e w' => e = .returned (.tuple #[]) ∧ ∃ v, Bl w' X [.int .i64 xa, .int .i64 xi, .int .i64 xh, .int .i64 xp, .int .i64 r0, .int .i64 r1, .int .i64 r2, .int .i64 r3, .int .i64 r4, v] ∧ OwnG w' w.heap.size v ml ∧ w.grownBy w' (some X) := by
  obtain ⟨bE, B0, z⟩ := one w [.int .i64 ek, .int .i64 kn, .int .i64 sa, .int .i64 ho, .int .i64 ix, .slice ga gs.length gx, .slice ca cs.length cx, .slice pa ps.length px, .int .i64 pr, .slice ma ms.length mx, .int .i64 bw, .int .i64 er, .int .i64 ee] 48
  have hne : X ≠ w.heap.size := Nat.ne_of_lt hX.lt
  have hne' : w.heap.size ≠ X := Nat.ne_of_gt hX.lt
  replace hX := hX.keep B0
  have g0 := grown_below B0 (some X)
  clear z
  have HMM := Lib.hid HM
  clear HM
  have fe0 := bE.c 0 rfl
  have fe1 := bE.c 1 rfl
  have fe2 := bE.c 2 rfl
  have fe3 := bE.c 3 rfl
  have fe4 := bE.c 4 rfl
  have fe5 := bE.c 5 rfl
  have fe6 := bE.c 6 rfl
  have fe7 := bE.c 7 rfl
  have fe8 := bE.c 8 rfl
  have fe9 := bE.c 9 rfl
  have fe10 := bE.c 10 rfl
  have fe11 := bE.c 11 rfl
  have fe12 := bE.c 12 rfl
  go_enter Tryd.func29, Tryd.ntmps29
  go_wp2_with fail
  clear fe0 fe1 fe2 fe3 fe4 fe5 fe6 fe7 fe8 fe9 fe10 fe11 fe12
  obtain ⟨V, eV⟩ : ∃ V, V = w.alloc (.cells #[.int .i64 ek, .int .i64 kn, .int .i64 sa, .int .i64 ho, .int .i64 ix, .slice ga gs.length gx, .slice ca cs.length cx, .slice pa ps.length px, .int .i64 pr, .slice ma ms.length mx, .int .i64 bw, .int .i64 er, .int .i64 ee] 48) := ⟨_, rfl⟩
  obtain ⟨E, eE⟩ : ∃ E, E = w.heap.size := ⟨_, rfl⟩
  rw [← eE] at bE ⊢
  have HE := Lib.hid eE
  rw [← eV] at bE hX g0 B0 ⊢
  clear eV eE hne hne'
  have HRR := Lib.hid HR
  have HF := Lib.hid hf
  clear HR hf
  go_region_held3 (fun w' => Over V w' ∧ w'.cell? ⟨E, 0, none⟩ = some (.int .i64 ek))
    ((first | exact ⟨over_drew _, over_cell (over_drew _) bE.lt (bE.c 0 rfl)⟩ | exact ⟨over_step (‹Over V _ ∧ _›).1 (by assumption), over_cell (over_step (‹Over V _ ∧ _›).1 (by assumption)) bE.lt (bE.c 0 rfl)⟩ | assumption | fail))
    ((first | (go_at_call 62; refine (HRR.out _ (hX.keep (‹Over V _ ∧ _›).1)).mono ?_; rintro e wm ⟨rfl, hmap, hbm⟩; have hlk := (show (Instr.lookup 100 (.map (some V.heap.size)) (.int .i64 ek) true).run Tryd.prog wm = .ok (.tuple #[.func (.func 92) #[.pointer (some ⟨X, 0, none⟩)] #[], .bool true]) wm from look_yes es n _ i ek _ wm hmap HF.out)) | fail))
  all_goals
    rename_i hH
    replace hH := hH.1
    have hX1 := hX.keep hH
    have bE1 := bE.keep hH
    have g1 := grow_row g0 (grown_below hH none) (fun k hk => by cases hk)
    have B1 := below_step B0 hH
    clear hH hlk hbm hmap bE B0 g0 hX
    have fe0 := bE1.c 0 rfl
    have fe1 := bE1.c 1 rfl
    have fe2 := bE1.c 2 rfl
    have fe3 := bE1.c 3 rfl
    have fe4 := bE1.c 4 rfl
    have fe5 := bE1.c 5 rfl
    have fe6 := bE1.c 6 rfl
    have fe7 := bE1.c 7 rfl
    have fe8 := bE1.c 8 rfl
    have fe9 := bE1.c 9 rfl
    have fe10 := bE1.c 10 rfl
    have fe11 := bE1.c 11 rfl
    have fe12 := bE1.c 12 rfl
    go_wp2_with fail
    clear fe0 fe1 fe2 fe3 fe4 fe5 fe6 fe7 fe8 fe9 fe10 fe11 fe12
    refine (HMM.out _ B1 hX1).mono ?_
    rintro e w2 ⟨rfl, v9, hX9, o9, g9⟩
    have G9 := grown_trans g1 g9
    have O9 := o9.mono (base' := w.heap.size) g1.size
    clear o9 g9 g1 bE1 hX1 B1
    go_wp2
    first | go_end0 | go_ret
    exact ⟨rfl, v9, hX9, O9, G9⟩
set_option maxHeartbeats 4000000 in
theorem handle_nil_waitAndKeep (X : Nat) (xa xi xh xp s0 s1 s2 s3 s4 : Int) (ga ca pa ma : Option Addr) (gx cx px mx : Nat) (gs cs : List (Int × Int)) (ps ms : List Int) (ek ee kn sa ho ix pr bw er : Int) (r0 r1 r2 r3 r4 : Int) (ml : List Bm) (es : Array MapEntry) (n i : Nat) (w : World) (hX : Bl w X [.int .i64 xa, .int .i64 xi, .int .i64 xh, .int .i64 xp, .int .i64 s0, .int .i64 s1, .int .i64 s2, .int .i64 s3, .int .i64 s4, .slice none 0 0]) (HR : ∀ w, Bl w X [.int .i64 xa, .int .i64 xi, .int .i64 xh, .int .i64 xp, .int .i64 s0, .int .i64 s1, .int .i64 s2, .int .i64 s3, .int .i64 s4, .slice none 0 0] → Calls Tryd.prog 62 #[.pointer (some ⟨X, 0, none⟩)] w fun e w' => e = .returned (.map (some w.heap.size)) ∧ w'.heap[w.heap.size]? = some (.map es n) ∧ Below w.heap.size w w')
    (hf : Instr.findNow (.int .i64) (.int .i64 ek) es.toList 0 = some (some (i, .func (.func 94) #[.pointer (some ⟨X, 0, none⟩)] #[])))
    (HM : ∀ w', Below w.heap.size w w' → Bl w' X [.int .i64 xa, .int .i64 xi, .int .i64 xh, .int .i64 xp, .int .i64 s0, .int .i64 s1, .int .i64 s2, .int .i64 s3, .int .i64 s4, .slice none 0 0] → Calls Tryd.prog 94 #[.pointer (some ⟨X, 0, none⟩), .agg #[.int .i64 ek, .int .i64 kn, .int .i64 sa, .int .i64 ho, .int .i64 ix, .slice ga gs.length gx, .slice ca cs.length cx, .slice pa ps.length px, .int .i64 pr, .slice ma ms.length mx, .int .i64 bw, .int .i64 er, .int .i64 ee]] w' fun e w'' => e = .returned (.nilIface) ∧ ∃ v, Bl w'' X [.int .i64 xa, .int .i64 xi, .int .i64 xh, .int .i64 xp, .int .i64 r0, .int .i64 r1, .int .i64 r2, .int .i64 r3, .int .i64 r4, v] ∧ OwnG w'' w'.heap.size v ml ∧ w'.grownBy w'' (some X)) :
    Calls Tryd.prog 29 #[.pointer (some ⟨X, 0, none⟩), .agg #[.int .i64 ek, .int .i64 kn, .int .i64 sa, .int .i64 ho, .int .i64 ix, .slice ga gs.length gx, .slice ca cs.length cx, .slice pa ps.length px, .int .i64 pr, .slice ma ms.length mx, .int .i64 bw, .int .i64 er, .int .i64 ee]] w fun e w' => e = .returned (.tuple #[]) ∧ ∃ v, Bl w' X [.int .i64 xa, .int .i64 xi, .int .i64 xh, .int .i64 xp, .int .i64 r0, .int .i64 r1, .int .i64 r2, .int .i64 r3, .int .i64 r4, v] ∧ OwnG w' w.heap.size v ml ∧ w.grownBy w' (some X) := by
  obtain ⟨bE, B0, z⟩ := one w [.int .i64 ek, .int .i64 kn, .int .i64 sa, .int .i64 ho, .int .i64 ix, .slice ga gs.length gx, .slice ca cs.length cx, .slice pa ps.length px, .int .i64 pr, .slice ma ms.length mx, .int .i64 bw, .int .i64 er, .int .i64 ee] 48
  have hne : X ≠ w.heap.size := Nat.ne_of_lt hX.lt
  have hne' : w.heap.size ≠ X := Nat.ne_of_gt hX.lt
  replace hX := hX.keep B0
  have g0 := grown_below B0 (some X)
  clear z
  have HMM := Lib.hid HM
  clear HM
  have fe0 := bE.c 0 rfl
  have fe1 := bE.c 1 rfl
  have fe2 := bE.c 2 rfl
  have fe3 := bE.c 3 rfl
  have fe4 := bE.c 4 rfl
  have fe5 := bE.c 5 rfl
  have fe6 := bE.c 6 rfl
  have fe7 := bE.c 7 rfl
  have fe8 := bE.c 8 rfl
  have fe9 := bE.c 9 rfl
  have fe10 := bE.c 10 rfl
  have fe11 := bE.c 11 rfl
  have fe12 := bE.c 12 rfl
  go_enter Tryd.func29, Tryd.ntmps29
  go_wp2_with fail
  clear fe0 fe1 fe2 fe3 fe4 fe5 fe6 fe7 fe8 fe9 fe10 fe11 fe12
  obtain ⟨V, eV⟩ : ∃ V, V = w.alloc (.cells #[.int .i64 ek, .int .i64 kn, .int .i64 sa, .int .i64 ho, .int .i64 ix, .slice ga gs.length gx, .slice ca cs.length cx, .slice pa ps.length px, .int .i64 pr, .slice ma ms.length mx, .int .i64 bw, .int .i64 er, .int .i64 ee] 48) := ⟨_, rfl⟩
  obtain ⟨E, eE⟩ : ∃ E, E = w.heap.size := ⟨_, rfl⟩
  rw [← eE] at bE ⊢
  have HE := Lib.hid eE
  rw [← eV] at bE hX g0 B0 ⊢
  clear eV eE hne hne'
  have HRR := Lib.hid HR
  have HF := Lib.hid hf
  clear HR hf
  go_region_held3 (fun w' => Over V w' ∧ w'.cell? ⟨E, 0, none⟩ = some (.int .i64 ek))
    ((first | exact ⟨over_drew _, over_cell (over_drew _) bE.lt (bE.c 0 rfl)⟩ | exact ⟨over_step (‹Over V _ ∧ _›).1 (by assumption), over_cell (over_step (‹Over V _ ∧ _›).1 (by assumption)) bE.lt (bE.c 0 rfl)⟩ | assumption | fail))
    ((first | (go_at_call 62; refine (HRR.out _ (hX.keep (‹Over V _ ∧ _›).1)).mono ?_; rintro e wm ⟨rfl, hmap, hbm⟩; have hlk := (show (Instr.lookup 100 (.map (some V.heap.size)) (.int .i64 ek) true).run Tryd.prog wm = .ok (.tuple #[.func (.func 94) #[.pointer (some ⟨X, 0, none⟩)] #[], .bool true]) wm from look_yes es n _ i ek _ wm hmap HF.out)) | fail))
  all_goals
    rename_i hH
    replace hH := hH.1
    have hX1 := hX.keep hH
    have bE1 := bE.keep hH
    have g1 := grow_row g0 (grown_below hH none) (fun k hk => by cases hk)
    have B1 := below_step B0 hH
    clear hH hlk hbm hmap bE B0 g0 hX
    have fe0 := bE1.c 0 rfl
    have fe1 := bE1.c 1 rfl
    have fe2 := bE1.c 2 rfl
    have fe3 := bE1.c 3 rfl
    have fe4 := bE1.c 4 rfl
    have fe5 := bE1.c 5 rfl
    have fe6 := bE1.c 6 rfl
    have fe7 := bE1.c 7 rfl
    have fe8 := bE1.c 8 rfl
    have fe9 := bE1.c 9 rfl
    have fe10 := bE1.c 10 rfl
    have fe11 := bE1.c 11 rfl
    have fe12 := bE1.c 12 rfl
    go_wp2_with fail
    clear fe0 fe1 fe2 fe3 fe4 fe5 fe6 fe7 fe8 fe9 fe10 fe11 fe12
    refine (HMM.out _ B1 hX1).mono ?_
    rintro e w2 ⟨rfl, v9, hX9, o9, g9⟩
    have G9 := grown_trans g1 g9
    have O9 := o9.mono (base' := w.heap.size) g1.size
    clear o9 g9 g1 bE1 hX1 B1
    go_wp2
    first | go_end0 | go_ret
    exact ⟨rfl, v9, hX9, O9, G9⟩
set_option maxHeartbeats 4000000 in
theorem handle_code_stop (X : Nat) (xa xi xh xp s0 s1 s2 s3 s4 : Int) (ga ca pa ma : Option Addr) (gx cx px mx : Nat) (gs cs : List (Int × Int)) (ps ms : List Int) (ek ee kn sa ho ix pr bw er : Int) (r0 r1 r2 r3 r4 : Int) (ml : List Bm) (c : Int) (es : Array MapEntry) (n i : Nat) (w : World) (hX : Bl w X [.int .i64 xa, .int .i64 xi, .int .i64 xh, .int .i64 xp, .int .i64 s0, .int .i64 s1, .int .i64 s2, .int .i64 s3, .int .i64 s4, .slice none 0 0]) (HR : ∀ w, Bl w X [.int .i64 xa, .int .i64 xi, .int .i64 xh, .int .i64 xp, .int .i64 s0, .int .i64 s1, .int .i64 s2, .int .i64 s3, .int .i64 s4, .slice none 0 0] → Calls Tryd.prog 62 #[.pointer (some ⟨X, 0, none⟩)] w fun e w' => e = .returned (.map (some w.heap.size)) ∧ w'.heap[w.heap.size]? = some (.map es n) ∧ Below w.heap.size w w')
    (hf : Instr.findNow (.int .i64) (.int .i64 ek) es.toList 0 = some (some (i, .func (.func 86) #[.pointer (some ⟨X, 0, none⟩)] #[]))) (hX1n : 1 ≠ X) (hg1 : w.cell? ⟨1, 0, none⟩ = some (.iface 172 (.agg #[.pointer (some ⟨6, 103, none⟩)])))
    (HM : ∀ w', Below w.heap.size w w' → Bl w' X [.int .i64 xa, .int .i64 xi, .int .i64 xh, .int .i64 xp, .int .i64 s0, .int .i64 s1, .int .i64 s2, .int .i64 s3, .int .i64 s4, .slice none 0 0] → Calls Tryd.prog 86 #[.pointer (some ⟨X, 0, none⟩), .agg #[.int .i64 ek, .int .i64 kn, .int .i64 sa, .int .i64 ho, .int .i64 ix, .slice ga gs.length gx, .slice ca cs.length cx, .slice pa ps.length px, .int .i64 pr, .slice ma ms.length mx, .int .i64 bw, .int .i64 er, .int .i64 ee]] w' fun e w'' => e = .returned (.iface 138 (.int .i64 c)) ∧ Bl w'' X [.int .i64 xa, .int .i64 xi, .int .i64 xh, .int .i64 xp, .int .i64 r0, .int .i64 r1, .int .i64 r2, .int .i64 r3, .int .i64 r4, .slice none 0 0] ∧ w'.grownBy w'' (some X))
    (HEN : ∀ w', Bl w' X [.int .i64 xa, .int .i64 xi, .int .i64 xh, .int .i64 xp, .int .i64 r0, .int .i64 r1, .int .i64 r2, .int .i64 r3, .int .i64 r4, .slice none 0 0] → w'.cell? ⟨1, 0, none⟩ = some (.iface 172 (.agg #[.pointer (some ⟨6, 103, none⟩)])) → Calls Tryd.prog 63 #[.pointer (some ⟨X, 0, none⟩), .iface 138 (.int .i64 c)] w' fun e w'' => e = .returned (.tuple #[]) ∧ ∃ v, Bl w'' X [.int .i64 xa, .int .i64 xi, .int .i64 xh, .int .i64 xp, .int .i64 0, .int .i64 0, .int .i64 0, .int .i64 0, .int .i64 0, v] ∧ OwnG w'' w'.heap.size v ml ∧ w'.grownBy w'' (some X)) :
    Calls Tryd.prog 29 #[.pointer (some ⟨X, 0, none⟩), .agg #[.int .i64 ek, .int .i64 kn, .int .i64 sa, .int .i64 ho, .int .i64 ix, .slice ga gs.length gx, .slice ca cs.length cx, .slice pa ps.length px, .int .i64 pr, .slice ma ms.length mx, .int .i64 bw, .int .i64 er, .int .i64 ee]] w fun e w' => e = .returned (.tuple #[]) ∧ ∃ v, Bl w' X [.int .i64 xa, .int .i64 xi, .int .i64 xh, .int .i64 xp, .int .i64 0, .int .i64 0, .int .i64 0, .int .i64 0, .int .i64 0, v] ∧ OwnG w' w.heap.size v ml ∧ w.grownBy w' (some X) := by
  have HENN := Lib.hid HEN
  have HGL := Lib.hid (And.intro hg1 (World.block_lt_of_cell? w _ hg1))
  have HXN := Lib.hid hX1n
  clear HEN hg1 hX1n
  obtain ⟨bE, B0, z⟩ := one w [.int .i64 ek, .int .i64 kn, .int .i64 sa, .int .i64 ho, .int .i64 ix, .slice ga gs.length gx, .slice ca cs.length cx, .slice pa ps.length px, .int .i64 pr, .slice ma ms.length mx, .int .i64 bw, .int .i64 er, .int .i64 ee] 48
  have hne : X ≠ w.heap.size := Nat.ne_of_lt hX.lt
  have hne' : w.heap.size ≠ X := Nat.ne_of_gt hX.lt
  replace hX := hX.keep B0
  have g0 := grown_below B0 (some X)
  clear z
  have HMM := Lib.hid HM
  clear HM
  have fe0 := bE.c 0 rfl
  have fe1 := bE.c 1 rfl
  have fe2 := bE.c 2 rfl
  have fe3 := bE.c 3 rfl
  have fe4 := bE.c 4 rfl
  have fe5 := bE.c 5 rfl
  have fe6 := bE.c 6 rfl
  have fe7 := bE.c 7 rfl
  have fe8 := bE.c 8 rfl
  have fe9 := bE.c 9 rfl
  have fe10 := bE.c 10 rfl
  have fe11 := bE.c 11 rfl
  have fe12 := bE.c 12 rfl
  go_enter Tryd.func29, Tryd.ntmps29
  go_wp2_with fail
  clear fe0 fe1 fe2 fe3 fe4 fe5 fe6 fe7 fe8 fe9 fe10 fe11 fe12
  obtain ⟨V, eV⟩ : ∃ V, V = w.alloc (.cells #[.int .i64 ek, .int .i64 kn, .int .i64 sa, .int .i64 ho, .int .i64 ix, .slice ga gs.length gx, .slice ca cs.length cx, .slice pa ps.length px, .int .i64 pr, .slice ma ms.length mx, .int .i64 bw, .int .i64 er, .int .i64 ee] 48) := ⟨_, rfl⟩
  obtain ⟨E, eE⟩ : ∃ E, E = w.heap.size := ⟨_, rfl⟩
  rw [← eE] at bE ⊢
  have HE := Lib.hid eE
  rw [← eV] at bE hX g0 B0 ⊢
  clear eV eE hne hne'
  have HRR := Lib.hid HR
  have HF := Lib.hid hf
  clear HR hf
  go_region_held3 (fun w' => Over V w' ∧ w'.cell? ⟨E, 0, none⟩ = some (.int .i64 ek))
    ((first | exact ⟨over_drew _, over_cell (over_drew _) bE.lt (bE.c 0 rfl)⟩ | exact ⟨over_step (‹Over V _ ∧ _›).1 (by assumption), over_cell (over_step (‹Over V _ ∧ _›).1 (by assumption)) bE.lt (bE.c 0 rfl)⟩ | assumption | fail))
    ((first | (go_at_call 62; refine (HRR.out _ (hX.keep (‹Over V _ ∧ _›).1)).mono ?_; rintro e wm ⟨rfl, hmap, hbm⟩; have hlk := (show (Instr.lookup 100 (.map (some V.heap.size)) (.int .i64 ek) true).run Tryd.prog wm = .ok (.tuple #[.func (.func 86) #[.pointer (some ⟨X, 0, none⟩)] #[], .bool true]) wm from look_yes es n _ i ek _ wm hmap HF.out)) | fail))
  all_goals
    rename_i hH
    replace hH := hH.1
    have hX1 := hX.keep hH
    have bE1 := bE.keep hH
    have g1 := grow_row g0 (grown_below hH none) (fun k hk => by cases hk)
    have B1 := below_step B0 hH
    clear hH hlk hbm hmap bE B0 g0 hX
    have fe0 := bE1.c 0 rfl
    have fe1 := bE1.c 1 rfl
    have fe2 := bE1.c 2 rfl
    have fe3 := bE1.c 3 rfl
    have fe4 := bE1.c 4 rfl
    have fe5 := bE1.c 5 rfl
    have fe6 := bE1.c 6 rfl
    have fe7 := bE1.c 7 rfl
    have fe8 := bE1.c 8 rfl
    have fe9 := bE1.c 9 rfl
    have fe10 := bE1.c 10 rfl
    have fe11 := bE1.c 11 rfl
    have fe12 := bE1.c 12 rfl
    go_wp2_with fail
    clear fe0 fe1 fe2 fe3 fe4 fe5 fe6 fe7 fe8 fe9 fe10 fe11 fe12
    refine (HMM.out _ B1 hX1).mono ?_
    rintro e w2 ⟨rfl, hX2, g2⟩
    have G2 := grown_trans g1 g2
    have hG := (G2.cell_far ⟨1, 0, none⟩ HGL.out.2 (by simpa using HXN.out)).trans HGL.out.1
    clear g2 g1 bE1 hX1 B1
    go_wp2_with fail
    refine (HENN.out _ hX2 hG).mono ?_
    rintro e w3 ⟨rfl, v9, hX9, o9, g9⟩
    have G9 := grown_trans G2 g9
    have O9 := o9.mono (base' := w.heap.size) G2.size
    clear o9 g9 G2 hX2 hG
    go_wp2
    first | go_end0 | go_ret
    exact ⟨rfl, v9, hX9, O9, G9⟩
set_option maxHeartbeats 4000000 in
theorem handle_code_fail (X : Nat) (xa xi xh xp s0 s1 s2 s3 s4 : Int) (ga ca pa ma : Option Addr) (gx cx px mx : Nat) (gs cs : List (Int × Int)) (ps ms : List Int) (ek ee kn sa ho ix pr bw er : Int) (r0 r1 r2 r3 r4 : Int) (ml : List Bm) (c : Int) (es : Array MapEntry) (n i : Nat) (w : World) (hX : Bl w X [.int .i64 xa, .int .i64 xi, .int .i64 xh, .int .i64 xp, .int .i64 s0, .int .i64 s1, .int .i64 s2, .int .i64 s3, .int .i64 s4, .slice none 0 0]) (HR : ∀ w, Bl w X [.int .i64 xa, .int .i64 xi, .int .i64 xh, .int .i64 xp, .int .i64 s0, .int .i64 s1, .int .i64 s2, .int .i64 s3, .int .i64 s4, .slice none 0 0] → Calls Tryd.prog 62 #[.pointer (some ⟨X, 0, none⟩)] w fun e w' => e = .returned (.map (some w.heap.size)) ∧ w'.heap[w.heap.size]? = some (.map es n) ∧ Below w.heap.size w w')
    (hf : Instr.findNow (.int .i64) (.int .i64 ek) es.toList 0 = some (some (i, .func (.func 88) #[.pointer (some ⟨X, 0, none⟩)] #[]))) (hX1n : 1 ≠ X) (hg1 : w.cell? ⟨1, 0, none⟩ = some (.iface 172 (.agg #[.pointer (some ⟨6, 103, none⟩)])))
    (HM : ∀ w', Below w.heap.size w w' → Bl w' X [.int .i64 xa, .int .i64 xi, .int .i64 xh, .int .i64 xp, .int .i64 s0, .int .i64 s1, .int .i64 s2, .int .i64 s3, .int .i64 s4, .slice none 0 0] → Calls Tryd.prog 88 #[.pointer (some ⟨X, 0, none⟩), .agg #[.int .i64 ek, .int .i64 kn, .int .i64 sa, .int .i64 ho, .int .i64 ix, .slice ga gs.length gx, .slice ca cs.length cx, .slice pa ps.length px, .int .i64 pr, .slice ma ms.length mx, .int .i64 bw, .int .i64 er, .int .i64 ee]] w' fun e w'' => e = .returned (.iface 138 (.int .i64 c)) ∧ Bl w'' X [.int .i64 xa, .int .i64 xi, .int .i64 xh, .int .i64 xp, .int .i64 r0, .int .i64 r1, .int .i64 r2, .int .i64 r3, .int .i64 r4, .slice none 0 0] ∧ w'.grownBy w'' (some X))
    (HEN : ∀ w', Bl w' X [.int .i64 xa, .int .i64 xi, .int .i64 xh, .int .i64 xp, .int .i64 r0, .int .i64 r1, .int .i64 r2, .int .i64 r3, .int .i64 r4, .slice none 0 0] → w'.cell? ⟨1, 0, none⟩ = some (.iface 172 (.agg #[.pointer (some ⟨6, 103, none⟩)])) → Calls Tryd.prog 63 #[.pointer (some ⟨X, 0, none⟩), .iface 138 (.int .i64 c)] w' fun e w'' => e = .returned (.tuple #[]) ∧ ∃ v, Bl w'' X [.int .i64 xa, .int .i64 xi, .int .i64 xh, .int .i64 xp, .int .i64 0, .int .i64 0, .int .i64 0, .int .i64 0, .int .i64 0, v] ∧ OwnG w'' w'.heap.size v ml ∧ w'.grownBy w'' (some X)) :
    Calls Tryd.prog 29 #[.pointer (some ⟨X, 0, none⟩), .agg #[.int .i64 ek, .int .i64 kn, .int .i64 sa, .int .i64 ho, .int .i64 ix, .slice ga gs.length gx, .slice ca cs.length cx, .slice pa ps.length px, .int .i64 pr, .slice ma ms.length mx, .int .i64 bw, .int .i64 er, .int .i64 ee]] w fun e w' => e = .returned (.tuple #[]) ∧ ∃ v, Bl w' X [.int .i64 xa, .int .i64 xi, .int .i64 xh, .int .i64 xp, .int .i64 0, .int .i64 0, .int .i64 0, .int .i64 0, .int .i64 0, v] ∧ OwnG w' w.heap.size v ml ∧ w.grownBy w' (some X) := by
  have HENN := Lib.hid HEN
  have HGL := Lib.hid (And.intro hg1 (World.block_lt_of_cell? w _ hg1))
  have HXN := Lib.hid hX1n
  clear HEN hg1 hX1n
  obtain ⟨bE, B0, z⟩ := one w [.int .i64 ek, .int .i64 kn, .int .i64 sa, .int .i64 ho, .int .i64 ix, .slice ga gs.length gx, .slice ca cs.length cx, .slice pa ps.length px, .int .i64 pr, .slice ma ms.length mx, .int .i64 bw, .int .i64 er, .int .i64 ee] 48
  have hne : X ≠ w.heap.size := Nat.ne_of_lt hX.lt
  have hne' : w.heap.size ≠ X := Nat.ne_of_gt hX.lt
  replace hX := hX.keep B0
  have g0 := grown_below B0 (some X)
  clear z
  have HMM := Lib.hid HM
  clear HM
  have fe0 := bE.c 0 rfl
  have fe1 := bE.c 1 rfl
  have fe2 := bE.c 2 rfl
  have fe3 := bE.c 3 rfl
  have fe4 := bE.c 4 rfl
  have fe5 := bE.c 5 rfl
  have fe6 := bE.c 6 rfl
  have fe7 := bE.c 7 rfl
  have fe8 := bE.c 8 rfl
  have fe9 := bE.c 9 rfl
  have fe10 := bE.c 10 rfl
  have fe11 := bE.c 11 rfl
  have fe12 := bE.c 12 rfl
  go_enter Tryd.func29, Tryd.ntmps29
  go_wp2_with fail
  clear fe0 fe1 fe2 fe3 fe4 fe5 fe6 fe7 fe8 fe9 fe10 fe11 fe12
  obtain ⟨V, eV⟩ : ∃ V, V = w.alloc (.cells #[.int .i64 ek, .int .i64 kn, .int .i64 sa, .int .i64 ho, .int .i64 ix, .slice ga gs.length gx, .slice ca cs.length cx, .slice pa ps.length px, .int .i64 pr, .slice ma ms.length mx, .int .i64 bw, .int .i64 er, .int .i64 ee] 48) := ⟨_, rfl⟩
  obtain ⟨E, eE⟩ : ∃ E, E = w.heap.size := ⟨_, rfl⟩
  rw [← eE] at bE ⊢
  have HE := Lib.hid eE
  rw [← eV] at bE hX g0 B0 ⊢
  clear eV eE hne hne'
  have HRR := Lib.hid HR
  have HF := Lib.hid hf
  clear HR hf
  go_region_held3 (fun w' => Over V w' ∧ w'.cell? ⟨E, 0, none⟩ = some (.int .i64 ek))
    ((first | exact ⟨over_drew _, over_cell (over_drew _) bE.lt (bE.c 0 rfl)⟩ | exact ⟨over_step (‹Over V _ ∧ _›).1 (by assumption), over_cell (over_step (‹Over V _ ∧ _›).1 (by assumption)) bE.lt (bE.c 0 rfl)⟩ | assumption | fail))
    ((first | (go_at_call 62; refine (HRR.out _ (hX.keep (‹Over V _ ∧ _›).1)).mono ?_; rintro e wm ⟨rfl, hmap, hbm⟩; have hlk := (show (Instr.lookup 100 (.map (some V.heap.size)) (.int .i64 ek) true).run Tryd.prog wm = .ok (.tuple #[.func (.func 88) #[.pointer (some ⟨X, 0, none⟩)] #[], .bool true]) wm from look_yes es n _ i ek _ wm hmap HF.out)) | fail))
  all_goals
    rename_i hH
    replace hH := hH.1
    have hX1 := hX.keep hH
    have bE1 := bE.keep hH
    have g1 := grow_row g0 (grown_below hH none) (fun k hk => by cases hk)
    have B1 := below_step B0 hH
    clear hH hlk hbm hmap bE B0 g0 hX
    have fe0 := bE1.c 0 rfl
    have fe1 := bE1.c 1 rfl
    have fe2 := bE1.c 2 rfl
    have fe3 := bE1.c 3 rfl
    have fe4 := bE1.c 4 rfl
    have fe5 := bE1.c 5 rfl
    have fe6 := bE1.c 6 rfl
    have fe7 := bE1.c 7 rfl
    have fe8 := bE1.c 8 rfl
    have fe9 := bE1.c 9 rfl
    have fe10 := bE1.c 10 rfl
    have fe11 := bE1.c 11 rfl
    have fe12 := bE1.c 12 rfl
    go_wp2_with fail
    clear fe0 fe1 fe2 fe3 fe4 fe5 fe6 fe7 fe8 fe9 fe10 fe11 fe12
    refine (HMM.out _ B1 hX1).mono ?_
    rintro e w2 ⟨rfl, hX2, g2⟩
    have G2 := grown_trans g1 g2
    have hG := (G2.cell_far ⟨1, 0, none⟩ HGL.out.2 (by simpa using HXN.out)).trans HGL.out.1
    clear g2 g1 bE1 hX1 B1
    go_wp2_with fail
    refine (HENN.out _ hX2 hG).mono ?_
    rintro e w3 ⟨rfl, v9, hX9, o9, g9⟩
    have G9 := grown_trans G2 g9
    have O9 := o9.mono (base' := w.heap.size) G2.size
    clear o9 g9 G2 hX2 hG
    go_wp2
    first | go_end0 | go_ret
    exact ⟨rfl, v9, hX9, O9, G9⟩
set_option maxHeartbeats 4000000 in
theorem handle_code_hearOpen (X : Nat) (xa xi xh xp s0 s1 s2 s3 s4 : Int) (ga ca pa ma : Option Addr) (gx cx px mx : Nat) (gs cs : List (Int × Int)) (ps ms : List Int) (ek ee kn sa ho ix pr bw er : Int) (r0 r1 r2 r3 r4 : Int) (ml : List Bm) (c : Int) (es : Array MapEntry) (n i : Nat) (w : World) (hX : Bl w X [.int .i64 xa, .int .i64 xi, .int .i64 xh, .int .i64 xp, .int .i64 s0, .int .i64 s1, .int .i64 s2, .int .i64 s3, .int .i64 s4, .slice none 0 0]) (HR : ∀ w, Bl w X [.int .i64 xa, .int .i64 xi, .int .i64 xh, .int .i64 xp, .int .i64 s0, .int .i64 s1, .int .i64 s2, .int .i64 s3, .int .i64 s4, .slice none 0 0] → Calls Tryd.prog 62 #[.pointer (some ⟨X, 0, none⟩)] w fun e w' => e = .returned (.map (some w.heap.size)) ∧ w'.heap[w.heap.size]? = some (.map es n) ∧ Below w.heap.size w w')
    (hf : Instr.findNow (.int .i64) (.int .i64 ek) es.toList 0 = some (some (i, .func (.func 91) #[.pointer (some ⟨X, 0, none⟩)] #[]))) (hX1n : 1 ≠ X) (hg1 : w.cell? ⟨1, 0, none⟩ = some (.iface 172 (.agg #[.pointer (some ⟨6, 103, none⟩)])))
    (HM : ∀ w', Below w.heap.size w w' → Bl w' X [.int .i64 xa, .int .i64 xi, .int .i64 xh, .int .i64 xp, .int .i64 s0, .int .i64 s1, .int .i64 s2, .int .i64 s3, .int .i64 s4, .slice none 0 0] → Calls Tryd.prog 91 #[.pointer (some ⟨X, 0, none⟩), .agg #[.int .i64 ek, .int .i64 kn, .int .i64 sa, .int .i64 ho, .int .i64 ix, .slice ga gs.length gx, .slice ca cs.length cx, .slice pa ps.length px, .int .i64 pr, .slice ma ms.length mx, .int .i64 bw, .int .i64 er, .int .i64 ee]] w' fun e w'' => e = .returned (.iface 138 (.int .i64 c)) ∧ Bl w'' X [.int .i64 xa, .int .i64 xi, .int .i64 xh, .int .i64 xp, .int .i64 r0, .int .i64 r1, .int .i64 r2, .int .i64 r3, .int .i64 r4, .slice none 0 0] ∧ w'.grownBy w'' (some X))
    (HEN : ∀ w', Bl w' X [.int .i64 xa, .int .i64 xi, .int .i64 xh, .int .i64 xp, .int .i64 r0, .int .i64 r1, .int .i64 r2, .int .i64 r3, .int .i64 r4, .slice none 0 0] → w'.cell? ⟨1, 0, none⟩ = some (.iface 172 (.agg #[.pointer (some ⟨6, 103, none⟩)])) → Calls Tryd.prog 63 #[.pointer (some ⟨X, 0, none⟩), .iface 138 (.int .i64 c)] w' fun e w'' => e = .returned (.tuple #[]) ∧ ∃ v, Bl w'' X [.int .i64 xa, .int .i64 xi, .int .i64 xh, .int .i64 xp, .int .i64 0, .int .i64 0, .int .i64 0, .int .i64 0, .int .i64 0, v] ∧ OwnG w'' w'.heap.size v ml ∧ w'.grownBy w'' (some X)) :
    Calls Tryd.prog 29 #[.pointer (some ⟨X, 0, none⟩), .agg #[.int .i64 ek, .int .i64 kn, .int .i64 sa, .int .i64 ho, .int .i64 ix, .slice ga gs.length gx, .slice ca cs.length cx, .slice pa ps.length px, .int .i64 pr, .slice ma ms.length mx, .int .i64 bw, .int .i64 er, .int .i64 ee]] w fun e w' => e = .returned (.tuple #[]) ∧ ∃ v, Bl w' X [.int .i64 xa, .int .i64 xi, .int .i64 xh, .int .i64 xp, .int .i64 0, .int .i64 0, .int .i64 0, .int .i64 0, .int .i64 0, v] ∧ OwnG w' w.heap.size v ml ∧ w.grownBy w' (some X) := by
  have HENN := Lib.hid HEN
  have HGL := Lib.hid (And.intro hg1 (World.block_lt_of_cell? w _ hg1))
  have HXN := Lib.hid hX1n
  clear HEN hg1 hX1n
  obtain ⟨bE, B0, z⟩ := one w [.int .i64 ek, .int .i64 kn, .int .i64 sa, .int .i64 ho, .int .i64 ix, .slice ga gs.length gx, .slice ca cs.length cx, .slice pa ps.length px, .int .i64 pr, .slice ma ms.length mx, .int .i64 bw, .int .i64 er, .int .i64 ee] 48
  have hne : X ≠ w.heap.size := Nat.ne_of_lt hX.lt
  have hne' : w.heap.size ≠ X := Nat.ne_of_gt hX.lt
  replace hX := hX.keep B0
  have g0 := grown_below B0 (some X)
  clear z
  have HMM := Lib.hid HM
  clear HM
  have fe0 := bE.c 0 rfl
  have fe1 := bE.c 1 rfl
  have fe2 := bE.c 2 rfl
  have fe3 := bE.c 3 rfl
  have fe4 := bE.c 4 rfl
  have fe5 := bE.c 5 rfl
  have fe6 := bE.c 6 rfl
  have fe7 := bE.c 7 rfl
  have fe8 := bE.c 8 rfl
  have fe9 := bE.c 9 rfl
  have fe10 := bE.c 10 rfl
  have fe11 := bE.c 11 rfl
  have fe12 := bE.c 12 rfl
  go_enter Tryd.func29, Tryd.ntmps29
  go_wp2_with fail
  clear fe0 fe1 fe2 fe3 fe4 fe5 fe6 fe7 fe8 fe9 fe10 fe11 fe12
  obtain ⟨V, eV⟩ : ∃ V, V = w.alloc (.cells #[.int .i64 ek, .int .i64 kn, .int .i64 sa, .int .i64 ho, .int .i64 ix, .slice ga gs.length gx, .slice ca cs.length cx, .slice pa ps.length px, .int .i64 pr, .slice ma ms.length mx, .int .i64 bw, .int .i64 er, .int .i64 ee] 48) := ⟨_, rfl⟩
  obtain ⟨E, eE⟩ : ∃ E, E = w.heap.size := ⟨_, rfl⟩
  rw [← eE] at bE ⊢
  have HE := Lib.hid eE
  rw [← eV] at bE hX g0 B0 ⊢
  clear eV eE hne hne'
  have HRR := Lib.hid HR
  have HF := Lib.hid hf
  clear HR hf
  go_region_held3 (fun w' => Over V w' ∧ w'.cell? ⟨E, 0, none⟩ = some (.int .i64 ek))
    ((first | exact ⟨over_drew _, over_cell (over_drew _) bE.lt (bE.c 0 rfl)⟩ | exact ⟨over_step (‹Over V _ ∧ _›).1 (by assumption), over_cell (over_step (‹Over V _ ∧ _›).1 (by assumption)) bE.lt (bE.c 0 rfl)⟩ | assumption | fail))
    ((first | (go_at_call 62; refine (HRR.out _ (hX.keep (‹Over V _ ∧ _›).1)).mono ?_; rintro e wm ⟨rfl, hmap, hbm⟩; have hlk := (show (Instr.lookup 100 (.map (some V.heap.size)) (.int .i64 ek) true).run Tryd.prog wm = .ok (.tuple #[.func (.func 91) #[.pointer (some ⟨X, 0, none⟩)] #[], .bool true]) wm from look_yes es n _ i ek _ wm hmap HF.out)) | fail))
  all_goals
    rename_i hH
    replace hH := hH.1
    have hX1 := hX.keep hH
    have bE1 := bE.keep hH
    have g1 := grow_row g0 (grown_below hH none) (fun k hk => by cases hk)
    have B1 := below_step B0 hH
    clear hH hlk hbm hmap bE B0 g0 hX
    have fe0 := bE1.c 0 rfl
    have fe1 := bE1.c 1 rfl
    have fe2 := bE1.c 2 rfl
    have fe3 := bE1.c 3 rfl
    have fe4 := bE1.c 4 rfl
    have fe5 := bE1.c 5 rfl
    have fe6 := bE1.c 6 rfl
    have fe7 := bE1.c 7 rfl
    have fe8 := bE1.c 8 rfl
    have fe9 := bE1.c 9 rfl
    have fe10 := bE1.c 10 rfl
    have fe11 := bE1.c 11 rfl
    have fe12 := bE1.c 12 rfl
    go_wp2_with fail
    clear fe0 fe1 fe2 fe3 fe4 fe5 fe6 fe7 fe8 fe9 fe10 fe11 fe12
    refine (HMM.out _ B1 hX1).mono ?_
    rintro e w2 ⟨rfl, hX2, g2⟩
    have G2 := grown_trans g1 g2
    have hG := (G2.cell_far ⟨1, 0, none⟩ HGL.out.2 (by simpa using HXN.out)).trans HGL.out.1
    clear g2 g1 bE1 hX1 B1
    go_wp2_with fail
    refine (HENN.out _ hX2 hG).mono ?_
    rintro e w3 ⟨rfl, v9, hX9, o9, g9⟩
    have G9 := grown_trans G2 g9
    have O9 := o9.mono (base' := w.heap.size) G2.size
    clear o9 g9 G2 hX2 hG
    go_wp2
    first | go_end0 | go_ret
    exact ⟨rfl, v9, hX9, O9, G9⟩
set_option maxHeartbeats 4000000 in
theorem handle_code_hearKeep (X : Nat) (xa xi xh xp s0 s1 s2 s3 s4 : Int) (ga ca pa ma : Option Addr) (gx cx px mx : Nat) (gs cs : List (Int × Int)) (ps ms : List Int) (ek ee kn sa ho ix pr bw er : Int) (r0 r1 r2 r3 r4 : Int) (ml : List Bm) (c : Int) (es : Array MapEntry) (n i : Nat) (w : World) (hX : Bl w X [.int .i64 xa, .int .i64 xi, .int .i64 xh, .int .i64 xp, .int .i64 s0, .int .i64 s1, .int .i64 s2, .int .i64 s3, .int .i64 s4, .slice none 0 0]) (HR : ∀ w, Bl w X [.int .i64 xa, .int .i64 xi, .int .i64 xh, .int .i64 xp, .int .i64 s0, .int .i64 s1, .int .i64 s2, .int .i64 s3, .int .i64 s4, .slice none 0 0] → Calls Tryd.prog 62 #[.pointer (some ⟨X, 0, none⟩)] w fun e w' => e = .returned (.map (some w.heap.size)) ∧ w'.heap[w.heap.size]? = some (.map es n) ∧ Below w.heap.size w w')
    (hf : Instr.findNow (.int .i64) (.int .i64 ek) es.toList 0 = some (some (i, .func (.func 93) #[.pointer (some ⟨X, 0, none⟩)] #[]))) (hX1n : 1 ≠ X) (hg1 : w.cell? ⟨1, 0, none⟩ = some (.iface 172 (.agg #[.pointer (some ⟨6, 103, none⟩)])))
    (HM : ∀ w', Below w.heap.size w w' → Bl w' X [.int .i64 xa, .int .i64 xi, .int .i64 xh, .int .i64 xp, .int .i64 s0, .int .i64 s1, .int .i64 s2, .int .i64 s3, .int .i64 s4, .slice none 0 0] → Calls Tryd.prog 93 #[.pointer (some ⟨X, 0, none⟩), .agg #[.int .i64 ek, .int .i64 kn, .int .i64 sa, .int .i64 ho, .int .i64 ix, .slice ga gs.length gx, .slice ca cs.length cx, .slice pa ps.length px, .int .i64 pr, .slice ma ms.length mx, .int .i64 bw, .int .i64 er, .int .i64 ee]] w' fun e w'' => e = .returned (.iface 138 (.int .i64 c)) ∧ Bl w'' X [.int .i64 xa, .int .i64 xi, .int .i64 xh, .int .i64 xp, .int .i64 r0, .int .i64 r1, .int .i64 r2, .int .i64 r3, .int .i64 r4, .slice none 0 0] ∧ w'.grownBy w'' (some X))
    (HEN : ∀ w', Bl w' X [.int .i64 xa, .int .i64 xi, .int .i64 xh, .int .i64 xp, .int .i64 r0, .int .i64 r1, .int .i64 r2, .int .i64 r3, .int .i64 r4, .slice none 0 0] → w'.cell? ⟨1, 0, none⟩ = some (.iface 172 (.agg #[.pointer (some ⟨6, 103, none⟩)])) → Calls Tryd.prog 63 #[.pointer (some ⟨X, 0, none⟩), .iface 138 (.int .i64 c)] w' fun e w'' => e = .returned (.tuple #[]) ∧ ∃ v, Bl w'' X [.int .i64 xa, .int .i64 xi, .int .i64 xh, .int .i64 xp, .int .i64 0, .int .i64 0, .int .i64 0, .int .i64 0, .int .i64 0, v] ∧ OwnG w'' w'.heap.size v ml ∧ w'.grownBy w'' (some X)) :
    Calls Tryd.prog 29 #[.pointer (some ⟨X, 0, none⟩), .agg #[.int .i64 ek, .int .i64 kn, .int .i64 sa, .int .i64 ho, .int .i64 ix, .slice ga gs.length gx, .slice ca cs.length cx, .slice pa ps.length px, .int .i64 pr, .slice ma ms.length mx, .int .i64 bw, .int .i64 er, .int .i64 ee]] w fun e w' => e = .returned (.tuple #[]) ∧ ∃ v, Bl w' X [.int .i64 xa, .int .i64 xi, .int .i64 xh, .int .i64 xp, .int .i64 0, .int .i64 0, .int .i64 0, .int .i64 0, .int .i64 0, v] ∧ OwnG w' w.heap.size v ml ∧ w.grownBy w' (some X) := by
  have HENN := Lib.hid HEN
  have HGL := Lib.hid (And.intro hg1 (World.block_lt_of_cell? w _ hg1))
  have HXN := Lib.hid hX1n
  clear HEN hg1 hX1n
  obtain ⟨bE, B0, z⟩ := one w [.int .i64 ek, .int .i64 kn, .int .i64 sa, .int .i64 ho, .int .i64 ix, .slice ga gs.length gx, .slice ca cs.length cx, .slice pa ps.length px, .int .i64 pr, .slice ma ms.length mx, .int .i64 bw, .int .i64 er, .int .i64 ee] 48
  have hne : X ≠ w.heap.size := Nat.ne_of_lt hX.lt
  have hne' : w.heap.size ≠ X := Nat.ne_of_gt hX.lt
  replace hX := hX.keep B0
  have g0 := grown_below B0 (some X)
  clear z
  have HMM := Lib.hid HM
  clear HM
  have fe0 := bE.c 0 rfl
  have fe1 := bE.c 1 rfl
  have fe2 := bE.c 2 rfl
  have fe3 := bE.c 3 rfl
  have fe4 := bE.c 4 rfl
  have fe5 := bE.c 5 rfl
  have fe6 := bE.c 6 rfl
  have fe7 := bE.c 7 rfl
  have fe8 := bE.c 8 rfl
  have fe9 := bE.c 9 rfl
  have fe10 := bE.c 10 rfl
  have fe11 := bE.c 11 rfl
  have fe12 := bE.c 12 rfl
  go_enter Tryd.func29, Tryd.ntmps29
  go_wp2_with fail
  clear fe0 fe1 fe2 fe3 fe4 fe5 fe6 fe7 fe8 fe9 fe10 fe11 fe12
  obtain ⟨V, eV⟩ : ∃ V, V = w.alloc (.cells #[.int .i64 ek, .int .i64 kn, .int .i64 sa, .int .i64 ho, .int .i64 ix, .slice ga gs.length gx, .slice ca cs.length cx, .slice pa ps.length px, .int .i64 pr, .slice ma ms.length mx, .int .i64 bw, .int .i64 er, .int .i64 ee] 48) := ⟨_, rfl⟩
  obtain ⟨E, eE⟩ : ∃ E, E = w.heap.size := ⟨_, rfl⟩
  rw [← eE] at bE ⊢
  have HE := Lib.hid eE
  rw [← eV] at bE hX g0 B0 ⊢
  clear eV eE hne hne'
  have HRR := Lib.hid HR
  have HF := Lib.hid hf
  clear HR hf
  go_region_held3 (fun w' => Over V w' ∧ w'.cell? ⟨E, 0, none⟩ = some (.int .i64 ek))
    ((first | exact ⟨over_drew _, over_cell (over_drew _) bE.lt (bE.c 0 rfl)⟩ | exact ⟨over_step (‹Over V _ ∧ _›).1 (by assumption), over_cell (over_step (‹Over V _ ∧ _›).1 (by assumption)) bE.lt (bE.c 0 rfl)⟩ | assumption | fail))
    ((first | (go_at_call 62; refine (HRR.out _ (hX.keep (‹Over V _ ∧ _›).1)).mono ?_; rintro e wm ⟨rfl, hmap, hbm⟩; have hlk := (show (Instr.lookup 100 (.map (some V.heap.size)) (.int .i64 ek) true).run Tryd.prog wm = .ok (.tuple #[.func (.func 93) #[.pointer (some ⟨X, 0, none⟩)] #[], .bool true]) wm from look_yes es n _ i ek _ wm hmap HF.out)) | fail))
  all_goals
    rename_i hH
    replace hH := hH.1
    have hX1 := hX.keep hH
    have bE1 := bE.keep hH
    have g1 := grow_row g0 (grown_below hH none) (fun k hk => by cases hk)
    have B1 := below_step B0 hH
    clear hH hlk hbm hmap bE B0 g0 hX
    have fe0 := bE1.c 0 rfl
    have fe1 := bE1.c 1 rfl
    have fe2 := bE1.c 2 rfl
    have fe3 := bE1.c 3 rfl
    have fe4 := bE1.c 4 rfl
    have fe5 := bE1.c 5 rfl
    have fe6 := bE1.c 6 rfl
    have fe7 := bE1.c 7 rfl
    have fe8 := bE1.c 8 rfl
    have fe9 := bE1.c 9 rfl
    have fe10 := bE1.c 10 rfl
    have fe11 := bE1.c 11 rfl
    have fe12 := bE1.c 12 rfl
    go_wp2_with fail
    clear fe0 fe1 fe2 fe3 fe4 fe5 fe6 fe7 fe8 fe9 fe10 fe11 fe12
    refine (HMM.out _ B1 hX1).mono ?_
    rintro e w2 ⟨rfl, hX2, g2⟩
    have G2 := grown_trans g1 g2
    have hG := (G2.cell_far ⟨1, 0, none⟩ HGL.out.2 (by simpa using HXN.out)).trans HGL.out.1
    clear g2 g1 bE1 hX1 B1
    go_wp2_with fail
    refine (HENN.out _ hX2 hG).mono ?_
    rintro e w3 ⟨rfl, v9, hX9, o9, g9⟩
    have G9 := grown_trans G2 g9
    have O9 := o9.mono (base' := w.heap.size) G2.size
    clear o9 g9 G2 hX2 hG
    go_wp2
    first | go_end0 | go_ret
    exact ⟨rfl, v9, hX9, O9, G9⟩
set_option maxHeartbeats 4000000 in
theorem handle_code_hearMore (X : Nat) (xa xi xh xp s0 s1 s2 s3 s4 : Int) (ga ca pa ma : Option Addr) (gx cx px mx : Nat) (gs cs : List (Int × Int)) (ps ms : List Int) (ek ee kn sa ho ix pr bw er : Int) (r0 r1 r2 r3 r4 : Int) (ml : List Bm) (c : Int) (es : Array MapEntry) (n i : Nat) (w : World) (hX : Bl w X [.int .i64 xa, .int .i64 xi, .int .i64 xh, .int .i64 xp, .int .i64 s0, .int .i64 s1, .int .i64 s2, .int .i64 s3, .int .i64 s4, .slice none 0 0]) (HR : ∀ w, Bl w X [.int .i64 xa, .int .i64 xi, .int .i64 xh, .int .i64 xp, .int .i64 s0, .int .i64 s1, .int .i64 s2, .int .i64 s3, .int .i64 s4, .slice none 0 0] → Calls Tryd.prog 62 #[.pointer (some ⟨X, 0, none⟩)] w fun e w' => e = .returned (.map (some w.heap.size)) ∧ w'.heap[w.heap.size]? = some (.map es n) ∧ Below w.heap.size w w')
    (hf : Instr.findNow (.int .i64) (.int .i64 ek) es.toList 0 = some (some (i, .func (.func 95) #[.pointer (some ⟨X, 0, none⟩)] #[]))) (hX1n : 1 ≠ X) (hg1 : w.cell? ⟨1, 0, none⟩ = some (.iface 172 (.agg #[.pointer (some ⟨6, 103, none⟩)])))
    (HM : ∀ w', Below w.heap.size w w' → Bl w' X [.int .i64 xa, .int .i64 xi, .int .i64 xh, .int .i64 xp, .int .i64 s0, .int .i64 s1, .int .i64 s2, .int .i64 s3, .int .i64 s4, .slice none 0 0] → Calls Tryd.prog 95 #[.pointer (some ⟨X, 0, none⟩), .agg #[.int .i64 ek, .int .i64 kn, .int .i64 sa, .int .i64 ho, .int .i64 ix, .slice ga gs.length gx, .slice ca cs.length cx, .slice pa ps.length px, .int .i64 pr, .slice ma ms.length mx, .int .i64 bw, .int .i64 er, .int .i64 ee]] w' fun e w'' => e = .returned (.iface 138 (.int .i64 c)) ∧ Bl w'' X [.int .i64 xa, .int .i64 xi, .int .i64 xh, .int .i64 xp, .int .i64 r0, .int .i64 r1, .int .i64 r2, .int .i64 r3, .int .i64 r4, .slice none 0 0] ∧ w'.grownBy w'' (some X))
    (HEN : ∀ w', Bl w' X [.int .i64 xa, .int .i64 xi, .int .i64 xh, .int .i64 xp, .int .i64 r0, .int .i64 r1, .int .i64 r2, .int .i64 r3, .int .i64 r4, .slice none 0 0] → w'.cell? ⟨1, 0, none⟩ = some (.iface 172 (.agg #[.pointer (some ⟨6, 103, none⟩)])) → Calls Tryd.prog 63 #[.pointer (some ⟨X, 0, none⟩), .iface 138 (.int .i64 c)] w' fun e w'' => e = .returned (.tuple #[]) ∧ ∃ v, Bl w'' X [.int .i64 xa, .int .i64 xi, .int .i64 xh, .int .i64 xp, .int .i64 0, .int .i64 0, .int .i64 0, .int .i64 0, .int .i64 0, v] ∧ OwnG w'' w'.heap.size v ml ∧ w'.grownBy w'' (some X)) :
    Calls Tryd.prog 29 #[.pointer (some ⟨X, 0, none⟩), .agg #[.int .i64 ek, .int .i64 kn, .int .i64 sa, .int .i64 ho, .int .i64 ix, .slice ga gs.length gx, .slice ca cs.length cx, .slice pa ps.length px, .int .i64 pr, .slice ma ms.length mx, .int .i64 bw, .int .i64 er, .int .i64 ee]] w fun e w' => e = .returned (.tuple #[]) ∧ ∃ v, Bl w' X [.int .i64 xa, .int .i64 xi, .int .i64 xh, .int .i64 xp, .int .i64 0, .int .i64 0, .int .i64 0, .int .i64 0, .int .i64 0, v] ∧ OwnG w' w.heap.size v ml ∧ w.grownBy w' (some X) := by
  have HENN := Lib.hid HEN
  have HGL := Lib.hid (And.intro hg1 (World.block_lt_of_cell? w _ hg1))
  have HXN := Lib.hid hX1n
  clear HEN hg1 hX1n
  obtain ⟨bE, B0, z⟩ := one w [.int .i64 ek, .int .i64 kn, .int .i64 sa, .int .i64 ho, .int .i64 ix, .slice ga gs.length gx, .slice ca cs.length cx, .slice pa ps.length px, .int .i64 pr, .slice ma ms.length mx, .int .i64 bw, .int .i64 er, .int .i64 ee] 48
  have hne : X ≠ w.heap.size := Nat.ne_of_lt hX.lt
  have hne' : w.heap.size ≠ X := Nat.ne_of_gt hX.lt
  replace hX := hX.keep B0
  have g0 := grown_below B0 (some X)
  clear z
  have HMM := Lib.hid HM
  clear HM
  have fe0 := bE.c 0 rfl
  have fe1 := bE.c 1 rfl
  have fe2 := bE.c 2 rfl
  have fe3 := bE.c 3 rfl
  have fe4 := bE.c 4 rfl
  have fe5 := bE.c 5 rfl
  have fe6 := bE.c 6 rfl
  have fe7 := bE.c 7 rfl
  have fe8 := bE.c 8 rfl
  have fe9 := bE.c 9 rfl
  have fe10 := bE.c 10 rfl
  have fe11 := bE.c 11 rfl
  have fe12 := bE.c 12 rfl
  go_enter Tryd.func29, Tryd.ntmps29
  go_wp2_with fail
  clear fe0 fe1 fe2 fe3 fe4 fe5 fe6 fe7 fe8 fe9 fe10 fe11 fe12
  obtain ⟨V, eV⟩ : ∃ V, V = w.alloc (.cells #[.int .i64 ek, .int .i64 kn, .int .i64 sa, .int .i64 ho, .int .i64 ix, .slice ga gs.length gx, .slice ca cs.length cx, .slice pa ps.length px, .int .i64 pr, .slice ma ms.length mx, .int .i64 bw, .int .i64 er, .int .i64 ee] 48) := ⟨_, rfl⟩
  obtain ⟨E, eE⟩ : ∃ E, E = w.heap.size := ⟨_, rfl⟩
  rw [← eE] at bE ⊢
  have HE := Lib.hid eE
  rw [← eV] at bE hX g0 B0 ⊢
  clear eV eE hne hne'
  have HRR := Lib.hid HR
  have HF := Lib.hid hf
  clear HR hf
  go_region_held3 (fun w' => Over V w' ∧ w'.cell? ⟨E, 0, none⟩ = some (.int .i64 ek))
    ((first | exact ⟨over_drew _, over_cell (over_drew _) bE.lt (bE.c 0 rfl)⟩ | exact ⟨over_step (‹Over V _ ∧ _›).1 (by assumption), over_cell (over_step (‹Over V _ ∧ _›).1 (by assumption)) bE.lt (bE.c 0 rfl)⟩ | assumption | fail))
    ((first | (go_at_call 62; refine (HRR.out _ (hX.keep (‹Over V _ ∧ _›).1)).mono ?_; rintro e wm ⟨rfl, hmap, hbm⟩; have hlk := (show (Instr.lookup 100 (.map (some V.heap.size)) (.int .i64 ek) true).run Tryd.prog wm = .ok (.tuple #[.func (.func 95) #[.pointer (some ⟨X, 0, none⟩)] #[], .bool true]) wm from look_yes es n _ i ek _ wm hmap HF.out)) | fail))
  all_goals
    rename_i hH
    replace hH := hH.1
    have hX1 := hX.keep hH
    have bE1 := bE.keep hH
    have g1 := grow_row g0 (grown_below hH none) (fun k hk => by cases hk)
    have B1 := below_step B0 hH
    clear hH hlk hbm hmap bE B0 g0 hX
    have fe0 := bE1.c 0 rfl
    have fe1 := bE1.c 1 rfl
    have fe2 := bE1.c 2 rfl
    have fe3 := bE1.c 3 rfl
    have fe4 := bE1.c 4 rfl
    have fe5 := bE1.c 5 rfl
    have fe6 := bE1.c 6 rfl
    have fe7 := bE1.c 7 rfl
    have fe8 := bE1.c 8 rfl
    have fe9 := bE1.c 9 rfl
    have fe10 := bE1.c 10 rfl
    have fe11 := bE1.c 11 rfl
    have fe12 := bE1.c 12 rfl
    go_wp2_with fail
    clear fe0 fe1 fe2 fe3 fe4 fe5 fe6 fe7 fe8 fe9 fe10 fe11 fe12
    refine (HMM.out _ B1 hX1).mono ?_
    rintro e w2 ⟨rfl, hX2, g2⟩
    have G2 := grown_trans g1 g2
    have hG := (G2.cell_far ⟨1, 0, none⟩ HGL.out.2 (by simpa using HXN.out)).trans HGL.out.1
    clear g2 g1 bE1 hX1 B1
    go_wp2_with fail
    refine (HENN.out _ hX2 hG).mono ?_
    rintro e w3 ⟨rfl, v9, hX9, o9, g9⟩
    have G9 := grown_trans G2 g9
    have O9 := o9.mono (base' := w.heap.size) G2.size
    clear o9 g9 G2 hX2 hG
    go_wp2
    first | go_end0 | go_ret
    exact ⟨rfl, v9, hX9, O9, G9⟩
set_option maxHeartbeats 4000000 in
theorem handle_code_wait (X : Nat) (xa xi xh xp s0 s1 s2 s3 s4 : Int) (ga ca pa ma : Option Addr) (gx cx px mx : Nat) (gs cs : List (Int × Int)) (ps ms : List Int) (ek ee kn sa ho ix pr bw er : Int) (r0 r1 r2 r3 r4 : Int) (ml : List Bm) (c : Int) (es : Array MapEntry) (n i : Nat) (w : World) (hX : Bl w X [.int .i64 xa, .int .i64 xi, .int .i64 xh, .int .i64 xp, .int .i64 s0, .int .i64 s1, .int .i64 s2, .int .i64 s3, .int .i64 s4, .slice none 0 0]) (HR : ∀ w, Bl w X [.int .i64 xa, .int .i64 xi, .int .i64 xh, .int .i64 xp, .int .i64 s0, .int .i64 s1, .int .i64 s2, .int .i64 s3, .int .i64 s4, .slice none 0 0] → Calls Tryd.prog 62 #[.pointer (some ⟨X, 0, none⟩)] w fun e w' => e = .returned (.map (some w.heap.size)) ∧ w'.heap[w.heap.size]? = some (.map es n) ∧ Below w.heap.size w w')
    (hf : Instr.findNow (.int .i64) (.int .i64 ek) es.toList 0 = some (some (i, .func (.func 92) #[.pointer (some ⟨X, 0, none⟩)] #[]))) (hX1n : 1 ≠ X) (hg1 : w.cell? ⟨1, 0, none⟩ = some (.iface 172 (.agg #[.pointer (some ⟨6, 103, none⟩)])))
    (HM : ∀ w', Below w.heap.size w w' → Bl w' X [.int .i64 xa, .int .i64 xi, .int .i64 xh, .int .i64 xp, .int .i64 s0, .int .i64 s1, .int .i64 s2, .int .i64 s3, .int .i64 s4, .slice none 0 0] → Calls Tryd.prog 92 #[.pointer (some ⟨X, 0, none⟩), .agg #[.int .i64 ek, .int .i64 kn, .int .i64 sa, .int .i64 ho, .int .i64 ix, .slice ga gs.length gx, .slice ca cs.length cx, .slice pa ps.length px, .int .i64 pr, .slice ma ms.length mx, .int .i64 bw, .int .i64 er, .int .i64 ee]] w' fun e w'' => e = .returned (.iface 138 (.int .i64 c)) ∧ Bl w'' X [.int .i64 xa, .int .i64 xi, .int .i64 xh, .int .i64 xp, .int .i64 r0, .int .i64 r1, .int .i64 r2, .int .i64 r3, .int .i64 r4, .slice none 0 0] ∧ w'.grownBy w'' (some X))
    (HEN : ∀ w', Bl w' X [.int .i64 xa, .int .i64 xi, .int .i64 xh, .int .i64 xp, .int .i64 r0, .int .i64 r1, .int .i64 r2, .int .i64 r3, .int .i64 r4, .slice none 0 0] → w'.cell? ⟨1, 0, none⟩ = some (.iface 172 (.agg #[.pointer (some ⟨6, 103, none⟩)])) → Calls Tryd.prog 63 #[.pointer (some ⟨X, 0, none⟩), .iface 138 (.int .i64 c)] w' fun e w'' => e = .returned (.tuple #[]) ∧ ∃ v, Bl w'' X [.int .i64 xa, .int .i64 xi, .int .i64 xh, .int .i64 xp, .int .i64 0, .int .i64 0, .int .i64 0, .int .i64 0, .int .i64 0, v] ∧ OwnG w'' w'.heap.size v ml ∧ w'.grownBy w'' (some X)) :
    Calls Tryd.prog 29 #[.pointer (some ⟨X, 0, none⟩), .agg #[.int .i64 ek, .int .i64 kn, .int .i64 sa, .int .i64 ho, .int .i64 ix, .slice ga gs.length gx, .slice ca cs.length cx, .slice pa ps.length px, .int .i64 pr, .slice ma ms.length mx, .int .i64 bw, .int .i64 er, .int .i64 ee]] w fun e w' => e = .returned (.tuple #[]) ∧ ∃ v, Bl w' X [.int .i64 xa, .int .i64 xi, .int .i64 xh, .int .i64 xp, .int .i64 0, .int .i64 0, .int .i64 0, .int .i64 0, .int .i64 0, v] ∧ OwnG w' w.heap.size v ml ∧ w.grownBy w' (some X) := by
  have HENN := Lib.hid HEN
  have HGL := Lib.hid (And.intro hg1 (World.block_lt_of_cell? w _ hg1))
  have HXN := Lib.hid hX1n
  clear HEN hg1 hX1n
  obtain ⟨bE, B0, z⟩ := one w [.int .i64 ek, .int .i64 kn, .int .i64 sa, .int .i64 ho, .int .i64 ix, .slice ga gs.length gx, .slice ca cs.length cx, .slice pa ps.length px, .int .i64 pr, .slice ma ms.length mx, .int .i64 bw, .int .i64 er, .int .i64 ee] 48
  have hne : X ≠ w.heap.size := Nat.ne_of_lt hX.lt
  have hne' : w.heap.size ≠ X := Nat.ne_of_gt hX.lt
  replace hX := hX.keep B0
  have g0 := grown_below B0 (some X)
  clear z
  have HMM := Lib.hid HM
  clear HM
  have fe0 := bE.c 0 rfl
  have fe1 := bE.c 1 rfl
  have fe2 := bE.c 2 rfl
  have fe3 := bE.c 3 rfl
  have fe4 := bE.c 4 rfl
  have fe5 := bE.c 5 rfl
  have fe6 := bE.c 6 rfl
  have fe7 := bE.c 7 rfl
  have fe8 := bE.c 8 rfl
  have fe9 := bE.c 9 rfl
  have fe10 := bE.c 10 rfl
  have fe11 := bE.c 11 rfl
  have fe12 := bE.c 12 rfl
  go_enter Tryd.func29, Tryd.ntmps29
  go_wp2_with fail
  clear fe0 fe1 fe2 fe3 fe4 fe5 fe6 fe7 fe8 fe9 fe10 fe11 fe12
  obtain ⟨V, eV⟩ : ∃ V, V = w.alloc (.cells #[.int .i64 ek, .int .i64 kn, .int .i64 sa, .int .i64 ho, .int .i64 ix, .slice ga gs.length gx, .slice ca cs.length cx, .slice pa ps.length px, .int .i64 pr, .slice ma ms.length mx, .int .i64 bw, .int .i64 er, .int .i64 ee] 48) := ⟨_, rfl⟩
  obtain ⟨E, eE⟩ : ∃ E, E = w.heap.size := ⟨_, rfl⟩
  rw [← eE] at bE ⊢
  have HE := Lib.hid eE
  rw [← eV] at bE hX g0 B0 ⊢
  clear eV eE hne hne'
  have HRR := Lib.hid HR
  have HF := Lib.hid hf
  clear HR hf
  go_region_held3 (fun w' => Over V w' ∧ w'.cell? ⟨E, 0, none⟩ = some (.int .i64 ek))
    ((first | exact ⟨over_drew _, over_cell (over_drew _) bE.lt (bE.c 0 rfl)⟩ | exact ⟨over_step (‹Over V _ ∧ _›).1 (by assumption), over_cell (over_step (‹Over V _ ∧ _›).1 (by assumption)) bE.lt (bE.c 0 rfl)⟩ | assumption | fail))
    ((first | (go_at_call 62; refine (HRR.out _ (hX.keep (‹Over V _ ∧ _›).1)).mono ?_; rintro e wm ⟨rfl, hmap, hbm⟩; have hlk := (show (Instr.lookup 100 (.map (some V.heap.size)) (.int .i64 ek) true).run Tryd.prog wm = .ok (.tuple #[.func (.func 92) #[.pointer (some ⟨X, 0, none⟩)] #[], .bool true]) wm from look_yes es n _ i ek _ wm hmap HF.out)) | fail))
  all_goals
    rename_i hH
    replace hH := hH.1
    have hX1 := hX.keep hH
    have bE1 := bE.keep hH
    have g1 := grow_row g0 (grown_below hH none) (fun k hk => by cases hk)
    have B1 := below_step B0 hH
    clear hH hlk hbm hmap bE B0 g0 hX
    have fe0 := bE1.c 0 rfl
    have fe1 := bE1.c 1 rfl
    have fe2 := bE1.c 2 rfl
    have fe3 := bE1.c 3 rfl
    have fe4 := bE1.c 4 rfl
    have fe5 := bE1.c 5 rfl
    have fe6 := bE1.c 6 rfl
    have fe7 := bE1.c 7 rfl
    have fe8 := bE1.c 8 rfl
    have fe9 := bE1.c 9 rfl
    have fe10 := bE1.c 10 rfl
    have fe11 := bE1.c 11 rfl
    have fe12 := bE1.c 12 rfl
    go_wp2_with fail
    clear fe0 fe1 fe2 fe3 fe4 fe5 fe6 fe7 fe8 fe9 fe10 fe11 fe12
    refine (HMM.out _ B1 hX1).mono ?_
    rintro e w2 ⟨rfl, hX2, g2⟩
    have G2 := grown_trans g1 g2
    have hG := (G2.cell_far ⟨1, 0, none⟩ HGL.out.2 (by simpa using HXN.out)).trans HGL.out.1
    clear g2 g1 bE1 hX1 B1
    go_wp2_with fail
    refine (HENN.out _ hX2 hG).mono ?_
    rintro e w3 ⟨rfl, v9, hX9, o9, g9⟩
    have G9 := grown_trans G2 g9
    have O9 := o9.mono (base' := w.heap.size) G2.size
    clear o9 g9 G2 hX2 hG
    go_wp2
    first | go_end0 | go_ret
    exact ⟨rfl, v9, hX9, O9, G9⟩
set_option maxHeartbeats 4000000 in
theorem handle_code_waitAndKeep (X : Nat) (xa xi xh xp s0 s1 s2 s3 s4 : Int) (ga ca pa ma : Option Addr) (gx cx px mx : Nat) (gs cs : List (Int × Int)) (ps ms : List Int) (ek ee kn sa ho ix pr bw er : Int) (r0 r1 r2 r3 r4 : Int) (ml : List Bm) (c : Int) (es : Array MapEntry) (n i : Nat) (w : World) (hX : Bl w X [.int .i64 xa, .int .i64 xi, .int .i64 xh, .int .i64 xp, .int .i64 s0, .int .i64 s1, .int .i64 s2, .int .i64 s3, .int .i64 s4, .slice none 0 0]) (HR : ∀ w, Bl w X [.int .i64 xa, .int .i64 xi, .int .i64 xh, .int .i64 xp, .int .i64 s0, .int .i64 s1, .int .i64 s2, .int .i64 s3, .int .i64 s4, .slice none 0 0] → Calls Tryd.prog 62 #[.pointer (some ⟨X, 0, none⟩)] w fun e w' => e = .returned (.map (some w.heap.size)) ∧ w'.heap[w.heap.size]? = some (.map es n) ∧ Below w.heap.size w w')
    (hf : Instr.findNow (.int .i64) (.int .i64 ek) es.toList 0 = some (some (i, .func (.func 94) #[.pointer (some ⟨X, 0, none⟩)] #[]))) (hX1n : 1 ≠ X) (hg1 : w.cell? ⟨1, 0, none⟩ = some (.iface 172 (.agg #[.pointer (some ⟨6, 103, none⟩)])))
    (HM : ∀ w', Below w.heap.size w w' → Bl w' X [.int .i64 xa, .int .i64 xi, .int .i64 xh, .int .i64 xp, .int .i64 s0, .int .i64 s1, .int .i64 s2, .int .i64 s3, .int .i64 s4, .slice none 0 0] → Calls Tryd.prog 94 #[.pointer (some ⟨X, 0, none⟩), .agg #[.int .i64 ek, .int .i64 kn, .int .i64 sa, .int .i64 ho, .int .i64 ix, .slice ga gs.length gx, .slice ca cs.length cx, .slice pa ps.length px, .int .i64 pr, .slice ma ms.length mx, .int .i64 bw, .int .i64 er, .int .i64 ee]] w' fun e w'' => e = .returned (.iface 138 (.int .i64 c)) ∧ Bl w'' X [.int .i64 xa, .int .i64 xi, .int .i64 xh, .int .i64 xp, .int .i64 r0, .int .i64 r1, .int .i64 r2, .int .i64 r3, .int .i64 r4, .slice none 0 0] ∧ w'.grownBy w'' (some X))
    (HEN : ∀ w', Bl w' X [.int .i64 xa, .int .i64 xi, .int .i64 xh, .int .i64 xp, .int .i64 r0, .int .i64 r1, .int .i64 r2, .int .i64 r3, .int .i64 r4, .slice none 0 0] → w'.cell? ⟨1, 0, none⟩ = some (.iface 172 (.agg #[.pointer (some ⟨6, 103, none⟩)])) → Calls Tryd.prog 63 #[.pointer (some ⟨X, 0, none⟩), .iface 138 (.int .i64 c)] w' fun e w'' => e = .returned (.tuple #[]) ∧ ∃ v, Bl w'' X [.int .i64 xa, .int .i64 xi, .int .i64 xh, .int .i64 xp, .int .i64 0, .int .i64 0, .int .i64 0, .int .i64 0, .int .i64 0, v] ∧ OwnG w'' w'.heap.size v ml ∧ w'.grownBy w'' (some X)) :
    Calls Tryd.prog 29 #[.pointer (some ⟨X, 0, none⟩), .agg #[.int .i64 ek, .int .i64 kn, .int .i64 sa, .int .i64 ho, .int .i64 ix, .slice ga gs.length gx, .slice ca cs.length cx, .slice pa ps.length px, .int .i64 pr, .slice ma ms.length mx, .int .i64 bw, .int .i64 er, .int .i64 ee]] w fun e w' => e = .returned (.tuple #[]) ∧ ∃ v, Bl w' X [.int .i64 xa, .int .i64 xi, .int .i64 xh, .int .i64 xp, .int .i64 0, .int .i64 0, .int .i64 0, .int .i64 0, .int .i64 0, v] ∧ OwnG w' w.heap.size v ml ∧ w.grownBy w' (some X) := by
  have HENN := Lib.hid HEN
  have HGL := Lib.hid (And.intro hg1 (World.block_lt_of_cell? w _ hg1))
  have HXN := Lib.hid hX1n
  clear HEN hg1 hX1n
  obtain ⟨bE, B0, z⟩ := one w [.int .i64 ek, .int .i64 kn, .int .i64 sa, .int .i64 ho, .int .i64 ix, .slice ga gs.length gx, .slice ca cs.length cx, .slice pa ps.length px, .int .i64 pr, .slice ma ms.length mx, .int .i64 bw, .int .i64 er, .int .i64 ee] 48
  have hne : X ≠ w.heap.size := Nat.ne_of_lt hX.lt
  have hne' : w.heap.size ≠ X := Nat.ne_of_gt hX.lt
  replace hX := hX.keep B0
  have g0 := grown_below B0 (some X)
  clear z
  have HMM := Lib.hid HM
  clear HM
  have fe0 := bE.c 0 rfl
  have fe1 := bE.c 1 rfl
  have fe2 := bE.c 2 rfl
  have fe3 := bE.c 3 rfl
  have fe4 := bE.c 4 rfl
  have fe5 := bE.c 5 rfl
  have fe6 := bE.c 6 rfl
  have fe7 := bE.c 7 rfl
  have fe8 := bE.c 8 rfl
  have fe9 := bE.c 9 rfl
  have fe10 := bE.c 10 rfl
  have fe11 := bE.c 11 rfl
  have fe12 := bE.c 12 rfl
  go_enter Tryd.func29, Tryd.ntmps29
  go_wp2_with fail
  clear fe0 fe1 fe2 fe3 fe4 fe5 fe6 fe7 fe8 fe9 fe10 fe11 fe12
  obtain ⟨V, eV⟩ : ∃ V, V = w.alloc (.cells #[.int .i64 ek, .int .i64 kn, .int .i64 sa, .int .i64 ho, .int .i64 ix, .slice ga gs.length gx, .slice ca cs.length cx, .slice pa ps.length px, .int .i64 pr, .slice ma ms.length mx, .int .i64 bw, .int .i64 er, .int .i64 ee] 48) := ⟨_, rfl⟩
  obtain ⟨E, eE⟩ : ∃ E, E = w.heap.size := ⟨_, rfl⟩
  rw [← eE] at bE ⊢
  have HE := Lib.hid eE
  rw [← eV] at bE hX g0 B0 ⊢
  clear eV eE hne hne'
  have HRR := Lib.hid HR
  have HF := Lib.hid hf
  clear HR hf
  go_region_held3 (fun w' => Over V w' ∧ w'.cell? ⟨E, 0, none⟩ = some (.int .i64 ek))
    ((first | exact ⟨over_drew _, over_cell (over_drew _) bE.lt (bE.c 0 rfl)⟩ | exact ⟨over_step (‹Over V _ ∧ _›).1 (by assumption), over_cell (over_step (‹Over V _ ∧ _›).1 (by assumption)) bE.lt (bE.c 0 rfl)⟩ | assumption | fail))
    ((first | (go_at_call 62; refine (HRR.out _ (hX.keep (‹Over V _ ∧ _›).1)).mono ?_; rintro e wm ⟨rfl, hmap, hbm⟩; have hlk := (show (Instr.lookup 100 (.map (some V.heap.size)) (.int .i64 ek) true).run Tryd.prog wm = .ok (.tuple #[.func (.func 94) #[.pointer (some ⟨X, 0, none⟩)] #[], .bool true]) wm from look_yes es n _ i ek _ wm hmap HF.out)) | fail))
  all_goals
    rename_i hH
    replace hH := hH.1
    have hX1 := hX.keep hH
    have bE1 := bE.keep hH
    have g1 := grow_row g0 (grown_below hH none) (fun k hk => by cases hk)
    have B1 := below_step B0 hH
    clear hH hlk hbm hmap bE B0 g0 hX
    have fe0 := bE1.c 0 rfl
    have fe1 := bE1.c 1 rfl
    have fe2 := bE1.c 2 rfl
    have fe3 := bE1.c 3 rfl
    have fe4 := bE1.c 4 rfl
    have fe5 := bE1.c 5 rfl
    have fe6 := bE1.c 6 rfl
    have fe7 := bE1.c 7 rfl
    have fe8 := bE1.c 8 rfl
    have fe9 := bE1.c 9 rfl
    have fe10 := bE1.c 10 rfl
    have fe11 := bE1.c 11 rfl
    have fe12 := bE1.c 12 rfl
    go_wp2_with fail
    clear fe0 fe1 fe2 fe3 fe4 fe5 fe6 fe7 fe8 fe9 fe10 fe11 fe12
    refine (HMM.out _ B1 hX1).mono ?_
    rintro e w2 ⟨rfl, hX2, g2⟩
    have G2 := grown_trans g1 g2
    have hG := (G2.cell_far ⟨1, 0, none⟩ HGL.out.2 (by simpa using HXN.out)).trans HGL.out.1
    clear g2 g1 bE1 hX1 B1
    go_wp2_with fail
    refine (HENN.out _ hX2 hG).mono ?_
    rintro e w3 ⟨rfl, v9, hX9, o9, g9⟩
    have G9 := grown_trans G2 g9
    have O9 := o9.mono (base' := w.heap.size) G2.size
    clear o9 g9 G2 hX2 hG
    go_wp2
    first | go_end0 | go_ret
    exact ⟨rfl, v9, hX9, O9, G9⟩
set_option maxHeartbeats 4000000 in
theorem handle_gone_lose (X : Nat) (xa xi xh xp s0 s1 s2 s3 s4 : Int) (ga ca pa ma : Option Addr) (gx cx px mx : Nat) (gs cs : List (Int × Int)) (ps ms : List Int) (ek ee kn sa ho ix pr bw er : Int) (r0 r1 r2 r3 r4 : Int) (ml : List Bm) (u : Value) (es : Array MapEntry) (n i : Nat) (w : World) (hX : Bl w X [.int .i64 xa, .int .i64 xi, .int .i64 xh, .int .i64 xp, .int .i64 s0, .int .i64 s1, .int .i64 s2, .int .i64 s3, .int .i64 s4, .slice none 0 0]) (HR : ∀ w, Bl w X [.int .i64 xa, .int .i64 xi, .int .i64 xh, .int .i64 xp, .int .i64 s0, .int .i64 s1, .int .i64 s2, .int .i64 s3, .int .i64 s4, .slice none 0 0] → Calls Tryd.prog 62 #[.pointer (some ⟨X, 0, none⟩)] w fun e w' => e = .returned (.map (some w.heap.size)) ∧ w'.heap[w.heap.size]? = some (.map es n) ∧ Below w.heap.size w w')
    (hf : Instr.findNow (.int .i64) (.int .i64 ek) es.toList 0 = some (some (i, .func (.func 87) #[.pointer (some ⟨X, 0, none⟩)] #[]))) (hX1n : 1 ≠ X) (hg1 : w.cell? ⟨1, 0, none⟩ = some (.iface 172 (.agg #[.pointer (some ⟨6, 103, none⟩)])))
    (HM : ∀ w', Below w.heap.size w w' → Bl w' X [.int .i64 xa, .int .i64 xi, .int .i64 xh, .int .i64 xp, .int .i64 s0, .int .i64 s1, .int .i64 s2, .int .i64 s3, .int .i64 s4, .slice none 0 0] → Calls Tryd.prog 87 #[.pointer (some ⟨X, 0, none⟩), .agg #[.int .i64 ek, .int .i64 kn, .int .i64 sa, .int .i64 ho, .int .i64 ix, .slice ga gs.length gx, .slice ca cs.length cx, .slice pa ps.length px, .int .i64 pr, .slice ma ms.length mx, .int .i64 bw, .int .i64 er, .int .i64 ee]] w' fun e w'' => e = .returned (.iface 194 u) ∧ Bl w'' X [.int .i64 xa, .int .i64 xi, .int .i64 xh, .int .i64 xp, .int .i64 r0, .int .i64 r1, .int .i64 r2, .int .i64 r3, .int .i64 r4, .slice none 0 0] ∧ w'.grownBy w'' (some X))
    (HEN : ∀ w', Bl w' X [.int .i64 xa, .int .i64 xi, .int .i64 xh, .int .i64 xp, .int .i64 r0, .int .i64 r1, .int .i64 r2, .int .i64 r3, .int .i64 r4, .slice none 0 0] → w'.cell? ⟨1, 0, none⟩ = some (.iface 172 (.agg #[.pointer (some ⟨6, 103, none⟩)])) → Calls Tryd.prog 63 #[.pointer (some ⟨X, 0, none⟩), .iface 194 u] w' fun e w'' => e = .returned (.tuple #[]) ∧ ∃ v, Bl w'' X [.int .i64 xa, .int .i64 xi, .int .i64 xh, .int .i64 xp, .int .i64 0, .int .i64 0, .int .i64 0, .int .i64 0, .int .i64 0, v] ∧ OwnG w'' w'.heap.size v ml ∧ w'.grownBy w'' (some X)) :
    Calls Tryd.prog 29 #[.pointer (some ⟨X, 0, none⟩), .agg #[.int .i64 ek, .int .i64 kn, .int .i64 sa, .int .i64 ho, .int .i64 ix, .slice ga gs.length gx, .slice ca cs.length cx, .slice pa ps.length px, .int .i64 pr, .slice ma ms.length mx, .int .i64 bw, .int .i64 er, .int .i64 ee]] w fun e w' => e = .returned (.tuple #[]) ∧ ∃ v, Bl w' X [.int .i64 xa, .int .i64 xi, .int .i64 xh, .int .i64 xp, .int .i64 0, .int .i64 0, .int .i64 0, .int .i64 0, .int .i64 0, v] ∧ OwnG w' w.heap.size v ml ∧ w.grownBy w' (some X) := by
  have HENN := Lib.hid HEN
  have HGL := Lib.hid (And.intro hg1 (World.block_lt_of_cell? w _ hg1))
  have HXN := Lib.hid hX1n
  clear HEN hg1 hX1n
  obtain ⟨bE, B0, z⟩ := one w [.int .i64 ek, .int .i64 kn, .int .i64 sa, .int .i64 ho, .int .i64 ix, .slice ga gs.length gx, .slice ca cs.length cx, .slice pa ps.length px, .int .i64 pr, .slice ma ms.length mx, .int .i64 bw, .int .i64 er, .int .i64 ee] 48
  have hne : X ≠ w.heap.size := Nat.ne_of_lt hX.lt
  have hne' : w.heap.size ≠ X := Nat.ne_of_gt hX.lt
  replace hX := hX.keep B0
  have g0 := grown_below B0 (some X)
  clear z
  have HMM := Lib.hid HM
  clear HM
  have fe0 := bE.c 0 rfl
  have fe1 := bE.c 1 rfl
  have fe2 := bE.c 2 rfl
  have fe3 := bE.c 3 rfl
  have fe4 := bE.c 4 rfl
  have fe5 := bE.c 5 rfl
  have fe6 := bE.c 6 rfl
  have fe7 := bE.c 7 rfl
  have fe8 := bE.c 8 rfl
  have fe9 := bE.c 9 rfl
  have fe10 := bE.c 10 rfl
  have fe11 := bE.c 11 rfl
  have fe12 := bE.c 12 rfl
  go_enter Tryd.func29, Tryd.ntmps29
  go_wp2_with fail
  clear fe0 fe1 fe2 fe3 fe4 fe5 fe6 fe7 fe8 fe9 fe10 fe11 fe12
  obtain ⟨V, eV⟩ : ∃ V, V = w.alloc (.cells #[.int .i64 ek, .int .i64 kn, .int .i64 sa, .int .i64 ho, .int .i64 ix, .slice ga gs.length gx, .slice ca cs.length cx, .slice pa ps.length px, .int .i64 pr, .slice ma ms.length mx, .int .i64 bw, .int .i64 er, .int .i64 ee] 48) := ⟨_, rfl⟩
  obtain ⟨E, eE⟩ : ∃ E, E = w.heap.size := ⟨_, rfl⟩
  rw [← eE] at bE ⊢
  have HE := Lib.hid eE
  rw [← eV] at bE hX g0 B0 ⊢
  clear eV eE hne hne'
  have HRR := Lib.hid HR
  have HF := Lib.hid hf
  clear HR hf
  go_region_held3 (fun w' => Over V w' ∧ w'.cell? ⟨E, 0, none⟩ = some (.int .i64 ek))
    ((first | exact ⟨over_drew _, over_cell (over_drew _) bE.lt (bE.c 0 rfl)⟩ | exact ⟨over_step (‹Over V _ ∧ _›).1 (by assumption), over_cell (over_step (‹Over V _ ∧ _›).1 (by assumption)) bE.lt (bE.c 0 rfl)⟩ | assumption | fail))
    ((first | (go_at_call 62; refine (HRR.out _ (hX.keep (‹Over V _ ∧ _›).1)).mono ?_; rintro e wm ⟨rfl, hmap, hbm⟩; have hlk := (show (Instr.lookup 100 (.map (some V.heap.size)) (.int .i64 ek) true).run Tryd.prog wm = .ok (.tuple #[.func (.func 87) #[.pointer (some ⟨X, 0, none⟩)] #[], .bool true]) wm from look_yes es n _ i ek _ wm hmap HF.out)) | fail))
  all_goals
    rename_i hH
    replace hH := hH.1
    have hX1 := hX.keep hH
    have bE1 := bE.keep hH
    have g1 := grow_row g0 (grown_below hH none) (fun k hk => by cases hk)
    have B1 := below_step B0 hH
    clear hH hlk hbm hmap bE B0 g0 hX
    have fe0 := bE1.c 0 rfl
    have fe1 := bE1.c 1 rfl
    have fe2 := bE1.c 2 rfl
    have fe3 := bE1.c 3 rfl
    have fe4 := bE1.c 4 rfl
    have fe5 := bE1.c 5 rfl
    have fe6 := bE1.c 6 rfl
    have fe7 := bE1.c 7 rfl
    have fe8 := bE1.c 8 rfl
    have fe9 := bE1.c 9 rfl
    have fe10 := bE1.c 10 rfl
    have fe11 := bE1.c 11 rfl
    have fe12 := bE1.c 12 rfl
    go_wp2_with fail
    clear fe0 fe1 fe2 fe3 fe4 fe5 fe6 fe7 fe8 fe9 fe10 fe11 fe12
    refine (HMM.out _ B1 hX1).mono ?_
    rintro e w2 ⟨rfl, hX2, g2⟩
    have G2 := grown_trans g1 g2
    have hG := (G2.cell_far ⟨1, 0, none⟩ HGL.out.2 (by simpa using HXN.out)).trans HGL.out.1
    clear g2 g1 bE1 hX1 B1
    go_wp2_with fail
    refine (HENN.out _ hX2 hG).mono ?_
    rintro e w3 ⟨rfl, v9, hX9, o9, g9⟩
    have G9 := grown_trans G2 g9
    have O9 := o9.mono (base' := w.heap.size) G2.size
    clear o9 g9 G2 hX2 hG
    go_wp2
    first | go_end0 | go_ret
    exact ⟨rfl, v9, hX9, O9, G9⟩
set_option maxHeartbeats 4000000 in
theorem handle_gone_hearOpen (X : Nat) (xa xi xh xp s0 s1 s2 s3 s4 : Int) (ga ca pa ma : Option Addr) (gx cx px mx : Nat) (gs cs : List (Int × Int)) (ps ms : List Int) (ek ee kn sa ho ix pr bw er : Int) (r0 r1 r2 r3 r4 : Int) (ml : List Bm) (u : Value) (es : Array MapEntry) (n i : Nat) (w : World) (hX : Bl w X [.int .i64 xa, .int .i64 xi, .int .i64 xh, .int .i64 xp, .int .i64 s0, .int .i64 s1, .int .i64 s2, .int .i64 s3, .int .i64 s4, .slice none 0 0]) (HR : ∀ w, Bl w X [.int .i64 xa, .int .i64 xi, .int .i64 xh, .int .i64 xp, .int .i64 s0, .int .i64 s1, .int .i64 s2, .int .i64 s3, .int .i64 s4, .slice none 0 0] → Calls Tryd.prog 62 #[.pointer (some ⟨X, 0, none⟩)] w fun e w' => e = .returned (.map (some w.heap.size)) ∧ w'.heap[w.heap.size]? = some (.map es n) ∧ Below w.heap.size w w')
    (hf : Instr.findNow (.int .i64) (.int .i64 ek) es.toList 0 = some (some (i, .func (.func 91) #[.pointer (some ⟨X, 0, none⟩)] #[]))) (hX1n : 1 ≠ X) (hg1 : w.cell? ⟨1, 0, none⟩ = some (.iface 172 (.agg #[.pointer (some ⟨6, 103, none⟩)])))
    (HM : ∀ w', Below w.heap.size w w' → Bl w' X [.int .i64 xa, .int .i64 xi, .int .i64 xh, .int .i64 xp, .int .i64 s0, .int .i64 s1, .int .i64 s2, .int .i64 s3, .int .i64 s4, .slice none 0 0] → Calls Tryd.prog 91 #[.pointer (some ⟨X, 0, none⟩), .agg #[.int .i64 ek, .int .i64 kn, .int .i64 sa, .int .i64 ho, .int .i64 ix, .slice ga gs.length gx, .slice ca cs.length cx, .slice pa ps.length px, .int .i64 pr, .slice ma ms.length mx, .int .i64 bw, .int .i64 er, .int .i64 ee]] w' fun e w'' => e = .returned (.iface 194 u) ∧ Bl w'' X [.int .i64 xa, .int .i64 xi, .int .i64 xh, .int .i64 xp, .int .i64 r0, .int .i64 r1, .int .i64 r2, .int .i64 r3, .int .i64 r4, .slice none 0 0] ∧ w'.grownBy w'' (some X))
    (HEN : ∀ w', Bl w' X [.int .i64 xa, .int .i64 xi, .int .i64 xh, .int .i64 xp, .int .i64 r0, .int .i64 r1, .int .i64 r2, .int .i64 r3, .int .i64 r4, .slice none 0 0] → w'.cell? ⟨1, 0, none⟩ = some (.iface 172 (.agg #[.pointer (some ⟨6, 103, none⟩)])) → Calls Tryd.prog 63 #[.pointer (some ⟨X, 0, none⟩), .iface 194 u] w' fun e w'' => e = .returned (.tuple #[]) ∧ ∃ v, Bl w'' X [.int .i64 xa, .int .i64 xi, .int .i64 xh, .int .i64 xp, .int .i64 0, .int .i64 0, .int .i64 0, .int .i64 0, .int .i64 0, v] ∧ OwnG w'' w'.heap.size v ml ∧ w'.grownBy w'' (some X)) :
    Calls Tryd.prog 29 #[.pointer (some ⟨X, 0, none⟩), .agg #[.int .i64 ek, .int .i64 kn, .int .i64 sa, .int .i64 ho, .int .i64 ix, .slice ga gs.length gx, .slice ca cs.length cx, .slice pa ps.length px, .int .i64 pr, .slice ma ms.length mx, .int .i64 bw, .int .i64 er, .int .i64 ee]] w fun e w' => e = .returned (.tuple #[]) ∧ ∃ v, Bl w' X [.int .i64 xa, .int .i64 xi, .int .i64 xh, .int .i64 xp, .int .i64 0, .int .i64 0, .int .i64 0, .int .i64 0, .int .i64 0, v] ∧ OwnG w' w.heap.size v ml ∧ w.grownBy w' (some X) := by
  have HENN := Lib.hid HEN
  have HGL := Lib.hid (And.intro hg1 (World.block_lt_of_cell? w _ hg1))
  have HXN := Lib.hid hX1n
  clear HEN hg1 hX1n
  obtain ⟨bE, B0, z⟩ := one w [.int .i64 ek, .int .i64 kn, .int .i64 sa, .int .i64 ho, .int .i64 ix, .slice ga gs.length gx, .slice ca cs.length cx, .slice pa ps.length px, .int .i64 pr, .slice ma ms.length mx, .int .i64 bw, .int .i64 er, .int .i64 ee] 48
  have hne : X ≠ w.heap.size := Nat.ne_of_lt hX.lt
  have hne' : w.heap.size ≠ X := Nat.ne_of_gt hX.lt
  replace hX := hX.keep B0
  have g0 := grown_below B0 (some X)
  clear z
  have HMM := Lib.hid HM
  clear HM
  have fe0 := bE.c 0 rfl
  have fe1 := bE.c 1 rfl
  have fe2 := bE.c 2 rfl
  have fe3 := bE.c 3 rfl
  have fe4 := bE.c 4 rfl
  have fe5 := bE.c 5 rfl
  have fe6 := bE.c 6 rfl
  have fe7 := bE.c 7 rfl
  have fe8 := bE.c 8 rfl
  have fe9 := bE.c 9 rfl
  have fe10 := bE.c 10 rfl
  have fe11 := bE.c 11 rfl
  have fe12 := bE.c 12 rfl
  go_enter Tryd.func29, Tryd.ntmps29
  go_wp2_with fail
  clear fe0 fe1 fe2 fe3 fe4 fe5 fe6 fe7 fe8 fe9 fe10 fe11 fe12
  obtain ⟨V, eV⟩ : ∃ V, V = w.alloc (.cells #[.int .i64 ek, .int .i64 kn, .int .i64 sa, .int .i64 ho, .int .i64 ix, .slice ga gs.length gx, .slice ca cs.length cx, .slice pa ps.length px, .int .i64 pr, .slice ma ms.length mx, .int .i64 bw, .int .i64 er, .int .i64 ee] 48) := ⟨_, rfl⟩
  obtain ⟨E, eE⟩ : ∃ E, E = w.heap.size := ⟨_, rfl⟩
  rw [← eE] at bE ⊢
  have HE := Lib.hid eE
  rw [← eV] at bE hX g0 B0 ⊢
  clear eV eE hne hne'
  have HRR := Lib.hid HR
  have HF := Lib.hid hf
  clear HR hf
  go_region_held3 (fun w' => Over V w' ∧ w'.cell? ⟨E, 0, none⟩ = some (.int .i64 ek))
    ((first | exact ⟨over_drew _, over_cell (over_drew _) bE.lt (bE.c 0 rfl)⟩ | exact ⟨over_step (‹Over V _ ∧ _›).1 (by assumption), over_cell (over_step (‹Over V _ ∧ _›).1 (by assumption)) bE.lt (bE.c 0 rfl)⟩ | assumption | fail))
    ((first | (go_at_call 62; refine (HRR.out _ (hX.keep (‹Over V _ ∧ _›).1)).mono ?_; rintro e wm ⟨rfl, hmap, hbm⟩; have hlk := (show (Instr.lookup 100 (.map (some V.heap.size)) (.int .i64 ek) true).run Tryd.prog wm = .ok (.tuple #[.func (.func 91) #[.pointer (some ⟨X, 0, none⟩)] #[], .bool true]) wm from look_yes es n _ i ek _ wm hmap HF.out)) | fail))
  all_goals
    rename_i hH
    replace hH := hH.1
    have hX1 := hX.keep hH
    have bE1 := bE.keep hH
    have g1 := grow_row g0 (grown_below hH none) (fun k hk => by cases hk)
    have B1 := below_step B0 hH
    clear hH hlk hbm hmap bE B0 g0 hX
    have fe0 := bE1.c 0 rfl
    have fe1 := bE1.c 1 rfl
    have fe2 := bE1.c 2 rfl
    have fe3 := bE1.c 3 rfl
    have fe4 := bE1.c 4 rfl
    have fe5 := bE1.c 5 rfl
    have fe6 := bE1.c 6 rfl
    have fe7 := bE1.c 7 rfl
    have fe8 := bE1.c 8 rfl
    have fe9 := bE1.c 9 rfl
    have fe10 := bE1.c 10 rfl
    have fe11 := bE1.c 11 rfl
    have fe12 := bE1.c 12 rfl
    go_wp2_with fail
    clear fe0 fe1 fe2 fe3 fe4 fe5 fe6 fe7 fe8 fe9 fe10 fe11 fe12
    refine (HMM.out _ B1 hX1).mono ?_
    rintro e w2 ⟨rfl, hX2, g2⟩
    have G2 := grown_trans g1 g2
    have hG := (G2.cell_far ⟨1, 0, none⟩ HGL.out.2 (by simpa using HXN.out)).trans HGL.out.1
    clear g2 g1 bE1 hX1 B1
    go_wp2_with fail
    refine (HENN.out _ hX2 hG).mono ?_
    rintro e w3 ⟨rfl, v9, hX9, o9, g9⟩
    have G9 := grown_trans G2 g9
    have O9 := o9.mono (base' := w.heap.size) G2.size
    clear o9 g9 G2 hX2 hG
    go_wp2
    first | go_end0 | go_ret
    exact ⟨rfl, v9, hX9, O9, G9⟩
set_option maxHeartbeats 4000000 in
theorem handle_gone_hearKeep (X : Nat) (xa xi xh xp s0 s1 s2 s3 s4 : Int) (ga ca pa ma : Option Addr) (gx cx px mx : Nat) (gs cs : List (Int × Int)) (ps ms : List Int) (ek ee kn sa ho ix pr bw er : Int) (r0 r1 r2 r3 r4 : Int) (ml : List Bm) (u : Value) (es : Array MapEntry) (n i : Nat) (w : World) (hX : Bl w X [.int .i64 xa, .int .i64 xi, .int .i64 xh, .int .i64 xp, .int .i64 s0, .int .i64 s1, .int .i64 s2, .int .i64 s3, .int .i64 s4, .slice none 0 0]) (HR : ∀ w, Bl w X [.int .i64 xa, .int .i64 xi, .int .i64 xh, .int .i64 xp, .int .i64 s0, .int .i64 s1, .int .i64 s2, .int .i64 s3, .int .i64 s4, .slice none 0 0] → Calls Tryd.prog 62 #[.pointer (some ⟨X, 0, none⟩)] w fun e w' => e = .returned (.map (some w.heap.size)) ∧ w'.heap[w.heap.size]? = some (.map es n) ∧ Below w.heap.size w w')
    (hf : Instr.findNow (.int .i64) (.int .i64 ek) es.toList 0 = some (some (i, .func (.func 93) #[.pointer (some ⟨X, 0, none⟩)] #[]))) (hX1n : 1 ≠ X) (hg1 : w.cell? ⟨1, 0, none⟩ = some (.iface 172 (.agg #[.pointer (some ⟨6, 103, none⟩)])))
    (HM : ∀ w', Below w.heap.size w w' → Bl w' X [.int .i64 xa, .int .i64 xi, .int .i64 xh, .int .i64 xp, .int .i64 s0, .int .i64 s1, .int .i64 s2, .int .i64 s3, .int .i64 s4, .slice none 0 0] → Calls Tryd.prog 93 #[.pointer (some ⟨X, 0, none⟩), .agg #[.int .i64 ek, .int .i64 kn, .int .i64 sa, .int .i64 ho, .int .i64 ix, .slice ga gs.length gx, .slice ca cs.length cx, .slice pa ps.length px, .int .i64 pr, .slice ma ms.length mx, .int .i64 bw, .int .i64 er, .int .i64 ee]] w' fun e w'' => e = .returned (.iface 194 u) ∧ Bl w'' X [.int .i64 xa, .int .i64 xi, .int .i64 xh, .int .i64 xp, .int .i64 r0, .int .i64 r1, .int .i64 r2, .int .i64 r3, .int .i64 r4, .slice none 0 0] ∧ w'.grownBy w'' (some X))
    (HEN : ∀ w', Bl w' X [.int .i64 xa, .int .i64 xi, .int .i64 xh, .int .i64 xp, .int .i64 r0, .int .i64 r1, .int .i64 r2, .int .i64 r3, .int .i64 r4, .slice none 0 0] → w'.cell? ⟨1, 0, none⟩ = some (.iface 172 (.agg #[.pointer (some ⟨6, 103, none⟩)])) → Calls Tryd.prog 63 #[.pointer (some ⟨X, 0, none⟩), .iface 194 u] w' fun e w'' => e = .returned (.tuple #[]) ∧ ∃ v, Bl w'' X [.int .i64 xa, .int .i64 xi, .int .i64 xh, .int .i64 xp, .int .i64 0, .int .i64 0, .int .i64 0, .int .i64 0, .int .i64 0, v] ∧ OwnG w'' w'.heap.size v ml ∧ w'.grownBy w'' (some X)) :
    Calls Tryd.prog 29 #[.pointer (some ⟨X, 0, none⟩), .agg #[.int .i64 ek, .int .i64 kn, .int .i64 sa, .int .i64 ho, .int .i64 ix, .slice ga gs.length gx, .slice ca cs.length cx, .slice pa ps.length px, .int .i64 pr, .slice ma ms.length mx, .int .i64 bw, .int .i64 er, .int .i64 ee]] w fun e w' => e = .returned (.tuple #[]) ∧ ∃ v, Bl w' X [.int .i64 xa, .int .i64 xi, .int .i64 xh, .int .i64 xp, .int .i64 0, .int .i64 0, .int .i64 0, .int .i64 0, .int .i64 0, v] ∧ OwnG w' w.heap.size v ml ∧ w.grownBy w' (some X) := by
  have HENN := Lib.hid HEN
  have HGL := Lib.hid (And.intro hg1 (World.block_lt_of_cell? w _ hg1))
  have HXN := Lib.hid hX1n
  clear HEN hg1 hX1n
  obtain ⟨bE, B0, z⟩ := one w [.int .i64 ek, .int .i64 kn, .int .i64 sa, .int .i64 ho, .int .i64 ix, .slice ga gs.length gx, .slice ca cs.length cx, .slice pa ps.length px, .int .i64 pr, .slice ma ms.length mx, .int .i64 bw, .int .i64 er, .int .i64 ee] 48
  have hne : X ≠ w.heap.size := Nat.ne_of_lt hX.lt
  have hne' : w.heap.size ≠ X := Nat.ne_of_gt hX.lt
  replace hX := hX.keep B0
  have g0 := grown_below B0 (some X)
  clear z
  have HMM := Lib.hid HM
  clear HM
  have fe0 := bE.c 0 rfl
  have fe1 := bE.c 1 rfl
  have fe2 := bE.c 2 rfl
  have fe3 := bE.c 3 rfl
  have fe4 := bE.c 4 rfl
  have fe5 := bE.c 5 rfl
  have fe6 := bE.c 6 rfl
  have fe7 := bE.c 7 rfl
  have fe8 := bE.c 8 rfl
  have fe9 := bE.c 9 rfl
  have fe10 := bE.c 10 rfl
  have fe11 := bE.c 11 rfl
  have fe12 := bE.c 12 rfl
  go_enter Tryd.func29, Tryd.ntmps29
  go_wp2_with fail
  clear fe0 fe1 fe2 fe3 fe4 fe5 fe6 fe7 fe8 fe9 fe10 fe11 fe12
  obtain ⟨V, eV⟩ : ∃ V, V = w.alloc (.cells #[.int .i64 ek, .int .i64 kn, .int .i64 sa, .int .i64 ho, .int .i64 ix, .slice ga gs.length gx, .slice ca cs.length cx, .slice pa ps.length px, .int .i64 pr, .slice ma ms.length mx, .int .i64 bw, .int .i64 er, .int .i64 ee] 48) := ⟨_, rfl⟩
  obtain ⟨E, eE⟩ : ∃ E, E = w.heap.size := ⟨_, rfl⟩
  rw [← eE] at bE ⊢
  have HE := Lib.hid eE
  rw [← eV] at bE hX g0 B0 ⊢
  clear eV eE hne hne'
  have HRR := Lib.hid HR
  have HF := Lib.hid hf
  clear HR hf
  go_region_held3 (fun w' => Over V w' ∧ w'.cell? ⟨E, 0, none⟩ = some (.int .i64 ek))
    ((first | exact ⟨over_drew _, over_cell (over_drew _) bE.lt (bE.c 0 rfl)⟩ | exact ⟨over_step (‹Over V _ ∧ _›).1 (by assumption), over_cell (over_step (‹Over V _ ∧ _›).1 (by assumption)) bE.lt (bE.c 0 rfl)⟩ | assumption | fail))
    ((first | (go_at_call 62; refine (HRR.out _ (hX.keep (‹Over V _ ∧ _›).1)).mono ?_; rintro e wm ⟨rfl, hmap, hbm⟩; have hlk := (show (Instr.lookup 100 (.map (some V.heap.size)) (.int .i64 ek) true).run Tryd.prog wm = .ok (.tuple #[.func (.func 93) #[.pointer (some ⟨X, 0, none⟩)] #[], .bool true]) wm from look_yes es n _ i ek _ wm hmap HF.out)) | fail))
  all_goals
    rename_i hH
    replace hH := hH.1
    have hX1 := hX.keep hH
    have bE1 := bE.keep hH
    have g1 := grow_row g0 (grown_below hH none) (fun k hk => by cases hk)
    have B1 := below_step B0 hH
    clear hH hlk hbm hmap bE B0 g0 hX
    have fe0 := bE1.c 0 rfl
    have fe1 := bE1.c 1 rfl
    have fe2 := bE1.c 2 rfl
    have fe3 := bE1.c 3 rfl
    have fe4 := bE1.c 4 rfl
    have fe5 := bE1.c 5 rfl
    have fe6 := bE1.c 6 rfl
    have fe7 := bE1.c 7 rfl
    have fe8 := bE1.c 8 rfl
    have fe9 := bE1.c 9 rfl
    have fe10 := bE1.c 10 rfl
    have fe11 := bE1.c 11 rfl
    have fe12 := bE1.c 12 rfl
    go_wp2_with fail
    clear fe0 fe1 fe2 fe3 fe4 fe5 fe6 fe7 fe8 fe9 fe10 fe11 fe12
    refine (HMM.out _ B1 hX1).mono ?_
    rintro e w2 ⟨rfl, hX2, g2⟩
    have G2 := grown_trans g1 g2
    have hG := (G2.cell_far ⟨1, 0, none⟩ HGL.out.2 (by simpa using HXN.out)).trans HGL.out.1
    clear g2 g1 bE1 hX1 B1
    go_wp2_with fail
    refine (HENN.out _ hX2 hG).mono ?_
    rintro e w3 ⟨rfl, v9, hX9, o9, g9⟩
    have G9 := grown_trans G2 g9
    have O9 := o9.mono (base' := w.heap.size) G2.size
    clear o9 g9 G2 hX2 hG
    go_wp2
    first | go_end0 | go_ret
    exact ⟨rfl, v9, hX9, O9, G9⟩
set_option maxHeartbeats 4000000 in
theorem handle_gone_hearMore (X : Nat) (xa xi xh xp s0 s1 s2 s3 s4 : Int) (ga ca pa ma : Option Addr) (gx cx px mx : Nat) (gs cs : List (Int × Int)) (ps ms : List Int) (ek ee kn sa ho ix pr bw er : Int) (r0 r1 r2 r3 r4 : Int) (ml : List Bm) (u : Value) (es : Array MapEntry) (n i : Nat) (w : World) (hX : Bl w X [.int .i64 xa, .int .i64 xi, .int .i64 xh, .int .i64 xp, .int .i64 s0, .int .i64 s1, .int .i64 s2, .int .i64 s3, .int .i64 s4, .slice none 0 0]) (HR : ∀ w, Bl w X [.int .i64 xa, .int .i64 xi, .int .i64 xh, .int .i64 xp, .int .i64 s0, .int .i64 s1, .int .i64 s2, .int .i64 s3, .int .i64 s4, .slice none 0 0] → Calls Tryd.prog 62 #[.pointer (some ⟨X, 0, none⟩)] w fun e w' => e = .returned (.map (some w.heap.size)) ∧ w'.heap[w.heap.size]? = some (.map es n) ∧ Below w.heap.size w w')
    (hf : Instr.findNow (.int .i64) (.int .i64 ek) es.toList 0 = some (some (i, .func (.func 95) #[.pointer (some ⟨X, 0, none⟩)] #[]))) (hX1n : 1 ≠ X) (hg1 : w.cell? ⟨1, 0, none⟩ = some (.iface 172 (.agg #[.pointer (some ⟨6, 103, none⟩)])))
    (HM : ∀ w', Below w.heap.size w w' → Bl w' X [.int .i64 xa, .int .i64 xi, .int .i64 xh, .int .i64 xp, .int .i64 s0, .int .i64 s1, .int .i64 s2, .int .i64 s3, .int .i64 s4, .slice none 0 0] → Calls Tryd.prog 95 #[.pointer (some ⟨X, 0, none⟩), .agg #[.int .i64 ek, .int .i64 kn, .int .i64 sa, .int .i64 ho, .int .i64 ix, .slice ga gs.length gx, .slice ca cs.length cx, .slice pa ps.length px, .int .i64 pr, .slice ma ms.length mx, .int .i64 bw, .int .i64 er, .int .i64 ee]] w' fun e w'' => e = .returned (.iface 194 u) ∧ Bl w'' X [.int .i64 xa, .int .i64 xi, .int .i64 xh, .int .i64 xp, .int .i64 r0, .int .i64 r1, .int .i64 r2, .int .i64 r3, .int .i64 r4, .slice none 0 0] ∧ w'.grownBy w'' (some X))
    (HEN : ∀ w', Bl w' X [.int .i64 xa, .int .i64 xi, .int .i64 xh, .int .i64 xp, .int .i64 r0, .int .i64 r1, .int .i64 r2, .int .i64 r3, .int .i64 r4, .slice none 0 0] → w'.cell? ⟨1, 0, none⟩ = some (.iface 172 (.agg #[.pointer (some ⟨6, 103, none⟩)])) → Calls Tryd.prog 63 #[.pointer (some ⟨X, 0, none⟩), .iface 194 u] w' fun e w'' => e = .returned (.tuple #[]) ∧ ∃ v, Bl w'' X [.int .i64 xa, .int .i64 xi, .int .i64 xh, .int .i64 xp, .int .i64 0, .int .i64 0, .int .i64 0, .int .i64 0, .int .i64 0, v] ∧ OwnG w'' w'.heap.size v ml ∧ w'.grownBy w'' (some X)) :
    Calls Tryd.prog 29 #[.pointer (some ⟨X, 0, none⟩), .agg #[.int .i64 ek, .int .i64 kn, .int .i64 sa, .int .i64 ho, .int .i64 ix, .slice ga gs.length gx, .slice ca cs.length cx, .slice pa ps.length px, .int .i64 pr, .slice ma ms.length mx, .int .i64 bw, .int .i64 er, .int .i64 ee]] w fun e w' => e = .returned (.tuple #[]) ∧ ∃ v, Bl w' X [.int .i64 xa, .int .i64 xi, .int .i64 xh, .int .i64 xp, .int .i64 0, .int .i64 0, .int .i64 0, .int .i64 0, .int .i64 0, v] ∧ OwnG w' w.heap.size v ml ∧ w.grownBy w' (some X) := by
  have HENN := Lib.hid HEN
  have HGL := Lib.hid (And.intro hg1 (World.block_lt_of_cell? w _ hg1))
  have HXN := Lib.hid hX1n
  clear HEN hg1 hX1n
  obtain ⟨bE, B0, z⟩ := one w [.int .i64 ek, .int .i64 kn, .int .i64 sa, .int .i64 ho, .int .i64 ix, .slice ga gs.length gx, .slice ca cs.length cx, .slice pa ps.length px, .int .i64 pr, .slice ma ms.length mx, .int .i64 bw, .int .i64 er, .int .i64 ee] 48
  have hne : X ≠ w.heap.size := Nat.ne_of_lt hX.lt
  have hne' : w.heap.size ≠ X := Nat.ne_of_gt hX.lt
  replace hX := hX.keep B0
  have g0 := grown_below B0 (some X)
  clear z
  have HMM := Lib.hid HM
  clear HM
  have fe0 := bE.c 0 rfl
  have fe1 := bE.c 1 rfl
  have fe2 := bE.c 2 rfl
  have fe3 := bE.c 3 rfl
  have fe4 := bE.c 4 rfl
  have fe5 := bE.c 5 rfl
  have fe6 := bE.c 6 rfl
  have fe7 := bE.c 7 rfl
  have fe8 := bE.c 8 rfl
  have fe9 := bE.c 9 rfl
  have fe10 := bE.c 10 rfl
  have fe11 := bE.c 11 rfl
  have fe12 := bE.c 12 rfl
  go_enter Tryd.func29, Tryd.ntmps29
  go_wp2_with fail
  clear fe0 fe1 fe2 fe3 fe4 fe5 fe6 fe7 fe8 fe9 fe10 fe11 fe12
  obtain ⟨V, eV⟩ : ∃ V, V = w.alloc (.cells #[.int .i64 ek, .int .i64 kn, .int .i64 sa, .int .i64 ho, .int .i64 ix, .slice ga gs.length gx, .slice ca cs.length cx, .slice pa ps.length px, .int .i64 pr, .slice ma ms.length mx, .int .i64 bw, .int .i64 er, .int .i64 ee] 48) := ⟨_, rfl⟩
  obtain ⟨E, eE⟩ : ∃ E, E = w.heap.size := ⟨_, rfl⟩
  rw [← eE] at bE ⊢
  have HE := Lib.hid eE
  rw [← eV] at bE hX g0 B0 ⊢
  clear eV eE hne hne'
  have HRR := Lib.hid HR
  have HF := Lib.hid hf
  clear HR hf
  go_region_held3 (fun w' => Over V w' ∧ w'.cell? ⟨E, 0, none⟩ = some (.int .i64 ek))
    ((first | exact ⟨over_drew _, over_cell (over_drew _) bE.lt (bE.c 0 rfl)⟩ | exact ⟨over_step (‹Over V _ ∧ _›).1 (by assumption), over_cell (over_step (‹Over V _ ∧ _›).1 (by assumption)) bE.lt (bE.c 0 rfl)⟩ | assumption | fail))
    ((first | (go_at_call 62; refine (HRR.out _ (hX.keep (‹Over V _ ∧ _›).1)).mono ?_; rintro e wm ⟨rfl, hmap, hbm⟩; have hlk := (show (Instr.lookup 100 (.map (some V.heap.size)) (.int .i64 ek) true).run Tryd.prog wm = .ok (.tuple #[.func (.func 95) #[.pointer (some ⟨X, 0, none⟩)] #[], .bool true]) wm from look_yes es n _ i ek _ wm hmap HF.out)) | fail))
  all_goals
    rename_i hH
    replace hH := hH.1
    have hX1 := hX.keep hH
    have bE1 := bE.keep hH
    have g1 := grow_row g0 (grown_below hH none) (fun k hk => by cases hk)
    have B1 := below_step B0 hH
    clear hH hlk hbm hmap bE B0 g0 hX
    have fe0 := bE1.c 0 rfl
    have fe1 := bE1.c 1 rfl
    have fe2 := bE1.c 2 rfl
    have fe3 := bE1.c 3 rfl
    have fe4 := bE1.c 4 rfl
    have fe5 := bE1.c 5 rfl
    have fe6 := bE1.c 6 rfl
    have fe7 := bE1.c 7 rfl
    have fe8 := bE1.c 8 rfl
    have fe9 := bE1.c 9 rfl
    have fe10 := bE1.c 10 rfl
    have fe11 := bE1.c 11 rfl
    have fe12 := bE1.c 12 rfl
    go_wp2_with fail
    clear fe0 fe1 fe2 fe3 fe4 fe5 fe6 fe7 fe8 fe9 fe10 fe11 fe12
    refine (HMM.out _ B1 hX1).mono ?_
    rintro e w2 ⟨rfl, hX2, g2⟩
    have G2 := grown_trans g1 g2
    have hG := (G2.cell_far ⟨1, 0, none⟩ HGL.out.2 (by simpa using HXN.out)).trans HGL.out.1
    clear g2 g1 bE1 hX1 B1
    go_wp2_with fail
    refine (HENN.out _ hX2 hG).mono ?_
    rintro e w3 ⟨rfl, v9, hX9, o9, g9⟩
    have G9 := grown_trans G2 g9
    have O9 := o9.mono (base' := w.heap.size) G2.size
    clear o9 g9 G2 hX2 hG
    go_wp2
    first | go_end0 | go_ret
    exact ⟨rfl, v9, hX9, O9, G9⟩
end Go.Proofs.YtcmbajphholliabDoor
