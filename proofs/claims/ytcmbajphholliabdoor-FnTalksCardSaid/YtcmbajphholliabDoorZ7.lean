/-
  The machine handles a message without prefixes, in the states that a greeting meets. Conditions: those in each contract.
  Two machines and what they have sent; one receives from the other. Conditions: those in each contract.
  A machine starts and its link comes up, in any state of what is sent. Conditions: those in each contract.
-/
import Derived.Test.YtcmbajphholliabDoorV2
import Derived.Test.YtcmbajphholliabDoorZ4
namespace Go.Proofs.YtcmbajphholliabDoor
open Go.ChangeShapes Go.WideShapes Go.ChangeAt Go.RowKit Go.BigFrame Go.Joins
set_option linter.unusedVariables false
set_option maxRecDepth 100000
set_option linter.unusedSimpArgs false

theorem mem1G (k x : Int) (h : x = k) : x ∈ [k] := by simp [h]
set_option maxHeartbeats 2000000 in
theorem hearG (va : Option Addr) (vn vc base : Nat) (l : List Bm) (X : Nat) (xa xi xh xp s0 s1 s2 s3 s4 kn sa ho ix er : Int) (u : Value) (w : World) (hX : Bl w X [.int .i64 xa, .int .i64 xi, .int .i64 xh, .int .i64 xp, .int .i64 s0, .int .i64 s1, .int .i64 s2, .int .i64 s3, .int .i64 s4, .slice va vn vc]) (HS : Hid (Sent w X base (.slice va vn vc) l)) (hu : w.cell? ⟨0, 0, none⟩ = some (.iface 194 u)) (hg1 : w.cell? ⟨1, 0, none⟩ = some (.iface 172 (.agg #[.pointer (some ⟨6, 103, none⟩)]))) (hX1n : 1 ≠ X) (acc : Bool) (hacc : acc = accB xa xi xh xp [] [] [] [] kn sa ho ix 0 0 er) (hxh : 3 ≤ xh ∧ xh ≤ 255) (hho : kn = 1 → 3 ≤ ho ∧ ho ≤ 255) (hc : (s0 = 2 ∧ kn = 1) ∨ ((s0 = 3 ∨ s0 = 0) ∧ (kn = 3 ∨ kn = 4))) :
    Calls Tryd.prog 29 #[.pointer (some ⟨X, 0, none⟩), .agg #[.int .i64 4, .int .i64 kn, .int .i64 sa, .int .i64 ho, .int .i64 ix, .slice none 0 0, .slice none 0 0, .slice none 0 0, .int .i64 0, .slice none 0 0, .int .i64 0, .int .i64 er, .int .i64 0]] w fun e w' => e = .returned (.tuple #[]) ∧ ∃ v, Bl w' X [.int .i64 xa, .int .i64 xi, .int .i64 xh, .int .i64 xp, .int .i64 (stepF xa xi xh s0 s1 s2 s3 s4 4 0 kn sa ho acc).a, .int .i64 (stepF xa xi xh s0 s1 s2 s3 s4 4 0 kn sa ho acc).b, .int .i64 (stepF xa xi xh s0 s1 s2 s3 s4 4 0 kn sa ho acc).c, .int .i64 (stepF xa xi xh s0 s1 s2 s3 s4 4 0 kn sa ho acc).d, .int .i64 (stepF xa xi xh s0 s1 s2 s3 s4 4 0 kn sa ho acc).e, v] ∧ SentP w w' X base va v (l ++ (stepF xa xi xh s0 s1 s2 s3 s4 4 0 kn sa ho acc).l) := by
  rcases hc with ⟨rfl, rfl⟩ | ⟨rfl | rfl, hk⟩
  · by_cases ha : acc = false
    · have HA := Lib.hid (hacc.symm.trans ha)
      have hR : stepF xa xi xh 2 s1 s2 s3 s4 4 0 1 sa ho acc = ⟨0, 0, 0, 0, 0, [⟨3, 0, 0, 0, 2⟩]⟩ := by simp [stepF, fallF, ha]
      rw [hR]
      exact handle_code_hearOpenR va vn vc base l X xa xi xh xp 2 s1 s2 s3 s4 none none none none 0 0 0 0 [] [] [] [] 4 0 1 sa ho ix 0 0 er 2 s1 s2 s3 s4 [⟨3, 0, 0, 0, 2⟩] 2 (#[⟨.int .i64 1, (.func (.func 86) #[.pointer (some ⟨X, 0, none⟩)] #[]), 0⟩, ⟨.int .i64 3, (.func (.func 87) #[.pointer (some ⟨X, 0, none⟩)] #[]), 1⟩, ⟨.int .i64 6, (.func (.func 88) #[.pointer (some ⟨X, 0, none⟩)] #[]), 2⟩, ⟨.int .i64 4, (.func (.func 91) #[.pointer (some ⟨X, 0, none⟩)] #[]), 3⟩, ⟨.int .i64 5, (.func (.func 92) #[.pointer (some ⟨X, 0, none⟩)] #[]), 4⟩]) 5 3 w hX (fun w h => reac_2R va vn vc X xa xi xh xp s1 s2 s3 s4 w h) rfl hX1n hg1 (fun w1 hb hx => hearOpen_badR va vn vc X xa xi xh xp 2 s1 s2 s3 s4 none none none none 0 0 0 0 [] [] [] [] 4 0 1 sa ho ix 0 0 er w1 hx u (cell_keep hb (World.block_lt_of_cell? w _ hu) hu) (by decide) (mem1G 1 1 rfl) (RdP.nil _) (RdP.nil _) (RdI.nil _) (RdI.nil _) HA) (fun w1 hx hs h1 => end_highR va vn vc base l X xa xi xh xp 2 s1 s2 s3 s4 w1 hx h1 2 (by decide) (Lib.hid hs)) HS
    · have HA := Lib.hid (hacc.symm.trans (eq_true_of_ne_false ha))
      by_cases hm3 : xh ≤ ho
      · have hR : stepF xa xi xh 2 s1 s2 s3 s4 4 0 1 sa ho acc = ⟨3, xh, 0, xh / 3, sa, [⟨4, 0, 0, 0, 0⟩]⟩ := by simp [stepF, fallF, ha, hm3]
        rw [hR]
        exact handle_nil_hearOpenR va vn vc base l X xa xi xh xp 2 s1 s2 s3 s4 none none none none 0 0 0 0 [] [] [] [] 4 0 1 sa ho ix 0 0 er 3 xh 0 (xh / 3) sa [⟨4, 0, 0, 0, 0⟩] (#[⟨.int .i64 1, (.func (.func 86) #[.pointer (some ⟨X, 0, none⟩)] #[]), 0⟩, ⟨.int .i64 3, (.func (.func 87) #[.pointer (some ⟨X, 0, none⟩)] #[]), 1⟩, ⟨.int .i64 6, (.func (.func 88) #[.pointer (some ⟨X, 0, none⟩)] #[]), 2⟩, ⟨.int .i64 4, (.func (.func 91) #[.pointer (some ⟨X, 0, none⟩)] #[]), 3⟩, ⟨.int .i64 5, (.func (.func 92) #[.pointer (some ⟨X, 0, none⟩)] #[]), 4⟩]) 5 3 w hX (fun w h => reac_2R va vn vc X xa xi xh xp s1 s2 s3 s4 w h) rfl (fun w1 hb hx hs => hearOpen_mineR va vn vc base l X xa xi xh xp 2 s1 s2 s3 s4 none none none none 0 0 0 0 [] [] [] [] 4 0 1 sa ho ix 0 0 er w1 hx u (cell_keep hb (World.block_lt_of_cell? w _ hu) hu) (by decide) (mem1G 1 1 rfl) (RdP.nil _) (RdP.nil _) (RdI.nil _) (RdI.nil _) HA hm3 hxh (Lib.hid hs)) HS
      · have hR : stepF xa xi xh 2 s1 s2 s3 s4 4 0 1 sa ho acc = ⟨3, ho, 0, ho / 3, sa, [⟨4, 0, 0, 0, 0⟩]⟩ := by simp [stepF, fallF, ha, hm3]
        rw [hR]
        exact handle_nil_hearOpenR va vn vc base l X xa xi xh xp 2 s1 s2 s3 s4 none none none none 0 0 0 0 [] [] [] [] 4 0 1 sa ho ix 0 0 er 3 ho 0 (ho / 3) sa [⟨4, 0, 0, 0, 0⟩] (#[⟨.int .i64 1, (.func (.func 86) #[.pointer (some ⟨X, 0, none⟩)] #[]), 0⟩, ⟨.int .i64 3, (.func (.func 87) #[.pointer (some ⟨X, 0, none⟩)] #[]), 1⟩, ⟨.int .i64 6, (.func (.func 88) #[.pointer (some ⟨X, 0, none⟩)] #[]), 2⟩, ⟨.int .i64 4, (.func (.func 91) #[.pointer (some ⟨X, 0, none⟩)] #[]), 3⟩, ⟨.int .i64 5, (.func (.func 92) #[.pointer (some ⟨X, 0, none⟩)] #[]), 4⟩]) 5 3 w hX (fun w h => reac_2R va vn vc X xa xi xh xp s1 s2 s3 s4 w h) rfl (fun w1 hb hx hs => hearOpen_yoursR va vn vc base l X xa xi xh xp 2 s1 s2 s3 s4 none none none none 0 0 0 0 [] [] [] [] 4 0 1 sa ho ix 0 0 er w1 hx u (cell_keep hb (World.block_lt_of_cell? w _ hu) hu) (by decide) (mem1G 1 1 rfl) (RdP.nil _) (RdP.nil _) (RdI.nil _) (RdI.nil _) HA hm3 (hho rfl) (Lib.hid hs)) HS
  · rcases hk with rfl | rfl
    · have hR : stepF xa xi xh 3 s1 s2 s3 s4 4 0 3 sa ho acc = ⟨0, 0, 0, 0, 0, []⟩ := by simp [stepF, fallF]
      rw [hR]
      exact handle_gone_hearKeepR va vn vc base l X xa xi xh xp 3 s1 s2 s3 s4 none none none none 0 0 0 0 [] [] [] [] 4 0 3 sa ho ix 0 0 er 3 s1 s2 s3 s4 [] u (#[⟨.int .i64 1, (.func (.func 86) #[.pointer (some ⟨X, 0, none⟩)] #[]), 0⟩, ⟨.int .i64 3, (.func (.func 87) #[.pointer (some ⟨X, 0, none⟩)] #[]), 1⟩, ⟨.int .i64 6, (.func (.func 88) #[.pointer (some ⟨X, 0, none⟩)] #[]), 2⟩, ⟨.int .i64 4, (.func (.func 93) #[.pointer (some ⟨X, 0, none⟩)] #[]), 3⟩, ⟨.int .i64 5, (.func (.func 94) #[.pointer (some ⟨X, 0, none⟩)] #[]), 4⟩]) 5 3 w hX (fun w h => reac_3R va vn vc X xa xi xh xp s1 s2 s3 s4 w h) rfl hX1n hg1 (fun w1 hb hx => hearKeep_goneR va vn vc X xa xi xh xp 3 s1 s2 s3 s4 none none none none 0 0 0 0 [] [] [] [] 4 0 3 sa ho ix 0 0 er w1 hx u (cell_keep hb (World.block_lt_of_cell? w _ hu) hu) rfl) (fun w1 hx hs h1 => (end_goneR va vn vc X xa xi xh xp 3 s1 s2 s3 s4 w1 hx h1 u).mono (fun e w2 h => ⟨h.1, _, h.2.1, SentP.same hs h.2.2⟩)) HS
    · have hR : stepF xa xi xh 3 s1 s2 s3 s4 4 0 4 sa ho acc = ⟨4, s1, 0, s3, s4, []⟩ := by simp [stepF, fallF]
      rw [hR]
      exact handle_nil_hearKeepR va vn vc base l X xa xi xh xp 3 s1 s2 s3 s4 none none none none 0 0 0 0 [] [] [] [] 4 0 4 sa ho ix 0 0 er 4 s1 0 s3 s4 [] (#[⟨.int .i64 1, (.func (.func 86) #[.pointer (some ⟨X, 0, none⟩)] #[]), 0⟩, ⟨.int .i64 3, (.func (.func 87) #[.pointer (some ⟨X, 0, none⟩)] #[]), 1⟩, ⟨.int .i64 6, (.func (.func 88) #[.pointer (some ⟨X, 0, none⟩)] #[]), 2⟩, ⟨.int .i64 4, (.func (.func 93) #[.pointer (some ⟨X, 0, none⟩)] #[]), 3⟩, ⟨.int .i64 5, (.func (.func 94) #[.pointer (some ⟨X, 0, none⟩)] #[]), 4⟩]) 5 3 w hX (fun w h => reac_3R va vn vc X xa xi xh xp s1 s2 s3 s4 w h) rfl (fun w1 hb hx hs => (hearKeep_yesR va vn vc X xa xi xh xp 3 s1 s2 s3 s4 none none none none 0 0 0 0 [] [] [] [] 4 0 4 sa ho ix 0 0 er w1 hx u (cell_keep hb (World.block_lt_of_cell? w _ hu) hu) (by decide) (mem1G 4 4 rfl)).mono (fun e w2 h => ⟨h.1, _, h.2.1, SentP.same hs h.2.2⟩)) HS
  · have hR : stepF xa xi xh 0 s1 s2 s3 s4 4 0 kn sa ho acc = ⟨0, s1, s2, s3, s4, []⟩ := by simp [stepF, fallF]
    rw [hR]
    exact (handle_skipR va vn vc X xa xi xh xp 0 s1 s2 s3 s4 none none none none 0 0 0 0 [] [] [] [] 4 0 kn sa ho ix 0 0 er (#[⟨.int .i64 1, (.func (.func 86) #[.pointer (some ⟨X, 0, none⟩)] #[]), 0⟩, ⟨.int .i64 3, (.func (.func 87) #[.pointer (some ⟨X, 0, none⟩)] #[]), 1⟩, ⟨.int .i64 6, (.func (.func 88) #[.pointer (some ⟨X, 0, none⟩)] #[]), 2⟩, ⟨.int .i64 0, (.func (.func 89) #[.pointer (some ⟨X, 0, none⟩)] #[]), 3⟩]) 4 w hX (fun w h => reac_0R va vn vc X xa xi xh xp s1 s2 s3 s4 w h) rfl).mono (fun e w2 h => ⟨h.1, _, h.2.1, SentP.same HS.out h.2.2⟩)
end Go.Proofs.YtcmbajphholliabDoor
namespace Go.Proofs.YtcmbajphholliabDoor
open Go.ChangeShapes Go.WideShapes Go.ChangeAt Go.RowKit Go.BigFrame Go.Joins
set_option linter.unusedVariables false
set_option linter.unusedSimpArgs false
set_option maxRecDepth 100000

def mc (ca ci ch cp a b c d e : Int) (v : Value) : List Value := [.int .i64 ca, .int .i64 ci, .int .i64 ch, .int .i64 cp, .int .i64 a, .int .i64 b, .int .i64 c, .int .i64 d, .int .i64 e, v]
/-- w is w0 with new blocks, and with blocks X and F and what lies from base on turned -/
structure Kp (w0 w : World) (base X F : Nat) : Prop where
  os : w.os = w0.os
  tape : w.tape = w0.tape
  output : w.output = w0.output
  size : w0.heap.size ≤ w.heap.size
  block : ∀ j, j < base → j ≠ X → j ≠ F → w.heap[j]? = w0.heap[j]?
  le : base ≤ w0.heap.size
theorem Kp.refl (w : World) {base X F : Nat} (h : base ≤ w.heap.size) : Kp w w base X F := ⟨rfl, rfl, rfl, Nat.le_refl _, fun _ _ _ _ => rfl, h⟩
theorem Kp.symm {w0 w : World} {base X F : Nat} (h : Kp w0 w base X F) : Kp w0 w base F X := ⟨h.os, h.tape, h.output, h.size, fun j a b c => h.block j a c b, h.le⟩
theorem Kp.below {w0 w w1 : World} {base X F : Nat} (h : Kp w0 w base X F) (g : Below w.heap.size w w1) : Kp w0 w1 base X F :=
  ⟨g.os.trans h.os, g.tape.trans h.tape, g.output.trans h.output, Nat.le_trans h.size g.size, fun j a b c => (g.block j (Nat.lt_of_lt_of_le a (Nat.le_trans h.le h.size))).trans (h.block j a b c), h.le⟩
theorem Kp.gr {w0 w w1 : World} {base X F : Nat} {r : Option Nat} (h : Kp w0 w base X F) (g : Gr w w1 X r) (hr : ∀ j, r = some j → base ≤ j) : Kp w0 w1 base X F :=
  ⟨g.os.trans h.os, g.tape.trans h.tape, g.output.trans h.output, Nat.le_trans h.size g.size, fun j a b c => (g.block j (Nat.lt_of_lt_of_le a (Nat.le_trans h.le h.size)) b (fun e => by have := hr j e.symm; omega)).trans (h.block j a b c), h.le⟩
theorem Kp.bl {w0 w : World} {base X F B : Nat} {xs : List Value} (h : Kp w0 w base X F) (b : Bl w0 B xs) (hb : B < base) (hx : B ≠ X) (hf : B ≠ F) : Bl w B xs :=
  ⟨Nat.lt_of_lt_of_le b.lt h.size, fun i x e => (World.cell?_of_block (h.block B hb hx hf)).trans (b.cs i x e), fun i hi => (World.frozen?_of_block (h.block B hb hx hf)).trans (b.fz i hi)⟩
theorem Kp.out {w w0 w1 : World} {base X F b : Nat} (h : Kp w0 w1 base X F) (g : Below b w w0) (hx : b ≤ X) (hf : b ≤ F) (hb : b ≤ base) : Below b w w1 :=
  ⟨h.os.trans g.os, h.tape.trans g.tape, h.output.trans g.output, Nat.le_trans g.size h.size, fun j hj => (h.block j (by omega) (by omega) (by omega)).trans (g.block j hj)⟩
/-- two machines in blocks X and F, with what each has sent -/
structure GS (w0 w : World) (base X F : Nat) (xs fs : Value → List Value) (va ra : Option Addr) (vn vc rn rc : Nat) (l k : List Bm) : Prop where
  bX : Bl w X (xs (.slice va vn vc))
  bF : Bl w F (fs (.slice ra rn rc))
  sX : Sent w X base (.slice va vn vc) l
  sF : Sent w F base (.slice ra rn rc) k
  ne : X ≠ F
  ap : ∀ j, rowOf va = some j → rowOf ra ≠ some j
  kp : Kp w0 w base X F
  lX : 1 < X
  lF : 1 < F
theorem GS.init {w : World} {X F : Nat} {xs fs : Value → List Value} (hX : Bl w X (xs (.slice none 0 0))) (hF : Bl w F (fs (.slice none 0 0))) (ne : X ≠ F) (lX : 1 < X) (lF : 1 < F) : GS w w w.heap.size X F xs fs none none 0 0 0 0 [] [] :=
  ⟨hX, hF, ⟨hX.lt, Nat.le_refl _, Row.nil _ _, by simp⟩, ⟨hF.lt, Nat.le_refl _, Row.nil _ _, by simp⟩, ne, fun j h => by simp [rowOf] at h, Kp.refl w (Nat.le_refl _), lX, lF⟩
section
variable {w0 w w1 : World} {base X F : Nat} {xs fs : Value → List Value} {va ra : Option Addr} {vn vc rn rc : Nat} {l k : List Bm}
theorem GS.symm (H : GS w0 w base X F xs fs va ra vn vc rn rc l k) : GS w0 w base F X fs xs ra va rn rc vn vc k l :=
  ⟨H.bF, H.bX, H.sF, H.sX, H.ne.symm, fun j h1 h2 => H.ap j h2 h1, H.kp.symm, H.lF, H.lX⟩
theorem GS.below (H : GS w0 w base X F xs fs va ra vn vc rn rc l k) (hb : Below w.heap.size w w1) : GS w0 w1 base X F xs fs va ra vn vc rn rc l k :=
  ⟨H.bX.keep hb, H.bF.keep hb, H.sX.below hb, H.sF.below hb, H.ne, H.ap, H.kp.below hb, H.lX, H.lF⟩
theorem GS.cell (H : GS w0 w base X F xs fs va ra vn vc rn rc l k) {b o : Nat} {x : Value} (hb : b ≤ 1) (h : w0.cell? ⟨b, o, none⟩ = some x) : w.cell? ⟨b, o, none⟩ = some x := by
  have h1 := H.lX
  have h2 := H.lF
  have h3 := H.sX.x
  exact (World.cell?_of_block (a := ⟨b, o, none⟩) (H.kp.block b (by omega) (by omega) (by omega))).trans h
theorem own_row {w : World} {base : Nat} {a : Option Addr} {n c : Nat} {l : List Bm} (h : Row w base (.slice a n c) l) (k : Nat) (hk : rowOf a = some k) : base ≤ k ∧ k < w.heap.size := h.lt k ((own_slice a n c).trans hk)
theorem GS.hear (H : GS w0 w base X F xs fs va ra vn vc rn rc l k) {xs' : Value → List Value} {va' : Option Addr} {vn' vc' : Nat} {l' : List Bm} (hX : Bl w1 X (xs' (.slice va' vn' vc'))) (P : SentP w w1 X base va (.slice va' vn' vc') l') (hl : l'.length ≤ 1000) :
    GS w0 w1 base X F xs' fs va' ra vn' vc' rn rc l' k := by
  have hx := H.sX.x
  have hf := H.sF.x
  have hrow : ∀ j, rowOf va = some j → base ≤ j ∧ j < w.heap.size := fun j hj => own_row H.sX.r j hj
  refine ⟨hX, H.bF.gr P.gr H.ne.symm (fun e => ?_), ⟨hx, Nat.le_trans H.sX.b P.gr.size, P.row, hl⟩, ⟨hf, Nat.le_trans H.sF.b P.gr.size, H.sF.r.gr P.gr hx (fun j hj e => ?_), H.sF.n⟩, H.ne, fun j hj hj2 => ?_, H.kp.gr P.gr (fun j hj => (hrow j hj).1), H.lX, H.lF⟩
  · have := (hrow F e.symm).1
    omega
  · rw [own_slice] at hj
    exact H.ap j e.symm hj
  · rcases P.ow with q | q
    · rw [own_slice] at q
      exact H.ap j (q.symm.trans hj) hj2
    · have h1 := q j ((own_slice _ _ _).trans hj)
      have h2 := (own_row H.sF.r j hj2).2
      omega
theorem Row.cut {w : World} {base g o cap : Nat} {m : Bm} {k : List Bm} (h : Row w base (.slice (some ⟨g, o, none⟩) (k.length + 1) cap) (m :: k)) : Row w base (.slice (some ⟨g, o + 11, none⟩) k.length (cap - 1)) k := by
  rcases h with ⟨-, h⟩ | ⟨g', o', cap', hv, c1, c2, c3, c4, c5, c6, c7⟩
  · cases h
  · simp at hv
    obtain ⟨⟨rfl, rfl⟩, rfl⟩ := hv
    simp at c1
    refine .inr ⟨g, o + 11, cap - 1, rfl, by omega, by omega, c3, c4, fun j x hj => ?_, fun j ha hj => ?_, c7⟩
    · rw [show o + 11 + j = o + (j + 11) by omega]
      refine c5 (j + 11) x ?_
      have e : flatM (m :: k) = m.cells ++ flatM k := by simp [flatM]
      rw [e, List.getElem?_append_right (by simp [Bm.cells])]
      simpa [Bm.cells] using hj
    · rw [show o + 11 + j = o + (j + 11) by omega]
      exact c6 (j + 11) (by simp; omega) (by omega)
theorem Row.cut1 {w : World} {base g o : Nat} {m : Bm} (h : Row w base (.slice (some ⟨g, o, none⟩) 1 1) [m]) : Row w base (.slice (some ⟨g, o, none⟩) 0 0) [] := by
  rcases h with ⟨-, h⟩ | ⟨g', o', cap', hv, c1, c2, c3, c4, c5, c6, c7⟩
  · cases h
  · simp at hv
    obtain ⟨⟨rfl, rfl⟩, rfl⟩ := hv
    exact .inr ⟨g, o, 0, rfl, by simp, by omega, c3, c4, fun j x hj => by simp [flatM] at hj, fun j ha hj => by omega, c7⟩
theorem GS.cut {ca ci ch cp a b c d e : Int} {m : Bm} (H : GS w0 w base X F xs (mc ca ci ch cp a b c d e) va ra vn vc rn rc l (m :: k)) {ra' : Option Addr} {rn' rc' : Nat} (hv : Row w base (.slice ra' rn' rc') k) (hr : rowOf ra' = rowOf ra) :
    GS w0 (w.setCell ⟨F, 9, none⟩ (.slice ra' rn' rc')) base X F xs (mc ca ci ch cp a b c d e) va ra' vn vc rn' rc' l k := by
  have g := grown_set w F 9 (.slice ra' rn' rc')
  have hx := H.sX.x
  have hf := H.sF.x
  refine ⟨H.bX.far H.ne, H.bF.set 9 (.slice ra' rn' rc'), ⟨hx, Nat.le_trans H.sX.b g.size, H.sX.r.grown g hf, H.sX.n⟩, ⟨hf, Nat.le_trans H.sF.b g.size, hv.grown g hf, by have := H.sF.n; simp at this; omega⟩, H.ne, fun j hj => by rw [hr]; exact H.ap j hj, (H.kp.symm.gr (Gr.of g none) (fun j hj => by cases hj)).symm, H.lX, H.lF⟩
end
theorem len1_ite {c : Prop} [Decidable c] {a b : St} (ha : a.l.length ≤ 1) (hb : b.l.length ≤ 1) : (if c then a else b).l.length ≤ 1 := by
  split
  · exact ha
  · exact hb
theorem stepF_len (xa xi xh s0 s1 s2 s3 s4 ek ee kn sa ho : Int) (acc : Bool) : (stepF xa xi xh s0 s1 s2 s3 s4 ek ee kn sa ho acc).l.length ≤ 1 := by
  unfold stepF fallF
  repeat' (first | exact Nat.le_refl _ | exact Nat.zero_le _ | apply len1_ite)
theorem recv0 {w0 w : World} {base X F : Nat} {xs : Value → List Value} {fa fi fh fp t0 t1 t2 t3 t4 : Int} {va ra : Option Addr} {vn vc rn rc : Nat} {l : List Bm} (H : GS w0 w base X F xs (mc fa fi fh fp t0 t1 t2 t3 t4) va ra vn vc rn rc l []) :
    Calls Tryd.prog 30 #[.pointer (some ⟨X, 0, none⟩), .pointer (some ⟨F, 0, none⟩)] w fun e w' => e = .returned (.bool false) ∧ w = w' := by
  obtain rfl : rn = 0 := by
    obtain ⟨a, c, h⟩ := H.sF.r.cap
    simp at h
    exact h.2.1
  have f9 := H.bF.c 9 (x := .slice ra 0 rc) rfl
  clear H
  go_enter Tryd.func30, Tryd.ntmps30
  go_wp2
  go_ret
  exact ⟨rfl, rfl⟩
set_option maxHeartbeats 4000000 in
theorem recv1 {w0 w : World} {base X F : Nat} {xa xi xh xp s0 s1 s2 s3 s4 fa fi fh fp t0 t1 t2 t3 t4 : Int} {va ra : Option Addr} {vn vc rn rc : Nat} {l : List Bm} {m : Bm} {u : Value} (H : GS w0 w base X F (mc xa xi xh xp s0 s1 s2 s3 s4) (mc fa fi fh fp t0 t1 t2 t3 t4) va ra vn vc rn rc l [m])
    (hu0 : w0.cell? ⟨0, 0, none⟩ = some (.iface 194 u)) (hg0 : w0.cell? ⟨1, 0, none⟩ = some (.iface 172 (.agg #[.pointer (some ⟨6, 103, none⟩)]))) (acc : Bool) (hacc : acc = accB xa xi xh xp [] [] [] [] m.k m.a m.h m.i 0 0 m.er) (hxh : 3 ≤ xh ∧ xh ≤ 255) (hho : m.k = 1 → 3 ≤ m.h ∧ m.h ≤ 255) (hc : (s0 = 2 ∧ m.k = 1) ∨ ((s0 = 3 ∨ s0 = 0) ∧ (m.k = 3 ∨ m.k = 4))) (hl : l.length ≤ 100) :
    Calls Tryd.prog 30 #[.pointer (some ⟨X, 0, none⟩), .pointer (some ⟨F, 0, none⟩)] w fun e w' => e = .returned (.bool true) ∧ ∃ va' ra' vn' vc' rn' rc', GS w0 w' base X F (mc xa xi xh xp (stepF xa xi xh s0 s1 s2 s3 s4 4 0 m.k m.a m.h acc).a (stepF xa xi xh s0 s1 s2 s3 s4 4 0 m.k m.a m.h acc).b (stepF xa xi xh s0 s1 s2 s3 s4 4 0 m.k m.a m.h acc).c (stepF xa xi xh s0 s1 s2 s3 s4 4 0 m.k m.a m.h acc).d (stepF xa xi xh s0 s1 s2 s3 s4 4 0 m.k m.a m.h acc).e) (mc fa fi fh fp t0 t1 t2 t3 t4) va' ra' vn' vc' rn' rc' (l ++ (stepF xa xi xh s0 s1 s2 s3 s4 4 0 m.k m.a m.h acc).l) [] := by
  have hr := H.sF.r
  rcases hr with ⟨-, hk⟩ | ⟨g, o, cap, hv, c1, c2, c3, c4, c5, c6, c7⟩
  · cases hk
  simp at hv
  obtain ⟨rfl, rfl, rfl⟩ := hv
  simp at c1
  by_cases hcap : rc = 1
  · subst hcap
    have lF := H.bF.lt
    have f9 := H.bF.c 9 (x := _) rfl
    have f9f := H.bF.f 9 (x := _) rfl
    have q0 : w.cell? ⟨g, o, none⟩ = some (.int .i64 m.k) := by have := c5 0 (.int .i64 m.k) rfl; simpa using this
    have q1 : w.cell? ⟨g, o + 1, none⟩ = some (.int .i64 m.a) := by have := c5 1 (.int .i64 m.a) rfl; simpa using this
    have q2 : w.cell? ⟨g, o + 2, none⟩ = some (.int .i64 m.h) := by have := c5 2 (.int .i64 m.h) rfl; simpa using this
    have q3 : w.cell? ⟨g, o + 3, none⟩ = some (.int .i64 m.i) := by have := c5 3 (.int .i64 m.i) rfl; simpa using this
    have q4 : w.cell? ⟨g, o + 4, none⟩ = some (.slice none 0 0) := by have := c5 4 (.slice none 0 0) rfl; simpa using this
    have q5 : w.cell? ⟨g, o + 5, none⟩ = some (.slice none 0 0) := by have := c5 5 (.slice none 0 0) rfl; simpa using this
    have q6 : w.cell? ⟨g, o + 6, none⟩ = some (.slice none 0 0) := by have := c5 6 (.slice none 0 0) rfl; simpa using this
    have q7 : w.cell? ⟨g, o + 7, none⟩ = some (.int .i64 0) := by have := c5 7 (.int .i64 0) rfl; simpa using this
    have q8 : w.cell? ⟨g, o + 8, none⟩ = some (.slice none 0 0) := by have := c5 8 (.slice none 0 0) rfl; simpa using this
    have q9 : w.cell? ⟨g, o + 9, none⟩ = some (.int .i64 0) := by have := c5 9 (.int .i64 0) rfl; simpa using this
    have q10 : w.cell? ⟨g, o + 10, none⟩ = some (.int .i64 m.er) := by have := c5 10 (.int .i64 m.er) rfl; simpa using this
    have H1 := (H.cut (ra' := some ⟨g, o, none⟩) (rn' := 0) (rc' := 0) (Row.cut1 H.sF.r) rfl).below ((Below.refl _ _).alloc (Nat.le_refl _) (.cells #[.int .i64 m.k, .int .i64 m.a, .int .i64 m.h, .int .i64 m.i, .slice none 0 0, .slice none 0 0, .slice none 0 0, .int .i64 0, .slice none 0 0, .int .i64 0, .int .i64 m.er] 38))
    have HH := Lib.hid H1
    have HC := Lib.hid hc
    have HO := Lib.hid hho
    have HAC := Lib.hid hacc
    have HX3 := Lib.hid hxh
    have HL := Lib.hid hl
    have HU := Lib.hid hu0
    have HG := Lib.hid hg0
    clear H1 H c5 c6 c7 hc hho hacc hxh hl hu0 hg0
    go_enter Tryd.func30, Tryd.ntmps30
    go_wp2_with fail
    refine (hearG va vn vc base l X xa xi xh xp s0 s1 s2 s3 s4 m.k m.a m.h m.i m.er u _ HH.out.bX (Lib.hid HH.out.sX) (HH.out.cell (Nat.zero_le _) HU.out) (HH.out.cell (Nat.le_refl _) HG.out) (Nat.ne_of_lt HH.out.lX) acc HAC.out HX3.out HO.out HC.out).mono ?_
    rintro e w2 ⟨rfl, v, bX2, P⟩
    obtain ⟨va', vn', vc', rfl⟩ := Row.cap3 P.row
    have H2 := HH.out.hear (xs' := mc xa xi xh xp (stepF xa xi xh s0 s1 s2 s3 s4 4 0 m.k m.a m.h acc).a (stepF xa xi xh s0 s1 s2 s3 s4 4 0 m.k m.a m.h acc).b (stepF xa xi xh s0 s1 s2 s3 s4 4 0 m.k m.a m.h acc).c (stepF xa xi xh s0 s1 s2 s3 s4 4 0 m.k m.a m.h acc).d (stepF xa xi xh s0 s1 s2 s3 s4 4 0 m.k m.a m.h acc).e) bX2 P (by have := stepF_len xa xi xh s0 s1 s2 s3 s4 4 0 m.k m.a m.h acc; have := HL.out; simp; omega)
    clear bX2 P HH
    go_wp2
    go_ret
    exact ⟨rfl, _, _, _, _, _, _, H2⟩
  · have hcap1 : 1 ≤ rc := by omega
    have lF := H.bF.lt
    have f9 := H.bF.c 9 (x := _) rfl
    have f9f := H.bF.f 9 (x := _) rfl
    have q0 : w.cell? ⟨g, o, none⟩ = some (.int .i64 m.k) := by have := c5 0 (.int .i64 m.k) rfl; simpa using this
    have q1 : w.cell? ⟨g, o + 1, none⟩ = some (.int .i64 m.a) := by have := c5 1 (.int .i64 m.a) rfl; simpa using this
    have q2 : w.cell? ⟨g, o + 2, none⟩ = some (.int .i64 m.h) := by have := c5 2 (.int .i64 m.h) rfl; simpa using this
    have q3 : w.cell? ⟨g, o + 3, none⟩ = some (.int .i64 m.i) := by have := c5 3 (.int .i64 m.i) rfl; simpa using this
    have q4 : w.cell? ⟨g, o + 4, none⟩ = some (.slice none 0 0) := by have := c5 4 (.slice none 0 0) rfl; simpa using this
    have q5 : w.cell? ⟨g, o + 5, none⟩ = some (.slice none 0 0) := by have := c5 5 (.slice none 0 0) rfl; simpa using this
    have q6 : w.cell? ⟨g, o + 6, none⟩ = some (.slice none 0 0) := by have := c5 6 (.slice none 0 0) rfl; simpa using this
    have q7 : w.cell? ⟨g, o + 7, none⟩ = some (.int .i64 0) := by have := c5 7 (.int .i64 0) rfl; simpa using this
    have q8 : w.cell? ⟨g, o + 8, none⟩ = some (.slice none 0 0) := by have := c5 8 (.slice none 0 0) rfl; simpa using this
    have q9 : w.cell? ⟨g, o + 9, none⟩ = some (.int .i64 0) := by have := c5 9 (.int .i64 0) rfl; simpa using this
    have q10 : w.cell? ⟨g, o + 10, none⟩ = some (.int .i64 m.er) := by have := c5 10 (.int .i64 m.er) rfl; simpa using this
    have H1 := (H.cut (ra' := some ⟨g, o + 11, none⟩) (rn' := 0) (rc' := rc - 1) (Row.cut (m := m) (k := []) H.sF.r) rfl).below ((Below.refl _ _).alloc (Nat.le_refl _) (.cells #[.int .i64 m.k, .int .i64 m.a, .int .i64 m.h, .int .i64 m.i, .slice none 0 0, .slice none 0 0, .slice none 0 0, .int .i64 0, .slice none 0 0, .int .i64 0, .int .i64 m.er] 38))
    have HH := Lib.hid H1
    have HC := Lib.hid hc
    have HO := Lib.hid hho
    have HAC := Lib.hid hacc
    have HX3 := Lib.hid hxh
    have HL := Lib.hid hl
    have HU := Lib.hid hu0
    have HG := Lib.hid hg0
    clear H1 H c5 c6 c7 hc hho hacc hxh hl hu0 hg0
    go_enter Tryd.func30, Tryd.ntmps30
    go_wp2_with fail
    refine (hearG va vn vc base l X xa xi xh xp s0 s1 s2 s3 s4 m.k m.a m.h m.i m.er u _ HH.out.bX (Lib.hid HH.out.sX) (HH.out.cell (Nat.zero_le _) HU.out) (HH.out.cell (Nat.le_refl _) HG.out) (Nat.ne_of_lt HH.out.lX) acc HAC.out HX3.out HO.out HC.out).mono ?_
    rintro e w2 ⟨rfl, v, bX2, P⟩
    obtain ⟨va', vn', vc', rfl⟩ := Row.cap3 P.row
    have H2 := HH.out.hear (xs' := mc xa xi xh xp (stepF xa xi xh s0 s1 s2 s3 s4 4 0 m.k m.a m.h acc).a (stepF xa xi xh s0 s1 s2 s3 s4 4 0 m.k m.a m.h acc).b (stepF xa xi xh s0 s1 s2 s3 s4 4 0 m.k m.a m.h acc).c (stepF xa xi xh s0 s1 s2 s3 s4 4 0 m.k m.a m.h acc).d (stepF xa xi xh s0 s1 s2 s3 s4 4 0 m.k m.a m.h acc).e) bX2 P (by have := stepF_len xa xi xh s0 s1 s2 s3 s4 4 0 m.k m.a m.h acc; have := HL.out; simp; omega)
    clear bX2 P HH
    go_wp2
    go_ret
    exact ⟨rfl, _, _, _, _, _, _, H2⟩
set_option maxHeartbeats 4000000 in
theorem recv2 {w0 w : World} {base X F : Nat} {xa xi xh xp s0 s1 s2 s3 s4 fa fi fh fp t0 t1 t2 t3 t4 : Int} {va ra : Option Addr} {vn vc rn rc : Nat} {l : List Bm} {m m2 : Bm} {u : Value} (H : GS w0 w base X F (mc xa xi xh xp s0 s1 s2 s3 s4) (mc fa fi fh fp t0 t1 t2 t3 t4) va ra vn vc rn rc l [m, m2])
    (hu0 : w0.cell? ⟨0, 0, none⟩ = some (.iface 194 u)) (hg0 : w0.cell? ⟨1, 0, none⟩ = some (.iface 172 (.agg #[.pointer (some ⟨6, 103, none⟩)]))) (acc : Bool) (hacc : acc = accB xa xi xh xp [] [] [] [] m.k m.a m.h m.i 0 0 m.er) (hxh : 3 ≤ xh ∧ xh ≤ 255) (hho : m.k = 1 → 3 ≤ m.h ∧ m.h ≤ 255) (hc : (s0 = 2 ∧ m.k = 1) ∨ ((s0 = 3 ∨ s0 = 0) ∧ (m.k = 3 ∨ m.k = 4))) (hl : l.length ≤ 100) :
    Calls Tryd.prog 30 #[.pointer (some ⟨X, 0, none⟩), .pointer (some ⟨F, 0, none⟩)] w fun e w' => e = .returned (.bool true) ∧ ∃ va' ra' vn' vc' rn' rc', GS w0 w' base X F (mc xa xi xh xp (stepF xa xi xh s0 s1 s2 s3 s4 4 0 m.k m.a m.h acc).a (stepF xa xi xh s0 s1 s2 s3 s4 4 0 m.k m.a m.h acc).b (stepF xa xi xh s0 s1 s2 s3 s4 4 0 m.k m.a m.h acc).c (stepF xa xi xh s0 s1 s2 s3 s4 4 0 m.k m.a m.h acc).d (stepF xa xi xh s0 s1 s2 s3 s4 4 0 m.k m.a m.h acc).e) (mc fa fi fh fp t0 t1 t2 t3 t4) va' ra' vn' vc' rn' rc' (l ++ (stepF xa xi xh s0 s1 s2 s3 s4 4 0 m.k m.a m.h acc).l) [m2] := by
  have hr := H.sF.r
  rcases hr with ⟨-, hk⟩ | ⟨g, o, cap, hv, c1, c2, c3, c4, c5, c6, c7⟩
  · cases hk
  simp at hv
  obtain ⟨rfl, rfl, rfl⟩ := hv
  simp at c1
  · have hcap : ¬ rc = 1 := by omega
    have hcap1 : 1 ≤ rc := by omega
    have lF := H.bF.lt
    have f9 := H.bF.c 9 (x := _) rfl
    have f9f := H.bF.f 9 (x := _) rfl
    have q0 : w.cell? ⟨g, o, none⟩ = some (.int .i64 m.k) := by have := c5 0 (.int .i64 m.k) rfl; simpa using this
    have q1 : w.cell? ⟨g, o + 1, none⟩ = some (.int .i64 m.a) := by have := c5 1 (.int .i64 m.a) rfl; simpa using this
    have q2 : w.cell? ⟨g, o + 2, none⟩ = some (.int .i64 m.h) := by have := c5 2 (.int .i64 m.h) rfl; simpa using this
    have q3 : w.cell? ⟨g, o + 3, none⟩ = some (.int .i64 m.i) := by have := c5 3 (.int .i64 m.i) rfl; simpa using this
    have q4 : w.cell? ⟨g, o + 4, none⟩ = some (.slice none 0 0) := by have := c5 4 (.slice none 0 0) rfl; simpa using this
    have q5 : w.cell? ⟨g, o + 5, none⟩ = some (.slice none 0 0) := by have := c5 5 (.slice none 0 0) rfl; simpa using this
    have q6 : w.cell? ⟨g, o + 6, none⟩ = some (.slice none 0 0) := by have := c5 6 (.slice none 0 0) rfl; simpa using this
    have q7 : w.cell? ⟨g, o + 7, none⟩ = some (.int .i64 0) := by have := c5 7 (.int .i64 0) rfl; simpa using this
    have q8 : w.cell? ⟨g, o + 8, none⟩ = some (.slice none 0 0) := by have := c5 8 (.slice none 0 0) rfl; simpa using this
    have q9 : w.cell? ⟨g, o + 9, none⟩ = some (.int .i64 0) := by have := c5 9 (.int .i64 0) rfl; simpa using this
    have q10 : w.cell? ⟨g, o + 10, none⟩ = some (.int .i64 m.er) := by have := c5 10 (.int .i64 m.er) rfl; simpa using this
    have H1 := (H.cut (ra' := some ⟨g, o + 11, none⟩) (rn' := 1) (rc' := rc - 1) (Row.cut (m := m) (k := [m2]) H.sF.r) rfl).below ((Below.refl _ _).alloc (Nat.le_refl _) (.cells #[.int .i64 m.k, .int .i64 m.a, .int .i64 m.h, .int .i64 m.i, .slice none 0 0, .slice none 0 0, .slice none 0 0, .int .i64 0, .slice none 0 0, .int .i64 0, .int .i64 m.er] 38))
    have HH := Lib.hid H1
    have HC := Lib.hid hc
    have HO := Lib.hid hho
    have HAC := Lib.hid hacc
    have HX3 := Lib.hid hxh
    have HL := Lib.hid hl
    have HU := Lib.hid hu0
    have HG := Lib.hid hg0
    clear H1 H c5 c6 c7 hc hho hacc hxh hl hu0 hg0
    go_enter Tryd.func30, Tryd.ntmps30
    go_wp2_with fail
    refine (hearG va vn vc base l X xa xi xh xp s0 s1 s2 s3 s4 m.k m.a m.h m.i m.er u _ HH.out.bX (Lib.hid HH.out.sX) (HH.out.cell (Nat.zero_le _) HU.out) (HH.out.cell (Nat.le_refl _) HG.out) (Nat.ne_of_lt HH.out.lX) acc HAC.out HX3.out HO.out HC.out).mono ?_
    rintro e w2 ⟨rfl, v, bX2, P⟩
    obtain ⟨va', vn', vc', rfl⟩ := Row.cap3 P.row
    have H2 := HH.out.hear (xs' := mc xa xi xh xp (stepF xa xi xh s0 s1 s2 s3 s4 4 0 m.k m.a m.h acc).a (stepF xa xi xh s0 s1 s2 s3 s4 4 0 m.k m.a m.h acc).b (stepF xa xi xh s0 s1 s2 s3 s4 4 0 m.k m.a m.h acc).c (stepF xa xi xh s0 s1 s2 s3 s4 4 0 m.k m.a m.h acc).d (stepF xa xi xh s0 s1 s2 s3 s4 4 0 m.k m.a m.h acc).e) bX2 P (by have := stepF_len xa xi xh s0 s1 s2 s3 s4 4 0 m.k m.a m.h acc; have := HL.out; simp; omega)
    clear bX2 P HH
    go_wp2
    go_ret
    exact ⟨rfl, _, _, _, _, _, _, H2⟩
end Go.Proofs.YtcmbajphholliabDoor
namespace Go.Proofs.YtcmbajphholliabDoor
open Go.ChangeShapes Go.WideShapes Go.ChangeAt Go.RowKit Go.BigFrame Go.Joins
set_option linter.unusedVariables false
set_option linter.unusedSimpArgs false
set_option maxRecDepth 100000

theorem start_anyR (va : Option Addr) (vn vc : Nat) (X : Nat) (xa xi xh xp s0 s1 s2 s3 s4 : Int) (ga ca pa ma : Option Addr) (gx cx px mx : Nat) (gs cs : List (Int × Int)) (ps ms : List Int) (ek ee kn sa ho ix pr bw er : Int) (w : World) (hX : Bl w X [.int .i64 xa, .int .i64 xi, .int .i64 xh, .int .i64 xp, .int .i64 s0, .int .i64 s1, .int .i64 s2, .int .i64 s3, .int .i64 s4, .slice va vn vc])  :
    Calls Tryd.prog 89 #[.pointer (some ⟨X, 0, none⟩), .agg #[.int .i64 ek, .int .i64 kn, .int .i64 sa, .int .i64 ho, .int .i64 ix, .slice ga gs.length gx, .slice ca cs.length cx, .slice pa ps.length px, .int .i64 pr, .slice ma ms.length mx, .int .i64 bw, .int .i64 er, .int .i64 ee]] w fun e w' => e = .returned (.nilIface) ∧ Bl w' X [.int .i64 xa, .int .i64 xi, .int .i64 xh, .int .i64 xp, .int .i64 1, .int .i64 s1, .int .i64 s2, .int .i64 s3, .int .i64 s4, .slice va vn vc] ∧ w.grownBy w' (some X) := by
  obtain ⟨bE, B0, z⟩ := one w [.int .i64 ek, .int .i64 kn, .int .i64 sa, .int .i64 ho, .int .i64 ix, .slice ga gs.length gx, .slice ca cs.length cx, .slice pa ps.length px, .int .i64 pr, .slice ma ms.length mx, .int .i64 bw, .int .i64 er, .int .i64 ee] 48
  have lX := hX.lt
  have hX0 := hX
  replace hX := hX.keep B0
  have g0 := grown_below B0 (some X)
  clear z
  have x4 := hX.c 4 rfl
  have xf4 := hX.f 4 (x := _) rfl
  go_enter Tryd.func89, Tryd.ntmps89
  go_wp2
  go_ret
  exact ⟨rfl, (by simpa only [List.set_cons_zero, List.set_cons_succ] using (hX0.set 4 (.int .i64 1)).alloc _), grow_row (grown_set w X 4 _) (grown_alloc (World.grownBy.refl _ none) _) (fun k hk => by cases hk)⟩
theorem connect_anyR (va : Option Addr) (vn vc base : Nat) (l : List Bm) (X : Nat) (xa xi xh xp s0 s1 s2 s3 s4 : Int) (ga ca pa ma : Option Addr) (gx cx px mx : Nat) (gs cs : List (Int × Int)) (ps ms : List Int) (ek ee kn sa ho ix pr bw er : Int) (w : World) (hX : Bl w X [.int .i64 xa, .int .i64 xi, .int .i64 xh, .int .i64 xp, .int .i64 s0, .int .i64 s1, .int .i64 s2, .int .i64 s3, .int .i64 s4, .slice va vn vc])  (HS : Hid (Sent w X base (.slice va vn vc) l)) :
    Calls Tryd.prog 90 #[.pointer (some ⟨X, 0, none⟩), .agg #[.int .i64 ek, .int .i64 kn, .int .i64 sa, .int .i64 ho, .int .i64 ix, .slice ga gs.length gx, .slice ca cs.length cx, .slice pa ps.length px, .int .i64 pr, .slice ma ms.length mx, .int .i64 bw, .int .i64 er, .int .i64 ee]] w fun e w' => e = .returned (.nilIface) ∧ ∃ v, Bl w' X [.int .i64 xa, .int .i64 xi, .int .i64 xh, .int .i64 xp, .int .i64 2, .int .i64 xh, .int .i64 0, .int .i64 0, .int .i64 0, v] ∧ SentP w w' X base va v (l ++ [⟨1, xa, xh, xi, 0⟩]) := by
  obtain ⟨bE, B0, z⟩ := one w [.int .i64 ek, .int .i64 kn, .int .i64 sa, .int .i64 ho, .int .i64 ix, .slice ga gs.length gx, .slice ca cs.length cx, .slice pa ps.length px, .int .i64 pr, .slice ma ms.length mx, .int .i64 bw, .int .i64 er, .int .i64 ee] 48
  have hne : X ≠ w.heap.size := Nat.ne_of_lt hX.lt
  have hne' : w.heap.size ≠ X := Nat.ne_of_gt hX.lt
  replace hX := hX.keep B0
  have g0 := grown_below B0 (some X)
  clear z
  have x0 := hX.c 0 rfl
  have xf0 := hX.f 0 (x := _) rfl
  have x1 := hX.c 1 rfl
  have xf1 := hX.f 1 (x := _) rfl
  have x2 := hX.c 2 rfl
  have xf2 := hX.f 2 (x := _) rfl
  have x3 := hX.c 3 rfl
  have xf3 := hX.f 3 (x := _) rfl
  have x4 := hX.c 4 rfl
  have xf4 := hX.f 4 (x := _) rfl
  have x5 := hX.c 5 rfl
  have xf5 := hX.f 5 (x := _) rfl
  have x6 := hX.c 6 rfl
  have xf6 := hX.f 6 (x := _) rfl
  have x7 := hX.c 7 rfl
  have xf7 := hX.f 7 (x := _) rfl
  have x8 := hX.c 8 rfl
  have xf8 := hX.f 8 (x := _) rfl
  have x9 := hX.c 9 rfl
  have xf9 := hX.f 9 (x := _) rfl
  go_enter Tryd.func90, Tryd.ntmps90
  go_wp2_with fail
  clear x0 xf0 x1 xf1 x2 xf2 x3 xf3 x4 xf4 x5 xf5 x6 xf6 x7 xf7 x8 xf8 x9 xf9
  have hX1 := (((((hX.set 4 (.int .i64 2)).set 5 (.int .i64 xh)).set 6 (.int .i64 0)).set 7 (.int .i64 0)).set 8 (.int .i64 0))
  have g1 := (grown_trans (grown_trans (grown_trans (grown_trans (grown_trans g0 (grown_set _ X 4 (.int .i64 2))) (grown_set _ X 5 (.int .i64 xh))) (grown_set _ X 6 (.int .i64 0))) (grown_set _ X 7 (.int .i64 0))) (grown_set _ X 8 (.int .i64 0)))
  simp only [List.set_cons_zero, List.set_cons_succ] at hX1
  refine (iopen_any xa xi xh xp _).mono ?_
  rintro e w1 ⟨rfl, hb⟩
  have hX2 := hX1.keep hb
  have g2 := grow_row g1 (grown_below hb none) (fun k hk => by cases hk)
  clear hb g1 hX1 hX
  go_wp2_with fail
  refine (sendR va vn vc base l X xa xi xh xp (2) (xh) (0) (0) (0) ⟨1, xa, xh, xi, 0⟩ _ _ (fun w => pack_O xa xh xi w) hX2 (Lib.hid (HS.out.step g2))).mono ?_
  rintro e w9 ⟨rfl, v9, hX9, o9⟩
  have O9 := o9.back g2
  clear o9 hX2
  go_wp2
  go_ret
  exact ⟨rfl, v9, hX9, O9⟩
set_option maxHeartbeats 4000000 in
theorem reac_1R (va : Option Addr) (vn vc : Nat) (X : Nat) (xa xi xh xp s1 s2 s3 s4 : Int) (w : World) (hX : Bl w X [.int .i64 xa, .int .i64 xi, .int .i64 xh, .int .i64 xp, .int .i64 1, .int .i64 s1, .int .i64 s2, .int .i64 s3, .int .i64 s4, .slice va vn vc]) :
    Calls Tryd.prog 62 #[.pointer (some ⟨X, 0, none⟩)] w fun e w' => e = .returned (.map (some w.heap.size)) ∧ w'.heap[w.heap.size]? = some (.map #[⟨.int .i64 1, (.func (.func 86) #[.pointer (some ⟨X, 0, none⟩)] #[]), 0⟩, ⟨.int .i64 3, (.func (.func 87) #[.pointer (some ⟨X, 0, none⟩)] #[]), 1⟩, ⟨.int .i64 6, (.func (.func 88) #[.pointer (some ⟨X, 0, none⟩)] #[]), 2⟩, ⟨.int .i64 2, (.func (.func 90) #[.pointer (some ⟨X, 0, none⟩)] #[]), 3⟩] 4) ∧ Below w.heap.size w w' := by
  have hmm := @run_makeMap Tryd.prog
  have hmf : ∀ (fn : Fn) (first cap : Array Value) (w : World), (Instr.makeFunc fn first cap).run Tryd.prog w = .ok (.func fn first cap) w := fun _ _ _ _ => rfl
  have u0 : ∀ (v0 : Value) (w : World), (Instr.mapUpdate 100 (.map (some w.heap.size)) (.int .i64 1) v0).run Tryd.prog (w.alloc (.map #[] 0)) = .ok () (w.alloc (.map #[⟨.int .i64 1, v0, 0⟩] 1)) := fun v0 w => upd_new #[] 0 1 v0 w rfl
  have u1 : ∀ (v0 v1 : Value) (w : World), (Instr.mapUpdate 100 (.map (some w.heap.size)) (.int .i64 3) v1).run Tryd.prog (w.alloc (.map #[⟨.int .i64 1, v0, 0⟩] 1)) = .ok () (w.alloc (.map #[⟨.int .i64 1, v0, 0⟩, ⟨.int .i64 3, v1, 1⟩] 2)) := fun v0 v1 w => upd_new #[⟨.int .i64 1, v0, 0⟩] 1 3 v1 w rfl
  have u2 : ∀ (v0 v1 v2 : Value) (w : World), (Instr.mapUpdate 100 (.map (some w.heap.size)) (.int .i64 6) v2).run Tryd.prog (w.alloc (.map #[⟨.int .i64 1, v0, 0⟩, ⟨.int .i64 3, v1, 1⟩] 2)) = .ok () (w.alloc (.map #[⟨.int .i64 1, v0, 0⟩, ⟨.int .i64 3, v1, 1⟩, ⟨.int .i64 6, v2, 2⟩] 3)) := fun v0 v1 v2 w => upd_new #[⟨.int .i64 1, v0, 0⟩, ⟨.int .i64 3, v1, 1⟩] 2 6 v2 w rfl
  have u3 : ∀ (v0 v1 v2 v3 : Value) (w : World), (Instr.mapUpdate 100 (.map (some w.heap.size)) (.int .i64 2) v3).run Tryd.prog (w.alloc (.map #[⟨.int .i64 1, v0, 0⟩, ⟨.int .i64 3, v1, 1⟩, ⟨.int .i64 6, v2, 2⟩] 3)) = .ok () (w.alloc (.map #[⟨.int .i64 1, v0, 0⟩, ⟨.int .i64 3, v1, 1⟩, ⟨.int .i64 6, v2, 2⟩, ⟨.int .i64 2, v3, 3⟩] 4)) := fun v0 v1 v2 v3 w => upd_new #[⟨.int .i64 1, v0, 0⟩, ⟨.int .i64 3, v1, 1⟩, ⟨.int .i64 6, v2, 2⟩] 3 2 v3 w rfl
  have xq : ∀ o, (w.alloc o).cell? ⟨X, 4, none⟩ = some (.int .i64 1) := fun o => (hX.alloc o).c 4 rfl
  go_enter Tryd.func62, Tryd.ntmps62
  go_wp2
  go_ret
  exact ⟨rfl, Array.getElem?_push_size, (Below.refl _ _).alloc (Nat.le_refl _) _⟩
set_option maxHeartbeats 4000000 in
theorem handle_nil_startR (va : Option Addr) (vn vc base : Nat) (l : List Bm) (X : Nat) (xa xi xh xp s0 s1 s2 s3 s4 : Int) (ga ca pa ma : Option Addr) (gx cx px mx : Nat) (gs cs : List (Int × Int)) (ps ms : List Int) (ek ee kn sa ho ix pr bw er : Int) (r0 r1 r2 r3 r4 : Int) (ml : List Bm) (es : Array MapEntry) (n i : Nat) (w : World) (hX : Bl w X [.int .i64 xa, .int .i64 xi, .int .i64 xh, .int .i64 xp, .int .i64 s0, .int .i64 s1, .int .i64 s2, .int .i64 s3, .int .i64 s4, .slice va vn vc]) (HR : ∀ w, Bl w X [.int .i64 xa, .int .i64 xi, .int .i64 xh, .int .i64 xp, .int .i64 s0, .int .i64 s1, .int .i64 s2, .int .i64 s3, .int .i64 s4, .slice va vn vc] → Calls Tryd.prog 62 #[.pointer (some ⟨X, 0, none⟩)] w fun e w' => e = .returned (.map (some w.heap.size)) ∧ w'.heap[w.heap.size]? = some (.map es n) ∧ Below w.heap.size w w')
    (hf : Instr.findNow (.int .i64) (.int .i64 ek) es.toList 0 = some (some (i, .func (.func 89) #[.pointer (some ⟨X, 0, none⟩)] #[])))
    (HM : ∀ w', Below w.heap.size w w' → Bl w' X [.int .i64 xa, .int .i64 xi, .int .i64 xh, .int .i64 xp, .int .i64 s0, .int .i64 s1, .int .i64 s2, .int .i64 s3, .int .i64 s4, .slice va vn vc] → Sent w' X base (.slice va vn vc) l → Calls Tryd.prog 89 #[.pointer (some ⟨X, 0, none⟩), .agg #[.int .i64 ek, .int .i64 kn, .int .i64 sa, .int .i64 ho, .int .i64 ix, .slice ga gs.length gx, .slice ca cs.length cx, .slice pa ps.length px, .int .i64 pr, .slice ma ms.length mx, .int .i64 bw, .int .i64 er, .int .i64 ee]] w' fun e w'' => e = .returned (.nilIface) ∧ ∃ v, Bl w'' X [.int .i64 xa, .int .i64 xi, .int .i64 xh, .int .i64 xp, .int .i64 r0, .int .i64 r1, .int .i64 r2, .int .i64 r3, .int .i64 r4, v] ∧ SentP w' w'' X base va v (l ++ ml)) (HS : Hid (Sent w X base (.slice va vn vc) l)) :
    Calls Tryd.prog 29 #[.pointer (some ⟨X, 0, none⟩), .agg #[.int .i64 ek, .int .i64 kn, .int .i64 sa, .int .i64 ho, .int .i64 ix, .slice ga gs.length gx, .slice ca cs.length cx, .slice pa ps.length px, .int .i64 pr, .slice ma ms.length mx, .int .i64 bw, .int .i64 er, .int .i64 ee]] w fun e w' => e = .returned (.tuple #[]) ∧ ∃ v, Bl w' X [.int .i64 xa, .int .i64 xi, .int .i64 xh, .int .i64 xp, .int .i64 r0, .int .i64 r1, .int .i64 r2, .int .i64 r3, .int .i64 r4, v] ∧ SentP w w' X base va v (l ++ ml) := by
  obtain ⟨bE, B0, z⟩ := one w [.int .i64 ek, .int .i64 kn, .int .i64 sa, .int .i64 ho, .int .i64 ix, .slice ga gs.length gx, .slice ca cs.length cx, .slice pa ps.length px, .int .i64 pr, .slice ma ms.length mx, .int .i64 bw, .int .i64 er, .int .i64 ee] 48
  have hne : X ≠ w.heap.size := Nat.ne_of_lt hX.lt
  have hne' : w.heap.size ≠ X := Nat.ne_of_gt hX.lt
  replace hX := hX.keep B0
  have g0 := grown_below B0 (some X)
  clear z
  have HMM := Lib.hid HM
  clear HM
  have fe0 := bE.c 0 rfl
  have fe1 := bE.c 1 rfl
  have fe2 := bE.c 2 rfl
  have fe3 := bE.c 3 rfl
  have fe4 := bE.c 4 rfl
  have fe5 := bE.c 5 rfl
  have fe6 := bE.c 6 rfl
  have fe7 := bE.c 7 rfl
  have fe8 := bE.c 8 rfl
  have fe9 := bE.c 9 rfl
  have fe10 := bE.c 10 rfl
  have fe11 := bE.c 11 rfl
  have fe12 := bE.c 12 rfl
  go_enter Tryd.func29, Tryd.ntmps29
  go_wp2_with fail
  clear fe0 fe1 fe2 fe3 fe4 fe5 fe6 fe7 fe8 fe9 fe10 fe11 fe12
  obtain ⟨V, eV⟩ : ∃ V, V = w.alloc (.cells #[.int .i64 ek, .int .i64 kn, .int .i64 sa, .int .i64 ho, .int .i64 ix, .slice ga gs.length gx, .slice ca cs.length cx, .slice pa ps.length px, .int .i64 pr, .slice ma ms.length mx, .int .i64 bw, .int .i64 er, .int .i64 ee] 48) := ⟨_, rfl⟩
  obtain ⟨E, eE⟩ : ∃ E, E = w.heap.size := ⟨_, rfl⟩
  rw [← eE] at bE ⊢
  have HE := Lib.hid eE
  rw [← eV] at bE hX g0 B0 ⊢
  clear eV eE hne hne'
  have HRR := Lib.hid HR
  have HF := Lib.hid hf
  clear HR hf
  go_region_held3 (fun w' => Over V w' ∧ w'.cell? ⟨E, 0, none⟩ = some (.int .i64 ek))
    ((first | exact ⟨over_drew _, over_cell (over_drew _) bE.lt (bE.c 0 rfl)⟩ | exact ⟨over_step (‹Over V _ ∧ _›).1 (by assumption), over_cell (over_step (‹Over V _ ∧ _›).1 (by assumption)) bE.lt (bE.c 0 rfl)⟩ | assumption | fail))
    ((first | (go_at_call 62; refine (HRR.out _ (hX.keep (‹Over V _ ∧ _›).1)).mono ?_; rintro e wm ⟨rfl, hmap, hbm⟩; have hlk := (show (Instr.lookup 100 (.map (some V.heap.size)) (.int .i64 ek) true).run Tryd.prog wm = .ok (.tuple #[.func (.func 89) #[.pointer (some ⟨X, 0, none⟩)] #[], .bool true]) wm from look_yes es n _ i ek _ wm hmap HF.out)) | fail))
  all_goals
    rename_i hH
    replace hH := hH.1
    have hX1 := hX.keep hH
    have bE1 := bE.keep hH
    have g1 := grow_row g0 (grown_below hH none) (fun k hk => by cases hk)
    have B1 := below_step B0 hH
    clear hH hlk hbm hmap bE B0 g0 hX
    have fe0 := bE1.c 0 rfl
    have fe1 := bE1.c 1 rfl
    have fe2 := bE1.c 2 rfl
    have fe3 := bE1.c 3 rfl
    have fe4 := bE1.c 4 rfl
    have fe5 := bE1.c 5 rfl
    have fe6 := bE1.c 6 rfl
    have fe7 := bE1.c 7 rfl
    have fe8 := bE1.c 8 rfl
    have fe9 := bE1.c 9 rfl
    have fe10 := bE1.c 10 rfl
    have fe11 := bE1.c 11 rfl
    have fe12 := bE1.c 12 rfl
    go_wp2_with fail
    clear fe0 fe1 fe2 fe3 fe4 fe5 fe6 fe7 fe8 fe9 fe10 fe11 fe12
    refine (HMM.out _ B1 hX1 (HS.out.step g1)).mono ?_
    rintro e w2 ⟨rfl, v9, hX9, o9⟩
    have O9 := o9.back g1
    clear o9 g1 bE1 hX1 B1
    go_wp2
    first | go_end0 | go_ret
    exact ⟨rfl, v9, hX9, O9⟩
set_option maxHeartbeats 4000000 in
theorem handle_nil_connectR (va : Option Addr) (vn vc base : Nat) (l : List Bm) (X : Nat) (xa xi xh xp s0 s1 s2 s3 s4 : Int) (ga ca pa ma : Option Addr) (gx cx px mx : Nat) (gs cs : List (Int × Int)) (ps ms : List Int) (ek ee kn sa ho ix pr bw er : Int) (r0 r1 r2 r3 r4 : Int) (ml : List Bm) (es : Array MapEntry) (n i : Nat) (w : World) (hX : Bl w X [.int .i64 xa, .int .i64 xi, .int .i64 xh, .int .i64 xp, .int .i64 s0, .int .i64 s1, .int .i64 s2, .int .i64 s3, .int .i64 s4, .slice va vn vc]) (HR : ∀ w, Bl w X [.int .i64 xa, .int .i64 xi, .int .i64 xh, .int .i64 xp, .int .i64 s0, .int .i64 s1, .int .i64 s2, .int .i64 s3, .int .i64 s4, .slice va vn vc] → Calls Tryd.prog 62 #[.pointer (some ⟨X, 0, none⟩)] w fun e w' => e = .returned (.map (some w.heap.size)) ∧ w'.heap[w.heap.size]? = some (.map es n) ∧ Below w.heap.size w w')
    (hf : Instr.findNow (.int .i64) (.int .i64 ek) es.toList 0 = some (some (i, .func (.func 90) #[.pointer (some ⟨X, 0, none⟩)] #[])))
    (HM : ∀ w', Below w.heap.size w w' → Bl w' X [.int .i64 xa, .int .i64 xi, .int .i64 xh, .int .i64 xp, .int .i64 s0, .int .i64 s1, .int .i64 s2, .int .i64 s3, .int .i64 s4, .slice va vn vc] → Sent w' X base (.slice va vn vc) l → Calls Tryd.prog 90 #[.pointer (some ⟨X, 0, none⟩), .agg #[.int .i64 ek, .int .i64 kn, .int .i64 sa, .int .i64 ho, .int .i64 ix, .slice ga gs.length gx, .slice ca cs.length cx, .slice pa ps.length px, .int .i64 pr, .slice ma ms.length mx, .int .i64 bw, .int .i64 er, .int .i64 ee]] w' fun e w'' => e = .returned (.nilIface) ∧ ∃ v, Bl w'' X [.int .i64 xa, .int .i64 xi, .int .i64 xh, .int .i64 xp, .int .i64 r0, .int .i64 r1, .int .i64 r2, .int .i64 r3, .int .i64 r4, v] ∧ SentP w' w'' X base va v (l ++ ml)) (HS : Hid (Sent w X base (.slice va vn vc) l)) :
    Calls Tryd.prog 29 #[.pointer (some ⟨X, 0, none⟩), .agg #[.int .i64 ek, .int .i64 kn, .int .i64 sa, .int .i64 ho, .int .i64 ix, .slice ga gs.length gx, .slice ca cs.length cx, .slice pa ps.length px, .int .i64 pr, .slice ma ms.length mx, .int .i64 bw, .int .i64 er, .int .i64 ee]] w fun e w' => e = .returned (.tuple #[]) ∧ ∃ v, Bl w' X [.int .i64 xa, .int .i64 xi, .int .i64 xh, .int .i64 xp, .int .i64 r0, .int .i64 r1, .int .i64 r2, .int .i64 r3, .int .i64 r4, v] ∧ SentP w w' X base va v (l ++ ml) := by
  obtain ⟨bE, B0, z⟩ := one w [.int .i64 ek, .int .i64 kn, .int .i64 sa, .int .i64 ho, .int .i64 ix, .slice ga gs.length gx, .slice ca cs.length cx, .slice pa ps.length px, .int .i64 pr, .slice ma ms.length mx, .int .i64 bw, .int .i64 er, .int .i64 ee] 48
  have hne : X ≠ w.heap.size := Nat.ne_of_lt hX.lt
  have hne' : w.heap.size ≠ X := Nat.ne_of_gt hX.lt
  replace hX := hX.keep B0
  have g0 := grown_below B0 (some X)
  clear z
  have HMM := Lib.hid HM
  clear HM
  have fe0 := bE.c 0 rfl
  have fe1 := bE.c 1 rfl
  have fe2 := bE.c 2 rfl
  have fe3 := bE.c 3 rfl
  have fe4 := bE.c 4 rfl
  have fe5 := bE.c 5 rfl
  have fe6 := bE.c 6 rfl
  have fe7 := bE.c 7 rfl
  have fe8 := bE.c 8 rfl
  have fe9 := bE.c 9 rfl
  have fe10 := bE.c 10 rfl
  have fe11 := bE.c 11 rfl
  have fe12 := bE.c 12 rfl
  go_enter Tryd.func29, Tryd.ntmps29
  go_wp2_with fail
  clear fe0 fe1 fe2 fe3 fe4 fe5 fe6 fe7 fe8 fe9 fe10 fe11 fe12
  obtain ⟨V, eV⟩ : ∃ V, V = w.alloc (.cells #[.int .i64 ek, .int .i64 kn, .int .i64 sa, .int .i64 ho, .int .i64 ix, .slice ga gs.length gx, .slice ca cs.length cx, .slice pa ps.length px, .int .i64 pr, .slice ma ms.length mx, .int .i64 bw, .int .i64 er, .int .i64 ee] 48) := ⟨_, rfl⟩
  obtain ⟨E, eE⟩ : ∃ E, E = w.heap.size := ⟨_, rfl⟩
  rw [← eE] at bE ⊢
  have HE := Lib.hid eE
  rw [← eV] at bE hX g0 B0 ⊢
  clear eV eE hne hne'
  have HRR := Lib.hid HR
  have HF := Lib.hid hf
  clear HR hf
  go_region_held3 (fun w' => Over V w' ∧ w'.cell? ⟨E, 0, none⟩ = some (.int .i64 ek))
    ((first | exact ⟨over_drew _, over_cell (over_drew _) bE.lt (bE.c 0 rfl)⟩ | exact ⟨over_step (‹Over V _ ∧ _›).1 (by assumption), over_cell (over_step (‹Over V _ ∧ _›).1 (by assumption)) bE.lt (bE.c 0 rfl)⟩ | assumption | fail))
    ((first | (go_at_call 62; refine (HRR.out _ (hX.keep (‹Over V _ ∧ _›).1)).mono ?_; rintro e wm ⟨rfl, hmap, hbm⟩; have hlk := (show (Instr.lookup 100 (.map (some V.heap.size)) (.int .i64 ek) true).run Tryd.prog wm = .ok (.tuple #[.func (.func 90) #[.pointer (some ⟨X, 0, none⟩)] #[], .bool true]) wm from look_yes es n _ i ek _ wm hmap HF.out)) | fail))
  all_goals
    rename_i hH
    replace hH := hH.1
    have hX1 := hX.keep hH
    have bE1 := bE.keep hH
    have g1 := grow_row g0 (grown_below hH none) (fun k hk => by cases hk)
    have B1 := below_step B0 hH
    clear hH hlk hbm hmap bE B0 g0 hX
    have fe0 := bE1.c 0 rfl
    have fe1 := bE1.c 1 rfl
    have fe2 := bE1.c 2 rfl
    have fe3 := bE1.c 3 rfl
    have fe4 := bE1.c 4 rfl
    have fe5 := bE1.c 5 rfl
    have fe6 := bE1.c 6 rfl
    have fe7 := bE1.c 7 rfl
    have fe8 := bE1.c 8 rfl
    have fe9 := bE1.c 9 rfl
    have fe10 := bE1.c 10 rfl
    have fe11 := bE1.c 11 rfl
    have fe12 := bE1.c 12 rfl
    go_wp2_with fail
    clear fe0 fe1 fe2 fe3 fe4 fe5 fe6 fe7 fe8 fe9 fe10 fe11 fe12
    refine (HMM.out _ B1 hX1 (HS.out.step g1)).mono ?_
    rintro e w2 ⟨rfl, v9, hX9, o9⟩
    have O9 := o9.back g1
    clear o9 g1 bE1 hX1 B1
    go_wp2
    first | go_end0 | go_ret
    exact ⟨rfl, v9, hX9, O9⟩
theorem startG {w0 w : World} {base X F : Nat} {xa xi xh xp : Int} {fs : Value → List Value} {va ra : Option Addr} {vn vc rn rc : Nat} {l k : List Bm} (H : GS w0 w base X F (mc xa xi xh xp 0 0 0 0 0) fs va ra vn vc rn rc l k) (hl : l.length ≤ 100) :
    Calls Tryd.prog 29 #[.pointer (some ⟨X, 0, none⟩), .agg #[.int .i64 0, .int .i64 0, .int .i64 0, .int .i64 0, .int .i64 0, .slice none 0 0, .slice none 0 0, .slice none 0 0, .int .i64 0, .slice none 0 0, .int .i64 0, .int .i64 0, .int .i64 0]] w fun e w' => e = .returned (.tuple #[]) ∧ ∃ va' vn' vc', GS w0 w' base X F (mc xa xi xh xp 1 0 0 0 0) fs va' ra vn' vc' rn rc (l ++ []) k := by
  refine (handle_nil_startR va vn vc base l X xa xi xh xp 0 0 0 0 0 none none none none 0 0 0 0 [] [] [] [] 0 0 0 0 0 0 0 0 0 1 0 0 0 0 [] (#[⟨.int .i64 1, (.func (.func 86) #[.pointer (some ⟨X, 0, none⟩)] #[]), 0⟩, ⟨.int .i64 3, (.func (.func 87) #[.pointer (some ⟨X, 0, none⟩)] #[]), 1⟩, ⟨.int .i64 6, (.func (.func 88) #[.pointer (some ⟨X, 0, none⟩)] #[]), 2⟩, ⟨.int .i64 0, (.func (.func 89) #[.pointer (some ⟨X, 0, none⟩)] #[]), 3⟩]) 4 3 w H.bX (fun w h => reac_0R va vn vc X xa xi xh xp 0 0 0 0 w h) rfl (fun w1 hb hx hs => (start_anyR va vn vc X xa xi xh xp 0 0 0 0 0 none none none none 0 0 0 0 [] [] [] [] 0 0 0 0 0 0 0 0 0 w1 hx).mono (fun e w2 h => ⟨h.1, _, h.2.1, SentP.same hs h.2.2⟩)) (Lib.hid H.sX)).mono ?_
  rintro e w2 ⟨rfl, v, bX2, P⟩
  obtain ⟨va', vn', vc', rfl⟩ := Row.cap3 P.row
  exact ⟨rfl, _, _, _, H.hear (xs' := mc xa xi xh xp 1 0 0 0 0) bX2 P (by simp; omega)⟩
theorem linkG {w0 w : World} {base X F : Nat} {xa xi xh xp : Int} {fs : Value → List Value} {va ra : Option Addr} {vn vc rn rc : Nat} {l k : List Bm} (H : GS w0 w base X F (mc xa xi xh xp 1 0 0 0 0) fs va ra vn vc rn rc l k) (hl : l.length ≤ 100) :
    Calls Tryd.prog 29 #[.pointer (some ⟨X, 0, none⟩), .agg #[.int .i64 2, .int .i64 0, .int .i64 0, .int .i64 0, .int .i64 0, .slice none 0 0, .slice none 0 0, .slice none 0 0, .int .i64 0, .slice none 0 0, .int .i64 0, .int .i64 0, .int .i64 0]] w fun e w' => e = .returned (.tuple #[]) ∧ ∃ va' vn' vc', GS w0 w' base X F (mc xa xi xh xp 2 xh 0 0 0) fs va' ra vn' vc' rn rc (l ++ [⟨1, xa, xh, xi, 0⟩]) k := by
  refine (handle_nil_connectR va vn vc base l X xa xi xh xp 1 0 0 0 0 none none none none 0 0 0 0 [] [] [] [] 2 0 0 0 0 0 0 0 0 2 xh 0 0 0 [⟨1, xa, xh, xi, 0⟩] (#[⟨.int .i64 1, (.func (.func 86) #[.pointer (some ⟨X, 0, none⟩)] #[]), 0⟩, ⟨.int .i64 3, (.func (.func 87) #[.pointer (some ⟨X, 0, none⟩)] #[]), 1⟩, ⟨.int .i64 6, (.func (.func 88) #[.pointer (some ⟨X, 0, none⟩)] #[]), 2⟩, ⟨.int .i64 2, (.func (.func 90) #[.pointer (some ⟨X, 0, none⟩)] #[]), 3⟩]) 4 3 w H.bX (fun w h => reac_1R va vn vc X xa xi xh xp 0 0 0 0 w h) rfl (fun w1 hb hx hs => connect_anyR va vn vc base l X xa xi xh xp 1 0 0 0 0 none none none none 0 0 0 0 [] [] [] [] 2 0 0 0 0 0 0 0 0 w1 hx (Lib.hid hs)) (Lib.hid H.sX)).mono ?_
  rintro e w2 ⟨rfl, v, bX2, P⟩
  obtain ⟨va', vn', vc', rfl⟩ := Row.cap3 P.row
  exact ⟨rfl, _, _, _, H.hear (xs' := mc xa xi xh xp 2 xh 0 0 0) bX2 P (by simp; omega)⟩
end Go.Proofs.YtcmbajphholliabDoor
