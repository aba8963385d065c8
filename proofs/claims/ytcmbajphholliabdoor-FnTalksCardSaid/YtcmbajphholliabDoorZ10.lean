/-
  The model's greeting. Conditions: those in each contract.
  Greet of the model; equal sessions. Conditions: those in each contract.
-/
import Derived.Test.YtcmbajphholliabDoorZ9
namespace Go.Proofs.YtcmbajphholliabDoor
open Go.ChangeShapes Go.WideShapes Go.ChangeAt Go.RowKit Go.BigFrame Go.Joins
set_option linter.unusedVariables false
set_option maxRecDepth 100000
set_option linter.unusedSimpArgs false

theorem Row.cells1 {w : World} {base g o n c : Nat} {m : Bm} {k : List Bm} (h : Row w base (.slice (some ⟨g, o, none⟩) n c) (m :: k)) : k.length + 1 ≤ c ∧ g < w.heap.size ∧ ∀ j x, m.cells[j]? = some x → w.cell? ⟨g, o + j, none⟩ = some x := by
  rcases h with ⟨-, h⟩ | ⟨g', o', c', hv, c1, c2, c3, c4, c5, c6, c7⟩
  · cases h
  · simp at hv
    obtain ⟨⟨rfl, rfl⟩, rfl, rfl⟩ := hv
    refine ⟨by simpa using c1, c4, fun j x hj => c5 j x ?_⟩
    have e : flatM (m :: k) = m.cells ++ flatM k := by simp [flatM]
    rw [e, List.getElem?_append_left (List.getElem?_eq_some_iff.1 hj).1]
    exact hj
end Go.Proofs.YtcmbajphholliabDoor
namespace Go.Proofs.YtcmbajphholliabDoor
open Go.ChangeShapes Go.WideShapes Go.ChangeAt Go.RowKit Go.BigFrame Go.Joins
set_option linter.unusedVariables false
set_option linter.unusedSimpArgs false
set_option maxRecDepth 100000

theorem acc_open {aa ai ah ap ba bi bh bp : Int} (ha : cokB aa ai ah ap = true) (hb : cokB ba bi bh bp = true) : accB aa ai ah ap [] [] [] [] 1 ba bh bi 0 0 0 = l4B aa ai ap 1 ba bi := by
  have hm : mokB [] [] [] [] 1 ba bh bi 0 0 0 = true := by
    unfold cokB valO at hb
    simp only [Bool.and_eq_true] at hb
    exact mok_1.mpr ⟨⟨hb.1.1.1, hb.1.1.2, hb.1.2⟩, rfl, rfl, by simp [zA], rfl⟩
  unfold accB
  rw [ha, hm]
  simp
/-- what Greet answers -/
def GrIs (aa ai ah ap ba bi bh bp : Int) (G J : St) (t : Bool) : Prop := t = (cokB aa ai ah ap && cokB ba bi bh bp && (l4B aa ai ap 1 ba bi && l4B ba bi bp 1 aa ai)) ∧ G = gF ah ba bh t ∧ J = gF bh aa ah t
theorem iGreet_t {aa ai ah ap ba bi bh bp : Int} {G J : St} {t : Bool} (u : Value) (w : World) (hu0 : w.cell? ⟨0, 0, none⟩ = some (.iface 194 u)) (hg0 : w.cell? ⟨1, 0, none⟩ = some (.iface 172 (.agg #[.pointer (some ⟨6, 103, none⟩)]))) (H : Hid (GrIs aa ai ah ap ba bi bh bp G J t)) :
    Calls Tryd.prog 7 #[.agg #[.int .i64 aa, .int .i64 ai, .int .i64 ah, .int .i64 ap], .agg #[.int .i64 ba, .int .i64 bi, .int .i64 bh, .int .i64 bp]] w fun e w' => e = .returned (.tuple #[.agg #[.int .i64 G.a, .int .i64 G.b, .int .i64 G.c, .int .i64 G.d, .int .i64 G.e], .agg #[.int .i64 J.a, .int .i64 J.b, .int .i64 J.c, .int .i64 J.d, .int .i64 J.e], .bool t]) ∧ Below w.heap.size w w' := by
  obtain ⟨ht, hG, hJ⟩ := H.out
  by_cases ha : cokB aa ai ah ap = true
  · by_cases hb : cokB ba bi bh bp = true
    · rw [ha, hb, ← acc_open ha hb, ← acc_open hb ha] at ht
      simp only [Bool.true_and] at ht
      cases t
      · exact iGreet_false aa ai ah ap ba bi bh bp u w hu0 hg0 (Lib.hid ha) (Lib.hid hb) _ _ rfl rfl ht G J hG hJ
      · exact iGreet_true aa ai ah ap ba bi bh bp u w hu0 hg0 (Lib.hid ha) (Lib.hid hb) _ _ rfl rfl ht G J hG hJ
    · have hb := eq_false_of_ne_true hb
      rw [ha, hb] at ht
      obtain rfl : t = false := by simpa using ht
      subst hG hJ
      exact iGreet_noB aa ai ah ap ba bi bh bp u w (Lib.hid ha) (Lib.hid hb)
  · have ha := eq_false_of_ne_true ha
    rw [ha] at ht
    obtain rfl : t = false := by simpa using ht
    subst hG hJ
    exact iGreet_noA aa ai ah ap ba bi bh bp u w (Lib.hid ha)
/-- what a region leaves that keeps an answer of Greet -/
def KeptG (V wx : World) (G J : St) (t : Bool) (a b c : Value) : Prop := ∃ P Q, a = .pointer (some ⟨P, 0, none⟩) ∧ b = .pointer (some ⟨Q, 0, none⟩) ∧ c = .bool t ∧ Over V wx ∧ Bl wx P [.int .i64 G.a, .int .i64 G.b, .int .i64 G.c, .int .i64 G.d, .int .i64 G.e] ∧ Bl wx Q [.int .i64 J.a, .int .i64 J.b, .int .i64 J.c, .int .i64 J.d, .int .i64 J.e]
end Go.Proofs.YtcmbajphholliabDoor
