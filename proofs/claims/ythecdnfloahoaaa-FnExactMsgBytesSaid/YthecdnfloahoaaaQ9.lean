/-
  MsgBytes of the model and of the program, whatever the message. Conditions: those in each contract.
-/
import Derived.Test.YthecdnfloahoaaaQ8
namespace Go.Proofs.Ythecdnfloahoaaa
open Go.ChangeShapes Go.WideShapes Go.ChangeAt Go.RowKit Go.BigFrame
set_option linter.unusedVariables false
set_option maxRecDepth 100000
set_option linter.unusedSimpArgs false

/-- what MsgBytes answers -/
def mbL (gs cs : List (Int × Int)) (ps ms : List Int) (kn sa ho ix pr bw er : Int) : List Int := if mokB gs cs ps ms kn sa ho ix pr bw er = true then msgL kn (bodyM gs cs ps ms kn sa ho ix pr bw er) else []
theorem mbL_len (gs cs : List (Int × Int)) (ps ms : List Int) (kn sa ho ix pr bw er : Int) : (mbL gs cs ps ms kn sa ho ix pr bw er).length ≤ 100 := by
  unfold mbL
  split
  · rename_i h
    rw [msgL_len]
    have := bodyM_len (mok_bounds h)
    omega
  · simp
theorem mbL_bd (gs cs : List (Int × Int)) (ps ms : List Int) (kn sa ho ix pr bw er : Int) : ∀ x ∈ mbL gs cs ps ms kn sa ho ix pr bw er, 0 ≤ x ∧ x ≤ 255 := by
  unfold mbL
  split
  · rename_i h
    have hB := mok_bounds h
    have hl := bodyM_len hB
    have hk := hB.kn
    refine byt_app ?_ (bodyM_bd hB)
    intro x hx
    simp at hx
    omega
  · simp
def MbOk (w : World) (t : Bool) (L : List Int) (e : Ending) (w' : World) : Prop := ∃ u, e = .returned (.tuple #[u, .bool t]) ∧ Own w' w.heap.size u L ∧ Below w.heap.size w w'
theorem smb_all (ga ca pa ma : Option Addr) (gx cx px mx : Nat) (gs cs : List (Int × Int)) (ps ms : List Int) (kn sa ho ix pr bw er : Int) (w : World) (hg : RdP w (.slice ga gs.length gx) gs) (hc : RdP w (.slice ca cs.length cx) cs) (hp : RdI w (.slice pa ps.length px) ps) (hm : RdI w (.slice ma ms.length mx) ms) (hpl : ps.length ≤ 1048576) (hml : ms.length ≤ 1048576) :
    Calls Try.prog 27 #[.agg #[.int .i64 kn, .int .i64 sa, .int .i64 ho, .int .i64 ix, .slice ga gs.length gx, .slice ca cs.length cx, .slice pa ps.length px, .int .i64 pr, .slice ma ms.length mx, .int .i64 bw, .int .i64 er]] w (MbOk w (mokB gs cs ps ms kn sa ho ix pr bw er) (mbL gs cs ps ms kn sa ho ix pr bw er)) := by
  cases h : mokB gs cs ps ms kn sa ho ix pr bw er
  · rw [show mbL gs cs ps ms kn sa ho ix pr bw er = [] from if_neg (by rw [h]; decide)]
    exact (smsgb_no ga ca pa ma gx cx px mx gs cs ps ms kn sa ho ix pr bw er w hg hc hp hm hpl hml h).mono fun e w' ⟨he, hb⟩ => ⟨_, he, World.ownsRow_nil _ _ _ _, hb⟩
  · rw [show mbL gs cs ps ms kn sa ho ix pr bw er = msgL kn (bodyM gs cs ps ms kn sa ho ix pr bw er) from if_pos h]
    exact smsgb_any ga ca pa ma gx cx px mx gs cs ps ms kn sa ho ix pr bw er w hg hc hp hm hpl hml h
theorem imbx_all (ga ca pa ma : Option Addr) (gx cx px mx : Nat) (gs cs : List (Int × Int)) (ps ms : List Int) (kn sa ho ix pr bw er : Int) (w : World) (hg : RdP w (.slice ga gs.length gx) gs) (hc : RdP w (.slice ca cs.length cx) cs) (hp : RdI w (.slice pa ps.length px) ps) (hm : RdI w (.slice ma ms.length mx) ms) :
    Calls Try.prog 21 #[.agg #[.int .i64 kn, .int .i64 sa, .int .i64 ho, .int .i64 ix, .slice ga gs.length gx, .slice ca cs.length cx, .slice pa ps.length px, .int .i64 pr, .slice ma ms.length mx, .int .i64 bw, .int .i64 er]] w (MbOk w (mokB gs cs ps ms kn sa ho ix pr bw er) (mbL gs cs ps ms kn sa ho ix pr bw er)) := by
  cases h : mokB gs cs ps ms kn sa ho ix pr bw er
  · rw [show mbL gs cs ps ms kn sa ho ix pr bw er = [] from if_neg (by rw [h]; decide)]
    exact (imb_no ga ca pa ma gx cx px mx gs cs ps ms kn sa ho ix pr bw er w hg hc hp hm h).mono fun e w' ⟨he, hb⟩ => ⟨_, he, World.ownsRow_nil _ _ _ _, hb⟩
  · rw [show mbL gs cs ps ms kn sa ho ix pr bw er = msgL kn (bodyM gs cs ps ms kn sa ho ix pr bw er) from if_pos h]
    exact imb_any ga ca pa ma gx cx px mx gs cs ps ms kn sa ho ix pr bw er w hg hc hp hm h
end Go.Proofs.Ythecdnfloahoaaa
