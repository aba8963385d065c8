/-
  Contracts of EventOk of the program and of the model. Conditions: those in each contract.
-/
import Derived.Test.YtnklnibjlhnicaaRRRRDoorS6
namespace Go.Proofs.YtnklnibjlhnicaaRRRRDoor
open Go.ChangeShapes Go.WideShapes Go.ChangeAt Go.RowKit Go.BigFrame Go.Joins
set_option linter.unusedVariables false
set_option maxRecDepth 100000
set_option linter.unusedSimpArgs false

/-- every field of the message is zero -/
def zM (gs cs : List (Int × Int)) (ps ms : List Int) (kn sa ho ix pr bw er : Int) : Bool := decide (kn = 0 ∧ sa = 0 ∧ ho = 0 ∧ ix = 0 ∧ er = 0 ∧ (gs.length : Int) + cs.length = 0 ∧ zA ps ms pr bw = true)
/-- the event is valid -/
def evB (gs cs : List (Int × Int)) (ps ms : List Int) (ek ee kn sa ho ix pr bw er : Int) : Bool :=
  decide (0 ≤ ek ∧ ek ≤ 6 ∧ (ek = 6 → 1 ≤ ee ∧ ee ≤ 6) ∧ (¬ ek = 6 → ee = 0) ∧ (ek = 4 → mokB gs cs ps ms kn sa ho ix pr bw er = true) ∧ (¬ ek = 4 → zM gs cs ps ms kn sa ho ix pr bw er = true))
theorem zM_same (gs cs : List (Int × Int)) (ps ms : List Int) (kn sa ho ix pr bw er : Int) : zM gs cs ps ms kn sa ho ix pr bw er = sameB gs cs [] [] ps ms [] [] kn sa ho ix pr bw er 0 0 0 0 0 0 0 := by
  rw [Bool.eq_iff_iff]
  unfold zM sameB
  simp only [decide_eq_true_eq, zA_iff]
  constructor
  · rintro ⟨h1, h2, h3, h4, h5, h6, h7, h8, h9, h10⟩
    exact ⟨h1, h2, h3, h4, h5, List.eq_nil_of_length_eq_zero (by omega), List.eq_nil_of_length_eq_zero (by omega), h9, h7, h10, h8⟩
  · rintro ⟨h1, h2, h3, h4, h5, rfl, rfl, h9, h7, h10, h8⟩
    exact ⟨h1, h2, h3, h4, h5, by simp, h7, h8, h9, h10⟩
theorem izero_t {ga ca pa ma : Option Addr} {gx cx px mx : Nat} {gs cs : List (Int × Int)} {ps ms : List Int} {kn sa ho ix pr bw er : Int} {b : Bool} (w : World) (hg : RdP w (.slice ga gs.length gx) gs) (hc : RdP w (.slice ca cs.length cx) cs) (hp : RdI w (.slice pa ps.length px) ps) (hm : RdI w (.slice ma ms.length mx) ms) (H : Hid (zM gs cs ps ms kn sa ho ix pr bw er = b)) :
    Calls Tryd.prog 55 #[.agg #[.int .i64 kn, .int .i64 sa, .int .i64 ho, .int .i64 ix, .slice ga gs.length gx, .slice ca cs.length cx, .slice pa ps.length px, .int .i64 pr, .slice ma ms.length mx, .int .i64 bw, .int .i64 er], .agg #[.int .i64 0, .int .i64 0, .int .i64 0, .int .i64 0, .slice none 0 0, .slice none 0 0, .slice none 0 0, .int .i64 0, .slice none 0 0, .int .i64 0, .int .i64 0]] w fun e w' => e = .returned (.bool b) ∧ Below w.heap.size w w' :=
  isameM_t w hg hc hp hm (RdP.nil w) (RdP.nil w) (RdI.nil w) (RdI.nil w) (Lib.hid ((zM_same gs cs ps ms kn sa ho ix pr bw er).symm.trans H.out))
end Go.Proofs.YtnklnibjlhnicaaRRRRDoor
