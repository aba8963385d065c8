/-
  Words for the law on Program. Conditions: those in each contract.
-/
import Derived.Test.YtbcmoofpgffbhaaTI
namespace Go.Proofs.Ytbcmoofpgffbhaa
open Go.ChangeShapes Go.WideShapes Go.ChangeAt Go.RowKit Go.BigFrame Go.Joins
set_option linter.unusedVariables false
set_option maxRecDepth 100000
set_option linter.unusedSimpArgs false
set_option maxRecDepth 100000

def Is_GroupS (W : World) (v : Value) : Prop := ∃ L, RdG W v L
def Is_PrefixS (W : World) (v : Value) : Prop := ∃ l, RdP W v l
section
variable {H : Type} {enc : TypeId × Value → H} {W : World} {base : Nat} {d : DataW H} {p : List MemPlace} {v : Value}
theorem is_GroupS (hv : Value.okWide Try.prog W .any base 74 v) (h : DataW.Trod enc Try.prog W 0 (fun _ => true) true 74 v d p) : Is_GroupS W v := by
  obtain ⟨a0, len0, cap0, rfl⟩ := okWide_slice Try.underlying74 hv
  obtain ⟨fuel, hf⟩ := h
  exact rdG_trod (W := W) (fuel := fuel) (y := (d, p)) (by simpa [Value.cells] using hf)
theorem is_PrefixS (hv : Value.okWide Try.prog W .any base 86 v) (h : DataW.Trod enc Try.prog W 0 (fun _ => true) true 86 v d p) : Is_PrefixS W v := by
  obtain ⟨a0, len0, cap0, rfl⟩ := okWide_slice Try.underlying86 hv
  obtain ⟨fuel, hf⟩ := h
  exact rdP_trod (W := W) (fuel := fuel) (y := (d, p)) (by simpa [Value.cells] using hf)
end
theorem toPQ_o (v : Value) (l : List (Int × Int)) (w : World) (h : RdP w v l) (hl : l.length ≤ 1048576) :
    Calls Try.prog 51 #[v] w fun e w' => ∃ u, e = .returned u ∧ OwPr w' (Rg w.heap.size w'.heap.size) u l ∧ Below w.heap.size w w' := by
  refine (toP_any v l w h hl).mono ?_
  rintro e w' ⟨a, c, rfl, ho, hb⟩
  exact ⟨_, rfl, ⟨ho.mono (Nat.zero_le _), fun k q => World.ownsRow.lt ho k q, hl⟩, hb⟩
theorem szPQ_any (v : Value) (l : List (Int × Int)) (left : Int) (w : World) (h : RdP w v l) (h0 : 0 ≤ left) (h1 : left ≤ 1048576) :
    Calls Try.prog 48 #[v, .int .i64 left] w fun e w' => ∃ r : Int, e = .returned (.int .i64 r) ∧ (¬ r < 0 → r = left - l.length) ∧ w = w' := by
  refine (szP_any v l left w h h0 h1).mono ?_
  rintro e w' ⟨rfl, hb⟩
  refine ⟨_, rfl, ?_, hb⟩
  unfold szN
  split
  · intro q; omega
  · intro q; rfl
theorem fold_mem (M : List Grp) : ∀ {L : List Grp}, SoG L → ∀ {y : Grp}, y ∈ M.foldl putL L → y ∈ L ∨ y ∈ M := by
  induction M with
  | nil => intro L h y hy; exact .inl hy
  | cons x M ih =>
    intro L h y hy
    rcases ih (putL_so h x).1 hy with q | q
    · rcases putL_mem h q with q | rfl
      · exact .inl q
      · exact .inr (by simp)
    · exact .inr (List.mem_cons_of_mem _ q)
theorem grp_h4 {a n : Int} {l : List (Int × Int)} (h : grpB a n l = true) : l.length ≤ 4 := by
  unfold grpB at h
  simp only [Bool.and_eq_true, decide_eq_true_eq] at h
  omega
theorem cnt_few {L : List Grp} {N : Nat} (h : ∀ y ∈ L, cntY y ≤ N) : cntYS L ≤ N * L.length := by
  induction L with
  | nil => simp [cntYS]
  | cons x L ih =>
    have e : cntYS (x :: L) = cntY x + cntYS L := by simp [cntYS]
    have h1 := h x (by simp)
    have h2 := ih fun y hy => h y (List.mem_cons_of_mem _ hy)
    rw [e, List.length_cons, Nat.mul_succ]
    omega
theorem prog_len (L M : List Grp) (P : List (Int × Int)) : (progL L M P).length ≤ 60 := by
  unfold progL
  split
  · split
    · assumption
    · simp
  · simp
theorem prog_cnt (L M : List Grp) (P : List (Int × Int)) : cntYS (progL L M P) ≤ 12000000 := by
  have hl := prog_len L M P
  have hy : ∀ y ∈ progL L M P, cntY y ≤ 10 := fun y hy => by
    have hg : y.h.length ≤ 4 := by
      unfold progL at hy
      split at hy
      · rename_i hc
        simp only [Bool.and_eq_true] at hc
        split at hy
        · rcases fold_mem M (left_so (P := P) hc.1).1 hy with q | q
          · obtain ⟨i, hi, rfl⟩ := mem_getD (List.mem_filter.1 q).1
            exact grp_h4 (of_decide_eq_true (fib_asc hc.1).2.1 i hi)
          · obtain ⟨i, hi, rfl⟩ := mem_getD q
            exact grp_h4 (of_decide_eq_true hc.2 i hi)
        · simp at hy
      · simp at hy
    unfold cntY cntH
    omega
  have := cnt_few hy
  omega
end Go.Proofs.Ytbcmoofpgffbhaa
