/-
  Slices of strings that a call makes: append; a number as a word, and the numbers of a slice appended as words. Conditions: those in each statement.
-/
import Derived.Test.YtcmbajphholliabDoorT1
import Derived.Test.YtcmbajphholliabDoorI5
import Derived.Laws.AppendOwnNone
namespace Go.Proofs.YtcmbajphholliabDoor
open Go.ChangeShapes Go.WideShapes Go.ChangeAt Go.RowKit Go.BigFrame
set_option linter.unusedVariables false
set_option maxRecDepth 100000
set_option linter.unusedSimpArgs false

abbrev ST : TypeId := 9
theorem infoS : (Tryd.prog.info? ST).map (fun i => (i.zero, i.size, i.bytes)) = some (some (.string ⟨#[]⟩), 1, 16) := by kernel_rfl
/-- the slice v is the call's own and holds the strings xs -/
def OwnS (w : World) (base : Nat) (v : Value) (xs : List ByteArray) : Prop := w.ownsRow base ST 1 v xs.length (xs.map Value.string)
theorem OwnS.keep {w w' : World} {base : Nat} {v : Value} {xs : List ByteArray} (h : OwnS w base v xs) (hb : Below w.heap.size w w') : OwnS w' base v xs :=
  World.ownsRow.kept h (grown_below hb none) (by cases hv : v.ownBlock <;> simp)
theorem wp_appStr {ops : Array Oper} {rest : List Oper} {o : Oper} {a : Act} {Q : Exit → Act → World → Prop} {w : World} (hgd : o.guard = none) (s x : Operand)
    (ho : o.op = .call { callee := .builtin .append, args := #[s, x], argTypes := #[92, 92] })
    (base : Nat) (v : Value) (xs ms : List ByteArray) (ad : Addr) (c : Nat) (hs : a.eval s = v) (hx : a.eval x = .slice (some ad) ms.length c) (hown : OwnS w base v xs) (hc : ∀ j y, (ms.map Value.string)[j]? = some y → w.cell? (ad.add j) = some y)
    (hlen : xs.length + ms.length ≤ 4294967296) (hbase : base ≤ w.heap.size)
    (h : ∀ v' w', OwnS w' base v' (xs ++ ms) → w.grownBy w' v.ownBlock → wpList Tryd.prog ops Q rest (a.put o.dst v') w') : wpList Tryd.prog ops Q (o :: rest) a w := by
  obtain ⟨i0, hi, hz0, hz1, hz2⟩ := info_parts infoS
  refine wpList_append_own w hgd s x 92 ho base ST i0 (.string ⟨#[]⟩) 1 16 Tryd.underlying92 hi hz0 hz1 hz2 rfl (by decide) v xs.length (xs.map Value.string) hs hown ad ms.length c (ms.map Value.string) hx (by simp) hc (by simp [Value.oneCell']) (by unfold maxLen; omega) (by omega) hbase ?_
  intro v' w' ho' hg' _
  refine h v' w' ?_ hg'
  unfold OwnS
  rw [List.length_append, List.map_append]
  exact ho'
theorem over_grownS {V w w' : World} {v : Value} {xs : List ByteArray} {base : Nat} (h : Over V w) (ho : OwnS w base v xs) (hb : V.heap.size ≤ base) (hg : w.grownBy w' v.ownBlock) : Over V w' :=
  h.grown hg h.size (fun k hk => Nat.le_trans hb (World.ownsRow.lt ho k hk).1)
theorem RdI.at {w : World} {ad : Option Addr} {c : Nat} {l : List Int} (h : RdI w (.slice ad l.length c) l) (hp : 0 < l.length) :
    ∃ b o, ad = some ⟨b, o, none⟩ ∧ ∀ i, i < l.length → w.cell? ⟨b, o + i, none⟩ = some (.int .i64 (l.getD i 0)) := by
  rcases h.2.2 with ⟨a, c, e, rfl, _⟩ | ⟨b, o, c, e, _, hc⟩
  · exact absurd hp (by simp)
  · injection e with e1 e2 e3
    exact ⟨b, o, e1, hc⟩
/-- a number as a word -/
def numS (n : Int) : ByteArray := ⟨(Lib.decDigits n.toNat).toArray⟩
theorem appnum_any (V : World) (v u : Value) (xs : List ByteArray) (l : List Int) (base : Nat) (w : World) (h : RdI V u l) (hb : ∀ x ∈ l, 0 ≤ x ∧ x ≤ 65535) (hl : l.length ≤ 1048576) (hx : xs.length ≤ 1048576) (hov : Over V w) (hown : OwnS w base v xs) (hVb : V.heap.size ≤ base) (hbw : base ≤ w.heap.size) (ht : Tab V) :
    Calls Tryd.prog 58 #[v, u] w fun e w' => ∃ v', e = .returned v' ∧ OwnS w' base v' (xs ++ l.map numS) ∧ Over V w' ∧ base ≤ w'.heap.size := by
  obtain ⟨ad, c, rfl⟩ := h.len
  obtain ⟨n, hn⟩ : ∃ n, n = l.length := ⟨_, rfl⟩
  have HN := Lib.hid hn
  rw [← hn] at h hl ⊢
  clear hn
  go_enter Tryd.func58, Tryd.ntmps58
  go_wp2
  go_loopw [0, 9] (fun wv i wr => ∃ k : Nat, k ≤ n ∧ i = .int .i64 (k : Int) ∧ OwnS wr base wv (xs ++ (l.take k).map numS) ∧ Over V wr ∧ base ≤ wr.heap.size) (fun _ i _ => n - (intOf i).toNat)
  case atStart => exact ⟨0, Nat.zero_le _, rfl, by simpa using hown, hov, hbw⟩
  case round =>
    obtain ⟨k, hk, rfl, hok, hovr, hbr⟩ := hrel
    by_cases hlt : k < n
    · have hltI : (k : Int) < (n : Int) := by omega
      have hlt2 : k < l.length := by have := HN.out; omega
      have h2 := h
      rw [HN.out] at h2
      obtain ⟨b, o, rfl, hc⟩ := h2.at (by omega)
      have e1 := over_cell hovr (World.block_lt_of_cell? V _ (hc k hlt2)) (hc k hlt2)
      obtain ⟨x, hx1⟩ : ∃ x, l.getD k 0 = x := ⟨_, rfl⟩
      rw [hx1] at e1
      have hxm : x ∈ l := by rw [← hx1]; simp [List.getD, hlt2]
      obtain ⟨x0, x9⟩ := hb x hxm
      have htk : (l.take (k + 1)).map numS = (l.take k).map numS ++ [numS x] := by
        rw [List.take_succ_eq_append_getElem hlt2, List.map_append]
        congr 2
        rw [← hx1]; simp [List.getD, hlt2]
      have HT := Lib.hid htk
      have hln : (xs ++ (l.take k).map numS).length ≤ 4194304 := by simp; omega
      clear htk hx1 hc h2 h hxm hlt2 hb
      go_wp2_with (first
        | (go_at_call 57; refine (itoa_is (numS x) x _ (Lib.hid rfl) x0 x9 (ht.keep (over_below hovr))).mono ?_; rintro e w1 ⟨rfl, hb1⟩)
        | (at_builtin; refine wp_appStr rfl (.tmp 13) (.tmp 16) rfl base _ _ [numS x] ⟨w1.heap.size, 0, none⟩ 1 rfl rfl (OwnS.keep (OwnS.keep hok hb1) ((Below.refl _ _).alloc (Nat.le_refl _) _)) ?c1 ?c2 ?c3 ?c4))
      case c1 =>
        intro j y hy
        match j, hy with
        | 0, hy => simp at hy; subst hy; simp [Addr.add]
      case c2 => simp at hln ⊢; omega
      case c3 => have := hb1.size; simp; omega
      case c4 =>
        intro v2 w2 ho2 hg2
        have hov2 := over_grownS (over_alloc (over_step hovr hb1) (.cells #[.string (numS x)] ST)) (OwnS.keep (OwnS.keep hok hb1) ((Below.refl _ _).alloc (Nat.le_refl _) _)) hVb hg2
        have hs2 : base ≤ w2.heap.size := by have := hg2.size; have := hb1.size; simp at *; omega
        go_wp2
        go_roundw
        case rel => exact ⟨k + 1, by omega, by simp, by rw [HT.out]; simpa using ho2, hov2, hs2⟩
        case measure => simp [intOf]; omega
    · have hltI : ¬ (k : Int) < (n : Int) := by omega
      have hkn : l.take k = l := List.take_of_length_le (by have := HN.out; omega)
      rw [hkn] at hok
      clear hkn
      go_wp2
      go_ret
      exact ⟨_, rfl, hok, hovr, hbr⟩
end Go.Proofs.YtcmbajphholliabDoor
