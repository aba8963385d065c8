/-
  The prefixes of a table: contracts of RibPrefixes of the program and of the model. Conditions: those in each contract.
-/
import Derived.Test.YtbcmoofpgffbhaaF6
namespace Go.Proofs.Ytbcmoofpgffbhaa
open Go.ChangeShapes Go.WideShapes Go.ChangeAt Go.RowKit Go.BigFrame Go.Joins
set_option linter.unusedVariables false
set_option maxRecDepth 100000
set_option linter.unusedSimpArgs false
set_option maxRecDepth 100000

/-- what RibPrefixes answers -/
def ansP (L : List Ent) : List (Int × Int) := if ribB L = true then kp (pfx L) L.length else []
theorem ansP_no {L : List Ent} (h : ribB L = false) : ansP L = [] := by simp [ansP, h]
theorem ansP_yes {L : List Ent} (h : ribB L = true) : ansP L = kp (pfx L) L.length := by simp [ansP, h]
theorem ribB_len {L : List Ent} (h : ribB L = true) : L.length ≤ 60 := by
  unfold ribB at h
  simp at h
  omega
theorem take_pfx {L : List Ent} {k : Nat} {E : Ent} (h : k < L.length) (hx : L.getD k e0 = E) : (pfx L).take (k + 1) = (pfx L).take k ++ [(E.a, E.n)] := by
  have hl : k < (pfx L).length := by rw [pfx_len]; exact h
  have e := pfx_get L k
  rw [hx] at e
  rw [List.take_add_one, List.getElem?_eq_getElem hl]
  simp only [List.getD_eq_getElem?_getD, List.getElem?_eq_getElem hl, Option.getD_some] at e
  simp [e]
theorem irp_of (v : Value) (L : List Ent) (w : World) (h : RdE w v L) 
    (hC0 : ∀ (base : Nat) (w1 : World) (u : Value), OwnP w1 base u (pfx L) → Calls Try.prog 132 #[u] w1 fun e w2 => ∃ r, e = .returned r ∧ OwnP w2 base r (kp (pfx L) L.length) ∧ w1.grownBy w2 u.ownBlock) :
    Calls Try.prog 74 #[.agg #[v]] w fun e w' => ∃ u, e = .returned u ∧ OwnP w' w.heap.size u (ansP L) ∧ Below w.heap.size w w' := by
  obtain ⟨a, c, rfl, hc⟩ := h.el
  have hlen := h.1
  obtain ⟨bR, B0, z⟩ := one w [.slice a L.length c] 46
  clear z
  cases hb : ribB L
  · rw [ansP_no hb]
    have HB := Lib.hid hb
    clear hb
    go_enter Try.func74, Try.ntmps74
    go_wp2_with fail
    refine (irib_t _ (h.keep B0) HB).mono ?_
    rintro e w1 ⟨rfl, hb1⟩
    replace B0 := below_step B0 hb1
    clear hb1
    go_wp2
    go_ret
    exact ⟨_, rfl, World.ownsRow_nil _ _ _ _, B0⟩
  · rw [ansP_yes hb]
    have HN6 := Lib.hid (ribB_len hb)
    have HB := Lib.hid hb
    clear hb
    obtain ⟨R, hR⟩ : ∃ R, R = w.heap.size := ⟨_, rfl⟩
    go_enter Try.func74, Try.ntmps74
    go_wp2_with fail
    refine (irib_t _ (h.keep B0) HB).mono ?_
    rintro e W1 ⟨rfl, hb1⟩
    have hRW : w.heap.size < W1.heap.size := Nat.lt_of_lt_of_le (by simp) hb1.size
    replace bR := bR.keep hb1
    replace B0 := below_step B0 hb1
    clear hb1
    obtain ⟨n, hn⟩ : ∃ n, n = L.length := ⟨_, rfl⟩
    rw [← hn] at hc hlen bR HN6 hC0
    try rw [← hn]
    have HN := Lib.hid hn
    have hC := hC0 W1.heap.size
    clear h hn hC0
    have r0 := bR.c 0 rfl
    go_wp2
    clear r0
    try simp only [← hR]
    rw [← hR] at bR
    clear hR
    go_loopw [3, 12] (fun lv q wr => ∃ k : Nat, k ≤ n ∧ q = .int .i64 k ∧ OwnP wr W1.heap.size lv ((pfx L).take k) ∧ Over W1 wr) (fun _ q _ => n - (intOf q).toNat)
    case atStart => exact ⟨0, Nat.zero_le _, rfl, World.ownsRow_nil _ _ _ _, over_refl _⟩
    case round =>
      obtain ⟨k, hk, rfl, hok, hB⟩ := hrel
      replace bR := bR.keep hB
      have r0 := bR.c 0 rfl
      by_cases hlt : k < n
      · have hltI : (k : Int) < (n : Int) := by omega
        obtain ⟨b, o, rfl, hE⟩ := hc k hlt
        obtain ⟨E, hx⟩ : ∃ E, L.getD k e0 = E := ⟨_, rfl⟩
        rw [hx] at hE
        obtain ⟨pv, cv, hp, hq, g0, g1, g2, g3, g4, g5, g6⟩ := hE.keep (below_step B0 hB)
        have HX := Lib.hid (take_pfx (by rw [← HN.out]; exact hlt) hx)
        have HLN : Hid (((pfx L).take k).length + 1 ≤ 4294967296) := Lib.hid (by have := HN6.out; simp; omega)
        clear hx hc hE
        obtain ⟨pa, px, rfl⟩ := hp.len
        obtain ⟨qa, qx, rfl⟩ := hq.len
        have bP := Bl.new wr [.int .i64 E.a, .int .i64 E.n, .int .i64 E.pe, .slice pa E.p.length px, .int .i64 E.pr, .slice qa E.c.length qx, .int .i64 E.bw] EI wr.heap.size rfl
        have hB2 : Over W1 (wr.alloc (.cells #[.int .i64 E.a, .int .i64 E.n, .int .i64 E.pe, .slice pa E.p.length px, .int .i64 E.pr, .slice qa E.c.length qx, .int .i64 E.bw] EI)) := over_alloc hB _
        replace hok := hok.alloc (.cells #[.int .i64 E.a, .int .i64 E.n, .int .i64 E.pe, .slice pa E.p.length px, .int .i64 E.pr, .slice qa E.c.length qx, .int .i64 E.bw] EI)
        have p0 := bP.c 0 rfl
        have p1 := bP.c 1 rfl
        go_wp2_with (at_builtin; refine Hid.out ?_)
        clear p0 p1
        refine Lib.hid ?_
        refine wp_appP rfl _ _ rfl W1.heap.size (wr.heap.size + 1) 1 _ ((pfx L).take k) (E.a, E.n) rfl rfl (hok.alloc _) ((Bl.new (wr.alloc (.cells #[.int .i64 E.a, .int .i64 E.n, .int .i64 E.pe, .slice pa E.p.length px, .int .i64 E.pr, .slice qa E.c.length qx, .int .i64 E.bw] EI)) [.int .i64 E.a, .int .i64 E.n] PT (wr.heap.size + 1) (by simp)).c 0 rfl) ((Bl.new (wr.alloc (.cells #[.int .i64 E.a, .int .i64 E.n, .int .i64 E.pe, .slice pa E.p.length px, .int .i64 E.pr, .slice qa E.c.length qx, .int .i64 E.bw] EI)) [.int .i64 E.a, .int .i64 E.n] PT (wr.heap.size + 1) (by simp)).c 1 rfl) HLN.out (Nat.le_trans hB2.size (by simp)) ?_
        intro v3 w3 o3 g3
        have O3 := over_grownP (over_alloc hB2 (.cells #[.int .i64 E.a, .int .i64 E.n] PT)) (hok.alloc _) (Nat.le_refl _) g3
        clear g3
        go_wp2
        go_roundw
        case rel => exact ⟨k + 1, by omega, by go_num, by rw [HX.out]; exact o3, O3⟩
        case measure => simp [intOf]; omega
      · have hkn : k = n := by omega
        subst hkn
        clear hc
        have e : (pfx L).take k = pfx L := by rw [HN.out, ← pfx_len]; exact List.take_length
        rw [e] at hok
        clear e
        go_wp2_with fail
        refine (hC _ _ hok).mono ?_
        rintro e w3 ⟨u, rfl, ho, hg⟩
        have O3 := over_grownP hB hok (Nat.le_refl _) hg
        clear hg
        go_wp2
        go_ret
        exact ⟨_, rfl, by rw [← HN.out]; exact ho.mono (Nat.le_of_lt hRW), below_step B0 O3⟩
end Go.Proofs.Ytbcmoofpgffbhaa
