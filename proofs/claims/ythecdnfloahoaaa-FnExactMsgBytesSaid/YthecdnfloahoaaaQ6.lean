/-
  Bytes of a message: contract of the program's MsgBytes. Conditions: those in each contract.
-/
import Derived.Test.YthecdnfloahoaaaQ5
namespace Go.Proofs.Ythecdnfloahoaaa
open Go.ChangeShapes Go.WideShapes Go.ChangeAt Go.RowKit Go.BigFrame
set_option linter.unusedVariables false
set_option maxRecDepth 100000
set_option linter.unusedSimpArgs false

theorem inv_O_body (n : Nat) (v : Value) (w : World) : (method (n + 1) 137 v "loop.example/g00557/impl.body").run Try.prog w = .ok (152, v) w := by kernel_rfl
theorem inv_U_body (n : Nat) (v : Value) (w : World) : (method (n + 1) 139 v "loop.example/g00557/impl.body").run Try.prog w = .ok (172, v) w := by kernel_rfl
theorem inv_N_body (n : Nat) (v : Value) (w : World) : (method (n + 1) 141 v "loop.example/g00557/impl.body").run Try.prog w = .ok (191, v) w := by kernel_rfl
theorem inv_K_body (n : Nat) (v : Value) (w : World) : (method (n + 1) 143 v "loop.example/g00557/impl.body").run Try.prog w = .ok (194, v) w := by kernel_rfl
set_option maxHeartbeats 1000000 in
theorem imb_O (ga ca pa ma : Option Addr) (gx cx px mx : Nat) (gs cs : List (Int × Int)) (ps ms : List Int) (sa ho ix pr bw er : Int) (w : World) (hg : RdP w (.slice ga gs.length gx) gs) (hc : RdP w (.slice ca cs.length cx) cs) (hp : RdI w (.slice pa ps.length px) ps) (hm : RdI w (.slice ma ms.length mx) ms) (hok : mokB gs cs ps ms 1 sa ho ix pr bw er = true) :
    Calls Try.prog 21 #[.agg #[.int .i64 1, .int .i64 sa, .int .i64 ho, .int .i64 ix, .slice ga gs.length gx, .slice ca cs.length cx, .slice pa ps.length px, .int .i64 pr, .slice ma ms.length mx, .int .i64 bw, .int .i64 er]] w fun e w' => ∃ u, e = .returned (.tuple #[u, .bool true]) ∧ Own w' w.heap.size u (msgL 1 (bodyM gs cs ps ms 1 sa ho ix pr bw er)) ∧ Below w.heap.size w w' := by
  have hB := mok_bounds hok
  have hbl := bodyM_len hB
  have hbb := bodyM_bd hB
  obtain ⟨bA, B0, z⟩ := one w [.int .i64 1, .int .i64 sa, .int .i64 ho, .int .i64 ix, .slice ga gs.length gx, .slice ca cs.length cx, .slice pa ps.length px, .int .i64 pr, .slice ma ms.length mx, .int .i64 bw, .int .i64 er] 41
  replace hg := hg.keep B0
  replace hc := hc.keep B0
  replace hp := hp.keep B0
  replace hm := hm.keep B0
  have hU : uvAns ga ca pa ma gx cx px mx gs cs ps ms 1 sa ho ix pr bw er = .tuple #[.iface 137 (.agg #[.int .i64 sa, .int .i64 ho, .int .i64 ix]), .bool true] := by
    unfold uvAns uvX
    rw [if_pos hok]
    exact congrArg (fun x => Value.tuple #[x, .bool true]) (if_pos rfl)
  have HU := Lib.hid hU
  have hbody : ∀ w, RdP w (.slice ga gs.length gx) gs → RdP w (.slice ca cs.length cx) cs → RdI w (.slice pa ps.length px) ps → RdI w (.slice ma ms.length mx) ms → Calls Try.prog 152 #[.agg #[.int .i64 sa, .int .i64 ho, .int .i64 ix]] w (NewB w (bodyM gs cs ps ms 1 sa ho ix pr bw er)) := by
    intro w hg hc hp hm
    rw [show bodyM gs cs ps ms 1 sa ho ix pr bw er = bodyO sa ho ix from if_pos rfl]
    exact ibodyO_any sa ho ix _ hB.sa hB.ho hB.ix
  have HB := Lib.hid hbody
  clear hU hbody z
  obtain ⟨L, hL⟩ : ∃ L, bodyM gs cs ps ms 1 sa ho ix pr bw er = L := ⟨_, rfl⟩
  rw [hL] at HB hbl hbb ⊢
  have HBB := Lib.hid hbb
  have hlI : (L.length : Int) ≤ 96 := by omega
  have qi := inv_O_body
  clear hL hbb hB hok
  go_enter Try.func21, Try.ntmps21
  go_wp2_with fail
  refine (uv_any ga ca pa ma gx cx px mx gs cs ps ms 1 sa ho ix pr bw er _ hg hc hp hm).mono ?_
  rw [HU.out]
  rintro e w1 ⟨rfl, hb⟩
  replace bA := bA.keep hb
  replace hg := hg.keep hb
  replace hc := hc.keep hb
  replace hp := hp.keep hb
  replace hm := hm.keep hb
  replace B0 := below_step B0 hb
  clear hb
  go_wp2_with fail
  refine (HB.out _ hg hc hp hm).mono ?_
  rintro e w2 ⟨v2, rfl, o2, hb⟩
  obtain ⟨x2, c2, rfl, -⟩ := Own.cap o2
  have bA2 := bA.keep hb
  have B2 := below_step B0 hb
  have a0 := bA2.c 0 rfl
  have HL := Lib.hid (Own.lit (base := w2.heap.size) w2 #[.int .u8 255, .int .u8 255, .int .u8 (4 + (L.length : Int)), .int .u8 1] [255, 255, 4 + (L.length : Int), 1] (Nat.le_refl _) (by simp [maxLen]) rfl)
  have HR := Lib.hid ((Own.rd o2 HBB.out).alloc (.cells #[.int .u8 255, .int .u8 255, .int .u8 (4 + (L.length : Int)), .int .u8 1] BT))
  have HLN := Lib.hid (show [255, 255, 4 + (L.length : Int), 1].length + L.length ≤ 4294967296 by simp; omega)
  have sB := B2.size
  clear bA bA2 hb B0 o2
  go_wp2_with (at_builtin; refine Hid.out ?_)
  refine Lib.hid ?_
  refine wp_app2 rfl _ _ rfl w2.heap.size (.slice (some ⟨w2.heap.size, 0, none⟩) 4 4) _ [255, 255, 4 + (L.length : Int), 1] L rfl rfl HL.out HR.out HLN.out (le_alloc _ _) ?_
  intro v3 w3 o3 g3 r3
  have B3 := (B2.alloc sB (.cells #[.int .u8 255, .int .u8 255, .int .u8 (4 + (L.length : Int)), .int .u8 1] BT)).grown g3 (Nat.le_trans sB (le_alloc _ _)) (fun k hk => by simp [Value.ownBlock] at hk; omega)
  have o4 := Own.mono (base' := w.heap.size) o3 sB
  rw [show [255, 255, 4 + (L.length : Int), 1] ++ L = msgL 1 L by unfold msgL; rw [Int.add_comm]] at o4
  have HO := Lib.hid o4
  clear o3 g3 r3 a0 B2 o4
  go_wp2_with fail
  exact bodyPost_ret (v := .tuple #[v3, .bool true]) (by simp [results, Try.results21, go_sem]) rfl ⟨v3, rfl, HO.out, B3⟩
set_option maxHeartbeats 1000000 in
theorem imb_U0 (ga ca pa ma : Option Addr) (gx cx px mx : Nat) (gs : List (Int × Int)) (ps ms : List Int) (sa ho ix pr bw er : Int) (w : World) (hg : RdP w (.slice ga gs.length gx) gs) (hc : RdP w (.slice ca 0 cx) []) (hp : RdI w (.slice pa ps.length px) ps) (hm : RdI w (.slice ma ms.length mx) ms) (hok : mokB gs [] ps ms 2 sa ho ix pr bw er = true) :
    Calls Try.prog 21 #[.agg #[.int .i64 2, .int .i64 sa, .int .i64 ho, .int .i64 ix, .slice ga gs.length gx, .slice ca 0 cx, .slice pa ps.length px, .int .i64 pr, .slice ma ms.length mx, .int .i64 bw, .int .i64 er]] w fun e w' => ∃ u, e = .returned (.tuple #[u, .bool true]) ∧ Own w' w.heap.size u (msgL 2 (bodyM gs [] ps ms 2 sa ho ix pr bw er)) ∧ Below w.heap.size w w' := by
  have hB := mok_bounds hok
  have hbl := bodyM_len hB
  have hbb := bodyM_bd hB
  obtain ⟨bA, B0, z⟩ := one w [.int .i64 2, .int .i64 sa, .int .i64 ho, .int .i64 ix, .slice ga gs.length gx, .slice ca 0 cx, .slice pa ps.length px, .int .i64 pr, .slice ma ms.length mx, .int .i64 bw, .int .i64 er] 41
  replace hg := hg.keep B0
  replace hc := hc.keep B0
  replace hp := hp.keep B0
  replace hm := hm.keep B0
  have hU : uvAns ga ca pa ma gx cx px mx gs [] ps ms 2 sa ho ix pr bw er = .tuple #[.iface 139 (.agg #[.slice ga gs.length gx, .slice ca 0 cx, .slice none 0 0, .int .i64 0, .slice none 0 0, .int .i64 0]), .bool true] := by
    unfold uvAns uvX
    rw [if_pos hok]
    exact congrArg (fun x => Value.tuple #[x, .bool true]) ((if_neg (by decide)).trans ((if_pos rfl).trans (if_pos rfl)))
  have HU := Lib.hid hU
  have hbody : ∀ w, RdP w (.slice ga gs.length gx) gs → RdP w (.slice ca 0 cx) [] → RdI w (.slice pa ps.length px) ps → RdI w (.slice ma ms.length mx) ms → Calls Try.prog 172 #[.agg #[.slice ga gs.length gx, .slice ca 0 cx, .slice none 0 0, .int .i64 0, .slice none 0 0, .int .i64 0]] w (NewB w (bodyM gs [] ps ms 2 sa ho ix pr bw er)) := by
    intro w hg hc hp hm
    rw [show bodyM gs [] ps ms 2 sa ho ix pr bw er = bodyU gs [] [] [] 0 0 from ((if_neg (by decide)).trans (if_pos rfl)).trans rfl]
    exact ibodyU_any ga ca none none gx cx 0 0 gs [] [] [] 0 0 _ hg hc (RdI.nil _) (RdI.nil _) hB.gl (by simp) (by simp) (by simp) (by simp) (by simp) (by omega) (by omega)
  have HB := Lib.hid hbody
  clear hU hbody z
  obtain ⟨L, hL⟩ : ∃ L, bodyM gs [] ps ms 2 sa ho ix pr bw er = L := ⟨_, rfl⟩
  rw [hL] at HB hbl hbb ⊢
  have HBB := Lib.hid hbb
  have hlI : (L.length : Int) ≤ 96 := by omega
  have qi := inv_U_body
  clear hL hbb hB hok
  go_enter Try.func21, Try.ntmps21
  go_wp2_with fail
  refine (uv_any ga ca pa ma gx cx px mx gs [] ps ms 2 sa ho ix pr bw er _ hg hc hp hm).mono ?_
  rw [HU.out]
  rintro e w1 ⟨rfl, hb⟩
  replace bA := bA.keep hb
  replace hg := hg.keep hb
  replace hc := hc.keep hb
  replace hp := hp.keep hb
  replace hm := hm.keep hb
  replace B0 := below_step B0 hb
  clear hb
  go_wp2_with fail
  refine (HB.out _ hg hc hp hm).mono ?_
  rintro e w2 ⟨v2, rfl, o2, hb⟩
  obtain ⟨x2, c2, rfl, -⟩ := Own.cap o2
  have bA2 := bA.keep hb
  have B2 := below_step B0 hb
  have a0 := bA2.c 0 rfl
  have HL := Lib.hid (Own.lit (base := w2.heap.size) w2 #[.int .u8 255, .int .u8 255, .int .u8 (4 + (L.length : Int)), .int .u8 2] [255, 255, 4 + (L.length : Int), 2] (Nat.le_refl _) (by simp [maxLen]) rfl)
  have HR := Lib.hid ((Own.rd o2 HBB.out).alloc (.cells #[.int .u8 255, .int .u8 255, .int .u8 (4 + (L.length : Int)), .int .u8 2] BT))
  have HLN := Lib.hid (show [255, 255, 4 + (L.length : Int), 2].length + L.length ≤ 4294967296 by simp; omega)
  have sB := B2.size
  clear bA bA2 hb B0 o2
  go_wp2_with (at_builtin; refine Hid.out ?_)
  refine Lib.hid ?_
  refine wp_app2 rfl _ _ rfl w2.heap.size (.slice (some ⟨w2.heap.size, 0, none⟩) 4 4) _ [255, 255, 4 + (L.length : Int), 2] L rfl rfl HL.out HR.out HLN.out (le_alloc _ _) ?_
  intro v3 w3 o3 g3 r3
  have B3 := (B2.alloc sB (.cells #[.int .u8 255, .int .u8 255, .int .u8 (4 + (L.length : Int)), .int .u8 2] BT)).grown g3 (Nat.le_trans sB (le_alloc _ _)) (fun k hk => by simp [Value.ownBlock] at hk; omega)
  have o4 := Own.mono (base' := w.heap.size) o3 sB
  rw [show [255, 255, 4 + (L.length : Int), 2] ++ L = msgL 2 L by unfold msgL; rw [Int.add_comm]] at o4
  have HO := Lib.hid o4
  clear o3 g3 r3 a0 B2 o4
  go_wp2_with fail
  exact bodyPost_ret (v := .tuple #[v3, .bool true]) (by simp [results, Try.results21, go_sem]) rfl ⟨v3, rfl, HO.out, B3⟩
set_option maxHeartbeats 1000000 in
theorem imb_U (ga ca pa ma : Option Addr) (gx cx px mx : Nat) (gs cs : List (Int × Int)) (ps ms : List Int) (sa ho ix pr bw er : Int) (w : World) (hg : RdP w (.slice ga gs.length gx) gs) (hc : RdP w (.slice ca cs.length cx) cs) (hp : RdI w (.slice pa ps.length px) ps) (hm : RdI w (.slice ma ms.length mx) ms) (hok : mokB gs cs ps ms 2 sa ho ix pr bw er = true) (h0 : cs.length ≠ 0) :
    Calls Try.prog 21 #[.agg #[.int .i64 2, .int .i64 sa, .int .i64 ho, .int .i64 ix, .slice ga gs.length gx, .slice ca cs.length cx, .slice pa ps.length px, .int .i64 pr, .slice ma ms.length mx, .int .i64 bw, .int .i64 er]] w fun e w' => ∃ u, e = .returned (.tuple #[u, .bool true]) ∧ Own w' w.heap.size u (msgL 2 (bodyM gs cs ps ms 2 sa ho ix pr bw er)) ∧ Below w.heap.size w w' := by
  have hB := mok_bounds hok
  have hbl := bodyM_len hB
  have hbb := bodyM_bd hB
  obtain ⟨bA, B0, z⟩ := one w [.int .i64 2, .int .i64 sa, .int .i64 ho, .int .i64 ix, .slice ga gs.length gx, .slice ca cs.length cx, .slice pa ps.length px, .int .i64 pr, .slice ma ms.length mx, .int .i64 bw, .int .i64 er] 41
  replace hg := hg.keep B0
  replace hc := hc.keep B0
  replace hp := hp.keep B0
  replace hm := hm.keep B0
  have hU : uvAns ga ca pa ma gx cx px mx gs cs ps ms 2 sa ho ix pr bw er = .tuple #[.iface 139 (.agg #[.slice ga gs.length gx, .slice ca cs.length cx, .slice pa ps.length px, .int .i64 pr, .slice ma ms.length mx, .int .i64 bw]), .bool true] := by
    unfold uvAns uvX
    rw [if_pos hok]
    exact congrArg (fun x => Value.tuple #[x, .bool true]) ((if_neg (by decide)).trans ((if_pos rfl).trans (if_neg h0)))
  have HU := Lib.hid hU
  have hbody : ∀ w, RdP w (.slice ga gs.length gx) gs → RdP w (.slice ca cs.length cx) cs → RdI w (.slice pa ps.length px) ps → RdI w (.slice ma ms.length mx) ms → Calls Try.prog 172 #[.agg #[.slice ga gs.length gx, .slice ca cs.length cx, .slice pa ps.length px, .int .i64 pr, .slice ma ms.length mx, .int .i64 bw]] w (NewB w (bodyM gs cs ps ms 2 sa ho ix pr bw er)) := by
    intro w hg hc hp hm
    rw [show bodyM gs cs ps ms 2 sa ho ix pr bw er = bodyU gs cs ps ms pr bw from (if_neg (by decide)).trans (if_pos rfl)]
    exact ibodyU_any ga ca pa ma gx cx px mx gs cs ps ms pr bw _ hg hc hp hm hB.gl hB.cl hB.pl hB.ml hB.pb hB.mb hB.pr hB.bw
  have HB := Lib.hid hbody
  clear hU hbody z
  obtain ⟨L, hL⟩ : ∃ L, bodyM gs cs ps ms 2 sa ho ix pr bw er = L := ⟨_, rfl⟩
  rw [hL] at HB hbl hbb ⊢
  have HBB := Lib.hid hbb
  have hlI : (L.length : Int) ≤ 96 := by omega
  have qi := inv_U_body
  clear hL hbb hB hok
  go_enter Try.func21, Try.ntmps21
  go_wp2_with fail
  refine (uv_any ga ca pa ma gx cx px mx gs cs ps ms 2 sa ho ix pr bw er _ hg hc hp hm).mono ?_
  rw [HU.out]
  rintro e w1 ⟨rfl, hb⟩
  replace bA := bA.keep hb
  replace hg := hg.keep hb
  replace hc := hc.keep hb
  replace hp := hp.keep hb
  replace hm := hm.keep hb
  replace B0 := below_step B0 hb
  clear hb
  go_wp2_with fail
  refine (HB.out _ hg hc hp hm).mono ?_
  rintro e w2 ⟨v2, rfl, o2, hb⟩
  obtain ⟨x2, c2, rfl, -⟩ := Own.cap o2
  have bA2 := bA.keep hb
  have B2 := below_step B0 hb
  have a0 := bA2.c 0 rfl
  have HL := Lib.hid (Own.lit (base := w2.heap.size) w2 #[.int .u8 255, .int .u8 255, .int .u8 (4 + (L.length : Int)), .int .u8 2] [255, 255, 4 + (L.length : Int), 2] (Nat.le_refl _) (by simp [maxLen]) rfl)
  have HR := Lib.hid ((Own.rd o2 HBB.out).alloc (.cells #[.int .u8 255, .int .u8 255, .int .u8 (4 + (L.length : Int)), .int .u8 2] BT))
  have HLN := Lib.hid (show [255, 255, 4 + (L.length : Int), 2].length + L.length ≤ 4294967296 by simp; omega)
  have sB := B2.size
  clear bA bA2 hb B0 o2
  go_wp2_with (at_builtin; refine Hid.out ?_)
  refine Lib.hid ?_
  refine wp_app2 rfl _ _ rfl w2.heap.size (.slice (some ⟨w2.heap.size, 0, none⟩) 4 4) _ [255, 255, 4 + (L.length : Int), 2] L rfl rfl HL.out HR.out HLN.out (le_alloc _ _) ?_
  intro v3 w3 o3 g3 r3
  have B3 := (B2.alloc sB (.cells #[.int .u8 255, .int .u8 255, .int .u8 (4 + (L.length : Int)), .int .u8 2] BT)).grown g3 (Nat.le_trans sB (le_alloc _ _)) (fun k hk => by simp [Value.ownBlock] at hk; omega)
  have o4 := Own.mono (base' := w.heap.size) o3 sB
  rw [show [255, 255, 4 + (L.length : Int), 2] ++ L = msgL 2 L by unfold msgL; rw [Int.add_comm]] at o4
  have HO := Lib.hid o4
  clear o3 g3 r3 a0 B2 o4
  go_wp2_with fail
  exact bodyPost_ret (v := .tuple #[v3, .bool true]) (by simp [results, Try.results21, go_sem]) rfl ⟨v3, rfl, HO.out, B3⟩
set_option maxHeartbeats 1000000 in
theorem imb_N (ga ca pa ma : Option Addr) (gx cx px mx : Nat) (gs cs : List (Int × Int)) (ps ms : List Int) (sa ho ix pr bw er : Int) (w : World) (hg : RdP w (.slice ga gs.length gx) gs) (hc : RdP w (.slice ca cs.length cx) cs) (hp : RdI w (.slice pa ps.length px) ps) (hm : RdI w (.slice ma ms.length mx) ms) (hok : mokB gs cs ps ms 3 sa ho ix pr bw er = true) :
    Calls Try.prog 21 #[.agg #[.int .i64 3, .int .i64 sa, .int .i64 ho, .int .i64 ix, .slice ga gs.length gx, .slice ca cs.length cx, .slice pa ps.length px, .int .i64 pr, .slice ma ms.length mx, .int .i64 bw, .int .i64 er]] w fun e w' => ∃ u, e = .returned (.tuple #[u, .bool true]) ∧ Own w' w.heap.size u (msgL 3 (bodyM gs cs ps ms 3 sa ho ix pr bw er)) ∧ Below w.heap.size w w' := by
  have hB := mok_bounds hok
  have hbl := bodyM_len hB
  have hbb := bodyM_bd hB
  obtain ⟨bA, B0, z⟩ := one w [.int .i64 3, .int .i64 sa, .int .i64 ho, .int .i64 ix, .slice ga gs.length gx, .slice ca cs.length cx, .slice pa ps.length px, .int .i64 pr, .slice ma ms.length mx, .int .i64 bw, .int .i64 er] 41
  replace hg := hg.keep B0
  replace hc := hc.keep B0
  replace hp := hp.keep B0
  replace hm := hm.keep B0
  have hU : uvAns ga ca pa ma gx cx px mx gs cs ps ms 3 sa ho ix pr bw er = .tuple #[.iface 141 (.agg #[.int .i64 er]), .bool true] := by
    unfold uvAns uvX
    rw [if_pos hok]
    exact congrArg (fun x => Value.tuple #[x, .bool true]) ((if_neg (by decide)).trans ((if_neg (by decide)).trans (if_pos rfl)))
  have HU := Lib.hid hU
  have hbody : ∀ w, RdP w (.slice ga gs.length gx) gs → RdP w (.slice ca cs.length cx) cs → RdI w (.slice pa ps.length px) ps → RdI w (.slice ma ms.length mx) ms → Calls Try.prog 191 #[.agg #[.int .i64 er]] w (NewB w (bodyM gs cs ps ms 3 sa ho ix pr bw er)) := by
    intro w hg hc hp hm
    rw [show bodyM gs cs ps ms 3 sa ho ix pr bw er = [er] from (if_neg (by decide)).trans ((if_neg (by decide)).trans (if_pos rfl))]
    exact ibodyN_any er _ hB.er
  have HB := Lib.hid hbody
  clear hU hbody z
  obtain ⟨L, hL⟩ : ∃ L, bodyM gs cs ps ms 3 sa ho ix pr bw er = L := ⟨_, rfl⟩
  rw [hL] at HB hbl hbb ⊢
  have HBB := Lib.hid hbb
  have hlI : (L.length : Int) ≤ 96 := by omega
  have qi := inv_N_body
  clear hL hbb hB hok
  go_enter Try.func21, Try.ntmps21
  go_wp2_with fail
  refine (uv_any ga ca pa ma gx cx px mx gs cs ps ms 3 sa ho ix pr bw er _ hg hc hp hm).mono ?_
  rw [HU.out]
  rintro e w1 ⟨rfl, hb⟩
  replace bA := bA.keep hb
  replace hg := hg.keep hb
  replace hc := hc.keep hb
  replace hp := hp.keep hb
  replace hm := hm.keep hb
  replace B0 := below_step B0 hb
  clear hb
  go_wp2_with fail
  refine (HB.out _ hg hc hp hm).mono ?_
  rintro e w2 ⟨v2, rfl, o2, hb⟩
  obtain ⟨x2, c2, rfl, -⟩ := Own.cap o2
  have bA2 := bA.keep hb
  have B2 := below_step B0 hb
  have a0 := bA2.c 0 rfl
  have HL := Lib.hid (Own.lit (base := w2.heap.size) w2 #[.int .u8 255, .int .u8 255, .int .u8 (4 + (L.length : Int)), .int .u8 3] [255, 255, 4 + (L.length : Int), 3] (Nat.le_refl _) (by simp [maxLen]) rfl)
  have HR := Lib.hid ((Own.rd o2 HBB.out).alloc (.cells #[.int .u8 255, .int .u8 255, .int .u8 (4 + (L.length : Int)), .int .u8 3] BT))
  have HLN := Lib.hid (show [255, 255, 4 + (L.length : Int), 3].length + L.length ≤ 4294967296 by simp; omega)
  have sB := B2.size
  clear bA bA2 hb B0 o2
  go_wp2_with (at_builtin; refine Hid.out ?_)
  refine Lib.hid ?_
  refine wp_app2 rfl _ _ rfl w2.heap.size (.slice (some ⟨w2.heap.size, 0, none⟩) 4 4) _ [255, 255, 4 + (L.length : Int), 3] L rfl rfl HL.out HR.out HLN.out (le_alloc _ _) ?_
  intro v3 w3 o3 g3 r3
  have B3 := (B2.alloc sB (.cells #[.int .u8 255, .int .u8 255, .int .u8 (4 + (L.length : Int)), .int .u8 3] BT)).grown g3 (Nat.le_trans sB (le_alloc _ _)) (fun k hk => by simp [Value.ownBlock] at hk; omega)
  have o4 := Own.mono (base' := w.heap.size) o3 sB
  rw [show [255, 255, 4 + (L.length : Int), 3] ++ L = msgL 3 L by unfold msgL; rw [Int.add_comm]] at o4
  have HO := Lib.hid o4
  clear o3 g3 r3 a0 B2 o4
  go_wp2_with fail
  exact bodyPost_ret (v := .tuple #[v3, .bool true]) (by simp [results, Try.results21, go_sem]) rfl ⟨v3, rfl, HO.out, B3⟩
set_option maxHeartbeats 1000000 in
theorem imb_K (ga ca pa ma : Option Addr) (gx cx px mx : Nat) (gs cs : List (Int × Int)) (ps ms : List Int) (sa ho ix pr bw er : Int) (w : World) (hg : RdP w (.slice ga gs.length gx) gs) (hc : RdP w (.slice ca cs.length cx) cs) (hp : RdI w (.slice pa ps.length px) ps) (hm : RdI w (.slice ma ms.length mx) ms) (hok : mokB gs cs ps ms 4 sa ho ix pr bw er = true) :
    Calls Try.prog 21 #[.agg #[.int .i64 4, .int .i64 sa, .int .i64 ho, .int .i64 ix, .slice ga gs.length gx, .slice ca cs.length cx, .slice pa ps.length px, .int .i64 pr, .slice ma ms.length mx, .int .i64 bw, .int .i64 er]] w fun e w' => ∃ u, e = .returned (.tuple #[u, .bool true]) ∧ Own w' w.heap.size u (msgL 4 (bodyM gs cs ps ms 4 sa ho ix pr bw er)) ∧ Below w.heap.size w w' := by
  have hB := mok_bounds hok
  have hbl := bodyM_len hB
  have hbb := bodyM_bd hB
  obtain ⟨bA, B0, z⟩ := one w [.int .i64 4, .int .i64 sa, .int .i64 ho, .int .i64 ix, .slice ga gs.length gx, .slice ca cs.length cx, .slice pa ps.length px, .int .i64 pr, .slice ma ms.length mx, .int .i64 bw, .int .i64 er] 41
  replace hg := hg.keep B0
  replace hc := hc.keep B0
  replace hp := hp.keep B0
  replace hm := hm.keep B0
  have hU : uvAns ga ca pa ma gx cx px mx gs cs ps ms 4 sa ho ix pr bw er = .tuple #[.iface 143 (.agg #[]), .bool true] := by
    unfold uvAns uvX
    rw [if_pos hok]
    exact congrArg (fun x => Value.tuple #[x, .bool true]) ((if_neg (by decide)).trans ((if_neg (by decide)).trans (if_neg (by decide))))
  have HU := Lib.hid hU
  have hbody : ∀ w, RdP w (.slice ga gs.length gx) gs → RdP w (.slice ca cs.length cx) cs → RdI w (.slice pa ps.length px) ps → RdI w (.slice ma ms.length mx) ms → Calls Try.prog 194 #[.agg #[]] w (NewB w (bodyM gs cs ps ms 4 sa ho ix pr bw er)) := by
    intro w hg hc hp hm
    rw [show bodyM gs cs ps ms 4 sa ho ix pr bw er = [] from (if_neg (by decide)).trans ((if_neg (by decide)).trans (if_neg (by decide)))]
    exact ibodyK_any _
  have HB := Lib.hid hbody
  clear hU hbody z
  obtain ⟨L, hL⟩ : ∃ L, bodyM gs cs ps ms 4 sa ho ix pr bw er = L := ⟨_, rfl⟩
  rw [hL] at HB hbl hbb ⊢
  have HBB := Lib.hid hbb
  have hlI : (L.length : Int) ≤ 96 := by omega
  have qi := inv_K_body
  clear hL hbb hB hok
  go_enter Try.func21, Try.ntmps21
  go_wp2_with fail
  refine (uv_any ga ca pa ma gx cx px mx gs cs ps ms 4 sa ho ix pr bw er _ hg hc hp hm).mono ?_
  rw [HU.out]
  rintro e w1 ⟨rfl, hb⟩
  replace bA := bA.keep hb
  replace hg := hg.keep hb
  replace hc := hc.keep hb
  replace hp := hp.keep hb
  replace hm := hm.keep hb
  replace B0 := below_step B0 hb
  clear hb
  go_wp2_with fail
  refine (HB.out _ hg hc hp hm).mono ?_
  rintro e w2 ⟨v2, rfl, o2, hb⟩
  obtain ⟨x2, c2, rfl, -⟩ := Own.cap o2
  have bA2 := bA.keep hb
  have B2 := below_step B0 hb
  have a0 := bA2.c 0 rfl
  have HL := Lib.hid (Own.lit (base := w2.heap.size) w2 #[.int .u8 255, .int .u8 255, .int .u8 (4 + (L.length : Int)), .int .u8 4] [255, 255, 4 + (L.length : Int), 4] (Nat.le_refl _) (by simp [maxLen]) rfl)
  have HR := Lib.hid ((Own.rd o2 HBB.out).alloc (.cells #[.int .u8 255, .int .u8 255, .int .u8 (4 + (L.length : Int)), .int .u8 4] BT))
  have HLN := Lib.hid (show [255, 255, 4 + (L.length : Int), 4].length + L.length ≤ 4294967296 by simp; omega)
  have sB := B2.size
  clear bA bA2 hb B0 o2
  go_wp2_with (at_builtin; refine Hid.out ?_)
  refine Lib.hid ?_
  refine wp_app2 rfl _ _ rfl w2.heap.size (.slice (some ⟨w2.heap.size, 0, none⟩) 4 4) _ [255, 255, 4 + (L.length : Int), 4] L rfl rfl HL.out HR.out HLN.out (le_alloc _ _) ?_
  intro v3 w3 o3 g3 r3
  have B3 := (B2.alloc sB (.cells #[.int .u8 255, .int .u8 255, .int .u8 (4 + (L.length : Int)), .int .u8 4] BT)).grown g3 (Nat.le_trans sB (le_alloc _ _)) (fun k hk => by simp [Value.ownBlock] at hk; omega)
  have o4 := Own.mono (base' := w.heap.size) o3 sB
  rw [show [255, 255, 4 + (L.length : Int), 4] ++ L = msgL 4 L by unfold msgL; rw [Int.add_comm]] at o4
  have HO := Lib.hid o4
  clear o3 g3 r3 a0 B2 o4
  go_wp2_with fail
  exact bodyPost_ret (v := .tuple #[v3, .bool true]) (by simp [results, Try.results21, go_sem]) rfl ⟨v3, rfl, HO.out, B3⟩
theorem imb_any (ga ca pa ma : Option Addr) (gx cx px mx : Nat) (gs cs : List (Int × Int)) (ps ms : List Int) (kn sa ho ix pr bw er : Int) (w : World) (hg : RdP w (.slice ga gs.length gx) gs) (hc : RdP w (.slice ca cs.length cx) cs) (hp : RdI w (.slice pa ps.length px) ps) (hm : RdI w (.slice ma ms.length mx) ms) (hok : mokB gs cs ps ms kn sa ho ix pr bw er = true) :
    Calls Try.prog 21 #[.agg #[.int .i64 kn, .int .i64 sa, .int .i64 ho, .int .i64 ix, .slice ga gs.length gx, .slice ca cs.length cx, .slice pa ps.length px, .int .i64 pr, .slice ma ms.length mx, .int .i64 bw, .int .i64 er]] w fun e w' => ∃ u, e = .returned (.tuple #[u, .bool true]) ∧ Own w' w.heap.size u (msgL kn (bodyM gs cs ps ms kn sa ho ix pr bw er)) ∧ Below w.heap.size w w' := by
  have hk := (mok_bounds hok).kn
  obtain rfl | rfl | rfl | rfl : kn = 1 ∨ kn = 2 ∨ kn = 3 ∨ kn = 4 := by omega
  · exact imb_O ga ca pa ma gx cx px mx gs cs ps ms sa ho ix pr bw er w hg hc hp hm hok
  · by_cases h0 : cs.length = 0
    · obtain rfl := List.eq_nil_of_length_eq_zero h0
      exact imb_U0 ga ca pa ma gx cx px mx gs ps ms sa ho ix pr bw er w hg hc hp hm hok
    · exact imb_U ga ca pa ma gx cx px mx gs cs ps ms sa ho ix pr bw er w hg hc hp hm hok h0
  · exact imb_N ga ca pa ma gx cx px mx gs cs ps ms sa ho ix pr bw er w hg hc hp hm hok
  · exact imb_K ga ca pa ma gx cx px mx gs cs ps ms sa ho ix pr bw er w hg hc hp hm hok
theorem imb_no (ga ca pa ma : Option Addr) (gx cx px mx : Nat) (gs cs : List (Int × Int)) (ps ms : List Int) (kn sa ho ix pr bw er : Int) (w : World) (hg : RdP w (.slice ga gs.length gx) gs) (hc : RdP w (.slice ca cs.length cx) cs) (hp : RdI w (.slice pa ps.length px) ps) (hm : RdI w (.slice ma ms.length mx) ms) (hok : mokB gs cs ps ms kn sa ho ix pr bw er = false) :
    Calls Try.prog 21 #[.agg #[.int .i64 kn, .int .i64 sa, .int .i64 ho, .int .i64 ix, .slice ga gs.length gx, .slice ca cs.length cx, .slice pa ps.length px, .int .i64 pr, .slice ma ms.length mx, .int .i64 bw, .int .i64 er]] w fun e w' => e = .returned (.tuple #[.slice none 0 0, .bool false]) ∧ Below w.heap.size w w' := by
  obtain ⟨bA, B0, z⟩ := one w [.int .i64 kn, .int .i64 sa, .int .i64 ho, .int .i64 ix, .slice ga gs.length gx, .slice ca cs.length cx, .slice pa ps.length px, .int .i64 pr, .slice ma ms.length mx, .int .i64 bw, .int .i64 er] 41
  have hu := uv_any ga ca pa ma gx cx px mx gs cs ps ms kn sa ho ix pr bw er _ (hg.keep B0) (hc.keep B0) (hp.keep B0) (hm.keep B0)
  have e : uvAns ga ca pa ma gx cx px mx gs cs ps ms kn sa ho ix pr bw er = .tuple #[.nilIface, .bool false] := if_neg (by rw [hok]; decide)
  rw [e] at hu
  clear e hok z
  go_enter Try.func21, Try.ntmps21
  go_wp2_with fail
  refine hu.mono ?_
  rintro e w1 ⟨rfl, hb⟩
  replace B0 := below_step B0 hb
  clear hb
  go_wp2_with fail
  exact bodyPost_ret (v := .tuple #[.slice none 0 0, .bool false]) (by simp [results, Try.results21, go_sem]) rfl ⟨rfl, B0⟩
end Go.Proofs.Ythecdnfloahoaaa
