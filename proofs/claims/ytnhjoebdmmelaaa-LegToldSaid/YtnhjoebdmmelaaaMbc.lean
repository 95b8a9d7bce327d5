/- Leg: parts Nf. -/
import Derived.BigQuiet
import Derived.Deep.DeepCutAuto
import Derived.Deep.CutBlock
import Derived.Test.YtnhjoebdmmelaaaMba
import Derived.Test.YtnhjoebdmmelaaaMaz
import Derived.Test.YtnhjoebdmmelaaaMbb
import Derived.Test.YtnhjoebdmmelaaaMaf
import Derived.Test.YtnhjoebdmmelaaaMao
set_option linter.unusedVariables false
set_option linter.unusedSimpArgs false
namespace Go.Proofs.Ytnhjoebdmmelaaa
section
open Go.RowKit Go.Maps Go.Sort Go.Shelf Go.Deep
theorem putR4 {W : World} {g : Nat} {x0 x1 x2 x3 y0 y1 y2 y3 : Value} {T : TypeId} (h : W.heap[g]? = some (.cells #[y0, y1, y2, y3] T (0, 0))) : Put g (.cells #[x0, x1, x2, x3] T (0, 0)) W ((((W.setCell ⟨g, 0, none⟩ x0).setCell ⟨g, 1, none⟩ x1).setCell ⟨g, 2, none⟩ x2).setCell ⟨g, 3, none⟩ x3) := by
 have z0 := Go.Joins.block_setCell (i := 0) h x0
 have z1 := Go.Joins.block_setCell (i := 1) z0 x1
 have z2 := Go.Joins.block_setCell (i := 2) z1 x2
 have z3 := Go.Joins.block_setCell (i := 3) z2 x3
 refine ⟨rfl, rfl, rfl, by simp, z3, fun k hk => ?_⟩
 rw [Below.heap_setCell _ _ _ _ hk, Below.heap_setCell _ _ _ _ hk, Below.heap_setCell _ _ _ _ hk, Below.heap_setCell _ _ _ _ hk]
theorem putT8a {W : World} {g : Nat} {x0 x1 x2 x3 y0 y1 y2 y3 y4 y5 y6 y7 : Value} {T : TypeId} (h : W.heap[g]? = some (.cells #[y0, y1, y2, y3, y4, y5, y6, y7] T (0, 0))) : Put g (.cells #[x0, x1, x2, x3, y4, y5, y6, y7] T (0, 0)) W ((((W.setCell ⟨g, 0, none⟩ x0).setCell ⟨g, 1, none⟩ x1).setCell ⟨g, 2, none⟩ x2).setCell ⟨g, 3, none⟩ x3) := by
 have z0 := Go.Joins.block_setCell (i := 0) h x0
 have z1 := Go.Joins.block_setCell (i := 1) z0 x1
 have z2 := Go.Joins.block_setCell (i := 2) z1 x2
 have z3 := Go.Joins.block_setCell (i := 3) z2 x3
 refine ⟨rfl, rfl, rfl, by simp, z3, fun k hk => ?_⟩
 rw [Below.heap_setCell _ _ _ _ hk, Below.heap_setCell _ _ _ _ hk, Below.heap_setCell _ _ _ _ hk, Below.heap_setCell _ _ _ _ hk]
theorem putT8b {W : World} {g : Nat} {x0 x1 x2 x3 x4 x5 x6 x7 y4 y5 y6 y7 : Value} {T : TypeId} (h : W.heap[g]? = some (.cells #[x0, x1, x2, x3, y4, y5, y6, y7] T (0, 0))) : Put g (.cells #[x0, x1, x2, x3, x4, x5, x6, x7] T (0, 0)) W ((((W.setCell ⟨g, 4, none⟩ x4).setCell ⟨g, 5, none⟩ x5).setCell ⟨g, 6, none⟩ x6).setCell ⟨g, 7, none⟩ x7) := by
 have z4 := Go.Joins.block_setCell (i := 4) h x4
 have z5 := Go.Joins.block_setCell (i := 5) z4 x5
 have z6 := Go.Joins.block_setCell (i := 6) z5 x6
 have z7 := Go.Joins.block_setCell (i := 7) z6 x7
 refine ⟨rfl, rfl, rfl, by simp, z7, fun k hk => ?_⟩
 rw [Below.heap_setCell _ _ _ _ hk, Below.heap_setCell _ _ _ _ hk, Below.heap_setCell _ _ _ _ hk, Below.heap_setCell _ _ _ _ hk]
theorem Put.trans {g : Nat} {F F' : Obj} {W W' W2 : World} (h : Put g F W W') (h2 : Put g F' W' W2) : Put g F' W W2 := ⟨h2.os.trans h.os, h2.tape.trans h.tape, h2.output.trans h.output, h2.size.trans h.size, h2.self, fun k hk => (h2.block k hk).trans (h.block k hk)⟩
theorem Put.below {W W' : World} {g B : Nat} {F : Obj} (h : Put g F W W') (hB : B ≤ g) : Below B W W' := ⟨h.os, h.tape, h.output, by rw [h.size]; exact Nat.le_refl _, fun k hk => h.block k (by omega)⟩
set_option maxRecDepth 100000 in
set_option maxHeartbeats 16000000 in
theorem told_law (h : Hnd) (vs vbd : Value) (w : World) (hv : Sl w 1 eU16 vs h.starts) (h16 : ∀ x ∈ h.starts, 0 ≤ x ∧ x ≤ 65535) (hg8 : 0 ≤ h.gates ∧ h.gates ≤ 255) (hr8 : 0 ≤ h.rounds ∧ h.rounds ≤ 255) (hf8 : 0 ≤ h.first ∧ h.first ≤ 255) (hb : Sl w 1 eU8 vbd h.beds) (hb8 : ∀ x ∈ h.beds, 0 ≤ x ∧ x ≤ 255) :
  Calls Try.prog 8 #[hndV h vs vbd] w (Ret (.bool true) w) := by
 have HK : Aside (∀ W, Calls Try.prog 13 #[] W (Ret (.bool true) W)) := fun W => known_any W
 have HBY : Aside ((∀ x ∈ h.starts, 0 ≤ x ∧ x ≤ 65535) ∧ (0 ≤ h.gates ∧ h.gates ≤ 255) ∧ (0 ≤ h.rounds ∧ h.rounds ≤ 255) ∧ (0 ≤ h.first ∧ h.first ≤ 255) ∧ (∀ x ∈ h.beds, 0 ≤ x ∧ x ≤ 255)) := ⟨h16, hg8, hr8, hf8, hb8⟩
 have hsl : (∃ a n c, vs = .slice a n c) ∧ (∃ a n c, vbd = .slice a n c) := by
  obtain ⟨a, c, e, -, -⟩ := hv
  obtain ⟨a', c', e', -, -⟩ := hb
  exact ⟨⟨_, _, _, e⟩, ⟨_, _, _, e'⟩⟩
 unfold hndV
 obtain ⟨wa, hwa⟩ : ∃ u, u = w.alloc (.cells #[vs, .int .u8 h.gates, .bool h.equal, .int .u8 h.rounds, .int .u8 h.first, vbd] 78) := ⟨_, rfl⟩
 have hba : Below w.heap.size w wa := by rw [hwa]; exact (Below.refl _ _).alloc (Nat.le_refl _) _
 have HBX : Aside (wa.heap[w.heap.size]? = some (.cells #[vs, .int .u8 h.gates, .bool h.equal, .int .u8 h.rounds, .int .u8 h.first, vbd] 78 (0, 0)) ∧ Below w.heap.size w wa) := ⟨by rw [hwa]; exact World.alloc_heap_new _ _, hba⟩
 have X1 : Aside (∀ W, Below wa.heap.size wa W → Calls Try.prog 33 #[.agg #[vs, .int .u8 h.gates, .bool h.equal, .int .u8 h.rounds, .int .u8 h.first, vbd]] W (HRulesOk h W)) := fun W hW => hrules_any h vs vbd W (hv.below (hba.trans (hW.mono hba.size))) h16 hg8 hr8 hf8 hsl.2
 have X2 : Aside (∀ W, Below wa.heap.size wa W → Calls Try.prog 34 #[.agg #[vs, .int .u8 h.gates, .bool h.equal, .int .u8 h.rounds, .int .u8 h.first, vbd]] W (TaleOk h W)) := fun W hW => tale_any h vs vbd W (hv.below (hba.trans (hW.mono hba.size))) h16 hg8 hr8 hf8 (hb.below (hba.trans (hW.mono hba.size))) hb8
 clear hv hb h16 hg8 hr8 hf8 hb8 hsl hba
 go_enter Try.func8, Try.ntmps8
 go_upto_region 1 with (fail)
 rw [← hwa]
 clear hwa
 obtain ⟨B0, hB0⟩ : ∃ B0, w.heap.size = B0 := ⟨_, rfl⟩
 have HB0 : Aside (w.heap.size = B0) := hB0
 rw [hB0]
 clear hB0
 refine tol1 (B0 := B0) (by rw [← HB0.out]; exact HBX.out.1) X1 X2 (by kernel_rfl) (by rfl) (by rfl) ?rest1
 case rest1 =>
  intro ac w5 hL
  have e24 : ac.tmps.getD 24 undef = .agg #[vs, .int .u8 h.gates, .bool h.equal, .int .u8 h.rounds, .int .u8 h.first, vbd] := hL.new 0 _ 24 rfl rfl rfl
  have e26 : ac.tmps.getD 26 undef = .agg #[vs, .int .u8 h.gates, .bool h.equal, .int .u8 h.rounds, .int .u8 h.first, vbd] := hL.new 2 _ 26 rfl rfl rfl
  obtain ⟨vc, e25, hsc⟩ := hL.new 1 _ 25 rfl rfl rfl
  obtain ⟨Z, vv, nn, xx, e27, htl⟩ := hL.new 3 _ 27 rfl rfl rfl
  unfold legRV at e25
  obtain ⟨hb5, hAF, hDF⟩ := hL.cls
  obtain ⟨g7, e3, g7a, g7b, g7c⟩ := hAF _ (List.mem_cons_self ..) rfl
  obtain ⟨g8, e4, g8a, g8b, g8c⟩ := hAF _ (List.mem_cons_of_mem _ (List.mem_cons_self ..)) rfl
  have hne := hDF _ (List.mem_cons_self ..) _ (List.mem_cons_of_mem _ (List.mem_cons_self ..)) (show (4 : Nat) ≠ 5 by decide) rfl rfl
  change ac.tmps.getD 3 undef = _ at e3
  change ac.tmps.getD 4 undef = _ at e4
  change ac.tmps.getD 3 undef ≠ ac.tmps.getD 4 undef at hne
  rw [e3, e4] at hne
  have h78 : g7 ≠ g8 := fun e => hne (by rw [e])
  have x7 : w5.heap[g7]? = some (.cells #[.slice none 0 0, .int .i64 0, .int .i64 0, .bool false] 42 (0, 0)) := g7c
  have x8 : w5.heap[g8]? = some (.cells #[.slice none 0 0, .slice none 0 0, .slice none 0 0, .slice none 0 0, .slice none 0 0, .slice none 0 0, .int .i64 0, .bool false] 81 (0, 0)) := g8c
  obtain ⟨r, hr⟩ : ∃ r, hrulesF h = r := ⟨_, rfl⟩
  have HRR : Aside (hrulesF h = r) := hr
  rw [hr] at e25
  obtain ⟨rn, hrn⟩ : ∃ x, (talF h).g.round = x := ⟨_, rfl⟩
  obtain ⟨ov, hov⟩ : ∃ x, (talF h).g.over = x := ⟨_, rfl⟩
  have HRO : Aside ((talF h).g.round = rn ∧ (talF h).g.over = ov) := ⟨hrn, hov⟩
  rw [hrn, hov] at e27
  unfold tlC at e27
  obtain ⟨A0, C0, E0⟩ := owns_form3 (htl.rows.own 0 (by omega))
  change vv 0 = .slice A0 (nn 0) C0 at E0
  obtain ⟨A1, C1, E1⟩ := owns_form3 (htl.rows.own 1 (by omega))
  change vv 1 = .slice A1 (nn 1) C1 at E1
  obtain ⟨A2, C2, E2⟩ := owns_form3 (htl.rows.own 2 (by omega))
  change vv 2 = .slice A2 (nn 2) C2 at E2
  obtain ⟨A3, C3, E3⟩ := owns_form3 (htl.rows.own 3 (by omega))
  change vv 3 = .slice A3 (nn 3) C3 at E3
  obtain ⟨A4, C4, E4⟩ := owns_form3 (htl.rows.own 4 (by omega))
  change vv 4 = .slice A4 (nn 4) C4 at E4
  obtain ⟨A5, C5, E5⟩ := owns_form3 (htl.rows.own 5 (by omega))
  change vv 5 = .slice A5 (nn 5) C5 at E5
  rw [E0, E1, E2, E3, E4, E5] at e27
  have HTL : Aside (TlR wa Z (talF h).g (talF h).vs vv nn xx w5) := htl
  have HE5 : Aside (vv 5 = .slice A5 (nn 5) C5) := E5
  have HE0 : Aside (vv 0 = .slice A0 (nn 0) C0 ∧ vv 1 = .slice A1 (nn 1) C1 ∧ vv 2 = .slice A2 (nn 2) C2 ∧ vv 3 = .slice A3 (nn 3) C3 ∧ vv 4 = .slice A4 (nn 4) C4) := ⟨E0, E1, E2, E3, E4⟩
  have HSC : Aside (w5.ownsRow 0 24 3 vc (hcnt h).length (((hcnt h).map encC).flatten)) := hsc
  obtain ⟨ac0, cc0, rfl⟩ := owns_form3 hsc
  obtain ⟨n, hn⟩ : ∃ n, (hcnt h).length = n := ⟨_, rfl⟩
  have HN : Aside ((hcnt h).length = n) := hn
  rw [hn] at e25 HSC
  have HX5 : Aside (w5.heap[g7]? = some (.cells #[.slice none 0 0, .int .i64 0, .int .i64 0, .bool false] 42 (0, 0)) ∧ w5.heap[g8]? = some (.cells #[.slice none 0 0, .slice none 0 0, .slice none 0 0, .slice none 0 0, .slice none 0 0, .slice none 0 0, .int .i64 0, .bool false] 81 (0, 0)) ∧ wa.heap.size ≤ g7 ∧ wa.heap.size ≤ g8 ∧ g7 ≠ g8 ∧ Below wa.heap.size wa w5) := ⟨x7, x8, g7a, g8a, h78, hb5⟩
  clear hn hsc htl E0 E1 E2 E3 E4 E5 hrn hov hr hne h78 g7a g7b g7c g8a g8b g8c hAF hDF hb5
  have es_ := hL.sets [24, 25, 26, 27, 3, 4] (by decide +kernel)
  rw [List.foldl_cons, List.foldl_cons, List.foldl_cons, List.foldl_cons, List.foldl_cons, List.foldl_cons, List.foldl_nil, e24, e25, e26, e27, e3, e4] at es_
  rw [es_]
  clear es_ hL e24 e25 e26 e27 e3 e4
  simp only [List.setIfInBounds_toArray, List.set_cons_zero, List.set_cons_succ]
  have za0 : w5.cell? ⟨g7, 0, none⟩ = some (.slice none 0 0) := blk_cell x7 rfl
  have za1 : w5.cell? ⟨g7, 1, none⟩ = some (.int .i64 0) := blk_cell x7 rfl
  have za2 : w5.cell? ⟨g7, 2, none⟩ = some (.int .i64 0) := blk_cell x7 rfl
  have za3 : w5.cell? ⟨g7, 3, none⟩ = some (.bool false) := blk_cell x7 rfl
  have zf7 := blk_free x7
  clear x7 x8
  refine wpAny_one (i := 6) (by decide +kernel) rfl rfl ?_
  unfold Oper.wp
  go_simp
  obtain ⟨w6, hw6⟩ : ∃ u, u = ((((w5.setCell ⟨g7, 0, none⟩ (.slice ac0 n cc0)).setCell ⟨g7, 1, none⟩ (.int .i64 r.first)).setCell ⟨g7, 2, none⟩ (.int .i64 r.rounds)).setCell ⟨g7, 3, none⟩ (.bool r.equal)) := ⟨_, rfl⟩
  have hp6 : Put g7 (.cells #[.slice ac0 n cc0, .int .i64 r.first, .int .i64 r.rounds, .bool r.equal] 42 (0, 0)) w5 w6 := by rw [hw6]; exact putR4 HX5.out.1
  rw [← hw6]
  clear hw6 za0 za1 za2 za3 zf7
  have x8 : w6.heap[g8]? = some (.cells #[.slice none 0 0, .slice none 0 0, .slice none 0 0, .slice none 0 0, .slice none 0 0, .slice none 0 0, .int .i64 0, .bool false] 81 (0, 0)) := (hp6.block g8 (Ne.symm HX5.out.2.2.2.2.1)).trans HX5.out.2.1
  have za0 : w6.cell? ⟨g8, 0, none⟩ = some (.slice none 0 0) := blk_cell x8 rfl
  have za1 : w6.cell? ⟨g8, 1, none⟩ = some (.slice none 0 0) := blk_cell x8 rfl
  have za2 : w6.cell? ⟨g8, 2, none⟩ = some (.slice none 0 0) := blk_cell x8 rfl
  have za3 : w6.cell? ⟨g8, 3, none⟩ = some (.slice none 0 0) := blk_cell x8 rfl
  have za4 : w6.cell? ⟨g8, 4, none⟩ = some (.slice none 0 0) := blk_cell x8 rfl
  have za5 : w6.cell? ⟨g8, 5, none⟩ = some (.slice none 0 0) := blk_cell x8 rfl
  have za6 : w6.cell? ⟨g8, 6, none⟩ = some (.int .i64 0) := blk_cell x8 rfl
  have za7 : w6.cell? ⟨g8, 7, none⟩ = some (.bool false) := blk_cell x8 rfl
  have zf8 := blk_free x8
  refine wpAny_one (i := 7) (by decide +kernel) rfl rfl ?_
  unfold Oper.wp
  go_simp
  refine wpAny_done (by decide +kernel) ?_ _
  obtain ⟨w1, hw1⟩ : ∃ u, u = ((((((((w6.setCell ⟨g8, 0, none⟩ (.slice A5 (nn 5) C5)).setCell ⟨g8, 1, none⟩ (.slice A0 (nn 0) C0)).setCell ⟨g8, 2, none⟩ (.slice A1 (nn 1) C1)).setCell ⟨g8, 3, none⟩ (.slice A2 (nn 2) C2)).setCell ⟨g8, 4, none⟩ (.slice A3 (nn 3) C3)).setCell ⟨g8, 5, none⟩ (.slice A4 (nn 4) C4)).setCell ⟨g8, 6, none⟩ (.int .i64 rn)).setCell ⟨g8, 7, none⟩ (.bool ov)) := ⟨_, rfl⟩
  have hp7 : Put g8 (.cells #[.slice A5 (nn 5) C5, .slice A0 (nn 0) C0, .slice A1 (nn 1) C1, .slice A2 (nn 2) C2, .slice A3 (nn 3) C3, .slice A4 (nn 4) C4, .int .i64 rn, .bool ov] 81 (0, 0)) w6 w1 := by rw [hw1]; exact (putT8a x8).trans (putT8b (putT8a x8).self)
  rw [← hw1]
  have hsz1 : w1.heap.size = w5.heap.size := by rw [hp7.size, hp6.size]
  have hkp : ∀ j, j ≠ g7 → j ≠ g8 → w1.heap[j]? = w5.heap[j]? := fun j h1 h2 => (hp7.block j h2).trans (hp6.block j h1)
  have HB1 : Aside (Below w.heap.size w w1) := (HBX.out.2.trans ((HX5.out.2.2.2.2.2.trans ((hp6.below HX5.out.2.2.1).trans (hp7.below HX5.out.2.2.2.1))).mono HBX.out.2.size))
  have HR7 : Aside (w1.heap[g7]? = some (.cells #[.slice ac0 n cc0, .int .i64 r.first, .int .i64 r.rounds, .bool r.equal] 42 (0, 0)) ∧ w1.heap[g8]? = some (.cells #[.slice A5 (nn 5) C5, .slice A0 (nn 0) C0, .slice A1 (nn 1) C1, .slice A2 (nn 2) C2, .slice A3 (nn 3) C3, .slice A4 (nn 4) C4, .int .i64 rn, .bool ov] 81 (0, 0))) := ⟨(hp7.block g7 HX5.out.2.2.2.2.1).trans hp6.self, hp7.self⟩
  have HBS : Aside (0 = 0) := rfl
  clear hw1 x8 za0 za1 za2 za3 za4 za5 za6 za7 zf8
  have hty : ∀ (j : Nat) (cs : Array Value) (T : TypeId), w5.heap[j]? = some (Obj.cells cs T (0, 0)) → T ≠ 42 → T ≠ 81 → w1.heap[j]? = w5.heap[j]? := fun j cs T hj h1 h2 => hkp j (fun e => by rw [e, HX5.out.1] at hj; injection hj with hj; injection hj with _ hj; exact h1 hj.symm) (fun e => by rw [e, HX5.out.2.1] at hj; injection hj with hj; injection hj with _ hj; exact h2 hj.symm)
  have HT1 : Aside (TlR wa Z (talF h).g (talF h).vs vv nn xx w1) := HTL.out.keep (HX5.out.2.2.2.2.2.trans ((hp6.below HX5.out.2.2.1).trans (hp7.below HX5.out.2.2.2.1))) (by rw [hsz1]; exact Nat.le_refl _) (fun j cs T hj hT => hty j cs T hj (by rcases hT with rfl | rfl | rfl | rfl <;> decide) (by rcases hT with rfl | rfl | rfl | rfl <;> decide))
  have HSC1 : Aside (Sl w1 3 encC (.slice ac0 n cc0) (hcnt h)) := by
   have h5 := HSC.out
   rw [← HN.out] at h5 ⊢
   exact sl_owns (fun _ => rfl) (by rw [hcnt_len]; omega) (ownsRow_heap h5 (fun q hq => by obtain ⟨cs, e⟩ := own_blk h5 hq; exact hty q cs _ e (by decide) (by decide)))
  have HWB : Aside (∀ W, Below w1.heap.size w1 W → Below w.heap.size w W) := fun W hW => HB1.out.trans (hW.mono HB1.out.size)
  clear hty hkp hsz1 hp6 hp7 HBS
  obtain ⟨m, hm⟩ : ∃ m, (talF h).vs.length = m := ⟨_, rfl⟩
  have HTF : Aside ((hcnt h ≠ [] → r.Ok ∧ vleg r = true ∧ talF h = talK r h.beds 60) ∧ (talF h).vs.length = m ∧ m ≤ 60 ∧ ∀ x ∈ (talF h).vs, x.2.length ≤ 3) := nam_facts HBY.out HRR.out hm
  obtain ⟨lv, v1, v2, v3, v4, v5, v6⟩ := tlr_vis HT1.out (by rw [hm]; have := HTF.out.2.2.1; omega) (fun x hx => by have := HTF.out.2.2.2 x hx; omega)
  rw [hm] at v4 v5 v6
  have hn5 : nn 5 = m := by
   obtain ⟨a, c, e⟩ := v5
   rw [HE5.out] at e
   simp only [Value.slice.injEq] at e
   exact e.2.1
  rw [hn5] at HR7
  rw [HE5.out, hn5] at v1 v6
  have HLV : Aside (Sl w1 2 encV (.slice A5 m C5) lv ∧ (∀ x ∈ lv, Sl w1 1 eI x.2.1 x.2.2) ∧ lv.map prV = (talF h).vs ∧ lv.length = m) := ⟨v1, v2, v3, v4⟩
  have HLB : Aside (0 < m → ∃ b c, A5 = some ⟨b, 0, none⟩ ∧ C5 = c ∧ m ≤ c ∧ b < w1.heap.size) := by
   intro h0
   obtain ⟨b, c, e, e2, e3⟩ := v6 h0
   simp only [Value.slice.injEq, true_and] at e
   exact ⟨b, c, e.1, e.2, e2, e3⟩
  clear v1 v2 v3 v4 v5 v6 hn5 hm HTL HE5 HSC
  have k70 : w1.cell? ⟨g7, 0, none⟩ = some (.slice ac0 n cc0) := blk_cell HR7.out.1 rfl
  have k80 : w1.cell? ⟨g8, 0, none⟩ = some (.slice A5 m C5) := blk_cell HR7.out.2 rfl
  have HCUR : Aside (Below w1.heap.size w1 w1) := Below.refl _ _
  have HRC : Aside (r.counts = hcnt h) := by show _ = _; rw [← HRR.out]; rfl
  have y0 : w1.cell? ⟨g7, 0, none⟩ = some (.slice ac0 n cc0) := blk_cell HR7.out.1 rfl
  have y1 : w1.cell? ⟨g7, 1, none⟩ = some (.int .i64 r.first) := blk_cell HR7.out.1 rfl
  have y2 : w1.cell? ⟨g7, 2, none⟩ = some (.int .i64 r.rounds) := blk_cell HR7.out.1 rfl
  have y3 : w1.cell? ⟨g7, 3, none⟩ = some (.bool r.equal) := blk_cell HR7.out.1 rfl
  by_cases hn0 : n = 0
  ·-- @@z
   have hnz : ((n : Int) == 0) = true := by simp; omega
   have HC0 : Aside (vleg r = false) := by
    have h1 := HN.out
    rw [hn0] at h1
    have h2 : r.counts = [] := by rw [HRC.out]; exact List.eq_nil_of_length_eq_zero h1
    show vleg r = false
    unfold vleg
    rw [h2]
    simp [inb]
   have XC : Calls Try.prog 21 #[.agg #[.slice ac0 n cc0, .int .i64 r.first, .int .i64 r.rounds, .bool r.equal]] w1 (Ret (.int .i64 2) w1) := by
    have h1 := Check_any r (.slice ac0 n cc0) w1 (by rw [HRC.out]; exact HSC1.out)
    rw [HC0.out] at h1
    exact h1
   clear hn0
   go_wp2_with fail
   refine XC.mono ?_
   rintro e w8 ⟨rfl, hb8⟩
   go_wp2_with fail
   refine (HK.out _).mono ?_
   rintro e w9 ⟨rfl, hb9⟩
   go_wp2
   go_ret
   exact ⟨rfl, HWB.out _ (hb8.trans (hb9.mono hb8.size))⟩
  ·-- @@n
   have hnz : ((n : Int) == 0) = false := by simp; omega
   clear y0 y1 y2 y3
   have HCNE : Aside (hcnt h ≠ []) := fun e => by have := HN.out; rw [e] at this; simp at this; omega
   have HNP : Aside (0 < n ∧ n ≤ 5) := ⟨by omega, by have h1 := HN.out; rw [hcnt_len] at h1; omega⟩
   have HOK : Aside (r.Ok ∧ vleg r = true ∧ talF h = talK r h.beds 60) := HTF.out.1 HCNE.out
   have HMP : Aside (0 < m ∧ m ≤ 60) := ⟨by rw [← HTF.out.2.1, HOK.out.2.2]; exact told_pos HOK.out.1 HBY.out.2.2.2.2 (by decide), HTF.out.2.2.1⟩
   have HRL : Aside (r.counts.length = n) := by show _ = _; rw [HRC.out]; exact HN.out
   have HGE : Aside (ToldG r (talF h).g) := by show ToldG _ _; rw [HOK.out.2.2]; exact told_end HOK.out.1 HBY.out.2.2.2.2 60
   obtain ⟨b, cv, rfl, rfl, hb1⟩ : ∃ b c, A5 = some ⟨b, 0, none⟩ ∧ C5 = c ∧ Aside (m ≤ c ∧ b < w1.heap.size) := by obtain ⟨b, c, e1, e2, e3⟩ := HLB.out HMP.out.1; exact ⟨b, c, e1, e2, e3⟩
   clear hn0
   have HRW := tlr_rows HT1.out (by rw [HGE.out.l1, HRL.out]; have := HNP.out; omega) (by rw [HGE.out.l2, HRL.out]; have := HNP.out; omega) (by rw [HGE.out.l3, HRL.out]; have := HNP.out; omega) (by have h1 := (tal_len HOK.out.1 HBY.out.2.2.2.2 60).2.2.2.1; rw [← HOK.out.2.2, HRL.out] at h1; have := HNP.out; omega)
   obtain ⟨t0, t1, t2, t3, t4⟩ := HRW
   obtain ⟨E0, E1, E2, E3, E4⟩ := HE0.out
   obtain ⟨q0, j0, d0, f0, hq0, ct0⟩ := sl_form t0 (HGE.out.l1.trans HRL.out) HNP.out.1
   obtain ⟨q1, j1, d1, f1, hq1, ct1⟩ := sl_form t1 (HGE.out.l2.trans HRL.out) HNP.out.1
   obtain ⟨q2, j2, d2, f2, hq2, ct2⟩ := sl_formB t2 (HGE.out.l3.trans HRL.out) HNP.out.1
   rw [E0] at f0
   rw [E1] at f1
   rw [E2] at f2
   simp only [Value.slice.injEq] at f0 f1 f2
   obtain ⟨rfl, f0, rfl⟩ := f0
   obtain ⟨rfl, f1, rfl⟩ := f1
   obtain ⟨rfl, f2, rfl⟩ := f2
   obtain ⟨me, hme⟩ : ∃ k, (talF h).g.ended.length = k := ⟨_, rfl⟩
   have HME : Aside ((talF h).g.ended.length = me ∧ me ≤ 5) := ⟨hme, by have h1 := (tal_len HOK.out.1 HBY.out.2.2.2.2 60).2.2.2.1; rw [← HOK.out.2.2, HRL.out, hme] at h1; have := HNP.out; omega⟩
   rw [E3] at t3
   rw [E4] at t4
   have f3 : nn 3 = me := by obtain ⟨a, c, e, -⟩ := t3; simp only [Value.slice.injEq, List.length_map] at e; rw [← hme]; exact e.2.1
   have f4 : nn 4 = me := by obtain ⟨a, c, e, -⟩ := t4; simp only [Value.slice.injEq, List.length_map] at e; rw [← hme]; exact e.2.1
   rw [f3] at t3
   rw [f4] at t4
   rw [f0, f1, f2, f3, f4] at HR7
   have HCT : Aside ((∀ k x, (talF h).g.left[k]? = some x → w1.cell? ⟨q0, j0 + k, none⟩ = some (.int .i64 x)) ∧ (∀ k x, (talF h).g.darts[k]? = some x → w1.cell? ⟨q1, j1 + k, none⟩ = some (.int .i64 x)) ∧ (∀ k x, (talF h).g.inn[k]? = some x → w1.cell? ⟨q2, j2 + k, none⟩ = some (.bool x))) := ⟨ct0, ct1, ct2⟩
   have HT34 : Aside (Sl w1 1 eI (.slice A3 me C3) ((talF h).g.ended.map (·.1)) ∧ Sl w1 1 eI (.slice A4 me C4) ((talF h).g.ended.map (·.2))) := ⟨t3, t4⟩
   obtain ⟨cb, co, rfl, hcb, cc⟩ := sl_formC HSC1.out HN.out HNP.out.1
   have HCC : Aside (∀ k x, (hcnt h)[k]? = some x → w1.cell? ⟨cb, co + k * 3, none⟩ = some (.int .i64 x.1) ∧ w1.cell? ⟨cb, co + k * 3 + 1, none⟩ = some (.int .i64 x.2.1) ∧ w1.cell? ⟨cb, co + k * 3 + 2, none⟩ = some (.int .i64 x.2.2)) := cc
   clear t0 t1 t2 t3 t4 E0 E1 E2 E3 E4 f0 f1 f2 f3 f4 hq0 hq1 hq2 ct0 ct1 ct2 hme hcb cc HE0
   obtain ⟨tvs, htvs⟩ : ∃ l, (talF h).vs = l := ⟨_, rfl⟩
   have HTV : Aside ((talF h).vs = tvs ∧ lv.map prV = tvs) := ⟨htvs, by rw [HLV.out.2.2.1, htvs]⟩
   have HTB : Aside (∀ x ∈ tvs, x.2.length ≤ 6 ∧ ∀ b ∈ x.2, -9223372036854775808 ≤ b ∧ b ≤ 9223372036854775807) := by
    show ∀ x ∈ tvs, _
    rw [← htvs, HOK.out.2.2]; exact told_vs HOK.out.1 HBY.out.2.2.2.2 60
   have HPL : Aside (playE r tvs = (0, 0) ∧ playG r tvs = some (talF h).g) := by
    show _ ∧ _
    rw [← htvs, HOK.out.2.2]; exact told_play HOK.out.1 HOK.out.2.1 HBY.out.2.2.2.2 60 (by decide)
   clear htvs
   have HL6 : Aside (∀ x ∈ lv, x.2.2.length ≤ 6) := fun x hx => (HTB.out (prV x) (by rw [← HTV.out.2]; exact List.mem_map.2 ⟨x, hx, rfl⟩)).1
   have hru : w1.heap[g7]? = some (.cells #[.slice (some ⟨cb, co, none⟩) n cc0, .int .i64 r.first, .int .i64 r.rounds, .bool r.equal] 42 (0, 0)) := HR7.out.1
   have HSC2 : Aside (Sl w1 3 encC (.slice (some ⟨cb, co, none⟩) n cc0) (hcnt h)) := HSC1.out
   have XR : Aside (∀ W, Below w1.heap.size w1 W → Calls Try.prog 19 #[.agg #[.slice (some ⟨cb, co, none⟩) n cc0, .int .i64 r.first, .int .i64 r.rounds, .bool r.equal]] W (RulesOk r W)) := fun W hW => rules_any r (.slice (some ⟨cb, co, none⟩) n cc0) W (by rw [HRC.out]; exact HSC2.out.below hW) (by rw [HRL.out]; have := HNP.out; omega)
   have XV : Aside (∀ W, Below w1.heap.size w1 W → Calls Try.prog 20 #[.slice (some ⟨b, 0, none⟩) m C5] W (VisitsOk lv W)) := fun W hW => visits_any lv _ W (HLV.out.1.below hW) (fun x hx => (HLV.out.2.1 x hx).below hW) (by rw [HLV.out.2.2.2]; have := HMP.out; omega) HL6.out
   have HLT : Aside (lv.map prV = tvs) := HTV.out.2
   have XP : Aside (∀ W vc' v', Below w1.heap.size w1 W → Sl W 3 encC vc' r.counts → VisS tvs v' W → Calls Try.prog 22 #[.agg #[vc', .int .i64 r.first, .int .i64 r.rounds, .bool r.equal], v'] W (fun e w' => Below W.heap.size W w' ∧ ∃ v y z, e = .returned (.tuple #[v, y, z]) ∧ y = .int .i64 0 ∧ z = .int .i64 0 ∧ StAt w' v (talF h).g W.heap.size)) := by
    rintro W vc' v' hW hs ⟨lv', a1, a2, a3⟩
    refine (Play_any r vc' lv' v' W hs a1 (fun x hx => ⟨a2 x hx, (HTB.out (prV x) (by rw [← a3]; exact List.mem_map.2 ⟨x, hx, rfl⟩)).2⟩)).mono ?_
    rintro e w' ⟨hB, vs', rfl, hst⟩
    have e6 : lv'.map (fun x => (x.1, x.2.2)) = tvs := a3
    rw [e6, HPL.out.2] at hst
    rw [e6, HPL.out.1]
    exact ⟨hB, vs', _, _, rfl, rfl, rfl, hst⟩
   go_upto_region 4 with (fail)
   refine tol4 (g7 := g7) (g8 := g8) (Q1 := fun y => y = .int .i64 0) (Q2 := fun z => z = .int .i64 0) hru k80 XR XV HLT XP (by kernel_rfl) (by rfl) (by rfl) (by rfl) ?rest4
   case rest4 =>
    intro ac w4 hL
    have e39 : ac.tmps.getD 39 undef = .agg #[.slice (some ⟨cb, co, none⟩) n cc0, .int .i64 r.first, .int .i64 r.rounds, .bool r.equal] := hL.new 0 _ 39 rfl rfl rfl
    have e41 : ac.tmps.getD 41 undef = .pointer (some ⟨g8, 0, none⟩) := hL.new 2 _ 41 rfl rfl rfl
    have e42 : ac.tmps.getD 42 undef = .slice (some ⟨b, 0, none⟩) m C5 := hL.new 3 _ 42 rfl rfl rfl
    obtain ⟨y40, e40⟩ : ∃ x, ac.tmps.getD 40 undef = x := ⟨_, rfl⟩
    obtain ⟨y43, e43⟩ : ∃ x, ac.tmps.getD 43 undef = x := ⟨_, rfl⟩
    obtain ⟨y44, e44⟩ : ∃ x, ac.tmps.getD 44 undef = x := ⟨_, rfl⟩
    obtain ⟨y38, e38⟩ : ∃ x, ac.tmps.getD 38 undef = x := ⟨_, rfl⟩
    obtain ⟨y46, e46⟩ : ∃ x, ac.tmps.getD 46 undef = x := ⟨_, rfl⟩
    obtain ⟨y47, e47⟩ : ∃ x, ac.tmps.getD 47 undef = x := ⟨_, rfl⟩
    have e6 : ac.tmps.getD 6 undef = .int .i64 0 := hL.new 12 _ 6 rfl rfl rfl
    have e7 : ac.tmps.getD 7 undef = .int .i64 0 := hL.new 13 _ 7 rfl rfl rfl
    obtain ⟨g5, e5, g5a, g5b, -, g5c⟩ := hL.cls.blk rfl
    obtain ⟨x0, x1, x2, x3, x4, x5, x6, e45, k6⟩ := g5c rfl
    obtain ⟨v, y, z, k1, -, -, k4⟩ := hL.cls.res rfl
    obtain ⟨v', y', z', k1', k5'⟩ := hL.cls.ex rfl
    rw [k1] at k1'
    simp only [Value.tuple.injEq, Array.mk.injEq, List.cons.injEq, and_true] at k1'
    obtain ⟨rfl, rfl, rfl⟩ := k1'
    rw [e45] at k5'
    obtain ⟨vl, vd, vi, vw, ev, s1, s2, s3, s4⟩ := k4.sts
    rw [← k5'] at ev
    simp only [Value.agg.injEq, Array.mk.injEq, List.cons.injEq, and_true] at ev
    obtain ⟨rfl, rfl, rfl, rfl, rfl, rfl, rfl⟩ := ev
    obtain ⟨p0, o0, cu0, rfl, -, cs0⟩ := sl_form s1 (HGE.out.l1.trans HRL.out) HNP.out.1
    obtain ⟨p1, o1, cu1, rfl, -, cs1⟩ := sl_form s2 (HGE.out.l2.trans HRL.out) HNP.out.1
    obtain ⟨p2, o2, cu2, rfl, -, cs2⟩ := sl_formB s3 (HGE.out.l3.trans HRL.out) HNP.out.1
    obtain ⟨kw, hkw⟩ : ∃ k, (talF h).g.wins.length = k := ⟨_, rfl⟩
    obtain ⟨P3, U3, rfl⟩ : ∃ a c, x6 = .slice a kw c := by obtain ⟨a, c, e, -⟩ := s4; rw [hkw] at e; exact ⟨a, c, e⟩
    obtain ⟨nx, hnx⟩ : ∃ x, (talF h).g.next = x := ⟨_, rfl⟩
    rw [hnx] at k6 e45
    rw [HRO.out.1, HRO.out.2] at k6 e45
    have HS4 : Aside (Sl w4 1 eI (.slice P3 kw U3) (talF h).g.wins ∧ (talF h).g.wins.length = kw) := ⟨s4, hkw⟩
    have HCS : Aside ((∀ k x, (talF h).g.left[k]? = some x → w4.cell? ⟨p0, o0 + k, none⟩ = some (.int .i64 x)) ∧ (∀ k x, (talF h).g.darts[k]? = some x → w4.cell? ⟨p1, o1 + k, none⟩ = some (.int .i64 x)) ∧ (∀ k x, (talF h).g.inn[k]? = some x → w4.cell? ⟨p2, o2 + k, none⟩ = some (.bool x))) := ⟨cs0, cs1, cs2⟩
    have HNX : Aside ((nx = -1 ↔ ov = true) ∧ (kw = 0 ↔ ov = false)) := by
     have h1 := HGE.out.next
     have h2 := HGE.out.wne
     rw [hnx, HRO.out.2] at h1
     rw [HRO.out.2, ← List.length_eq_zero_iff, hkw] at h2
     exact ⟨h1, h2⟩
    have HB4 : Aside (Below w1.heap.size w1 w4) := hL.cls.bel
    have H5 : Aside (w4.heap[g5]? = some (.cells #[.slice (some ⟨p0, o0, none⟩) n cu0, .slice (some ⟨p1, o1, none⟩) n cu1, .slice (some ⟨p2, o2, none⟩) n cu2, .int .i64 nx, .int .i64 rn, .bool ov, .slice P3 kw U3] 51 (0, 0))) := k6
    clear g5a g5b g5c k1 k4 k5' s1 s2 s3 s4 cs0 cs1 cs2 k6 hkw hnx
    have es_ := hL.sets [39, 40, 41, 42, 43, 44, 38, 45, 46, 47, 5, 6, 7] (by decide +kernel)
    rw [List.foldl_cons, List.foldl_cons, List.foldl_cons, List.foldl_cons, List.foldl_cons, List.foldl_cons, List.foldl_cons, List.foldl_cons, List.foldl_cons, List.foldl_cons, List.foldl_cons, List.foldl_cons, List.foldl_cons, List.foldl_nil, e39, e40, e41, e42, e43, e44, e38, e45, e46, e47, e5, e6, e7] at es_
    rw [es_]
    clear es_ hL e39 e40 e41 e42 e43 e44 e38 e45 e46 e47 e5 e6 e7
    refine wpAny_done (by decide +kernel) ?_ _
    simp only [List.setIfInBounds_toArray, List.set_cons_zero, List.set_cons_succ]
    clear hru k80 k70 XR XV XP HLT HSC2
    as_aux_lemma =>
     have s50 : w4.cell? ⟨g5, 0, none⟩ = some (.slice (some ⟨p0, o0, none⟩) n cu0) := keepc (Below.refl _ _) (blk_cell H5.out rfl)
     have s51 : w4.cell? ⟨g5, 1, none⟩ = some (.slice (some ⟨p1, o1, none⟩) n cu1) := keepc (Below.refl _ _) (blk_cell H5.out rfl)
     have s52 : w4.cell? ⟨g5, 2, none⟩ = some (.slice (some ⟨p2, o2, none⟩) n cu2) := keepc (Below.refl _ _) (blk_cell H5.out rfl)
     have s53 : w4.cell? ⟨g5, 3, none⟩ = some (.int .i64 nx) := keepc (Below.refl _ _) (blk_cell H5.out rfl)
     have s54 : w4.cell? ⟨g5, 4, none⟩ = some (.int .i64 rn) := keepc (Below.refl _ _) (blk_cell H5.out rfl)
     have s55 : w4.cell? ⟨g5, 5, none⟩ = some (.bool ov) := keepc (Below.refl _ _) (blk_cell H5.out rfl)
     have s56 : w4.cell? ⟨g5, 6, none⟩ = some (.slice P3 kw U3) := keepc (Below.refl _ _) (blk_cell H5.out rfl)
     have s86 : w4.cell? ⟨g8, 6, none⟩ = some (.int .i64 rn) := keepc HB4.out (blk_cell HR7.out.2 rfl)
     have s87 : w4.cell? ⟨g8, 7, none⟩ = some (.bool ov) := keepc HB4.out (blk_cell HR7.out.2 rfl)
     have s70 : w4.cell? ⟨g7, 0, none⟩ = some (.slice (some ⟨cb, co, none⟩) n cc0) := keepc HB4.out (blk_cell HR7.out.1 rfl)
     have enn : ((n : Int) != (n : Int)) = false := by simp
     have eoo : (ov != ov) = false := by simp
     have err : (rn != rn) = false := by simp
     go_upto_region 6 with (fail)
     go_cut [108] from 51 to 107 (fun s108 wf => s108 = .bool false ∧ wf = w4)
     case first =>
      have HNX1 := HNX.out
      cases ov with
      | true =>
       have HNE : Aside (nx = -1) := HNX1.1.2 rfl
       have hkn : ¬ kw = 0 := fun e => by have := HNX1.2.1 e; cases this
       have hkz : (0 : Int) < (kw : Int) := by omega
       have e1 : (nx == -1) = true := by rw [HNE.out]; rfl
       have e2 : (decide ((0 : Int) < (kw : Int))) = true := by simp; omega
       have e3 : (decide ((kw : Int) > 0)) = true := by simp; omega
       clear HNX1 hkn
       go_wp2_with fail
       go_meet
       exact ⟨rfl, rfl⟩
      | false =>
       have hnx : ¬ nx = -1 := fun e => by have := HNX1.1.1 e; cases this
       have hk0 : kw = 0 := HNX1.2.2 rfl
       subst hk0
       have e1 : (nx == -1) = false := by simpa using hnx
       clear HNX1
       go_wp2_with fail
       go_meet
       exact ⟨rfl, rfl⟩
     case rest =>
      obtain ⟨rfl, hwc⟩ := hcut
      have hwc2 := hwc.symm
      clear hwc
      subst hwc2
      clear s50 s51 s52 s53 s54 s55 s56 s86 s87 s70 enn eoo err
      have hm1 := mk_ints n (by have := HNP.out; omega)
      have hm2 := mk_bools n (by have := HNP.out; omega)
      as_aux_lemma =>
       go_upto_region 9 with (fail)
       obtain ⟨gS, hgS⟩ : ∃ g, w4.heap.size = g := ⟨_, rfl⟩
       obtain ⟨w8, hw8⟩ : ∃ u, u = w4.alloc (.cells (Array.replicate n (Value.int .i64 0)) 3) := ⟨_, rfl⟩
       have HW8 : Aside (RowX w8 gS 3 (List.replicate n (Value.int .i64 0)) ∧ Below w4.heap.size w4 w8 ∧ w4.heap.size = gS ∧ gS < w8.heap.size) := ⟨by rw [hw8, ← hgS]; unfold RowX; rw [List.toArray_replicate]; exact World.alloc_heap_new _ _, by rw [hw8]; exact (Below.refl _ _).alloc (Nat.le_refl _) _, hgS, by rw [hw8, ← hgS]; simp⟩
       rw [← hw8, hgS]
       clear hw8 hgS
       refine tol9 hm1 hm2 (by kernel_rfl) (by rfl) (by rfl) ?rest9
       case rest9 =>
        intro ac w9 hL
        have e111 : ac.tmps.getD 111 undef = .int .i64 (n : Int) := hL.new 0 _ 111 rfl rfl rfl
        have e113 : ac.tmps.getD 113 undef = .int .i64 (n : Int) := hL.new 2 _ 113 rfl rfl rfl
        obtain ⟨y112, e112⟩ : ∃ x, ac.tmps.getD 112 undef = x := ⟨_, rfl⟩
        obtain ⟨y114, e114⟩ : ∃ x, ac.tmps.getD 114 undef = x := ⟨_, rfl⟩
        obtain ⟨gL, e10, gLa, gLb⟩ := hL.new 4 _ 10 rfl rfl rfl
        obtain ⟨gI, e11, gIa, gIb⟩ := hL.new 5 _ 11 rfl rfl rfl
        have hb9 : Below w8.heap.size w8 w9 := hL.cls
        have HD : Aside (Dst w4 gS gL gI) := by
         have h1 := HW8.out.2.1.size
         have h2 := HW8.out.2.2
         refine ⟨by omega, by omega, by omega, by omega, by omega, fun e => ?_⟩
         rw [e, gIb] at gLb
         injection gLb with gLb
         injection gLb with _ gLb
         exact absurd gLb (by decide)
        have HT9 : Aside (TL w4 gS gL gI (List.replicate n 0) (fillL (beginG r).left 0 n 0) (fillL (beginG r).inn false n 0) w9) := by
         refine ⟨HW8.out.2.1.trans (hb9.mono HW8.out.2.1.size), ?_, ?_, ?_⟩
         ·rw [List.map_replicate]; exact HW8.out.1.below hb9
         ·rw [fill_zero, List.map_replicate]; exact gLb
         ·rw [fill_zero, List.map_replicate]; exact gIb
        clear gLa gLb gIa gIb hb9
        have es_ := hL.sets [111, 112, 113, 114, 10, 11] (by decide +kernel)
        rw [List.foldl_cons, List.foldl_cons, List.foldl_cons, List.foldl_cons, List.foldl_cons, List.foldl_cons, List.foldl_nil, e111, e112, e113, e114, e10, e11] at es_
        rw [es_]
        clear es_ hL e111 e112 e113 e114 e10 e11
        simp only [List.setIfInBounds_toArray, List.set_cons_zero, List.set_cons_succ]
        refine wpAny_done (by decide +kernel) ?_ _
        clear hm1 hm2 HW8
        have HRN : Aside ((∀ (k : Nat) (c : Cnt), (hcnt h)[k]? = some c → (beginG r).left[k]? = some c.1 ∧ (beginG r).inn[k]? = some (c.2.1 == 0)) ∧ (beginG r).left.length = n ∧ (beginG r).inn.length = n) := by
         refine ⟨fun k c hc => ?_, ?_, ?_⟩
         ·rw [← HRC.out] at hc
          exact ⟨by show (r.counts.map (·.1))[k]? = _; rw [List.getElem?_map, hc]; rfl, by show (r.counts.map (fun c => c.2.1 == 0))[k]? = _; rw [List.getElem?_map, hc]; rfl⟩
         ·show (r.counts.map (·.1)).length = n; rw [List.length_map, HRL.out]
         ·show (r.counts.map (fun c => c.2.1 == 0)).length = n; rw [List.length_map, HRL.out]
        as_aux_lemma =>
         go_wp2_with fail
         go_loopg [12] n (fun gg s12 wr => ∃ (k : Nat), k ≤ n ∧ n - k ≤ gg ∧ s12 = .int .i64 (k : Int) ∧ Aside (TL w4 gS gL gI (List.replicate n 0) (fillL (beginG r).left 0 n k) (fillL (beginG r).inn false n k) wr))
         case atStart => exact ⟨0, by omega, by omega, rfl, HT9.out⟩
         case round =>
          obtain ⟨k, hk, hgk, rfl, HTL⟩ := hrel
          have HBR : Aside (Below w4.heap.size w4 wr) := HTL.out.bel
          have HBW : Aside (Below w1.heap.size w1 wr) := HB4.out.trans (HBR.out.mono HB4.out.size)
          by_cases hlt : k < n
          ·have hltz : (k : Int) < (n : Int) := by omega
           obtain ⟨x, hx⟩ : ∃ x, (talF h).g.left[k]? = some x := ⟨_, List.getElem?_eq_getElem (by rw [HGE.out.l1, HRL.out]; exact hlt)⟩
           obtain ⟨y, hy⟩ : ∃ x, (talF h).g.darts[k]? = some x := ⟨_, List.getElem?_eq_getElem (by rw [HGE.out.l2, HRL.out]; exact hlt)⟩
           obtain ⟨z, hz⟩ : ∃ x, (talF h).g.inn[k]? = some x := ⟨_, List.getElem?_eq_getElem (by rw [HGE.out.l3, HRL.out]; exact hlt)⟩
           obtain ⟨⟨c1, c2, c3⟩, hc⟩ : ∃ c, (hcnt h)[k]? = some c := ⟨_, List.getElem?_eq_getElem (by rw [HN.out]; exact hlt)⟩
           have ca := keepc HBR.out (HCS.out.1 k x hx)
           have cbb := keepc HBR.out (HCS.out.2.1 k y hy)
           have ccc := keepc HBR.out (HCS.out.2.2 k z hz)
           have ta := keepc HBW.out (HCT.out.1 k x hx)
           have tb := keepc HBW.out (HCT.out.2.1 k y hy)
           have tc := keepc HBW.out (HCT.out.2.2 k z hz)
           have s50 : wr.cell? ⟨g5, 0, none⟩ = some (.slice (some ⟨p0, o0, none⟩) n cu0) := keepc HBR.out (blk_cell H5.out rfl)
           have s51 : wr.cell? ⟨g5, 1, none⟩ = some (.slice (some ⟨p1, o1, none⟩) n cu1) := keepc HBR.out (blk_cell H5.out rfl)
           have s52 : wr.cell? ⟨g5, 2, none⟩ = some (.slice (some ⟨p2, o2, none⟩) n cu2) := keepc HBR.out (blk_cell H5.out rfl)
           have s81 : wr.cell? ⟨g8, 1, none⟩ = some (.slice (some ⟨q0, j0, none⟩) n C0) := keepc HBW.out (blk_cell HR7.out.2 rfl)
           have s82 : wr.cell? ⟨g8, 2, none⟩ = some (.slice (some ⟨q1, j1, none⟩) n C1) := keepc HBW.out (blk_cell HR7.out.2 rfl)
           have s83 : wr.cell? ⟨g8, 3, none⟩ = some (.slice (some ⟨q2, j2, none⟩) n C2) := keepc HBW.out (blk_cell HR7.out.2 rfl)
           have s70 : wr.cell? ⟨g7, 0, none⟩ = some (.slice (some ⟨cb, co, none⟩) n cc0) := keepc HBW.out (blk_cell HR7.out.1 rfl)
           have hx0 : ¬ x < 0 := by have := HGE.out.left x (List.mem_of_getElem? hx); omega
           have hxz : (decide (x < 0)) = false := decide_eq_false hx0
           have exx : (x != x) = false := by simp
           have eyy : (y != y) = false := by simp
           have ezz : (z != z) = false := by simp
           have HCK : Aside ((hcnt h)[k]? = some (c1, c2, c3)) := hc
           have qa : w4.cell? ⟨cb, co + k * 3, none⟩ = some (.int .i64 c1) := keepc HB4.out (HCC.out k _ hc).1
           have qb : w4.cell? ⟨cb, co + k * 3 + 1, none⟩ = some (.int .i64 c2) := keepc HB4.out (HCC.out k _ hc).2.1
           have s70c : w4.cell? ⟨g7, 0, none⟩ = some (.slice (some ⟨cb, co, none⟩) n cc0) := keepc HB4.out (blk_cell HR7.out.1 rfl)
           have HFO : Aside ((fillL (beginG r).left 0 n k)[k]? = some 0 ∧ (fillL (beginG r).inn false n k)[k]? = some false) := ⟨by unfold fillL; rw [List.getElem?_append_right (by rw [List.length_take]; omega), List.getElem?_replicate, List.length_take, HRN.out.2.1, if_pos (by omega)], by unfold fillL; rw [List.getElem?_append_right (by rw [List.length_take]; omega), List.getElem?_replicate, List.length_take, HRN.out.2.2, if_pos (by omega)]⟩
           clear hx hy hz hc
           as_aux_lemma =>
            go_wp2_with fail
            go_quiet (fail)
            go_upto_region 15 with (fail)
            as_aux_lemma =>
             clear ca cbb ccc ta tb tc s50 s51 s52 s81 s82 s83 hx0 hxz exx eyy ezz
             refine tol15 s70c hlt hltz qa qb (HTL.out.below (by (repeat' (first | exact Below.refl _ _ | assumption | (with_reducible refine Below.drew ?_) | (with_reducible refine Below.setCell ?_ (by (first | (simp; done) | (simp; omega))) _) | (with_reducible refine below_drewN' ?_ _) | (refine Below.alloc ?_ (by (try simp only [World.size_alloc, World.size_drew, World.size_setCell]); omega) _) | (refine Below.trans ?_ (Below.mono (by assumption) (by (try simp only [World.size_alloc, World.size_drew, World.size_setCell]); omega))))))) HD HFO (by kernel_rfl) (by rfl) (by rfl) (by rfl) (by rfl) (by rfl) ?rest15
             case rest15 =>
              intro ac wq hL
              have e165 : ac.tmps.getD 165 undef = .slice (some ⟨gL, 0, none⟩) n n := hL.new 0 _ 165 rfl rfl rfl
              have e166 : ac.tmps.getD 166 undef = .int .i64 (k : Int) := hL.new 1 _ 166 rfl rfl rfl
              have e167 : ac.tmps.getD 167 undef = .slice (some ⟨gI, 0, none⟩) n n := hL.new 2 _ 167 rfl rfl rfl
              have e168 : ac.tmps.getD 168 undef = .int .i64 (k : Int) := hL.new 3 _ 168 rfl rfl rfl
              have e169 : ac.tmps.getD 169 undef = .pointer (some ⟨g7, 0, none⟩) := hL.new 4 _ 169 rfl rfl rfl
              have e170 : ac.tmps.getD 170 undef = .slice (some ⟨cb, co, none⟩) n cc0 := hL.new 5 _ 170 rfl rfl rfl
              have e171 : ac.tmps.getD 171 undef = .int .i64 (k : Int) := hL.new 6 _ 171 rfl rfl rfl
              have e172 : ac.tmps.getD 172 undef = .pointer (some ⟨cb, co + k * 3, none⟩) := hL.new 7 _ 172 rfl rfl rfl
              have e173 : ac.tmps.getD 173 undef = .pointer (some ⟨cb, co + k * 3, none⟩) := hL.new 8 _ 173 rfl rfl rfl
              have e174 : ac.tmps.getD 174 undef = .int .i64 c1 := hL.new 9 _ 174 rfl rfl rfl
              have e175 : ac.tmps.getD 175 undef = .pointer (some ⟨g7, 0, none⟩) := hL.new 10 _ 175 rfl rfl rfl
              have e176 : ac.tmps.getD 176 undef = .slice (some ⟨cb, co, none⟩) n cc0 := hL.new 11 _ 176 rfl rfl rfl
              have e177 : ac.tmps.getD 177 undef = .int .i64 (k : Int) := hL.new 12 _ 177 rfl rfl rfl
              have e178 : ac.tmps.getD 178 undef = .pointer (some ⟨cb, co + k * 3, none⟩) := hL.new 13 _ 178 rfl rfl rfl
              have e179 : ac.tmps.getD 179 undef = .pointer (some ⟨cb, co + k * 3 + 1, none⟩) := hL.new 14 _ 179 rfl rfl rfl
              have e180 : ac.tmps.getD 180 undef = .int .i64 c2 := hL.new 15 _ 180 rfl rfl rfl
              have e181 : ac.tmps.getD 181 undef = .bool (c2 == 0) := hL.new 16 _ 181 rfl rfl rfl
              have e182 : ac.tmps.getD 182 undef = .pointer (some ⟨gL, k, none⟩) := hL.new 17 _ 182 rfl rfl rfl
              have e183 : ac.tmps.getD 183 undef = .pointer (some ⟨gI, k, none⟩) := hL.new 19 _ 183 rfl rfl rfl
              have HTO : Aside (TL w4 gS gL gI (List.replicate n 0) (fillL (beginG r).left 0 n (k + 1)) (fillL (beginG r).inn false n (k + 1)) wq) := by
               have h1 := hL.cls.fin2 rfl rfl rfl
               rw [fill_step HRN.out.2.1 (HRN.out.1 k _ HCK.out).1, fill_step HRN.out.2.2 (HRN.out.1 k _ HCK.out).2] at h1
               exact h1
              have es_ := hL.sets [165, 166, 167, 168, 169, 170, 171, 172, 173, 174, 175, 176, 177, 178, 179, 180, 181, 182, 183] (by decide +kernel)
              rw [List.foldl_cons, List.foldl_cons, List.foldl_cons, List.foldl_cons, List.foldl_cons, List.foldl_cons, List.foldl_cons, List.foldl_cons, List.foldl_cons, List.foldl_cons, List.foldl_cons, List.foldl_cons, List.foldl_cons, List.foldl_cons, List.foldl_cons, List.foldl_cons, List.foldl_cons, List.foldl_cons, List.foldl_cons, List.foldl_nil, e165, e166, e167, e168, e169, e170, e171, e172, e173, e174, e175, e176, e177, e178, e179, e180, e181, e182, e183] at es_
              rw [es_]
              clear es_ hL e165 e166 e167 e168 e169 e170 e171 e172 e173 e174 e175 e176 e177 e178 e179 e180 e181 e182 e183
              refine wpAny_done (by decide +kernel) ?_ _
              simp only [List.setIfInBounds_toArray, List.set_cons_zero, List.set_cons_succ]
              clear s70 s70c qa qb HTL HBR HBW
              have ek : IntKind.i64.wrap ((k : Int) + 1) = (k : Int) + 1 := IntWalk.i64_in _ (by have := HNP.out; omega)
              go_wp2_with fail
              go_roundg (n - (k + 1))
              case measure => omega
              case rel => exact ⟨k + 1, by omega, by omega, by go_num, HTO.out⟩
          ·have hltz : ¬ (k : Int) < (n : Int) := by omega
           have hke : k = n := by omega
           have HT2 : Aside (TL w4 gS gL gI (sumT r (talK r h.beds 0).g) (talK r h.beds 0).g.left (talK r h.beds 0).g.inn wr) := by
            have h1 := HTL.out
            rw [hke, fill_all _ HRN.out.2.1, fill_all _ HRN.out.2.2] at h1
            have h2 : sumT r (talK r h.beds 0).g = List.replicate n 0 := by rw [← HRL.out]; exact sumT_begin
            rw [h2]; exact h1
           clear HTL HBR HBW hke
           have hmk : ¬ False := id
           as_aux_lemma =>
            go_wp2_with fail
            go_loopg [13] m (fun gg s13 wr => ∃ (i : Nat), i ≤ m ∧ m - i ≤ gg ∧ s13 = .int .i64 (i : Int) ∧ Aside (TL w4 gS gL gI (sumT r (talK r h.beds i).g) (talK r h.beds i).g.left (talK r h.beds i).g.inn wr))
            case atStart => exact ⟨0, by omega, by omega, rfl, HT2.out⟩
            case round =>
             obtain ⟨i, hi, hgi, rfl, HTL⟩ := hrel
             have HBR : Aside (Below w4.heap.size w4 wr) := HTL.out.bel
             have HBW : Aside (Below w1.heap.size w1 wr) := HB4.out.trans (HBR.out.mono HB4.out.size)
             by_cases him : i < m
             ·have hiz : (i : Int) < (m : Int) := by omega
              obtain ⟨⟨pp, vb, bs⟩, hx⟩ : ∃ x, lv[i]? = some x := ⟨_, List.getElem?_eq_getElem (by rw [HLV.out.2.2.2]; exact him)⟩
              have kx : w1.cell? ⟨b, i * 2, none⟩ = some (.int .i64 pp) ∧ w1.cell? ⟨b, i * 2 + 1, none⟩ = some vb := by
               obtain ⟨a', c', e0, -, h2⟩ := HLV.out.1
               obtain ⟨b', o', e1, -, h3⟩ := h2 (fun e => by rw [e] at hx; simp at hx)
               simp only [Value.slice.injEq] at e0
               rw [e1] at e0
               simp only [Option.some.injEq, Addr.mk.injEq, and_true] at e0
               obtain ⟨⟨rfl, rfl⟩, -⟩ := e0
               exact ⟨by have := h3 i _ hx 0 _ rfl; simpa using this, by have := h3 i _ hx 1 _ rfl; simpa using this⟩
              have hxs := HLV.out.2.1 _ (List.mem_of_getElem? hx)
              obtain ⟨a3, c3v, rfl⟩ : ∃ a c, vb = .slice a bs.length c := by obtain ⟨a, c, e, -⟩ := hxs; exact ⟨a, c, e⟩
              have HG := told_get HOK.out.1 HBY.out.2.2.2.2 (N := 60) (by rw [HTV.out.2, ← HTV.out.1, HOK.out.2.2]) hx
              obtain ⟨hp, hbs, hov, hl0, hl3⟩ := HG
              obtain ⟨⟨c1, c2, c3⟩, bk, lk, ⟨tl, ts, td, ti, tb, tw⟩, HVJ⟩ := told_step HOK.out.1 HBY.out.2.2.2.2 hov
              rw [← hbs] at HVJ
              have hI64 := (HTB.out (prV (pp, .slice a3 bs.length c3v, bs)) (by rw [← HTV.out.2]; exact List.mem_map.2 ⟨_, List.mem_of_getElem? hx, rfl⟩)).2
              obtain ⟨k, hk⟩ : ∃ k, talP r i = k := ⟨_, rfl⟩
              rw [hk] at HVJ hp
              subst hp
              obtain ⟨dl, hdl⟩ : ∃ d, bs.length = d := ⟨_, rfl⟩
              simp only [] at hxs
              have HVK : Aside (VisJ r (talK r h.beds i).g (talK r h.beds (i + 1)).g k bs (c1, c2, c3) bk lk ⟨tl, ts, td, ti, tb, tw⟩) := HVJ
              rw [hdl] at hxs kx hl0 hl3
              have HDL : Aside (bs.length = dl ∧ 0 < dl ∧ dl ≤ 6) := ⟨hdl, hl0, by omega⟩
              have HXS : Aside (Sl wr 1 eI (.slice a3 dl c3v) bs) := hxs.below HBW.out
              have HX3 : Aside (∀ W v', Sl W 1 eI v' bs → Calls Try.prog 14 #[.agg #[.int .i64 c1, .int .i64 c2, .int .i64 c3], .bool bk, .int .i64 lk, v'] W (Ret (.tuple #[.agg #[.int .i64 tl, .int .i64 ts, .int .i64 td, .bool ti, .bool tb, .bool tw], .int .i64 0]) W)) := by
               intro W v' hs
               have h1 := Visit_any (c1, c2, c3) bk lk v' bs W hs hI64
               rw [HVK.out.vis] at h1
               exact h1
              have hltk : k < n := by rw [← HRL.out]; exact HVK.out.lt
              have hkz : (k : Int) < (n : Int) := by omega
              have hcK : (hcnt h)[k]? = some (c1, c2, c3) := by rw [← HRC.out]; exact HVK.out.cnt
              have qa : wr.cell? ⟨cb, co + k * 3, none⟩ = some (.int .i64 c1) := keepc HBW.out (HCC.out k _ hcK).1
              have qb : wr.cell? ⟨cb, co + k * 3 + 1, none⟩ = some (.int .i64 c2) := keepc HBW.out (HCC.out k _ hcK).2.1
              have qc : wr.cell? ⟨cb, co + k * 3 + 2, none⟩ = some (.int .i64 c3) := keepc HBW.out (HCC.out k _ hcK).2.2
              have ic : wr.cell? ⟨gI, k, none⟩ = some (.bool bk) := HTL.out.ic HVK.out.inn
              have lc : wr.cell? ⟨gL, k, none⟩ = some (.int .i64 lk) := HTL.out.lc HVK.out.left
              have va : wr.cell? ⟨b, i * 2, none⟩ = some (.int .i64 (k : Int)) := keepc HBW.out kx.1
              have vb1 : wr.cell? ⟨b, i * 2 + 1, none⟩ = some (.slice a3 dl c3v) := keepc HBW.out kx.2
              have HVB1 : Aside (w1.cell? ⟨b, i * 2 + 1, none⟩ = some (.slice a3 dl c3v)) := kx.2
              clear hx kx hxs hbs hov hl0 hl3 HVJ hI64 hk hdl hcK
              have s80 : wr.cell? ⟨g8, 0, none⟩ = some (.slice (some ⟨b, 0, none⟩) m C5) := keepc HBW.out (blk_cell HR7.out.2 rfl)
              have s70 : wr.cell? ⟨g7, 0, none⟩ = some (.slice (some ⟨cb, co, none⟩) n cc0) := keepc HBW.out (blk_cell HR7.out.1 rfl)
              as_aux_lemma =>
               go_upto_region 20 with (fail)
               refine tol20 s70 hltk hkz qa qb qc ic lc s80 him hiz vb1 HXS HDL HX3 (by kernel_rfl) (by rfl) (by rfl) (by rfl) (by rfl) (by rfl) (by rfl) (by rfl) ?rest20
               case rest20 =>
                intro ac w5 hL
                have e198 : ac.tmps.getD 198 undef = .pointer (some ⟨g7, 0, none⟩) := hL.new 0 _ 198 rfl rfl rfl
                have e199 : ac.tmps.getD 199 undef = .slice (some ⟨cb, co, none⟩) n cc0 := hL.new 1 _ 199 rfl rfl rfl
                have e200 : ac.tmps.getD 200 undef = .int .i64 (k : Int) := hL.new 2 _ 200 rfl rfl rfl
                have e201 : ac.tmps.getD 201 undef = .pointer (some ⟨cb, co + k * 3, none⟩) := hL.new 3 _ 201 rfl rfl rfl
                have e202 : ac.tmps.getD 202 undef = .agg #[.int .i64 c1, .int .i64 c2, .int .i64 c3] := hL.new 4 _ 202 rfl rfl rfl
                have e203 : ac.tmps.getD 203 undef = .slice (some ⟨gI, 0, none⟩) n n := hL.new 5 _ 203 rfl rfl rfl
                have e204 : ac.tmps.getD 204 undef = .int .i64 (k : Int) := hL.new 6 _ 204 rfl rfl rfl
                have e205 : ac.tmps.getD 205 undef = .pointer (some ⟨gI, k, none⟩) := hL.new 7 _ 205 rfl rfl rfl
                have e206 : ac.tmps.getD 206 undef = .bool bk := hL.new 8 _ 206 rfl rfl rfl
                have e207 : ac.tmps.getD 207 undef = .slice (some ⟨gL, 0, none⟩) n n := hL.new 9 _ 207 rfl rfl rfl
                have e208 : ac.tmps.getD 208 undef = .int .i64 (k : Int) := hL.new 10 _ 208 rfl rfl rfl
                have e209 : ac.tmps.getD 209 undef = .pointer (some ⟨gL, k, none⟩) := hL.new 11 _ 209 rfl rfl rfl
                have e210 : ac.tmps.getD 210 undef = .int .i64 lk := hL.new 12 _ 210 rfl rfl rfl
                obtain ⟨y211, e211⟩ : ∃ x, ac.tmps.getD 211 undef = x := ⟨_, rfl⟩
                have e212 : ac.tmps.getD 212 undef = .pointer (some ⟨g8, 0, none⟩) := hL.new 14 _ 212 rfl rfl rfl
                have e213 : ac.tmps.getD 213 undef = .slice (some ⟨b, 0, none⟩) m C5 := hL.new 15 _ 213 rfl rfl rfl
                have e214 : ac.tmps.getD 214 undef = .int .i64 (i : Int) := hL.new 16 _ 214 rfl rfl rfl
                have e215 : ac.tmps.getD 215 undef = .pointer (some ⟨b, i * 2, none⟩) := hL.new 17 _ 215 rfl rfl rfl
                have e216 : ac.tmps.getD 216 undef = .pointer (some ⟨b, i * 2 + 1, none⟩) := hL.new 18 _ 216 rfl rfl rfl
                have e217 : ac.tmps.getD 217 undef = .slice a3 dl c3v := hL.new 19 _ 217 rfl rfl rfl
                obtain ⟨y218, e218⟩ : ∃ x, ac.tmps.getD 218 undef = x := ⟨_, rfl⟩
                have e219 : ac.tmps.getD 219 undef = .tuple #[.agg #[.int .i64 tl, .int .i64 ts, .int .i64 td, .bool ti, .bool tb, .bool tw], .int .i64 0] := hL.new 21 _ 219 rfl rfl rfl
                have e197 : ac.tmps.getD 197 undef = .tuple #[.agg #[.int .i64 tl, .int .i64 ts, .int .i64 td, .bool ti, .bool tb, .bool tw], .int .i64 0] := hL.new 22 _ 197 rfl rfl rfl
                have e220 : ac.tmps.getD 220 undef = .agg #[.int .i64 tl, .int .i64 ts, .int .i64 td, .bool ti, .bool tb, .bool tw] := hL.new 23 _ 220 rfl rfl rfl
                have e221 : ac.tmps.getD 221 undef = .int .i64 0 := hL.new 24 _ 221 rfl rfl rfl
                have e16 : ac.tmps.getD 16 undef = .int .i64 0 := hL.new 27 _ 16 rfl rfl rfl
                obtain ⟨hb5, hAF, -⟩ := hL.cls
                obtain ⟨gX, e15, gXa, gXb, gXc⟩ := hAF _ (List.mem_cons_self ..) rfl
                change ac.tmps.getD 15 undef = _ at e15
                have HX6 : Aside (w5.heap[gX]? = some (.cells #[.int .i64 tl, .int .i64 ts, .int .i64 td, .bool ti, .bool tb, .bool tw] 30 (0, 0))) := gXc
                have HTX : Aside (TL w4 gS gL gI (sumT r (talK r h.beds i).g) (talK r h.beds i).g.left (talK r h.beds i).g.inn w5) := HTL.out.below hb5
                have HBX6 : Aside (Below w1.heap.size w1 w5) := HB4.out.trans (HTX.out.bel.mono HB4.out.size)
                have HVB : Aside (w1.cell? ⟨b, i * 2 + 1, none⟩ = some (.slice a3 dl c3v)) := HVB1.out
                have HXN : Aside (gX ≠ gS ∧ gX ≠ gL ∧ gX ≠ gI) := ⟨by have := (Array.getElem?_eq_some_iff.1 HTL.out.s).1; omega, by have := (Array.getElem?_eq_some_iff.1 HTL.out.l).1; omega, by have := (Array.getElem?_eq_some_iff.1 HTL.out.i).1; omega⟩
                clear hAF gXa gXb gXc hb5
                have es_ := hL.sets [198, 199, 200, 201, 202, 203, 204, 205, 206, 207, 208, 209, 210, 211, 212, 213, 214, 215, 216, 217, 218, 219, 197, 220, 221, 15, 16] (by decide +kernel)
                rw [List.foldl_cons, List.foldl_cons, List.foldl_cons, List.foldl_cons, List.foldl_cons, List.foldl_cons, List.foldl_cons, List.foldl_cons, List.foldl_cons, List.foldl_cons, List.foldl_cons, List.foldl_cons, List.foldl_cons, List.foldl_cons, List.foldl_cons, List.foldl_cons, List.foldl_cons, List.foldl_cons, List.foldl_cons, List.foldl_cons, List.foldl_cons, List.foldl_cons, List.foldl_cons, List.foldl_cons, List.foldl_cons, List.foldl_cons, List.foldl_cons, List.foldl_nil, e198, e199, e200, e201, e202, e203, e204, e205, e206, e207, e208, e209, e210, e211, e212, e213, e214, e215, e216, e217, e218, e219, e197, e220, e221, e15, e16] at es_
                rw [es_]
                clear es_ hL e198 e199 e200 e201 e202 e203 e204 e205 e206 e207 e208 e209 e210 e211 e212 e213 e214 e215 e216 e217 e218 e219 e197 e220 e221 e15 e16
                refine wpAny_done (by decide +kernel) ?_ _
                simp only [List.setIfInBounds_toArray, List.set_cons_zero, List.set_cons_succ]
                clear s70 s80 qa qb qc ic lc va vb1 HTL HBR HBW HXS HX3 HVB1
                as_aux_lemma =>
                 have x0 : w5.cell? ⟨gX, 0, none⟩ = some (.int .i64 tl) := blk_cell HX6.out rfl
                 have x1 : w5.cell? ⟨gX, 1, none⟩ = some (.int .i64 ts) := blk_cell HX6.out rfl
                 have x2 : w5.cell? ⟨gX, 2, none⟩ = some (.int .i64 td) := blk_cell HX6.out rfl
                 have x3 : w5.cell? ⟨gX, 3, none⟩ = some (.bool ti) := blk_cell HX6.out rfl
                 have x4 : w5.cell? ⟨gX, 4, none⟩ = some (.bool tb) := blk_cell HX6.out rfl
                 have x5 : w5.cell? ⟨gX, 5, none⟩ = some (.bool tw) := blk_cell HX6.out rfl
                 have lc : w5.cell? ⟨gL, k, none⟩ = some (.int .i64 lk) := HTX.out.lc HVK.out.left
                 have vb1 : w5.cell? ⟨b, i * 2 + 1, none⟩ = some (.slice a3 dl c3v) := keepc HBX6.out HVB.out
                 have s80 : w5.cell? ⟨g8, 0, none⟩ = some (.slice (some ⟨b, 0, none⟩) m C5) := keepc HBX6.out (blk_cell HR7.out.2 rfl)
                 have hts : ¬ ts < 0 := by have h1 : 0 ≤ ts := HVK.out.s0; omega
                 have hsz_ : (decide (ts < 0)) = false := decide_eq_false hts
                 have ewl : IntKind.i64.wrap (lk - tl) = lk - tl := IntWalk.i64_in _ (by have h1 : 0 ≤ ts := HVK.out.s0; have h2 : ts = lk - tl := HVK.out.s1; have h3 := HVK.out.lb; have h4 : 0 ≤ tl := HVK.out.l0; omega)
                 have ets : (ts != lk - tl) = false := by have h2 : ts = lk - tl := HVK.out.s1; rw [h2]; simp
                 have etw : (tw != (tl == 0)) = false := by have h2 : tw = decide (tl = 0) := HVK.out.w; rw [h2]; by_cases h3 : tl = 0 <;> simp [h3]
                 have etd : (td != (dl : Int)) = false := by have h2 : td = (bs.length : Int) := HVK.out.d; rw [h2, HDL.out.1]; simp
                 go_upto_region 21 with (fail)
                 go_cut [269] from 184 to 289 (fun s269 wf => s269 = .bool false ∧ Aside (Below w5.heap.size w5 wf))
                 case first =>
                  rcases bb_cases tb (tl == 0) with h21 | h21 | h21 | h21
                  ·have HX21 : Aside (tb = true) := h21.1
                   have etl : (tl == 0) = true := h21.2
                   have HW21 : Aside (tw = true) := by have h2 : tw = decide (tl = 0) := HVK.out.w; have h3 := h21.2; show tw = true; rw [h2]; simpa using h3
                   rw [HX21.out] at x4
                   rw [HW21.out] at x5
                   have et0 : (ts != 0) = false := by have h2 : ts = 0 := HVK.out.b HX21.out; rw [h2]; rfl
                   clear h21 etw
                   as_aux_lemma =>
                    go_quiet (fail)
                    go_wp2_with fail
                    go_meet
                    exact ⟨rfl, (show Below _ _ _ from by (repeat' (first | exact Below.refl _ _ | assumption | (with_reducible refine Below.drew ?_) | (with_reducible refine Below.setCell ?_ (by (first | (simp; done) | (simp; omega))) _) | (with_reducible refine below_drewN' ?_ _) | (refine Below.alloc ?_ (by (try simp only [World.size_alloc, World.size_drew, World.size_setCell]); omega) _) | (refine Below.trans ?_ (Below.mono (by assumption) (by (try simp only [World.size_alloc, World.size_drew, World.size_setCell]); omega))))))⟩
                  ·have HX21 : Aside (tb = true) := h21.1
                   have etl : (tl == 0) = false := h21.2
                   have HW21 : Aside (tw = false) := by have h2 : tw = decide (tl = 0) := HVK.out.w; have h3 := h21.2; show tw = false; rw [h2]; simpa using h3
                   rw [HX21.out] at x4
                   rw [HW21.out] at x5
                   have et0 : (ts != 0) = false := by have h2 : ts = 0 := HVK.out.b HX21.out; rw [h2]; rfl
                   clear h21 etw
                   as_aux_lemma =>
                    go_quiet (fail)
                    go_wp2_with fail
                    go_meet
                    exact ⟨rfl, (show Below _ _ _ from by (repeat' (first | exact Below.refl _ _ | assumption | (with_reducible refine Below.drew ?_) | (with_reducible refine Below.setCell ?_ (by (first | (simp; done) | (simp; omega))) _) | (with_reducible refine below_drewN' ?_ _) | (refine Below.alloc ?_ (by (try simp only [World.size_alloc, World.size_drew, World.size_setCell]); omega) _) | (refine Below.trans ?_ (Below.mono (by assumption) (by (try simp only [World.size_alloc, World.size_drew, World.size_setCell]); omega))))))⟩
                  ·have HX21 : Aside (tb = false) := h21.1
                   have etl : (tl == 0) = true := h21.2
                   have HW21 : Aside (tw = true) := by have h2 : tw = decide (tl = 0) := HVK.out.w; have h3 := h21.2; show tw = true; rw [h2]; simpa using h3
                   rw [HX21.out] at x4
                   rw [HW21.out] at x5
                   clear h21 etw
                   as_aux_lemma =>
                    go_quiet (fail)
                    go_wp2_with fail
                    go_meet
                    exact ⟨rfl, (show Below _ _ _ from by (repeat' (first | exact Below.refl _ _ | assumption | (with_reducible refine Below.drew ?_) | (with_reducible refine Below.setCell ?_ (by (first | (simp; done) | (simp; omega))) _) | (with_reducible refine below_drewN' ?_ _) | (refine Below.alloc ?_ (by (try simp only [World.size_alloc, World.size_drew, World.size_setCell]); omega) _) | (refine Below.trans ?_ (Below.mono (by assumption) (by (try simp only [World.size_alloc, World.size_drew, World.size_setCell]); omega))))))⟩
                  ·have HX21 : Aside (tb = false) := h21.1
                   have etl : (tl == 0) = false := h21.2
                   have HW21 : Aside (tw = false) := by have h2 : tw = decide (tl = 0) := HVK.out.w; have h3 := h21.2; show tw = false; rw [h2]; simpa using h3
                   rw [HX21.out] at x4
                   rw [HW21.out] at x5
                   clear h21 etw
                   as_aux_lemma =>
                    go_quiet (fail)
                    go_wp2_with fail
                    go_meet
                    exact ⟨rfl, (show Below _ _ _ from by (repeat' (first | exact Below.refl _ _ | assumption | (with_reducible refine Below.drew ?_) | (with_reducible refine Below.setCell ?_ (by (first | (simp; done) | (simp; omega))) _) | (with_reducible refine below_drewN' ?_ _) | (refine Below.alloc ?_ (by (try simp only [World.size_alloc, World.size_drew, World.size_setCell]); omega) _) | (refine Below.trans ?_ (Below.mono (by assumption) (by (try simp only [World.size_alloc, World.size_drew, World.size_setCell]); omega))))))⟩
                 case rest =>
                  obtain ⟨rfl, HBC⟩ := hcut
                  clear x0 x1 x2 x3 x4 x5 lc vb1 s80 hts hsz_ ewl ets etw etd

                  have HT6 : Aside (TL w4 gS gL gI (sumT r (talK r h.beds i).g) (talK r h.beds i).g.left (talK r h.beds i).g.inn wc) := HTX.out.below HBC.out
                  have x0 : wc.cell? ⟨gX, 0, none⟩ = some (.int .i64 tl) := keepc HBC.out (blk_cell HX6.out rfl)
                  have x1 : wc.cell? ⟨gX, 1, none⟩ = some (.int .i64 ts) := keepc HBC.out (blk_cell HX6.out rfl)
                  have x3 : wc.cell? ⟨gX, 3, none⟩ = some (.bool ti) := keepc HBC.out (blk_cell HX6.out rfl)
                  have hws : IntKind.i64.wrap ((c1 - lk) + ts) = (c1 - lk) + ts := IntWalk.i64_in _ (by have h1 : 0 ≤ ts := HVK.out.s0; have h2 : ts = lk - tl := HVK.out.s1; have h3 := HVK.out.lb; have h4 : 0 ≤ tl := HVK.out.l0; have h5 : 0 ≤ c1 ∧ c1 ≤ 1001 := HVK.out.cb; omega)
                  have HFO : Aside ((talK r h.beds i).g.left[k]? = some lk ∧ (talK r h.beds i).g.inn[k]? = some bk ∧ (sumT r (talK r h.beds i).g)[k]? = some (c1 - lk)) := ⟨HVK.out.left, HVK.out.inn, HVK.out.ss⟩
                  as_aux_lemma =>
                   go_upto_region 23 with (fail)
                   refine tol23 hltk hkz x0 x1 x3 HXN hws HT6 HD HFO (by kernel_rfl) (by rfl) (by rfl) (by rfl) (by rfl) (by rfl) (by rfl) ?rest23
                   case rest23 =>
                    intro ac wq hL
                    have e270 : ac.tmps.getD 270 undef = .slice (some ⟨gL, 0, none⟩) n n := hL.new 0 _ 270 rfl rfl rfl
                    have e271 : ac.tmps.getD 271 undef = .int .i64 (k : Int) := hL.new 1 _ 271 rfl rfl rfl
                    have e272 : ac.tmps.getD 272 undef = .slice (some ⟨gI, 0, none⟩) n n := hL.new 2 _ 272 rfl rfl rfl
                    have e273 : ac.tmps.getD 273 undef = .int .i64 (k : Int) := hL.new 3 _ 273 rfl rfl rfl
                    have e274 : ac.tmps.getD 274 undef = .slice (some ⟨gS, 0, none⟩) n n := hL.new 4 _ 274 rfl rfl rfl
                    have e275 : ac.tmps.getD 275 undef = .int .i64 (k : Int) := hL.new 5 _ 275 rfl rfl rfl
                    have e276 : ac.tmps.getD 276 undef = .pointer (some ⟨gX, 0, none⟩) := hL.new 6 _ 276 rfl rfl rfl
                    have e277 : ac.tmps.getD 277 undef = .int .i64 tl := hL.new 7 _ 277 rfl rfl rfl
                    have e278 : ac.tmps.getD 278 undef = .pointer (some ⟨gX, 3, none⟩) := hL.new 8 _ 278 rfl rfl rfl
                    have e279 : ac.tmps.getD 279 undef = .bool ti := hL.new 9 _ 279 rfl rfl rfl
                    have e280 : ac.tmps.getD 280 undef = .slice (some ⟨gS, 0, none⟩) n n := hL.new 10 _ 280 rfl rfl rfl
                    have e281 : ac.tmps.getD 281 undef = .int .i64 (k : Int) := hL.new 11 _ 281 rfl rfl rfl
                    have e282 : ac.tmps.getD 282 undef = .pointer (some ⟨gS, k, none⟩) := hL.new 12 _ 282 rfl rfl rfl
                    have e283 : ac.tmps.getD 283 undef = .int .i64 (c1 - lk) := hL.new 13 _ 283 rfl rfl rfl
                    have e284 : ac.tmps.getD 284 undef = .pointer (some ⟨gX, 1, none⟩) := hL.new 14 _ 284 rfl rfl rfl
                    have e285 : ac.tmps.getD 285 undef = .int .i64 ts := hL.new 15 _ 285 rfl rfl rfl
                    have e286 : ac.tmps.getD 286 undef = .int .i64 ((c1 - lk) + ts) := hL.new 16 _ 286 rfl rfl rfl
                    have e287 : ac.tmps.getD 287 undef = .pointer (some ⟨gL, k, none⟩) := hL.new 17 _ 287 rfl rfl rfl
                    have e288 : ac.tmps.getD 288 undef = .pointer (some ⟨gI, k, none⟩) := hL.new 19 _ 288 rfl rfl rfl
                    have e289 : ac.tmps.getD 289 undef = .pointer (some ⟨gS, k, none⟩) := hL.new 21 _ 289 rfl rfl rfl
                    have HTN : Aside (TL w4 gS gL gI (sumT r (talK r h.beds (i + 1)).g) (talK r h.beds (i + 1)).g.left (talK r h.beds (i + 1)).g.inn wq) := by
                     have h1 := hL.cls.fin rfl rfl rfl
                     show TL _ _ _ _ _ _ _ _
                     rw [HVK.out.gl, HVK.out.gi, HVK.out.gs]
                     exact h1
                    have es_ := hL.sets [270, 271, 272, 273, 274, 275, 276, 277, 278, 279, 280, 281, 282, 283, 284, 285, 286, 287, 288, 289] (by decide +kernel)
                    rw [List.foldl_cons, List.foldl_cons, List.foldl_cons, List.foldl_cons, List.foldl_cons, List.foldl_cons, List.foldl_cons, List.foldl_cons, List.foldl_cons, List.foldl_cons, List.foldl_cons, List.foldl_cons, List.foldl_cons, List.foldl_cons, List.foldl_cons, List.foldl_cons, List.foldl_cons, List.foldl_cons, List.foldl_cons, List.foldl_cons, List.foldl_nil, e270, e271, e272, e273, e274, e275, e276, e277, e278, e279, e280, e281, e282, e283, e284, e285, e286, e287, e288, e289] at es_
                    rw [es_]
                    clear es_ hL e270 e271 e272 e273 e274 e275 e276 e277 e278 e279 e280 e281 e282 e283 e284 e285 e286 e287 e288 e289
                    refine wpAny_done (by decide +kernel) ?_ _
                    simp only [List.setIfInBounds_toArray, List.set_cons_zero, List.set_cons_succ]
                    clear x0 x1 x3 hws
                    have ei : IntKind.i64.wrap ((i : Int) + 1) = (i : Int) + 1 := IntWalk.i64_in _ (by have := HMP.out; omega)
                    as_aux_lemma =>
                     go_wp2_with fail
                     go_roundg (m - (i + 1))
                     case measure => omega
                     case rel => exact ⟨i + 1, by omega, by omega, by go_num, HTN.out⟩
             ·have hiz : ¬ (i : Int) < (m : Int) := by omega
              have HT3 : Aside (TL w4 gS gL gI (sumT r (talF h).g) (talF h).g.left (talF h).g.inn wr) := by
               have h1 := HTL.out
               have e0 := tal_len_eq HOK.out.1 HBY.out.2.2.2.2 60
               rw [← HOK.out.2.2, HTF.out.2.1, show m = i by omega] at e0
               rw [e0] at h1
               exact h1
              have s80 : wr.cell? ⟨g8, 0, none⟩ = some (.slice (some ⟨b, 0, none⟩) m C5) := keepc HBW.out (blk_cell HR7.out.2 rfl)
              clear HTL HBR HBW
              obtain ⟨w10, hw10_⟩ : ∃ u, u = wr := ⟨_, rfl⟩
              subst hw10_
              obtain ⟨em, hem⟩ : ∃ x, (talF h).g.ended.isEmpty = x := ⟨_, rfl⟩
              have HEM : Aside ((talF h).g.ended.isEmpty = em ∧ ((me : Int) == 0) = em) := by
               refine ⟨hem, ?_⟩
               rw [← hem, ← HME.out.1]
               cases (talF h).g.ended with
               | nil => rfl
               | cons a l => simp; omega
              clear hem
              obtain ⟨i0, hi0, hz0, hz1, hz2⟩ := info_parts info_int
              as_aux_lemma =>
               go_wp2_with fail
               clear s80
               go_loopg [17, 18] n (fun gg s17 s18 w3 => ∃ (k : Nat) (v : Value), k ≤ n ∧ n - k ≤ gg ∧ s18 = .int .i64 (k : Int) ∧ v = s17 ∧ Aside (w3.ownsRow w10.heap.size 3 1 v (bestW (talF h).g k).length ((bestW (talF h).g k).map (Value.int .i64)) ∧ Below w10.heap.size w10 w3))
               case atStart => exact ⟨0, _, by omega, by omega, rfl, rfl, World.ownsRow_made w10 #[] 0 (Nat.le_refl _) (by unfold maxLen; omega) rfl, (Below.refl _ _).alloc (Nat.le_refl _) _⟩
               case round =>
                obtain ⟨k, v, hk, hgk, rfl, rfl, HV3⟩ := hrel
                obtain ⟨w3, hw3_⟩ : ∃ u, u = wr := ⟨_, rfl⟩
                subst hw3_
                have HB34 : Aside (Below w4.heap.size w4 w3) := HT3.out.bel.trans (HV3.out.2.mono HT3.out.bel.size)
                have HB31 : Aside (Below w1.heap.size w1 w3) := HB4.out.trans (HB34.out.mono HB4.out.size)
                by_cases hlt : k < n
                ·have hltz : (k : Int) < (n : Int) := by omega
                 obtain ⟨x, hx⟩ : ∃ x, (talF h).g.left[k]? = some x := ⟨_, List.getElem?_eq_getElem (by rw [HGE.out.l1, HRL.out]; exact hlt)⟩
                 obtain ⟨⟨c1, c2, c3⟩, hc⟩ : ∃ c, (hcnt h)[k]? = some c := ⟨_, List.getElem?_eq_getElem (by rw [HN.out]; exact hlt)⟩
                 obtain ⟨lu, hlu⟩ : ∃ l, bestW (talF h).g k = l := ⟨_, rfl⟩
                 have HLU : Aside (bestW (talF h).g k = lu ∧ lu.length ≤ 5) := ⟨hlu, by rw [← hlu]; have h1 := bestW_len (talF h).g k; have h2 := HNP.out; omega⟩
                 as_aux_lemma =>
                  rw [hlu] at HV3
                  obtain ⟨va, vcp, rfl⟩ := owns_form3 HV3.out.1
                  have hc1 : 0 ≤ c1 ∧ c1 ≤ 1001 := by have h1 := vcnt_bd (HOK.out.1.cnt (c1, c2, c3) (List.mem_of_getElem? (by rw [HRC.out]; exact hc))); simp only [] at h1; omega
                  have hxl := HGE.out.left x (List.mem_of_getElem? hx)
                  have hsg : (sumT r (talF h).g)[k]? = some (c1 - x) := by
                   rw [sumT_get (by rw [HRL.out]; exact hlt)]
                   have e1 : cntAt r k = (c1, c2, c3) := by unfold cntAt; rw [HRC.out, List.getD_eq_getElem?_getD, hc]; rfl
                   have e2 : (talF h).g.left.getD k 0 = x := by rw [List.getD_eq_getElem?_getD, hx]; rfl
                   rw [e1, e2]
                  have sa : w3.cell? ⟨gS, k, none⟩ = some (.int .i64 (c1 - x)) := keepc HV3.out.2 (HT3.out.sc hsg)
                  have ca : w3.cell? ⟨p0, o0 + k, none⟩ = some (.int .i64 x) := keepc HB34.out (HCS.out.1 k x hx)
                  have qa : w3.cell? ⟨cb, co + k * 3, none⟩ = some (.int .i64 c1) := keepc HB31.out (HCC.out k _ hc).1
                  have HXK : Aside ((talF h).g.left[k]? = some x) := hx
                  have e28 : c1 - x + x = c1 := by omega
                  have w28 : IntKind.i64.wrap c1 = c1 := IntWalk.i64_in _ (by omega)
                  have w28b : IntKind.i64.wrap (c1 - x + x) = c1 := by rw [e28]; exact w28
                  have ecc : (c1 != c1) = false := by simp
                  have s50 : w3.cell? ⟨g5, 0, none⟩ = some (.slice (some ⟨p0, o0, none⟩) n cu0) := keepc HB34.out (blk_cell H5.out rfl)
                  have s70 : w3.cell? ⟨g7, 0, none⟩ = some (.slice (some ⟨cb, co, none⟩) n cc0) := keepc HB31.out (blk_cell HR7.out.1 rfl)
                  have s84 : w3.cell? ⟨g8, 4, none⟩ = some (.slice A3 me C3) := keepc HB31.out (blk_cell HR7.out.2 rfl)
                  have s87 : w3.cell? ⟨g8, 7, none⟩ = some (.bool ov) := keepc HB31.out (blk_cell HR7.out.2 rfl)
                  clear hx hc hlu hc1 hxl hsg
                  as_aux_lemma =>
                   go_wp2_with fail
                   go_quiet (fail)
                   as_aux_lemma =>
                    clear sa ca qa e28 w28 w28b ecc s50 s70
                    go_upto_region 30 with (fail)
                    have eme := HEM.out.2
                    go_cut [19] from 291 to 381 (fun s19 wf => s19 = .bool (ov && em) ∧ Aside (Below w3.heap.size w3 wf))
                    case first =>
                     cases ov with
                     | true =>
                      go_wp2_with fail
                      go_meet
                      exact ⟨rfl, (show Below _ _ _ from by (repeat' (first | exact Below.refl _ _ | assumption | (with_reducible refine Below.drew ?_) | (with_reducible refine Below.setCell ?_ (by (first | (simp; done) | (simp; omega))) _) | (with_reducible refine below_drewN' ?_ _) | (refine Below.alloc ?_ (by (try simp only [World.size_alloc, World.size_drew, World.size_setCell]); omega) _) | (refine Below.trans ?_ (Below.mono (by assumption) (by (try simp only [World.size_alloc, World.size_drew, World.size_setCell]); omega))))))⟩
                     | false =>
                      go_wp2_with fail
                      go_meet
                      exact ⟨rfl, (show Below _ _ _ from by (repeat' (first | exact Below.refl _ _ | assumption | (with_reducible refine Below.drew ?_) | (with_reducible refine Below.setCell ?_ (by (first | (simp; done) | (simp; omega))) _) | (with_reducible refine below_drewN' ?_ _) | (refine Below.alloc ?_ (by (try simp only [World.size_alloc, World.size_drew, World.size_setCell]); omega) _) | (refine Below.trans ?_ (Below.mono (by assumption) (by (try simp only [World.size_alloc, World.size_drew, World.size_setCell]); omega))))))⟩
                    case rest =>
                     obtain ⟨rfl, HBC⟩ := hcut
                     obtain ⟨b0, hb0⟩ : ∃ x, (ov && em) = x := ⟨_, rfl⟩
                     have HB0_ : Aside ((ov && em) = b0) := hb0
                     rw [hb0]
                     clear hb0 eme s84 s87
                     as_aux_lemma =>
                      go_upto_block 6 with fail
                      go_cut [19, 20] from 291 to 381 (fun s19 s20 wf => s19 = .bool (bestL (talF h).g.left k b0 n) ∧ Aside (Below w3.heap.size w3 wf))
                      case first =>
                       go_wp2_with fail
                       go_loopg [19, 20] n (fun gg s19 s20 w5l => ∃ (j : Nat), j ≤ n ∧ n - j ≤ gg ∧ s20 = .int .i64 (j : Int) ∧ s19 = .bool (bestL (talF h).g.left k b0 j) ∧ Aside (Below w3.heap.size w3 w5l))
                       case atStart => exact ⟨0, by omega, by omega, rfl, by unfold bestL; simp, HBC.out⟩
                       case round =>
                        obtain ⟨j, hj, hgj, rfl, e19, HBJ⟩ := hrel
                        obtain ⟨w5l, hw5l_⟩ : ∃ u, u = wr := ⟨_, rfl⟩
                        subst hw5l_
                        obtain ⟨bb, hbb⟩ : ∃ x, bestL (talF h).g.left k b0 j = x := ⟨_, rfl⟩
                        have HBB : Aside (bestL (talF h).g.left k b0 j = bb) := hbb
                        rw [hbb] at e19
                        subst e19
                        clear hbb
                        by_cases hltj : j < n
                        ·have hltjz : (j : Int) < (n : Int) := by omega
                         cases bb with
                         | false =>
                          go_wp2_with fail
                          go_meet
                          refine ⟨?_, HBJ.out⟩
                          have h1 := bestL_no HBB.out (n - j)
                          rw [show j + (n - j) = n by omega] at h1
                          rw [h1]
                         | true =>
                          obtain ⟨y, hy⟩ : ∃ y, (talF h).g.left[j]? = some y := ⟨_, List.getElem?_eq_getElem (by rw [HGE.out.l1, HRL.out]; exact hltj)⟩
                          have HB1J : Aside (Below w1.heap.size w1 w5l) := HB31.out.trans (HBJ.out.mono HB31.out.size)
                          have ta : w5l.cell? ⟨q0, j0 + k, none⟩ = some (.int .i64 x) := keepc HB1J.out (HCT.out.1 k x HXK.out)
                          have tb : w5l.cell? ⟨q0, j0 + j, none⟩ = some (.int .i64 y) := keepc HB1J.out (HCT.out.1 j y hy)
                          have HSJ : Aside (bestL (talF h).g.left k b0 (j + 1) = decide (x ≤ y)) := by
                           show _ = _
                           rw [bestL_step, HBB.out, Bool.true_and]
                           have e1 : (talF h).g.left.getD k 0 = x := by rw [List.getD_eq_getElem?_getD, HXK.out]; rfl
                           have e2 : (talF h).g.left.getD j 0 = y := by rw [List.getD_eq_getElem?_getD, hy]; rfl
                           rw [e1, e2]
                          have ej : IntKind.i64.wrap ((j : Int) + 1) = (j : Int) + 1 := IntWalk.i64_in _ (by have := HNP.out; omega)
                          have s81 : w5l.cell? ⟨g8, 1, none⟩ = some (.slice (some ⟨q0, j0, none⟩) n C0) := keepc HB1J.out (blk_cell HR7.out.2 rfl)
                          clear hy
                          as_aux_lemma =>
                           go_wp2_with fail
                           go_quiet (fail)
                           go_wp2_with fail
                           go_roundg (n - (j + 1))
                           case measure => omega
                           case rel => exact ⟨j + 1, by omega, by omega, by go_num, by rw [HSJ.out], HBJ.out.trans (by (repeat' (first | exact Below.refl _ _ | assumption | (with_reducible refine Below.drew ?_) | (with_reducible refine Below.setCell ?_ (by (first | (simp; done) | (simp; omega))) _) | (with_reducible refine below_drewN' ?_ _) | (refine Below.alloc ?_ (by (try simp only [World.size_alloc, World.size_drew, World.size_setCell]); omega) _) | (refine Below.trans ?_ (Below.mono (by assumption) (by (try simp only [World.size_alloc, World.size_drew, World.size_setCell]); omega))))))⟩
                        ·have hltjz : ¬ (j : Int) < (n : Int) := by omega
                         have hjn : j = n := by omega
                         have HBN : Aside (bestL (talF h).g.left k b0 n = bb) := by rw [← hjn]; exact HBB.out
                         clear hjn
                         go_wp2_with fail
                         go_meet
                         exact ⟨by rw [HBN.out], HBJ.out⟩
                      case rest =>
                       obtain ⟨rfl, HBC2⟩ := hcut
                       obtain ⟨b1, hb1_⟩ : ∃ x, bestL (talF h).g.left k b0 n = x := ⟨_, rfl⟩
                       have HB1_ : Aside (bestL (talF h).g.left k b0 n = b1) := hb1_
                       rw [hb1_]
                       clear hb1_
                       as_aux_lemma =>
                        go_wp2_with fail
                        go_loopg [19, 21] me (fun gg s19 s21 w6l => ∃ (i : Nat), i ≤ me ∧ me - i ≤ gg ∧ s21 = .int .i64 (i : Int) ∧ s19 = .bool (bestE ov (talF h).g.ended b1 k i) ∧ Aside (Below w3.heap.size w3 w6l))
                        case atStart => exact ⟨0, by omega, by omega, rfl, rfl, HBC2.out⟩
                        case round =>
                         obtain ⟨i, hi, hgi, rfl, e19, HBI⟩ := hrel
                         obtain ⟨w6l, hw6l_⟩ : ∃ u, u = wr := ⟨_, rfl⟩
                         subst hw6l_
                         obtain ⟨bb, hbb⟩ : ∃ x, bestE ov (talF h).g.ended b1 k i = x := ⟨_, rfl⟩
                         have HBB : Aside (bestE ov (talF h).g.ended b1 k i = bb) := hbb
                         rw [hbb] at e19
                         subst e19
                         clear hbb
                         have HB1I : Aside (Below w1.heap.size w1 w6l) := HB31.out.trans (HBI.out.mono HB31.out.size)
                         have s84 : w6l.cell? ⟨g8, 4, none⟩ = some (.slice A3 me C3) := keepc HB1I.out (blk_cell HR7.out.2 rfl)
                         have s87 : w6l.cell? ⟨g8, 7, none⟩ = some (.bool ov) := keepc HB1I.out (blk_cell HR7.out.2 rfl)
                         by_cases hlti : i < me
                         ·have hltiz : (i : Int) < (me : Int) := by omega
                          obtain ⟨⟨x1, e1l⟩, hq⟩ : ∃ q, (talF h).g.ended[i]? = some q := ⟨_, List.getElem?_eq_getElem (by rw [HME.out.1]; exact hlti)⟩
                          have HQI : Aside ((talF h).g.ended.getD i (0, 0) = (x1, e1l)) := by show _ = _; rw [List.getD_eq_getElem?_getD, hq]; rfl
                          obtain ⟨b3, o3, rfl, kx3⟩ : ∃ b o, A3 = some ⟨b, o, none⟩ ∧ w6l.cell? ⟨b, o + i, none⟩ = some (.int .i64 x1) := by
                           obtain ⟨a', c', e', -, h2⟩ := HT34.out.1.below HB1I.out
                           simp only [Value.slice.injEq] at e'
                           obtain ⟨b', o', e1, -, h3⟩ := h2 (fun e => by have h4 := HME.out.1; rw [List.map_eq_nil_iff.1 e] at h4; simp at h4; omega)
                           exact ⟨b', o', e'.1.trans e1, by have := h3 i x1 (by rw [List.getElem?_map, hq]; rfl) 0 _ rfl; simpa using this⟩
                          have ei : IntKind.i64.wrap ((i : Int) + 1) = (i : Int) + 1 := IntWalk.i64_in _ (by have := HME.out; omega)
                          by_cases hxk : x1 = (k : Int)
                          ·have exk : (x1 != (k : Int)) = false := by rw [hxk]; simp
                           have HSI : Aside (bestE ov (talF h).g.ended b1 k (i + 1) = bestQ ov (talF h).g.ended e1l (talF h).g.ended.length) := by show _ = _; rw [bestE, HQI.out, if_pos hxk]
                           have HQ : Aside ((talF h).g.ended[i]? = some (x1, e1l)) := hq
                           clear hxk hq
                           as_aux_lemma =>
                            go_wp2_with fail
                            as_aux_lemma =>
                             go_loopg [19, 22] me (fun gg s19 s22 w7l => ∃ (j : Nat), j ≤ me ∧ me - j ≤ gg ∧ s22 = .int .i64 (j : Int) ∧ s19 = .bool (bestQ ov (talF h).g.ended e1l j) ∧ Aside (Below w3.heap.size w3 w7l))
                             case atStart => exact ⟨0, by omega, by omega, rfl, by unfold bestQ; simp, HBI.out⟩
                             case round =>
                              obtain ⟨j, hj, hgj, rfl, e19, HBJ⟩ := hrel
                              obtain ⟨w7l, hw7l_⟩ : ∃ u, u = wr := ⟨_, rfl⟩
                              subst hw7l_
                              obtain ⟨bq, hbq⟩ : ∃ x, bestQ ov (talF h).g.ended e1l j = x := ⟨_, rfl⟩
                              have HBQ : Aside (bestQ ov (talF h).g.ended e1l j = bq) := hbq
                              rw [hbq] at e19
                              subst e19
                              clear hbq kx3 s84 s87
                              have HB1J : Aside (Below w1.heap.size w1 w7l) := HB31.out.trans (HBJ.out.mono HB31.out.size)
                              have s85 : w7l.cell? ⟨g8, 5, none⟩ = some (.slice A4 me C4) := keepc HB1J.out (blk_cell HR7.out.2 rfl)
                              have s84 : w7l.cell? ⟨g8, 4, none⟩ = some (.slice (some ⟨b3, o3, none⟩) me C3) := keepc HB1J.out (blk_cell HR7.out.2 rfl)
                              by_cases hltj : j < me
                              ·have hltjz : (j : Int) < (me : Int) := by omega
                               obtain ⟨⟨x2, e2l⟩, hq2⟩ : ∃ q, (talF h).g.ended[j]? = some q := ⟨_, List.getElem?_eq_getElem (by rw [HME.out.1]; exact hltj)⟩
                               obtain ⟨b4, o4, rfl, kx4⟩ : ∃ b o, A4 = some ⟨b, o, none⟩ ∧ (∀ q y, (talF h).g.ended[q]? = some y → w7l.cell? ⟨b, o + q, none⟩ = some (.int .i64 y.2)) := by
                                obtain ⟨a', c', e', -, h2⟩ := HT34.out.2.below HB1J.out
                                simp only [Value.slice.injEq] at e'
                                obtain ⟨b', o', e1, -, h3⟩ := h2 (fun e => by have h4 := HME.out.1; rw [List.map_eq_nil_iff.1 e] at h4; simp at h4; omega)
                                exact ⟨b', o', e'.1.trans e1, fun q y hy => by have := h3 q y.2 (by rw [List.getElem?_map, hy]; rfl) 0 _ rfl; simpa using this⟩
                               have ka : w7l.cell? ⟨b4, o4 + i, none⟩ = some (.int .i64 e1l) := kx4 i _ HQ.out
                               have kb : w7l.cell? ⟨b4, o4 + j, none⟩ = some (.int .i64 e2l) := kx4 j _ hq2
                               have HSQ : Aside (bestQ ov (talF h).g.ended e1l (j + 1) = (bq && decide (e1l ≤ e2l))) := by show _ = _; rw [bestQ_step hq2, HBQ.out]
                               have ej : IntKind.i64.wrap ((j : Int) + 1) = (j : Int) + 1 := IntWalk.i64_in _ (by have := HME.out; omega)
                               clear kx4 hq2
                               cases bq with
                               | false =>
                                as_aux_lemma =>
                                 go_wp2_with fail
                                 go_quiet (fail)
                                 go_wp2_with fail
                                 go_roundg (me - (j + 1))
                                 case measure => omega
                                 case rel => exact ⟨j + 1, by omega, by omega, by go_num, by rw [HSQ.out]; rfl, HBJ.out.trans (by (repeat' (first | exact Below.refl _ _ | assumption | (with_reducible refine Below.drew ?_) | (with_reducible refine Below.setCell ?_ (by (first | (simp; done) | (simp; omega))) _) | (with_reducible refine below_drewN' ?_ _) | (refine Below.alloc ?_ (by (try simp only [World.size_alloc, World.size_drew, World.size_setCell]); omega) _) | (refine Below.trans ?_ (Below.mono (by assumption) (by (try simp only [World.size_alloc, World.size_drew, World.size_setCell]); omega))))))⟩
                               | true =>
                                as_aux_lemma =>
                                 go_wp2_with fail
                                 go_quiet (fail)
                                 go_wp2_with fail
                                 go_roundg (me - (j + 1))
                                 case measure => omega
                                 case rel => exact ⟨j + 1, by omega, by omega, by go_num, by rw [HSQ.out]; rfl, HBJ.out.trans (by (repeat' (first | exact Below.refl _ _ | assumption | (with_reducible refine Below.drew ?_) | (with_reducible refine Below.setCell ?_ (by (first | (simp; done) | (simp; omega))) _) | (with_reducible refine below_drewN' ?_ _) | (refine Below.alloc ?_ (by (try simp only [World.size_alloc, World.size_drew, World.size_setCell]); omega) _) | (refine Below.trans ?_ (Below.mono (by assumption) (by (try simp only [World.size_alloc, World.size_drew, World.size_setCell]); omega))))))⟩
                              ·have hltjz : ¬ (j : Int) < (me : Int) := by omega
                               have hjm : j = me := by omega
                               have HSM : Aside (bestE ov (talF h).g.ended b1 k (i + 1) = bq) := by show _ = _; rw [HSI.out, HME.out.1, ← hjm]; exact HBQ.out
                               clear hjm
                               as_aux_lemma =>
                                go_wp2_with fail
                                go_roundg (me - (i + 1))
                                case measure => omega
                                case rel => exact ⟨i + 1, by omega, by omega, by go_num, by rw [HSM.out], HBJ.out⟩
                          ·have exk : (x1 != (k : Int)) = true := by simpa using hxk
                           have HSI : Aside (bestE ov (talF h).g.ended b1 k (i + 1) = bb) := by show _ = _; rw [bestE, HQI.out, if_neg hxk]; exact HBB.out
                           clear hxk hq
                           as_aux_lemma =>
                            go_wp2_with fail
                            go_roundg (me - (i + 1))
                            case measure => omega
                            case rel => exact ⟨i + 1, by omega, by omega, by go_num, by rw [HSI.out], HBI.out⟩
                         ·have hltiz : ¬ (i : Int) < (me : Int) := by omega
                          have him_ : i = me := by omega
                          have HBF : Aside (bestF (talF h).g k = bb) := by
                           show _ = _
                           unfold bestF
                           rw [HGE.out.l1, HRL.out, HRO.out.2, HEM.out.1, HB0_.out, HB1_.out, HME.out.1, ← him_]
                           exact HBB.out
                          have HOW : Aside (w6l.ownsRow w10.heap.size 3 1 (.slice va lu.length vcp) lu.length (lu.map (Value.int .i64)) ∧ Below w10.heap.size w10 w6l ∧ lu.length ≤ 5) := ⟨ownsRow_below HV3.out.1 HBI.out, HV3.out.2.trans (HBI.out.mono HV3.out.2.size), HLU.out.2⟩
                          have ek : IntKind.i64.wrap ((k : Int) + 1) = (k : Int) + 1 := IntWalk.i64_in _ (by have := HNP.out; omega)
                          clear him_
                          cases bb with
                          | false =>
                           as_aux_lemma =>
                            go_wp2_with fail
                            go_roundg (n - (k + 1))
                            case measure => omega
                            case rel => exact ⟨k + 1, _, by omega, by omega, by go_num, rfl, by rw [bestW_step, HBF.out, HLU.out.1]; simpa using HOW.out.1, HOW.out.2.1⟩
                          | true =>
                           as_aux_lemma =>
                            have hlu5 := HOW.out.2.2
                            have hown := HOW.out.1
                            have hsz6 := HOW.out.2.1.size
                            go_wp2_with (at_builtin; refine wpList_append_own _ rfl _ _ 48 rfl w10.heap.size 3 i0 (.int .i64 0) 1 8 Try.underlying48 hi0 hz0 hz1 hz2 rfl (by decide) _ _ _ rfl (hown.alloc _) ⟨w6l.heap.size, 0, none⟩ 1 1 [.int .i64 (k : Int)] rfl rfl (cell_one_new _ _ _) (ints_oneCell .i64 [(k : Int)]) (by unfold maxLen; omega) (by omega) (by simp; omega) ?_; intro v' w8 hown8 hgrow8 hnil8)
                            have hB1 : Below w10.heap.size w10 (w6l.alloc (.cells #[.int .i64 (k : Int)] 3)) := HOW.out.2.1.alloc hsz6 _
                            have hO1 : (w6l.alloc (.cells #[.int .i64 (k : Int)] 3)).ownsRow w10.heap.size 3 1 (.slice va lu.length vcp) lu.length (lu.map (Value.int .i64)) := hown.alloc _
                            have hB2 : Below w10.heap.size w10 w8 := hB1.grown hgrow8 hB1.size (fun j hj => (hO1.lt j hj).1)
                            have HO8 : Aside (w8.ownsRow w10.heap.size 3 1 v' (lu.length + 1) (lu.map (Value.int .i64) ++ [.int .i64 (k : Int)]) ∧ Below w10.heap.size w10 w8) := ⟨hown8, hB2⟩
                            clear hB1 hO1 hB2
                            clear hown hown8 hgrow8 hnil8 hsz6
                            as_aux_lemma =>
                             go_wp2_with fail
                             go_roundg (n - (k + 1))
                             case measure => omega
                             case rel => exact ⟨k + 1, _, by omega, by omega, by go_num, rfl, by rw [bestW_step, HBF.out, HLU.out.1, if_pos rfl, List.length_append, List.map_append]; exact HO8.out.1, HO8.out.2⟩
                ·have hltz : ¬ (k : Int) < (n : Int) := by omega
                 have hkn : k = n := by omega
                 have HWN : Aside (bestW (talF h).g k = (talF h).g.wins) := by show _ = _; rw [HGE.out.wins, HRL.out, hkn]
                 have HVW : Aside (w3.ownsRow w10.heap.size 3 1 v kw ((talF h).g.wins.map (Value.int .i64))) := by
                  have h1 := HV3.out.1
                  rw [HWN.out, HS4.out.2] at h1
                  exact h1
                 have HK5 : Aside (kw ≤ 5) := by have h1 := bestW_len (talF h).g k; rw [HWN.out, HS4.out.2] at h1; have h2 := HNP.out; show kw ≤ 5; omega
                 obtain ⟨va, vcp, rfl⟩ := owns_form3 HVW.out
                 clear hkn
                 have ekk : ((kw : Int) != (kw : Int)) = false := by simp
                 have s56 : w3.cell? ⟨g5, 6, none⟩ = some (.slice P3 kw U3) := keepc HB34.out (blk_cell H5.out rfl)
                 as_aux_lemma =>
                  go_wp2_with fail
                  as_aux_lemma =>
                   go_loopg [23] kw (fun gg s23 w5l => ∃ (j : Nat), j ≤ kw ∧ kw - j ≤ gg ∧ s23 = .int .i64 (j : Int) ∧ Aside (Below w3.heap.size w3 w5l))
                   case atStart => exact ⟨0, by omega, by omega, rfl, Below.refl _ _⟩
                   case round =>
                    obtain ⟨j, hj, hgj, rfl, HBJ⟩ := hrel
                    obtain ⟨w5l, hw5l_⟩ : ∃ u, u = wr := ⟨_, rfl⟩
                    subst hw5l_
                    clear s56
                    have HB4J : Aside (Below w4.heap.size w4 w5l) := HB34.out.trans (HBJ.out.mono HB34.out.size)
                    by_cases hltj : j < kw
                    ·have hltjz : (j : Int) < (kw : Int) := by omega
                     obtain ⟨y, hy⟩ : ∃ y, (talF h).g.wins[j]? = some y := ⟨_, List.getElem?_eq_getElem (by rw [HS4.out.2]; exact hltj)⟩
                     obtain ⟨b5, o5, rfl, k5⟩ : ∃ b o, va = some ⟨b, o, none⟩ ∧ w5l.cell? ⟨b, o + j, none⟩ = some (.int .i64 y) := by
                      have h1 := row_ints (ownsRow_below HVW.out HBJ.out) (by rw [HS4.out.2]; have := HK5.out; omega)
                      obtain ⟨a', c', e', -, h2⟩ := h1
                      simp only [Value.slice.injEq] at e'
                      obtain ⟨b', o', e1, -, h3⟩ := h2 (fun e => by rw [e] at hy; simp at hy)
                      exact ⟨b', o', e'.1.trans e1, by have := h3 j _ hy 0 _ rfl; simpa using this⟩
                     obtain ⟨b6, o6, rfl, k6⟩ : ∃ b o, P3 = some ⟨b, o, none⟩ ∧ w5l.cell? ⟨b, o + j, none⟩ = some (.int .i64 y) := by
                      obtain ⟨a', c', e', -, h2⟩ := HS4.out.1.below HB4J.out
                      simp only [Value.slice.injEq] at e'
                      obtain ⟨b', o', e1, -, h3⟩ := h2 (fun e => by rw [e] at hy; simp at hy)
                      exact ⟨b', o', e'.1.trans e1, by have := h3 j _ hy 0 _ rfl; simpa using this⟩
                     have s56 : w5l.cell? ⟨g5, 6, none⟩ = some (.slice (some ⟨b6, o6, none⟩) kw U3) := keepc HB4J.out (blk_cell H5.out rfl)
                     have eyy : (y != y) = false := by simp
                     have ej : IntKind.i64.wrap ((j : Int) + 1) = (j : Int) + 1 := IntWalk.i64_in _ (by have := HK5.out; omega)
                     clear hy
                     as_aux_lemma =>
                      go_wp2_with fail
                      go_quiet (fail)
                      go_wp2_with fail
                      go_roundg (kw - (j + 1))
                      case measure => omega
                      case rel => exact ⟨j + 1, by omega, by omega, by go_num, HBJ.out.trans (by (repeat' (first | exact Below.refl _ _ | assumption | (with_reducible refine Below.drew ?_) | (with_reducible refine Below.setCell ?_ (by (first | (simp; done) | (simp; omega))) _) | (with_reducible refine below_drewN' ?_ _) | (refine Below.alloc ?_ (by (try simp only [World.size_alloc, World.size_drew, World.size_setCell]); omega) _) | (refine Below.trans ?_ (Below.mono (by assumption) (by (try simp only [World.size_alloc, World.size_drew, World.size_setCell]); omega))))))⟩
                    ·have hltjz : ¬ (j : Int) < (kw : Int) := by omega
                     have HFIN : Aside (Below w.heap.size w w5l) := HWB.out _ (HB4.out.trans (HB4J.out.mono HB4.out.size))
                     as_aux_lemma =>
                      go_wp2_with fail
                      refine (HK.out _).mono ?_
                      rintro e w9 ⟨rfl, hb9⟩
                      go_wp2
                      go_ret
                      exact ⟨rfl, HFIN.out.trans (hb9.mono HFIN.out.size)⟩
end
end Go.Proofs.Ytnhjoebdmmelaaa
