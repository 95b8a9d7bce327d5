/- Leg: parts Ki. -/
import Derived.BigQuiet
import Derived.Deep.DeepCutAuto
import Derived.Deep.CutBlock
import Derived.Test.YtpgamgbfjcmagaaMax
import Derived.Test.YtpgamgbfjcmagaaMay
import Derived.Test.YtpgamgbfjcmagaaMaz
import Derived.Test.YtpgamgbfjcmagaaMba
set_option linter.unusedVariables false
set_option linter.unusedSimpArgs false
namespace Go.Proofs.Ytpgamgbfjcmagaa
section
open Go.RowKit Go.Maps Go.Sort Go.Shelf Go.Deep
theorem putR4 {W : World} {g : Nat} {x0 x1 x2 x3 y0 y1 y2 y3 : Value} {T : TypeId} (h : W.heap[g]? = some (.cells #[y0, y1, y2, y3] T (0, 0))) : Put g (.cells #[x0, x1, x2, x3] T (0, 0)) W ((((W.setCell ⟨g, 0, none⟩ x0).setCell ⟨g, 1, none⟩ x1).setCell ⟨g, 2, none⟩ x2).setCell ⟨g, 3, none⟩ x3) := by
 have z0 := Go.Joins.block_setCell (i := 0) h x0
 have z1 := Go.Joins.block_setCell (i := 1) z0 x1
 have z2 := Go.Joins.block_setCell (i := 2) z1 x2
 have z3 := Go.Joins.block_setCell (i := 3) z2 x3
 refine ⟨rfl, rfl, rfl, by simp, z3, fun k hk => ?_⟩
 rw [Below.heap_setCell _ _ _ _ hk, Below.heap_setCell _ _ _ _ hk, Below.heap_setCell _ _ _ _ hk, Below.heap_setCell _ _ _ _ hk]
theorem putT8a {W : World} {g : Nat} {x0 x1 x2 x3 y0 y1 y2 y3 y4 y5 y6 y7 : Value} {T : TypeId} (h : W.heap[g]? = some (.cells #[y0, y1, y2, y3, y4, y5, y6, y7] T (0, 0))) : Put g (.cells #[x0, x1, x2, x3, y4, y5, y6, y7] T (0, 0)) W ((((W.setCell ⟨g, 0, none⟩ x0).setCell ⟨g, 1, none⟩ x1).setCell ⟨g, 2, none⟩ x2).setCell ⟨g, 3, none⟩ x3) := by
 have z0 := Go.Joins.block_setCell (i := 0) h x0
 have z1 := Go.Joins.block_setCell (i := 1) z0 x1
 have z2 := Go.Joins.block_setCell (i := 2) z1 x2
 have z3 := Go.Joins.block_setCell (i := 3) z2 x3
 refine ⟨rfl, rfl, rfl, by simp, z3, fun k hk => ?_⟩
 rw [Below.heap_setCell _ _ _ _ hk, Below.heap_setCell _ _ _ _ hk, Below.heap_setCell _ _ _ _ hk, Below.heap_setCell _ _ _ _ hk]
theorem putT8b {W : World} {g : Nat} {x0 x1 x2 x3 x4 x5 x6 x7 y4 y5 y6 y7 : Value} {T : TypeId} (h : W.heap[g]? = some (.cells #[x0, x1, x2, x3, y4, y5, y6, y7] T (0, 0))) : Put g (.cells #[x0, x1, x2, x3, x4, x5, x6, x7] T (0, 0)) W ((((W.setCell ⟨g, 4, none⟩ x4).setCell ⟨g, 5, none⟩ x5).setCell ⟨g, 6, none⟩ x6).setCell ⟨g, 7, none⟩ x7) := by
 have z4 := Go.Joins.block_setCell (i := 4) h x4
 have z5 := Go.Joins.block_setCell (i := 5) z4 x5
 have z6 := Go.Joins.block_setCell (i := 6) z5 x6
 have z7 := Go.Joins.block_setCell (i := 7) z6 x7
 refine ⟨rfl, rfl, rfl, by simp, z7, fun k hk => ?_⟩
 rw [Below.heap_setCell _ _ _ _ hk, Below.heap_setCell _ _ _ _ hk, Below.heap_setCell _ _ _ _ hk, Below.heap_setCell _ _ _ _ hk]
theorem Put.trans {g : Nat} {F F' : Obj} {W W' W2 : World} (h : Put g F W W') (h2 : Put g F' W' W2) : Put g F' W W2 := ⟨h2.os.trans h.os, h2.tape.trans h.tape, h2.output.trans h.output, h2.size.trans h.size, h2.self, fun k hk => (h2.block k hk).trans (h.block k hk)⟩
theorem Put.below {W W' : World} {g B : Nat} {F : Obj} (h : Put g F W W') (hB : B ≤ g) : Below B W W' := ⟨h.os, h.tape, h.output, by rw [h.size]; exact Nat.le_refl _, fun k hk => h.block k (by omega)⟩
set_option maxRecDepth 100000 in
set_option maxHeartbeats 16000000 in
theorem named_law (h : Hnd) (at_ which : Int) (vs vbd : Value) (w : World) (hv : Sl w 1 eU16 vs h.starts) (h16 : ∀ x ∈ h.starts, 0 ≤ x ∧ x ≤ 65535) (hg8 : 0 ≤ h.gates ∧ h.gates ≤ 255) (hr8 : 0 ≤ h.rounds ∧ h.rounds ≤ 255) (hf8 : 0 ≤ h.first ∧ h.first ≤ 255) (hb : Sl w 1 eU8 vbd h.beds) (hb8 : ∀ x ∈ h.beds, 0 ≤ x ∧ x ≤ 255) (hat : 0 ≤ at_ ∧ at_ ≤ 255) (hwh : 0 ≤ which ∧ which ≤ 255) :
  Calls Try.prog 9 #[hndV h vs vbd, .int .u8 at_, .int .u8 which] w (Ret (.bool true) w) := by
 have HK : Aside (∀ W, Calls Try.prog 13 #[] W (Ret (.bool true) W)) := fun W => known_any W
 have HBY : Aside ((∀ x ∈ h.starts, 0 ≤ x ∧ x ≤ 65535) ∧ (0 ≤ h.gates ∧ h.gates ≤ 255) ∧ (0 ≤ h.rounds ∧ h.rounds ≤ 255) ∧ (0 ≤ h.first ∧ h.first ≤ 255) ∧ (∀ x ∈ h.beds, 0 ≤ x ∧ x ≤ 255)) := ⟨h16, hg8, hr8, hf8, hb8⟩
 have HAW : Aside ((0 ≤ at_ ∧ at_ ≤ 255) ∧ (0 ≤ which ∧ which ≤ 255)) := ⟨hat, hwh⟩
 have hsl : (∃ a n c, vs = .slice a n c) ∧ (∃ a n c, vbd = .slice a n c) := by
  obtain ⟨a, c, e, -, -⟩ := hv
  obtain ⟨a', c', e', -, -⟩ := hb
  exact ⟨⟨_, _, _, e⟩, ⟨_, _, _, e'⟩⟩
 unfold hndV
 obtain ⟨wa, hwa⟩ : ∃ u, u = w.alloc (.cells #[vs, .int .u8 h.gates, .bool h.equal, .int .u8 h.rounds, .int .u8 h.first, vbd] 78) := ⟨_, rfl⟩
 have hba : Below w.heap.size w wa := by rw [hwa]; exact (Below.refl _ _).alloc (Nat.le_refl _) _
 have HBX : Aside (wa.heap[w.heap.size]? = some (.cells #[vs, .int .u8 h.gates, .bool h.equal, .int .u8 h.rounds, .int .u8 h.first, vbd] 78 (0, 0)) ∧ Below w.heap.size w wa) := ⟨by rw [hwa]; exact World.alloc_heap_new _ _, hba⟩
 have X1 : Aside (∀ W, Below wa.heap.size wa W → Calls Try.prog 33 #[.agg #[vs, .int .u8 h.gates, .bool h.equal, .int .u8 h.rounds, .int .u8 h.first, vbd]] W (HRulesOk h W)) := fun W hW => hrules_any h vs vbd W (hv.below (hba.trans (hW.mono hba.size))) h16 hg8 hr8 hf8 hsl.2
 have X2 : Aside (∀ W, Below wa.heap.size wa W → Calls Try.prog 34 #[.agg #[vs, .int .u8 h.gates, .bool h.equal, .int .u8 h.rounds, .int .u8 h.first, vbd]] W (TaleOk h W)) := fun W hW => tale_any h vs vbd W (hv.below (hba.trans (hW.mono hba.size))) h16 hg8 hr8 hf8 (hb.below (hba.trans (hW.mono hba.size))) hb8
 clear hv hb h16 hg8 hr8 hf8 hb8 hat hwh hsl hba
 go_enter Try.func9, Try.ntmps9
 go_upto_region 1 with (fail)
 rw [← hwa]
 clear hwa
 obtain ⟨B0, hB0⟩ : ∃ B0, w.heap.size = B0 := ⟨_, rfl⟩
 have HB0 : Aside (w.heap.size = B0) := hB0
 rw [hB0]
 clear hB0
 refine nam1 (B0 := B0) (by rw [← HB0.out]; exact HBX.out.1) X1 X2 (by kernel_rfl) (by rfl) (by rfl) ?rest1
 case rest1 =>
  intro ac w5 hL
  have e25 : ac.tmps.getD 25 undef = .agg #[vs, .int .u8 h.gates, .bool h.equal, .int .u8 h.rounds, .int .u8 h.first, vbd] := hL.new 0 _ 25 rfl rfl rfl
  have e27 : ac.tmps.getD 27 undef = .agg #[vs, .int .u8 h.gates, .bool h.equal, .int .u8 h.rounds, .int .u8 h.first, vbd] := hL.new 2 _ 27 rfl rfl rfl
  obtain ⟨vc, e26, hsc⟩ := hL.new 1 _ 26 rfl rfl rfl
  obtain ⟨Z, vv, nn, xx, e28, htl⟩ := hL.new 3 _ 28 rfl rfl rfl
  unfold legRV at e26
  obtain ⟨hb5, hAF, hDF⟩ := hL.cls
  obtain ⟨g7, e7, g7a, g7b, g7c⟩ := hAF _ (List.mem_cons_self ..) rfl
  obtain ⟨g8, e8, g8a, g8b, g8c⟩ := hAF _ (List.mem_cons_of_mem _ (List.mem_cons_self ..)) rfl
  have hne := hDF _ (List.mem_cons_self ..) _ (List.mem_cons_of_mem _ (List.mem_cons_self ..)) (show (4 : Nat) ≠ 5 by decide) rfl rfl
  change ac.tmps.getD 7 undef = _ at e7
  change ac.tmps.getD 8 undef = _ at e8
  change ac.tmps.getD 7 undef ≠ ac.tmps.getD 8 undef at hne
  rw [e7, e8] at hne
  have h78 : g7 ≠ g8 := fun e => hne (by rw [e])
  have x7 : w5.heap[g7]? = some (.cells #[.slice none 0 0, .int .i64 0, .int .i64 0, .bool false] 42 (0, 0)) := g7c
  have x8 : w5.heap[g8]? = some (.cells #[.slice none 0 0, .slice none 0 0, .slice none 0 0, .slice none 0 0, .slice none 0 0, .slice none 0 0, .int .i64 0, .bool false] 81 (0, 0)) := g8c
  obtain ⟨r, hr⟩ : ∃ r, hrulesF h = r := ⟨_, rfl⟩
  have HRR : Aside (hrulesF h = r) := hr
  rw [hr] at e26
  obtain ⟨rn, hrn⟩ : ∃ x, (talF h).g.round = x := ⟨_, rfl⟩
  obtain ⟨ov, hov⟩ : ∃ x, (talF h).g.over = x := ⟨_, rfl⟩
  have HRO : Aside ((talF h).g.round = rn ∧ (talF h).g.over = ov) := ⟨hrn, hov⟩
  rw [hrn, hov] at e28
  unfold tlC at e28
  obtain ⟨A0, C0, E0⟩ := owns_form3 (htl.rows.own 0 (by omega))
  change vv 0 = .slice A0 (nn 0) C0 at E0
  obtain ⟨A1, C1, E1⟩ := owns_form3 (htl.rows.own 1 (by omega))
  change vv 1 = .slice A1 (nn 1) C1 at E1
  obtain ⟨A2, C2, E2⟩ := owns_form3 (htl.rows.own 2 (by omega))
  change vv 2 = .slice A2 (nn 2) C2 at E2
  obtain ⟨A3, C3, E3⟩ := owns_form3 (htl.rows.own 3 (by omega))
  change vv 3 = .slice A3 (nn 3) C3 at E3
  obtain ⟨A4, C4, E4⟩ := owns_form3 (htl.rows.own 4 (by omega))
  change vv 4 = .slice A4 (nn 4) C4 at E4
  obtain ⟨A5, C5, E5⟩ := owns_form3 (htl.rows.own 5 (by omega))
  change vv 5 = .slice A5 (nn 5) C5 at E5
  rw [E0, E1, E2, E3, E4, E5] at e28
  have HTL : Aside (TlR wa Z (talF h).g (talF h).vs vv nn xx w5) := htl
  have HE5 : Aside (vv 5 = .slice A5 (nn 5) C5) := E5
  have HSC : Aside (w5.ownsRow 0 24 3 vc (hcnt h).length (((hcnt h).map encC).flatten)) := hsc
  obtain ⟨ac0, cc0, rfl⟩ := owns_form3 hsc
  obtain ⟨n, hn⟩ : ∃ n, (hcnt h).length = n := ⟨_, rfl⟩
  have HN : Aside ((hcnt h).length = n) := hn
  rw [hn] at e26 HSC
  have HX5 : Aside (w5.heap[g7]? = some (.cells #[.slice none 0 0, .int .i64 0, .int .i64 0, .bool false] 42 (0, 0)) ∧ w5.heap[g8]? = some (.cells #[.slice none 0 0, .slice none 0 0, .slice none 0 0, .slice none 0 0, .slice none 0 0, .slice none 0 0, .int .i64 0, .bool false] 81 (0, 0)) ∧ wa.heap.size ≤ g7 ∧ wa.heap.size ≤ g8 ∧ g7 ≠ g8 ∧ Below wa.heap.size wa w5) := ⟨x7, x8, g7a, g8a, h78, hb5⟩
  clear hn hsc htl E0 E1 E2 E3 E4 E5 hrn hov hr hne h78 g7a g7b g7c g8a g8b g8c hAF hDF hb5
  have es_ := hL.sets [25, 26, 27, 28, 7, 8] (by decide +kernel)
  rw [List.foldl_cons, List.foldl_cons, List.foldl_cons, List.foldl_cons, List.foldl_cons, List.foldl_cons, List.foldl_nil, e25, e26, e27, e28, e7, e8] at es_
  rw [es_]
  clear es_ hL e25 e26 e27 e28 e7 e8
  simp only [List.setIfInBounds_toArray, List.set_cons_zero, List.set_cons_succ]
  have za0 : w5.cell? ⟨g7, 0, none⟩ = some (.slice none 0 0) := blk_cell x7 rfl
  have za1 : w5.cell? ⟨g7, 1, none⟩ = some (.int .i64 0) := blk_cell x7 rfl
  have za2 : w5.cell? ⟨g7, 2, none⟩ = some (.int .i64 0) := blk_cell x7 rfl
  have za3 : w5.cell? ⟨g7, 3, none⟩ = some (.bool false) := blk_cell x7 rfl
  have zf7 := blk_free x7
  clear x7 x8
  refine wpAny_one (i := 6) (by decide +kernel) rfl rfl ?_
  unfold Oper.wp
  go_simp
  obtain ⟨w6, hw6⟩ : ∃ u, u = ((((w5.setCell ⟨g7, 0, none⟩ (.slice ac0 n cc0)).setCell ⟨g7, 1, none⟩ (.int .i64 r.first)).setCell ⟨g7, 2, none⟩ (.int .i64 r.rounds)).setCell ⟨g7, 3, none⟩ (.bool r.equal)) := ⟨_, rfl⟩
  have hp6 : Put g7 (.cells #[.slice ac0 n cc0, .int .i64 r.first, .int .i64 r.rounds, .bool r.equal] 42 (0, 0)) w5 w6 := by rw [hw6]; exact putR4 HX5.out.1
  rw [← hw6]
  clear hw6 za0 za1 za2 za3 zf7
  have x8 : w6.heap[g8]? = some (.cells #[.slice none 0 0, .slice none 0 0, .slice none 0 0, .slice none 0 0, .slice none 0 0, .slice none 0 0, .int .i64 0, .bool false] 81 (0, 0)) := (hp6.block g8 (Ne.symm HX5.out.2.2.2.2.1)).trans HX5.out.2.1
  have za0 : w6.cell? ⟨g8, 0, none⟩ = some (.slice none 0 0) := blk_cell x8 rfl
  have za1 : w6.cell? ⟨g8, 1, none⟩ = some (.slice none 0 0) := blk_cell x8 rfl
  have za2 : w6.cell? ⟨g8, 2, none⟩ = some (.slice none 0 0) := blk_cell x8 rfl
  have za3 : w6.cell? ⟨g8, 3, none⟩ = some (.slice none 0 0) := blk_cell x8 rfl
  have za4 : w6.cell? ⟨g8, 4, none⟩ = some (.slice none 0 0) := blk_cell x8 rfl
  have za5 : w6.cell? ⟨g8, 5, none⟩ = some (.slice none 0 0) := blk_cell x8 rfl
  have za6 : w6.cell? ⟨g8, 6, none⟩ = some (.int .i64 0) := blk_cell x8 rfl
  have za7 : w6.cell? ⟨g8, 7, none⟩ = some (.bool false) := blk_cell x8 rfl
  have zf8 := blk_free x8
  refine wpAny_one (i := 7) (by decide +kernel) rfl rfl ?_
  unfold Oper.wp
  go_simp
  refine wpAny_done (by decide +kernel) ?_ _
  obtain ⟨w1, hw1⟩ : ∃ u, u = ((((((((w6.setCell ⟨g8, 0, none⟩ (.slice A5 (nn 5) C5)).setCell ⟨g8, 1, none⟩ (.slice A0 (nn 0) C0)).setCell ⟨g8, 2, none⟩ (.slice A1 (nn 1) C1)).setCell ⟨g8, 3, none⟩ (.slice A2 (nn 2) C2)).setCell ⟨g8, 4, none⟩ (.slice A3 (nn 3) C3)).setCell ⟨g8, 5, none⟩ (.slice A4 (nn 4) C4)).setCell ⟨g8, 6, none⟩ (.int .i64 rn)).setCell ⟨g8, 7, none⟩ (.bool ov)) := ⟨_, rfl⟩
  have hp7 : Put g8 (.cells #[.slice A5 (nn 5) C5, .slice A0 (nn 0) C0, .slice A1 (nn 1) C1, .slice A2 (nn 2) C2, .slice A3 (nn 3) C3, .slice A4 (nn 4) C4, .int .i64 rn, .bool ov] 81 (0, 0)) w6 w1 := by rw [hw1]; exact (putT8a x8).trans (putT8b (putT8a x8).self)
  rw [← hw1]
  have hsz1 : w1.heap.size = w5.heap.size := by rw [hp7.size, hp6.size]
  have hkp : ∀ j, j ≠ g7 → j ≠ g8 → w1.heap[j]? = w5.heap[j]? := fun j h1 h2 => (hp7.block j h2).trans (hp6.block j h1)
  have HB1 : Aside (Below w.heap.size w w1) := (HBX.out.2.trans ((HX5.out.2.2.2.2.2.trans ((hp6.below HX5.out.2.2.1).trans (hp7.below HX5.out.2.2.2.1))).mono HBX.out.2.size))
  have HR7 : Aside (w1.heap[g7]? = some (.cells #[.slice ac0 n cc0, .int .i64 r.first, .int .i64 r.rounds, .bool r.equal] 42 (0, 0)) ∧ w1.heap[g8]? = some (.cells #[.slice A5 (nn 5) C5, .slice A0 (nn 0) C0, .slice A1 (nn 1) C1, .slice A2 (nn 2) C2, .slice A3 (nn 3) C3, .slice A4 (nn 4) C4, .int .i64 rn, .bool ov] 81 (0, 0))) := ⟨(hp7.block g7 HX5.out.2.2.2.2.1).trans hp6.self, hp7.self⟩
  have HBS : Aside (0 = 0) := rfl
  clear hw1 x8 za0 za1 za2 za3 za4 za5 za6 za7 zf8
  have hty : ∀ (j : Nat) (cs : Array Value) (T : TypeId), w5.heap[j]? = some (Obj.cells cs T (0, 0)) → T ≠ 42 → T ≠ 81 → w1.heap[j]? = w5.heap[j]? := fun j cs T hj h1 h2 => hkp j (fun e => by rw [e, HX5.out.1] at hj; injection hj with hj; injection hj with _ hj; exact h1 hj.symm) (fun e => by rw [e, HX5.out.2.1] at hj; injection hj with hj; injection hj with _ hj; exact h2 hj.symm)
  have HT1 : Aside (TlR wa Z (talF h).g (talF h).vs vv nn xx w1) := HTL.out.keep (HX5.out.2.2.2.2.2.trans ((hp6.below HX5.out.2.2.1).trans (hp7.below HX5.out.2.2.2.1))) (by rw [hsz1]; exact Nat.le_refl _) (fun j cs T hj hT => hty j cs T hj (by rcases hT with rfl | rfl | rfl | rfl <;> decide) (by rcases hT with rfl | rfl | rfl | rfl <;> decide))
  have HSC1 : Aside (Sl w1 3 encC (.slice ac0 n cc0) (hcnt h)) := by
   have h5 := HSC.out
   rw [← HN.out] at h5 ⊢
   exact sl_owns (fun _ => rfl) (by rw [hcnt_len]; omega) (ownsRow_heap h5 (fun q hq => by obtain ⟨cs, e⟩ := own_blk h5 hq; exact hty q cs _ e (by decide) (by decide)))
  have HWB : Aside (∀ W, Below w1.heap.size w1 W → Below w.heap.size w W) := fun W hW => HB1.out.trans (hW.mono HB1.out.size)
  clear hty hkp hsz1 hp6 hp7 HBS
  obtain ⟨m, hm⟩ : ∃ m, (talF h).vs.length = m := ⟨_, rfl⟩
  have HTF : Aside ((hcnt h ≠ [] → r.Ok ∧ vleg r = true ∧ talF h = talK r h.beds 60) ∧ (talF h).vs.length = m ∧ m ≤ 60 ∧ ∀ x ∈ (talF h).vs, x.2.length ≤ 3) := nam_facts HBY.out HRR.out hm
  obtain ⟨lv, v1, v2, v3, v4, v5, v6⟩ := tlr_vis HT1.out (by rw [hm]; have := HTF.out.2.2.1; omega) (fun x hx => by have := HTF.out.2.2.2 x hx; omega)
  rw [hm] at v4 v5 v6
  have hn5 : nn 5 = m := by
   obtain ⟨a, c, e⟩ := v5
   rw [HE5.out] at e
   simp only [Value.slice.injEq] at e
   exact e.2.1
  rw [hn5] at HR7
  rw [HE5.out, hn5] at v1 v6
  have HLV : Aside (Sl w1 2 encV (.slice A5 m C5) lv ∧ (∀ x ∈ lv, Sl w1 1 eI x.2.1 x.2.2) ∧ lv.map prV = (talF h).vs ∧ lv.length = m) := ⟨v1, v2, v3, v4⟩
  have HLB : Aside (0 < m → ∃ b c, A5 = some ⟨b, 0, none⟩ ∧ C5 = c ∧ m ≤ c ∧ b < w1.heap.size) := by
   intro h0
   obtain ⟨b, c, e, e2, e3⟩ := v6 h0
   simp only [Value.slice.injEq, true_and] at e
   exact ⟨b, c, e.1, e.2, e2, e3⟩
  clear v1 v2 v3 v4 v5 v6 hn5 hm HTL HE5 HSC
  have k70 : w1.cell? ⟨g7, 0, none⟩ = some (.slice ac0 n cc0) := blk_cell HR7.out.1 rfl
  have k80 : w1.cell? ⟨g8, 0, none⟩ = some (.slice A5 m C5) := blk_cell HR7.out.2 rfl
  have HCUR : Aside (Below w1.heap.size w1 w1) := Below.refl _ _
  by_cases hn0 : n = 0
  ·have hnz : ((n : Int) == 0) = true := by simp; omega
   clear hn0
   go_wp2_with fail
   refine (HK.out _).mono ?_
   rintro e w9 ⟨rfl, hb9⟩
   go_wp2
   go_ret
   exact ⟨rfl, HWB.out _ (HCUR.out.trans (hb9.mono HCUR.out.size))⟩
  ·have hnz : ((n : Int) == 0) = false := by simp; omega
   by_cases hm0 : m = 0
   ·have hmz : ((m : Int) == 0) = true := by simp; omega
    clear hm0
    go_wp2_with fail
    refine (HK.out _).mono ?_
    rintro e w9 ⟨rfl, hb9⟩
    go_wp2
    go_ret
    exact ⟨rfl, HWB.out _ (HCUR.out.trans (hb9.mono HCUR.out.size))⟩
   ·have hmz : ((m : Int) == 0) = false := by simp; omega
    have HNM : Aside (0 < n ∧ 0 < m) := by show _ ∧ _; omega
    obtain ⟨b, cv, rfl, rfl, hb1⟩ : ∃ b c, A5 = some ⟨b, 0, none⟩ ∧ C5 = c ∧ Aside (m ≤ c ∧ b < w1.heap.size) := by obtain ⟨b, c, e1, e2, e3⟩ := HLB.out HNM.out.2; exact ⟨b, c, e1, e2, e3⟩
    obtain ⟨i0, hi0⟩ : ∃ i : Nat, (i : Int) = at_ % (m : Int) := ⟨(at_ % (m : Int)).toNat, Int.toNat_of_nonneg (Int.emod_nonneg _ (by have := HNM.out.2; omega))⟩
    have him : i0 < m := by have := Int.emod_lt_of_pos at_ (show (0 : Int) < (m : Int) by have := HNM.out.2; omega); omega
    have HI0 : Aside (i0 < m ∧ m ≤ 60) := ⟨him, HTF.out.2.2.1⟩
    have e4a : IntKind.i64.wrap at_ = at_ := IntWalk.i64_in _ (by have := HAW.out.1; omega)
    have t4 : Int.tmod at_ (m : Int) = (i0 : Int) := by rw [hi0, Int.tmod_eq_emod_of_nonneg HAW.out.1.1]
    have e4b : IntKind.i64.wrap (i0 : Int) = (i0 : Int) := IntWalk.i64_in _ (by have := HI0.out; omega)
    have hmn : ¬ (m : Int) = 0 := by have := HNM.out.2; omega
    have hiz : (i0 : Int) < (m : Int) := by omega
    obtain ⟨⟨p0, vb, bs⟩, hx⟩ : ∃ x, lv[i0]? = some x := ⟨_, List.getElem?_eq_getElem (by rw [HLV.out.2.2.2]; exact him)⟩
    have HX : Aside (lv[i0]? = some (p0, vb, bs)) := hx
    have kx : w1.cell? ⟨b, 0 + i0 * 2, none⟩ = some (.int .i64 p0) ∧ w1.cell? ⟨b, 0 + i0 * 2 + 1, none⟩ = some vb := by
     obtain ⟨a', c', e0, -, h2⟩ := HLV.out.1
     obtain ⟨b', o', e1, -, h3⟩ := h2 (fun e => by rw [e] at hx; simp at hx)
     simp only [Value.slice.injEq] at e0
     rw [e1] at e0
     simp only [Option.some.injEq, Addr.mk.injEq, and_true] at e0
     obtain ⟨⟨rfl, rfl⟩, -⟩ := e0
     exact ⟨by have := h3 i0 _ hx 0 _ rfl; simpa using this, by have := h3 i0 _ hx 1 _ rfl; simpa using this⟩
    have hxs := HLV.out.2.1 _ (List.mem_of_getElem? hx)
    obtain ⟨a3, c3, rfl⟩ : ∃ a c, vb = .slice a bs.length c := by obtain ⟨a, c, e, -⟩ := hxs; exact ⟨a, c, e⟩
    obtain ⟨dl, hdl⟩ : ∃ d, bs.length = d := ⟨_, rfl⟩
    have HDL : Aside (bs.length = dl) := hdl
    simp only [] at hxs
    rw [hdl] at hxs kx HX
    have HXS : Aside (Sl w1 1 eI (.slice a3 dl c3) bs) := hxs
    obtain ⟨kx0, kx1⟩ := kx
    clear hx hxs hdl hi0 hn0 hm0
    have kx0' : w1.cell? ⟨b, i0 * 2, none⟩ = some (.int .i64 p0) := by rw [← Nat.zero_add (i0 * 2)]; exact kx0
    have kx1' : w1.cell? ⟨b, i0 * 2 + 1, none⟩ = some (.slice a3 dl c3) := by rw [← Nat.zero_add (i0 * 2)]; exact kx1
    go_upto_region 6 with (fail)
    obtain ⟨g10, hg10⟩ : ∃ g, w1.heap.size = g := ⟨_, rfl⟩
    obtain ⟨w2, hw2⟩ : ∃ u, u = w1.alloc (.cells #[.int .i64 p0, .slice a3 dl c3] 84) := ⟨_, rfl⟩
    have hb2 : Below w1.heap.size w1 w2 := by rw [hw2]; exact (Below.refl _ _).alloc (Nat.le_refl _) _
    have HG10 : Aside (w2.heap[g10]? = some (.cells #[.int .i64 p0, .slice a3 dl c3] 84 (0, 0)) ∧ w1.heap.size = g10 ∧ g10 < w2.heap.size ∧ Below w1.heap.size w1 w2) := ⟨by rw [hw2, ← hg10]; exact World.alloc_heap_new _ _, hg10, by rw [hw2, ← hg10]; simp, hb2⟩
    rw [← hw2, hg10]
    clear hw2 hg10 kx0 kx1 kx0' kx1' k70 k80 e4a t4 e4b
    have k0 : w2.cell? ⟨g10, 0, none⟩ = some (.int .i64 p0) := blk_cell HG10.out.1 rfl
    have k1 : w2.cell? ⟨g10, 1, none⟩ = some (.slice a3 dl c3) := blk_cell HG10.out.1 rfl
    have HBD : Aside ((p0 : Int) = (talP r i0 : Int) ∧ bs = (talT r h.beds (talK r h.beds i0) i0).1 ∧ (talK r h.beds i0).g.over = false ∧ 0 < dl ∧ dl ≤ 3 ∧ ∀ x ∈ bs, vbed x = true) := nam_visit HBY.out HRR.out HTF.out.1 (by intro e; have := HN.out; rw [e] at this; have := HNM.out.1; simp at *; omega) HLV.out.2.2.1 HX.out HDL.out
    have HXS2 : Aside (Sl w2 1 eI (.slice a3 dl c3) bs) := HXS.out.below hb2
    clear hb2
    refine nam6 k0 k1 HXS2 ⟨HDL.out, HBD.out.2.2.2.1, by have := HBD.out.2.2.2.2.1; omega⟩ (by kernel_rfl) (by rfl) (by rfl) ?rest6
    case rest6 =>
     intro ac w3 hL
     have e51 : ac.tmps.getD 51 undef = .pointer (some ⟨g10, 0, none⟩) := hL.new 0 _ 51 rfl rfl rfl
     have e52 : ac.tmps.getD 52 undef = .int .i64 p0 := hL.new 1 _ 52 rfl rfl rfl
     obtain ⟨y53, e53⟩ : ∃ x, ac.tmps.getD 53 undef = x := ⟨_, rfl⟩
     have e54 : ac.tmps.getD 54 undef = .pointer (some ⟨g10, 1, none⟩) := hL.new 3 _ 54 rfl rfl rfl
     have e55 : ac.tmps.getD 55 undef = .slice a3 dl c3 := hL.new 4 _ 55 rfl rfl rfl
     obtain ⟨y56, e56⟩ : ∃ x, ac.tmps.getD 56 undef = x := ⟨_, rfl⟩
     obtain ⟨u, e57, hob⟩ := hL.new 6 _ 57 rfl rfl rfl
     obtain ⟨hb3, hAF, -⟩ := hL.cls
     obtain ⟨g11, e11, g11a, g11b, g11c⟩ := hAF _ (List.mem_cons_self ..) rfl
     change ac.tmps.getD 11 undef = _ at e11
     have x11 : w3.heap[g11]? = some (.cells #[.int .i64 0, .slice none 0 0] 84 (0, 0)) := g11c
     obtain ⟨gu, cu, csu, rfl, hlu, hgu, hcu⟩ := hob.2
     rw [HDL.out] at e57 hob
     have HOB : Aside (w3.ownsRow w2.heap.size 34 1 (.slice (some ⟨gu, 0, none⟩) dl cu) dl ((bs.map eI).flatten)) := by have h1 := hob.1; rw [HDL.out] at h1; exact h1
     have HX11 : Aside (w3.heap[g11]? = some (.cells #[.int .i64 0, .slice none 0 0] 84 (0, 0)) ∧ w2.heap.size ≤ g11 ∧ g11 < w3.heap.size ∧ Below w2.heap.size w2 w3) := ⟨x11, g11a, g11b, hb3⟩
     clear hob hlu hgu hcu hb3 hAF g11a g11b g11c
     have es_ := hL.sets [51, 52, 53, 54, 55, 56, 57, 11] (by decide +kernel)
     rw [List.foldl_cons, List.foldl_cons, List.foldl_cons, List.foldl_cons, List.foldl_cons, List.foldl_cons, List.foldl_cons, List.foldl_cons, List.foldl_nil, e51, e52, e53, e54, e55, e56, e57, e11] at es_
     rw [es_]
     clear es_ hL e51 e52 e53 e54 e55 e56 e57 e11
     simp only [List.setIfInBounds_toArray, List.set_cons_zero, List.set_cons_succ]
     have za0 : w3.cell? ⟨g11, 0, none⟩ = some (.int .i64 0) := blk_cell x11 rfl
     have za1 : w3.cell? ⟨g11, 1, none⟩ = some (.slice none 0 0) := blk_cell x11 rfl
     have zf := blk_free x11
     clear x11 k0 k1
     refine wpAny_one (i := 8) (by decide +kernel) rfl rfl ?_
     unfold Oper.wp
     go_simp
     refine wpAny_one (i := 9) (by decide +kernel) rfl rfl ?_
     unfold Oper.wp
     go_simp
     refine wpAny_one (i := 10) (by decide +kernel) rfl rfl ?_
     unfold Oper.wp
     go_simp
     refine wpAny_done (by decide +kernel) ?_ _
     obtain ⟨w4, hw4⟩ : ∃ u, u = ((w3.setCell ⟨g11, 0, none⟩ (.int .i64 p0)).setCell ⟨g11, 1, none⟩ (.slice (some ⟨gu, 0, none⟩) dl cu)) := ⟨_, rfl⟩
     have hp4 : Put g11 (.cells #[.int .i64 p0, .slice (some ⟨gu, 0, none⟩) dl cu] 84 (0, 0)) w3 w4 := by rw [hw4]; exact put2t HX11.out.1
     have hng : (Value.slice (some ⟨gu, 0, none⟩) dl cu).ownBlock ≠ some g11 := own_ty_ne HOB.out HX11.out.1 (by decide)
     rw [← hw4]
     have HG4 : Aside (w4.heap[g11]? = some (.cells #[.int .i64 p0, .slice (some ⟨gu, 0, none⟩) dl cu] 84 (0, 0)) ∧ w4.heap[g10]? = some (.cells #[.int .i64 p0, .slice a3 dl c3] 84 (0, 0)) ∧ w4.ownsRow w2.heap.size 34 1 (.slice (some ⟨gu, 0, none⟩) dl cu) dl ((bs.map eI).flatten) ∧ Below w1.heap.size w1 w4 ∧ gu ≠ g11 ∧ w1.heap.size ≤ g10 ∧ g10 < w2.heap.size ∧ w2.heap.size ≤ g11 ∧ w1.heap.size ≤ w2.heap.size) := by
      have h1 := HG10.out
      have h2 := HX11.out
      have h3 := h1.2.2.2.size
      refine ⟨hp4.self, (hp4.block g10 (by omega)).trans ((h2.2.2.2.block g10 h1.2.2.1).trans h1.1), ownsRow_heap HOB.out (fun q hq => hp4.block q (fun e => hng (by rw [← e]; exact hq))), ?_, fun e => hng (by rw [e]; rfl), by omega, by omega, h2.2.1, h3⟩
      exact h1.2.2.2.trans ((h2.2.2.2.trans (hp4.below h2.2.1)).mono h3)
     clear hw4 hp4 hng za0 za1 zf
     clear HX11 HOB HG10 HXS2 HXS HX
     have t5 : Int.tmod which 5 = which % 5 := Int.tmod_eq_emod_of_nonneg HAW.out.2.1
     obtain ⟨q5, hq5⟩ : ∃ q, which % 5 = q := ⟨_, rfl⟩
     have HQ5 : Aside (which % 5 = q5 ∧ 0 ≤ q5 ∧ q5 < 5) := ⟨hq5, by omega, by omega⟩
     rw [hq5] at t5
     have w5q : IntKind.u8.wrap q5 = q5 := IntWalk.u8_in _ (by have := HQ5.out; omega)
     clear hq5
     go_upto_block 0 with (fail)
     go_cut [9, 12, 13] from 51 to 122 (fun s9 s12 s13 wf => ∃ (i1 : Nat) (d er : Int) (bad : Int × List Int), s9 = .int .i64 (i1 : Int) ∧ s12 = .int .i64 er ∧ s13 = .int .i64 d ∧ Aside (NamB r h.beds w1 g11 m i1 d er bad wf))
     case first =>
      rename_i J' K' hJ' hK'
      have kb0 : w4.cell? ⟨g10, 0, none⟩ = some (.int .i64 p0) := blk_cell HG4.out.2.1 rfl
      have kb1 : w4.cell? ⟨g10, 1, none⟩ = some (.slice a3 dl c3) := blk_cell HG4.out.2.1 rfl
      have ka0 : w4.cell? ⟨g11, 0, none⟩ = some (.int .i64 p0) := blk_cell HG4.out.1 rfl
      have ka1 : w4.cell? ⟨g11, 1, none⟩ = some (.slice (some ⟨gu, 0, none⟩) dl cu) := blk_cell HG4.out.1 rfl
      have kaf := blk_free HG4.out.1
      have HR4 : Aside (w4.heap[g7]? = some (.cells #[.slice ac0 n cc0, .int .i64 r.first, .int .i64 r.rounds, .bool r.equal] 42 (0, 0)) ∧ w4.heap[g8]? = some (.cells #[.slice (some ⟨b, 0, none⟩) m C5, .slice A0 (nn 0) C0, .slice A1 (nn 1) C1, .slice A2 (nn 2) C2, .slice A3 (nn 3) C3, .slice A4 (nn 4) C4, .int .i64 rn, .bool ov] 81 (0, 0))) := ⟨(HG4.out.2.2.2.1.block _ (Array.getElem?_eq_some_iff.1 HR7.out.1).1).trans HR7.out.1, (HG4.out.2.2.2.1.block _ (Array.getElem?_eq_some_iff.1 HR7.out.2).1).trans HR7.out.2⟩
      have k70 : w4.cell? ⟨g7, 0, none⟩ = some (.slice ac0 n cc0) := blk_cell HR4.out.1 rfl
      have k80 : w4.cell? ⟨g8, 0, none⟩ = some (.slice (some ⟨b, 0, none⟩) m C5) := blk_cell HR4.out.2 rfl
      have k87 : w4.cell? ⟨g8, 7, none⟩ = some (.bool ov) := blk_cell HR4.out.2 rfl
      have q5s : q5 = 0 ∨ q5 = 1 ∨ q5 = 2 ∨ q5 = 3 ∨ q5 = 4 := by have := HQ5.out; omega
      have HRB : Aside (RowB w4 1 eI 34 (.slice (some ⟨gu, 0, none⟩) dl cu) bs) := rowB_own HG4.out.2.2.1 (fun _ => rfl) HDL.out.symm HBD.out.2.2.2.1 (by have := HDL.out; have := HBD.out; omega)
      have HCN : Aside (r.counts.length = n ∧ r.Ok) := by
       have hne : hcnt h ≠ [] := fun e => by have := HN.out; rw [e] at this; have := HNM.out.1; simp at *; omega
       exact ⟨by rw [← HRR.out]; exact HN.out, (HTF.out.1 hne).1⟩
      have ewh : IntKind.i64.wrap which = which := IntWalk.i64_in _ (by have := HAW.out; omega)
      have tq : Int.tdiv which 5 = which / 5 := Int.tdiv_eq_ediv_of_nonneg HAW.out.2.1
      obtain ⟨k5, hk5⟩ : ∃ k, which / 5 = k := ⟨_, rfl⟩
      have HK5 : Aside (which / 5 = k5 ∧ 0 ≤ k5 ∧ k5 ≤ 51) := ⟨hk5, by have := HAW.out; omega, by have := HAW.out; omega⟩
      rw [hk5] at tq
      have ewk : IntKind.i64.wrap k5 = k5 := IntWalk.i64_in _ (by have := HK5.out; omega)
      clear hk5
      have HPN : Aside (0 ≤ p0 ∧ p0 < (n : Int) ∧ n ≤ 5) := by
       have h1 := HBD.out.1
       have h2 := (talP_lt HCN.out.2 i0).1
       rw [HCN.out.1] at h2
       have h3 := hcnt_len h
       rw [HN.out] at h3
       show _ ∧ _ ∧ _
       omega
      rcases q5s with rfl | rfl | rfl | rfl | rfl
      ·-- @@c0
       have ea : IntKind.i64.wrap (p0 + 1) = p0 + 1 := IntWalk.i64_in _ (by have := HPN.out; omega)
       have eb : IntKind.i64.wrap (p0 + 1 + k5) = p0 + 1 + k5 := IntWalk.i64_in _ (by have := HPN.out; have := HK5.out; omega)
       obtain ⟨p1, hp1⟩ : ∃ p, (p0 + 1 + k5) % (n : Int) = p := ⟨_, rfl⟩
       have tp : Int.tmod (p0 + 1 + k5) (n : Int) = p1 := by rw [Int.tmod_eq_emod_of_nonneg (by have := HPN.out; have := HK5.out; omega), hp1]
       have HP1 : Aside (0 ≤ p1 ∧ p1 < (n : Int)) := by rw [← hp1]; exact ⟨Int.emod_nonneg _ (by have := HPN.out; omega), Int.emod_lt_of_pos _ (by have := HPN.out; omega)⟩
       have ec : IntKind.i64.wrap p1 = p1 := IntWalk.i64_in _ (by have := HP1.out; have := HPN.out; omega)
       have hnn : ¬ (n : Int) = 0 := by have := HPN.out; omega
       have hgne : g10 ≠ g11 := by have := HG4.out; omega
       have hgne7 : g7 ≠ g11 := by have := HG4.out; have := (Array.getElem?_eq_some_iff.1 HR7.out.1).1; omega
       clear hp1
       by_cases hpe : p1 = p0
       ·have hbe : (p1 == p0) = true := by simpa using hpe
        have HPE : Aside (p1 = p0) := hpe
        clear hpe
        go_wp2_with fail
        go_meet
        refine ⟨i0, -1, 2, ((n : Int), bs), rfl, rfl, rfl, ?_⟩
        exact NamB.of (HG4.out.2.2.2.1.setCell (p := ⟨g11, 0, none⟩) (by show _ ≤ g11; have := HG4.out; omega) _ |>.setCell (p := ⟨g11, 0, none⟩) (by show _ ≤ g11; have := HG4.out; omega) _) (Go.Joins.block_setCell (i := 0) (Go.Joins.block_setCell (i := 0) HG4.out.1 _) _) ((HRB.out.rt (RTy.put1 HG4.out.1) (by decide)).rt (RTy.put1 (Go.Joins.block_setCell (i := 0) HG4.out.1 _)) (by decide)) (by omega) (by decide) (by rw [← HCN.out.1]; exact nam_arg HBD.out.2.2.1 _) (by show bs.length ≤ 4; rw [HDL.out]; have := HBD.out; omega) (fun x hx => vbed_i64 (HBD.out.2.2.2.2.2 x hx))
       ·have hbe : (p1 == p0) = false := by simpa using hpe
        have HPE : Aside (p1 ≠ p0) := hpe
        clear hpe
        go_wp2_with fail
        go_meet
        refine ⟨i0, -1, 30, (p1, bs), rfl, rfl, rfl, ?_⟩
        exact NamB.of (HG4.out.2.2.2.1.setCell (p := ⟨g11, 0, none⟩) (by show _ ≤ g11; have := HG4.out; omega) _) (Go.Joins.block_setCell (i := 0) HG4.out.1 _) (HRB.out.rt (RTy.put1 HG4.out.1) (by decide)) (by omega) (by decide) (nam_turn HCN.out.2 HBY.out.2.2.2.2 HBD.out.2.2.1 HP1.out.1 (by rw [HCN.out.1]; exact HP1.out.2) (by rw [← HBD.out.1]; exact HPE.out) _) (by show bs.length ≤ 4; rw [HDL.out]; have := HBD.out; omega) (fun x hx => vbed_i64 (HBD.out.2.2.2.2.2 x hx))
      ·-- @@c1
       obtain ⟨d1, rfl⟩ : ∃ d1, dl = d1 + 1 := ⟨dl - 1, by have := HBD.out; omega⟩
       have HCAP : Aside (d1 + 1 ≤ cu) := by
        rcases HG4.out.2.2.1.2 with ⟨e1, _⟩ | ⟨g', cap, cur, e1, h3, h4, h5, -⟩
        ·cases e1
        ·simp only [Value.slice.injEq] at e1
         show _ ≤ _
         omega
       have hd0 : (0 : Int) ≤ (d1 : Int) := by omega
       have hdc : (d1 : Int) ≤ (cu : Int) := by have := HCAP.out; omega
       have hdc2 : d1 ≤ cu := by have := HCAP.out; omega
       have e1a : IntKind.i64.wrap ((d1 : Int) + 1 - 1) = (d1 : Int) := by rw [IntWalk.i64_in _ (by have := HBD.out; omega)]; omega
       have e1b : IntKind.i64.wrap (d1 : Int) = (d1 : Int) := IntWalk.i64_in _ (by have := HBD.out; omega)
       go_wp2_with fail
       go_meet
       refine ⟨i0, -1, 31, (p0, bs.dropLast), rfl, rfl, rfl, ?_⟩
       exact NamB.of (HG4.out.2.2.2.1.setCell (p := ⟨g11, 1, none⟩) (by show _ ≤ g11; have := HG4.out; omega) _) (Go.Joins.block_setCell (i := 1) HG4.out.1 _) ((rowB_pre HRB.out).rt (RTy.put1 HG4.out.1) (by decide)) (by have := HI0.out; omega) (by decide) (by rw [HBD.out.1, HBD.out.2.1]; exact nam_short HCN.out.2 HBY.out.2.2.2.2 HBD.out.2.2.1 (by rw [← HBD.out.2.1]; intro e; have := HDL.out; rw [e] at this; simp at this)) (by rw [List.length_dropLast, HDL.out]; have := HBD.out; omega) (fun x hx => vbed_i64 (HBD.out.2.2.2.2.2 x (List.dropLast_subset _ hx)))
      ·-- @@c2
       have hgu := HG4.out.2.2.1.lt gu rfl
       go_upto_region 18 with (fail)
       refine nam18 (w := w1) (B := w2.heap.size) (gu := gu) (nu := dl) (cu := cu) (xs := (bs.map eI).flatten) (p := p0) ⟨HG4.out.2.2.2.1, HG4.out.2.2.2.2.2.2.2.2, hgu.2, by have := HBD.out; omega, by have := HG4.out; omega⟩ HG4.out.2.2.1 HG4.out.1 kb1 ⟨by have := HG4.out; omega, by have := HG4.out; omega⟩ (by kernel_rfl) (by rfl) (by rfl) (by rfl) ?rest18
       case rest18 =>
        intro ac w5 hL
        have e102 : ac.tmps.getD 102 undef = .pointer (some ⟨g11, 1, none⟩) := hL.new 0 _ 102 rfl rfl rfl
        have e103 : ac.tmps.getD 103 undef = .slice (some ⟨gu, 0, none⟩) dl cu := hL.new 1 _ 103 rfl rfl rfl
        obtain ⟨y104, e104⟩ : ∃ x, ac.tmps.getD 104 undef = x := ⟨_, rfl⟩
        obtain ⟨y105, e105⟩ : ∃ x, ac.tmps.getD 105 undef = x := ⟨_, rfl⟩
        have e106 : ac.tmps.getD 106 undef = .pointer (some ⟨g10, 1, none⟩) := hL.new 4 _ 106 rfl rfl rfl
        have e107 : ac.tmps.getD 107 undef = .slice a3 dl c3 := hL.new 5 _ 107 rfl rfl rfl
        have e108 : ac.tmps.getD 108 undef = .int .i64 (dl : Int) := hL.new 6 _ 108 rfl rfl rfl
        have e109 : ac.tmps.getD 109 undef = .pointer (some ⟨g11, 1, none⟩) := hL.new 7 _ 109 rfl rfl rfl
        have e12 : ac.tmps.getD 12 undef = .int .i64 32 := hL.new 9 _ 12 rfl rfl rfl
        have e13 : ac.tmps.getD 13 undef = .int .i64 (dl : Int) := hL.new 10 _ 13 rfl rfl rfl
        have hy := hL.cls.yes rfl
        have hbd : w5.heap[g11]? = some (.cells #[.int .i64 p0, ac.tmps.getD 105 undef] 84 (0, 0)) := hL.cls.bad
        have hbl := hL.cls.bel
        rw [e105] at hy hbd
        have HYB : Aside (w5.ownsRow w2.heap.size 34 1 y105 (dl + 1) (((bs ++ [0]).map eI).flatten) ∧ w5.heap[g11]? = some (.cells #[.int .i64 p0, y105] 84 (0, 0)) ∧ Below w1.heap.size w1 w5) := ⟨by rw [List.map_append, List.flatten_append]; exact hy, hbd, hbl⟩
        clear hy hbd hbl
        have es_ := hL.sets [102, 103, 104, 105, 106, 107, 108, 109, 12, 13] (by decide +kernel)
        rw [List.foldl_cons, List.foldl_cons, List.foldl_cons, List.foldl_cons, List.foldl_cons, List.foldl_cons, List.foldl_cons, List.foldl_cons, List.foldl_cons, List.foldl_cons, List.foldl_nil, e102, e103, e104, e105, e106, e107, e108, e109, e12, e13] at es_
        rw [es_]
        clear es_ hL e102 e103 e104 e105 e106 e107 e108 e109 e12 e13
        refine wpAny_done (by decide +kernel) ?_ _
        simp only [List.setIfInBounds_toArray, List.set_cons_zero, List.set_cons_succ]
        clear kb0 kb1 ka0 ka1 kaf k70 k80 k87
        go_wp2_with fail
        go_meet
        refine ⟨i0, (dl : Int), 32, (p0, bs ++ [0]), rfl, rfl, rfl, ?_⟩
        exact NamB.of HYB.out.2.2 HYB.out.2.1 (rowB_own HYB.out.1 (fun _ => rfl) (by rw [List.length_append, HDL.out]; rfl) (Nat.succ_pos _) (by rw [List.length_append, HDL.out]; have := HBD.out; simp; omega)) (by have := HI0.out; omega) (by decide) (by have := nam_more HCN.out.2 HBY.out.2.2.2.2 HBD.out.2.2.1; rw [← HBD.out.1, ← HBD.out.2.1, HDL.out] at this; exact this) (by rw [List.length_append, HDL.out]; have := HBD.out; simp; omega) (fun x hx => by rcases List.mem_append.1 hx with hx | hx; exact vbed_i64 (HBD.out.2.2.2.2.2 x hx); simp at hx; subst hx; omega)
      ·-- @@c3
       obtain ⟨j, hj⟩ : ∃ j : Nat, (j : Int) = k5 % (dl : Int) := ⟨(k5 % (dl : Int)).toNat, Int.toNat_of_nonneg (Int.emod_nonneg _ (by have := HBD.out; omega))⟩
       have hjl : j < dl := by have := Int.emod_lt_of_pos k5 (show (0 : Int) < (dl : Int) by have := HBD.out; omega); omega
       have HJ : Aside (j < dl) := hjl
       have hjz : (j : Int) < (dl : Int) := by omega
       have tj : Int.tmod k5 (dl : Int) = (j : Int) := by rw [hj, Int.tmod_eq_emod_of_nonneg (by have := HK5.out; omega)]
       have ej : IntKind.i64.wrap (j : Int) = (j : Int) := IntWalk.i64_in _ (by have := HBD.out; omega)
       have hdn : ¬ (dl : Int) = 0 := by have := HBD.out; omega
       have kj : ∃ x, w4.cell? ⟨gu, j, none⟩ = some x := by
        obtain ⟨g9, c9, e9, f9⟩ := own_at (p := j) HG4.out.2.2.1 hjl
        simp only [Value.slice.injEq, Option.some.injEq, Addr.mk.injEq, and_true] at e9
        obtain ⟨rfl, -⟩ := e9
        have hl : ((bs.map eI).flatten).length = dl := by rw [flat_len eI 1 (fun _ => rfl), HDL.out, Nat.mul_one]
        exact ⟨_, f9 j _ (List.getElem?_eq_getElem (by rw [hl]; exact hjl))⟩
       obtain ⟨xj, kj⟩ := kj
       have kjf := own_free HG4.out.2.2.1 rfl
       have HGU : Aside (w1.heap.size ≤ gu) := by have := (HG4.out.2.2.1.lt gu rfl).1; have := HG4.out; show _ ≤ _; omega
       clear hj hjl
       go_wp2_with fail
       go_meet
       refine ⟨i0, (j : Int), 2, (p0, bs.set j 121), rfl, rfl, rfl, ?_⟩
       exact NamB.of (HG4.out.2.2.2.1.setCell (p := ⟨gu, j, none⟩) HGU.out _) ((Below.heap_setCell _ _ _ _ (Ne.symm HG4.out.2.2.2.2.1)).trans HG4.out.1) (rowB_set HRB.out 121) (by have := HI0.out; omega) (by decide) (by rw [HBD.out.1, HBD.out.2.1]; exact nam_bad HCN.out.2 HBY.out.2.2.2.2 HBD.out.2.2.1 (by rw [← HBD.out.2.1, HDL.out]; exact HJ.out)) (by rw [List.length_set, HDL.out]; have := HBD.out; omega) (fun x hx => by rcases List.mem_or_eq_of_mem_set hx with hx | hx; exact vbed_i64 (HBD.out.2.2.2.2.2 x hx); subst hx; omega)
      ·-- @@c4
       cases ov with
       | false =>
        go_wp2_with fail
        refine (HK.out _).mono ?_
        rintro e w9 ⟨rfl, hb9⟩
        go_wp2
        go_ret
        exact ⟨rfl, HWB.out _ (HG4.out.2.2.2.1.trans (hb9.mono HG4.out.2.2.2.1.size))⟩
       | true =>
        go_wp2_with fail
        go_meet
        refine ⟨m, -1, 33, (p0, bs), rfl, rfl, rfl, ?_⟩
        exact NamB.of HG4.out.2.2.2.1 HG4.out.1 HRB.out (Nat.le_refl _) (by decide) (nam_over (by
         have hne : hcnt h ≠ [] := fun e => by have := HN.out; rw [e] at this; have := HNM.out.1; simp at *; omega
         obtain ⟨a1, -, a3⟩ := HTF.out.1 hne
         have h1 := tal_len_eq a1 HBY.out.2.2.2.2 60
         rw [← a3, HTF.out.2.1] at h1
         rw [h1]; exact HRO.out.2) _ _) (by show bs.length ≤ 4; rw [HDL.out]; have := HBD.out; omega) (fun x hx => vbed_i64 (HBD.out.2.2.2.2.2 x hx))
     case rest =>
      obtain ⟨i1, d, er, ⟨bp, bb⟩, rfl, rfl, rfl, HNB⟩ := hcut
      clear HG4 w5q t5 hmn hiz hmz hnz him
      have HQ : Aside (wc.heap[g7]? = some (.cells #[.slice ac0 n cc0, .int .i64 r.first, .int .i64 r.rounds, .bool r.equal] 42 (0, 0)) ∧ wc.heap[g8]? = some (.cells #[.slice (some ⟨b, 0, none⟩) m C5, .slice A0 (nn 0) C0, .slice A1 (nn 1) C1, .slice A2 (nn 2) C2, .slice A3 (nn 3) C3, .slice A4 (nn 4) C4, .int .i64 rn, .bool ov] 81 (0, 0))) := ⟨(HNB.out.bel.block _ (Array.getElem?_eq_some_iff.1 HR7.out.1).1).trans HR7.out.1, (HNB.out.bel.block _ (Array.getElem?_eq_some_iff.1 HR7.out.2).1).trans HR7.out.2⟩
      obtain ⟨ub, hq1, hq2⟩ := HNB.out.blk
      obtain ⟨gv, cvv, csv, rfl, hlv, hgv, hcv⟩ := hq2
      obtain ⟨nu, hnu⟩ : ∃ n, bb.length = n := ⟨_, rfl⟩
      have HNU : Aside (bb.length = nu ∧ nu ≤ 4) := ⟨hnu, by rw [← hnu]; exact HNB.out.len⟩
      have HUB : Aside (RowB wc 1 eI 34 (.slice (some ⟨gv, 0, none⟩) nu cvv) bb) := ⟨gv, cvv, csv, by rw [hnu], hlv, hgv, hcv⟩
      change wc.heap[g11]? = some (.cells #[.int .i64 bp, .slice (some ⟨gv, 0, none⟩) bb.length cvv] 84 (0, 0)) at hq1
      rw [hnu] at hq1
      have q0 : wc.cell? ⟨g11, 0, none⟩ = some (.int .i64 bp) := blk_cell hq1 rfl
      have q1 : wc.cell? ⟨g11, 1, none⟩ = some (.slice (some ⟨gv, 0, none⟩) nu cvv) := blk_cell hq1 rfl
      have k80 : wc.cell? ⟨g8, 0, none⟩ = some (.slice (some ⟨b, 0, none⟩) m C5) := blk_cell HQ.out.2 rfl
      clear hq1 hlv hgv hcv hnu
      have HI1 : Aside (i1 ≤ m ∧ m ≤ C5 ∧ m ≤ 60) := ⟨HNB.out.le, hb1.out.1, HI0.out.2⟩
      have HL6 : Aside (∀ x ∈ lv, x.2.2.length ≤ 6) := by
       intro x hx
       have h1 : prV x ∈ (talF h).vs := by rw [← HLV.out.2.2.1]; exact List.mem_map.2 ⟨x, hx, rfl⟩
       have := HTF.out.2.2.2 _ h1
       have e1 : (prV x).2 = x.2.2 := rfl
       rw [e1] at this
       omega
      have XV1 : Aside (∀ W, Below wc.heap.size wc W → Calls Try.prog 20 #[.slice (some ⟨b, 0, none⟩) i1 C5] W (VisitsOw (lv.take i1) W)) := by
       intro W hW
       have hB := HNB.out.bel.trans (hW.mono HNB.out.bel.size)
       exact visits_own (lv.take i1) _ W ((HLV.out.1.below hB).pre (by rw [HLV.out.2.2.2]; exact HI1.out.1) C5) (fun x hx => (HLV.out.2.1 x (List.mem_of_mem_take hx)).below hB) (by rw [List.length_take, HLV.out.2.2.2]; have := HI1.out; omega) (fun x hx => HL6.out x (List.mem_of_mem_take hx))
      have XV2 : Aside (∀ W, Below wc.heap.size wc W ∨ Below w1.heap.size w1 W → Calls Try.prog 20 #[.slice (some ⟨b, 0 + i1 * 2, none⟩) (m - i1) (C5 - i1)] W (VisitsOw (lv.drop i1) W)) := by
       intro W hW
       have hB : Below w1.heap.size w1 W := hW.elim (fun hW => HNB.out.bel.trans (hW.mono HNB.out.bel.size)) (fun hW => hW)
       have := (HLV.out.1.below hB).suf (i := i1) (by rw [HLV.out.2.2.2]; exact HI1.out.1) (Nat.lt_of_lt_of_le hb1.out.2 hB.size) (C5 - i1)
       rw [HLV.out.2.2.2] at this
       exact visits_own (lv.drop i1) _ W this (fun x hx => (HLV.out.2.1 x (List.mem_of_mem_drop hx)).below hB) (by rw [List.length_drop, HLV.out.2.2.2]; have := HI1.out; omega) (fun x hx => HL6.out x (List.mem_of_mem_drop hx))
      have hi0 : (0 : Int) ≤ (i1 : Int) := by omega
      have hic : i1 ≤ C5 := by have := HI1.out; omega
      have hicz : (i1 : Int) ≤ (C5 : Int) := by omega
      obtain ⟨j0, hj0, jz0, jz1, jz2⟩ := info_parts info_visD
      have HLP : Aside ((lv.take i1).map prV = ((talF h).vs).take i1) := by show _ = _; rw [List.map_take, HLV.out.2.2.1]
      go_upto_region 22 with (fail)
      refine nam22 k80 XV1 HLP q0 q1 hi0 hic hicz (by kernel_rfl) (by rfl) (by rfl) (by rfl) (by rfl) ?rest22
      case rest22 =>
       intro ac w5 hL
       have e123 : ac.tmps.getD 123 undef = .pointer (some ⟨g8, 0, none⟩) := hL.new 0 _ 123 rfl rfl rfl
       have e124 : ac.tmps.getD 124 undef = .slice (some ⟨b, 0, none⟩) m C5 := hL.new 1 _ 124 rfl rfl rfl
       have e125 : ac.tmps.getD 125 undef = .int .i64 (i1 : Int) := hL.new 2 _ 125 rfl rfl rfl
       have e126 : ac.tmps.getD 126 undef = .slice (some ⟨b, 0, none⟩) i1 C5 := hL.new 3 _ 126 rfl rfl rfl
       have e128 : ac.tmps.getD 128 undef = .agg #[.int .i64 bp, Value.slice (some ⟨gv, 0, none⟩) nu cvv] := hL.new 5 _ 128 rfl rfl rfl
       obtain ⟨lv2, ho2, hr2, hp2⟩ := hL.new 4 _ 127 rfl rfl rfl
       obtain ⟨g6, e129, hg6⟩ := hL.new 6 _ 129 rfl rfl rfl
       have hb5 : Below wc.heap.size wc w5 := hL.cls
       obtain ⟨y127, e127⟩ : ∃ x, ac.tmps.getD 127 undef = x := ⟨_, rfl⟩
       rw [e127] at ho2
       have HL2 : Aside (lv2.length = i1) := by
        have := congrArg List.length hp2
        rw [List.length_map, List.length_take, HTF.out.2.1] at this
        show _ = _
        have := HI1.out
        omega
       have HO2 : Aside (w5.ownsRow wc.heap.size 84 2 y127 lv2.length ((lv2.map encV).flatten) ∧ (∀ y ∈ lv2, RowB w5 1 eI 34 y.2.1 y.2.2) ∧ lv2.map prV = ((talF h).vs).take i1 ∧ Below wc.heap.size wc w5) := ⟨ho2, hr2, hp2, hb5⟩
       have HUB5 : Aside (RowB w5 1 eI 34 (.slice (some ⟨gv, 0, none⟩) nu cvv) bb) := HUB.out.below hb5
       clear ho2 hr2 hp2
       have es_ := hL.sets [123, 124, 125, 126, 127, 128, 129] (by decide +kernel)
       rw [List.foldl_cons, List.foldl_cons, List.foldl_cons, List.foldl_cons, List.foldl_cons, List.foldl_cons, List.foldl_cons, List.foldl_nil, e123, e124, e125, e126, e127, e128, e129] at es_
       rw [es_]
       clear es_ hL e123 e124 e125 e126 e127 e128 e129
       simp only [List.setIfInBounds_toArray, List.set_cons_zero, List.set_cons_succ]
       clear q0 q1 k80
       refine wpAny_one (i := 7) (by decide +kernel) rfl rfl ?_
       refine wp_append_own w5 (.tmp 127) (.tmp 129) 43 rfl wc.heap.size 84 j0 (.agg #[.int .i64 0, .slice none 0 0]) 2 32 Try.underlying43 hj0 jz0 jz1 jz2 rfl (by decide) y127 lv2.length ((lv2.map encV).flatten) rfl HO2.out.1 ⟨g6, 0, none⟩ 1 1 [.int .i64 bp, Value.slice (some ⟨gv, 0, none⟩) nu cvv] rfl rfl (by intro j u h; match j, h with | 0, h => (simp at h; subst h; exact blk_cell hg6 rfl) | 1, h => (simp at h; subst h; rw [add_plain1]; exact blk_cell hg6 rfl) | j + 2, h => simp at h) (by intro u hu; simp at hu; rcases hu with rfl | rfl <;> rfl) (by have := HL2.out; have := HI1.out; unfold maxLen; omega) (by have := HL2.out; have := HI1.out; omega) HO2.out.2.2.2.size ?_
       intro v6 w6 hown6 hgr6 hnil6
       refine wpAny_one (i := 8) (by decide +kernel) rfl rfl ?_
       unfold Oper.wp
       go_simp
       refine wpAny_done (by decide +kernel) ?_ _
       have HO6 : Aside (w6.ownsRow wc.heap.size 84 2 v6 (lv2 ++ [(bp, Value.slice (some ⟨gv, 0, none⟩) nu cvv, bb)]).length (((lv2 ++ [(bp, Value.slice (some ⟨gv, 0, none⟩) nu cvv, bb)]).map encV).flatten) ∧ (∀ y ∈ lv2 ++ [(bp, Value.slice (some ⟨gv, 0, none⟩) nu cvv, bb)], RowB w6 1 eI 34 y.2.1 y.2.2) ∧ Below wc.heap.size wc w6) := by
        refine ⟨by rw [List.map_append, List.flatten_append, List.length_append]; exact hown6, fun y hy => ?_, HO2.out.2.2.2.grown hgr6 HO2.out.2.2.2.size (fun j hj => (HO2.out.1.lt j hj).1)⟩
        rcases List.mem_append.1 hy with hy | hy
        ·exact (HO2.out.2.1 y hy).grw HO2.out.1 hgr6 (by decide)
        ·simp at hy; subst hy; exact HUB5.out.grw HO2.out.1 hgr6 (by decide)
       obtain ⟨a6, c6, rfl⟩ := owns_form3 hown6
       clear hown6 hgr6 hnil6 hg6
       have k80 : w6.cell? ⟨g8, 0, none⟩ = some (.slice (some ⟨b, 0, none⟩) m C5) := blk_cell ((HO6.out.2.2.block _ (Array.getElem?_eq_some_iff.1 HQ.out.2).1).trans HQ.out.2) rfl
       have him1 : (i1 : Int) ≤ (m : Int) := by have := HI1.out; omega
       have himn : i1 ≤ m := HI1.out.1
       have XV3 : Aside (∀ W, Below w6.heap.size w6 W → (Calls Try.prog 20 #[.slice (some ⟨b, i1 * 2, none⟩) (m - i1) (C5 - i1)] W (VisitsOw (lv.drop i1) W) ∧ (m ≤ i1 → ∀ a c, Calls Try.prog 20 #[.slice a (m - i1) c] W (VisitsOw (lv.drop i1) W)))) := by
        intro W hW
        have hB := HO6.out.2.2.trans (hW.mono HO6.out.2.2.size)
        refine ⟨?_, fun hle a c => ?_⟩
        ·have := XV2.out W (.inl hB)
         rw [Nat.zero_add] at this; exact this
        ·have hz : lv.drop i1 = [] := List.drop_eq_nil_of_le (by rw [HLV.out.2.2.2]; exact hle)
         rw [hz]
         exact visits_own [] _ W ⟨a, c, by rw [show m - i1 = 0 by omega]; rfl, by simp, fun e => absurd rfl e⟩ (fun x hx => by cases hx) (by simp) (fun x hx => by cases hx)
       have HLD : Aside ((lv.drop i1).map prV = ((talF h).vs).drop i1 ∧ (lv.drop i1).length = m - i1) := ⟨by rw [List.map_drop, HLV.out.2.2.1], by rw [List.length_drop, HLV.out.2.2.2]⟩
       obtain ⟨tvs, htvs⟩ : ∃ l, (talF h).vs = l := ⟨_, rfl⟩
       have HTV : Aside ((talF h).vs = tvs ∧ (lv.drop i1).map prV = tvs.drop i1 ∧ lv2.map prV = tvs.take i1) := ⟨htvs, by rw [HLD.out.1, htvs], by rw [HO2.out.2.2.1, htvs]⟩
       clear htvs
       go_upto_region 23 with (fail)
       go_cut [14] from 25 to 137 (fun s14 wf => ∃ (a : Option Addr) (c k : Nat), s14 = .slice a k c ∧ Aside (NamL (tvs.take i1 ++ (bp, bb) :: tvs.drop i1) w1 (.slice a k c) k wf))
       case first =>
        rename_i J' K' hJ' hK'
        go_wp2_with fail
        ·refine (((XV3.out w6 (Below.refl _ _)).2 (by have := HI1.out; omega)) _ _).mono ?_
         rintro e w7 ⟨hb7, v7, lv3, rfl, ho3, hr3, hp3⟩
         have HO7 : Aside (w7.ownsRow w6.heap.size 84 2 v7 lv3.length ((lv3.map encV).flatten) ∧ (∀ y ∈ lv3, RowB w7 1 eI 34 y.2.1 y.2.2) ∧ lv3.map prV = (lv.drop i1).map prV ∧ Below w6.heap.size w6 w7) := ⟨ho3, hr3, hp3, hb7⟩
         have HL3 : Aside (lv3.length = m - i1) := (by have := congrArg List.length hp3; rw [List.length_map, List.length_map, HLD.out.2] at this; exact this)
         have hown7 := ownsRow_below HO6.out.1 hb7
         obtain ⟨a7, c7, rfl⟩ := owns_form3 ho3
         clear ho3 hr3 hp3 hb7
         dsimp only
         go_wp2_with (at_builtin; refine wpList_append_sl _ rfl _ _ 43 rfl wc.heap.size 84 j0 (.agg #[.int .i64 0, .slice none 0 0]) 2 32 Try.underlying43 hj0 jz0 jz1 jz2 rfl (by decide) _ _ _ rfl hown7 (enc := encV) (ys := lv3) (vy := .slice a7 lv3.length c7) rfl (sl_owns (fun _ => rfl) (by have := HL3.out; have := HI1.out; omega) HO7.out.1) (fun _ => rfl) (by intro y hy u hu; obtain ⟨gy, cy, csy, ey, -⟩ := HO7.out.2.1 y hy; simp only [encV, List.mem_cons, List.not_mem_nil, or_false] at hu; rcases hu with rfl | rfl; rfl; rw [ey]; rfl) (by have := HL2.out; have := HL3.out; have := HI1.out; rw [List.length_append]; simp; unfold maxLen; omega) (by have := HL2.out; have := HL3.out; have := HI1.out; rw [List.length_append]; simp; omega) (Nat.le_trans HO6.out.2.2.size HO7.out.2.2.2.size) ?_; intro v8 w8 hown8 hgr8)
         have HNLf : Aside (NamL (tvs.take i1 ++ (bp, bb) :: tvs.drop i1) w1 v8 ((lv2 ++ [(bp, Value.slice (some ⟨gv, 0, none⟩) nu cvv, bb)]).length + lv3.length) w8) := by
          have := namL_of (lA := tvs.take i1 ++ [(bp, bb)]) (l3 := tvs.drop i1) HO6.out.1 HO6.out.2.1 (by rw [List.map_append, HTV.out.2.2]; rfl) HO6.out.2.2 HO7.out.2.2.2 HO7.out.2.1 (HO7.out.2.2.1.trans HTV.out.2.1) hown8 hgr8 HNB.out.bel (by have h2 := HL2.out; have h3 := HL3.out; have := HI1.out; rw [List.length_append, List.length_singleton]; omega)
          rw [List.append_assoc] at this; exact this
         obtain ⟨a9, c9, rfl⟩ := owns_form3 hown8
         clear hown8 hgr8 hown7
         go_wp2_with fail
         go_meet
         exact ⟨a9, c9, _, rfl, HNLf.out⟩
        ·refine ((XV3.out w6 (Below.refl _ _)).1).mono ?_
         rintro e w7 ⟨hb7, v7, lv3, rfl, ho3, hr3, hp3⟩
         have HO7 : Aside (w7.ownsRow w6.heap.size 84 2 v7 lv3.length ((lv3.map encV).flatten) ∧ (∀ y ∈ lv3, RowB w7 1 eI 34 y.2.1 y.2.2) ∧ lv3.map prV = (lv.drop i1).map prV ∧ Below w6.heap.size w6 w7) := ⟨ho3, hr3, hp3, hb7⟩
         have HL3 : Aside (lv3.length = m - i1) := (by have := congrArg List.length hp3; rw [List.length_map, List.length_map, HLD.out.2] at this; exact this)
         have hown7 := ownsRow_below HO6.out.1 hb7
         obtain ⟨a7, c7, rfl⟩ := owns_form3 ho3
         clear ho3 hr3 hp3 hb7
         dsimp only
         go_wp2_with (at_builtin; refine wpList_append_sl _ rfl _ _ 43 rfl wc.heap.size 84 j0 (.agg #[.int .i64 0, .slice none 0 0]) 2 32 Try.underlying43 hj0 jz0 jz1 jz2 rfl (by decide) _ _ _ rfl hown7 (enc := encV) (ys := lv3) (vy := .slice a7 lv3.length c7) rfl (sl_owns (fun _ => rfl) (by have := HL3.out; have := HI1.out; omega) HO7.out.1) (fun _ => rfl) (by intro y hy u hu; obtain ⟨gy, cy, csy, ey, -⟩ := HO7.out.2.1 y hy; simp only [encV, List.mem_cons, List.not_mem_nil, or_false] at hu; rcases hu with rfl | rfl; rfl; rw [ey]; rfl) (by have := HL2.out; have := HL3.out; have := HI1.out; rw [List.length_append]; simp; unfold maxLen; omega) (by have := HL2.out; have := HL3.out; have := HI1.out; rw [List.length_append]; simp; omega) (Nat.le_trans HO6.out.2.2.size HO7.out.2.2.2.size) ?_; intro v8 w8 hown8 hgr8)
         have HNLf : Aside (NamL (tvs.take i1 ++ (bp, bb) :: tvs.drop i1) w1 v8 ((lv2 ++ [(bp, Value.slice (some ⟨gv, 0, none⟩) nu cvv, bb)]).length + lv3.length) w8) := by
          have := namL_of (lA := tvs.take i1 ++ [(bp, bb)]) (l3 := tvs.drop i1) HO6.out.1 HO6.out.2.1 (by rw [List.map_append, HTV.out.2.2]; rfl) HO6.out.2.2 HO7.out.2.2.2 HO7.out.2.1 (HO7.out.2.2.1.trans HTV.out.2.1) hown8 hgr8 HNB.out.bel (by have h2 := HL2.out; have h3 := HL3.out; have := HI1.out; rw [List.length_append, List.length_singleton]; omega)
          rw [List.append_assoc] at this; exact this
         obtain ⟨a9, c9, rfl⟩ := owns_form3 hown8
         clear hown8 hgr8 hown7
         go_wp2_with fail
         go_meet
         exact ⟨a9, c9, _, rfl, HNLf.out⟩
       case rest =>
        obtain ⟨al, cl, kl, rfl, HNL⟩ := hcut
        have HCNE : Aside (hcnt h ≠ []) := fun e => by have := HN.out; rw [e] at this; have := HNM.out.1; simp at *; omega
        have HALL := nam_all HBY.out.2.2.2.2 (HTF.out.1 HCNE.out).1 (HTF.out.1 HCNE.out).2.1 (HTF.out.1 HCNE.out).2.2 HTV.out.1 (by rw [← HTV.out.1]; exact HTF.out.2.1) HTF.out.2.2.1 HNB.out
        have HA : Aside _ := HALL
        clear HALL
        have HRC : Aside (r.counts = hcnt h) := by show _ = _; rw [← HRR.out]; rfl
        have XR2 : Aside (∀ W, Below w1.heap.size w1 W → Calls Try.prog 19 #[.agg #[.slice ac0 n cc0, .int .i64 r.first, .int .i64 r.rounds, .bool r.equal]] W (RulesOk r W)) := fun W hW => rules_any r (.slice ac0 n cc0) W (by rw [HRC.out]; exact HSC1.out.below hW) (by rw [HRC.out]; have := hcnt_len h; omega)
        obtain ⟨lvL, z1, z2, z3, z4, z5⟩ := HNL.out
        have HZL : Aside (Sl wc 2 encV (.slice al kl cl) lvL ∧ (∀ x ∈ lvL, Sl wc 1 eI x.2.1 x.2.2) ∧ lvL.map prV = tvs.take i1 ++ (bp, bb) :: tvs.drop i1 ∧ Below w1.heap.size w1 wc) := ⟨z1, z3, z4, z5⟩
        clear z1 z2 z3 z4 z5 HNL
        have XV4 : Aside (∀ W, Below wc.heap.size wc W → Calls Try.prog 20 #[.slice al kl cl] W (VisitsOk lvL W)) := fun W hW => visits_any lvL _ W (HZL.out.1.below hW) (fun x hx => (HZL.out.2.1 x hx).below hW) (by have e := congrArg List.length HZL.out.2.2.1; rw [List.length_map, HA.out.2.2.2.2.2] at e; have := HI1.out; omega) (fun x hx => (HA.out.2.2.2.1 (prV x) (by rw [← HZL.out.2.2.1]; exact List.mem_map.2 ⟨x, hx, rfl⟩)).1)
        have HI64 : Aside (∀ lv' : List (Int × Value × List Int), lv'.map prV = lvL.map prV → ∀ x ∈ lv', ∀ c ∈ x.2.2, -9223372036854775808 ≤ c ∧ c ≤ 9223372036854775807) := fun lv' e x hx => (HA.out.2.2.2.1 (prV x) (by rw [← HZL.out.2.2.1, ← e]; exact List.mem_map.2 ⟨x, hx, rfl⟩)).2
        have HQ4 : Aside (wc.heap[g7]? = some (.cells #[.slice ac0 n cc0, .int .i64 r.first, .int .i64 r.rounds, .bool r.equal] 42 (0, 0))) := (HZL.out.2.2.2.block _ (Array.getElem?_eq_some_iff.1 HR7.out.1).1).trans HR7.out.1
        have y0 : wc.cell? ⟨g7, 0, none⟩ = some (.slice ac0 n cc0) := blk_cell HQ4.out rfl
        have y1 : wc.cell? ⟨g7, 1, none⟩ = some (.int .i64 r.first) := blk_cell HQ4.out rfl
        have y2 : wc.cell? ⟨g7, 2, none⟩ = some (.int .i64 r.rounds) := blk_cell HQ4.out rfl
        have y3 : wc.cell? ⟨g7, 3, none⟩ = some (.bool r.equal) := blk_cell HQ4.out rfl
        go_wp2_with fail
        refine (XR2.out _ HZL.out.2.2.2).mono ?_
        rintro e wd ⟨hbd, vc1, rfl, hs1⟩
        have HD : Aside (Sl wd 3 encC vc1 r.counts ∧ Below wc.heap.size wc wd) := ⟨hs1, hbd⟩
        clear hs1 hbd y0 y1 y2 y3
        go_wp2_with fail
        refine (XV4.out _ HD.out.2).mono ?_
        rintro e we ⟨hbe, vv4, lv4, rfl, hv1, hv2, hv3⟩
        have HE4 : Aside (Sl we 3 encC vc1 r.counts ∧ Sl we 2 encV vv4 lv4 ∧ (∀ x ∈ lv4, Sl we 1 eI x.2.1 x.2.2) ∧ lv4.map prV = lvL.map prV ∧ Below wc.heap.size wc we) := ⟨HD.out.1.below hbe, hv1, hv2, hv3, HD.out.2.trans (hbe.mono HD.out.2.size)⟩
        clear hbe hv1 hv2 hv3
        go_wp2_with fail
        refine (Play_any r vc1 lv4 vv4 we HE4.out.1 HE4.out.2.1 (fun x hx => ⟨HE4.out.2.2.1 x hx, HI64.out lv4 HE4.out.2.2.2.1 x hx⟩)).mono ?_
        rintro e wf ⟨hbf, vs1, rfl, hpg⟩
        have e6 : lv4.map (fun x => (x.1, x.2.2)) = tvs.take i1 ++ (bp, bb) :: tvs.drop i1 := HE4.out.2.2.2.1.trans HZL.out.2.2.1
        rw [e6, HA.out.2.1.2] at hpg
        rw [e6, HA.out.2.1.1]
        have hpg2 : vs1 = .agg #[.slice none 0 0, .slice none 0 0, .slice none 0 0, .int .i64 0, .int .i64 0, .bool false, .slice none 0 0] := hpg
        subst hpg2
        have HF4 : Aside (Below wc.heap.size wc wf) := HE4.out.2.2.2.2.trans (hbf.mono HE4.out.2.2.2.2.size)
        clear hbf hpg e6
        dsimp only
        go_upto_region 25 with (fail)
        obtain ⟨g15, hg15⟩ : ∃ g, wf.heap.size = g := ⟨_, rfl⟩
        obtain ⟨wg, hwg⟩ : ∃ u, u = wf.alloc (.cells #[.slice none 0 0, .slice none 0 0, .slice none 0 0, .int .i64 0, .int .i64 0, .bool false, .slice none 0 0] 51) := ⟨_, rfl⟩
        have HG5 : Aside (wg.heap[g15]? = some (.cells #[.slice none 0 0, .slice none 0 0, .slice none 0 0, .int .i64 0, .int .i64 0, .bool false, .slice none 0 0] 51 (0, 0)) ∧ Below wc.heap.size wc wg ∧ wf.heap.size = g15) := ⟨by rw [hwg, ← hg15]; exact World.alloc_heap_new _ _, HF4.out.trans (((by rw [hwg]; exact (Below.refl _ _).alloc (Nat.le_refl _) _ : Below wf.heap.size wf wg)).mono HF4.out.size), hg15⟩
        rw [← hwg, hg15]
        clear hwg hg15
        have HQ5 : Aside (wg.heap[g7]? = some (.cells #[.slice ac0 n cc0, .int .i64 r.first, .int .i64 r.rounds, .bool r.equal] 42 (0, 0))) := (HG5.out.2.1.block _ (Array.getElem?_eq_some_iff.1 HQ4.out).1).trans HQ4.out
        have HC1 : Aside (Below w1.heap.size w1 wg) := HZL.out.2.2.2.trans (HG5.out.2.1.mono HZL.out.2.2.2.size)
        have y0 : wg.cell? ⟨g7, 0, none⟩ = some (.slice ac0 n cc0) := blk_cell HQ5.out rfl
        have y1 : wg.cell? ⟨g7, 1, none⟩ = some (.int .i64 r.first) := blk_cell HQ5.out rfl
        have y2 : wg.cell? ⟨g7, 2, none⟩ = some (.int .i64 r.rounds) := blk_cell HQ5.out rfl
        have y3 : wg.cell? ⟨g7, 3, none⟩ = some (.bool r.equal) := blk_cell HQ5.out rfl
        go_wp2_with fail
        refine (XR2.out _ HC1.out).mono ?_
        rintro e wd2 ⟨hbd, vc2, rfl, hs1⟩
        have HD2 : Aside (Sl wd2 3 encC vc2 r.counts ∧ Below wg.heap.size wg wd2) := ⟨hs1, hbd⟩
        clear hs1 hbd y0 y1 y2 y3
        go_wp2_with fail
        refine (XV4.out _ (HG5.out.2.1.trans (HD2.out.2.mono HG5.out.2.1.size))).mono ?_
        rintro e we2 ⟨hbe, vv5, lv5, rfl, hv1, hv2, hv3⟩
        have HE5 : Aside (Sl we2 3 encC vc2 r.counts ∧ Sl we2 2 encV vv5 lv5 ∧ (∀ x ∈ lv5, Sl we2 1 eI x.2.1 x.2.2) ∧ lv5.map prV = lvL.map prV ∧ Below wg.heap.size wg we2) := ⟨HD2.out.1.below hbe, hv1, hv2, hv3, HD2.out.2.trans (hbe.mono HD2.out.2.size)⟩
        clear hbe hv1 hv2 hv3
        go_wp2_with fail
        refine (Judge_any r vc2 lv5 vv5 we2 HE5.out.1 HE5.out.2.1 (fun x hx => ⟨HE5.out.2.2.1 x hx, HI64.out lv5 HE5.out.2.2.2.1 x hx⟩)).mono ?_
        rintro e wf2 hj
        have e6 : lv5.map (fun x => (x.1, x.2.2)) = tvs.take i1 ++ (bp, bb) :: tvs.drop i1 := HE5.out.2.2.2.1.trans HZL.out.2.2.1
        rw [e6] at hj
        obtain ⟨hbf, x2, rfl, vs2, vf2, rfl, hst, hfl⟩ := hj.judV HA.out.1.1 HA.out.1.2
        obtain ⟨vl, vd, vi, vw, rfl, hl1, hl2, hl3, hl4⟩ := hst
        obtain ⟨gl, hgl⟩ : ∃ l, (talF h).g.left = l := ⟨_, rfl⟩
        obtain ⟨gl1, hgl1⟩ : ∃ l, (talF h).g.darts = l := ⟨_, rfl⟩
        obtain ⟨gl2, hgl2⟩ : ∃ l, (talF h).g.inn = l := ⟨_, rfl⟩
        obtain ⟨gl3, hgl3⟩ : ∃ l, (talF h).g.wins = l := ⟨_, rfl⟩
        obtain ⟨gnx, hgnx⟩ : ∃ x, (talF h).g.next = x := ⟨_, rfl⟩
        obtain ⟨grd, hgrd⟩ : ∃ x, (talF h).g.round = x := ⟨_, rfl⟩
        have HGS : Aside ((talF h).g.left = gl ∧ (talF h).g.darts = gl1 ∧ (talF h).g.inn = gl2 ∧ (talF h).g.wins = gl3) := ⟨hgl, hgl1, hgl2, hgl3⟩
        rw [hgl] at hl1
        rw [hgl1] at hl2
        rw [hgl2] at hl3
        rw [hgl3] at hl4
        rw [hgnx, hgrd, HRO.out.2]
        have HL1 : Aside (Sl wf2 1 eI vl gl) := hl1
        have HFL : Aside (Sl wf2 3 encF vf2 [((i1 : Int), d, er)]) := hfl
        obtain ⟨P0, Q0, rfl, -⟩ := hl1
        obtain ⟨P1, Q1, rfl, -⟩ := hl2
        obtain ⟨P2, Q2, rfl, -⟩ := hl3
        obtain ⟨P3, Q3, rfl, -⟩ := hl4
        have HF5 : Aside (Below wg.heap.size wg wf2) := HE5.out.2.2.2.2.trans (hbf.mono HE5.out.2.2.2.2.size)
        clear hbf e6 hfl hgl hgl1 hgl2 hgl3 hgnx hgrd
        dsimp only
        have hgn : gl.length = n := by
         have h1 := (tal_len (HTF.out.1 HCNE.out).1 HBY.out.2.2.2.2 60).1
         rw [← (HTF.out.1 HCNE.out).2.2, HGS.out.1, HRC.out, HN.out] at h1
         exact h1
        have HGN : Aside (gl.length = n) := hgn
        rw [hgn] at HL1 ⊢
        clear hgn
        obtain ⟨af, cf, rfl, -, hff⟩ := HFL.out
        obtain ⟨bf, off, rfl, hbflt, hfc⟩ := hff (by simp)
        have f0 : wf2.cell? ⟨bf, off, none⟩ = some (.int .i64 (i1 : Int)) := by have := hfc 0 _ rfl 0 _ rfl; simpa using this
        have f1 : wf2.cell? ⟨bf, off + 1, none⟩ = some (.int .i64 d) := by have := hfc 0 _ rfl 1 _ rfl; simpa using this
        have f2 : wf2.cell? ⟨bf, off + 2, none⟩ = some (.int .i64 er) := by have := hfc 0 _ rfl 2 _ rfl; simpa using this
        have HFC : Aside (wf2.cell? ⟨bf, off, none⟩ = some (.int .i64 (i1 : Int)) ∧ wf2.cell? ⟨bf, off + 1, none⟩ = some (.int .i64 d) ∧ wf2.cell? ⟨bf, off + 2, none⟩ = some (.int .i64 er) ∧ bf < wf2.heap.size) := ⟨f0, f1, f2, hbflt⟩
        clear hff hfc f0 f1 f2 hbflt HFL
        go_upto_region 26 with (fail)
        obtain ⟨g18, hg18⟩ : ∃ g, wf2.heap.size = g := ⟨_, rfl⟩
        obtain ⟨wh, hwh⟩ : ∃ u, u = wf2.alloc (.cells #[.slice P0 n Q0, .slice P1 gl1.length Q1, .slice P2 gl2.length Q2, .int .i64 gnx, .int .i64 grd, .bool ov, .slice P3 gl3.length Q3] 51) := ⟨_, rfl⟩
        have hbh : Below wf2.heap.size wf2 wh := by rw [hwh]; exact (Below.refl _ _).alloc (Nat.le_refl _) _
        have HG6 : Aside (wh.heap[g18]? = some (.cells #[.slice P0 n Q0, .slice P1 gl1.length Q1, .slice P2 gl2.length Q2, .int .i64 gnx, .int .i64 grd, .bool ov, .slice P3 gl3.length Q3] 51 (0, 0)) ∧ Below wg.heap.size wg wh ∧ Sl wh 1 eI (.slice P0 n Q0) gl) := ⟨by rw [hwh, ← hg18]; exact World.alloc_heap_new _ _, HF5.out.trans (hbh.mono HF5.out.size), by have h1 := HL1.out; exact h1.below hbh⟩
        have HFC2 : Aside (wh.cell? ⟨bf, off, none⟩ = some (.int .i64 (i1 : Int)) ∧ wh.cell? ⟨bf, off + 1, none⟩ = some (.int .i64 d) ∧ wh.cell? ⟨bf, off + 2, none⟩ = some (.int .i64 er)) := ⟨(cell_blk (hbh.block _ HFC.out.2.2.2)).trans HFC.out.1, (cell_blk (hbh.block _ HFC.out.2.2.2)).trans HFC.out.2.1, (cell_blk (hbh.block _ HFC.out.2.2.2)).trans HFC.out.2.2.1⟩
        rw [← hwh, hg18]
        clear hwh hg18 hbh
        have HC2 : Aside (Below w1.heap.size w1 wh) := HC1.out.trans (HG6.out.2.1.mono HC1.out.size)
        have hru : wh.heap[g7]? = some (.cells #[.slice ac0 n cc0, .int .i64 r.first, .int .i64 r.rounds, .bool r.equal] 42 (0, 0)) := (HG6.out.2.1.block _ (Array.getElem?_eq_some_iff.1 HQ5.out).1).trans HQ5.out
        have k80 : wh.cell? ⟨g8, 0, none⟩ = some (.slice (some ⟨b, 0, none⟩) m C5) := blk_cell ((HC2.out.block _ (Array.getElem?_eq_some_iff.1 HR7.out.2).1).trans HR7.out.2) rfl
        have X26a : Aside (∀ W, Below wh.heap.size wh W → Calls Try.prog 19 #[.agg #[.slice ac0 n cc0, .int .i64 r.first, .int .i64 r.rounds, .bool r.equal]] W (RulesOk r W)) := fun W hW => XR2.out W (HC2.out.trans (hW.mono HC2.out.size))
        have X26b : Aside (∀ W, Below wh.heap.size wh W → Calls Try.prog 20 #[.slice (some ⟨b, 0, none⟩) m C5] W (VisitsOk lv W)) := fun W hW => by
         have hB := HC2.out.trans (hW.mono HC2.out.size)
         exact visits_any lv _ W (HLV.out.1.below hB) (fun x hx => (HLV.out.2.1 x hx).below hB) (by rw [HLV.out.2.2.2]; have := HI1.out; omega) HL6.out
        have HLT : Aside (lv.map prV = tvs) := HLV.out.2.2.1.trans HTV.out.1
        have X26c : Aside (∀ W vc' v', Below wh.heap.size wh W → Sl W 3 encC vc' r.counts → VisS tvs v' W → Calls Try.prog 27 #[.agg #[vc', .int .i64 r.first, .int .i64 r.rounds, .bool r.equal], v'] W (fun e w' => Below W.heap.size W w' ∧ ∃ v y z, e = .returned (.tuple #[v, y, z]) ∧ (∃ a c, y = .slice a 0 c) ∧ z = .int .i64 0 ∧ StAt w' v (talF h).g W.heap.size)) := by
         rintro W vc' v' hW hs ⟨lv', a1, a2, a3⟩
         refine (Judge_any r vc' lv' v' W hs a1 (fun x hx => ⟨a2 x hx, (HA.out.2.2.2.2.1 (prV x) (by rw [← a3]; exact List.mem_map.2 ⟨x, hx, rfl⟩)).2⟩)).mono ?_
         rintro e w' hj
         have e6 : lv'.map (fun x => (x.1, x.2.2)) = tvs := a3
         rw [e6] at hj
         obtain ⟨hB, vs', vf', rfl, h1, -⟩ := hj
         obtain ⟨hst, hfl, -⟩ := h1 HA.out.2.2.1.1
         rw [HA.out.2.2.1.2] at hst hfl
         obtain ⟨a', c', e', -, -⟩ := hfl
         exact ⟨hB, vs', vf', _, rfl, ⟨a', c', e'⟩, by rw [HA.out.2.2.1.1], hst⟩
        refine nam26 (g7 := g7) (g8 := g8) (Q1 := fun y => ∃ a c, y = .slice a 0 c) (Q2 := fun z => z = .int .i64 0) hru k80 X26a X26b HLT X26c (by kernel_rfl) (by rfl) (by rfl) (by rfl) ?rest26
        case rest26 =>
         intro ac wi hL
         have e157 : ac.tmps.getD 157 undef = .agg #[.slice ac0 n cc0, .int .i64 r.first, .int .i64 r.rounds, .bool r.equal] := hL.new 0 _ 157 rfl rfl rfl
         have e159 : ac.tmps.getD 159 undef = .pointer (some ⟨g8, 0, none⟩) := hL.new 2 _ 159 rfl rfl rfl
         have e160 : ac.tmps.getD 160 undef = .slice (some ⟨b, 0, none⟩) m C5 := hL.new 3 _ 160 rfl rfl rfl
         obtain ⟨y158, e158⟩ : ∃ x, ac.tmps.getD 158 undef = x := ⟨_, rfl⟩
         obtain ⟨y161, e161⟩ : ∃ x, ac.tmps.getD 161 undef = x := ⟨_, rfl⟩
         obtain ⟨y162, e162⟩ : ∃ x, ac.tmps.getD 162 undef = x := ⟨_, rfl⟩
         obtain ⟨y156, e156⟩ : ∃ x, ac.tmps.getD 156 undef = x := ⟨_, rfl⟩
         obtain ⟨y164, e164⟩ : ∃ x, ac.tmps.getD 164 undef = x := ⟨_, rfl⟩
         obtain ⟨y165, e165⟩ : ∃ x, ac.tmps.getD 165 undef = x := ⟨_, rfl⟩
         obtain ⟨a22, c22, e22⟩ := hL.new 12 _ 22 rfl rfl rfl
         have e23 : ac.tmps.getD 23 undef = .int .i64 0 := hL.new 13 _ 23 rfl rfl rfl
         obtain ⟨g21, e21, g21a, g21b, -, g21c⟩ := hL.cls.blk rfl
         obtain ⟨x0, x1, x2, x3, x4, x5, x6, e163, k6⟩ := g21c rfl
         obtain ⟨v, y, z, k1, -, -, k4⟩ := hL.cls.res rfl
         obtain ⟨v', y', z', k1', k5'⟩ := hL.cls.ex rfl
         rw [k1] at k1'
         simp only [Value.tuple.injEq, Array.mk.injEq, List.cons.injEq, and_true] at k1'
         obtain ⟨rfl, rfl, rfl⟩ := k1'
         rw [e163] at k5'
         obtain ⟨vl, vd, vi, vw, ev, s1, -⟩ := k4.sts
         rw [← k5'] at ev
         simp only [Value.agg.injEq, Array.mk.injEq, List.cons.injEq, and_true] at ev
         obtain ⟨rfl, rfl, rfl, rfl, rfl, rfl, rfl⟩ := ev
         rw [HGS.out.1] at s1
         obtain ⟨R0, U0, rfl⟩ : ∃ a c, x0 = .slice a n c := by obtain ⟨a, c, e, -⟩ := s1; rw [HGN.out] at e; exact ⟨a, c, e⟩
         have HR21 : Aside (wi.cell? ⟨g21, 0, none⟩ = some (.slice R0 n U0) ∧ Sl wi 1 eI (.slice R0 n U0) gl ∧ Below wh.heap.size wh wi) := ⟨blk_cell k6 rfl, s1, hL.cls.bel⟩
         clear g21a g21b g21c k6 k1 k4 k5' s1
         have es_ := hL.sets [157, 158, 159, 160, 161, 162, 156, 163, 164, 165, 21, 22, 23] (by decide +kernel)
         rw [List.foldl_cons, List.foldl_cons, List.foldl_cons, List.foldl_cons, List.foldl_cons, List.foldl_cons, List.foldl_cons, List.foldl_cons, List.foldl_cons, List.foldl_cons, List.foldl_cons, List.foldl_cons, List.foldl_cons, List.foldl_nil, e157, e158, e159, e160, e161, e162, e156, e163, e164, e165, e21, e22, e23] at es_
         rw [es_]
         clear es_ hL e157 e158 e159 e160 e161 e162 e156 e163 e164 e165 e21 e22 e23
         refine wpAny_done (by decide +kernel) ?_ _
         simp only [List.setIfInBounds_toArray, List.set_cons_zero, List.set_cons_succ]
         clear hru k80
         have HBI : Aside (Below wg.heap.size wg wi ∧ Below w1.heap.size w1 wi) := ⟨HG6.out.2.1.trans (HR21.out.2.2.mono HG6.out.2.1.size), HC2.out.trans (HR21.out.2.2.mono HC2.out.size)⟩
         have hz15 : wi.heap[g15]? = some (.cells #[.slice none 0 0, .slice none 0 0, .slice none 0 0, .int .i64 0, .int .i64 0, .bool false, .slice none 0 0] 51 (0, 0)) := (HBI.out.1.block _ (Array.getElem?_eq_some_iff.1 HG5.out.1).1).trans HG5.out.1
         have a155 : wi.cell? ⟨g15, 5, none⟩ = some (.bool false) := blk_cell hz15 rfl
         have a150 : wi.cell? ⟨g15, 0, none⟩ = some (.slice none 0 0) := blk_cell hz15 rfl
         have f0 : wi.cell? ⟨bf, off, none⟩ = some (.int .i64 (i1 : Int)) := (cell_blk (HR21.out.2.2.block _ (cell_lt HFC2.out.1))).trans HFC2.out.1
         have f1 : wi.cell? ⟨bf, off + 1, none⟩ = some (.int .i64 d) := (cell_blk (HR21.out.2.2.block _ (cell_lt HFC2.out.2.1))).trans HFC2.out.2.1
         have f2 : wi.cell? ⟨bf, off + 2, none⟩ = some (.int .i64 er) := (cell_blk (HR21.out.2.2.block _ (cell_lt HFC2.out.2.2))).trans HFC2.out.2.2
         have h18 := (HR21.out.2.2.block _ (Array.getElem?_eq_some_iff.1 HG6.out.1).1).trans HG6.out.1
         have a180 : wi.cell? ⟨g18, 0, none⟩ = some (.slice P0 n Q0) := blk_cell h18 rfl
         have a185 : wi.cell? ⟨g18, 5, none⟩ = some (.bool ov) := blk_cell h18 rfl
         have a210 : wi.cell? ⟨g21, 0, none⟩ = some (.slice R0 n U0) := HR21.out.1
         have a70 : wi.cell? ⟨g7, 0, none⟩ = some (.slice ac0 n cc0) := blk_cell ((HBI.out.2.block _ (Array.getElem?_eq_some_iff.1 HR7.out.1).1).trans HR7.out.1) rfl
         have HSW : Aside (Sl wi 1 eI (.slice P0 n Q0) gl ∧ Sl wi 1 eI (.slice R0 n U0) gl) := ⟨HG6.out.2.2.below HR21.out.2.2, HR21.out.2.1⟩
         have h87 : wi.cell? ⟨g8, 7, none⟩ = some (.bool ov) := blk_cell ((HBI.out.2.block _ (Array.getElem?_eq_some_iff.1 HR7.out.2).1).trans HR7.out.2) rfl
         have H87 : Aside (wi.cell? ⟨g8, 7, none⟩ = some (.bool ov) ∧ wi.cell? ⟨g18, 5, none⟩ = some (.bool ov) ∧ wi.cell? ⟨g18, 0, none⟩ = some (.slice P0 n Q0) ∧ wi.cell? ⟨g21, 0, none⟩ = some (.slice R0 n U0) ∧ wi.cell? ⟨g7, 0, none⟩ = some (.slice ac0 n cc0)) := ⟨h87, a185, a180, a210, a70⟩
         clear hz15 h18 h87 a185
         have ebb : (er != er) = false := by simp
         have edd : (d != d) = false := by simp
         have eii : ((i1 : Int) != (i1 : Int)) = false := by simp
         have enn : ((n : Int) != (n : Int)) = false := by simp
         go_upto_region 29 with (fail)
         have hgj : wi = wi := rfl
         clear hgj f0 f1 f2 a155 a150 a180 a210 a70 ebb edd eii enn
         go_wp2_with fail
         go_loopg [24] n (fun gg s24 wr => ∃ (k : Nat), k ≤ n ∧ n - k ≤ gg ∧ s24 = .int .i64 (k : Int) ∧ Aside (Below wi.heap.size wi wr))
         case atStart => exact ⟨0, by omega, by omega, rfl, Below.refl _ _⟩
         case round =>
          obtain ⟨k, hk, hgk, rfl, HBR⟩ := hrel
          have a70 : wr.cell? ⟨g7, 0, none⟩ = some (.slice ac0 n cc0) := (cell_blk (HBR.out.block _ (cell_lt H87.out.2.2.2.2))).trans H87.out.2.2.2.2
          by_cases hlt : k < n
          ·have hltz : (k : Int) < (n : Int) := by omega
           have a180 : wr.cell? ⟨g18, 0, none⟩ = some (.slice P0 n Q0) := (cell_blk (HBR.out.block _ (cell_lt H87.out.2.2.1))).trans H87.out.2.2.1
           have a210 : wr.cell? ⟨g21, 0, none⟩ = some (.slice R0 n U0) := (cell_blk (HBR.out.block _ (cell_lt H87.out.2.2.2.1))).trans H87.out.2.2.2.1
           obtain ⟨x, hx⟩ : ∃ x, gl[k]? = some x := ⟨_, List.getElem?_eq_getElem (by rw [HGN.out]; exact hlt)⟩
           obtain ⟨bp1, op1, rfl, p1⟩ : ∃ b o, P0 = some ⟨b, o, none⟩ ∧ wr.cell? ⟨b, o + k, none⟩ = some (.int .i64 x) := by
            obtain ⟨a', c', e', -, h2⟩ := HSW.out.1.below HBR.out
            simp only [Value.slice.injEq] at e'
            obtain ⟨b', o', e1, -, h3⟩ := h2 (fun e => by rw [e] at hx; simp at hx)
            exact ⟨b', o', e'.1.trans e1, by have := h3 k _ hx 0 _ rfl; simpa using this⟩
           obtain ⟨bp2, op2, rfl, p2⟩ : ∃ b o, R0 = some ⟨b, o, none⟩ ∧ wr.cell? ⟨b, o + k, none⟩ = some (.int .i64 x) := by
            obtain ⟨a', c', e', -, h2⟩ := HSW.out.2.below HBR.out
            simp only [Value.slice.injEq] at e'
            obtain ⟨b', o', e1, -, h3⟩ := h2 (fun e => by rw [e] at hx; simp at hx)
            exact ⟨b', o', e'.1.trans e1, by have := h3 k _ hx 0 _ rfl; simpa using this⟩
           have exx : (x != x) = false := by simp
           have ek : IntKind.i64.wrap ((k : Int) + 1) = (k : Int) + 1 := IntWalk.i64_in _ (by have h1 := hcnt_len h; have h2 := HN.out; omega)
           clear hx
           go_wp2_with fail
           go_quiet (fail)
           go_wp2_with fail
           go_roundg (n - (k + 1))
           case measure => omega
           case rel => exact ⟨k + 1, by omega, by omega, by go_num, HBR.out.trans (by (repeat' (first | exact Below.refl _ _ | assumption | (with_reducible refine Below.drew ?_) | (with_reducible refine Below.setCell ?_ (by (first | (simp; done) | (simp; omega))) _) | (with_reducible refine below_drewN' ?_ _) | (refine Below.alloc ?_ (by (try simp only [World.size_alloc, World.size_drew, World.size_setCell]); omega) _) | (refine Below.trans ?_ (Below.mono (by assumption) (by (try simp only [World.size_alloc, World.size_drew, World.size_setCell]); omega))))))⟩
          ·have hltz : ¬ (k : Int) < (n : Int) := by omega
           have a87 : wr.cell? ⟨g8, 7, none⟩ = some (.bool ov) := (cell_blk (HBR.out.block _ (cell_lt H87.out.1))).trans H87.out.1
           have a185 : wr.cell? ⟨g18, 5, none⟩ = some (.bool ov) := (cell_blk (HBR.out.block _ (cell_lt H87.out.2.1))).trans H87.out.2.1
           have eoo : (ov == ov) = true := by simp
           have HFIN : Aside (Below w.heap.size w wr) := HWB.out _ (HBI.out.2.trans (HBR.out.mono HBI.out.2.size))
           go_wp2_with fail
           refine (HK.out _).mono ?_
           rintro e w9 ⟨rfl, hb9⟩
           go_wp2
           go_ret
           exact ⟨rfl, HFIN.out.trans (hb9.mono HFIN.out.size)⟩
end
end Go.Proofs.Ytpgamgbfjcmagaa
