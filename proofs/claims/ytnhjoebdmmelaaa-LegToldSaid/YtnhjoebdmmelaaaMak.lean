/- Leg: parts V. -/
import Derived.Test.YtnhjoebdmmelaaaMaj
set_option linter.unusedVariables false
set_option linter.unusedSimpArgs false
namespace Go.Proofs.Ytnhjoebdmmelaaa
section
open Go.RowKit Go.Maps Go.Sort Go.Shelf Go.Deep
def passF (r : LegR) (g : LegG) : Int × Int × Bool :=
 let nx := (g.next + 1) % (r.counts.length : Int)
 let comp := nx == r.first
 let rd := if comp = true then g.round + 1 else g.round
 if ((!g.ended.isEmpty && (comp || !r.equal)) || (comp && rd == r.rounds)) = true then (-1, rd, true) else (nx, rd, false)
def passG (r : LegR) (g : LegG) : LegG :=
 if (passF r g).2.2 = true then { g with next := -1, round := (passF r g).2.1, over := true, wins := winL g } else { g with next := (passF r g).1, round := (passF r g).2.1 }
def PassOk (V : Nat) (B : Value → Int → Int → Bool → Obj) (vw : Value) (ov : Bool) (res : Int × Int × Bool) (wn : List Int) (w : World) (e : Ending) (w' : World) : Prop :=
 (∃ v, e = .returned v) ∧ Only V w w' ∧ (if res.2.2 = true then ∃ gw cw, w'.heap[V]? = some (B (rowV gw wn.length cw) res.1 res.2.1 true) ∧ w.heap.size ≤ gw ∧ Sl w' 1 eI (rowV gw wn.length cw) wn else w'.heap[V]? = some (B vw res.1 res.2.1 ov))
theorem owns_form' {w : World} {b : Nat} {e : TypeId} {v : Value} {n : Nat} {xs : List Value} (h : w.ownsRow b e 1 v n xs) (hn : 0 < n) : ∃ g c, v = .slice (some ⟨g, 0, none⟩) n c := by
 rcases h.2 with ⟨_, h0⟩ | ⟨g, cap, cur, e, _⟩
 ·omega
 ·exact ⟨g, cap, e⟩
theorem sl_of_owns' {w : World} {b g c : Nat} {xs : List Int} (h : w.ownsRow b 3 1 (rowV g xs.length c) xs.length (xs.map (Value.int .i64))) (hne : xs ≠ []) : Sl w 1 eI (rowV g xs.length c) xs := by
 refine sl_of_owns ?_ h rfl (fun e => absurd e hne)
 rcases h.2 with ⟨h0, _⟩ | ⟨g', cap, cur, e1, hb, hg, h1, h2, _⟩
 ·cases h0
 ·unfold maxLen at h2; omega
theorem row_base {w : World} {b g c n : Nat} {e : TypeId} {xs : List Value} (h : w.ownsRow b e 1 (rowV g n c) n xs) (hn : 0 < n) : b ≤ g := by
 rcases h.2 with ⟨h0, _⟩ | ⟨g', cap, cur, e1, hb, _⟩
 ·cases h0
 ·simp only [Value.slice.injEq, Option.some.injEq, Addr.mk.injEq, and_true, true_and] at e1
  omega
theorem ownsMap_same {w w' : World} {M n : Nat} {D : DataW Unit} (h : OwnM w M n D) (hb : w'.heap[M]? = w.heap[M]?) : OwnM w' M n D := by
 obtain ⟨es, clock, hbb, rest⟩ := h
 exact ⟨es, clock, hb.trans hbb, rest⟩
set_option maxRecDepth 100000 in
set_option maxHeartbeats 8000000 in
theorem pass_c_won (V gl gd gi M cl cd ci nn n : Nat) (a : Option Addr) (cp : Nat) (vw : Value) (first rounds nx0 rd0 nx : Int) (equal ov : Bool) (D : DataW Unit) (wn : List Int) (w : World)
  (hV : w.heap[V]? = some (.cells #[.slice a n cp, .int .i64 first, .int .i64 rounds, .bool equal, rowV gl n cl, rowV gd n cd, rowV gi n ci, .int .i64 nx0, .int .i64 rd0, .bool ov, vw, .map (some M)] 118 (0, 0))) (hown : OwnM w M nn D) (n0 : ¬ n = 0) (n1 : n ≤ 1000) (x0 : 0 ≤ nx0) (x1 : nx0 < 1000) (hnx : (nx0 + 1) % (n : Int) = nx) (r0 : 0 ≤ rd0) (r1 : rd0 ≤ 1000000) (hne : wn ≠ []) (hMV : M ≠ V)
  (hwin : ∀ W, Only V w W → W.heap[V]? ≠ none → (∃ rd, W.heap[V]? = some (.cells #[.slice a n cp, .int .i64 first, .int .i64 rounds, .bool equal, rowV gl n cl, rowV gd n cd, rowV gi n ci, .int .i64 nx, .int .i64 rd, .bool ov, vw, .map (some M)] 118 (0, 0))) → Calls Try.prog 88 #[.pointer (some ⟨V, 0, none⟩)] W (RetOwn wn W)) (hcomp : (nx == first) = true) (hE : 0 < ((Maps.size D : Nat) : Int)) :
  Calls Try.prog 76 #[.pointer (some ⟨V, 0, none⟩)] w (PassOk V (fun u x y o => .cells #[.slice a n cp, .int .i64 first, .int .i64 rounds, .bool equal, rowV gl n cl, rowV gd n cd, rowV gi n ci, .int .i64 x, .int .i64 y, .bool o, u, .map (some M)] 118 (0, 0)) vw ov (-1, rd0 + 1, true) wn w) := by
 have hlt : V < w.heap.size := (Array.getElem?_eq_some_iff.1 hV).1
 have HV : Aside (w.heap[V]? = some (.cells #[.slice a n cp, .int .i64 first, .int .i64 rounds, .bool equal, rowV gl n cl, rowV gd n cd, rowV gi n ci, .int .i64 nx0, .int .i64 rd0, .bool ov, vw, .map (some M)] 118 (0, 0))) := hV
 have HO : Aside (OwnM w M nn D) := hown
 have HWN : Aside (∀ W, Only V w W → W.heap[V]? ≠ none → (∃ rd, W.heap[V]? = some (.cells #[.slice a n cp, .int .i64 first, .int .i64 rounds, .bool equal, rowV gl n cl, rowV gd n cd, rowV gi n ci, .int .i64 nx, .int .i64 rd, .bool ov, vw, .map (some M)] 118 (0, 0))) → Calls Try.prog 88 #[.pointer (some ⟨V, 0, none⟩)] W (RetOwn wn W)) := hwin
 have HNE : Aside (wn ≠ []) := hne
 have k7 : w.cell? ⟨V, 7, none⟩ = some (.int .i64 nx0) := blk_cell hV rfl
 have k0 : w.cell? ⟨V, 0, none⟩ = some (.slice a n cp) := blk_cell hV rfl
 have MA : Aside (∀ w', Below w.heap.size w w' → (Below w.heap.size w w' ∧ w'.cell? ⟨V, 7, none⟩ = some (.int .i64 nx0) ∧ w'.cell? ⟨V, 0, none⟩ = some (.slice a n cp))) := fun w' hB => ⟨hB, keepc hB k7, keepc hB k0⟩
 have e1 : IntKind.i64.wrap (nx0 + 1) = nx0 + 1 := IntWalk.i64_in _ (by omega)
 have e2 : Int.tmod (nx0 + 1) (n : Int) = nx := by rw [Int.tmod_eq_emod_of_nonneg (by omega)]; exact hnx
 clear hV hown hwin hne hnx
 go_enter Try.func76, Try.ntmps76
 go_wp2_with fail
 refine region_tail 17 (fun w' => Below w.heap.size w w' ∧ w'.cell? ⟨V, 7, none⟩ = some (.int .i64 nx0) ∧ w'.cell? ⟨V, 0, none⟩ = some (.slice a n cp)) 20 (by kernel_rfl) (by decide +kernel) (MA.out _ ((Below.refl _ _).drew)) ?_
 simp only [List.take_succ_cons, List.take_zero]
 iterate 17 (first | go_big_quiet_skip | (go_big_quiet_want; unfold Oper.quiet; apply Exists.intro; refine ⟨fun W hW => ?_, ?_⟩; (go_split_ands; unfold Oper.quietAt; go_simp; first | rfl | exact ⟨rfl, rfl⟩ | fail); go_big_quiet_on; (try simp only [Act.put, List.setIfInBounds_toArray, List.set_cons_zero, List.set_cons_succ])))
 refine wpQuiet_nil ?_
 intro wb hwb
 have bb : Below w.heap.size w wb := hwb.1
 clear hwb MA k7 k0
 have vb := (bb.block V hlt).trans HV.out
 have ob : Aside (Only V w wb) := Only.of_below bb
 have mb : Aside (OwnM wb M nn D) := ownsMap_below HO.out bb
 have kb : wb.cell? ⟨V, 7, none⟩ = some (.int .i64 nx0) := blk_cell vb rfl
 have fb := blk_free vb 7
 clear bb HV HO
 refine wpAny_one (i := 17) (by decide +kernel) rfl rfl ?_
 unfold Oper.wp
 go_simp
 refine wpAny_done (by decide +kernel) ?_ _
 obtain ⟨wc, hwc⟩ : ∃ u, u = wb.setCell ⟨V, 7, none⟩ (.int .i64 nx) := ⟨_, rfl⟩
 have vc : wc.heap[V]? = some (.cells #[.slice a n cp, .int .i64 first, .int .i64 rounds, .bool equal, rowV gl n cl, rowV gd n cd, rowV gi n ci, .int .i64 nx, .int .i64 rd0, .bool ov, vw, .map (some M)] 118 (0, 0)) := by rw [hwc]; exact Go.Joins.block_setCell vb _
 have oc : Aside (Only V w wc) := by rw [hwc]; exact ob.out.trans (Only.set _ _ _ _)
 have mc : Aside (OwnM wc M nn D) := by rw [hwc]; exact ownsMap_same mb.out (Below.heap_setCell _ _ _ _ hMV)
 rw [← hwc]
 clear hwc vb ob kb fb e1 e2 mb
 have zc : V < wc.heap.size := (Array.getElem?_eq_some_iff.1 vc).1
 have VC : Aside (wc.heap[V]? = some (.cells #[.slice a n cp, .int .i64 first, .int .i64 rounds, .bool equal, rowV gl n cl, rowV gd n cd, rowV gi n ci, .int .i64 nx, .int .i64 rd0, .bool ov, vw, .map (some M)] 118 (0, 0))) := vc
 have k7 : wc.cell? ⟨V, 7, none⟩ = some (.int .i64 nx) := blk_cell vc rfl
 have k1 : wc.cell? ⟨V, 1, none⟩ = some (.int .i64 first) := blk_cell vc rfl
 have MC : Aside (∀ w', Below wc.heap.size wc w' → (Below wc.heap.size wc w' ∧ w'.cell? ⟨V, 7, none⟩ = some (.int .i64 nx) ∧ w'.cell? ⟨V, 1, none⟩ = some (.int .i64 first))) := fun w' hB => ⟨hB, keepc hB k7, keepc hB k1⟩
 clear vc
 go_wp2_with fail
 refine region_class (fun w' => Below wc.heap.size wc w' ∧ w'.cell? ⟨V, 7, none⟩ = some (.int .i64 nx) ∧ w'.cell? ⟨V, 1, none⟩ = some (.int .i64 first)) (by kernel_rfl) (by kernel_rfl) (MC.out _ ((Below.refl _ _).drew)) ?_
 iterate 12 (first | go_big_quiet_skip | (go_big_quiet_want; unfold Oper.quiet; apply Exists.intro; refine ⟨fun W hW => ?_, ?_⟩; (go_split_ands; unfold Oper.quietAt; go_simp; first | rfl | exact ⟨rfl, rfl⟩ | fail); go_big_quiet_on; (try simp only [Act.put, List.setIfInBounds_toArray, List.set_cons_zero, List.set_cons_succ])))
 refine wpQuiet_nil ?_
 intro wd hwd
 have bd : Below wc.heap.size wc wd := hwd.1
 clear hwd MC k7 k1
 have vd := (bd.block V zc).trans VC.out
 have od : Aside (Only V w wd) := oc.out.trans (Only.of_below bd)
 have md : Aside (OwnM wd M nn D) := ownsMap_below mc.out bd
 clear bd VC oc mc zc
 have k8 : wd.cell? ⟨V, 8, none⟩ = some (.int .i64 rd0) := blk_cell vd rfl
 have k11 : wd.cell? ⟨V, 11, none⟩ = some (.map (some M)) := blk_cell vd rfl
 have k3 : wd.cell? ⟨V, 3, none⟩ = some (.bool equal) := blk_cell vd rfl
 have f8 := blk_free vd 8
 have VE : Aside ((wd.setCell ⟨V, 8, none⟩ (.int .i64 (rd0 + 1))).heap[V]? = some (.cells #[.slice a n cp, .int .i64 first, .int .i64 rounds, .bool equal, rowV gl n cl, rowV gd n cd, rowV gi n ci, .int .i64 nx, .int .i64 (rd0 + 1), .bool ov, vw, .map (some M)] 118 (0, 0))) := Go.Joins.block_setCell vd _
 have OE : Aside (Only V w (wd.setCell ⟨V, 8, none⟩ (.int .i64 (rd0 + 1)))) := od.out.trans (Only.set _ _ _ _)
 have ME : OwnM (wd.setCell ⟨V, 8, none⟩ (.int .i64 (rd0 + 1))) M nn D := ownsMap_same md.out (Below.heap_setCell _ _ _ _ hMV)
 clear vd od md
 go_wp2_with (at_len; refine wpList_len_own _ rfl _ 116 rfl 3 3 Try.underlying116 _ M nn _ rfl ME ?_)
 obtain ⟨we, hwe⟩ : ∃ u, u = (wd.setCell ⟨V, 8, none⟩ (.int .i64 (rd0 + 1))) := ⟨_, rfl⟩
 have ve : we.heap[V]? = some (.cells #[.slice a n cp, .int .i64 first, .int .i64 rounds, .bool equal, rowV gl n cl, rowV gd n cd, rowV gi n ci, .int .i64 nx, .int .i64 (rd0 + 1), .bool ov, vw, .map (some M)] 118 (0, 0)) := by rw [hwe]; exact VE.out
 have oe : Aside (Only V w we) := by rw [hwe]; exact OE.out
 rw [← hwe]
 clear hwe VE OE ME k8 k11 k3 f8
 have ze : V < we.heap.size := (Array.getElem?_eq_some_iff.1 ve).1
 have j8 : we.cell? ⟨V, 8, none⟩ = some (.int .i64 (rd0 + 1)) := blk_cell ve rfl
 have j2 : we.cell? ⟨V, 2, none⟩ = some (.int .i64 rounds) := blk_cell ve rfl
 have ME2 : Aside (∀ w', Below we.heap.size we w' → (Below we.heap.size we w' ∧ w'.cell? ⟨V, 8, none⟩ = some (.int .i64 (rd0 + 1)) ∧ w'.cell? ⟨V, 2, none⟩ = some (.int .i64 rounds))) := fun w' hB => ⟨hB, keepc hB j8, keepc hB j2⟩
 refine region_class (fun w' => Below we.heap.size we w' ∧ w'.cell? ⟨V, 8, none⟩ = some (.int .i64 (rd0 + 1)) ∧ w'.cell? ⟨V, 2, none⟩ = some (.int .i64 rounds)) (by kernel_rfl) (by kernel_rfl) (ME2.out _ ((Below.refl _ _).drew)) ?_
 iterate 17 (first | go_big_quiet_skip | (go_big_quiet_want; unfold Oper.quiet; apply Exists.intro; refine ⟨fun W hW => ?_, ?_⟩; (go_split_ands; unfold Oper.quietAt; go_simp; first | rfl | exact ⟨rfl, rfl⟩ | fail); go_big_quiet_on; (try simp only [Act.put, List.setIfInBounds_toArray, List.set_cons_zero, List.set_cons_succ])))
 refine wpQuiet_nil ?_
 intro wf hwf
 have bf : Below we.heap.size we wf := hwf.1
 clear hwf ME2 j8 j2
 have vf := (bf.block V ze).trans ve
 have of : Aside (Only V w wf) := oe.out.trans (Only.of_below bf)
 clear bf ve oe ze
 have xw := HWN.out wf of.out (by rw [vf]; simp) ⟨_, vf⟩
 go_wp2_with fail
 refine xw.mono ?_
 rintro e wg ⟨vg, rfl, hrow, hnil, hbg⟩
 obtain ⟨gw, cw, rfl⟩ := owns_form' hrow (List.length_pos_iff.2 HNE.out)
 have hsl : Aside (Sl wg 1 eI (rowV gw wn.length cw) wn) := sl_of_owns' hrow HNE.out
 have hgw : Aside (w.heap.size ≤ gw ∧ gw ≠ V) := by
  have h1 := (row_base hrow (List.length_pos_iff.2 HNE.out))
  have h2 := of.out.size
  exact ⟨by omega, by omega⟩
 have vg := (hbg.block V (Array.getElem?_eq_some_iff.1 vf).1).trans vf
 have og : Aside (Only V w wg) := of.out.trans (Only.of_below hbg)
 clear hrow hnil hbg vf of xw
 have j9 : wg.cell? ⟨V, 9, none⟩ = some (.bool ov) := blk_cell vg rfl
 have j7 : wg.cell? ⟨V, 7, none⟩ = some (.int .i64 nx) := blk_cell vg rfl
 have j10 : wg.cell? ⟨V, 10, none⟩ = some vw := blk_cell vg rfl
 have jf := blk_free vg
 have VG : Aside (wg.heap[V]? = some (.cells #[.slice a n cp, .int .i64 first, .int .i64 rounds, .bool equal, rowV gl n cl, rowV gd n cd, rowV gi n ci, .int .i64 nx, .int .i64 (rd0 + 1), .bool ov, vw, .map (some M)] 118 (0, 0))) := vg
 clear vg
 go_wp2
 refine bodyPost_ret (results_none rfl _ _ _) rfl ?_
 have hO : Only V wg (((wg.setCell ⟨V, 9, none⟩ (.bool true)).setCell ⟨V, 7, none⟩ (.int .i64 (-1))).setCell ⟨V, 10, none⟩ (rowV gw wn.length cw)) := ((Only.set V 9 _ _).trans (Only.set V 7 _ _)).trans (Only.set V 10 _ _)
 refine ⟨⟨_, rfl⟩, og.out.trans hO, ?_⟩
 simp only [if_true]
 exact ⟨gw, cw, Go.Joins.block_setCell (Go.Joins.block_setCell (Go.Joins.block_setCell VG.out _) _) _, hgw.out.1, hO.sl (fun g o e => by have h2 := hgw.out.2; simp at e; omega) hsl.out⟩
set_option maxRecDepth 100000 in
set_option maxHeartbeats 8000000 in
theorem pass_c_rr (V gl gd gi M cl cd ci nn n : Nat) (a : Option Addr) (cp : Nat) (vw : Value) (first rounds nx0 rd0 nx : Int) (equal ov : Bool) (D : DataW Unit) (wn : List Int) (w : World)
  (hV : w.heap[V]? = some (.cells #[.slice a n cp, .int .i64 first, .int .i64 rounds, .bool equal, rowV gl n cl, rowV gd n cd, rowV gi n ci, .int .i64 nx0, .int .i64 rd0, .bool ov, vw, .map (some M)] 118 (0, 0))) (hown : OwnM w M nn D) (n0 : ¬ n = 0) (n1 : n ≤ 1000) (x0 : 0 ≤ nx0) (x1 : nx0 < 1000) (hnx : (nx0 + 1) % (n : Int) = nx) (r0 : 0 ≤ rd0) (r1 : rd0 ≤ 1000000) (hne : wn ≠ []) (hMV : M ≠ V)
  (hwin : ∀ W, Only V w W → W.heap[V]? ≠ none → (∃ rd, W.heap[V]? = some (.cells #[.slice a n cp, .int .i64 first, .int .i64 rounds, .bool equal, rowV gl n cl, rowV gd n cd, rowV gi n ci, .int .i64 nx, .int .i64 rd, .bool ov, vw, .map (some M)] 118 (0, 0))) → Calls Try.prog 88 #[.pointer (some ⟨V, 0, none⟩)] W (RetOwn wn W)) (hcomp : (nx == first) = true) (hE : Maps.size D = 0) (hrr : (rd0 + 1 == rounds) = true) :
  Calls Try.prog 76 #[.pointer (some ⟨V, 0, none⟩)] w (PassOk V (fun u x y o => .cells #[.slice a n cp, .int .i64 first, .int .i64 rounds, .bool equal, rowV gl n cl, rowV gd n cd, rowV gi n ci, .int .i64 x, .int .i64 y, .bool o, u, .map (some M)] 118 (0, 0)) vw ov (-1, rd0 + 1, true) wn w) := by
 have hlt : V < w.heap.size := (Array.getElem?_eq_some_iff.1 hV).1
 have HV : Aside (w.heap[V]? = some (.cells #[.slice a n cp, .int .i64 first, .int .i64 rounds, .bool equal, rowV gl n cl, rowV gd n cd, rowV gi n ci, .int .i64 nx0, .int .i64 rd0, .bool ov, vw, .map (some M)] 118 (0, 0))) := hV
 have HO : Aside (OwnM w M nn D) := hown
 have HWN : Aside (∀ W, Only V w W → W.heap[V]? ≠ none → (∃ rd, W.heap[V]? = some (.cells #[.slice a n cp, .int .i64 first, .int .i64 rounds, .bool equal, rowV gl n cl, rowV gd n cd, rowV gi n ci, .int .i64 nx, .int .i64 rd, .bool ov, vw, .map (some M)] 118 (0, 0))) → Calls Try.prog 88 #[.pointer (some ⟨V, 0, none⟩)] W (RetOwn wn W)) := hwin
 have HNE : Aside (wn ≠ []) := hne
 have k7 : w.cell? ⟨V, 7, none⟩ = some (.int .i64 nx0) := blk_cell hV rfl
 have k0 : w.cell? ⟨V, 0, none⟩ = some (.slice a n cp) := blk_cell hV rfl
 have MA : Aside (∀ w', Below w.heap.size w w' → (Below w.heap.size w w' ∧ w'.cell? ⟨V, 7, none⟩ = some (.int .i64 nx0) ∧ w'.cell? ⟨V, 0, none⟩ = some (.slice a n cp))) := fun w' hB => ⟨hB, keepc hB k7, keepc hB k0⟩
 have e1 : IntKind.i64.wrap (nx0 + 1) = nx0 + 1 := IntWalk.i64_in _ (by omega)
 have e2 : Int.tmod (nx0 + 1) (n : Int) = nx := by rw [Int.tmod_eq_emod_of_nonneg (by omega)]; exact hnx
 clear hV hown hwin hne hnx
 go_enter Try.func76, Try.ntmps76
 go_wp2_with fail
 refine region_tail 17 (fun w' => Below w.heap.size w w' ∧ w'.cell? ⟨V, 7, none⟩ = some (.int .i64 nx0) ∧ w'.cell? ⟨V, 0, none⟩ = some (.slice a n cp)) 20 (by kernel_rfl) (by decide +kernel) (MA.out _ ((Below.refl _ _).drew)) ?_
 simp only [List.take_succ_cons, List.take_zero]
 iterate 17 (first | go_big_quiet_skip | (go_big_quiet_want; unfold Oper.quiet; apply Exists.intro; refine ⟨fun W hW => ?_, ?_⟩; (go_split_ands; unfold Oper.quietAt; go_simp; first | rfl | exact ⟨rfl, rfl⟩ | fail); go_big_quiet_on; (try simp only [Act.put, List.setIfInBounds_toArray, List.set_cons_zero, List.set_cons_succ])))
 refine wpQuiet_nil ?_
 intro wb hwb
 have bb : Below w.heap.size w wb := hwb.1
 clear hwb MA k7 k0
 have vb := (bb.block V hlt).trans HV.out
 have ob : Aside (Only V w wb) := Only.of_below bb
 have mb : Aside (OwnM wb M nn D) := ownsMap_below HO.out bb
 have kb : wb.cell? ⟨V, 7, none⟩ = some (.int .i64 nx0) := blk_cell vb rfl
 have fb := blk_free vb 7
 clear bb HV HO
 refine wpAny_one (i := 17) (by decide +kernel) rfl rfl ?_
 unfold Oper.wp
 go_simp
 refine wpAny_done (by decide +kernel) ?_ _
 obtain ⟨wc, hwc⟩ : ∃ u, u = wb.setCell ⟨V, 7, none⟩ (.int .i64 nx) := ⟨_, rfl⟩
 have vc : wc.heap[V]? = some (.cells #[.slice a n cp, .int .i64 first, .int .i64 rounds, .bool equal, rowV gl n cl, rowV gd n cd, rowV gi n ci, .int .i64 nx, .int .i64 rd0, .bool ov, vw, .map (some M)] 118 (0, 0)) := by rw [hwc]; exact Go.Joins.block_setCell vb _
 have oc : Aside (Only V w wc) := by rw [hwc]; exact ob.out.trans (Only.set _ _ _ _)
 have mc : Aside (OwnM wc M nn D) := by rw [hwc]; exact ownsMap_same mb.out (Below.heap_setCell _ _ _ _ hMV)
 rw [← hwc]
 clear hwc vb ob kb fb e1 e2 mb
 have zc : V < wc.heap.size := (Array.getElem?_eq_some_iff.1 vc).1
 have VC : Aside (wc.heap[V]? = some (.cells #[.slice a n cp, .int .i64 first, .int .i64 rounds, .bool equal, rowV gl n cl, rowV gd n cd, rowV gi n ci, .int .i64 nx, .int .i64 rd0, .bool ov, vw, .map (some M)] 118 (0, 0))) := vc
 have k7 : wc.cell? ⟨V, 7, none⟩ = some (.int .i64 nx) := blk_cell vc rfl
 have k1 : wc.cell? ⟨V, 1, none⟩ = some (.int .i64 first) := blk_cell vc rfl
 have MC : Aside (∀ w', Below wc.heap.size wc w' → (Below wc.heap.size wc w' ∧ w'.cell? ⟨V, 7, none⟩ = some (.int .i64 nx) ∧ w'.cell? ⟨V, 1, none⟩ = some (.int .i64 first))) := fun w' hB => ⟨hB, keepc hB k7, keepc hB k1⟩
 clear vc
 go_wp2_with fail
 refine region_class (fun w' => Below wc.heap.size wc w' ∧ w'.cell? ⟨V, 7, none⟩ = some (.int .i64 nx) ∧ w'.cell? ⟨V, 1, none⟩ = some (.int .i64 first)) (by kernel_rfl) (by kernel_rfl) (MC.out _ ((Below.refl _ _).drew)) ?_
 iterate 12 (first | go_big_quiet_skip | (go_big_quiet_want; unfold Oper.quiet; apply Exists.intro; refine ⟨fun W hW => ?_, ?_⟩; (go_split_ands; unfold Oper.quietAt; go_simp; first | rfl | exact ⟨rfl, rfl⟩ | fail); go_big_quiet_on; (try simp only [Act.put, List.setIfInBounds_toArray, List.set_cons_zero, List.set_cons_succ])))
 refine wpQuiet_nil ?_
 intro wd hwd
 have bd : Below wc.heap.size wc wd := hwd.1
 clear hwd MC k7 k1
 have vd := (bd.block V zc).trans VC.out
 have od : Aside (Only V w wd) := oc.out.trans (Only.of_below bd)
 have md : Aside (OwnM wd M nn D) := ownsMap_below mc.out bd
 clear bd VC oc mc zc
 have k8 : wd.cell? ⟨V, 8, none⟩ = some (.int .i64 rd0) := blk_cell vd rfl
 have k11 : wd.cell? ⟨V, 11, none⟩ = some (.map (some M)) := blk_cell vd rfl
 have k3 : wd.cell? ⟨V, 3, none⟩ = some (.bool equal) := blk_cell vd rfl
 have f8 := blk_free vd 8
 have VE : Aside ((wd.setCell ⟨V, 8, none⟩ (.int .i64 (rd0 + 1))).heap[V]? = some (.cells #[.slice a n cp, .int .i64 first, .int .i64 rounds, .bool equal, rowV gl n cl, rowV gd n cd, rowV gi n ci, .int .i64 nx, .int .i64 (rd0 + 1), .bool ov, vw, .map (some M)] 118 (0, 0))) := Go.Joins.block_setCell vd _
 have OE : Aside (Only V w (wd.setCell ⟨V, 8, none⟩ (.int .i64 (rd0 + 1)))) := od.out.trans (Only.set _ _ _ _)
 have ME : OwnM (wd.setCell ⟨V, 8, none⟩ (.int .i64 (rd0 + 1))) M nn D := ownsMap_same md.out (Below.heap_setCell _ _ _ _ hMV)
 clear vd od md
 go_wp2_with (at_len; refine wpList_len_own _ rfl _ 116 rfl 3 3 Try.underlying116 _ M nn _ rfl ME ?_)
 obtain ⟨we, hwe⟩ : ∃ u, u = (wd.setCell ⟨V, 8, none⟩ (.int .i64 (rd0 + 1))) := ⟨_, rfl⟩
 have ve : we.heap[V]? = some (.cells #[.slice a n cp, .int .i64 first, .int .i64 rounds, .bool equal, rowV gl n cl, rowV gd n cd, rowV gi n ci, .int .i64 nx, .int .i64 (rd0 + 1), .bool ov, vw, .map (some M)] 118 (0, 0)) := by rw [hwe]; exact VE.out
 have oe : Aside (Only V w we) := by rw [hwe]; exact OE.out
 rw [← hwe]
 clear hwe VE OE ME k8 k11 k3 f8
 have ze : V < we.heap.size := (Array.getElem?_eq_some_iff.1 ve).1
 have j8 : we.cell? ⟨V, 8, none⟩ = some (.int .i64 (rd0 + 1)) := blk_cell ve rfl
 have j2 : we.cell? ⟨V, 2, none⟩ = some (.int .i64 rounds) := blk_cell ve rfl
 have ME2 : Aside (∀ w', Below we.heap.size we w' → (Below we.heap.size we w' ∧ w'.cell? ⟨V, 8, none⟩ = some (.int .i64 (rd0 + 1)) ∧ w'.cell? ⟨V, 2, none⟩ = some (.int .i64 rounds))) := fun w' hB => ⟨hB, keepc hB j8, keepc hB j2⟩
 refine region_class (fun w' => Below we.heap.size we w' ∧ w'.cell? ⟨V, 8, none⟩ = some (.int .i64 (rd0 + 1)) ∧ w'.cell? ⟨V, 2, none⟩ = some (.int .i64 rounds)) (by kernel_rfl) (by kernel_rfl) (ME2.out _ ((Below.refl _ _).drew)) ?_
 iterate 17 (first | go_big_quiet_skip | (go_big_quiet_want; unfold Oper.quiet; apply Exists.intro; refine ⟨fun W hW => ?_, ?_⟩; (go_split_ands; unfold Oper.quietAt; go_simp; first | rfl | exact ⟨rfl, rfl⟩ | fail); go_big_quiet_on; (try simp only [Act.put, List.setIfInBounds_toArray, List.set_cons_zero, List.set_cons_succ])))
 refine wpQuiet_nil ?_
 intro wf hwf
 have bf : Below we.heap.size we wf := hwf.1
 clear hwf ME2 j8 j2
 have vf := (bf.block V ze).trans ve
 have of : Aside (Only V w wf) := oe.out.trans (Only.of_below bf)
 clear bf ve oe ze
 have xw := HWN.out wf of.out (by rw [vf]; simp) ⟨_, vf⟩
 go_wp2_with fail
 refine xw.mono ?_
 rintro e wg ⟨vg, rfl, hrow, hnil, hbg⟩
 obtain ⟨gw, cw, rfl⟩ := owns_form' hrow (List.length_pos_iff.2 HNE.out)
 have hsl : Aside (Sl wg 1 eI (rowV gw wn.length cw) wn) := sl_of_owns' hrow HNE.out
 have hgw : Aside (w.heap.size ≤ gw ∧ gw ≠ V) := by
  have h1 := (row_base hrow (List.length_pos_iff.2 HNE.out))
  have h2 := of.out.size
  exact ⟨by omega, by omega⟩
 have vg := (hbg.block V (Array.getElem?_eq_some_iff.1 vf).1).trans vf
 have og : Aside (Only V w wg) := of.out.trans (Only.of_below hbg)
 clear hrow hnil hbg vf of xw
 have j9 : wg.cell? ⟨V, 9, none⟩ = some (.bool ov) := blk_cell vg rfl
 have j7 : wg.cell? ⟨V, 7, none⟩ = some (.int .i64 nx) := blk_cell vg rfl
 have j10 : wg.cell? ⟨V, 10, none⟩ = some vw := blk_cell vg rfl
 have jf := blk_free vg
 have VG : Aside (wg.heap[V]? = some (.cells #[.slice a n cp, .int .i64 first, .int .i64 rounds, .bool equal, rowV gl n cl, rowV gd n cd, rowV gi n ci, .int .i64 nx, .int .i64 (rd0 + 1), .bool ov, vw, .map (some M)] 118 (0, 0))) := vg
 clear vg
 go_wp2
 refine bodyPost_ret (results_none rfl _ _ _) rfl ?_
 have hO : Only V wg (((wg.setCell ⟨V, 9, none⟩ (.bool true)).setCell ⟨V, 7, none⟩ (.int .i64 (-1))).setCell ⟨V, 10, none⟩ (rowV gw wn.length cw)) := ((Only.set V 9 _ _).trans (Only.set V 7 _ _)).trans (Only.set V 10 _ _)
 refine ⟨⟨_, rfl⟩, og.out.trans hO, ?_⟩
 simp only [if_true]
 exact ⟨gw, cw, Go.Joins.block_setCell (Go.Joins.block_setCell (Go.Joins.block_setCell VG.out _) _) _, hgw.out.1, hO.sl (fun g o e => by have h2 := hgw.out.2; simp at e; omega) hsl.out⟩
set_option maxRecDepth 100000 in
set_option maxHeartbeats 8000000 in
theorem pass_c_no (V gl gd gi M cl cd ci nn n : Nat) (a : Option Addr) (cp : Nat) (vw : Value) (first rounds nx0 rd0 nx : Int) (equal ov : Bool) (D : DataW Unit) (wn : List Int) (w : World)
  (hV : w.heap[V]? = some (.cells #[.slice a n cp, .int .i64 first, .int .i64 rounds, .bool equal, rowV gl n cl, rowV gd n cd, rowV gi n ci, .int .i64 nx0, .int .i64 rd0, .bool ov, vw, .map (some M)] 118 (0, 0))) (hown : OwnM w M nn D) (n0 : ¬ n = 0) (n1 : n ≤ 1000) (x0 : 0 ≤ nx0) (x1 : nx0 < 1000) (hnx : (nx0 + 1) % (n : Int) = nx) (r0 : 0 ≤ rd0) (r1 : rd0 ≤ 1000000) (hne : wn ≠ []) (hMV : M ≠ V)
  (hwin : ∀ W, Only V w W → W.heap[V]? ≠ none → (∃ rd, W.heap[V]? = some (.cells #[.slice a n cp, .int .i64 first, .int .i64 rounds, .bool equal, rowV gl n cl, rowV gd n cd, rowV gi n ci, .int .i64 nx, .int .i64 rd, .bool ov, vw, .map (some M)] 118 (0, 0))) → Calls Try.prog 88 #[.pointer (some ⟨V, 0, none⟩)] W (RetOwn wn W)) (hcomp : (nx == first) = true) (hE : Maps.size D = 0) (hrr : (rd0 + 1 == rounds) = false) :
  Calls Try.prog 76 #[.pointer (some ⟨V, 0, none⟩)] w (PassOk V (fun u x y o => .cells #[.slice a n cp, .int .i64 first, .int .i64 rounds, .bool equal, rowV gl n cl, rowV gd n cd, rowV gi n ci, .int .i64 x, .int .i64 y, .bool o, u, .map (some M)] 118 (0, 0)) vw ov (nx, rd0 + 1, false) wn w) := by
 have hlt : V < w.heap.size := (Array.getElem?_eq_some_iff.1 hV).1
 have HV : Aside (w.heap[V]? = some (.cells #[.slice a n cp, .int .i64 first, .int .i64 rounds, .bool equal, rowV gl n cl, rowV gd n cd, rowV gi n ci, .int .i64 nx0, .int .i64 rd0, .bool ov, vw, .map (some M)] 118 (0, 0))) := hV
 have HO : Aside (OwnM w M nn D) := hown
 have HWN : Aside (∀ W, Only V w W → W.heap[V]? ≠ none → (∃ rd, W.heap[V]? = some (.cells #[.slice a n cp, .int .i64 first, .int .i64 rounds, .bool equal, rowV gl n cl, rowV gd n cd, rowV gi n ci, .int .i64 nx, .int .i64 rd, .bool ov, vw, .map (some M)] 118 (0, 0))) → Calls Try.prog 88 #[.pointer (some ⟨V, 0, none⟩)] W (RetOwn wn W)) := hwin
 have HNE : Aside (wn ≠ []) := hne
 have k7 : w.cell? ⟨V, 7, none⟩ = some (.int .i64 nx0) := blk_cell hV rfl
 have k0 : w.cell? ⟨V, 0, none⟩ = some (.slice a n cp) := blk_cell hV rfl
 have MA : Aside (∀ w', Below w.heap.size w w' → (Below w.heap.size w w' ∧ w'.cell? ⟨V, 7, none⟩ = some (.int .i64 nx0) ∧ w'.cell? ⟨V, 0, none⟩ = some (.slice a n cp))) := fun w' hB => ⟨hB, keepc hB k7, keepc hB k0⟩
 have e1 : IntKind.i64.wrap (nx0 + 1) = nx0 + 1 := IntWalk.i64_in _ (by omega)
 have e2 : Int.tmod (nx0 + 1) (n : Int) = nx := by rw [Int.tmod_eq_emod_of_nonneg (by omega)]; exact hnx
 clear hV hown hwin hne hnx
 go_enter Try.func76, Try.ntmps76
 go_wp2_with fail
 refine region_tail 17 (fun w' => Below w.heap.size w w' ∧ w'.cell? ⟨V, 7, none⟩ = some (.int .i64 nx0) ∧ w'.cell? ⟨V, 0, none⟩ = some (.slice a n cp)) 20 (by kernel_rfl) (by decide +kernel) (MA.out _ ((Below.refl _ _).drew)) ?_
 simp only [List.take_succ_cons, List.take_zero]
 iterate 17 (first | go_big_quiet_skip | (go_big_quiet_want; unfold Oper.quiet; apply Exists.intro; refine ⟨fun W hW => ?_, ?_⟩; (go_split_ands; unfold Oper.quietAt; go_simp; first | rfl | exact ⟨rfl, rfl⟩ | fail); go_big_quiet_on; (try simp only [Act.put, List.setIfInBounds_toArray, List.set_cons_zero, List.set_cons_succ])))
 refine wpQuiet_nil ?_
 intro wb hwb
 have bb : Below w.heap.size w wb := hwb.1
 clear hwb MA k7 k0
 have vb := (bb.block V hlt).trans HV.out
 have ob : Aside (Only V w wb) := Only.of_below bb
 have mb : Aside (OwnM wb M nn D) := ownsMap_below HO.out bb
 have kb : wb.cell? ⟨V, 7, none⟩ = some (.int .i64 nx0) := blk_cell vb rfl
 have fb := blk_free vb 7
 clear bb HV HO
 refine wpAny_one (i := 17) (by decide +kernel) rfl rfl ?_
 unfold Oper.wp
 go_simp
 refine wpAny_done (by decide +kernel) ?_ _
 obtain ⟨wc, hwc⟩ : ∃ u, u = wb.setCell ⟨V, 7, none⟩ (.int .i64 nx) := ⟨_, rfl⟩
 have vc : wc.heap[V]? = some (.cells #[.slice a n cp, .int .i64 first, .int .i64 rounds, .bool equal, rowV gl n cl, rowV gd n cd, rowV gi n ci, .int .i64 nx, .int .i64 rd0, .bool ov, vw, .map (some M)] 118 (0, 0)) := by rw [hwc]; exact Go.Joins.block_setCell vb _
 have oc : Aside (Only V w wc) := by rw [hwc]; exact ob.out.trans (Only.set _ _ _ _)
 have mc : Aside (OwnM wc M nn D) := by rw [hwc]; exact ownsMap_same mb.out (Below.heap_setCell _ _ _ _ hMV)
 rw [← hwc]
 clear hwc vb ob kb fb e1 e2 mb
 have zc : V < wc.heap.size := (Array.getElem?_eq_some_iff.1 vc).1
 have VC : Aside (wc.heap[V]? = some (.cells #[.slice a n cp, .int .i64 first, .int .i64 rounds, .bool equal, rowV gl n cl, rowV gd n cd, rowV gi n ci, .int .i64 nx, .int .i64 rd0, .bool ov, vw, .map (some M)] 118 (0, 0))) := vc
 have k7 : wc.cell? ⟨V, 7, none⟩ = some (.int .i64 nx) := blk_cell vc rfl
 have k1 : wc.cell? ⟨V, 1, none⟩ = some (.int .i64 first) := blk_cell vc rfl
 have MC : Aside (∀ w', Below wc.heap.size wc w' → (Below wc.heap.size wc w' ∧ w'.cell? ⟨V, 7, none⟩ = some (.int .i64 nx) ∧ w'.cell? ⟨V, 1, none⟩ = some (.int .i64 first))) := fun w' hB => ⟨hB, keepc hB k7, keepc hB k1⟩
 clear vc
 go_wp2_with fail
 refine region_class (fun w' => Below wc.heap.size wc w' ∧ w'.cell? ⟨V, 7, none⟩ = some (.int .i64 nx) ∧ w'.cell? ⟨V, 1, none⟩ = some (.int .i64 first)) (by kernel_rfl) (by kernel_rfl) (MC.out _ ((Below.refl _ _).drew)) ?_
 iterate 12 (first | go_big_quiet_skip | (go_big_quiet_want; unfold Oper.quiet; apply Exists.intro; refine ⟨fun W hW => ?_, ?_⟩; (go_split_ands; unfold Oper.quietAt; go_simp; first | rfl | exact ⟨rfl, rfl⟩ | fail); go_big_quiet_on; (try simp only [Act.put, List.setIfInBounds_toArray, List.set_cons_zero, List.set_cons_succ])))
 refine wpQuiet_nil ?_
 intro wd hwd
 have bd : Below wc.heap.size wc wd := hwd.1
 clear hwd MC k7 k1
 have vd := (bd.block V zc).trans VC.out
 have od : Aside (Only V w wd) := oc.out.trans (Only.of_below bd)
 have md : Aside (OwnM wd M nn D) := ownsMap_below mc.out bd
 clear bd VC oc mc zc
 have k8 : wd.cell? ⟨V, 8, none⟩ = some (.int .i64 rd0) := blk_cell vd rfl
 have k11 : wd.cell? ⟨V, 11, none⟩ = some (.map (some M)) := blk_cell vd rfl
 have k3 : wd.cell? ⟨V, 3, none⟩ = some (.bool equal) := blk_cell vd rfl
 have f8 := blk_free vd 8
 have VE : Aside ((wd.setCell ⟨V, 8, none⟩ (.int .i64 (rd0 + 1))).heap[V]? = some (.cells #[.slice a n cp, .int .i64 first, .int .i64 rounds, .bool equal, rowV gl n cl, rowV gd n cd, rowV gi n ci, .int .i64 nx, .int .i64 (rd0 + 1), .bool ov, vw, .map (some M)] 118 (0, 0))) := Go.Joins.block_setCell vd _
 have OE : Aside (Only V w (wd.setCell ⟨V, 8, none⟩ (.int .i64 (rd0 + 1)))) := od.out.trans (Only.set _ _ _ _)
 have ME : OwnM (wd.setCell ⟨V, 8, none⟩ (.int .i64 (rd0 + 1))) M nn D := ownsMap_same md.out (Below.heap_setCell _ _ _ _ hMV)
 clear vd od md
 go_wp2_with (at_len; refine wpList_len_own _ rfl _ 116 rfl 3 3 Try.underlying116 _ M nn _ rfl ME ?_)
 obtain ⟨we, hwe⟩ : ∃ u, u = (wd.setCell ⟨V, 8, none⟩ (.int .i64 (rd0 + 1))) := ⟨_, rfl⟩
 have ve : we.heap[V]? = some (.cells #[.slice a n cp, .int .i64 first, .int .i64 rounds, .bool equal, rowV gl n cl, rowV gd n cd, rowV gi n ci, .int .i64 nx, .int .i64 (rd0 + 1), .bool ov, vw, .map (some M)] 118 (0, 0)) := by rw [hwe]; exact VE.out
 have oe : Aside (Only V w we) := by rw [hwe]; exact OE.out
 rw [← hwe]
 clear hwe VE OE ME k8 k11 k3 f8
 have ze : V < we.heap.size := (Array.getElem?_eq_some_iff.1 ve).1
 have j8 : we.cell? ⟨V, 8, none⟩ = some (.int .i64 (rd0 + 1)) := blk_cell ve rfl
 have j2 : we.cell? ⟨V, 2, none⟩ = some (.int .i64 rounds) := blk_cell ve rfl
 have ME2 : Aside (∀ w', Below we.heap.size we w' → (Below we.heap.size we w' ∧ w'.cell? ⟨V, 8, none⟩ = some (.int .i64 (rd0 + 1)) ∧ w'.cell? ⟨V, 2, none⟩ = some (.int .i64 rounds))) := fun w' hB => ⟨hB, keepc hB j8, keepc hB j2⟩
 refine region_class (fun w' => Below we.heap.size we w' ∧ w'.cell? ⟨V, 8, none⟩ = some (.int .i64 (rd0 + 1)) ∧ w'.cell? ⟨V, 2, none⟩ = some (.int .i64 rounds)) (by kernel_rfl) (by kernel_rfl) (ME2.out _ ((Below.refl _ _).drew)) ?_
 iterate 17 (first | go_big_quiet_skip | (go_big_quiet_want; unfold Oper.quiet; apply Exists.intro; refine ⟨fun W hW => ?_, ?_⟩; (go_split_ands; unfold Oper.quietAt; go_simp; first | rfl | exact ⟨rfl, rfl⟩ | fail); go_big_quiet_on; (try simp only [Act.put, List.setIfInBounds_toArray, List.set_cons_zero, List.set_cons_succ])))
 refine wpQuiet_nil ?_
 intro wf hwf
 have bf : Below we.heap.size we wf := hwf.1
 clear hwf ME2 j8 j2
 have vf := (bf.block V ze).trans ve
 have of : Aside (Only V w wf) := oe.out.trans (Only.of_below bf)
 clear bf ve oe ze
 go_wp2
 go_end0
 exact ⟨⟨_, rfl⟩, of.out, by simp only [Bool.false_eq_true, if_false]; exact vf⟩
set_option maxRecDepth 100000 in
set_option maxHeartbeats 8000000 in
theorem pass_n_won (V gl gd gi M cl cd ci nn n : Nat) (a : Option Addr) (cp : Nat) (vw : Value) (first rounds nx0 rd0 nx : Int) (ov : Bool) (D : DataW Unit) (wn : List Int) (w : World)
  (hV : w.heap[V]? = some (.cells #[.slice a n cp, .int .i64 first, .int .i64 rounds, .bool false, rowV gl n cl, rowV gd n cd, rowV gi n ci, .int .i64 nx0, .int .i64 rd0, .bool ov, vw, .map (some M)] 118 (0, 0))) (hown : OwnM w M nn D) (n0 : ¬ n = 0) (n1 : n ≤ 1000) (x0 : 0 ≤ nx0) (x1 : nx0 < 1000) (hnx : (nx0 + 1) % (n : Int) = nx) (r0 : 0 ≤ rd0) (r1 : rd0 ≤ 1000000) (hne : wn ≠ []) (hMV : M ≠ V)
  (hwin : ∀ W, Only V w W → W.heap[V]? ≠ none → (∃ rd, W.heap[V]? = some (.cells #[.slice a n cp, .int .i64 first, .int .i64 rounds, .bool false, rowV gl n cl, rowV gd n cd, rowV gi n ci, .int .i64 nx, .int .i64 rd, .bool ov, vw, .map (some M)] 118 (0, 0))) → Calls Try.prog 88 #[.pointer (some ⟨V, 0, none⟩)] W (RetOwn wn W)) (hcomp : (nx == first) = false) (hE : 0 < ((Maps.size D : Nat) : Int)) :
  Calls Try.prog 76 #[.pointer (some ⟨V, 0, none⟩)] w (PassOk V (fun u x y o => .cells #[.slice a n cp, .int .i64 first, .int .i64 rounds, .bool false, rowV gl n cl, rowV gd n cd, rowV gi n ci, .int .i64 x, .int .i64 y, .bool o, u, .map (some M)] 118 (0, 0)) vw ov (-1, rd0, true) wn w) := by
 have hlt : V < w.heap.size := (Array.getElem?_eq_some_iff.1 hV).1
 have HV : Aside (w.heap[V]? = some (.cells #[.slice a n cp, .int .i64 first, .int .i64 rounds, .bool false, rowV gl n cl, rowV gd n cd, rowV gi n ci, .int .i64 nx0, .int .i64 rd0, .bool ov, vw, .map (some M)] 118 (0, 0))) := hV
 have HO : Aside (OwnM w M nn D) := hown
 have HWN : Aside (∀ W, Only V w W → W.heap[V]? ≠ none → (∃ rd, W.heap[V]? = some (.cells #[.slice a n cp, .int .i64 first, .int .i64 rounds, .bool false, rowV gl n cl, rowV gd n cd, rowV gi n ci, .int .i64 nx, .int .i64 rd, .bool ov, vw, .map (some M)] 118 (0, 0))) → Calls Try.prog 88 #[.pointer (some ⟨V, 0, none⟩)] W (RetOwn wn W)) := hwin
 have HNE : Aside (wn ≠ []) := hne
 have k7 : w.cell? ⟨V, 7, none⟩ = some (.int .i64 nx0) := blk_cell hV rfl
 have k0 : w.cell? ⟨V, 0, none⟩ = some (.slice a n cp) := blk_cell hV rfl
 have MA : Aside (∀ w', Below w.heap.size w w' → (Below w.heap.size w w' ∧ w'.cell? ⟨V, 7, none⟩ = some (.int .i64 nx0) ∧ w'.cell? ⟨V, 0, none⟩ = some (.slice a n cp))) := fun w' hB => ⟨hB, keepc hB k7, keepc hB k0⟩
 have e1 : IntKind.i64.wrap (nx0 + 1) = nx0 + 1 := IntWalk.i64_in _ (by omega)
 have e2 : Int.tmod (nx0 + 1) (n : Int) = nx := by rw [Int.tmod_eq_emod_of_nonneg (by omega)]; exact hnx
 clear hV hown hwin hne hnx
 go_enter Try.func76, Try.ntmps76
 go_wp2_with fail
 refine region_tail 17 (fun w' => Below w.heap.size w w' ∧ w'.cell? ⟨V, 7, none⟩ = some (.int .i64 nx0) ∧ w'.cell? ⟨V, 0, none⟩ = some (.slice a n cp)) 20 (by kernel_rfl) (by decide +kernel) (MA.out _ ((Below.refl _ _).drew)) ?_
 simp only [List.take_succ_cons, List.take_zero]
 iterate 17 (first | go_big_quiet_skip | (go_big_quiet_want; unfold Oper.quiet; apply Exists.intro; refine ⟨fun W hW => ?_, ?_⟩; (go_split_ands; unfold Oper.quietAt; go_simp; first | rfl | exact ⟨rfl, rfl⟩ | fail); go_big_quiet_on; (try simp only [Act.put, List.setIfInBounds_toArray, List.set_cons_zero, List.set_cons_succ])))
 refine wpQuiet_nil ?_
 intro wb hwb
 have bb : Below w.heap.size w wb := hwb.1
 clear hwb MA k7 k0
 have vb := (bb.block V hlt).trans HV.out
 have ob : Aside (Only V w wb) := Only.of_below bb
 have mb : Aside (OwnM wb M nn D) := ownsMap_below HO.out bb
 have kb : wb.cell? ⟨V, 7, none⟩ = some (.int .i64 nx0) := blk_cell vb rfl
 have fb := blk_free vb 7
 clear bb HV HO
 refine wpAny_one (i := 17) (by decide +kernel) rfl rfl ?_
 unfold Oper.wp
 go_simp
 refine wpAny_done (by decide +kernel) ?_ _
 obtain ⟨wc, hwc⟩ : ∃ u, u = wb.setCell ⟨V, 7, none⟩ (.int .i64 nx) := ⟨_, rfl⟩
 have vc : wc.heap[V]? = some (.cells #[.slice a n cp, .int .i64 first, .int .i64 rounds, .bool false, rowV gl n cl, rowV gd n cd, rowV gi n ci, .int .i64 nx, .int .i64 rd0, .bool ov, vw, .map (some M)] 118 (0, 0)) := by rw [hwc]; exact Go.Joins.block_setCell vb _
 have oc : Aside (Only V w wc) := by rw [hwc]; exact ob.out.trans (Only.set _ _ _ _)
 have mc : Aside (OwnM wc M nn D) := by rw [hwc]; exact ownsMap_same mb.out (Below.heap_setCell _ _ _ _ hMV)
 rw [← hwc]
 clear hwc vb ob kb fb e1 e2 mb
 have zc : V < wc.heap.size := (Array.getElem?_eq_some_iff.1 vc).1
 have VC : Aside (wc.heap[V]? = some (.cells #[.slice a n cp, .int .i64 first, .int .i64 rounds, .bool false, rowV gl n cl, rowV gd n cd, rowV gi n ci, .int .i64 nx, .int .i64 rd0, .bool ov, vw, .map (some M)] 118 (0, 0))) := vc
 have k7 : wc.cell? ⟨V, 7, none⟩ = some (.int .i64 nx) := blk_cell vc rfl
 have k1 : wc.cell? ⟨V, 1, none⟩ = some (.int .i64 first) := blk_cell vc rfl
 have MC : Aside (∀ w', Below wc.heap.size wc w' → (Below wc.heap.size wc w' ∧ w'.cell? ⟨V, 7, none⟩ = some (.int .i64 nx) ∧ w'.cell? ⟨V, 1, none⟩ = some (.int .i64 first))) := fun w' hB => ⟨hB, keepc hB k7, keepc hB k1⟩
 clear vc
 go_wp2_with fail
 refine region_class (fun w' => Below wc.heap.size wc w' ∧ w'.cell? ⟨V, 7, none⟩ = some (.int .i64 nx) ∧ w'.cell? ⟨V, 1, none⟩ = some (.int .i64 first)) (by kernel_rfl) (by kernel_rfl) (MC.out _ ((Below.refl _ _).drew)) ?_
 iterate 12 (first | go_big_quiet_skip | (go_big_quiet_want; unfold Oper.quiet; apply Exists.intro; refine ⟨fun W hW => ?_, ?_⟩; (go_split_ands; unfold Oper.quietAt; go_simp; first | rfl | exact ⟨rfl, rfl⟩ | fail); go_big_quiet_on; (try simp only [Act.put, List.setIfInBounds_toArray, List.set_cons_zero, List.set_cons_succ])))
 refine wpQuiet_nil ?_
 intro wd hwd
 have bd : Below wc.heap.size wc wd := hwd.1
 clear hwd MC k7 k1
 have vd := (bd.block V zc).trans VC.out
 have od : Aside (Only V w wd) := oc.out.trans (Only.of_below bd)
 have md : Aside (OwnM wd M nn D) := ownsMap_below mc.out bd
 clear bd VC oc mc zc
 have k8 : wd.cell? ⟨V, 8, none⟩ = some (.int .i64 rd0) := blk_cell vd rfl
 have k11 : wd.cell? ⟨V, 11, none⟩ = some (.map (some M)) := blk_cell vd rfl
 have k3 : wd.cell? ⟨V, 3, none⟩ = some (.bool false) := blk_cell vd rfl
 have f8 := blk_free vd 8
 have VE : Aside (wd.heap[V]? = some (.cells #[.slice a n cp, .int .i64 first, .int .i64 rounds, .bool false, rowV gl n cl, rowV gd n cd, rowV gi n ci, .int .i64 nx, .int .i64 rd0, .bool ov, vw, .map (some M)] 118 (0, 0))) := vd
 have OE : Aside (Only V w wd) := od.out
 have ME : OwnM wd M nn D := md.out
 clear vd od md
 go_wp2_with (at_len; refine wpList_len_own _ rfl _ 116 rfl 3 3 Try.underlying116 _ M nn _ rfl ME ?_)
 obtain ⟨we, hwe⟩ : ∃ u, u = wd := ⟨_, rfl⟩
 have ve : we.heap[V]? = some (.cells #[.slice a n cp, .int .i64 first, .int .i64 rounds, .bool false, rowV gl n cl, rowV gd n cd, rowV gi n ci, .int .i64 nx, .int .i64 rd0, .bool ov, vw, .map (some M)] 118 (0, 0)) := by rw [hwe]; exact VE.out
 have oe : Aside (Only V w we) := by rw [hwe]; exact OE.out
 rw [← hwe]
 clear hwe VE OE ME k8 k11 k3 f8
 have ze : V < we.heap.size := (Array.getElem?_eq_some_iff.1 ve).1
 have j8 : we.cell? ⟨V, 8, none⟩ = some (.int .i64 rd0) := blk_cell ve rfl
 have j2 : we.cell? ⟨V, 2, none⟩ = some (.int .i64 rounds) := blk_cell ve rfl
 have ME2 : Aside (∀ w', Below we.heap.size we w' → (Below we.heap.size we w' ∧ w'.cell? ⟨V, 8, none⟩ = some (.int .i64 rd0) ∧ w'.cell? ⟨V, 2, none⟩ = some (.int .i64 rounds))) := fun w' hB => ⟨hB, keepc hB j8, keepc hB j2⟩
 refine region_class (fun w' => Below we.heap.size we w' ∧ w'.cell? ⟨V, 8, none⟩ = some (.int .i64 rd0) ∧ w'.cell? ⟨V, 2, none⟩ = some (.int .i64 rounds)) (by kernel_rfl) (by kernel_rfl) (ME2.out _ ((Below.refl _ _).drew)) ?_
 iterate 17 (first | go_big_quiet_skip | (go_big_quiet_want; unfold Oper.quiet; apply Exists.intro; refine ⟨fun W hW => ?_, ?_⟩; (go_split_ands; unfold Oper.quietAt; go_simp; first | rfl | exact ⟨rfl, rfl⟩ | fail); go_big_quiet_on; (try simp only [Act.put, List.setIfInBounds_toArray, List.set_cons_zero, List.set_cons_succ])))
 refine wpQuiet_nil ?_
 intro wf hwf
 have bf : Below we.heap.size we wf := hwf.1
 clear hwf ME2 j8 j2
 have vf := (bf.block V ze).trans ve
 have of : Aside (Only V w wf) := oe.out.trans (Only.of_below bf)
 clear bf ve oe ze
 have xw := HWN.out wf of.out (by rw [vf]; simp) ⟨_, vf⟩
 go_wp2_with fail
 refine xw.mono ?_
 rintro e wg ⟨vg, rfl, hrow, hnil, hbg⟩
 obtain ⟨gw, cw, rfl⟩ := owns_form' hrow (List.length_pos_iff.2 HNE.out)
 have hsl : Aside (Sl wg 1 eI (rowV gw wn.length cw) wn) := sl_of_owns' hrow HNE.out
 have hgw : Aside (w.heap.size ≤ gw ∧ gw ≠ V) := by
  have h1 := (row_base hrow (List.length_pos_iff.2 HNE.out))
  have h2 := of.out.size
  exact ⟨by omega, by omega⟩
 have vg := (hbg.block V (Array.getElem?_eq_some_iff.1 vf).1).trans vf
 have og : Aside (Only V w wg) := of.out.trans (Only.of_below hbg)
 clear hrow hnil hbg vf of xw
 have j9 : wg.cell? ⟨V, 9, none⟩ = some (.bool ov) := blk_cell vg rfl
 have j7 : wg.cell? ⟨V, 7, none⟩ = some (.int .i64 nx) := blk_cell vg rfl
 have j10 : wg.cell? ⟨V, 10, none⟩ = some vw := blk_cell vg rfl
 have jf := blk_free vg
 have VG : Aside (wg.heap[V]? = some (.cells #[.slice a n cp, .int .i64 first, .int .i64 rounds, .bool false, rowV gl n cl, rowV gd n cd, rowV gi n ci, .int .i64 nx, .int .i64 rd0, .bool ov, vw, .map (some M)] 118 (0, 0))) := vg
 clear vg
 go_wp2
 refine bodyPost_ret (results_none rfl _ _ _) rfl ?_
 have hO : Only V wg (((wg.setCell ⟨V, 9, none⟩ (.bool true)).setCell ⟨V, 7, none⟩ (.int .i64 (-1))).setCell ⟨V, 10, none⟩ (rowV gw wn.length cw)) := ((Only.set V 9 _ _).trans (Only.set V 7 _ _)).trans (Only.set V 10 _ _)
 refine ⟨⟨_, rfl⟩, og.out.trans hO, ?_⟩
 simp only [if_true]
 exact ⟨gw, cw, Go.Joins.block_setCell (Go.Joins.block_setCell (Go.Joins.block_setCell VG.out _) _) _, hgw.out.1, hO.sl (fun g o e => by have h2 := hgw.out.2; simp at e; omega) hsl.out⟩
set_option maxRecDepth 100000 in
set_option maxHeartbeats 8000000 in
theorem pass_n_eq (V gl gd gi M cl cd ci nn n : Nat) (a : Option Addr) (cp : Nat) (vw : Value) (first rounds nx0 rd0 nx : Int) (ov : Bool) (D : DataW Unit) (wn : List Int) (w : World)
  (hV : w.heap[V]? = some (.cells #[.slice a n cp, .int .i64 first, .int .i64 rounds, .bool true, rowV gl n cl, rowV gd n cd, rowV gi n ci, .int .i64 nx0, .int .i64 rd0, .bool ov, vw, .map (some M)] 118 (0, 0))) (hown : OwnM w M nn D) (n0 : ¬ n = 0) (n1 : n ≤ 1000) (x0 : 0 ≤ nx0) (x1 : nx0 < 1000) (hnx : (nx0 + 1) % (n : Int) = nx) (r0 : 0 ≤ rd0) (r1 : rd0 ≤ 1000000) (hne : wn ≠ []) (hMV : M ≠ V)
  (hwin : ∀ W, Only V w W → W.heap[V]? ≠ none → (∃ rd, W.heap[V]? = some (.cells #[.slice a n cp, .int .i64 first, .int .i64 rounds, .bool true, rowV gl n cl, rowV gd n cd, rowV gi n ci, .int .i64 nx, .int .i64 rd, .bool ov, vw, .map (some M)] 118 (0, 0))) → Calls Try.prog 88 #[.pointer (some ⟨V, 0, none⟩)] W (RetOwn wn W)) (hcomp : (nx == first) = false) (hE : 0 < ((Maps.size D : Nat) : Int)) :
  Calls Try.prog 76 #[.pointer (some ⟨V, 0, none⟩)] w (PassOk V (fun u x y o => .cells #[.slice a n cp, .int .i64 first, .int .i64 rounds, .bool true, rowV gl n cl, rowV gd n cd, rowV gi n ci, .int .i64 x, .int .i64 y, .bool o, u, .map (some M)] 118 (0, 0)) vw ov (nx, rd0, false) wn w) := by
 have hlt : V < w.heap.size := (Array.getElem?_eq_some_iff.1 hV).1
 have HV : Aside (w.heap[V]? = some (.cells #[.slice a n cp, .int .i64 first, .int .i64 rounds, .bool true, rowV gl n cl, rowV gd n cd, rowV gi n ci, .int .i64 nx0, .int .i64 rd0, .bool ov, vw, .map (some M)] 118 (0, 0))) := hV
 have HO : Aside (OwnM w M nn D) := hown
 have HWN : Aside (∀ W, Only V w W → W.heap[V]? ≠ none → (∃ rd, W.heap[V]? = some (.cells #[.slice a n cp, .int .i64 first, .int .i64 rounds, .bool true, rowV gl n cl, rowV gd n cd, rowV gi n ci, .int .i64 nx, .int .i64 rd, .bool ov, vw, .map (some M)] 118 (0, 0))) → Calls Try.prog 88 #[.pointer (some ⟨V, 0, none⟩)] W (RetOwn wn W)) := hwin
 have HNE : Aside (wn ≠ []) := hne
 have k7 : w.cell? ⟨V, 7, none⟩ = some (.int .i64 nx0) := blk_cell hV rfl
 have k0 : w.cell? ⟨V, 0, none⟩ = some (.slice a n cp) := blk_cell hV rfl
 have MA : Aside (∀ w', Below w.heap.size w w' → (Below w.heap.size w w' ∧ w'.cell? ⟨V, 7, none⟩ = some (.int .i64 nx0) ∧ w'.cell? ⟨V, 0, none⟩ = some (.slice a n cp))) := fun w' hB => ⟨hB, keepc hB k7, keepc hB k0⟩
 have e1 : IntKind.i64.wrap (nx0 + 1) = nx0 + 1 := IntWalk.i64_in _ (by omega)
 have e2 : Int.tmod (nx0 + 1) (n : Int) = nx := by rw [Int.tmod_eq_emod_of_nonneg (by omega)]; exact hnx
 clear hV hown hwin hne hnx
 go_enter Try.func76, Try.ntmps76
 go_wp2_with fail
 refine region_tail 17 (fun w' => Below w.heap.size w w' ∧ w'.cell? ⟨V, 7, none⟩ = some (.int .i64 nx0) ∧ w'.cell? ⟨V, 0, none⟩ = some (.slice a n cp)) 20 (by kernel_rfl) (by decide +kernel) (MA.out _ ((Below.refl _ _).drew)) ?_
 simp only [List.take_succ_cons, List.take_zero]
 iterate 17 (first | go_big_quiet_skip | (go_big_quiet_want; unfold Oper.quiet; apply Exists.intro; refine ⟨fun W hW => ?_, ?_⟩; (go_split_ands; unfold Oper.quietAt; go_simp; first | rfl | exact ⟨rfl, rfl⟩ | fail); go_big_quiet_on; (try simp only [Act.put, List.setIfInBounds_toArray, List.set_cons_zero, List.set_cons_succ])))
 refine wpQuiet_nil ?_
 intro wb hwb
 have bb : Below w.heap.size w wb := hwb.1
 clear hwb MA k7 k0
 have vb := (bb.block V hlt).trans HV.out
 have ob : Aside (Only V w wb) := Only.of_below bb
 have mb : Aside (OwnM wb M nn D) := ownsMap_below HO.out bb
 have kb : wb.cell? ⟨V, 7, none⟩ = some (.int .i64 nx0) := blk_cell vb rfl
 have fb := blk_free vb 7
 clear bb HV HO
 refine wpAny_one (i := 17) (by decide +kernel) rfl rfl ?_
 unfold Oper.wp
 go_simp
 refine wpAny_done (by decide +kernel) ?_ _
 obtain ⟨wc, hwc⟩ : ∃ u, u = wb.setCell ⟨V, 7, none⟩ (.int .i64 nx) := ⟨_, rfl⟩
 have vc : wc.heap[V]? = some (.cells #[.slice a n cp, .int .i64 first, .int .i64 rounds, .bool true, rowV gl n cl, rowV gd n cd, rowV gi n ci, .int .i64 nx, .int .i64 rd0, .bool ov, vw, .map (some M)] 118 (0, 0)) := by rw [hwc]; exact Go.Joins.block_setCell vb _
 have oc : Aside (Only V w wc) := by rw [hwc]; exact ob.out.trans (Only.set _ _ _ _)
 have mc : Aside (OwnM wc M nn D) := by rw [hwc]; exact ownsMap_same mb.out (Below.heap_setCell _ _ _ _ hMV)
 rw [← hwc]
 clear hwc vb ob kb fb e1 e2 mb
 have zc : V < wc.heap.size := (Array.getElem?_eq_some_iff.1 vc).1
 have VC : Aside (wc.heap[V]? = some (.cells #[.slice a n cp, .int .i64 first, .int .i64 rounds, .bool true, rowV gl n cl, rowV gd n cd, rowV gi n ci, .int .i64 nx, .int .i64 rd0, .bool ov, vw, .map (some M)] 118 (0, 0))) := vc
 have k7 : wc.cell? ⟨V, 7, none⟩ = some (.int .i64 nx) := blk_cell vc rfl
 have k1 : wc.cell? ⟨V, 1, none⟩ = some (.int .i64 first) := blk_cell vc rfl
 have MC : Aside (∀ w', Below wc.heap.size wc w' → (Below wc.heap.size wc w' ∧ w'.cell? ⟨V, 7, none⟩ = some (.int .i64 nx) ∧ w'.cell? ⟨V, 1, none⟩ = some (.int .i64 first))) := fun w' hB => ⟨hB, keepc hB k7, keepc hB k1⟩
 clear vc
 go_wp2_with fail
 refine region_class (fun w' => Below wc.heap.size wc w' ∧ w'.cell? ⟨V, 7, none⟩ = some (.int .i64 nx) ∧ w'.cell? ⟨V, 1, none⟩ = some (.int .i64 first)) (by kernel_rfl) (by kernel_rfl) (MC.out _ ((Below.refl _ _).drew)) ?_
 iterate 12 (first | go_big_quiet_skip | (go_big_quiet_want; unfold Oper.quiet; apply Exists.intro; refine ⟨fun W hW => ?_, ?_⟩; (go_split_ands; unfold Oper.quietAt; go_simp; first | rfl | exact ⟨rfl, rfl⟩ | fail); go_big_quiet_on; (try simp only [Act.put, List.setIfInBounds_toArray, List.set_cons_zero, List.set_cons_succ])))
 refine wpQuiet_nil ?_
 intro wd hwd
 have bd : Below wc.heap.size wc wd := hwd.1
 clear hwd MC k7 k1
 have vd := (bd.block V zc).trans VC.out
 have od : Aside (Only V w wd) := oc.out.trans (Only.of_below bd)
 have md : Aside (OwnM wd M nn D) := ownsMap_below mc.out bd
 clear bd VC oc mc zc
 have k8 : wd.cell? ⟨V, 8, none⟩ = some (.int .i64 rd0) := blk_cell vd rfl
 have k11 : wd.cell? ⟨V, 11, none⟩ = some (.map (some M)) := blk_cell vd rfl
 have k3 : wd.cell? ⟨V, 3, none⟩ = some (.bool true) := blk_cell vd rfl
 have f8 := blk_free vd 8
 have VE : Aside (wd.heap[V]? = some (.cells #[.slice a n cp, .int .i64 first, .int .i64 rounds, .bool true, rowV gl n cl, rowV gd n cd, rowV gi n ci, .int .i64 nx, .int .i64 rd0, .bool ov, vw, .map (some M)] 118 (0, 0))) := vd
 have OE : Aside (Only V w wd) := od.out
 have ME : OwnM wd M nn D := md.out
 clear vd od md
 go_wp2_with (at_len; refine wpList_len_own _ rfl _ 116 rfl 3 3 Try.underlying116 _ M nn _ rfl ME ?_)
 obtain ⟨we, hwe⟩ : ∃ u, u = wd := ⟨_, rfl⟩
 have ve : we.heap[V]? = some (.cells #[.slice a n cp, .int .i64 first, .int .i64 rounds, .bool true, rowV gl n cl, rowV gd n cd, rowV gi n ci, .int .i64 nx, .int .i64 rd0, .bool ov, vw, .map (some M)] 118 (0, 0)) := by rw [hwe]; exact VE.out
 have oe : Aside (Only V w we) := by rw [hwe]; exact OE.out
 rw [← hwe]
 clear hwe VE OE ME k8 k11 k3 f8
 have ze : V < we.heap.size := (Array.getElem?_eq_some_iff.1 ve).1
 have j8 : we.cell? ⟨V, 8, none⟩ = some (.int .i64 rd0) := blk_cell ve rfl
 have j2 : we.cell? ⟨V, 2, none⟩ = some (.int .i64 rounds) := blk_cell ve rfl
 have ME2 : Aside (∀ w', Below we.heap.size we w' → (Below we.heap.size we w' ∧ w'.cell? ⟨V, 8, none⟩ = some (.int .i64 rd0) ∧ w'.cell? ⟨V, 2, none⟩ = some (.int .i64 rounds))) := fun w' hB => ⟨hB, keepc hB j8, keepc hB j2⟩
 refine region_class (fun w' => Below we.heap.size we w' ∧ w'.cell? ⟨V, 8, none⟩ = some (.int .i64 rd0) ∧ w'.cell? ⟨V, 2, none⟩ = some (.int .i64 rounds)) (by kernel_rfl) (by kernel_rfl) (ME2.out _ ((Below.refl _ _).drew)) ?_
 iterate 17 (first | go_big_quiet_skip | (go_big_quiet_want; unfold Oper.quiet; apply Exists.intro; refine ⟨fun W hW => ?_, ?_⟩; (go_split_ands; unfold Oper.quietAt; go_simp; first | rfl | exact ⟨rfl, rfl⟩ | fail); go_big_quiet_on; (try simp only [Act.put, List.setIfInBounds_toArray, List.set_cons_zero, List.set_cons_succ])))
 refine wpQuiet_nil ?_
 intro wf hwf
 have bf : Below we.heap.size we wf := hwf.1
 clear hwf ME2 j8 j2
 have vf := (bf.block V ze).trans ve
 have of : Aside (Only V w wf) := oe.out.trans (Only.of_below bf)
 clear bf ve oe ze
 go_wp2
 go_end0
 exact ⟨⟨_, rfl⟩, of.out, by simp only [Bool.false_eq_true, if_false]; exact vf⟩
set_option maxRecDepth 100000 in
set_option maxHeartbeats 8000000 in
theorem pass_n_no (V gl gd gi M cl cd ci nn n : Nat) (a : Option Addr) (cp : Nat) (vw : Value) (first rounds nx0 rd0 nx : Int) (equal ov : Bool) (D : DataW Unit) (wn : List Int) (w : World)
  (hV : w.heap[V]? = some (.cells #[.slice a n cp, .int .i64 first, .int .i64 rounds, .bool equal, rowV gl n cl, rowV gd n cd, rowV gi n ci, .int .i64 nx0, .int .i64 rd0, .bool ov, vw, .map (some M)] 118 (0, 0))) (hown : OwnM w M nn D) (n0 : ¬ n = 0) (n1 : n ≤ 1000) (x0 : 0 ≤ nx0) (x1 : nx0 < 1000) (hnx : (nx0 + 1) % (n : Int) = nx) (r0 : 0 ≤ rd0) (r1 : rd0 ≤ 1000000) (hne : wn ≠ []) (hMV : M ≠ V)
  (hwin : ∀ W, Only V w W → W.heap[V]? ≠ none → (∃ rd, W.heap[V]? = some (.cells #[.slice a n cp, .int .i64 first, .int .i64 rounds, .bool equal, rowV gl n cl, rowV gd n cd, rowV gi n ci, .int .i64 nx, .int .i64 rd, .bool ov, vw, .map (some M)] 118 (0, 0))) → Calls Try.prog 88 #[.pointer (some ⟨V, 0, none⟩)] W (RetOwn wn W)) (hcomp : (nx == first) = false) (hE : Maps.size D = 0) :
  Calls Try.prog 76 #[.pointer (some ⟨V, 0, none⟩)] w (PassOk V (fun u x y o => .cells #[.slice a n cp, .int .i64 first, .int .i64 rounds, .bool equal, rowV gl n cl, rowV gd n cd, rowV gi n ci, .int .i64 x, .int .i64 y, .bool o, u, .map (some M)] 118 (0, 0)) vw ov (nx, rd0, false) wn w) := by
 have hlt : V < w.heap.size := (Array.getElem?_eq_some_iff.1 hV).1
 have HV : Aside (w.heap[V]? = some (.cells #[.slice a n cp, .int .i64 first, .int .i64 rounds, .bool equal, rowV gl n cl, rowV gd n cd, rowV gi n ci, .int .i64 nx0, .int .i64 rd0, .bool ov, vw, .map (some M)] 118 (0, 0))) := hV
 have HO : Aside (OwnM w M nn D) := hown
 have HWN : Aside (∀ W, Only V w W → W.heap[V]? ≠ none → (∃ rd, W.heap[V]? = some (.cells #[.slice a n cp, .int .i64 first, .int .i64 rounds, .bool equal, rowV gl n cl, rowV gd n cd, rowV gi n ci, .int .i64 nx, .int .i64 rd, .bool ov, vw, .map (some M)] 118 (0, 0))) → Calls Try.prog 88 #[.pointer (some ⟨V, 0, none⟩)] W (RetOwn wn W)) := hwin
 have HNE : Aside (wn ≠ []) := hne
 have k7 : w.cell? ⟨V, 7, none⟩ = some (.int .i64 nx0) := blk_cell hV rfl
 have k0 : w.cell? ⟨V, 0, none⟩ = some (.slice a n cp) := blk_cell hV rfl
 have MA : Aside (∀ w', Below w.heap.size w w' → (Below w.heap.size w w' ∧ w'.cell? ⟨V, 7, none⟩ = some (.int .i64 nx0) ∧ w'.cell? ⟨V, 0, none⟩ = some (.slice a n cp))) := fun w' hB => ⟨hB, keepc hB k7, keepc hB k0⟩
 have e1 : IntKind.i64.wrap (nx0 + 1) = nx0 + 1 := IntWalk.i64_in _ (by omega)
 have e2 : Int.tmod (nx0 + 1) (n : Int) = nx := by rw [Int.tmod_eq_emod_of_nonneg (by omega)]; exact hnx
 clear hV hown hwin hne hnx
 go_enter Try.func76, Try.ntmps76
 go_wp2_with fail
 refine region_tail 17 (fun w' => Below w.heap.size w w' ∧ w'.cell? ⟨V, 7, none⟩ = some (.int .i64 nx0) ∧ w'.cell? ⟨V, 0, none⟩ = some (.slice a n cp)) 20 (by kernel_rfl) (by decide +kernel) (MA.out _ ((Below.refl _ _).drew)) ?_
 simp only [List.take_succ_cons, List.take_zero]
 iterate 17 (first | go_big_quiet_skip | (go_big_quiet_want; unfold Oper.quiet; apply Exists.intro; refine ⟨fun W hW => ?_, ?_⟩; (go_split_ands; unfold Oper.quietAt; go_simp; first | rfl | exact ⟨rfl, rfl⟩ | fail); go_big_quiet_on; (try simp only [Act.put, List.setIfInBounds_toArray, List.set_cons_zero, List.set_cons_succ])))
 refine wpQuiet_nil ?_
 intro wb hwb
 have bb : Below w.heap.size w wb := hwb.1
 clear hwb MA k7 k0
 have vb := (bb.block V hlt).trans HV.out
 have ob : Aside (Only V w wb) := Only.of_below bb
 have mb : Aside (OwnM wb M nn D) := ownsMap_below HO.out bb
 have kb : wb.cell? ⟨V, 7, none⟩ = some (.int .i64 nx0) := blk_cell vb rfl
 have fb := blk_free vb 7
 clear bb HV HO
 refine wpAny_one (i := 17) (by decide +kernel) rfl rfl ?_
 unfold Oper.wp
 go_simp
 refine wpAny_done (by decide +kernel) ?_ _
 obtain ⟨wc, hwc⟩ : ∃ u, u = wb.setCell ⟨V, 7, none⟩ (.int .i64 nx) := ⟨_, rfl⟩
 have vc : wc.heap[V]? = some (.cells #[.slice a n cp, .int .i64 first, .int .i64 rounds, .bool equal, rowV gl n cl, rowV gd n cd, rowV gi n ci, .int .i64 nx, .int .i64 rd0, .bool ov, vw, .map (some M)] 118 (0, 0)) := by rw [hwc]; exact Go.Joins.block_setCell vb _
 have oc : Aside (Only V w wc) := by rw [hwc]; exact ob.out.trans (Only.set _ _ _ _)
 have mc : Aside (OwnM wc M nn D) := by rw [hwc]; exact ownsMap_same mb.out (Below.heap_setCell _ _ _ _ hMV)
 rw [← hwc]
 clear hwc vb ob kb fb e1 e2 mb
 have zc : V < wc.heap.size := (Array.getElem?_eq_some_iff.1 vc).1
 have VC : Aside (wc.heap[V]? = some (.cells #[.slice a n cp, .int .i64 first, .int .i64 rounds, .bool equal, rowV gl n cl, rowV gd n cd, rowV gi n ci, .int .i64 nx, .int .i64 rd0, .bool ov, vw, .map (some M)] 118 (0, 0))) := vc
 have k7 : wc.cell? ⟨V, 7, none⟩ = some (.int .i64 nx) := blk_cell vc rfl
 have k1 : wc.cell? ⟨V, 1, none⟩ = some (.int .i64 first) := blk_cell vc rfl
 have MC : Aside (∀ w', Below wc.heap.size wc w' → (Below wc.heap.size wc w' ∧ w'.cell? ⟨V, 7, none⟩ = some (.int .i64 nx) ∧ w'.cell? ⟨V, 1, none⟩ = some (.int .i64 first))) := fun w' hB => ⟨hB, keepc hB k7, keepc hB k1⟩
 clear vc
 go_wp2_with fail
 refine region_class (fun w' => Below wc.heap.size wc w' ∧ w'.cell? ⟨V, 7, none⟩ = some (.int .i64 nx) ∧ w'.cell? ⟨V, 1, none⟩ = some (.int .i64 first)) (by kernel_rfl) (by kernel_rfl) (MC.out _ ((Below.refl _ _).drew)) ?_
 iterate 12 (first | go_big_quiet_skip | (go_big_quiet_want; unfold Oper.quiet; apply Exists.intro; refine ⟨fun W hW => ?_, ?_⟩; (go_split_ands; unfold Oper.quietAt; go_simp; first | rfl | exact ⟨rfl, rfl⟩ | fail); go_big_quiet_on; (try simp only [Act.put, List.setIfInBounds_toArray, List.set_cons_zero, List.set_cons_succ])))
 refine wpQuiet_nil ?_
 intro wd hwd
 have bd : Below wc.heap.size wc wd := hwd.1
 clear hwd MC k7 k1
 have vd := (bd.block V zc).trans VC.out
 have od : Aside (Only V w wd) := oc.out.trans (Only.of_below bd)
 have md : Aside (OwnM wd M nn D) := ownsMap_below mc.out bd
 clear bd VC oc mc zc
 have k8 : wd.cell? ⟨V, 8, none⟩ = some (.int .i64 rd0) := blk_cell vd rfl
 have k11 : wd.cell? ⟨V, 11, none⟩ = some (.map (some M)) := blk_cell vd rfl
 have k3 : wd.cell? ⟨V, 3, none⟩ = some (.bool equal) := blk_cell vd rfl
 have f8 := blk_free vd 8
 have VE : Aside (wd.heap[V]? = some (.cells #[.slice a n cp, .int .i64 first, .int .i64 rounds, .bool equal, rowV gl n cl, rowV gd n cd, rowV gi n ci, .int .i64 nx, .int .i64 rd0, .bool ov, vw, .map (some M)] 118 (0, 0))) := vd
 have OE : Aside (Only V w wd) := od.out
 have ME : OwnM wd M nn D := md.out
 clear vd od md
 go_wp2_with (at_len; refine wpList_len_own _ rfl _ 116 rfl 3 3 Try.underlying116 _ M nn _ rfl ME ?_)
 obtain ⟨we, hwe⟩ : ∃ u, u = wd := ⟨_, rfl⟩
 have ve : we.heap[V]? = some (.cells #[.slice a n cp, .int .i64 first, .int .i64 rounds, .bool equal, rowV gl n cl, rowV gd n cd, rowV gi n ci, .int .i64 nx, .int .i64 rd0, .bool ov, vw, .map (some M)] 118 (0, 0)) := by rw [hwe]; exact VE.out
 have oe : Aside (Only V w we) := by rw [hwe]; exact OE.out
 rw [← hwe]
 clear hwe VE OE ME k8 k11 k3 f8
 have ze : V < we.heap.size := (Array.getElem?_eq_some_iff.1 ve).1
 have j8 : we.cell? ⟨V, 8, none⟩ = some (.int .i64 rd0) := blk_cell ve rfl
 have j2 : we.cell? ⟨V, 2, none⟩ = some (.int .i64 rounds) := blk_cell ve rfl
 have ME2 : Aside (∀ w', Below we.heap.size we w' → (Below we.heap.size we w' ∧ w'.cell? ⟨V, 8, none⟩ = some (.int .i64 rd0) ∧ w'.cell? ⟨V, 2, none⟩ = some (.int .i64 rounds))) := fun w' hB => ⟨hB, keepc hB j8, keepc hB j2⟩
 refine region_class (fun w' => Below we.heap.size we w' ∧ w'.cell? ⟨V, 8, none⟩ = some (.int .i64 rd0) ∧ w'.cell? ⟨V, 2, none⟩ = some (.int .i64 rounds)) (by kernel_rfl) (by kernel_rfl) (ME2.out _ ((Below.refl _ _).drew)) ?_
 iterate 17 (first | go_big_quiet_skip | (go_big_quiet_want; unfold Oper.quiet; apply Exists.intro; refine ⟨fun W hW => ?_, ?_⟩; (go_split_ands; unfold Oper.quietAt; go_simp; first | rfl | exact ⟨rfl, rfl⟩ | fail); go_big_quiet_on; (try simp only [Act.put, List.setIfInBounds_toArray, List.set_cons_zero, List.set_cons_succ])))
 refine wpQuiet_nil ?_
 intro wf hwf
 have bf : Below we.heap.size we wf := hwf.1
 clear hwf ME2 j8 j2
 have vf := (bf.block V ze).trans ve
 have of : Aside (Only V w wf) := oe.out.trans (Only.of_below bf)
 clear bf ve oe ze
 go_wp2
 go_end0
 exact ⟨⟨_, rfl⟩, of.out, by simp only [Bool.false_eq_true, if_false]; exact vf⟩
end
end Go.Proofs.Ytnhjoebdmmelaaa
