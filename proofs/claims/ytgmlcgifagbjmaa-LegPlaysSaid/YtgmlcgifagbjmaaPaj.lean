/- Leg: parts J, K, S. -/
import Derived.Deep.RegionLaw
import Derived.Deep.OwnRows
import Derived.Test.YtgmlcgifagbjmaaPai
import Derived.Test.YtgmlcgifagbjmaaPab
set_option linter.unusedVariables false
set_option linter.unusedSimpArgs false
namespace Go.Proofs.Ytgmlcgifagbjmaa
section
open Go.RowKit Go.Shelf
def MTakeOk (V : Nat) (g : Mt) (f : Int) (m : MtL) (w : World) (e : Ending) (w' : World) : Prop := (∃ v, e = .returned v) ∧ MtAt w' V g f m ∧ Only V w w'
set_option maxRecDepth 100000 in
set_option maxHeartbeats 4000000 in
theorem mtake0 (V : Nat) (s0 s1 l0 l1 f win : Int) (legs sets clear extra first : Int) (w : World) (hV : w.heap[V]? = some (.cells #[.int .i64 s0, .int .i64 s1, .int .i64 l0, .int .i64 l1, .int .i64 f, .int .i64 win, .int .i64 legs, .int .i64 sets, .int .i64 clear, .int .i64 extra, .int .i64 first] 125 (0, 0)))
  (a0 : 0 ≤ l0) (a1 : l0 < 9000000000000000000) (b0 : 0 ≤ l1) (b1 : l1 < 9000000000000000000) (g0 : 0 ≤ s0) (g1 : s0 < 9000000000000000000) (h0 : 0 ≤ s1) (h1 : s1 < 9000000000000000000) (c0 : 0 ≤ sets) (c1 : sets ≤ 25) (d0 : 0 ≤ legs) (d1 : legs ≤ 25) (e0 : 0 ≤ extra) (e1 : extra ≤ 25) :
  Calls Try.prog 60 #[.pointer (some ⟨V, 0, none⟩), .int .i64 0] w (MTakeOk V (Mt.step ⟨legs, sets, clear, extra, first⟩ ⟨s0, s1, l0, l1, win⟩ 0) f ⟨legs, sets, clear, extra, first⟩ w) := by
 have hlt : V < w.heap.size := (Array.getElem?_eq_some_iff.1 hV).1
 have hl : w.cell? ⟨V, 2, none⟩ = some (.int .i64 l0) := blk_cell hV rfl
 have MA : Aside (∀ w', Below w.heap.size w w' → (Below w.heap.size w w' ∧ w'.cell? ⟨V, 2, none⟩ = some (.int .i64 l0))) := fun w' hB => ⟨hB, keepc hB hl⟩
 have ew : IntKind.i64.wrap (l0 + 1) = l0 + 1 := IntWalk.i64_in _ (by omega)
 have HV : Aside (w.heap[V]? = some (.cells #[.int .i64 s0, .int .i64 s1, .int .i64 l0, .int .i64 l1, .int .i64 f, .int .i64 win, .int .i64 legs, .int .i64 sets, .int .i64 clear, .int .i64 extra, .int .i64 first] 125 (0, 0))) := hV
 have xW := fun W (h : W.heap[V]? = some (.cells #[.int .i64 s0, .int .i64 s1, .int .i64 (l0 + 1), .int .i64 l1, .int .i64 f, .int .i64 win, .int .i64 legs, .int .i64 sets, .int .i64 clear, .int .i64 extra, .int .i64 first] 125 (0, 0))) => winsSet0 V s0 s1 (l0 + 1) l1 f win legs sets clear extra first W h (by omega) (by omega) (by omega) (by omega) c0 c1 d0 d1 e0 e1
 have HS : Aside (Mt.step ⟨legs, sets, clear, extra, first⟩ ⟨s0, s1, l0, l1, win⟩ 0 = (if setWon ⟨legs, sets, clear, extra, first⟩ s0 s1 (l0 + 1) l1 = true then (if s0 + 1 = sets then ⟨s0 + 1, s1, l0 + 1, l1, 0⟩ else ⟨s0 + 1, s1, 0, 0, win⟩) else ⟨s0, s1, l0 + 1, l1, win⟩)) := rfl
 generalize Mt.step ⟨legs, sets, clear, extra, first⟩ ⟨s0, s1, l0, l1, win⟩ 0 = res at *
 clear hV
 go_enter Try.func60, Try.ntmps60
 go_wp2_with fail
 refine region_tail 12 (fun w' => Below w.heap.size w w' ∧ w'.cell? ⟨V, 2, none⟩ = some (.int .i64 l0)) 14 (by kernel_rfl) (by decide +kernel) (MA.out _ ((Below.refl _ _).drew)) ?_
 simp only [List.take_succ_cons, List.take_zero]
 iterate 12 (first | go_big_quiet_skip | (go_big_quiet_want; unfold Oper.quiet; apply Exists.intro; refine ⟨fun W hW => ?_, ?_⟩; (go_split_ands; unfold Oper.quietAt; go_simp; first | rfl | exact ⟨rfl, rfl⟩ | fail); go_big_quiet_on; (try simp only [Act.put, List.setIfInBounds_toArray, List.set_cons_zero, List.set_cons_succ])))
 refine wpQuiet_nil ?_
 intro wb hwb
 have bb : Below w.heap.size w wb := hwb.1
 clear hwb MA hl
 have vb := (bb.block V hlt).trans HV.out
 have ob : Aside (Only V w wb) := Only.of_below bb
 have kb : wb.cell? ⟨V, 2, none⟩ = some (.int .i64 l0) := blk_cell vb rfl
 have fb := blk_free vb 2
 clear bb HV
 refine wpAny_one (i := 12) (by decide +kernel) rfl rfl ?_
 unfold Oper.wp
 go_simp
 refine wpAny_done (by decide +kernel) ?_ _
 obtain ⟨wc, hwc⟩ : ∃ u, u = wb.setCell ⟨V, 2, none⟩ (.int .i64 (l0 + 1)) := ⟨_, rfl⟩
 have vc : wc.heap[V]? = some (.cells #[.int .i64 s0, .int .i64 s1, .int .i64 (l0 + 1), .int .i64 l1, .int .i64 f, .int .i64 win, .int .i64 legs, .int .i64 sets, .int .i64 clear, .int .i64 extra, .int .i64 first] 125 (0, 0)) := by rw [hwc]; exact Go.Joins.block_setCell vb _
 have oc : Aside (Only V w wc) := by rw [hwc]; exact ob.out.trans (Only.set _ _ _ _)
 rw [← hwc]
 clear hwc vb ob kb fb ew
 have xw := xW wc vc
 clear xW
 have zc : V < wc.heap.size := (Array.getElem?_eq_some_iff.1 vc).1
 have VC : Aside (wc.heap[V]? = some (.cells #[.int .i64 s0, .int .i64 s1, .int .i64 (l0 + 1), .int .i64 l1, .int .i64 f, .int .i64 win, .int .i64 legs, .int .i64 sets, .int .i64 clear, .int .i64 extra, .int .i64 first] 125 (0, 0))) := vc
 clear vc
 cases hr : setWon ⟨legs, sets, clear, extra, first⟩ s0 s1 (l0 + 1) l1 with
 | false =>
  rw [hr] at xw
  have HR : Aside (res = ⟨s0, s1, l0 + 1, l1, win⟩) := by
   show _ = _
   rw [HS.out, if_neg (by rw [hr]; simp)]
  clear HS hr
  go_wp2_with fail
  refine xw.mono ?_
  rintro e wd ⟨rfl, hd⟩
  have vd := (hd.block V zc).trans VC.out
  have od : Aside (Only V w wd) := oc.out.trans (Only.of_below hd)
  clear hd
  go_wp2
  refine bodyPost_ret (results_none rfl _ _ _) rfl ?_
  exact ⟨⟨_, rfl⟩, by rw [HR.out]; exact vd, od.out⟩
 | true =>
  rw [hr] at xw
  have HR : Aside (res = (if s0 + 1 = sets then ⟨s0 + 1, s1, l0 + 1, l1, 0⟩ else ⟨s0 + 1, s1, 0, 0, win⟩)) := by
   show _ = _
   rw [HS.out, if_pos (by rw [hr])]
  clear HS hr
  go_wp2_with fail
  refine xw.mono ?_
  rintro e wd ⟨rfl, hd⟩
  have vd := (hd.block V zc).trans VC.out
  have od : Aside (Only V w wd) := oc.out.trans (Only.of_below hd)
  have zd : V < wd.heap.size := Nat.lt_of_lt_of_le zc hd.size
  have VD : Aside (wd.heap[V]? = some (.cells #[.int .i64 s0, .int .i64 s1, .int .i64 (l0 + 1), .int .i64 l1, .int .i64 f, .int .i64 win, .int .i64 legs, .int .i64 sets, .int .i64 clear, .int .i64 extra, .int .i64 first] 125 (0, 0))) := vd
  have kd : wd.cell? ⟨V, 0, none⟩ = some (.int .i64 s0) := blk_cell vd rfl
  clear hd vd VC oc zc xw
  go_wp2_with fail
  have MD : Aside (∀ w', Below wd.heap.size wd w' → (Below wd.heap.size wd w' ∧ w'.cell? ⟨V, 0, none⟩ = some (.int .i64 s0))) := fun w' hB => ⟨hB, keepc hB kd⟩
  have ew : IntKind.i64.wrap (s0 + 1) = s0 + 1 := IntWalk.i64_in _ (by omega)
  refine region_tail 12 (fun w' => Below wd.heap.size wd w' ∧ w'.cell? ⟨V, 0, none⟩ = some (.int .i64 s0)) 14 (by kernel_rfl) (by decide +kernel) (MD.out _ ((Below.refl _ _).drew)) ?_
  simp only [List.take_succ_cons, List.take_zero]
  iterate 12 (first | go_big_quiet_skip | (go_big_quiet_want; unfold Oper.quiet; apply Exists.intro; refine ⟨fun W hW => ?_, ?_⟩; (go_split_ands; unfold Oper.quietAt; go_simp; first | rfl | exact ⟨rfl, rfl⟩ | fail); go_big_quiet_on; (try simp only [Act.put, List.setIfInBounds_toArray, List.set_cons_zero, List.set_cons_succ])))
  refine wpQuiet_nil ?_
  intro we hwe
  have be : Below wd.heap.size wd we := hwe.1
  clear hwe MD kd
  have ve := (be.block V zd).trans VD.out
  have oe : Aside (Only V w we) := od.out.trans (Only.of_below be)
  have ke : we.cell? ⟨V, 0, none⟩ = some (.int .i64 s0) := blk_cell ve rfl
  have fe := blk_free ve 0
  clear be VD od zd
  refine wpAny_one (i := 12) (by decide +kernel) rfl rfl ?_
  unfold Oper.wp
  go_simp
  refine wpAny_done (by decide +kernel) ?_ _
  obtain ⟨wf, hwf⟩ : ∃ u, u = we.setCell ⟨V, 0, none⟩ (.int .i64 (s0 + 1)) := ⟨_, rfl⟩
  have vf : wf.heap[V]? = some (.cells #[.int .i64 (s0 + 1), .int .i64 s1, .int .i64 (l0 + 1), .int .i64 l1, .int .i64 f, .int .i64 win, .int .i64 legs, .int .i64 sets, .int .i64 clear, .int .i64 extra, .int .i64 first] 125 (0, 0)) := by rw [hwf]; exact Go.Joins.block_setCell ve _
  have of : Aside (Only V w wf) := by rw [hwf]; exact oe.out.trans (Only.set _ _ _ _)
  rw [← hwf]
  clear hwf ve oe ke fe ew
  have zf : V < wf.heap.size := (Array.getElem?_eq_some_iff.1 vf).1
  have kf : wf.cell? ⟨V, 0, none⟩ = some (.int .i64 (s0 + 1)) := blk_cell vf rfl
  have jf : wf.cell? ⟨V, 7, none⟩ = some (.int .i64 sets) := blk_cell vf rfl
  have VF : Aside (wf.heap[V]? = some (.cells #[.int .i64 (s0 + 1), .int .i64 s1, .int .i64 (l0 + 1), .int .i64 l1, .int .i64 f, .int .i64 win, .int .i64 legs, .int .i64 sets, .int .i64 clear, .int .i64 extra, .int .i64 first] 125 (0, 0))) := vf
  clear vf
  have MF : Aside (∀ w', Below wf.heap.size wf w' → (Below wf.heap.size wf w' ∧ w'.cell? ⟨V, 0, none⟩ = some (.int .i64 (s0 + 1)) ∧ w'.cell? ⟨V, 7, none⟩ = some (.int .i64 sets))) := fun w' hB => ⟨hB, keepc hB kf, keepc hB jf⟩
  go_wp2_with fail
  refine region_class (fun w' => Below wf.heap.size wf w' ∧ w'.cell? ⟨V, 0, none⟩ = some (.int .i64 (s0 + 1)) ∧ w'.cell? ⟨V, 7, none⟩ = some (.int .i64 sets)) (by kernel_rfl) (by kernel_rfl) (MF.out _ ((Below.refl _ _).drew)) ?_
  iterate 13 (first | go_big_quiet_skip | (go_big_quiet_want; unfold Oper.quiet; apply Exists.intro; refine ⟨fun W hW => ?_, ?_⟩; (go_split_ands; unfold Oper.quietAt; go_simp; first | rfl | exact ⟨rfl, rfl⟩ | fail); go_big_quiet_on; (try simp only [Act.put, List.setIfInBounds_toArray, List.set_cons_zero, List.set_cons_succ])))
  refine wpQuiet_nil ?_
  intro wg hwg
  have bg : Below wf.heap.size wf wg := hwg.1
  clear hwg MF kf jf
  have vg := (bg.block V zf).trans VF.out
  have og : Aside (Only V w wg) := of.out.trans (Only.of_below bg)
  clear bg VF of zf
  by_cases hs : s0 + 1 = sets
  ·have hq : (s0 + 1 == sets) = true := by simpa using hs
   have HR2 : Aside (res = ⟨s0 + 1, s1, l0 + 1, l1, 0⟩) := by
    show _ = _
    rw [HR.out, if_pos hs]
   have k5 : wg.cell? ⟨V, 5, none⟩ = some (.int .i64 win) := blk_cell vg rfl
   have f5 := blk_free vg 5
   have VG : Aside (wg.heap[V]? = some (.cells #[.int .i64 (s0 + 1), .int .i64 s1, .int .i64 (l0 + 1), .int .i64 l1, .int .i64 f, .int .i64 win, .int .i64 legs, .int .i64 sets, .int .i64 clear, .int .i64 extra, .int .i64 first] 125 (0, 0))) := vg
   clear hs HR vg
   go_wp2
   refine bodyPost_ret (results_none rfl _ _ _) rfl ?_
   exact ⟨⟨_, rfl⟩, by rw [HR2.out]; exact Go.Joins.block_setCell VG.out _, og.out.trans (Only.set _ _ _ _)⟩
  ·have hq : (s0 + 1 == sets) = false := by simpa using hs
   have HR2 : Aside (res = ⟨s0 + 1, s1, 0, 0, win⟩) := by
    show _ = _
    rw [HR.out, if_neg hs]
   have k2 : wg.cell? ⟨V, 2, none⟩ = some (.int .i64 (l0 + 1)) := blk_cell vg rfl
   have k3 : wg.cell? ⟨V, 3, none⟩ = some (.int .i64 l1) := blk_cell vg rfl
   have f2 := blk_free vg
   have VG : Aside (wg.heap[V]? = some (.cells #[.int .i64 (s0 + 1), .int .i64 s1, .int .i64 (l0 + 1), .int .i64 l1, .int .i64 f, .int .i64 win, .int .i64 legs, .int .i64 sets, .int .i64 clear, .int .i64 extra, .int .i64 first] 125 (0, 0))) := vg
   clear hs HR vg
   go_wp2
   go_end0
   exact ⟨⟨_, rfl⟩, by rw [HR2.out]; exact Go.Joins.block_setCell (Go.Joins.block_setCell VG.out _) _, (og.out.trans (Only.set _ _ _ _)).trans (Only.set _ _ _ _)⟩
set_option maxRecDepth 100000 in
set_option maxHeartbeats 4000000 in
theorem mtake1 (V : Nat) (s0 s1 l0 l1 f win : Int) (legs sets clear extra first : Int) (w : World) (hV : w.heap[V]? = some (.cells #[.int .i64 s0, .int .i64 s1, .int .i64 l0, .int .i64 l1, .int .i64 f, .int .i64 win, .int .i64 legs, .int .i64 sets, .int .i64 clear, .int .i64 extra, .int .i64 first] 125 (0, 0)))
  (a0 : 0 ≤ l0) (a1 : l0 < 9000000000000000000) (b0 : 0 ≤ l1) (b1 : l1 < 9000000000000000000) (g0 : 0 ≤ s0) (g1 : s0 < 9000000000000000000) (h0 : 0 ≤ s1) (h1 : s1 < 9000000000000000000) (c0 : 0 ≤ sets) (c1 : sets ≤ 25) (d0 : 0 ≤ legs) (d1 : legs ≤ 25) (e0 : 0 ≤ extra) (e1 : extra ≤ 25) :
  Calls Try.prog 60 #[.pointer (some ⟨V, 0, none⟩), .int .i64 1] w (MTakeOk V (Mt.step ⟨legs, sets, clear, extra, first⟩ ⟨s0, s1, l0, l1, win⟩ 1) f ⟨legs, sets, clear, extra, first⟩ w) := by
 have hlt : V < w.heap.size := (Array.getElem?_eq_some_iff.1 hV).1
 have hl : w.cell? ⟨V, 3, none⟩ = some (.int .i64 l1) := blk_cell hV rfl
 have MA : Aside (∀ w', Below w.heap.size w w' → (Below w.heap.size w w' ∧ w'.cell? ⟨V, 3, none⟩ = some (.int .i64 l1))) := fun w' hB => ⟨hB, keepc hB hl⟩
 have ew : IntKind.i64.wrap (l1 + 1) = l1 + 1 := IntWalk.i64_in _ (by omega)
 have HV : Aside (w.heap[V]? = some (.cells #[.int .i64 s0, .int .i64 s1, .int .i64 l0, .int .i64 l1, .int .i64 f, .int .i64 win, .int .i64 legs, .int .i64 sets, .int .i64 clear, .int .i64 extra, .int .i64 first] 125 (0, 0))) := hV
 have xW := fun W (h : W.heap[V]? = some (.cells #[.int .i64 s0, .int .i64 s1, .int .i64 l0, .int .i64 (l1 + 1), .int .i64 f, .int .i64 win, .int .i64 legs, .int .i64 sets, .int .i64 clear, .int .i64 extra, .int .i64 first] 125 (0, 0))) => winsSet1 V s0 s1 l0 (l1 + 1) f win legs sets clear extra first W h (by omega) (by omega) (by omega) (by omega) c0 c1 d0 d1 e0 e1
 have HS : Aside (Mt.step ⟨legs, sets, clear, extra, first⟩ ⟨s0, s1, l0, l1, win⟩ 1 = (if setWon ⟨legs, sets, clear, extra, first⟩ s0 s1 (l1 + 1) l0 = true then (if s1 + 1 = sets then ⟨s0, s1 + 1, l0, l1 + 1, 1⟩ else ⟨s0, s1 + 1, 0, 0, win⟩) else ⟨s0, s1, l0, l1 + 1, win⟩)) := rfl
 generalize Mt.step ⟨legs, sets, clear, extra, first⟩ ⟨s0, s1, l0, l1, win⟩ 1 = res at *
 clear hV
 go_enter Try.func60, Try.ntmps60
 go_wp2_with fail
 refine region_tail 12 (fun w' => Below w.heap.size w w' ∧ w'.cell? ⟨V, 3, none⟩ = some (.int .i64 l1)) 14 (by kernel_rfl) (by decide +kernel) (MA.out _ ((Below.refl _ _).drew)) ?_
 simp only [List.take_succ_cons, List.take_zero]
 iterate 12 (first | go_big_quiet_skip | (go_big_quiet_want; unfold Oper.quiet; apply Exists.intro; refine ⟨fun W hW => ?_, ?_⟩; (go_split_ands; unfold Oper.quietAt; go_simp; first | rfl | exact ⟨rfl, rfl⟩ | fail); go_big_quiet_on; (try simp only [Act.put, List.setIfInBounds_toArray, List.set_cons_zero, List.set_cons_succ])))
 refine wpQuiet_nil ?_
 intro wb hwb
 have bb : Below w.heap.size w wb := hwb.1
 clear hwb MA hl
 have vb := (bb.block V hlt).trans HV.out
 have ob : Aside (Only V w wb) := Only.of_below bb
 have kb : wb.cell? ⟨V, 3, none⟩ = some (.int .i64 l1) := blk_cell vb rfl
 have fb := blk_free vb 3
 clear bb HV
 refine wpAny_one (i := 12) (by decide +kernel) rfl rfl ?_
 unfold Oper.wp
 go_simp
 refine wpAny_done (by decide +kernel) ?_ _
 obtain ⟨wc, hwc⟩ : ∃ u, u = wb.setCell ⟨V, 3, none⟩ (.int .i64 (l1 + 1)) := ⟨_, rfl⟩
 have vc : wc.heap[V]? = some (.cells #[.int .i64 s0, .int .i64 s1, .int .i64 l0, .int .i64 (l1 + 1), .int .i64 f, .int .i64 win, .int .i64 legs, .int .i64 sets, .int .i64 clear, .int .i64 extra, .int .i64 first] 125 (0, 0)) := by rw [hwc]; exact Go.Joins.block_setCell vb _
 have oc : Aside (Only V w wc) := by rw [hwc]; exact ob.out.trans (Only.set _ _ _ _)
 rw [← hwc]
 clear hwc vb ob kb fb ew
 have xw := xW wc vc
 clear xW
 have zc : V < wc.heap.size := (Array.getElem?_eq_some_iff.1 vc).1
 have VC : Aside (wc.heap[V]? = some (.cells #[.int .i64 s0, .int .i64 s1, .int .i64 l0, .int .i64 (l1 + 1), .int .i64 f, .int .i64 win, .int .i64 legs, .int .i64 sets, .int .i64 clear, .int .i64 extra, .int .i64 first] 125 (0, 0))) := vc
 clear vc
 cases hr : setWon ⟨legs, sets, clear, extra, first⟩ s0 s1 (l1 + 1) l0 with
 | false =>
  rw [hr] at xw
  have HR : Aside (res = ⟨s0, s1, l0, l1 + 1, win⟩) := by
   show _ = _
   rw [HS.out, if_neg (by rw [hr]; simp)]
  clear HS hr
  go_wp2_with fail
  refine xw.mono ?_
  rintro e wd ⟨rfl, hd⟩
  have vd := (hd.block V zc).trans VC.out
  have od : Aside (Only V w wd) := oc.out.trans (Only.of_below hd)
  clear hd
  go_wp2
  refine bodyPost_ret (results_none rfl _ _ _) rfl ?_
  exact ⟨⟨_, rfl⟩, by rw [HR.out]; exact vd, od.out⟩
 | true =>
  rw [hr] at xw
  have HR : Aside (res = (if s1 + 1 = sets then ⟨s0, s1 + 1, l0, l1 + 1, 1⟩ else ⟨s0, s1 + 1, 0, 0, win⟩)) := by
   show _ = _
   rw [HS.out, if_pos (by rw [hr])]
  clear HS hr
  go_wp2_with fail
  refine xw.mono ?_
  rintro e wd ⟨rfl, hd⟩
  have vd := (hd.block V zc).trans VC.out
  have od : Aside (Only V w wd) := oc.out.trans (Only.of_below hd)
  have zd : V < wd.heap.size := Nat.lt_of_lt_of_le zc hd.size
  have VD : Aside (wd.heap[V]? = some (.cells #[.int .i64 s0, .int .i64 s1, .int .i64 l0, .int .i64 (l1 + 1), .int .i64 f, .int .i64 win, .int .i64 legs, .int .i64 sets, .int .i64 clear, .int .i64 extra, .int .i64 first] 125 (0, 0))) := vd
  have kd : wd.cell? ⟨V, 1, none⟩ = some (.int .i64 s1) := blk_cell vd rfl
  clear hd vd VC oc zc xw
  go_wp2_with fail
  have MD : Aside (∀ w', Below wd.heap.size wd w' → (Below wd.heap.size wd w' ∧ w'.cell? ⟨V, 1, none⟩ = some (.int .i64 s1))) := fun w' hB => ⟨hB, keepc hB kd⟩
  have ew : IntKind.i64.wrap (s1 + 1) = s1 + 1 := IntWalk.i64_in _ (by omega)
  refine region_tail 12 (fun w' => Below wd.heap.size wd w' ∧ w'.cell? ⟨V, 1, none⟩ = some (.int .i64 s1)) 14 (by kernel_rfl) (by decide +kernel) (MD.out _ ((Below.refl _ _).drew)) ?_
  simp only [List.take_succ_cons, List.take_zero]
  iterate 12 (first | go_big_quiet_skip | (go_big_quiet_want; unfold Oper.quiet; apply Exists.intro; refine ⟨fun W hW => ?_, ?_⟩; (go_split_ands; unfold Oper.quietAt; go_simp; first | rfl | exact ⟨rfl, rfl⟩ | fail); go_big_quiet_on; (try simp only [Act.put, List.setIfInBounds_toArray, List.set_cons_zero, List.set_cons_succ])))
  refine wpQuiet_nil ?_
  intro we hwe
  have be : Below wd.heap.size wd we := hwe.1
  clear hwe MD kd
  have ve := (be.block V zd).trans VD.out
  have oe : Aside (Only V w we) := od.out.trans (Only.of_below be)
  have ke : we.cell? ⟨V, 1, none⟩ = some (.int .i64 s1) := blk_cell ve rfl
  have fe := blk_free ve 1
  clear be VD od zd
  refine wpAny_one (i := 12) (by decide +kernel) rfl rfl ?_
  unfold Oper.wp
  go_simp
  refine wpAny_done (by decide +kernel) ?_ _
  obtain ⟨wf, hwf⟩ : ∃ u, u = we.setCell ⟨V, 1, none⟩ (.int .i64 (s1 + 1)) := ⟨_, rfl⟩
  have vf : wf.heap[V]? = some (.cells #[.int .i64 s0, .int .i64 (s1 + 1), .int .i64 l0, .int .i64 (l1 + 1), .int .i64 f, .int .i64 win, .int .i64 legs, .int .i64 sets, .int .i64 clear, .int .i64 extra, .int .i64 first] 125 (0, 0)) := by rw [hwf]; exact Go.Joins.block_setCell ve _
  have of : Aside (Only V w wf) := by rw [hwf]; exact oe.out.trans (Only.set _ _ _ _)
  rw [← hwf]
  clear hwf ve oe ke fe ew
  have zf : V < wf.heap.size := (Array.getElem?_eq_some_iff.1 vf).1
  have kf : wf.cell? ⟨V, 1, none⟩ = some (.int .i64 (s1 + 1)) := blk_cell vf rfl
  have jf : wf.cell? ⟨V, 7, none⟩ = some (.int .i64 sets) := blk_cell vf rfl
  have VF : Aside (wf.heap[V]? = some (.cells #[.int .i64 s0, .int .i64 (s1 + 1), .int .i64 l0, .int .i64 (l1 + 1), .int .i64 f, .int .i64 win, .int .i64 legs, .int .i64 sets, .int .i64 clear, .int .i64 extra, .int .i64 first] 125 (0, 0))) := vf
  clear vf
  have MF : Aside (∀ w', Below wf.heap.size wf w' → (Below wf.heap.size wf w' ∧ w'.cell? ⟨V, 1, none⟩ = some (.int .i64 (s1 + 1)) ∧ w'.cell? ⟨V, 7, none⟩ = some (.int .i64 sets))) := fun w' hB => ⟨hB, keepc hB kf, keepc hB jf⟩
  go_wp2_with fail
  refine region_class (fun w' => Below wf.heap.size wf w' ∧ w'.cell? ⟨V, 1, none⟩ = some (.int .i64 (s1 + 1)) ∧ w'.cell? ⟨V, 7, none⟩ = some (.int .i64 sets)) (by kernel_rfl) (by kernel_rfl) (MF.out _ ((Below.refl _ _).drew)) ?_
  iterate 13 (first | go_big_quiet_skip | (go_big_quiet_want; unfold Oper.quiet; apply Exists.intro; refine ⟨fun W hW => ?_, ?_⟩; (go_split_ands; unfold Oper.quietAt; go_simp; first | rfl | exact ⟨rfl, rfl⟩ | fail); go_big_quiet_on; (try simp only [Act.put, List.setIfInBounds_toArray, List.set_cons_zero, List.set_cons_succ])))
  refine wpQuiet_nil ?_
  intro wg hwg
  have bg : Below wf.heap.size wf wg := hwg.1
  clear hwg MF kf jf
  have vg := (bg.block V zf).trans VF.out
  have og : Aside (Only V w wg) := of.out.trans (Only.of_below bg)
  clear bg VF of zf
  by_cases hs : s1 + 1 = sets
  ·have hq : (s1 + 1 == sets) = true := by simpa using hs
   have HR2 : Aside (res = ⟨s0, s1 + 1, l0, l1 + 1, 1⟩) := by
    show _ = _
    rw [HR.out, if_pos hs]
   have k5 : wg.cell? ⟨V, 5, none⟩ = some (.int .i64 win) := blk_cell vg rfl
   have f5 := blk_free vg 5
   have VG : Aside (wg.heap[V]? = some (.cells #[.int .i64 s0, .int .i64 (s1 + 1), .int .i64 l0, .int .i64 (l1 + 1), .int .i64 f, .int .i64 win, .int .i64 legs, .int .i64 sets, .int .i64 clear, .int .i64 extra, .int .i64 first] 125 (0, 0))) := vg
   clear hs HR vg
   go_wp2
   refine bodyPost_ret (results_none rfl _ _ _) rfl ?_
   exact ⟨⟨_, rfl⟩, by rw [HR2.out]; exact Go.Joins.block_setCell VG.out _, og.out.trans (Only.set _ _ _ _)⟩
  ·have hq : (s1 + 1 == sets) = false := by simpa using hs
   have HR2 : Aside (res = ⟨s0, s1 + 1, 0, 0, win⟩) := by
    show _ = _
    rw [HR.out, if_neg hs]
   have k2 : wg.cell? ⟨V, 2, none⟩ = some (.int .i64 l0) := blk_cell vg rfl
   have k3 : wg.cell? ⟨V, 3, none⟩ = some (.int .i64 (l1 + 1)) := blk_cell vg rfl
   have f2 := blk_free vg
   have VG : Aside (wg.heap[V]? = some (.cells #[.int .i64 s0, .int .i64 (s1 + 1), .int .i64 l0, .int .i64 (l1 + 1), .int .i64 f, .int .i64 win, .int .i64 legs, .int .i64 sets, .int .i64 clear, .int .i64 extra, .int .i64 first] 125 (0, 0))) := vg
   clear hs HR vg
   go_wp2
   go_end0
   exact ⟨⟨_, rfl⟩, by rw [HR2.out]; exact Go.Joins.block_setCell (Go.Joins.block_setCell VG.out _) _, (og.out.trans (Only.set _ _ _ _)).trans (Only.set _ _ _ _)⟩
set_option maxRecDepth 100000 in
set_option maxHeartbeats 4000000 in
theorem mnext (V : Nat) (s0 s1 l0 l1 f win : Int) (legs sets clear extra first : Int) (w : World) (hV : w.heap[V]? = some (.cells #[.int .i64 s0, .int .i64 s1, .int .i64 l0, .int .i64 l1, .int .i64 f, .int .i64 win, .int .i64 legs, .int .i64 sets, .int .i64 clear, .int .i64 extra, .int .i64 first] 125 (0, 0)))
  (a0 : 0 ≤ l0) (a1 : l0 ≤ 1000000000000000000) (b0 : 0 ≤ l1) (b1 : l1 ≤ 1000000000000000000) (g0 : 0 ≤ s0) (g1 : s0 ≤ 1000000000000000000) (h0 : 0 ≤ s1) (h1 : s1 ≤ 1000000000000000000) (c0 : 0 ≤ first) (c1 : first ≤ 1) :
  Calls Try.prog 61 #[.pointer (some ⟨V, 0, none⟩)] w (Ret (.int .i64 (Mt.next ⟨legs, sets, clear, extra, first⟩ ⟨s0, s1, l0, l1, win⟩)) w) := by
 have k0 : w.cell? ⟨V, 0, none⟩ = some (.int .i64 s0) := blk_cell hV rfl
 have k1 : w.cell? ⟨V, 1, none⟩ = some (.int .i64 s1) := blk_cell hV rfl
 have k2 : w.cell? ⟨V, 2, none⟩ = some (.int .i64 l0) := blk_cell hV rfl
 have k3 : w.cell? ⟨V, 3, none⟩ = some (.int .i64 l1) := blk_cell hV rfl
 have k5 : w.cell? ⟨V, 5, none⟩ = some (.int .i64 win) := blk_cell hV rfl
 have k10 : w.cell? ⟨V, 10, none⟩ = some (.int .i64 first) := blk_cell hV rfl
 clear hV
 unfold Mt.next
 simp only []
 by_cases hw : win = -1
 ·subst hw
  rw [if_pos rfl]
  have e1 : IntKind.i64.wrap (s0 + s1) = s0 + s1 := IntWalk.i64_in _ (by omega)
  have e2 : IntKind.i64.wrap (s0 + s1 + l0) = s0 + s1 + l0 := IntWalk.i64_in _ (by omega)
  have e3 : IntKind.i64.wrap (s0 + s1 + l0 + l1) = s0 + s1 + l0 + l1 := IntWalk.i64_in _ (by omega)
  have MK : Aside (∀ w', Below w.heap.size w w' → (Below w.heap.size w w' ∧ w'.cell? ⟨V, 0, none⟩ = some (.int .i64 s0) ∧ w'.cell? ⟨V, 1, none⟩ = some (.int .i64 s1) ∧ w'.cell? ⟨V, 2, none⟩ = some (.int .i64 l0) ∧ w'.cell? ⟨V, 3, none⟩ = some (.int .i64 l1))) := fun w' hB => ⟨hB, keepc hB k0, keepc hB k1, keepc hB k2, keepc hB k3⟩
  go_enter Try.func61, Try.ntmps61
  go_wp2_with fail
  refine region_class (fun w' => Below w.heap.size w w' ∧ w'.cell? ⟨V, 0, none⟩ = some (.int .i64 s0) ∧ w'.cell? ⟨V, 1, none⟩ = some (.int .i64 s1) ∧ w'.cell? ⟨V, 2, none⟩ = some (.int .i64 l0) ∧ w'.cell? ⟨V, 3, none⟩ = some (.int .i64 l1)) (by kernel_rfl) (by kernel_rfl) (MK.out _ ((Below.refl _ _).drew)) ?_
  iterate 28 (first | go_big_quiet_skip | (go_big_quiet_want; unfold Oper.quiet; apply Exists.intro; refine ⟨fun W hW => ?_, ?_⟩; (go_split_ands; unfold Oper.quietAt; go_simp; first | rfl | exact ⟨rfl, rfl⟩ | fail); go_big_quiet_on; (try simp only [Act.put, List.setIfInBounds_toArray, List.set_cons_zero, List.set_cons_succ])))
  refine wpQuiet_nil ?_
  intro wa hwa
  have ba : Below w.heap.size w wa := hwa.1
  have j10 := keepc ba k10
  have BA : Aside (Below w.heap.size w wa) := ba
  clear hwa MK k0 k1 k2 k3 k5 k10 ba e1 e2 e3
  obtain ⟨T, hT⟩ : ∃ T, s0 + s1 + l0 + l1 = T := ⟨_, rfl⟩
  have t0 : 0 ≤ T := by omega
  have t1 : T ≤ 4000000000000000000 := by omega
  have HT : Aside (s0 + s1 + l0 + l1 = T) := hT
  rw [hT]
  clear hT
  go_wp2
  go_ret
  refine ⟨?_, BA.out⟩
  rw [HT.out]
  rfl
 ·rw [if_neg hw]
  have hq : (win != -1) = true := by simpa using hw
  go_enter Try.func61, Try.ntmps61
  go_wp2
  go_ret
  exact ⟨rfl, Below.refl _ _⟩
end
section
open Go.RowKit Go.Shelf
/-- A match as a value. -/
def mtV (g : Mt) (f : Int) : Value := .agg #[.int .i64 g.s0, .int .i64 g.s1, .int .i64 g.l0, .int .i64 g.l1, .int .i64 f, .int .i64 g.win]
/-- What Match returns. -/
def matchF (m : MtL) (ws : List Int) : Mt × Int × Int × Int :=
 if vmt m = true then (let r := mtL m ⟨0, 0, 0, 0, -1⟩ 0 ws; (r.1, (if r.2.2 = 0 then r.1.next m else 0), r.2.1, r.2.2)) else (⟨0, 0, 0, 0, 0⟩, 0, 0, 2)
def matchR (r : Mt × Int × Int × Int) : Value := .tuple #[mtV r.1 r.2.1, .int .i64 r.2.2.1, .int .i64 r.2.2.2]
/-- The zero result in memory. -/
def ScAt (w : World) (R : Nat) : Prop := w.heap[R]? = some (.cells #[.int .i64 0, .int .i64 0, .int .i64 0, .int .i64 0, .int .i64 0, .int .i64 0] 71 (0, 0))
theorem sc_below {w w' : World} {R : Nat} (h : ScAt w R) (hB : Below w.heap.size w w') : ScAt w' R := (hB.block R (Array.getElem?_eq_some_iff.1 h).1).trans h
theorem mt_below {w w' : World} {V : Nat} {g : Mt} {f : Int} {m : MtL} (h : MtAt w V g f m) (hB : Below w.heap.size w w') : MtAt w' V g f m := (hB.block V (Array.getElem?_eq_some_iff.1 h).1).trans h
theorem mt_size {w : World} {V : Nat} {g : Mt} {f : Int} {m : MtL} (h : MtAt w V g f m) : V < w.heap.size := (Array.getElem?_eq_some_iff.1 h).1
theorem mtake_any (V : Nat) (g : Mt) (f : Int) (m : MtL) (i : Nat) (x : Int) (w : World) (hV : MtAt w V g f m) (hg : g.Ok i) (hi : (i : Int) < 1000000000000000000) (hm : vmt m = true) (hx : inb 0 1 x = true) :
  Calls Try.prog 60 #[.pointer (some ⟨V, 0, none⟩), .int .i64 x] w (MTakeOk V (g.step m x) f m w) := by
 obtain ⟨a0, a1, b0, b1, c0, c1, d0, d1⟩ := hg
 unfold vmt inb at hm
 simp at hm
 obtain ⟨legs, sets, clear, extra, first⟩ := m
 obtain ⟨s0, s1, l0, l1, win⟩ := g
 unfold MtAt at hV
 simp only [] at *
 have hx' : x = 0 ∨ x = 1 := by unfold inb at hx; simp at hx; omega
 rcases hx' with rfl | rfl
 ·exact mtake0 V s0 s1 l0 l1 f win legs sets clear extra first w hV c0 (by omega) d0 (by omega) a0 (by omega) b0 (by omega) (by omega) (by omega) (by omega) (by omega) (by omega) (by omega)
 ·exact mtake1 V s0 s1 l0 l1 f win legs sets clear extra first w hV c0 (by omega) d0 (by omega) a0 (by omega) b0 (by omega) (by omega) (by omega) (by omega) (by omega) (by omega) (by omega)
/-- What holds at the head of a round. -/
def MtInv (m : MtL) (ws : List Int) (res : Mt × Int × Int) (w : World) (V R k : Nat) (wr : World) : Prop :=
 ∃ g : Mt, MtAt wr V g 0 m ∧ g.Ok k ∧ mtL m g k (ws.drop k) = res ∧ Below w.heap.size w wr ∧ ScAt wr R
set_option maxRecDepth 100000 in
set_option maxHeartbeats 8000000 in
theorem Match_any (m : MtL) (v : Value) (ws : List Int) (w : World) (hs : Sl w 1 eI v ws) (hn : ws.length ≤ 1000000) :
  Calls Try.prog 31 #[mtlV m, v] w (Ret (matchR (matchF m ws)) w) := by
 have x1 := fun W => validMatch_any m W
 have HR : Aside (matchF m ws = if vmt m = true then (let r := mtL m ⟨0, 0, 0, 0, -1⟩ 0 ws; (r.1, (if r.2.2 = 0 then r.1.next m else 0), r.2.1, r.2.2)) else (⟨0, 0, 0, 0, 0⟩, 0, 0, 2)) := rfl
 have y1 := fun x W k hk t => within_any 0 1 _ [x] _ (sl_one W k hk t x)
 simp only [List.all_cons, List.all_nil, Bool.and_true] at y1
 obtain ⟨a, cp, rfl, hl, hs⟩ := hs
 obtain ⟨n, hnn⟩ : ∃ n, ws.length = n := ⟨_, rfl⟩
 have HN : Aside (ws.length = n) := hnn
 have HS : Aside (ws ≠ [] → ∃ b off, a = some ⟨b, off, none⟩ ∧ b < w.heap.size ∧ ∀ j x, ws[j]? = some x → ∀ i y, (eI x)[i]? = some y → w.cell? ⟨b, off + j * 1 + i, none⟩ = some y) := hs
 rw [hnn] at hl hn ⊢
 clear hnn hs
 have HY : Aside _ := y1
 clear y1
 obtain ⟨res, hres⟩ : ∃ res, matchF m ws = res := ⟨_, rfl⟩
 rw [hres] at HR ⊢
 clear hres
 have hmv : mtlV m = .agg #[.int .i64 m.legs, .int .i64 m.sets, .int .i64 m.clear, .int .i64 m.extra, .int .i64 m.first] := rfl
 rw [hmv] at *
 clear hmv
 cases hv : vmt m with
 | false =>
  rw [hv] at x1
  have HR2 : Aside (res = (⟨0, 0, 0, 0, 0⟩, 0, 0, 2)) := by
   show _ = _
   rw [HR.out, if_neg (by rw [hv]; simp)]
  clear HR hv
  go_enter Try.func31, Try.ntmps31
  go_wp2_with fail
  refine (x1 _).mono ?_
  rintro e w1 ⟨rfl, hb1⟩
  have z1 : ScAt w1 (w.heap.size + 1) := (hb1.block _ (by simp)).trans (World.alloc_heap_new' _ _ _ (by simp))
  have BF : Aside (Below w.heap.size w w1) := by (repeat' (first | exact Below.refl _ _ | assumption | (with_reducible refine Below.drew ?_) | (with_reducible refine Below.setCell ?_ (by (first | (simp; done) | (simp; omega))) _) | (with_reducible refine below_drewN' ?_ _) | (refine Below.alloc ?_ (by (try simp only [World.size_alloc, World.size_drew, World.size_setCell]); omega) _) | (refine Below.trans ?_ (Below.mono (by assumption) (by (try simp only [World.size_alloc, World.size_drew, World.size_setCell]); omega)))))
  have r0 := blk_cell z1 (i := 0) rfl
  have r1 := blk_cell z1 (i := 1) rfl
  have r2 := blk_cell z1 (i := 2) rfl
  have r3 := blk_cell z1 (i := 3) rfl
  have r4 := blk_cell z1 (i := 4) rfl
  have r5 := blk_cell z1 (i := 5) rfl
  have rf := blk_free z1
  clear hb1 z1
  go_wp2
  refine bodyPost_ret (v := .tuple #[.agg #[.int .i64 0, .int .i64 0, .int .i64 0, .int .i64 0, .int .i64 0, .int .i64 0], .int .i64 0, .int .i64 2]) (by simp [results, Try.results31, go_sem, r0, r1, r2, r3, r4, r5]) rfl ⟨by rw [HR2.out]; rfl, ?_⟩
  exact below_set6 BF.out (by omega) _ _ _ _ _ _
 | true =>
  rw [hv] at x1
  obtain ⟨r, hr⟩ : ∃ r, mtL m ⟨0, 0, 0, 0, -1⟩ 0 ws = r := ⟨_, rfl⟩
  have HR1 : Aside (mtL m ⟨0, 0, 0, 0, -1⟩ 0 ws = r) := hr
  have HR2 : Aside (res = (r.1, (if r.2.2 = 0 then r.1.next m else 0), r.2.1, r.2.2)) := by
   show _ = _
   rw [HR.out, if_pos hv, hr]
  have HV : Aside (vmt m = true) := hv
  clear HR hv hr
  go_enter Try.func31, Try.ntmps31
  go_wp2_with fail
  refine (x1 _).mono ?_
  rintro e w1 ⟨rfl, hb1⟩
  have Z1 : Aside (ScAt w1 (w.heap.size + 1)) := (hb1.block _ (by simp)).trans (World.alloc_heap_new' _ _ _ (by simp))
  have BF1 : Aside (Below w.heap.size w w1) := by (repeat' (first | exact Below.refl _ _ | assumption | (with_reducible refine Below.drew ?_) | (with_reducible refine Below.setCell ?_ (by (first | (simp; done) | (simp; omega))) _) | (with_reducible refine below_drewN' ?_ _) | (refine Below.alloc ?_ (by (try simp only [World.size_alloc, World.size_drew, World.size_setCell]); omega) _) | (refine Below.trans ?_ (Below.mono (by assumption) (by (try simp only [World.size_alloc, World.size_drew, World.size_setCell]); omega)))))
  have m0 : w1.cell? ⟨w.heap.size, 0, none⟩ = some (.int .i64 m.legs) := keepc hb1 (by go_simp)
  have m1 : w1.cell? ⟨w.heap.size, 1, none⟩ = some (.int .i64 m.sets) := keepc hb1 (by go_simp)
  have m2 : w1.cell? ⟨w.heap.size, 2, none⟩ = some (.int .i64 m.clear) := keepc hb1 (by go_simp)
  have m3 : w1.cell? ⟨w.heap.size, 3, none⟩ = some (.int .i64 m.extra) := keepc hb1 (by go_simp)
  have m4 : w1.cell? ⟨w.heap.size, 4, none⟩ = some (.int .i64 m.first) := keepc hb1 (by go_simp)
  clear hb1 x1
  go_wp2_with fail
  obtain ⟨wa, hwa⟩ : ∃ u, u = w1.alloc (.cells #[.int .i64 0, .int .i64 0, .int .i64 0, .int .i64 0, .int .i64 0, .int .i64 (-1), .int .i64 m.legs, .int .i64 m.sets, .int .i64 m.clear, .int .i64 m.extra, .int .i64 m.first] 125) := ⟨_, rfl⟩
  have HI : Aside (MtInv m ws r w w1.heap.size (w.heap.size + 1) 0 wa) := by
   have hb : Below w1.heap.size w1 wa := by rw [hwa]; exact (Below.refl _ _).alloc (Nat.le_refl _) _
   refine ⟨⟨0, 0, 0, 0, -1⟩, ?_, ⟨by simp, by simp, by simp, by simp, by simp, by simp, by simp, by simp⟩, HR1.out, BF1.out.trans (hb.mono BF1.out.size), sc_below Z1.out hb⟩
   rw [hwa]; exact World.alloc_heap_new _ _
  have zV : w.heap.size + 1 < w1.heap.size := (Array.getElem?_eq_some_iff.1 Z1.out).1
  rw [← hwa]
  clear hwa m0 m1 m2 m3 m4 Z1 HR1
  go_loopg [19] n (fun gg i wr => ∃ k : Nat, k ≤ n ∧ n - k ≤ gg ∧ i = .int .i64 k ∧ Aside (MtInv m ws r w w1.heap.size (w.heap.size + 1) k wr))
  case atStart => exact ⟨0, Nat.zero_le _, by omega, rfl, HI.out⟩
  case round =>
   clear HI
   obtain ⟨k, hk, hg, rfl, HI⟩ := hrel
   obtain ⟨g, hv, hok, hr, hB, hz⟩ := HI.out
   have hzlt : w.heap.size + 1 < wr.heap.size := (Array.getElem?_eq_some_iff.1 hz).1
   have hvlt := mt_size hv
   have k5 : wr.cell? ⟨w1.heap.size, 5, none⟩ = some (.int .i64 g.win) := blk_cell hv rfl
   have HVV : Aside (MtAt wr w1.heap.size g 0 m) := hv
   have HZ : Aside (ScAt wr (w.heap.size + 1)) := hz
   have HOK : Aside (g.Ok k) := hok
   have HBW : Aside (Below w.heap.size w wr) := hB
   have HR : Aside (mtL m g k (ws.drop k) = r) := hr
   clear hv hz hok hB hr HI
   by_cases hlt : k < n
   ·have hltz : (k : Int) < (n : Int) := by omega
    obtain ⟨x, hx⟩ : ∃ x, ws[k]? = some x := ⟨_, List.getElem?_eq_getElem (by rw [HN.out]; exact hlt)⟩
    obtain ⟨B, off, rfl, hBlt, hcl⟩ := HS.out (by intro e; rw [e] at hx; simp at hx)
    have kx : wr.cell? ⟨B, off + k, none⟩ = some (.int .i64 x) := keepc HBW.out (by have := hcl k x hx 0 (.int .i64 x) rfl; simpa using this)
    have HRx : Aside (mtL m g k (x :: ws.drop (k + 1)) = r) := by
     obtain ⟨h1, h2⟩ := List.getElem?_eq_some_iff.1 hx
     show _ = _
     have := HR.out
     rw [List.drop_eq_getElem_cons h1, h2] at this
     exact this
    clear hcl hx HR
    by_cases hw : g.win = -1
    ·have hwq : (g.win != -1) = false := by simpa using hw
     have y1 := HY.out x
     cases hvx : inb 0 1 x with
     | false =>
      rw [hvx] at y1
      have HR3 : Aside (r = (⟨0, 0, 0, 0, 0⟩, (k : Int), 2)) := by
       show _ = _
       rw [← HRx.out, mtL, if_pos hw, if_neg (by rw [hvx]; simp)]
      clear hvx HRx hw
      go_wp2_with fail
      refine (y1 _ _ (by simp) _).mono ?_
      rintro e w2 ⟨rfl, hb2⟩
      have ha : Below wr.heap.size wr w2 := ((Below.refl _ wr).alloc (Nat.le_refl _) _).trans (hb2.mono (by simp))
      have z1 := sc_below HZ.out ha
      have BF : Aside (Below w.heap.size w w2) := HBW.out.trans (ha.mono HBW.out.size)
      have r0 := blk_cell z1 (i := 0) rfl
      have r1 := blk_cell z1 (i := 1) rfl
      have r2 := blk_cell z1 (i := 2) rfl
      have r3 := blk_cell z1 (i := 3) rfl
      have r4 := blk_cell z1 (i := 4) rfl
      have r5 := blk_cell z1 (i := 5) rfl
      have rf := blk_free z1
      clear ha hb2 z1 k5 kx
      go_wp2
      refine bodyPost_ret (v := .tuple #[.agg #[.int .i64 0, .int .i64 0, .int .i64 0, .int .i64 0, .int .i64 0, .int .i64 0], .int .i64 k, .int .i64 2]) (by simp [results, Try.results31, go_sem, r0, r1, r2, r3, r4, r5]) rfl ⟨by rw [HR2.out, HR3.out]; rfl, ?_⟩
      exact below_set6 BF.out (by omega) _ _ _ _ _ _
     | true =>
      rw [hvx] at y1
      have HR3 : Aside (mtL m (g.step m x) (k + 1) (ws.drop (k + 1)) = r) := by
       show _ = _
       rw [← HRx.out, mtL, if_pos hw, if_pos hvx]
      have HOK2 : Aside ((g.step m x).Ok (k + 1)) := HOK.out.step m x
      have x3 := fun W (h : MtAt W w1.heap.size g 0 m) => mtake_any w1.heap.size g 0 m k x W h HOK.out (by omega) HV.out hvx
      clear hvx HRx hw
      go_wp2_with fail
      refine (y1 _ _ (by simp) _).mono ?_
      rintro e w2 ⟨rfl, hb2⟩
      have ha : Below wr.heap.size wr w2 := ((Below.refl _ wr).alloc (Nat.le_refl _) _).trans (hb2.mono (by simp))
      have HV2 : Aside (MtAt w2 w1.heap.size g 0 m) := mt_below HVV.out ha
      have HZ2 : Aside (ScAt w2 (w.heap.size + 1)) := sc_below HZ.out ha
      have BF2 : Aside (Below w.heap.size w w2) := HBW.out.trans (ha.mono HBW.out.size)
      clear ha hb2 HVV HZ k5 kx y1
      go_wp2_with fail
      refine (x3 _ HV2.out).mono ?_
      rintro e w3 ⟨⟨v3, rfl⟩, hv3, ho3⟩
      have HI3 : Aside (MtInv m ws r w w1.heap.size (w.heap.size + 1) (k + 1) w3) := by
       have hz := mt_size HV2.out
       have := BF1.out.size
       exact ⟨g.step m x, hv3, HOK2.out, HR3.out, BF2.out.trans ((ho3.below (by omega)).mono (by omega)), ho3.cells (by omega) HZ2.out⟩
      clear hv3 ho3 HV2 HZ2 x3
      go_wp2_with fail
      go_roundg (n - (k + 1))
      case measure => omega
      case rel => exact ⟨k + 1, by omega, by omega, by go_num, HI3.out⟩
    ·-- @@a
     have hwq : (g.win != -1) = true := by simpa using hw
     have HR3 : Aside (r = (⟨0, 0, 0, 0, 0⟩, (k : Int), 33)) := by
      show _ = _
      rw [← HRx.out, mtL, if_neg hw]
     have z1 := HZ.out
     have r0 := blk_cell z1 (i := 0) rfl
     have r1 := blk_cell z1 (i := 1) rfl
     have r2 := blk_cell z1 (i := 2) rfl
     have r3 := blk_cell z1 (i := 3) rfl
     have r4 := blk_cell z1 (i := 4) rfl
     have r5 := blk_cell z1 (i := 5) rfl
     have rf := blk_free z1
     clear HRx hw z1
     go_wp2
     refine bodyPost_ret (v := .tuple #[.agg #[.int .i64 0, .int .i64 0, .int .i64 0, .int .i64 0, .int .i64 0, .int .i64 0], .int .i64 k, .int .i64 33]) (by simp [results, Try.results31, go_sem, r0, r1, r2, r3, r4, r5]) rfl ⟨by rw [HR2.out, HR3.out]; rfl, ?_⟩
     exact below_set6 HBW.out (by omega) _ _ _ _ _ _
   ·-- @@d
    have hltz : ¬ (k : Int) < (n : Int) := by omega
    have : k = n := by omega
    subst this
    have HR3 : Aside (r = (g, 0, 0)) := by
     have := HR.out
     rw [List.drop_of_length_le (by rw [HN.out]; exact Nat.le_refl _)] at this
     exact this.symm
    have hok := HOK.out
    have hvm := HV.out
    have x4 := fun W (h : MtAt W w1.heap.size g 0 m) => mnext w1.heap.size g.s0 g.s1 g.l0 g.l1 0 g.win m.legs m.sets m.clear m.extra m.first W h hok.c0 (by have := hok.c1; omega) hok.d0 (by have := hok.d1; omega) hok.a0 (by have := hok.a1; omega) hok.b0 (by have := hok.b1; omega) (by unfold vmt inb at hvm; simp at hvm; omega) (by unfold vmt inb at hvm; simp at hvm; omega)
    have HR4 : Aside (res = (g, Mt.next m g, 0, 0)) := by
     show _ = _
     rw [HR2.out, HR3.out]; rfl
    have e4 : Mt.next ⟨m.legs, m.sets, m.clear, m.extra, m.first⟩ ⟨g.s0, g.s1, g.l0, g.l1, g.win⟩ = Mt.next m g := rfl
    rw [e4] at x4
    generalize Mt.next m g = nx at *
    clear HR hok hvm HR2 HR3 k5 e4
    go_wp2_with fail
    refine (x4 _ HVV.out).mono ?_
    rintro e w2 ⟨rfl, hb2⟩
    have z1 := sc_below HZ.out hb2
    have v1 := mt_below HVV.out hb2
    have BF : Aside (Below w.heap.size w w2) := HBW.out.trans (hb2.mono HBW.out.size)
    have r0 := blk_cell z1 (i := 0) rfl
    have r1 := blk_cell z1 (i := 1) rfl
    have r2 := blk_cell z1 (i := 2) rfl
    have r3 := blk_cell z1 (i := 3) rfl
    have r4 := blk_cell z1 (i := 4) rfl
    have r5 := blk_cell z1 (i := 5) rfl
    have rf := blk_free z1
    have k0 : w2.cell? ⟨w1.heap.size, 0, none⟩ = some (.int .i64 g.s0) := blk_cell v1 rfl
    have k1 : w2.cell? ⟨w1.heap.size, 1, none⟩ = some (.int .i64 g.s1) := blk_cell v1 rfl
    have k2 : w2.cell? ⟨w1.heap.size, 2, none⟩ = some (.int .i64 g.l0) := blk_cell v1 rfl
    have k3 : w2.cell? ⟨w1.heap.size, 3, none⟩ = some (.int .i64 g.l1) := blk_cell v1 rfl
    have k4 : w2.cell? ⟨w1.heap.size, 4, none⟩ = some (.int .i64 0) := blk_cell v1 rfl
    have k5 : w2.cell? ⟨w1.heap.size, 5, none⟩ = some (.int .i64 g.win) := blk_cell v1 rfl
    have kf := blk_free v1
    have hne : ¬ w1.heap.size = w.heap.size + 1 := by omega
    clear hb2 z1 v1 x4 HVV HZ HOK
    go_wp2
    refine bodyPost_ret (v := .tuple #[.agg #[.int .i64 g.s0, .int .i64 g.s1, .int .i64 g.l0, .int .i64 g.l1, .int .i64 nx, .int .i64 g.win], .int .i64 0, .int .i64 0]) (by simp [results, Try.results31, go_sem, r0, r1, r2, r3, r4, r5]) rfl ⟨by rw [HR4.out]; rfl, ?_⟩
    exact below_set6 (BF.out.setCell (p := ⟨w1.heap.size, 4, none⟩) (show w.heap.size ≤ w1.heap.size by omega) _) (by omega) _ _ _ _ _ _
end
section
open Go.RowKit Go.Maps Go.Sort Go.Shelf
/-- The rules of a leg. -/
structure LegR where
 counts : List Cnt
 first : Int
 rounds : Int
 equal : Bool
/-- A leg while it is played. -/
structure LegG where
 left : List Int
 darts : List Int
 inn : List Bool
 next : Int
 round : Int
 over : Bool
 wins : List Int
 ended : List (Int × Int)
def beginG (r : LegR) : LegG := ⟨r.counts.map (·.1), r.counts.map (fun _ => 0), r.counts.map (fun c => c.2.1 == 0), r.first, 0, false, [], []⟩
/-- Elements vs stand in block g, one cell each. -/
def Row (w : World) (g : Nat) (T : TypeId) (vs : List Value) : Prop := ∃ cur, w.heap[g]? = some (.cells cur T (0, 0)) ∧ vs.length ≤ cur.size ∧ cur.toList.take vs.length = vs
theorem Row.lt {w : World} {g : Nat} {T : TypeId} {vs : List Value} (h : Row w g T vs) : g < w.heap.size := by obtain ⟨cur, h, _⟩ := h; exact (Array.getElem?_eq_some_iff.1 h).1
theorem Row.cell {w : World} {g : Nat} {T : TypeId} {vs : List Value} (h : Row w g T vs) {i : Nat} {x : Value} (hx : vs[i]? = some x) : w.cell? ⟨g, i, none⟩ = some x := by
 obtain ⟨cur, h, h1, h2⟩ := h
 refine blk_cell h ?_
 rw [← h2] at hx
 rw [List.getElem?_take] at hx
 split at hx
 ·simpa using hx
 ·cases hx
theorem Row.free {w : World} {g : Nat} {T : TypeId} {vs : List Value} (h : Row w g T vs) (i : Nat) : w.frozen? ⟨g, i, none⟩ = false := by
 obtain ⟨cur, h, _⟩ := h
 exact blk_free h i
theorem Row.set {w : World} {g : Nat} {T : TypeId} {vs : List Value} (h : Row w g T vs) (i : Nat) (x : Value) (hi : i < vs.length) : Row (w.setCell ⟨g, i, none⟩ x) g T (vs.set i x) := by
 obtain ⟨cur, h, h1, h2⟩ := h
 refine ⟨cur.setIfInBounds i x, Go.Joins.block_setCell h x, by simpa using h1, ?_⟩
 rw [List.length_set, Array.toList_setIfInBounds, List.take_set, h2]
theorem Row.same {w w' : World} {g : Nat} {T : TypeId} {vs : List Value} (h : Row w g T vs) (hb : w'.heap[g]? = w.heap[g]?) : Row w' g T vs := by
 obtain ⟨cur, h, h1⟩ := h
 exact ⟨cur, hb.trans h, h1⟩
theorem Row.sl {α : Type} {w : World} {g : Nat} {T : TypeId} {enc : α → Value} {xs : List α} (h : Row w g T (xs.map enc)) (hl : xs.length ≤ 9223372036854775807) (c : Nat) : Sl w 1 (fun x => [enc x]) (.slice (some ⟨g, 0, none⟩) xs.length c) xs :=
 ⟨_, c, rfl, hl, fun _ => ⟨g, 0, rfl, h.lt, fun j x hx i y hy => by
  match i, hy with
  | 0, hy =>
   simp at hy; subst hy
   rw [Nat.mul_one, Nat.zero_add, Nat.add_zero]
   exact h.cell (by rw [List.getElem?_map, hx]; rfl)
  | i + 1, hy => simp at hy⟩⟩
/-- All blocks but some are as they were. -/
structure Outs (S : List Nat) (w w' : World) : Prop where
 os : w'.os = w.os
 tape : w'.tape = w.tape
 output : w'.output = w.output
 size : w.heap.size ≤ w'.heap.size
 block : ∀ k, k ∉ S → k < w.heap.size → w'.heap[k]? = w.heap[k]?
theorem Outs.refl (S : List Nat) (w : World) : Outs S w w := ⟨rfl, rfl, rfl, Nat.le_refl _, fun _ _ _ => rfl⟩
theorem Outs.trans {S : List Nat} {a b c : World} (h : Outs S a b) (k : Outs S b c) : Outs S a c :=
 ⟨k.os.trans h.os, k.tape.trans h.tape, k.output.trans h.output, Nat.le_trans h.size k.size, fun i h1 h2 => (k.block i h1 (Nat.lt_of_lt_of_le h2 h.size)).trans (h.block i h1 h2)⟩
theorem Outs.of_below {S : List Nat} {w w' : World} (h : Below w.heap.size w w') : Outs S w w' := ⟨h.os, h.tape, h.output, h.size, fun k _ hk => h.block k hk⟩
theorem Outs.set {S : List Nat} {V : Nat} (hV : V ∈ S) (i : Nat) (w : World) (x : Value) : Outs S w (w.setCell ⟨V, i, none⟩ x) := ⟨rfl, rfl, rfl, by simp [World.setCell], fun k hk _ => Below.heap_setCell _ _ _ _ (fun e => hk (by rw [e]; exact hV))⟩
theorem Outs.grown {S : List Nat} {w w' : World} {V : Nat} (h : w.grownBy w' (some V)) (hV : V ∈ S) : Outs S w w' := ⟨h.os, h.tape, h.output, h.size, fun k hk hl => h.block k hl (fun e => hk (by cases e; exact hV))⟩
theorem Outs.mono {S T : List Nat} {w w' : World} (h : Outs S w w') (hs : ∀ k ∈ S, k ∈ T) : Outs T w w' := ⟨h.os, h.tape, h.output, h.size, fun k hk hl => h.block k (fun hm => hk (hs k hm)) hl⟩
theorem Outs.below {S : List Nat} {w w' : World} {B : Nat} (h : Outs S w w') (hS : ∀ k ∈ S, B ≤ k) (hB : B ≤ w.heap.size) : Below B w w' := ⟨h.os, h.tape, h.output, h.size, fun k hk => h.block k (fun hm => by have := hS k hm; omega) (by omega)⟩
theorem Only.outs {S : List Nat} {V : Nat} {w w' : World} (h : Only V w w') (hV : V ∈ S) : Outs S w w' := ⟨h.os, h.tape, h.output, h.size, fun k hk hl => h.block k (fun e => hk (by rw [e]; exact hV)) hl⟩
/-- A slice that lies in none of these blocks. -/
theorem Outs.sl {α : Type} {S : List Nat} {w w' : World} {k : Nat} {enc : α → List Value} {v : Value} {xs : List α} (h : Outs S w w') (hs : Sl w k enc v xs) (hS : ∀ g o n c, v = .slice (some ⟨g, o, none⟩) n c → g ∉ S) : Sl w' k enc v xs := by
 obtain ⟨a, c, rfl, hl, hs⟩ := hs
 refine ⟨a, c, rfl, hl, fun hne => ?_⟩
 obtain ⟨b, off, rfl, hb, hc⟩ := hs hne
 exact ⟨b, off, rfl, Nat.lt_of_lt_of_le hb h.size, fun j x hx i y hy => by
  have := hc j x hx i y hy
  exact (World.cell?_of_block (w := w) (a := ⟨b, off + j * k + i, none⟩) (h.block b (hS b off _ _ rfl) hb)).trans this⟩
/-- The slice that has a row. -/
abbrev rowV (g n c : Nat) : Value := .slice (some ⟨g, 0, none⟩) n c
/-- A leg in memory: in block V the struct; in gl, gd, gi, M its slices and its map. -/
structure LegW (w : World) (V gl gd gi M cl cd ci nn : Nat) (vc vw : Value) (D : DataW Unit) (r : LegR) (g : LegG) : Prop where
 blk : w.heap[V]? = some (.cells #[vc, .int .i64 r.first, .int .i64 r.rounds, .bool r.equal, rowV gl r.counts.length cl, rowV gd r.counts.length cd, rowV gi r.counts.length ci, .int .i64 g.next, .int .i64 g.round, .bool g.over, vw, .map (some M)] 118 (0, 0))
 left : Row w gl 3 (g.left.map (Value.int .i64))
 darts : Row w gd 3 (g.darts.map (Value.int .i64))
 inn : Row w gi 4 (g.inn.map Value.bool)
 own : OwnM w M nn D
 rep : Rep D g.ended
 counts : Sl w 3 encC vc r.counts
 wins : Sl w 1 eI vw g.wins
 l1 : g.left.length = r.counts.length
 l2 : g.darts.length = r.counts.length
 l3 : g.inn.length = r.counts.length
 d1 : V ∉ [gl, gd, gi, M]
 d2 : gl ∉ [gd, gi, M]
 d3 : gd ∉ [gi, M]
 d4 : gi ≠ M
 cout : ∀ b o n c, vc = .slice (some ⟨b, o, none⟩) n c → b ∉ [V, gl, gd, gi, M]
 wout : ∀ b o n c, vw = .slice (some ⟨b, o, none⟩) n c → b ∉ [V, gl, gd, gi, M]
end
end Go.Proofs.Ytgmlcgifagbjmaa
