/- Leg, part J: a leg more in a match; who throws first in the next one. -/
import Derived.Test.YthcgbceapabikaaI
set_option linter.unusedVariables false
set_option linter.unusedSimpArgs false
namespace Go.Proofs.Ythcgbceapabikaa
open Go.RowKit Go.Shelf

def MTakeOk (V : Nat) (g : Mt) (f : Int) (m : MtL) (w : World) (e : Ending) (w' : World) : Prop := (∃ v, e = .returned v) ∧ MtAt w' V g f m ∧ Only V w w'

set_option maxRecDepth 100000 in
set_option maxHeartbeats 4000000 in
theorem mtake0 (V : Nat) (s0 s1 l0 l1 f win : Int) (legs sets clear extra first : Int) (w : World) (hV : w.heap[V]? = some (.cells #[.int .i64 s0, .int .i64 s1, .int .i64 l0, .int .i64 l1, .int .i64 f, .int .i64 win, .int .i64 legs, .int .i64 sets, .int .i64 clear, .int .i64 extra, .int .i64 first] 125 (0, 0)))
    (a0 : 0 ≤ l0) (a1 : l0 < 9000000000000000000) (b0 : 0 ≤ l1) (b1 : l1 < 9000000000000000000) (g0 : 0 ≤ s0) (g1 : s0 < 9000000000000000000) (h0 : 0 ≤ s1) (h1 : s1 < 9000000000000000000) (c0 : 0 ≤ sets) (c1 : sets ≤ 25) (d0 : 0 ≤ legs) (d1 : legs ≤ 25) (e0 : 0 ≤ extra) (e1 : extra ≤ 25) :
    Calls Try.prog 60 #[.pointer (some ⟨V, 0, none⟩), .int .i64 0] w (MTakeOk V (Mt.step ⟨legs, sets, clear, extra, first⟩ ⟨s0, s1, l0, l1, win⟩ 0) f ⟨legs, sets, clear, extra, first⟩ w) := by
  have hlt : V < w.heap.size := (Array.getElem?_eq_some_iff.1 hV).1
  have hl : w.cell? ⟨V, 2, none⟩ = some (.int .i64 l0) := blk_cell hV rfl
  have MA : Aside (∀ w', Below w.heap.size w w' → (Below w.heap.size w w' ∧ w'.cell? ⟨V, 2, none⟩ = some (.int .i64 l0))) := fun w' hB => ⟨hB, keepc hB hl⟩
  have ew : IntKind.i64.wrap (l0 + 1) = l0 + 1 := IntWalk.i64_in _ (by omega)
  have HV : Aside (w.heap[V]? = some (.cells #[.int .i64 s0, .int .i64 s1, .int .i64 l0, .int .i64 l1, .int .i64 f, .int .i64 win, .int .i64 legs, .int .i64 sets, .int .i64 clear, .int .i64 extra, .int .i64 first] 125 (0, 0))) := hV
  have xW := fun W (h : W.heap[V]? = some (.cells #[.int .i64 s0, .int .i64 s1, .int .i64 (l0 + 1), .int .i64 l1, .int .i64 f, .int .i64 win, .int .i64 legs, .int .i64 sets, .int .i64 clear, .int .i64 extra, .int .i64 first] 125 (0, 0))) => winsSet0 V s0 s1 (l0 + 1) l1 f win legs sets clear extra first W h (by omega) (by omega) (by omega) (by omega) c0 c1 d0 d1 e0 e1
  have HS : Aside (Mt.step ⟨legs, sets, clear, extra, first⟩ ⟨s0, s1, l0, l1, win⟩ 0 = (if setWon ⟨legs, sets, clear, extra, first⟩ s0 s1 (l0 + 1) l1 = true then (if s0 + 1 = sets then ⟨s0 + 1, s1, l0 + 1, l1, 0⟩ else ⟨s0 + 1, s1, 0, 0, win⟩) else ⟨s0, s1, l0 + 1, l1, win⟩)) := rfl
  generalize Mt.step ⟨legs, sets, clear, extra, first⟩ ⟨s0, s1, l0, l1, win⟩ 0 = res at *
  clear hV
  go_enter Try.func60, Try.ntmps60
  go_wp2_with fail
  refine region_tail 12 (fun w' => Below w.heap.size w w' ∧ w'.cell? ⟨V, 2, none⟩ = some (.int .i64 l0)) 14 (by kernel_rfl) (by decide +kernel) (MA.out _ ((Below.refl _ _).drew)) ?_
  simp only [List.take_succ_cons, List.take_zero]
  iterate 12 (first | go_big_quiet_skip | (go_big_quiet_want; unfold Oper.quiet; apply Exists.intro; refine ⟨fun W hW => ?_, ?_⟩; (go_split_ands; unfold Oper.quietAt; go_simp; first | rfl | exact ⟨rfl, rfl⟩ | fail); go_big_quiet_on; (try simp only [Act.put, List.setIfInBounds_toArray, List.set_cons_zero, List.set_cons_succ])))
  refine wpQuiet_nil ?_
  intro wb hwb
  have bb : Below w.heap.size w wb := hwb.1
  clear hwb MA hl
  have vb := (bb.block V hlt).trans HV.out
  have ob : Aside (Only V w wb) := Only.of_below bb
  have kb : wb.cell? ⟨V, 2, none⟩ = some (.int .i64 l0) := blk_cell vb rfl
  have fb := blk_free vb 2
  clear bb HV
  refine wpAny_one (i := 12) (by decide +kernel) rfl rfl ?_
  unfold Oper.wp
  go_simp
  refine wpAny_done (by decide +kernel) ?_ _
  obtain ⟨wc, hwc⟩ : ∃ u, u = wb.setCell ⟨V, 2, none⟩ (.int .i64 (l0 + 1)) := ⟨_, rfl⟩
  have vc : wc.heap[V]? = some (.cells #[.int .i64 s0, .int .i64 s1, .int .i64 (l0 + 1), .int .i64 l1, .int .i64 f, .int .i64 win, .int .i64 legs, .int .i64 sets, .int .i64 clear, .int .i64 extra, .int .i64 first] 125 (0, 0)) := by rw [hwc]; exact Go.Joins.block_setCell vb _
  have oc : Aside (Only V w wc) := by rw [hwc]; exact ob.out.trans (Only.set _ _ _ _)
  rw [← hwc]
  clear hwc vb ob kb fb ew
  have xw := xW wc vc
  clear xW
  have zc : V < wc.heap.size := (Array.getElem?_eq_some_iff.1 vc).1
  have VC : Aside (wc.heap[V]? = some (.cells #[.int .i64 s0, .int .i64 s1, .int .i64 (l0 + 1), .int .i64 l1, .int .i64 f, .int .i64 win, .int .i64 legs, .int .i64 sets, .int .i64 clear, .int .i64 extra, .int .i64 first] 125 (0, 0))) := vc
  clear vc
  cases hr : setWon ⟨legs, sets, clear, extra, first⟩ s0 s1 (l0 + 1) l1 with
  | false =>
    rw [hr] at xw
    have HR : Aside (res = ⟨s0, s1, l0 + 1, l1, win⟩) := by
      show _ = _
      rw [HS.out, if_neg (by rw [hr]; simp)]
    clear HS hr
    go_wp2_with fail
    refine xw.mono ?_
    rintro e wd ⟨rfl, hd⟩
    have vd := (hd.block V zc).trans VC.out
    have od : Aside (Only V w wd) := oc.out.trans (Only.of_below hd)
    clear hd
    go_wp2
    refine bodyPost_ret (results_none rfl _ _ _) rfl ?_
    exact ⟨⟨_, rfl⟩, by rw [HR.out]; exact vd, od.out⟩
  | true =>
    rw [hr] at xw
    have HR : Aside (res = (if s0 + 1 = sets then ⟨s0 + 1, s1, l0 + 1, l1, 0⟩ else ⟨s0 + 1, s1, 0, 0, win⟩)) := by
      show _ = _
      rw [HS.out, if_pos (by rw [hr])]
    clear HS hr
    go_wp2_with fail
    refine xw.mono ?_
    rintro e wd ⟨rfl, hd⟩
    have vd := (hd.block V zc).trans VC.out
    have od : Aside (Only V w wd) := oc.out.trans (Only.of_below hd)
    have zd : V < wd.heap.size := Nat.lt_of_lt_of_le zc hd.size
    have VD : Aside (wd.heap[V]? = some (.cells #[.int .i64 s0, .int .i64 s1, .int .i64 (l0 + 1), .int .i64 l1, .int .i64 f, .int .i64 win, .int .i64 legs, .int .i64 sets, .int .i64 clear, .int .i64 extra, .int .i64 first] 125 (0, 0))) := vd
    have kd : wd.cell? ⟨V, 0, none⟩ = some (.int .i64 s0) := blk_cell vd rfl
    clear hd vd VC oc zc xw
    go_wp2_with fail
    have MD : Aside (∀ w', Below wd.heap.size wd w' → (Below wd.heap.size wd w' ∧ w'.cell? ⟨V, 0, none⟩ = some (.int .i64 s0))) := fun w' hB => ⟨hB, keepc hB kd⟩
    have ew : IntKind.i64.wrap (s0 + 1) = s0 + 1 := IntWalk.i64_in _ (by omega)
    refine region_tail 12 (fun w' => Below wd.heap.size wd w' ∧ w'.cell? ⟨V, 0, none⟩ = some (.int .i64 s0)) 14 (by kernel_rfl) (by decide +kernel) (MD.out _ ((Below.refl _ _).drew)) ?_
    simp only [List.take_succ_cons, List.take_zero]
    iterate 12 (first | go_big_quiet_skip | (go_big_quiet_want; unfold Oper.quiet; apply Exists.intro; refine ⟨fun W hW => ?_, ?_⟩; (go_split_ands; unfold Oper.quietAt; go_simp; first | rfl | exact ⟨rfl, rfl⟩ | fail); go_big_quiet_on; (try simp only [Act.put, List.setIfInBounds_toArray, List.set_cons_zero, List.set_cons_succ])))
    refine wpQuiet_nil ?_
    intro we hwe
    have be : Below wd.heap.size wd we := hwe.1
    clear hwe MD kd
    have ve := (be.block V zd).trans VD.out
    have oe : Aside (Only V w we) := od.out.trans (Only.of_below be)
    have ke : we.cell? ⟨V, 0, none⟩ = some (.int .i64 s0) := blk_cell ve rfl
    have fe := blk_free ve 0
    clear be VD od zd
    refine wpAny_one (i := 12) (by decide +kernel) rfl rfl ?_
    unfold Oper.wp
    go_simp
    refine wpAny_done (by decide +kernel) ?_ _
    obtain ⟨wf, hwf⟩ : ∃ u, u = we.setCell ⟨V, 0, none⟩ (.int .i64 (s0 + 1)) := ⟨_, rfl⟩
    have vf : wf.heap[V]? = some (.cells #[.int .i64 (s0 + 1), .int .i64 s1, .int .i64 (l0 + 1), .int .i64 l1, .int .i64 f, .int .i64 win, .int .i64 legs, .int .i64 sets, .int .i64 clear, .int .i64 extra, .int .i64 first] 125 (0, 0)) := by rw [hwf]; exact Go.Joins.block_setCell ve _
    have of : Aside (Only V w wf) := by rw [hwf]; exact oe.out.trans (Only.set _ _ _ _)
    rw [← hwf]
    clear hwf ve oe ke fe ew
    have zf : V < wf.heap.size := (Array.getElem?_eq_some_iff.1 vf).1
    have kf : wf.cell? ⟨V, 0, none⟩ = some (.int .i64 (s0 + 1)) := blk_cell vf rfl
    have jf : wf.cell? ⟨V, 7, none⟩ = some (.int .i64 sets) := blk_cell vf rfl
    have VF : Aside (wf.heap[V]? = some (.cells #[.int .i64 (s0 + 1), .int .i64 s1, .int .i64 (l0 + 1), .int .i64 l1, .int .i64 f, .int .i64 win, .int .i64 legs, .int .i64 sets, .int .i64 clear, .int .i64 extra, .int .i64 first] 125 (0, 0))) := vf
    clear vf
    have MF : Aside (∀ w', Below wf.heap.size wf w' → (Below wf.heap.size wf w' ∧ w'.cell? ⟨V, 0, none⟩ = some (.int .i64 (s0 + 1)) ∧ w'.cell? ⟨V, 7, none⟩ = some (.int .i64 sets))) := fun w' hB => ⟨hB, keepc hB kf, keepc hB jf⟩
    go_wp2_with fail
    refine region_class (fun w' => Below wf.heap.size wf w' ∧ w'.cell? ⟨V, 0, none⟩ = some (.int .i64 (s0 + 1)) ∧ w'.cell? ⟨V, 7, none⟩ = some (.int .i64 sets)) (by kernel_rfl) (by kernel_rfl) (MF.out _ ((Below.refl _ _).drew)) ?_
    iterate 13 (first | go_big_quiet_skip | (go_big_quiet_want; unfold Oper.quiet; apply Exists.intro; refine ⟨fun W hW => ?_, ?_⟩; (go_split_ands; unfold Oper.quietAt; go_simp; first | rfl | exact ⟨rfl, rfl⟩ | fail); go_big_quiet_on; (try simp only [Act.put, List.setIfInBounds_toArray, List.set_cons_zero, List.set_cons_succ])))
    refine wpQuiet_nil ?_
    intro wg hwg
    have bg : Below wf.heap.size wf wg := hwg.1
    clear hwg MF kf jf
    have vg := (bg.block V zf).trans VF.out
    have og : Aside (Only V w wg) := of.out.trans (Only.of_below bg)
    clear bg VF of zf
    by_cases hs : s0 + 1 = sets
    · have hq : (s0 + 1 == sets) = true := by simpa using hs
      have HR2 : Aside (res = ⟨s0 + 1, s1, l0 + 1, l1, 0⟩) := by
        show _ = _
        rw [HR.out, if_pos hs]
      have k5 : wg.cell? ⟨V, 5, none⟩ = some (.int .i64 win) := blk_cell vg rfl
      have f5 := blk_free vg 5
      have VG : Aside (wg.heap[V]? = some (.cells #[.int .i64 (s0 + 1), .int .i64 s1, .int .i64 (l0 + 1), .int .i64 l1, .int .i64 f, .int .i64 win, .int .i64 legs, .int .i64 sets, .int .i64 clear, .int .i64 extra, .int .i64 first] 125 (0, 0))) := vg
      clear hs HR vg
      go_wp2
      refine bodyPost_ret (results_none rfl _ _ _) rfl ?_
      exact ⟨⟨_, rfl⟩, by rw [HR2.out]; exact Go.Joins.block_setCell VG.out _, og.out.trans (Only.set _ _ _ _)⟩
    · have hq : (s0 + 1 == sets) = false := by simpa using hs
      have HR2 : Aside (res = ⟨s0 + 1, s1, 0, 0, win⟩) := by
        show _ = _
        rw [HR.out, if_neg hs]
      have k2 : wg.cell? ⟨V, 2, none⟩ = some (.int .i64 (l0 + 1)) := blk_cell vg rfl
      have k3 : wg.cell? ⟨V, 3, none⟩ = some (.int .i64 l1) := blk_cell vg rfl
      have f2 := blk_free vg
      have VG : Aside (wg.heap[V]? = some (.cells #[.int .i64 (s0 + 1), .int .i64 s1, .int .i64 (l0 + 1), .int .i64 l1, .int .i64 f, .int .i64 win, .int .i64 legs, .int .i64 sets, .int .i64 clear, .int .i64 extra, .int .i64 first] 125 (0, 0))) := vg
      clear hs HR vg
      go_wp2
      go_end0
      exact ⟨⟨_, rfl⟩, by rw [HR2.out]; exact Go.Joins.block_setCell (Go.Joins.block_setCell VG.out _) _, (og.out.trans (Only.set _ _ _ _)).trans (Only.set _ _ _ _)⟩

set_option maxRecDepth 100000 in
set_option maxHeartbeats 4000000 in
theorem mtake1 (V : Nat) (s0 s1 l0 l1 f win : Int) (legs sets clear extra first : Int) (w : World) (hV : w.heap[V]? = some (.cells #[.int .i64 s0, .int .i64 s1, .int .i64 l0, .int .i64 l1, .int .i64 f, .int .i64 win, .int .i64 legs, .int .i64 sets, .int .i64 clear, .int .i64 extra, .int .i64 first] 125 (0, 0)))
    (a0 : 0 ≤ l0) (a1 : l0 < 9000000000000000000) (b0 : 0 ≤ l1) (b1 : l1 < 9000000000000000000) (g0 : 0 ≤ s0) (g1 : s0 < 9000000000000000000) (h0 : 0 ≤ s1) (h1 : s1 < 9000000000000000000) (c0 : 0 ≤ sets) (c1 : sets ≤ 25) (d0 : 0 ≤ legs) (d1 : legs ≤ 25) (e0 : 0 ≤ extra) (e1 : extra ≤ 25) :
    Calls Try.prog 60 #[.pointer (some ⟨V, 0, none⟩), .int .i64 1] w (MTakeOk V (Mt.step ⟨legs, sets, clear, extra, first⟩ ⟨s0, s1, l0, l1, win⟩ 1) f ⟨legs, sets, clear, extra, first⟩ w) := by
  have hlt : V < w.heap.size := (Array.getElem?_eq_some_iff.1 hV).1
  have hl : w.cell? ⟨V, 3, none⟩ = some (.int .i64 l1) := blk_cell hV rfl
  have MA : Aside (∀ w', Below w.heap.size w w' → (Below w.heap.size w w' ∧ w'.cell? ⟨V, 3, none⟩ = some (.int .i64 l1))) := fun w' hB => ⟨hB, keepc hB hl⟩
  have ew : IntKind.i64.wrap (l1 + 1) = l1 + 1 := IntWalk.i64_in _ (by omega)
  have HV : Aside (w.heap[V]? = some (.cells #[.int .i64 s0, .int .i64 s1, .int .i64 l0, .int .i64 l1, .int .i64 f, .int .i64 win, .int .i64 legs, .int .i64 sets, .int .i64 clear, .int .i64 extra, .int .i64 first] 125 (0, 0))) := hV
  have xW := fun W (h : W.heap[V]? = some (.cells #[.int .i64 s0, .int .i64 s1, .int .i64 l0, .int .i64 (l1 + 1), .int .i64 f, .int .i64 win, .int .i64 legs, .int .i64 sets, .int .i64 clear, .int .i64 extra, .int .i64 first] 125 (0, 0))) => winsSet1 V s0 s1 l0 (l1 + 1) f win legs sets clear extra first W h (by omega) (by omega) (by omega) (by omega) c0 c1 d0 d1 e0 e1
  have HS : Aside (Mt.step ⟨legs, sets, clear, extra, first⟩ ⟨s0, s1, l0, l1, win⟩ 1 = (if setWon ⟨legs, sets, clear, extra, first⟩ s0 s1 (l1 + 1) l0 = true then (if s1 + 1 = sets then ⟨s0, s1 + 1, l0, l1 + 1, 1⟩ else ⟨s0, s1 + 1, 0, 0, win⟩) else ⟨s0, s1, l0, l1 + 1, win⟩)) := rfl
  generalize Mt.step ⟨legs, sets, clear, extra, first⟩ ⟨s0, s1, l0, l1, win⟩ 1 = res at *
  clear hV
  go_enter Try.func60, Try.ntmps60
  go_wp2_with fail
  refine region_tail 12 (fun w' => Below w.heap.size w w' ∧ w'.cell? ⟨V, 3, none⟩ = some (.int .i64 l1)) 14 (by kernel_rfl) (by decide +kernel) (MA.out _ ((Below.refl _ _).drew)) ?_
  simp only [List.take_succ_cons, List.take_zero]
  iterate 12 (first | go_big_quiet_skip | (go_big_quiet_want; unfold Oper.quiet; apply Exists.intro; refine ⟨fun W hW => ?_, ?_⟩; (go_split_ands; unfold Oper.quietAt; go_simp; first | rfl | exact ⟨rfl, rfl⟩ | fail); go_big_quiet_on; (try simp only [Act.put, List.setIfInBounds_toArray, List.set_cons_zero, List.set_cons_succ])))
  refine wpQuiet_nil ?_
  intro wb hwb
  have bb : Below w.heap.size w wb := hwb.1
  clear hwb MA hl
  have vb := (bb.block V hlt).trans HV.out
  have ob : Aside (Only V w wb) := Only.of_below bb
  have kb : wb.cell? ⟨V, 3, none⟩ = some (.int .i64 l1) := blk_cell vb rfl
  have fb := blk_free vb 3
  clear bb HV
  refine wpAny_one (i := 12) (by decide +kernel) rfl rfl ?_
  unfold Oper.wp
  go_simp
  refine wpAny_done (by decide +kernel) ?_ _
  obtain ⟨wc, hwc⟩ : ∃ u, u = wb.setCell ⟨V, 3, none⟩ (.int .i64 (l1 + 1)) := ⟨_, rfl⟩
  have vc : wc.heap[V]? = some (.cells #[.int .i64 s0, .int .i64 s1, .int .i64 l0, .int .i64 (l1 + 1), .int .i64 f, .int .i64 win, .int .i64 legs, .int .i64 sets, .int .i64 clear, .int .i64 extra, .int .i64 first] 125 (0, 0)) := by rw [hwc]; exact Go.Joins.block_setCell vb _
  have oc : Aside (Only V w wc) := by rw [hwc]; exact ob.out.trans (Only.set _ _ _ _)
  rw [← hwc]
  clear hwc vb ob kb fb ew
  have xw := xW wc vc
  clear xW
  have zc : V < wc.heap.size := (Array.getElem?_eq_some_iff.1 vc).1
  have VC : Aside (wc.heap[V]? = some (.cells #[.int .i64 s0, .int .i64 s1, .int .i64 l0, .int .i64 (l1 + 1), .int .i64 f, .int .i64 win, .int .i64 legs, .int .i64 sets, .int .i64 clear, .int .i64 extra, .int .i64 first] 125 (0, 0))) := vc
  clear vc
  cases hr : setWon ⟨legs, sets, clear, extra, first⟩ s0 s1 (l1 + 1) l0 with
  | false =>
    rw [hr] at xw
    have HR : Aside (res = ⟨s0, s1, l0, l1 + 1, win⟩) := by
      show _ = _
      rw [HS.out, if_neg (by rw [hr]; simp)]
    clear HS hr
    go_wp2_with fail
    refine xw.mono ?_
    rintro e wd ⟨rfl, hd⟩
    have vd := (hd.block V zc).trans VC.out
    have od : Aside (Only V w wd) := oc.out.trans (Only.of_below hd)
    clear hd
    go_wp2
    refine bodyPost_ret (results_none rfl _ _ _) rfl ?_
    exact ⟨⟨_, rfl⟩, by rw [HR.out]; exact vd, od.out⟩
  | true =>
    rw [hr] at xw
    have HR : Aside (res = (if s1 + 1 = sets then ⟨s0, s1 + 1, l0, l1 + 1, 1⟩ else ⟨s0, s1 + 1, 0, 0, win⟩)) := by
      show _ = _
      rw [HS.out, if_pos (by rw [hr])]
    clear HS hr
    go_wp2_with fail
    refine xw.mono ?_
    rintro e wd ⟨rfl, hd⟩
    have vd := (hd.block V zc).trans VC.out
    have od : Aside (Only V w wd) := oc.out.trans (Only.of_below hd)
    have zd : V < wd.heap.size := Nat.lt_of_lt_of_le zc hd.size
    have VD : Aside (wd.heap[V]? = some (.cells #[.int .i64 s0, .int .i64 s1, .int .i64 l0, .int .i64 (l1 + 1), .int .i64 f, .int .i64 win, .int .i64 legs, .int .i64 sets, .int .i64 clear, .int .i64 extra, .int .i64 first] 125 (0, 0))) := vd
    have kd : wd.cell? ⟨V, 1, none⟩ = some (.int .i64 s1) := blk_cell vd rfl
    clear hd vd VC oc zc xw
    go_wp2_with fail
    have MD : Aside (∀ w', Below wd.heap.size wd w' → (Below wd.heap.size wd w' ∧ w'.cell? ⟨V, 1, none⟩ = some (.int .i64 s1))) := fun w' hB => ⟨hB, keepc hB kd⟩
    have ew : IntKind.i64.wrap (s1 + 1) = s1 + 1 := IntWalk.i64_in _ (by omega)
    refine region_tail 12 (fun w' => Below wd.heap.size wd w' ∧ w'.cell? ⟨V, 1, none⟩ = some (.int .i64 s1)) 14 (by kernel_rfl) (by decide +kernel) (MD.out _ ((Below.refl _ _).drew)) ?_
    simp only [List.take_succ_cons, List.take_zero]
    iterate 12 (first | go_big_quiet_skip | (go_big_quiet_want; unfold Oper.quiet; apply Exists.intro; refine ⟨fun W hW => ?_, ?_⟩; (go_split_ands; unfold Oper.quietAt; go_simp; first | rfl | exact ⟨rfl, rfl⟩ | fail); go_big_quiet_on; (try simp only [Act.put, List.setIfInBounds_toArray, List.set_cons_zero, List.set_cons_succ])))
    refine wpQuiet_nil ?_
    intro we hwe
    have be : Below wd.heap.size wd we := hwe.1
    clear hwe MD kd
    have ve := (be.block V zd).trans VD.out
    have oe : Aside (Only V w we) := od.out.trans (Only.of_below be)
    have ke : we.cell? ⟨V, 1, none⟩ = some (.int .i64 s1) := blk_cell ve rfl
    have fe := blk_free ve 1
    clear be VD od zd
    refine wpAny_one (i := 12) (by decide +kernel) rfl rfl ?_
    unfold Oper.wp
    go_simp
    refine wpAny_done (by decide +kernel) ?_ _
    obtain ⟨wf, hwf⟩ : ∃ u, u = we.setCell ⟨V, 1, none⟩ (.int .i64 (s1 + 1)) := ⟨_, rfl⟩
    have vf : wf.heap[V]? = some (.cells #[.int .i64 s0, .int .i64 (s1 + 1), .int .i64 l0, .int .i64 (l1 + 1), .int .i64 f, .int .i64 win, .int .i64 legs, .int .i64 sets, .int .i64 clear, .int .i64 extra, .int .i64 first] 125 (0, 0)) := by rw [hwf]; exact Go.Joins.block_setCell ve _
    have of : Aside (Only V w wf) := by rw [hwf]; exact oe.out.trans (Only.set _ _ _ _)
    rw [← hwf]
    clear hwf ve oe ke fe ew
    have zf : V < wf.heap.size := (Array.getElem?_eq_some_iff.1 vf).1
    have kf : wf.cell? ⟨V, 1, none⟩ = some (.int .i64 (s1 + 1)) := blk_cell vf rfl
    have jf : wf.cell? ⟨V, 7, none⟩ = some (.int .i64 sets) := blk_cell vf rfl
    have VF : Aside (wf.heap[V]? = some (.cells #[.int .i64 s0, .int .i64 (s1 + 1), .int .i64 l0, .int .i64 (l1 + 1), .int .i64 f, .int .i64 win, .int .i64 legs, .int .i64 sets, .int .i64 clear, .int .i64 extra, .int .i64 first] 125 (0, 0))) := vf
    clear vf
    have MF : Aside (∀ w', Below wf.heap.size wf w' → (Below wf.heap.size wf w' ∧ w'.cell? ⟨V, 1, none⟩ = some (.int .i64 (s1 + 1)) ∧ w'.cell? ⟨V, 7, none⟩ = some (.int .i64 sets))) := fun w' hB => ⟨hB, keepc hB kf, keepc hB jf⟩
    go_wp2_with fail
    refine region_class (fun w' => Below wf.heap.size wf w' ∧ w'.cell? ⟨V, 1, none⟩ = some (.int .i64 (s1 + 1)) ∧ w'.cell? ⟨V, 7, none⟩ = some (.int .i64 sets)) (by kernel_rfl) (by kernel_rfl) (MF.out _ ((Below.refl _ _).drew)) ?_
    iterate 13 (first | go_big_quiet_skip | (go_big_quiet_want; unfold Oper.quiet; apply Exists.intro; refine ⟨fun W hW => ?_, ?_⟩; (go_split_ands; unfold Oper.quietAt; go_simp; first | rfl | exact ⟨rfl, rfl⟩ | fail); go_big_quiet_on; (try simp only [Act.put, List.setIfInBounds_toArray, List.set_cons_zero, List.set_cons_succ])))
    refine wpQuiet_nil ?_
    intro wg hwg
    have bg : Below wf.heap.size wf wg := hwg.1
    clear hwg MF kf jf
    have vg := (bg.block V zf).trans VF.out
    have og : Aside (Only V w wg) := of.out.trans (Only.of_below bg)
    clear bg VF of zf
    by_cases hs : s1 + 1 = sets
    · have hq : (s1 + 1 == sets) = true := by simpa using hs
      have HR2 : Aside (res = ⟨s0, s1 + 1, l0, l1 + 1, 1⟩) := by
        show _ = _
        rw [HR.out, if_pos hs]
      have k5 : wg.cell? ⟨V, 5, none⟩ = some (.int .i64 win) := blk_cell vg rfl
      have f5 := blk_free vg 5
      have VG : Aside (wg.heap[V]? = some (.cells #[.int .i64 s0, .int .i64 (s1 + 1), .int .i64 l0, .int .i64 (l1 + 1), .int .i64 f, .int .i64 win, .int .i64 legs, .int .i64 sets, .int .i64 clear, .int .i64 extra, .int .i64 first] 125 (0, 0))) := vg
      clear hs HR vg
      go_wp2
      refine bodyPost_ret (results_none rfl _ _ _) rfl ?_
      exact ⟨⟨_, rfl⟩, by rw [HR2.out]; exact Go.Joins.block_setCell VG.out _, og.out.trans (Only.set _ _ _ _)⟩
    · have hq : (s1 + 1 == sets) = false := by simpa using hs
      have HR2 : Aside (res = ⟨s0, s1 + 1, 0, 0, win⟩) := by
        show _ = _
        rw [HR.out, if_neg hs]
      have k2 : wg.cell? ⟨V, 2, none⟩ = some (.int .i64 l0) := blk_cell vg rfl
      have k3 : wg.cell? ⟨V, 3, none⟩ = some (.int .i64 (l1 + 1)) := blk_cell vg rfl
      have f2 := blk_free vg
      have VG : Aside (wg.heap[V]? = some (.cells #[.int .i64 s0, .int .i64 (s1 + 1), .int .i64 l0, .int .i64 (l1 + 1), .int .i64 f, .int .i64 win, .int .i64 legs, .int .i64 sets, .int .i64 clear, .int .i64 extra, .int .i64 first] 125 (0, 0))) := vg
      clear hs HR vg
      go_wp2
      go_end0
      exact ⟨⟨_, rfl⟩, by rw [HR2.out]; exact Go.Joins.block_setCell (Go.Joins.block_setCell VG.out _) _, (og.out.trans (Only.set _ _ _ _)).trans (Only.set _ _ _ _)⟩

set_option maxRecDepth 100000 in
set_option maxHeartbeats 4000000 in
theorem mnext (V : Nat) (s0 s1 l0 l1 f win : Int) (legs sets clear extra first : Int) (w : World) (hV : w.heap[V]? = some (.cells #[.int .i64 s0, .int .i64 s1, .int .i64 l0, .int .i64 l1, .int .i64 f, .int .i64 win, .int .i64 legs, .int .i64 sets, .int .i64 clear, .int .i64 extra, .int .i64 first] 125 (0, 0)))
    (a0 : 0 ≤ l0) (a1 : l0 ≤ 1000000000000000000) (b0 : 0 ≤ l1) (b1 : l1 ≤ 1000000000000000000) (g0 : 0 ≤ s0) (g1 : s0 ≤ 1000000000000000000) (h0 : 0 ≤ s1) (h1 : s1 ≤ 1000000000000000000) (c0 : 0 ≤ first) (c1 : first ≤ 1) :
    Calls Try.prog 61 #[.pointer (some ⟨V, 0, none⟩)] w (Ret (.int .i64 (Mt.next ⟨legs, sets, clear, extra, first⟩ ⟨s0, s1, l0, l1, win⟩)) w) := by
  have k0 : w.cell? ⟨V, 0, none⟩ = some (.int .i64 s0) := blk_cell hV rfl
  have k1 : w.cell? ⟨V, 1, none⟩ = some (.int .i64 s1) := blk_cell hV rfl
  have k2 : w.cell? ⟨V, 2, none⟩ = some (.int .i64 l0) := blk_cell hV rfl
  have k3 : w.cell? ⟨V, 3, none⟩ = some (.int .i64 l1) := blk_cell hV rfl
  have k5 : w.cell? ⟨V, 5, none⟩ = some (.int .i64 win) := blk_cell hV rfl
  have k10 : w.cell? ⟨V, 10, none⟩ = some (.int .i64 first) := blk_cell hV rfl
  clear hV
  unfold Mt.next
  simp only []
  by_cases hw : win = -1
  · subst hw
    rw [if_pos rfl]
    have e1 : IntKind.i64.wrap (s0 + s1) = s0 + s1 := IntWalk.i64_in _ (by omega)
    have e2 : IntKind.i64.wrap (s0 + s1 + l0) = s0 + s1 + l0 := IntWalk.i64_in _ (by omega)
    have e3 : IntKind.i64.wrap (s0 + s1 + l0 + l1) = s0 + s1 + l0 + l1 := IntWalk.i64_in _ (by omega)
    have MK : Aside (∀ w', Below w.heap.size w w' → (Below w.heap.size w w' ∧ w'.cell? ⟨V, 0, none⟩ = some (.int .i64 s0) ∧ w'.cell? ⟨V, 1, none⟩ = some (.int .i64 s1) ∧ w'.cell? ⟨V, 2, none⟩ = some (.int .i64 l0) ∧ w'.cell? ⟨V, 3, none⟩ = some (.int .i64 l1))) := fun w' hB => ⟨hB, keepc hB k0, keepc hB k1, keepc hB k2, keepc hB k3⟩
    go_enter Try.func61, Try.ntmps61
    go_wp2_with fail
    refine region_class (fun w' => Below w.heap.size w w' ∧ w'.cell? ⟨V, 0, none⟩ = some (.int .i64 s0) ∧ w'.cell? ⟨V, 1, none⟩ = some (.int .i64 s1) ∧ w'.cell? ⟨V, 2, none⟩ = some (.int .i64 l0) ∧ w'.cell? ⟨V, 3, none⟩ = some (.int .i64 l1)) (by kernel_rfl) (by kernel_rfl) (MK.out _ ((Below.refl _ _).drew)) ?_
    iterate 28 (first | go_big_quiet_skip | (go_big_quiet_want; unfold Oper.quiet; apply Exists.intro; refine ⟨fun W hW => ?_, ?_⟩; (go_split_ands; unfold Oper.quietAt; go_simp; first | rfl | exact ⟨rfl, rfl⟩ | fail); go_big_quiet_on; (try simp only [Act.put, List.setIfInBounds_toArray, List.set_cons_zero, List.set_cons_succ])))
    refine wpQuiet_nil ?_
    intro wa hwa
    have ba : Below w.heap.size w wa := hwa.1
    have j10 := keepc ba k10
    have BA : Aside (Below w.heap.size w wa) := ba
    clear hwa MK k0 k1 k2 k3 k5 k10 ba e1 e2 e3
    obtain ⟨T, hT⟩ : ∃ T, s0 + s1 + l0 + l1 = T := ⟨_, rfl⟩
    have t0 : 0 ≤ T := by omega
    have t1 : T ≤ 4000000000000000000 := by omega
    have HT : Aside (s0 + s1 + l0 + l1 = T) := hT
    rw [hT]
    clear hT
    go_wp2
    go_ret
    refine ⟨?_, BA.out⟩
    rw [HT.out]
    rfl
  · rw [if_neg hw]
    have hq : (win != -1) = true := by simpa using hw
    go_enter Try.func61, Try.ntmps61
    go_wp2
    go_ret
    exact ⟨rfl, Below.refl _ _⟩
end Go.Proofs.Ythcgbceapabikaa
