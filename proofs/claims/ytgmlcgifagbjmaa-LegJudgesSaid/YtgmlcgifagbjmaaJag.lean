/- Leg: parts Be. -/
import Derived.Test.YtgmlcgifagbjmaaJaf
set_option linter.unusedVariables false
set_option linter.unusedSimpArgs false
namespace Go.Proofs.Ytgmlcgifagbjmaa
section
open Go.RowKit Go.Shelf
set_option maxRecDepth 100000 in
set_option maxHeartbeats 8000000 in
theorem rvisit_dart (c : Cnt) (in0 : Bool) (left : Int) (v : Value) (bs : List Int) (w : World) (hs : Sl w 1 eI v bs) (hc : vcnt c = true) (hst : vstand c in0 left = true) (hbs : ∀ x ∈ bs, -9223372036854775808 ≤ x ∧ x ≤ 9223372036854775807) :
  Calls Try.prog 17 #[cntV c, .bool in0, .int .i64 left, v] w (fun e w' => (∃ x : Int, e = .returned (.tuple #[thrV (thr c in0 left bs).1, .int .i64 x, .int .i64 (thr c in0 left bs).2.2]) ∧ ((thr c in0 left bs).2.2 ≠ 0 → x = (thr c in0 left bs).2.1) ∧ ((thr c in0 left bs).2.2 = 0 → x = 0)) ∧ Below w.heap.size w w') := by
 obtain ⟨c1, c2, c3⟩ := c
 have hbd := vcnt_bd hc
 have hlb : lo (c1, c2, c3) ≤ left ∧ left ≤ 1001 := by
  unfold vstand inb at hst
  simp only [Bool.and_eq_true, decide_eq_true_eq] at hst
  unfold lo
  simp only [] at hbd ⊢
  omega
 have hg : inb 0 2 c2 = true ∧ inb 0 2 c3 = true := by
  unfold vcnt at hc
  simp only [Bool.and_eq_true] at hc
  exact hc.2
 obtain ⟨a, cp, rfl, hl, hs⟩ := hs
 obtain ⟨n, hn⟩ : ∃ n, bs.length = n := ⟨_, rfl⟩
 have HN : Aside (bs.length = n) := hn
 have HS : Aside (bs ≠ [] → ∃ b off, a = some ⟨b, off, none⟩ ∧ b < w.heap.size ∧ ∀ j x, bs[j]? = some x → ∀ i y, (eI x)[i]? = some y → w.cell? ⟨b, off + j * 1 + i, none⟩ = some y) := hs
 have HB : Aside (∀ x ∈ bs, -9223372036854775808 ≤ x ∧ x ≤ 9223372036854775807) := hbs
 have HG : Aside (inb 0 2 c2 = true ∧ inb 0 2 c3 = true) := hg
 have HLB : Aside (lo (c1, c2, c3) ≤ left ∧ 0 ≤ left ∧ left ≤ 1001) := ⟨hlb.1, by have := hlb.1; unfold lo at this; split at this <;> omega, hlb.2⟩
 rw [hn] at hl ⊢
 clear hn hs hbs hc hst hbd hlb hg
 obtain ⟨res, hres⟩ : ∃ res, thr (c1, c2, c3) in0 left bs = res := ⟨_, rfl⟩
 have HRES : Aside (thr (c1, c2, c3) in0 left bs = res) := hres
 rw [hres]
 clear hres
 unfold cntV
 simp only []
 go_enter Try.func17, Try.ntmps17
 go_wp2_with fail
 obtain ⟨wa, hwa⟩ : ∃ u, u = ((w.alloc (.cells #[.int .i64 c1, .int .i64 c2, .int .i64 c3] 24)).alloc (.cells #[.int .i64 0, .int .i64 0, .int .i64 0, .bool false, .bool false, .bool false] 30)).alloc (.cells #[.int .i64 left, .int .i64 0, .int .i64 0, .bool in0, .bool false, .bool false] 30) := ⟨_, rfl⟩
 have HI : Aside (RvInv (c1, c2, c3) in0 left bs res w 0 ⟨left, 0, 0, in0, false, false⟩ in0 wa) := by
  refine ⟨?_, fun _ => rfl, ⟨HLB.out.2.1, HLB.out.2.2, rfl, by omega⟩, fun _ => HLB.out.1, HRES.out, by rw [hwa]; (repeat' (first | exact Below.refl _ _ | assumption | (with_reducible refine Below.drew ?_) | (with_reducible refine Below.setCell ?_ (by (first | (simp; done) | (simp; omega))) _) | (with_reducible refine below_drewN' ?_ _) | (refine Below.alloc ?_ (by (try simp only [World.size_alloc, World.size_drew, World.size_setCell]); omega) _) | (refine Below.trans ?_ (Below.mono (by assumption) (by (try simp only [World.size_alloc, World.size_drew, World.size_setCell]); omega))))), ?_, ?_⟩
  ·rw [hwa]; exact World.alloc_heap_new' _ _ _ (by simp)
  ·rw [hwa]; exact (Below.heap_alloc _ _ _ (by simp)).trans (World.alloc_heap_new' _ _ _ (by simp))
  ·rw [hwa]; exact (Below.heap_alloc _ _ _ (by simp; try omega)).trans ((Below.heap_alloc _ _ _ (by simp)).trans (World.alloc_heap_new' _ _ _ (by simp)))
 rw [← hwa]
 clear hwa
 go_loopg [12] n (fun gg i wr => ∃ (k : Nat) (t : Thr) (ui : Bool), k ≤ n ∧ n - k ≤ gg ∧ i = .int .i64 k ∧ Aside (RvInv (c1, c2, c3) in0 left bs res w k t ui wr))
 case atStart => exact ⟨0, _, _, Nat.zero_le _, by omega, rfl, HI.out⟩
 case round =>
  clear HI HRES
  obtain ⟨k, t, ui, hk, hg, rfl, HI⟩ := hrel
  obtain ⟨tl, ts, td, ti, tb, tw⟩ := t
  have hh := HI.out
  have BK : Aside (wr.heap[(w.heap.size + 1 + 1)]? = some (.cells #[.int .i64 tl, .int .i64 0, .int .i64 td, .bool ui, .bool tb, .bool tw] 30 (0, 0))) := hh.blk
  have BZ : Aside (ZeroAt wr (w.heap.size + 1)) := hh.zero
  have BX : Aside (wr.heap[w.heap.size]? = some (.cells #[.int .i64 c1, .int .i64 c2, .int .i64 c3] 24 (0, 0))) := hh.box
  have BB : Aside (Below w.heap.size w wr) := hh.bel
  have HOK : Aside (Thr.Ok ⟨tl, ts, td, ti, tb, tw⟩ k) := hh.ok
  have HIN : Aside (tb = false → ui = ti) := hh.inn
  have HLO : Aside (tw = false → lo (c1, c2, c3) ≤ tl) := hh.low
  have HR0 : Aside (thrL (c1, c2, c3) in0 left ⟨tl, ts, td, ti, tb, tw⟩ k (bs.drop k) = res) := hh.res
  clear hh HI
  have htd : 0 ≤ td ∧ td ≤ 3 := by
   have h1 : td = (k : Int) := HOK.out.d
   have h2 := HOK.out.n3
   omega
  have hk3 : k ≤ 3 := HOK.out.n3
  have htl : 0 ≤ tl ∧ tl ≤ 1001 := ⟨HOK.out.l0, HOK.out.l1⟩
  by_cases hlt : k < n
  ·have hltz : (k : Int) < (n : Int) := by omega
   obtain ⟨b, hb⟩ : ∃ b, bs[k]? = some b := ⟨_, List.getElem?_eq_getElem (by rw [HN.out]; exact hlt)⟩
   obtain ⟨B, off, rfl, hBlt, hcl⟩ := HS.out (by intro e; rw [e] at hb; simp at hb)
   have kb : wr.cell? ⟨B, off + k, none⟩ = some (.int .i64 b) := keepc BB.out (by have := hcl k b hb 0 (.int .i64 b) rfl; simpa using this)
   have HBB : Aside (-9223372036854775808 ≤ b ∧ b ≤ 9223372036854775807) := HB.out b (List.mem_of_getElem? hb)
   have HR2 : Aside (thrL (c1, c2, c3) in0 left ⟨tl, ts, td, ti, tb, tw⟩ k (b :: bs.drop (k + 1)) = res) := by
    show _ = _
    obtain ⟨h1, h2⟩ := List.getElem?_eq_some_iff.1 hb
    rw [← HR0.out, List.drop_eq_getElem_cons h1, h2]
   clear hcl hb HR0
   have HEND : Aside ((td == 3 || (tw || tb)) = true → res = (Thr.zero, (k : Int), 32)) := by
    intro h
    rw [← HR2.out, thrL, if_pos]
    unfold Thr.ended
    clear HR2 HN HS HB HG HLB BK BZ BX BB HOK HIN HLO HBB kb
    simp only []
    revert h
    cases tw <;> cases tb <;> simp
   cases hd : (td == 3) with
   | true =>
    have HR3 : Aside (res = (Thr.zero, (k : Int), 32)) := HEND.out (by rw [hd]; rfl)
    clear HR2 HEND
    have x2 := blk_cell BK.out (i := 2) rfl
    have x4 := blk_cell BK.out (i := 4) rfl
    have x5 := blk_cell BK.out (i := 5) rfl
    have xf := blk_free BK.out
    have o1 := blk_cell BX.out (i := 1) rfl
    have o2 := blk_cell BX.out (i := 2) rfl
    have r0 := blk_cell BZ.out (i := 0) rfl
    have r1 := blk_cell BZ.out (i := 1) rfl
    have r2 := blk_cell BZ.out (i := 2) rfl
    have r3 := blk_cell BZ.out (i := 3) rfl
    have r4 := blk_cell BZ.out (i := 4) rfl
    have r5 := blk_cell BZ.out (i := 5) rfl
    have rf := blk_free BZ.out
    go_wp2
    refine bodyPost_ret (v := .tuple #[.agg #[.int .i64 0, .int .i64 0, .int .i64 0, .bool false, .bool false, .bool false], .int .i64 (k : Int), .int .i64 32]) (by simp [results, Try.results17, go_sem, r0, r1, r2, r3, r4, r5]) rfl ⟨⟨_, by rw [HR3.out]; rfl, fun _ => by rw [HR3.out], fun h => absurd h (by rw [HR3.out]; simp)⟩, ?_⟩
    exact below_set6 BB.out (by omega) _ _ _ _ _ _
   | false =>
    cases tw with
    | true =>
     have HR3 : Aside (res = (Thr.zero, (k : Int), 32)) := HEND.out (by rw [hd]; rfl)
     clear HR2 HEND
     have x2 := blk_cell BK.out (i := 2) rfl
     have x4 := blk_cell BK.out (i := 4) rfl
     have x5 := blk_cell BK.out (i := 5) rfl
     have xf := blk_free BK.out
     have o1 := blk_cell BX.out (i := 1) rfl
     have o2 := blk_cell BX.out (i := 2) rfl
     have r0 := blk_cell BZ.out (i := 0) rfl
     have r1 := blk_cell BZ.out (i := 1) rfl
     have r2 := blk_cell BZ.out (i := 2) rfl
     have r3 := blk_cell BZ.out (i := 3) rfl
     have r4 := blk_cell BZ.out (i := 4) rfl
     have r5 := blk_cell BZ.out (i := 5) rfl
     have rf := blk_free BZ.out
     go_wp2
     refine bodyPost_ret (v := .tuple #[.agg #[.int .i64 0, .int .i64 0, .int .i64 0, .bool false, .bool false, .bool false], .int .i64 (k : Int), .int .i64 32]) (by simp [results, Try.results17, go_sem, r0, r1, r2, r3, r4, r5]) rfl ⟨⟨_, by rw [HR3.out]; rfl, fun _ => by rw [HR3.out], fun h => absurd h (by rw [HR3.out]; simp)⟩, ?_⟩
     exact below_set6 BB.out (by omega) _ _ _ _ _ _
    | false =>
     cases tb with
     | true =>
      have HR3 : Aside (res = (Thr.zero, (k : Int), 32)) := HEND.out (by rw [hd]; rfl)
      clear HR2 HEND
      have x2 := blk_cell BK.out (i := 2) rfl
      have x4 := blk_cell BK.out (i := 4) rfl
      have x5 := blk_cell BK.out (i := 5) rfl
      have xf := blk_free BK.out
      have o1 := blk_cell BX.out (i := 1) rfl
      have o2 := blk_cell BX.out (i := 2) rfl
      have r0 := blk_cell BZ.out (i := 0) rfl
      have r1 := blk_cell BZ.out (i := 1) rfl
      have r2 := blk_cell BZ.out (i := 2) rfl
      have r3 := blk_cell BZ.out (i := 3) rfl
      have r4 := blk_cell BZ.out (i := 4) rfl
      have r5 := blk_cell BZ.out (i := 5) rfl
      have rf := blk_free BZ.out
      go_wp2
      refine bodyPost_ret (v := .tuple #[.agg #[.int .i64 0, .int .i64 0, .int .i64 0, .bool false, .bool false, .bool false], .int .i64 (k : Int), .int .i64 32]) (by simp [results, Try.results17, go_sem, r0, r1, r2, r3, r4, r5]) rfl ⟨⟨_, by rw [HR3.out]; rfl, fun _ => by rw [HR3.out], fun h => absurd h (by rw [HR3.out]; simp)⟩, ?_⟩
      exact below_set6 BB.out (by omega) _ _ _ _ _ _
     | false =>
      replace HLO : Aside (lo (c1, c2, c3) ≤ tl) := HLO.out rfl
      have hui : ui = ti := HIN.out rfl
      subst hui
      have hd3 : Aside (¬ td = 3) := by intro h; rw [h] at hd; simp at hd
      have y1 := fun W => rbed_any b W HBB.out.1 HBB.out.2
      have x2 := blk_cell BK.out (i := 2) rfl
      have x4 := blk_cell BK.out (i := 4) rfl
      have x5 := blk_cell BK.out (i := 5) rfl
      have xf := blk_free BK.out
      have o1 := blk_cell BX.out (i := 1) rfl
      have o2 := blk_cell BX.out (i := 2) rfl
      go_wp2_with fail
      refine (y1 _).mono ?_
      rintro e w1 ⟨rfl, hb1⟩
      replace BK : Aside (w1.heap[(w.heap.size + 1 + 1)]? = some (.cells #[.int .i64 tl, .int .i64 0, .int .i64 td, .bool ui, .bool false, .bool false] 30 (0, 0))) := (hb1.block _ (Array.getElem?_eq_some_iff.1 BK.out).1).trans BK.out
      replace BZ : Aside (ZeroAt w1 (w.heap.size + 1)) := (hb1.block _ (Array.getElem?_eq_some_iff.1 BZ.out).1).trans BZ.out
      replace BX : Aside (w1.heap[w.heap.size]? = some (.cells #[.int .i64 c1, .int .i64 c2, .int .i64 c3] 24 (0, 0))) := (hb1.block _ (Array.getElem?_eq_some_iff.1 BX.out).1).trans BX.out
      replace BB : Aside (Below w.heap.size w w1) := BB.out.trans (hb1.mono BB.out.size)
      clear hb1 x2 x4 x5 xf o1 o2 kb y1 HEND HIN
      cases hvb : vbed b with
      | false =>
       have HR3 : Aside (res = (Thr.zero, (k : Int), 2)) := by
        show _ = _
        rw [← HR2.out, thrL, if_neg (by simp [Thr.ended, hd3.out]), if_neg (by rw [hvb]; simp)]
       clear HR2
       have x2 := blk_cell BK.out (i := 2) rfl
       have xf := blk_free BK.out
       have o1 := blk_cell BX.out (i := 1) rfl
       have o2 := blk_cell BX.out (i := 2) rfl
       have r0 := blk_cell BZ.out (i := 0) rfl
       have r1 := blk_cell BZ.out (i := 1) rfl
       have r2 := blk_cell BZ.out (i := 2) rfl
       have r3 := blk_cell BZ.out (i := 3) rfl
       have r4 := blk_cell BZ.out (i := 4) rfl
       have r5 := blk_cell BZ.out (i := 5) rfl
       have rf := blk_free BZ.out
       go_wp2
       refine bodyPost_ret (v := .tuple #[.agg #[.int .i64 0, .int .i64 0, .int .i64 0, .bool false, .bool false, .bool false], .int .i64 (k : Int), .int .i64 2]) (by simp [results, Try.results17, go_sem, r0, r1, r2, r3, r4, r5]) rfl ⟨⟨_, by rw [HR3.out]; rfl, fun _ => by rw [HR3.out], fun h => absurd h (by rw [HR3.out]; simp)⟩, ?_⟩
       exact below_set6 BB.out (by omega) _ _ _ _ _ _
      | true =>
       have HVB : Aside (vbed b = true) := hvb
       have hb0 := (vbed_bd hvb).1
       have hb4 := (vbed_bd hvb).2
       have hsb := sc_bd hb0 hb4
       have HR : Aside (thrL (c1, c2, c3) in0 left (Thr.step (c1, c2, c3) ⟨tl, ts, td, ui, false, false⟩ b) (k + 1) (bs.drop (k + 1)) = res) := by
        show _ = _
        rw [← HR2.out, thrL, if_neg (by simp [Thr.ended, hd3.out]), if_pos hvb]
       have y2 := fun W => ropens_any c2 b W hvb HG.out.1
       have y3 := fun W => ropens_any c3 b W hvb HG.out.2
       have y4 := fun W => rscore_any b W hb0 hb4
       have e1 : IntKind.i64.wrap (td + 1) = td + 1 := IntWalk.i64_in _ (by omega)
       clear HR2 hvb
       have x0 := blk_cell BK.out (i := 0) rfl
       have x2 := blk_cell BK.out (i := 2) rfl
       have x3 := blk_cell BK.out (i := 3) rfl
       have xf := blk_free BK.out
       have o1 := blk_cell BX.out (i := 1) rfl
       have o2 := blk_cell BX.out (i := 2) rfl
       have e2 : IntKind.i64.wrap (tl - sc b) = tl - sc b := IntWalk.i64_in _ (by omega)
       cases ui with
       | true =>
        have HOP : Aside ((true || opn c2 b) = true) := rfl
        go_wp2_with fail
        obtain ⟨wq, hwq⟩ : ∃ u, u = w1.setCell ⟨w.heap.size + 1 + 1, 2, none⟩ (.int .i64 (td + 1)) := ⟨_, rfl⟩
        replace BZ : Aside (ZeroAt wq (w.heap.size + 1)) := by rw [hwq]; exact ((Below.heap_setCell _ _ _ _ (by first | omega | (simp only []; omega))).trans BZ.out)
        replace BX : Aside (wq.heap[w.heap.size]? = some (.cells #[.int .i64 c1, .int .i64 c2, .int .i64 c3] 24 (0, 0))) := by rw [hwq]; exact ((Below.heap_setCell _ _ _ _ (by first | omega | (simp only []; omega))).trans BX.out)
        replace BB : Aside (Below w.heap.size w wq) := by rw [hwq]; exact (BB.out.setCell (p := ⟨w.heap.size + 1 + 1, 2, none⟩) (by show w.heap.size ≤ w.heap.size + 1 + 1; omega) _)
        replace BK : Aside (wq.heap[(w.heap.size + 1 + 1)]? = some (.cells #[.int .i64 tl, .int .i64 0, .int .i64 (td + 1), .bool true, .bool false, .bool false] 30 (0, 0))) := by rw [hwq]; exact (Go.Joins.block_setCell (i := 2) BK.out (.int .i64 (td + 1)))
        rw [← hwq]
        clear hwq
        clear x0 x2 x3 xf o1 o2 y2 e1
        have MC : Aside (∀ w', Below wq.heap.size wq w' → (Below wq.heap.size wq w' ∧ w'.cell? ⟨w.heap.size + 1 + 1, 0, none⟩ = some (.int .i64 tl))) := fun w' hB => ⟨hB, keepc hB (blk_cell BK.out rfl)⟩
        refine region_class (fun w' => Below wq.heap.size wq w' ∧ w'.cell? ⟨w.heap.size + 1 + 1, 0, none⟩ = some (.int .i64 tl)) (by kernel_rfl) (by kernel_rfl) (MC.out _ ((Below.refl _ _).drew)) ?_
        iterate 6 (first | go_big_quiet_skip | (go_big_quiet_want; unfold Oper.quiet; apply Exists.intro; refine ⟨fun W hW => ?_, ?_⟩; (go_split_ands; unfold Oper.quietAt; go_simp; first | rfl | exact ⟨rfl, rfl⟩ | ((with_reducible refine (y4 _).mono ?_); rintro e w2 ⟨rfl, hb2⟩; exact ⟨rfl, MC.out _ (Below.trans (by assumption) (Below.mono (by assumption) (Below.size (by assumption))))⟩)); go_big_quiet_on; (try simp only [Act.put, List.setIfInBounds_toArray, List.set_cons_zero, List.set_cons_succ])))
        refine wpQuiet_nil ?_
        intro wb hwb
        have hbb : Below wq.heap.size wq wb := hwb.1
        clear hwb MC
        replace BK : Aside (wb.heap[(w.heap.size + 1 + 1)]? = some (.cells #[.int .i64 tl, .int .i64 0, .int .i64 (td + 1), .bool true, .bool false, .bool false] 30 (0, 0))) := (hbb.block _ (Array.getElem?_eq_some_iff.1 BK.out).1).trans BK.out
        replace BZ : Aside (ZeroAt wb (w.heap.size + 1)) := (hbb.block _ (Array.getElem?_eq_some_iff.1 BZ.out).1).trans BZ.out
        replace BX : Aside (wb.heap[w.heap.size]? = some (.cells #[.int .i64 c1, .int .i64 c2, .int .i64 c3] 24 (0, 0))) := (hbb.block _ (Array.getElem?_eq_some_iff.1 BX.out).1).trans BX.out
        replace BB : Aside (Below w.heap.size w wb) := BB.out.trans (hbb.mono BB.out.size)
        clear hbb y4 e2
        obtain ⟨nv, hnv⟩ : ∃ x, tl - sc b = x := ⟨_, rfl⟩
        have HNV : Aside (tl - sc b = nv) := hnv
        rw [hnv]
        clear hnv hsb
        have x0 := blk_cell BK.out (i := 0) rfl
        have x2 := blk_cell BK.out (i := 2) rfl
        have x3 := blk_cell BK.out (i := 3) rfl
        have x4 := blk_cell BK.out (i := 4) rfl
        have x5 := blk_cell BK.out (i := 5) rfl
        have xf := blk_free BK.out
        have o1 := blk_cell BX.out (i := 1) rfl
        have o2 := blk_cell BX.out (i := 2) rfl
        by_cases hz : b = 0
        ·have hz1 : (b == 0) = true := by simpa using hz
         have HZ : Aside (b = 0) := hz
         clear hz y3
         have HI3 : Aside (RvInv (c1, c2, c3) in0 left bs res w (k + 1) ⟨tl, ts, td + 1, true, false, false⟩ true wb) := by
          have hst := (by have h0 := HZ.out; rw [h0]; exact step_miss (c := (c1, c2, c3)) (t := ⟨tl, ts, td, true, false, false⟩) rfl HLO.out : Thr.step (c1, c2, c3) ⟨tl, ts, td, true, false, false⟩ b = ⟨tl, ts, td + 1, true, false, false⟩)
          have hok := HOK.out.step (by simp [Thr.ended, hd3.out]) (c1, c2, c3) HVB.out
          have hrs := HR.out
          rw [hst] at hok hrs
          exact ⟨BK.out, fun _ => rfl, hok, fun _ => HLO.out, hrs, BB.out, BZ.out, BX.out⟩
         go_wp2_with fail
         go_roundg (n - (k + 1))
         case measure => omega
         case rel => exact ⟨k + 1, _, _, by omega, by omega, by go_num, HI3.out⟩
        ·have hz1 : (b == 0) = false := by simpa using hz
         clear hz
         by_cases h0 : nv = 0
         ·have h0b : (nv == 0) = true := by simpa using h0
          cases hoo : opn c3 b with
          | true =>
           rw [hoo] at y3
           have HOO : Aside (opn c3 b = true) := hoo
           have H0 : Aside (nv = 0) := h0
           clear h0 hoo
           go_wp2_with fail
           refine (y3 _).mono ?_
           rintro e w5 ⟨rfl, hb5⟩
           replace BK : Aside (w5.heap[(w.heap.size + 1 + 1)]? = some (.cells #[.int .i64 tl, .int .i64 0, .int .i64 (td + 1), .bool true, .bool false, .bool false] 30 (0, 0))) := (hb5.block _ (Array.getElem?_eq_some_iff.1 BK.out).1).trans BK.out
           replace BZ : Aside (ZeroAt w5 (w.heap.size + 1)) := (hb5.block _ (Array.getElem?_eq_some_iff.1 BZ.out).1).trans BZ.out
           replace BX : Aside (w5.heap[w.heap.size]? = some (.cells #[.int .i64 c1, .int .i64 c2, .int .i64 c3] 24 (0, 0))) := (hb5.block _ (Array.getElem?_eq_some_iff.1 BX.out).1).trans BX.out
           replace BB : Aside (Below w.heap.size w w5) := BB.out.trans (hb5.mono BB.out.size)
           clear hb5 x0 x2 x3 x4 x5 xf o1 o2
           have x0 := blk_cell BK.out (i := 0) rfl
           have x3 := blk_cell BK.out (i := 3) rfl
           have x5 := blk_cell BK.out (i := 5) rfl
           have xf := blk_free BK.out
           have o1 := blk_cell BX.out (i := 1) rfl
           have o2 := blk_cell BX.out (i := 2) rfl
           go_wp2_with fail
           obtain ⟨w6, hw6⟩ : ∃ u, u = ((w5.setCell ⟨w.heap.size + 1 + 1, 3, none⟩ (.bool true)).setCell ⟨w.heap.size + 1 + 1, 0, none⟩ (.int .i64 0)).setCell ⟨w.heap.size + 1 + 1, 5, none⟩ (.bool true) := ⟨_, rfl⟩
           replace BZ : Aside (ZeroAt w6 (w.heap.size + 1)) := by rw [hw6]; exact ((Below.heap_setCell _ _ _ _ (by first | omega | (simp only []; omega))).trans ((Below.heap_setCell _ _ _ _ (by first | omega | (simp only []; omega))).trans ((Below.heap_setCell _ _ _ _ (by first | omega | (simp only []; omega))).trans BZ.out)))
           replace BX : Aside (w6.heap[w.heap.size]? = some (.cells #[.int .i64 c1, .int .i64 c2, .int .i64 c3] 24 (0, 0))) := by rw [hw6]; exact ((Below.heap_setCell _ _ _ _ (by first | omega | (simp only []; omega))).trans ((Below.heap_setCell _ _ _ _ (by first | omega | (simp only []; omega))).trans ((Below.heap_setCell _ _ _ _ (by first | omega | (simp only []; omega))).trans BX.out)))
           replace BB : Aside (Below w.heap.size w w6) := by rw [hw6]; exact (((BB.out.setCell (p := ⟨w.heap.size + 1 + 1, 3, none⟩) (by show w.heap.size ≤ w.heap.size + 1 + 1; omega) _).setCell (p := ⟨w.heap.size + 1 + 1, 0, none⟩) (by show w.heap.size ≤ w.heap.size + 1 + 1; omega) _).setCell (p := ⟨w.heap.size + 1 + 1, 5, none⟩) (by show w.heap.size ≤ w.heap.size + 1 + 1; omega) _)
           replace BK : Aside (w6.heap[(w.heap.size + 1 + 1)]? = some (.cells #[.int .i64 0, .int .i64 0, .int .i64 (td + 1), .bool true, .bool false, .bool true] 30 (0, 0))) := by rw [hw6]; exact (Go.Joins.block_setCell (i := 5) (Go.Joins.block_setCell (i := 0) (Go.Joins.block_setCell (i := 3) BK.out (.bool true)) (.int .i64 0)) (.bool true))
           rw [← hw6]
           clear hw6
           have HI3 : Aside (RvInv (c1, c2, c3) in0 left bs res w (k + 1) ⟨0, ts, td + 1, true, false, true⟩ true w6) := by
            have hst := (step_out (c := (c1, c2, c3)) (t := ⟨tl, ts, td, true, false, false⟩) rfl (by show tl - sc b = 0; rw [HNV.out]; exact H0.out) HOO.out : Thr.step (c1, c2, c3) ⟨tl, ts, td, true, false, false⟩ b = ⟨0, ts, td + 1, true, false, true⟩)
            have hok := HOK.out.step (by simp [Thr.ended, hd3.out]) (c1, c2, c3) HVB.out
            have hrs := HR.out
            rw [hst] at hok hrs
            exact ⟨BK.out, fun _ => rfl, hok, (fun h => by cases h), hrs, BB.out, BZ.out, BX.out⟩
           go_wp2_with fail
           go_roundg (n - (k + 1))
           case measure => omega
           case rel => exact ⟨k + 1, _, _, by omega, by omega, by go_num, HI3.out⟩
          | false =>
           rw [hoo] at y3
           have HOO : Aside (opn c3 b = false) := hoo
           have H0 : Aside (nv = 0) := h0
           subst h0
           clear hoo
           go_wp2_with fail
           refine (y3 _).mono ?_
           rintro e w5 ⟨rfl, hb5⟩
           replace BK : Aside (w5.heap[(w.heap.size + 1 + 1)]? = some (.cells #[.int .i64 tl, .int .i64 0, .int .i64 (td + 1), .bool true, .bool false, .bool false] 30 (0, 0))) := (hb5.block _ (Array.getElem?_eq_some_iff.1 BK.out).1).trans BK.out
           replace BZ : Aside (ZeroAt w5 (w.heap.size + 1)) := (hb5.block _ (Array.getElem?_eq_some_iff.1 BZ.out).1).trans BZ.out
           replace BX : Aside (w5.heap[w.heap.size]? = some (.cells #[.int .i64 c1, .int .i64 c2, .int .i64 c3] 24 (0, 0))) := (hb5.block _ (Array.getElem?_eq_some_iff.1 BX.out).1).trans BX.out
           replace BB : Aside (Below w.heap.size w w5) := BB.out.trans (hb5.mono BB.out.size)
           clear hb5 x0 x2 x3 x4 x5 xf o1 o2
           have x4 := blk_cell BK.out (i := 4) rfl
           have xf := blk_free BK.out
           have o1 := blk_cell BX.out (i := 1) rfl
           have o2 := blk_cell BX.out (i := 2) rfl
           go_wp2_with fail
           obtain ⟨w6, hw6⟩ : ∃ u, u = w5.setCell ⟨w.heap.size + 1 + 1, 4, none⟩ (.bool true) := ⟨_, rfl⟩
           replace BZ : Aside (ZeroAt w6 (w.heap.size + 1)) := by rw [hw6]; exact ((Below.heap_setCell _ _ _ _ (by first | omega | (simp only []; omega))).trans BZ.out)
           replace BX : Aside (w6.heap[w.heap.size]? = some (.cells #[.int .i64 c1, .int .i64 c2, .int .i64 c3] 24 (0, 0))) := by rw [hw6]; exact ((Below.heap_setCell _ _ _ _ (by first | omega | (simp only []; omega))).trans BX.out)
           replace BB : Aside (Below w.heap.size w w6) := by rw [hw6]; exact (BB.out.setCell (p := ⟨w.heap.size + 1 + 1, 4, none⟩) (by show w.heap.size ≤ w.heap.size + 1 + 1; omega) _)
           replace BK : Aside (w6.heap[(w.heap.size + 1 + 1)]? = some (.cells #[.int .i64 tl, .int .i64 0, .int .i64 (td + 1), .bool true, .bool true, .bool false] 30 (0, 0))) := by rw [hw6]; exact (Go.Joins.block_setCell (i := 4) BK.out (.bool true))
           rw [← hw6]
           clear hw6
           have HI3 : Aside (RvInv (c1, c2, c3) in0 left bs res w (k + 1) ⟨tl, ts, td + 1, true, true, false⟩ true w6) := by
            have hst := (step_bust (c := (c1, c2, c3)) (t := ⟨tl, ts, td, true, false, false⟩) rfl HLO.out (fun hh => by have h9 := hh.2; simp only [] at h9; rw [HOO.out] at h9; cases h9) (fun hh => by have h9 := HNV.out; simp only [] at hh; omega) : Thr.step (c1, c2, c3) ⟨tl, ts, td, true, false, false⟩ b = ⟨tl, ts, td + 1, true, true, false⟩)
            have hok := HOK.out.step (by simp [Thr.ended, hd3.out]) (c1, c2, c3) HVB.out
            have hrs := HR.out
            rw [hst] at hok hrs
            exact ⟨BK.out, (fun h => by cases h), hok, fun _ => HLO.out, hrs, BB.out, BZ.out, BX.out⟩
           go_wp2_with fail
           go_roundg (n - (k + 1))
           case measure => omega
           case rel => exact ⟨k + 1, _, _, by omega, by omega, by go_num, HI3.out⟩
         ·have h0b : (nv == 0) = false := by simpa using h0
          have H0 : Aside (¬ nv = 0) := h0
          clear h0 y3
          by_cases h2 : 2 ≤ nv
          ·have HLN : Aside (lo (c1, c2, c3) ≤ nv) := by show _ ≤ _; unfold lo; split <;> omega
           go_wp2_with fail
           obtain ⟨w6, hw6⟩ : ∃ u, u = (wb.setCell ⟨w.heap.size + 1 + 1, 3, none⟩ (.bool true)).setCell ⟨w.heap.size + 1 + 1, 0, none⟩ (.int .i64 nv) := ⟨_, rfl⟩
           replace BZ : Aside (ZeroAt w6 (w.heap.size + 1)) := by rw [hw6]; exact ((Below.heap_setCell _ _ _ _ (by first | omega | (simp only []; omega))).trans ((Below.heap_setCell _ _ _ _ (by first | omega | (simp only []; omega))).trans BZ.out))
           replace BX : Aside (w6.heap[w.heap.size]? = some (.cells #[.int .i64 c1, .int .i64 c2, .int .i64 c3] 24 (0, 0))) := by rw [hw6]; exact ((Below.heap_setCell _ _ _ _ (by first | omega | (simp only []; omega))).trans ((Below.heap_setCell _ _ _ _ (by first | omega | (simp only []; omega))).trans BX.out))
           replace BB : Aside (Below w.heap.size w w6) := by rw [hw6]; exact ((BB.out.setCell (p := ⟨w.heap.size + 1 + 1, 3, none⟩) (by show w.heap.size ≤ w.heap.size + 1 + 1; omega) _).setCell (p := ⟨w.heap.size + 1 + 1, 0, none⟩) (by show w.heap.size ≤ w.heap.size + 1 + 1; omega) _)
           replace BK : Aside (w6.heap[(w.heap.size + 1 + 1)]? = some (.cells #[.int .i64 nv, .int .i64 0, .int .i64 (td + 1), .bool true, .bool false, .bool false] 30 (0, 0))) := by rw [hw6]; exact (Go.Joins.block_setCell (i := 0) (Go.Joins.block_setCell (i := 3) BK.out (.bool true)) (.int .i64 nv))
           rw [← hw6]
           clear hw6
           have HI3 : Aside (RvInv (c1, c2, c3) in0 left bs res w (k + 1) ⟨nv, ts, td + 1, true, false, false⟩ true w6) := by
            have hst := (by have h9 := step_on (c := (c1, c2, c3)) (t := ⟨tl, ts, td, true, false, false⟩) (b := b) rfl (by show 2 ≤ tl - sc b ∨ (tl - sc b = 1 ∧ c3 = 0); rw [HNV.out]; exact (.inl h2)); simp only [] at h9; rw [HNV.out] at h9; exact h9 : Thr.step (c1, c2, c3) ⟨tl, ts, td, true, false, false⟩ b = ⟨nv, ts, td + 1, true, false, false⟩)
            have hok := HOK.out.step (by simp [Thr.ended, hd3.out]) (c1, c2, c3) HVB.out
            have hrs := HR.out
            rw [hst] at hok hrs
            exact ⟨BK.out, fun _ => rfl, hok, fun _ => HLN.out, hrs, BB.out, BZ.out, BX.out⟩
           go_wp2_with fail
           go_roundg (n - (k + 1))
           case measure => omega
           case rel => exact ⟨k + 1, _, _, by omega, by omega, by go_num, HI3.out⟩
          ·by_cases h1 : nv = 1
           ·subst h1
            by_cases hc3 : c3 = 0
            ·subst hc3
             have HLN : Aside (lo (c1, c2, 0) ≤ 1) := by show _ ≤ _; unfold lo; simp
             go_wp2_with fail
             obtain ⟨w6, hw6⟩ : ∃ u, u = (wb.setCell ⟨w.heap.size + 1 + 1, 3, none⟩ (.bool true)).setCell ⟨w.heap.size + 1 + 1, 0, none⟩ (.int .i64 1) := ⟨_, rfl⟩
             replace BZ : Aside (ZeroAt w6 (w.heap.size + 1)) := by rw [hw6]; exact ((Below.heap_setCell _ _ _ _ (by first | omega | (simp only []; omega))).trans ((Below.heap_setCell _ _ _ _ (by first | omega | (simp only []; omega))).trans BZ.out))
             replace BX : Aside (w6.heap[w.heap.size]? = some (.cells #[.int .i64 c1, .int .i64 c2, .int .i64 0] 24 (0, 0))) := by rw [hw6]; exact ((Below.heap_setCell _ _ _ _ (by first | omega | (simp only []; omega))).trans ((Below.heap_setCell _ _ _ _ (by first | omega | (simp only []; omega))).trans BX.out))
             replace BB : Aside (Below w.heap.size w w6) := by rw [hw6]; exact ((BB.out.setCell (p := ⟨w.heap.size + 1 + 1, 3, none⟩) (by show w.heap.size ≤ w.heap.size + 1 + 1; omega) _).setCell (p := ⟨w.heap.size + 1 + 1, 0, none⟩) (by show w.heap.size ≤ w.heap.size + 1 + 1; omega) _)
             replace BK : Aside (w6.heap[(w.heap.size + 1 + 1)]? = some (.cells #[.int .i64 1, .int .i64 0, .int .i64 (td + 1), .bool true, .bool false, .bool false] 30 (0, 0))) := by rw [hw6]; exact (Go.Joins.block_setCell (i := 0) (Go.Joins.block_setCell (i := 3) BK.out (.bool true)) (.int .i64 1))
             rw [← hw6]
             clear hw6
             have HI3 : Aside (RvInv (c1, c2, 0) in0 left bs res w (k + 1) ⟨1, ts, td + 1, true, false, false⟩ true w6) := by
              have hst := (by have h9 := step_on (c := (c1, c2, 0)) (t := ⟨tl, ts, td, true, false, false⟩) (b := b) rfl (by show 2 ≤ tl - sc b ∨ (tl - sc b = 1 ∧ 0 = 0); rw [HNV.out]; exact .inr ⟨rfl, rfl⟩); simp only [] at h9; rw [HNV.out] at h9; exact h9 : Thr.step (c1, c2, 0) ⟨tl, ts, td, true, false, false⟩ b = ⟨1, ts, td + 1, true, false, false⟩)
              have hok := HOK.out.step (by simp [Thr.ended, hd3.out]) (c1, c2, 0) HVB.out
              have hrs := HR.out
              rw [hst] at hok hrs
              exact ⟨BK.out, fun _ => rfl, hok, fun _ => HLN.out, hrs, BB.out, BZ.out, BX.out⟩
             go_wp2_with fail
             go_roundg (n - (k + 1))
             case measure => omega
             case rel => exact ⟨k + 1, _, _, by omega, by omega, by go_num, HI3.out⟩
            ·have hc3b : (c3 == 0) = false := by simpa using hc3
             have HC3 : Aside (¬ c3 = 0) := hc3
             clear hc3
             go_wp2_with fail
             obtain ⟨w6, hw6⟩ : ∃ u, u = wb.setCell ⟨w.heap.size + 1 + 1, 4, none⟩ (.bool true) := ⟨_, rfl⟩
             replace BZ : Aside (ZeroAt w6 (w.heap.size + 1)) := by rw [hw6]; exact ((Below.heap_setCell _ _ _ _ (by first | omega | (simp only []; omega))).trans BZ.out)
             replace BX : Aside (w6.heap[w.heap.size]? = some (.cells #[.int .i64 c1, .int .i64 c2, .int .i64 c3] 24 (0, 0))) := by rw [hw6]; exact ((Below.heap_setCell _ _ _ _ (by first | omega | (simp only []; omega))).trans BX.out)
             replace BB : Aside (Below w.heap.size w w6) := by rw [hw6]; exact (BB.out.setCell (p := ⟨w.heap.size + 1 + 1, 4, none⟩) (by show w.heap.size ≤ w.heap.size + 1 + 1; omega) _)
             replace BK : Aside (w6.heap[(w.heap.size + 1 + 1)]? = some (.cells #[.int .i64 tl, .int .i64 0, .int .i64 (td + 1), .bool true, .bool true, .bool false] 30 (0, 0))) := by rw [hw6]; exact (Go.Joins.block_setCell (i := 4) BK.out (.bool true))
             rw [← hw6]
             clear hw6
             have HI3 : Aside (RvInv (c1, c2, c3) in0 left bs res w (k + 1) ⟨tl, ts, td + 1, true, true, false⟩ true w6) := by
              have hst := (step_bust (c := (c1, c2, c3)) (t := ⟨tl, ts, td, true, false, false⟩) rfl HLO.out (fun hh => by have h9 := HNV.out; have h8 := hh.1; simp only [] at h8; omega) (fun hh => by have h9 := HNV.out; have h8 := HC3.out; simp only [] at hh; omega) : Thr.step (c1, c2, c3) ⟨tl, ts, td, true, false, false⟩ b = ⟨tl, ts, td + 1, true, true, false⟩)
              have hok := HOK.out.step (by simp [Thr.ended, hd3.out]) (c1, c2, c3) HVB.out
              have hrs := HR.out
              rw [hst] at hok hrs
              exact ⟨BK.out, (fun h => by cases h), hok, fun _ => HLO.out, hrs, BB.out, BZ.out, BX.out⟩
             go_wp2_with fail
             go_roundg (n - (k + 1))
             case measure => omega
             case rel => exact ⟨k + 1, _, _, by omega, by omega, by go_num, HI3.out⟩
           ·have h1b : (nv == 1) = false := by simpa using h1
            have H1 : Aside (¬ nv = 1) := h1
            clear h1
            go_wp2_with fail
            obtain ⟨w6, hw6⟩ : ∃ u, u = wb.setCell ⟨w.heap.size + 1 + 1, 4, none⟩ (.bool true) := ⟨_, rfl⟩
            replace BZ : Aside (ZeroAt w6 (w.heap.size + 1)) := by rw [hw6]; exact ((Below.heap_setCell _ _ _ _ (by first | omega | (simp only []; omega))).trans BZ.out)
            replace BX : Aside (w6.heap[w.heap.size]? = some (.cells #[.int .i64 c1, .int .i64 c2, .int .i64 c3] 24 (0, 0))) := by rw [hw6]; exact ((Below.heap_setCell _ _ _ _ (by first | omega | (simp only []; omega))).trans BX.out)
            replace BB : Aside (Below w.heap.size w w6) := by rw [hw6]; exact (BB.out.setCell (p := ⟨w.heap.size + 1 + 1, 4, none⟩) (by show w.heap.size ≤ w.heap.size + 1 + 1; omega) _)
            replace BK : Aside (w6.heap[(w.heap.size + 1 + 1)]? = some (.cells #[.int .i64 tl, .int .i64 0, .int .i64 (td + 1), .bool true, .bool true, .bool false] 30 (0, 0))) := by rw [hw6]; exact (Go.Joins.block_setCell (i := 4) BK.out (.bool true))
            rw [← hw6]
            clear hw6
            have HI3 : Aside (RvInv (c1, c2, c3) in0 left bs res w (k + 1) ⟨tl, ts, td + 1, true, true, false⟩ true w6) := by
             have hst := (step_bust (c := (c1, c2, c3)) (t := ⟨tl, ts, td, true, false, false⟩) rfl HLO.out (fun hh => by have h9 := HNV.out; have h8 := hh.1; have h7 := H0.out; simp only [] at h8; omega) (fun hh => by have h9 := HNV.out; have h8 := H1.out; simp only [] at hh; omega) : Thr.step (c1, c2, c3) ⟨tl, ts, td, true, false, false⟩ b = ⟨tl, ts, td + 1, true, true, false⟩)
             have hok := HOK.out.step (by simp [Thr.ended, hd3.out]) (c1, c2, c3) HVB.out
             have hrs := HR.out
             rw [hst] at hok hrs
             exact ⟨BK.out, (fun h => by cases h), hok, fun _ => HLO.out, hrs, BB.out, BZ.out, BX.out⟩
            go_wp2_with fail
            go_roundg (n - (k + 1))
            case measure => omega
            case rel => exact ⟨k + 1, _, _, by omega, by omega, by go_num, HI3.out⟩
       | false =>
        go_wp2_with fail
        obtain ⟨wq, hwq⟩ : ∃ u, u = w1.setCell ⟨w.heap.size + 1 + 1, 2, none⟩ (.int .i64 (td + 1)) := ⟨_, rfl⟩
        replace BZ : Aside (ZeroAt wq (w.heap.size + 1)) := by rw [hwq]; exact ((Below.heap_setCell _ _ _ _ (by first | omega | (simp only []; omega))).trans BZ.out)
        replace BX : Aside (wq.heap[w.heap.size]? = some (.cells #[.int .i64 c1, .int .i64 c2, .int .i64 c3] 24 (0, 0))) := by rw [hwq]; exact ((Below.heap_setCell _ _ _ _ (by first | omega | (simp only []; omega))).trans BX.out)
        replace BB : Aside (Below w.heap.size w wq) := by rw [hwq]; exact (BB.out.setCell (p := ⟨w.heap.size + 1 + 1, 2, none⟩) (by show w.heap.size ≤ w.heap.size + 1 + 1; omega) _)
        replace BK : Aside (wq.heap[(w.heap.size + 1 + 1)]? = some (.cells #[.int .i64 tl, .int .i64 0, .int .i64 (td + 1), .bool false, .bool false, .bool false] 30 (0, 0))) := by rw [hwq]; exact (Go.Joins.block_setCell (i := 2) BK.out (.int .i64 (td + 1)))
        rw [← hwq]
        clear hwq
        clear x0 x2 x3 xf o1 o2 e1
        refine (y2 _).mono ?_
        rintro e wp ⟨rfl, hbp⟩
        replace BK : Aside (wp.heap[(w.heap.size + 1 + 1)]? = some (.cells #[.int .i64 tl, .int .i64 0, .int .i64 (td + 1), .bool false, .bool false, .bool false] 30 (0, 0))) := (hbp.block _ (Array.getElem?_eq_some_iff.1 BK.out).1).trans BK.out
        replace BZ : Aside (ZeroAt wp (w.heap.size + 1)) := (hbp.block _ (Array.getElem?_eq_some_iff.1 BZ.out).1).trans BZ.out
        replace BX : Aside (wp.heap[w.heap.size]? = some (.cells #[.int .i64 c1, .int .i64 c2, .int .i64 c3] 24 (0, 0))) := (hbp.block _ (Array.getElem?_eq_some_iff.1 BX.out).1).trans BX.out
        replace BB : Aside (Below w.heap.size w wp) := BB.out.trans (hbp.mono BB.out.size)
        clear hbp y2
        cases hop : opn c2 b with
        | false =>
         have HOP : Aside (opn c2 b = false) := hop
         clear hop y3 y4 e2 hsb
         have HI3 : Aside (RvInv (c1, c2, c3) in0 left bs res w (k + 1) ⟨tl, ts, td + 1, false, false, false⟩ false wp) := by
          have hst := (step_wait (c := (c1, c2, c3)) (t := ⟨tl, ts, td, false, false, false⟩) HOP.out HLO.out : Thr.step (c1, c2, c3) ⟨tl, ts, td, false, false, false⟩ b = ⟨tl, ts, td + 1, false, false, false⟩)
          have hok := HOK.out.step (by simp [Thr.ended, hd3.out]) (c1, c2, c3) HVB.out
          have hrs := HR.out
          rw [hst] at hok hrs
          exact ⟨BK.out, fun _ => rfl, hok, fun _ => HLO.out, hrs, BB.out, BZ.out, BX.out⟩
         go_wp2_with fail
         go_roundg (n - (k + 1))
         case measure => omega
         case rel => exact ⟨k + 1, _, _, by omega, by omega, by go_num, HI3.out⟩
        | true =>
         have HOP : Aside (opn c2 b = true) := hop
         clear hop
         go_wp2_with fail
         have MC : Aside (∀ w', Below wp.heap.size wp w' → (Below wp.heap.size wp w' ∧ w'.cell? ⟨w.heap.size + 1 + 1, 0, none⟩ = some (.int .i64 tl))) := fun w' hB => ⟨hB, keepc hB (blk_cell BK.out rfl)⟩
         refine region_class (fun w' => Below wp.heap.size wp w' ∧ w'.cell? ⟨w.heap.size + 1 + 1, 0, none⟩ = some (.int .i64 tl)) (by kernel_rfl) (by kernel_rfl) (MC.out _ ((Below.refl _ _).drew)) ?_
         iterate 6 (first | go_big_quiet_skip | (go_big_quiet_want; unfold Oper.quiet; apply Exists.intro; refine ⟨fun W hW => ?_, ?_⟩; (go_split_ands; unfold Oper.quietAt; go_simp; first | rfl | exact ⟨rfl, rfl⟩ | ((with_reducible refine (y4 _).mono ?_); rintro e w2 ⟨rfl, hb2⟩; exact ⟨rfl, MC.out _ (Below.trans (by assumption) (Below.mono (by assumption) (Below.size (by assumption))))⟩)); go_big_quiet_on; (try simp only [Act.put, List.setIfInBounds_toArray, List.set_cons_zero, List.set_cons_succ])))
         refine wpQuiet_nil ?_
         intro wb hwb
         have hbb : Below wp.heap.size wp wb := hwb.1
         clear hwb MC
         replace BK : Aside (wb.heap[(w.heap.size + 1 + 1)]? = some (.cells #[.int .i64 tl, .int .i64 0, .int .i64 (td + 1), .bool false, .bool false, .bool false] 30 (0, 0))) := (hbb.block _ (Array.getElem?_eq_some_iff.1 BK.out).1).trans BK.out
         replace BZ : Aside (ZeroAt wb (w.heap.size + 1)) := (hbb.block _ (Array.getElem?_eq_some_iff.1 BZ.out).1).trans BZ.out
         replace BX : Aside (wb.heap[w.heap.size]? = some (.cells #[.int .i64 c1, .int .i64 c2, .int .i64 c3] 24 (0, 0))) := (hbb.block _ (Array.getElem?_eq_some_iff.1 BX.out).1).trans BX.out
         replace BB : Aside (Below w.heap.size w wb) := BB.out.trans (hbb.mono BB.out.size)
         clear hbb y4 e2
         obtain ⟨nv, hnv⟩ : ∃ x, tl - sc b = x := ⟨_, rfl⟩
         have HNV : Aside (tl - sc b = nv) := hnv
         rw [hnv]
         clear hnv hsb
         have x0 := blk_cell BK.out (i := 0) rfl
         have x2 := blk_cell BK.out (i := 2) rfl
         have x3 := blk_cell BK.out (i := 3) rfl
         have x4 := blk_cell BK.out (i := 4) rfl
         have x5 := blk_cell BK.out (i := 5) rfl
         have xf := blk_free BK.out
         have o1 := blk_cell BX.out (i := 1) rfl
         have o2 := blk_cell BX.out (i := 2) rfl
         by_cases hz : b = 0
         ·have hz1 : (b == 0) = true := by simpa using hz
          exfalso
          have h2 := HOP.out
          rw [hz] at h2
          unfold opn at h2
          split at h2
          ·simp at h2
          ·split at h2 <;> simp at h2
         ·have hz1 : (b == 0) = false := by simpa using hz
          clear hz
          by_cases h0 : nv = 0
          ·have h0b : (nv == 0) = true := by simpa using h0
           cases hoo : opn c3 b with
           | true =>
            rw [hoo] at y3
            have HOO : Aside (opn c3 b = true) := hoo
            have H0 : Aside (nv = 0) := h0
            clear h0 hoo
            go_wp2_with fail
            refine (y3 _).mono ?_
            rintro e w5 ⟨rfl, hb5⟩
            replace BK : Aside (w5.heap[(w.heap.size + 1 + 1)]? = some (.cells #[.int .i64 tl, .int .i64 0, .int .i64 (td + 1), .bool false, .bool false, .bool false] 30 (0, 0))) := (hb5.block _ (Array.getElem?_eq_some_iff.1 BK.out).1).trans BK.out
            replace BZ : Aside (ZeroAt w5 (w.heap.size + 1)) := (hb5.block _ (Array.getElem?_eq_some_iff.1 BZ.out).1).trans BZ.out
            replace BX : Aside (w5.heap[w.heap.size]? = some (.cells #[.int .i64 c1, .int .i64 c2, .int .i64 c3] 24 (0, 0))) := (hb5.block _ (Array.getElem?_eq_some_iff.1 BX.out).1).trans BX.out
            replace BB : Aside (Below w.heap.size w w5) := BB.out.trans (hb5.mono BB.out.size)
            clear hb5 x0 x2 x3 x4 x5 xf o1 o2
            have x0 := blk_cell BK.out (i := 0) rfl
            have x3 := blk_cell BK.out (i := 3) rfl
            have x5 := blk_cell BK.out (i := 5) rfl
            have xf := blk_free BK.out
            have o1 := blk_cell BX.out (i := 1) rfl
            have o2 := blk_cell BX.out (i := 2) rfl
            go_wp2_with fail
            obtain ⟨w6, hw6⟩ : ∃ u, u = ((w5.setCell ⟨w.heap.size + 1 + 1, 3, none⟩ (.bool true)).setCell ⟨w.heap.size + 1 + 1, 0, none⟩ (.int .i64 0)).setCell ⟨w.heap.size + 1 + 1, 5, none⟩ (.bool true) := ⟨_, rfl⟩
            replace BZ : Aside (ZeroAt w6 (w.heap.size + 1)) := by rw [hw6]; exact ((Below.heap_setCell _ _ _ _ (by first | omega | (simp only []; omega))).trans ((Below.heap_setCell _ _ _ _ (by first | omega | (simp only []; omega))).trans ((Below.heap_setCell _ _ _ _ (by first | omega | (simp only []; omega))).trans BZ.out)))
            replace BX : Aside (w6.heap[w.heap.size]? = some (.cells #[.int .i64 c1, .int .i64 c2, .int .i64 c3] 24 (0, 0))) := by rw [hw6]; exact ((Below.heap_setCell _ _ _ _ (by first | omega | (simp only []; omega))).trans ((Below.heap_setCell _ _ _ _ (by first | omega | (simp only []; omega))).trans ((Below.heap_setCell _ _ _ _ (by first | omega | (simp only []; omega))).trans BX.out)))
            replace BB : Aside (Below w.heap.size w w6) := by rw [hw6]; exact (((BB.out.setCell (p := ⟨w.heap.size + 1 + 1, 3, none⟩) (by show w.heap.size ≤ w.heap.size + 1 + 1; omega) _).setCell (p := ⟨w.heap.size + 1 + 1, 0, none⟩) (by show w.heap.size ≤ w.heap.size + 1 + 1; omega) _).setCell (p := ⟨w.heap.size + 1 + 1, 5, none⟩) (by show w.heap.size ≤ w.heap.size + 1 + 1; omega) _)
            replace BK : Aside (w6.heap[(w.heap.size + 1 + 1)]? = some (.cells #[.int .i64 0, .int .i64 0, .int .i64 (td + 1), .bool true, .bool false, .bool true] 30 (0, 0))) := by rw [hw6]; exact (Go.Joins.block_setCell (i := 5) (Go.Joins.block_setCell (i := 0) (Go.Joins.block_setCell (i := 3) BK.out (.bool true)) (.int .i64 0)) (.bool true))
            rw [← hw6]
            clear hw6
            have HI3 : Aside (RvInv (c1, c2, c3) in0 left bs res w (k + 1) ⟨0, ts, td + 1, true, false, true⟩ true w6) := by
             have hst := (step_out (c := (c1, c2, c3)) (t := ⟨tl, ts, td, false, false, false⟩) (show ((false : Bool) || opn c2 b) = true from HOP.out) (by show tl - sc b = 0; rw [HNV.out]; exact H0.out) HOO.out : Thr.step (c1, c2, c3) ⟨tl, ts, td, false, false, false⟩ b = ⟨0, ts, td + 1, true, false, true⟩)
             have hok := HOK.out.step (by simp [Thr.ended, hd3.out]) (c1, c2, c3) HVB.out
             have hrs := HR.out
             rw [hst] at hok hrs
             exact ⟨BK.out, fun _ => rfl, hok, (fun h => by cases h), hrs, BB.out, BZ.out, BX.out⟩
            go_wp2_with fail
            go_roundg (n - (k + 1))
            case measure => omega
            case rel => exact ⟨k + 1, _, _, by omega, by omega, by go_num, HI3.out⟩
           | false =>
            rw [hoo] at y3
            have HOO : Aside (opn c3 b = false) := hoo
            have H0 : Aside (nv = 0) := h0
            subst h0
            clear hoo
            go_wp2_with fail
            refine (y3 _).mono ?_
            rintro e w5 ⟨rfl, hb5⟩
            replace BK : Aside (w5.heap[(w.heap.size + 1 + 1)]? = some (.cells #[.int .i64 tl, .int .i64 0, .int .i64 (td + 1), .bool false, .bool false, .bool false] 30 (0, 0))) := (hb5.block _ (Array.getElem?_eq_some_iff.1 BK.out).1).trans BK.out
            replace BZ : Aside (ZeroAt w5 (w.heap.size + 1)) := (hb5.block _ (Array.getElem?_eq_some_iff.1 BZ.out).1).trans BZ.out
            replace BX : Aside (w5.heap[w.heap.size]? = some (.cells #[.int .i64 c1, .int .i64 c2, .int .i64 c3] 24 (0, 0))) := (hb5.block _ (Array.getElem?_eq_some_iff.1 BX.out).1).trans BX.out
            replace BB : Aside (Below w.heap.size w w5) := BB.out.trans (hb5.mono BB.out.size)
            clear hb5 x0 x2 x3 x4 x5 xf o1 o2
            have x4 := blk_cell BK.out (i := 4) rfl
            have xf := blk_free BK.out
            have o1 := blk_cell BX.out (i := 1) rfl
            have o2 := blk_cell BX.out (i := 2) rfl
            go_wp2_with fail
            obtain ⟨w6, hw6⟩ : ∃ u, u = w5.setCell ⟨w.heap.size + 1 + 1, 4, none⟩ (.bool true) := ⟨_, rfl⟩
            replace BZ : Aside (ZeroAt w6 (w.heap.size + 1)) := by rw [hw6]; exact ((Below.heap_setCell _ _ _ _ (by first | omega | (simp only []; omega))).trans BZ.out)
            replace BX : Aside (w6.heap[w.heap.size]? = some (.cells #[.int .i64 c1, .int .i64 c2, .int .i64 c3] 24 (0, 0))) := by rw [hw6]; exact ((Below.heap_setCell _ _ _ _ (by first | omega | (simp only []; omega))).trans BX.out)
            replace BB : Aside (Below w.heap.size w w6) := by rw [hw6]; exact (BB.out.setCell (p := ⟨w.heap.size + 1 + 1, 4, none⟩) (by show w.heap.size ≤ w.heap.size + 1 + 1; omega) _)
            replace BK : Aside (w6.heap[(w.heap.size + 1 + 1)]? = some (.cells #[.int .i64 tl, .int .i64 0, .int .i64 (td + 1), .bool false, .bool true, .bool false] 30 (0, 0))) := by rw [hw6]; exact (Go.Joins.block_setCell (i := 4) BK.out (.bool true))
            rw [← hw6]
            clear hw6
            have HI3 : Aside (RvInv (c1, c2, c3) in0 left bs res w (k + 1) ⟨tl, ts, td + 1, false, true, false⟩ false w6) := by
             have hst := (step_bust (c := (c1, c2, c3)) (t := ⟨tl, ts, td, false, false, false⟩) (show ((false : Bool) || opn c2 b) = true from HOP.out) HLO.out (fun hh => by have h9 := hh.2; simp only [] at h9; rw [HOO.out] at h9; cases h9) (fun hh => by have h9 := HNV.out; simp only [] at hh; omega) : Thr.step (c1, c2, c3) ⟨tl, ts, td, false, false, false⟩ b = ⟨tl, ts, td + 1, false, true, false⟩)
             have hok := HOK.out.step (by simp [Thr.ended, hd3.out]) (c1, c2, c3) HVB.out
             have hrs := HR.out
             rw [hst] at hok hrs
             exact ⟨BK.out, (fun h => by cases h), hok, fun _ => HLO.out, hrs, BB.out, BZ.out, BX.out⟩
            go_wp2_with fail
            go_roundg (n - (k + 1))
            case measure => omega
            case rel => exact ⟨k + 1, _, _, by omega, by omega, by go_num, HI3.out⟩
          ·have h0b : (nv == 0) = false := by simpa using h0
           have H0 : Aside (¬ nv = 0) := h0
           clear h0 y3
           by_cases h2 : 2 ≤ nv
           ·have HLN : Aside (lo (c1, c2, c3) ≤ nv) := by show _ ≤ _; unfold lo; split <;> omega
            go_wp2_with fail
            obtain ⟨w6, hw6⟩ : ∃ u, u = (wb.setCell ⟨w.heap.size + 1 + 1, 3, none⟩ (.bool true)).setCell ⟨w.heap.size + 1 + 1, 0, none⟩ (.int .i64 nv) := ⟨_, rfl⟩
            replace BZ : Aside (ZeroAt w6 (w.heap.size + 1)) := by rw [hw6]; exact ((Below.heap_setCell _ _ _ _ (by first | omega | (simp only []; omega))).trans ((Below.heap_setCell _ _ _ _ (by first | omega | (simp only []; omega))).trans BZ.out))
            replace BX : Aside (w6.heap[w.heap.size]? = some (.cells #[.int .i64 c1, .int .i64 c2, .int .i64 c3] 24 (0, 0))) := by rw [hw6]; exact ((Below.heap_setCell _ _ _ _ (by first | omega | (simp only []; omega))).trans ((Below.heap_setCell _ _ _ _ (by first | omega | (simp only []; omega))).trans BX.out))
            replace BB : Aside (Below w.heap.size w w6) := by rw [hw6]; exact ((BB.out.setCell (p := ⟨w.heap.size + 1 + 1, 3, none⟩) (by show w.heap.size ≤ w.heap.size + 1 + 1; omega) _).setCell (p := ⟨w.heap.size + 1 + 1, 0, none⟩) (by show w.heap.size ≤ w.heap.size + 1 + 1; omega) _)
            replace BK : Aside (w6.heap[(w.heap.size + 1 + 1)]? = some (.cells #[.int .i64 nv, .int .i64 0, .int .i64 (td + 1), .bool true, .bool false, .bool false] 30 (0, 0))) := by rw [hw6]; exact (Go.Joins.block_setCell (i := 0) (Go.Joins.block_setCell (i := 3) BK.out (.bool true)) (.int .i64 nv))
            rw [← hw6]
            clear hw6
            have HI3 : Aside (RvInv (c1, c2, c3) in0 left bs res w (k + 1) ⟨nv, ts, td + 1, true, false, false⟩ true w6) := by
             have hst := (by have h9 := step_on (c := (c1, c2, c3)) (t := ⟨tl, ts, td, false, false, false⟩) (b := b) (show ((false : Bool) || opn c2 b) = true from HOP.out) (by show 2 ≤ tl - sc b ∨ (tl - sc b = 1 ∧ c3 = 0); rw [HNV.out]; exact (.inl h2)); simp only [] at h9; rw [HNV.out] at h9; exact h9 : Thr.step (c1, c2, c3) ⟨tl, ts, td, false, false, false⟩ b = ⟨nv, ts, td + 1, true, false, false⟩)
             have hok := HOK.out.step (by simp [Thr.ended, hd3.out]) (c1, c2, c3) HVB.out
             have hrs := HR.out
             rw [hst] at hok hrs
             exact ⟨BK.out, fun _ => rfl, hok, fun _ => HLN.out, hrs, BB.out, BZ.out, BX.out⟩
            go_wp2_with fail
            go_roundg (n - (k + 1))
            case measure => omega
            case rel => exact ⟨k + 1, _, _, by omega, by omega, by go_num, HI3.out⟩
           ·by_cases h1 : nv = 1
            ·subst h1
             by_cases hc3 : c3 = 0
             ·subst hc3
              have HLN : Aside (lo (c1, c2, 0) ≤ 1) := by show _ ≤ _; unfold lo; simp
              go_wp2_with fail
              obtain ⟨w6, hw6⟩ : ∃ u, u = (wb.setCell ⟨w.heap.size + 1 + 1, 3, none⟩ (.bool true)).setCell ⟨w.heap.size + 1 + 1, 0, none⟩ (.int .i64 1) := ⟨_, rfl⟩
              replace BZ : Aside (ZeroAt w6 (w.heap.size + 1)) := by rw [hw6]; exact ((Below.heap_setCell _ _ _ _ (by first | omega | (simp only []; omega))).trans ((Below.heap_setCell _ _ _ _ (by first | omega | (simp only []; omega))).trans BZ.out))
              replace BX : Aside (w6.heap[w.heap.size]? = some (.cells #[.int .i64 c1, .int .i64 c2, .int .i64 0] 24 (0, 0))) := by rw [hw6]; exact ((Below.heap_setCell _ _ _ _ (by first | omega | (simp only []; omega))).trans ((Below.heap_setCell _ _ _ _ (by first | omega | (simp only []; omega))).trans BX.out))
              replace BB : Aside (Below w.heap.size w w6) := by rw [hw6]; exact ((BB.out.setCell (p := ⟨w.heap.size + 1 + 1, 3, none⟩) (by show w.heap.size ≤ w.heap.size + 1 + 1; omega) _).setCell (p := ⟨w.heap.size + 1 + 1, 0, none⟩) (by show w.heap.size ≤ w.heap.size + 1 + 1; omega) _)
              replace BK : Aside (w6.heap[(w.heap.size + 1 + 1)]? = some (.cells #[.int .i64 1, .int .i64 0, .int .i64 (td + 1), .bool true, .bool false, .bool false] 30 (0, 0))) := by rw [hw6]; exact (Go.Joins.block_setCell (i := 0) (Go.Joins.block_setCell (i := 3) BK.out (.bool true)) (.int .i64 1))
              rw [← hw6]
              clear hw6
              have HI3 : Aside (RvInv (c1, c2, 0) in0 left bs res w (k + 1) ⟨1, ts, td + 1, true, false, false⟩ true w6) := by
               have hst := (by have h9 := step_on (c := (c1, c2, 0)) (t := ⟨tl, ts, td, false, false, false⟩) (b := b) (show ((false : Bool) || opn c2 b) = true from HOP.out) (by show 2 ≤ tl - sc b ∨ (tl - sc b = 1 ∧ 0 = 0); rw [HNV.out]; exact .inr ⟨rfl, rfl⟩); simp only [] at h9; rw [HNV.out] at h9; exact h9 : Thr.step (c1, c2, 0) ⟨tl, ts, td, false, false, false⟩ b = ⟨1, ts, td + 1, true, false, false⟩)
               have hok := HOK.out.step (by simp [Thr.ended, hd3.out]) (c1, c2, 0) HVB.out
               have hrs := HR.out
               rw [hst] at hok hrs
               exact ⟨BK.out, fun _ => rfl, hok, fun _ => HLN.out, hrs, BB.out, BZ.out, BX.out⟩
              go_wp2_with fail
              go_roundg (n - (k + 1))
              case measure => omega
              case rel => exact ⟨k + 1, _, _, by omega, by omega, by go_num, HI3.out⟩
             ·have hc3b : (c3 == 0) = false := by simpa using hc3
              have HC3 : Aside (¬ c3 = 0) := hc3
              clear hc3
              go_wp2_with fail
              obtain ⟨w6, hw6⟩ : ∃ u, u = wb.setCell ⟨w.heap.size + 1 + 1, 4, none⟩ (.bool true) := ⟨_, rfl⟩
              replace BZ : Aside (ZeroAt w6 (w.heap.size + 1)) := by rw [hw6]; exact ((Below.heap_setCell _ _ _ _ (by first | omega | (simp only []; omega))).trans BZ.out)
              replace BX : Aside (w6.heap[w.heap.size]? = some (.cells #[.int .i64 c1, .int .i64 c2, .int .i64 c3] 24 (0, 0))) := by rw [hw6]; exact ((Below.heap_setCell _ _ _ _ (by first | omega | (simp only []; omega))).trans BX.out)
              replace BB : Aside (Below w.heap.size w w6) := by rw [hw6]; exact (BB.out.setCell (p := ⟨w.heap.size + 1 + 1, 4, none⟩) (by show w.heap.size ≤ w.heap.size + 1 + 1; omega) _)
              replace BK : Aside (w6.heap[(w.heap.size + 1 + 1)]? = some (.cells #[.int .i64 tl, .int .i64 0, .int .i64 (td + 1), .bool false, .bool true, .bool false] 30 (0, 0))) := by rw [hw6]; exact (Go.Joins.block_setCell (i := 4) BK.out (.bool true))
              rw [← hw6]
              clear hw6
              have HI3 : Aside (RvInv (c1, c2, c3) in0 left bs res w (k + 1) ⟨tl, ts, td + 1, false, true, false⟩ false w6) := by
               have hst := (step_bust (c := (c1, c2, c3)) (t := ⟨tl, ts, td, false, false, false⟩) (show ((false : Bool) || opn c2 b) = true from HOP.out) HLO.out (fun hh => by have h9 := HNV.out; have h8 := hh.1; simp only [] at h8; omega) (fun hh => by have h9 := HNV.out; have h8 := HC3.out; simp only [] at hh; omega) : Thr.step (c1, c2, c3) ⟨tl, ts, td, false, false, false⟩ b = ⟨tl, ts, td + 1, false, true, false⟩)
               have hok := HOK.out.step (by simp [Thr.ended, hd3.out]) (c1, c2, c3) HVB.out
               have hrs := HR.out
               rw [hst] at hok hrs
               exact ⟨BK.out, (fun h => by cases h), hok, fun _ => HLO.out, hrs, BB.out, BZ.out, BX.out⟩
              go_wp2_with fail
              go_roundg (n - (k + 1))
              case measure => omega
              case rel => exact ⟨k + 1, _, _, by omega, by omega, by go_num, HI3.out⟩
            ·have h1b : (nv == 1) = false := by simpa using h1
             have H1 : Aside (¬ nv = 1) := h1
             clear h1
             go_wp2_with fail
             obtain ⟨w6, hw6⟩ : ∃ u, u = wb.setCell ⟨w.heap.size + 1 + 1, 4, none⟩ (.bool true) := ⟨_, rfl⟩
             replace BZ : Aside (ZeroAt w6 (w.heap.size + 1)) := by rw [hw6]; exact ((Below.heap_setCell _ _ _ _ (by first | omega | (simp only []; omega))).trans BZ.out)
             replace BX : Aside (w6.heap[w.heap.size]? = some (.cells #[.int .i64 c1, .int .i64 c2, .int .i64 c3] 24 (0, 0))) := by rw [hw6]; exact ((Below.heap_setCell _ _ _ _ (by first | omega | (simp only []; omega))).trans BX.out)
             replace BB : Aside (Below w.heap.size w w6) := by rw [hw6]; exact (BB.out.setCell (p := ⟨w.heap.size + 1 + 1, 4, none⟩) (by show w.heap.size ≤ w.heap.size + 1 + 1; omega) _)
             replace BK : Aside (w6.heap[(w.heap.size + 1 + 1)]? = some (.cells #[.int .i64 tl, .int .i64 0, .int .i64 (td + 1), .bool false, .bool true, .bool false] 30 (0, 0))) := by rw [hw6]; exact (Go.Joins.block_setCell (i := 4) BK.out (.bool true))
             rw [← hw6]
             clear hw6
             have HI3 : Aside (RvInv (c1, c2, c3) in0 left bs res w (k + 1) ⟨tl, ts, td + 1, false, true, false⟩ false w6) := by
              have hst := (step_bust (c := (c1, c2, c3)) (t := ⟨tl, ts, td, false, false, false⟩) (show ((false : Bool) || opn c2 b) = true from HOP.out) HLO.out (fun hh => by have h9 := HNV.out; have h8 := hh.1; have h7 := H0.out; simp only [] at h8; omega) (fun hh => by have h9 := HNV.out; have h8 := H1.out; simp only [] at hh; omega) : Thr.step (c1, c2, c3) ⟨tl, ts, td, false, false, false⟩ b = ⟨tl, ts, td + 1, false, true, false⟩)
              have hok := HOK.out.step (by simp [Thr.ended, hd3.out]) (c1, c2, c3) HVB.out
              have hrs := HR.out
              rw [hst] at hok hrs
              exact ⟨BK.out, (fun h => by cases h), hok, fun _ => HLO.out, hrs, BB.out, BZ.out, BX.out⟩
             go_wp2_with fail
             go_roundg (n - (k + 1))
             case measure => omega
             case rel => exact ⟨k + 1, _, _, by omega, by omega, by go_num, HI3.out⟩
  ·-- @@h
   have hltz : ¬ (k : Int) < (n : Int) := by omega
   have : k = n := by omega
   subst this
   have HR1 : Aside (thrL (c1, c2, c3) in0 left ⟨tl, ts, td, ti, tb, tw⟩ k [] = res) := by
    have h9 := HR0.out
    rw [List.drop_of_length_le (by rw [HN.out]; exact Nat.le_refl _)] at h9
    exact h9
   clear HR0
   have x0 := blk_cell BK.out (i := 0) rfl
   have x1 := blk_cell BK.out (i := 1) rfl
   have x2 := blk_cell BK.out (i := 2) rfl
   have x3 := blk_cell BK.out (i := 3) rfl
   have x4 := blk_cell BK.out (i := 4) rfl
   have x5 := blk_cell BK.out (i := 5) rfl
   have xf := blk_free BK.out
   have o1 := blk_cell BX.out (i := 1) rfl
   have o2 := blk_cell BX.out (i := 2) rfl
   have r0 := blk_cell BZ.out (i := 0) rfl
   have r1 := blk_cell BZ.out (i := 1) rfl
   have r2 := blk_cell BZ.out (i := 2) rfl
   have r3 := blk_cell BZ.out (i := 3) rfl
   have r4 := blk_cell BZ.out (i := 4) rfl
   have r5 := blk_cell BZ.out (i := 5) rfl
   have rf := blk_free BZ.out
   have HLL : Aside (0 ≤ left ∧ left ≤ 1001) := HLB.out.2
   obtain ⟨hl0, hl1⟩ := HLL.out
   obtain ⟨htl0, htl1⟩ := htl
   have el : IntKind.i64.wrap (left - tl) = left - tl := IntWalk.i64_in _ (by omega)
   by_cases h3 : td < 3
   ·have h3b : (decide (td < 3)) = true := by simpa using h3
    cases tb with
    | true =>
     have HR4 : Aside (res = (⟨left, 0, td, in0, true, tw⟩, -1, 0)) := by
      show _ = _
      rw [← HR1.out, thrL, if_pos (by simp [Thr.ended])]
      simp [Thr.fin]
     clear HR1
     cases tw with
     | true =>
      go_wp2
      refine bodyPost_ret (v := .tuple #[.agg #[.int .i64 left, .int .i64 0, .int .i64 td, .bool in0, .bool true, .bool true], .int .i64 0, .int .i64 0]) (by simp [results, Try.results17, go_sem, r0, r1, r2, r3, r4, r5]) rfl ⟨⟨_, by rw [HR4.out]; rfl, fun h => absurd (by rw [HR4.out]) h, fun _ => rfl⟩, ?_⟩
      exact below_set6 (((BB.out.setCell (p := ⟨w.heap.size + 1 + 1, 3, none⟩) (show w.heap.size ≤ w.heap.size + 1 + 1 by omega) _).setCell (p := ⟨w.heap.size + 1 + 1, 0, none⟩) (show w.heap.size ≤ w.heap.size + 1 + 1 by omega) _).setCell (p := ⟨w.heap.size + 1 + 1, 1, none⟩) (show w.heap.size ≤ w.heap.size + 1 + 1 by omega) _) (by omega) _ _ _ _ _ _
     | false =>
      go_wp2
      refine bodyPost_ret (v := .tuple #[.agg #[.int .i64 left, .int .i64 0, .int .i64 td, .bool in0, .bool true, .bool false], .int .i64 0, .int .i64 0]) (by simp [results, Try.results17, go_sem, r0, r1, r2, r3, r4, r5]) rfl ⟨⟨_, by rw [HR4.out]; rfl, fun h => absurd (by rw [HR4.out]) h, fun _ => rfl⟩, ?_⟩
      exact below_set6 (((BB.out.setCell (p := ⟨w.heap.size + 1 + 1, 3, none⟩) (show w.heap.size ≤ w.heap.size + 1 + 1 by omega) _).setCell (p := ⟨w.heap.size + 1 + 1, 0, none⟩) (show w.heap.size ≤ w.heap.size + 1 + 1 by omega) _).setCell (p := ⟨w.heap.size + 1 + 1, 1, none⟩) (show w.heap.size ≤ w.heap.size + 1 + 1 by omega) _) (by omega) _ _ _ _ _ _
    | false =>
     have HUI : Aside (ui = ti) := HIN.out rfl
     cases tw with
     | false =>
      have HR4 : Aside (res = (Thr.zero, -1, 31)) := by
       show _ = _
       rw [← HR1.out, thrL, if_neg (by simp [Thr.ended]; omega)]
      clear HR1
      go_wp2
      refine bodyPost_ret (v := .tuple #[.agg #[.int .i64 0, .int .i64 0, .int .i64 0, .bool false, .bool false, .bool false], .int .i64 (-1), .int .i64 31]) (by simp [results, Try.results17, go_sem, r0, r1, r2, r3, r4, r5]) rfl ⟨⟨_, by rw [HR4.out]; rfl, fun _ => by rw [HR4.out], fun h => absurd h (by rw [HR4.out]; simp)⟩, ?_⟩
      exact below_set6 BB.out (by omega) _ _ _ _ _ _
     | true =>
      have HR4 : Aside (res = (⟨tl, left - tl, td, ui, false, true⟩, -1, 0)) := by
       show _ = _
       rw [← HR1.out, thrL, if_pos (by simp [Thr.ended]), HUI.out]
       simp [Thr.fin]
      clear HR1
      go_wp2
      refine bodyPost_ret (v := .tuple #[.agg #[.int .i64 tl, .int .i64 (left - tl), .int .i64 td, .bool ui, .bool false, .bool true], .int .i64 0, .int .i64 0]) (by simp [results, Try.results17, go_sem, r0, r1, r2, r3, r4, r5]) rfl ⟨⟨_, by rw [HR4.out]; rfl, fun h => absurd (by rw [HR4.out]) h, fun _ => rfl⟩, ?_⟩
      exact below_set6 (BB.out.setCell (p := ⟨w.heap.size + 1 + 1, 1, none⟩) (show w.heap.size ≤ w.heap.size + 1 + 1 by omega) _) (by omega) _ _ _ _ _ _
   ·have h3b : (decide (td < 3)) = false := by simpa using h3
    cases tb with
    | true =>
     have HR4 : Aside (res = (⟨left, 0, td, in0, true, tw⟩, -1, 0)) := by
      show _ = _
      rw [← HR1.out, thrL, if_pos (by simp [Thr.ended])]
      simp [Thr.fin]
     clear HR1
     go_wp2
     refine bodyPost_ret (v := .tuple #[.agg #[.int .i64 left, .int .i64 0, .int .i64 td, .bool in0, .bool true, .bool tw], .int .i64 0, .int .i64 0]) (by simp [results, Try.results17, go_sem, r0, r1, r2, r3, r4, r5]) rfl ⟨⟨_, by rw [HR4.out]; rfl, fun h => absurd (by rw [HR4.out]) h, fun _ => rfl⟩, ?_⟩
     exact below_set6 (((BB.out.setCell (p := ⟨w.heap.size + 1 + 1, 3, none⟩) (show w.heap.size ≤ w.heap.size + 1 + 1 by omega) _).setCell (p := ⟨w.heap.size + 1 + 1, 0, none⟩) (show w.heap.size ≤ w.heap.size + 1 + 1 by omega) _).setCell (p := ⟨w.heap.size + 1 + 1, 1, none⟩) (show w.heap.size ≤ w.heap.size + 1 + 1 by omega) _) (by omega) _ _ _ _ _ _
    | false =>
     have HUI : Aside (ui = ti) := HIN.out rfl
     have HR4 : Aside (res = (⟨tl, left - tl, td, ui, false, tw⟩, -1, 0)) := by
      show _ = _
      rw [← HR1.out, thrL, if_pos (by simp [Thr.ended]; omega), HUI.out]
      simp [Thr.fin]
     clear HR1
     go_wp2
     refine bodyPost_ret (v := .tuple #[.agg #[.int .i64 tl, .int .i64 (left - tl), .int .i64 td, .bool ui, .bool false, .bool tw], .int .i64 0, .int .i64 0]) (by simp [results, Try.results17, go_sem, r0, r1, r2, r3, r4, r5]) rfl ⟨⟨_, by rw [HR4.out]; rfl, fun h => absurd (by rw [HR4.out]) h, fun _ => rfl⟩, ?_⟩
     exact below_set6 (BB.out.setCell (p := ⟨w.heap.size + 1 + 1, 1, none⟩) (show w.heap.size ≤ w.heap.size + 1 + 1 by omega) _) (by omega) _ _ _ _ _ _
end
end Go.Proofs.Ytgmlcgifagbjmaa
