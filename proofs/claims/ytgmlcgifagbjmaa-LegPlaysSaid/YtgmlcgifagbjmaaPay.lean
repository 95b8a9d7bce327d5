/- Leg: parts Gp, Ha. -/
import Derived.Maps.AppendAt
import Derived.Test.YtgmlcgifagbjmaaPax
import Derived.Test.YtgmlcgifagbjmaaPat
set_option linter.unusedVariables false
set_option linter.unusedSimpArgs false
namespace Go.Proofs.Ytgmlcgifagbjmaa
section
open Go.RowKit Go.Maps Go.Sort Go.Shelf Go.Deep
structure St4 (w : World) (r : LegR) (vc : Value) (p : Int) (vb : Value) (cs : Array Value) (W : World) : Prop where
 rul : W.heap[w.heap.size]? = some (.cells #[vc, .int .i64 r.first, .int .i64 r.rounds, .bool r.equal] 42 (0, 0))
 leg : RgB W (w.heap.size + 1) cs
 vis : W.heap[w.heap.size + 1 + 1]? = some (.cells #[.int .i64 p, vb] 84 (0, 0))
 zero : RgB W (w.heap.size + 1 + 1 + 1) zeroC
 bel : Below w.heap.size w W
theorem St4.start (w : World) (r : LegR) (vc : Value) (p : Int) (vb : Value) (cs : Array Value) : St4 w r vc p vb cs ((((w.alloc (.cells #[vc, .int .i64 r.first, .int .i64 r.rounds, .bool r.equal] 42)).alloc (.cells cs 108)).alloc (.cells #[.int .i64 p, vb] 84)).alloc (.cells zeroC 108)) := by
 refine ⟨?_, ?_, ?_, ?_, by (repeat' (first | exact Below.refl _ _ | assumption | (with_reducible refine Below.drew ?_) | (with_reducible refine Below.setCell ?_ (by (first | (simp; done) | (simp; omega))) _) | (with_reducible refine below_drewN' ?_ _) | (refine Below.alloc ?_ (by (try simp only [World.size_alloc, World.size_drew, World.size_setCell]); omega) _) | (refine Below.trans ?_ (Below.mono (by assumption) (by (try simp only [World.size_alloc, World.size_drew, World.size_setCell]); omega)))))⟩
 ·exact (Below.heap_alloc _ _ _ (by simp; try omega)).trans ((Below.heap_alloc _ _ _ (by simp; try omega)).trans ((Below.heap_alloc _ _ _ (by simp; try omega)).trans (World.alloc_heap_new _ _)))
 ·exact (Below.heap_alloc _ _ _ (by simp; try omega)).trans ((Below.heap_alloc _ _ _ (by simp; try omega)).trans (World.alloc_heap_new' _ _ _ (by simp)))
 ·exact (Below.heap_alloc _ _ _ (by simp; try omega)).trans (World.alloc_heap_new' _ _ _ (by simp))
 ·exact World.alloc_heap_new' _ _ _ (by simp)
theorem St4.below {w : World} {r : LegR} {vc : Value} {p : Int} {vb : Value} {cs : Array Value} {W W' : World} (h : St4 w r vc p vb cs W) (hB : Below W.heap.size W W') : St4 w r vc p vb cs W' := by
 have k : ∀ {j : Nat} {o : Obj}, W.heap[j]? = some o → W'.heap[j]? = some o := fun h => (hB.block _ (Array.getElem?_eq_some_iff.1 h).1).trans h
 exact ⟨k h.rul, k h.leg, k h.vis, k h.zero, h.bel.trans (hB.mono h.bel.size)⟩
set_option maxRecDepth 100000 in
set_option maxHeartbeats 16000000 in
theorem rstep_over {r : LegR} {g : LegG} {R : RG} {es : List Nat} (p : Int) (w : World) (vc vl vd vi vw ve vb : Value) (bs : List Int) (hf : RfOk r g R es) (hc : Sl w 3 encC vc r.counts) (hs : RfSl w vl vd vi vw ve g es) (ho : g.over = true) (hin : True ∨ r.counts.length = 0) : Calls Try.prog 50 #[legRV r vc, .agg (rgC R vl vd vi vw ve), .agg #[.int .i64 p, vb]] w (StepOk r g p bs w) := by
 have ht : takeG r g p bs = (g, -1, 33) := by unfold takeG; rw [if_pos ho]
 have HF : Aside (RfOk r g R es) := hf
 have HSL : Aside (RfSl w vl vd vi vw ve g es) := hs
 have HOV : Aside (R.over = g.over ∧ R.next = g.next) := ⟨hf.over, hf.next⟩
 obtain ⟨s1, s2, s3, s4, s5⟩ := hs
 obtain ⟨n, hn⟩ : ∃ n, r.counts.length = n := ⟨_, rfl⟩
 obtain ⟨ac, cp, rfl, hl, -⟩ := hc
 rw [hn] at hl hin ⊢
 obtain ⟨al, cl, rfl, -, -⟩ := s1.1
 obtain ⟨ad, cd, rfl, -, -⟩ := s2.1
 obtain ⟨ai, ci, rfl, -, -⟩ := s3.1
 obtain ⟨aw, cw, rfl, -, -⟩ := s4.1
 obtain ⟨ae, ce, rfl, -, -⟩ := s5.1
 have HT : Aside _ := ht
 obtain ⟨nl, hnl⟩ : ∃ x, g.left.length = x := ⟨_, rfl⟩
 obtain ⟨nd, hnd⟩ : ∃ x, g.darts.length = x := ⟨_, rfl⟩
 obtain ⟨ni, hni⟩ : ∃ x, g.inn.length = x := ⟨_, rfl⟩
 obtain ⟨nw, hnw⟩ : ∃ x, g.wins.length = x := ⟨_, rfl⟩
 obtain ⟨ne, hne⟩ : ∃ x, (cI es).length = x := ⟨_, rfl⟩
 rw [hnl, hnd, hni, hnw, hne] at HSL ⊢
 clear hnl hnd hni hnw hne s1 s2 s3 s4 s5 hf ht hn
 unfold legRV
 go_enter Try.func50, Try.ntmps50
 have o1 : R.over = true := HOV.out.1.trans ho
 have HS0 : Aside _ := St4.start w r (.slice ac n cp) p vb (rgC R (.slice al nl cl) (.slice ad nd cd) (.slice ai ni ci) (.slice aw nw cw) (.slice ae ne ce))
 go_upto_region 1 with (fail)
 obtain ⟨w1, hw1⟩ : ∃ u, u = ((((w.alloc (.cells #[.slice ac n cp, .int .i64 r.first, .int .i64 r.rounds, .bool r.equal] 42)).alloc (.cells (rgC R (.slice al nl cl) (.slice ad nd cd) (.slice ai ni ci) (.slice aw nw cw) (.slice ae ne ce)) 108)).alloc (.cells #[.int .i64 p, vb] 84)).alloc (.cells zeroC 108)) := ⟨_, rfl⟩
 have HS1 : Aside (St4 w r (.slice ac n cp) p vb (rgC R (.slice al nl cl) (.slice ad nd cd) (.slice ai ni ci) (.slice aw nw cw) (.slice ae ne ce)) w1) := by rw [hw1]; exact HS0.out
 unfold zeroC at hw1
 rw [← hw1]
 clear hw1 HS0
 have u0 : w1.cell? ⟨w.heap.size, 0, none⟩ = some (.slice ac n cp) := blk_cell HS1.out.rul rfl
 have v0 : w1.cell? ⟨(w.heap.size + 1 + 1), 0, none⟩ = some (.int .i64 p) := blk_cell HS1.out.vis rfl
 have g5 : w1.cell? ⟨(w.heap.size + 1), 5, none⟩ = some (.bool R.over) := blk_cell HS1.out.leg rfl
 have g3 : w1.cell? ⟨(w.heap.size + 1), 3, none⟩ = some (.int .i64 R.next) := blk_cell HS1.out.leg rfl
 rw [o1] at g5
 go_upto_region 3 with (fail)
 refine wp_region_lit ?_
 refine wpList_plain rfl fun KK hK => wp_load17 (by rfl) HS1.out.leg (hK _ _ ?_)
 clear hK KK
 refine wpList_plain rfl fun KK hK => wp_store17 (B := (w.heap.size + 1 + 1 + 1)) (by rfl) (by rfl) HS1.out.zero (hK _ _ ?_)
 clear hK KK
 simp only [Act.put, List.setIfInBounds_toArray, List.set_cons_zero, List.set_cons_succ]
 obtain ⟨wz, hwz⟩ : ∃ u, u = set17 w1 (w.heap.size + 1 + 1 + 1) (.slice al nl cl) (.slice ad nd cd) (.slice ai ni ci) (.int .i64 R.next) (.int .i64 R.round) (.bool R.over) (.slice aw nw cw) (.slice ae ne ce) (.int .i64 (R.last 0)) (.int .i64 (R.last 1)) (.int .i64 (R.last 2)) (.int .i64 (R.last 3)) (.int .i64 (R.last 4)) (.int .i64 (R.last 5)) (.int .i64 (R.last 6)) (.int .i64 (R.last 7)) (.int .i64 R.done) := ⟨_, rfl⟩
 rw [← hwz]
 go_wp2_with fail
 subst hwz
 refine ret17s (wz := set17 w1 (w.heap.size + 1 + 1 + 1) (.slice al nl cl) (.slice ad nd cd) (.slice ai ni ci) (.int .i64 R.next) (.int .i64 R.round) (.bool R.over) (.slice aw nw cw) (.slice ae ne ce) (.int .i64 (R.last 0)) (.int .i64 (R.last 1)) (.int .i64 (R.last 2)) (.int .i64 (R.last 3)) (.int .i64 (R.last 4)) (.int .i64 (R.last 5)) (.int .i64 (R.last 6)) (.int .i64 (R.last 7)) (.int .i64 R.done)) rfl rfl rfl rfl (rg17 (.slice al nl cl) (.slice ad nd cd) (.slice ai ni ci) (.int .i64 R.next) (.int .i64 R.round) (.bool R.over) (.slice aw nw cw) (.slice ae ne ce) (.int .i64 (R.last 0)) (.int .i64 (R.last 1)) (.int .i64 (R.last 2)) (.int .i64 (R.last 3)) (.int .i64 (R.last 4)) (.int .i64 (R.last 5)) (.int .i64 (R.last 6)) (.int .i64 (R.last 7)) (.int .i64 R.done) HS1.out.zero) ?_
 exact step_same HF.out HSL.out (below17 HS1.out.bel (R := (w.heap.size + 1 + 1 + 1)) (by omega) (.slice al nl cl) (.slice ad nd cd) (.slice ai ni ci) (.int .i64 R.next) (.int .i64 R.round) (.bool R.over) (.slice aw nw cw) (.slice ae ne ce) (.int .i64 (R.last 0)) (.int .i64 (R.last 1)) (.int .i64 (R.last 2)) (.int .i64 (R.last 3)) (.int .i64 (R.last 4)) (.int .i64 (R.last 5)) (.int .i64 (R.last 6)) (.int .i64 (R.last 7)) (.int .i64 R.done)) HT.out
set_option maxRecDepth 100000 in
set_option maxHeartbeats 16000000 in
theorem rstep_out {r : LegR} {g : LegG} {R : RG} {es : List Nat} (p : Int) (w : World) (vc vl vd vi vw ve vb : Value) (bs : List Int) (hf : RfOk r g R es) (hc : Sl w 3 encC vc r.counts) (hs : RfSl w vl vd vi vw ve g es) (ho : g.over = false) (hr : r.Ok) (hin : inb 0 ((r.counts.length : Int) - 1) p = false) : Calls Try.prog 50 #[legRV r vc, .agg (rgC R vl vd vi vw ve), .agg #[.int .i64 p, vb]] w (StepOk r g p bs w) := by
 have ht : takeG r g p bs = (g, -1, 2) := by unfold takeG; rw [if_neg (by rw [ho]; simp), if_neg (by rw [hin]; simp)]
 have h88 : r.counts.length ≤ 8 := hr.n8
 have HF : Aside (RfOk r g R es) := hf
 have HSL : Aside (RfSl w vl vd vi vw ve g es) := hs
 have HOV : Aside (R.over = g.over ∧ R.next = g.next) := ⟨hf.over, hf.next⟩
 obtain ⟨s1, s2, s3, s4, s5⟩ := hs
 obtain ⟨n, hn⟩ : ∃ n, r.counts.length = n := ⟨_, rfl⟩
 obtain ⟨ac, cp, rfl, hl, -⟩ := hc
 rw [hn] at hl hin ⊢
 obtain ⟨al, cl, rfl, -, -⟩ := s1.1
 obtain ⟨ad, cd, rfl, -, -⟩ := s2.1
 obtain ⟨ai, ci, rfl, -, -⟩ := s3.1
 obtain ⟨aw, cw, rfl, -, -⟩ := s4.1
 obtain ⟨ae, ce, rfl, -, -⟩ := s5.1
 have HT : Aside _ := ht
 obtain ⟨nl, hnl⟩ : ∃ x, g.left.length = x := ⟨_, rfl⟩
 obtain ⟨nd, hnd⟩ : ∃ x, g.darts.length = x := ⟨_, rfl⟩
 obtain ⟨ni, hni⟩ : ∃ x, g.inn.length = x := ⟨_, rfl⟩
 obtain ⟨nw, hnw⟩ : ∃ x, g.wins.length = x := ⟨_, rfl⟩
 obtain ⟨ne, hne⟩ : ∃ x, (cI es).length = x := ⟨_, rfl⟩
 rw [hnl, hnd, hni, hnw, hne] at HSL ⊢
 clear hnl hnd hni hnw hne s1 s2 s3 s4 s5 hf ht hn
 unfold legRV
 go_enter Try.func50, Try.ntmps50
 have o1 : R.over = false := HOV.out.1.trans ho
 have n1 : R.next = g.next := HOV.out.2
 have ew1 : IntKind.i64.wrap ((n : Int) - 1) = (n : Int) - 1 := IntWalk.i64_in _ (by omega)
 have y1 := fun W => rin_any p 0 ((n : Int) - 1) W
 rw [hin] at y1
 have HS0 : Aside _ := St4.start w r (.slice ac n cp) p vb (rgC R (.slice al nl cl) (.slice ad nd cd) (.slice ai ni ci) (.slice aw nw cw) (.slice ae ne ce))
 go_upto_region 1 with (fail)
 obtain ⟨w1, hw1⟩ : ∃ u, u = ((((w.alloc (.cells #[.slice ac n cp, .int .i64 r.first, .int .i64 r.rounds, .bool r.equal] 42)).alloc (.cells (rgC R (.slice al nl cl) (.slice ad nd cd) (.slice ai ni ci) (.slice aw nw cw) (.slice ae ne ce)) 108)).alloc (.cells #[.int .i64 p, vb] 84)).alloc (.cells zeroC 108)) := ⟨_, rfl⟩
 have HS1 : Aside (St4 w r (.slice ac n cp) p vb (rgC R (.slice al nl cl) (.slice ad nd cd) (.slice ai ni ci) (.slice aw nw cw) (.slice ae ne ce)) w1) := by rw [hw1]; exact HS0.out
 unfold zeroC at hw1
 rw [← hw1]
 clear hw1 HS0
 have u0 : w1.cell? ⟨w.heap.size, 0, none⟩ = some (.slice ac n cp) := blk_cell HS1.out.rul rfl
 have v0 : w1.cell? ⟨(w.heap.size + 1 + 1), 0, none⟩ = some (.int .i64 p) := blk_cell HS1.out.vis rfl
 have g5 : w1.cell? ⟨(w.heap.size + 1), 5, none⟩ = some (.bool R.over) := blk_cell HS1.out.leg rfl
 have g3 : w1.cell? ⟨(w.heap.size + 1), 3, none⟩ = some (.int .i64 R.next) := blk_cell HS1.out.leg rfl
 rw [o1] at g5
 go_wp2_with fail
 refine (y1 _).mono ?_
 rintro e w2 ⟨rfl, hb2⟩
 have HS2 : Aside (St4 w r (.slice ac n cp) p vb (rgC R (.slice al nl cl) (.slice ad nd cd) (.slice ai ni ci) (.slice aw nw cw) (.slice ae ne ce)) w2) := HS1.out.below hb2
 clear hb2 y1 u0 v0 g5 g3 HS1
 obtain ⟨w1, rfl⟩ : ∃ u, u = w2 := ⟨_, rfl⟩
 have HS1 : Aside (St4 w r (.slice ac n cp) p vb (rgC R (.slice al nl cl) (.slice ad nd cd) (.slice ai ni ci) (.slice aw nw cw) (.slice ae ne ce)) w1) := HS2.out
 clear HS2
 have u0 : w1.cell? ⟨w.heap.size, 0, none⟩ = some (.slice ac n cp) := blk_cell HS1.out.rul rfl
 have v0 : w1.cell? ⟨(w.heap.size + 1 + 1), 0, none⟩ = some (.int .i64 p) := blk_cell HS1.out.vis rfl
 have g5 : w1.cell? ⟨(w.heap.size + 1), 5, none⟩ = some (.bool R.over) := blk_cell HS1.out.leg rfl
 have g3 : w1.cell? ⟨(w.heap.size + 1), 3, none⟩ = some (.int .i64 R.next) := blk_cell HS1.out.leg rfl
 go_upto_region 5 with (fail)
 refine wp_region_lit ?_
 refine wpList_plain rfl fun KK hK => wp_load17 (by rfl) HS1.out.leg (hK _ _ ?_)
 clear hK KK
 refine wpList_plain rfl fun KK hK => wp_store17 (B := (w.heap.size + 1 + 1 + 1)) (by rfl) (by rfl) HS1.out.zero (hK _ _ ?_)
 clear hK KK
 simp only [Act.put, List.setIfInBounds_toArray, List.set_cons_zero, List.set_cons_succ]
 obtain ⟨wz, hwz⟩ : ∃ u, u = set17 w1 (w.heap.size + 1 + 1 + 1) (.slice al nl cl) (.slice ad nd cd) (.slice ai ni ci) (.int .i64 R.next) (.int .i64 R.round) (.bool R.over) (.slice aw nw cw) (.slice ae ne ce) (.int .i64 (R.last 0)) (.int .i64 (R.last 1)) (.int .i64 (R.last 2)) (.int .i64 (R.last 3)) (.int .i64 (R.last 4)) (.int .i64 (R.last 5)) (.int .i64 (R.last 6)) (.int .i64 (R.last 7)) (.int .i64 R.done) := ⟨_, rfl⟩
 rw [← hwz]
 go_wp2_with fail
 subst hwz
 refine ret17s (wz := set17 w1 (w.heap.size + 1 + 1 + 1) (.slice al nl cl) (.slice ad nd cd) (.slice ai ni ci) (.int .i64 R.next) (.int .i64 R.round) (.bool R.over) (.slice aw nw cw) (.slice ae ne ce) (.int .i64 (R.last 0)) (.int .i64 (R.last 1)) (.int .i64 (R.last 2)) (.int .i64 (R.last 3)) (.int .i64 (R.last 4)) (.int .i64 (R.last 5)) (.int .i64 (R.last 6)) (.int .i64 (R.last 7)) (.int .i64 R.done)) rfl rfl rfl rfl (rg17 (.slice al nl cl) (.slice ad nd cd) (.slice ai ni ci) (.int .i64 R.next) (.int .i64 R.round) (.bool R.over) (.slice aw nw cw) (.slice ae ne ce) (.int .i64 (R.last 0)) (.int .i64 (R.last 1)) (.int .i64 (R.last 2)) (.int .i64 (R.last 3)) (.int .i64 (R.last 4)) (.int .i64 (R.last 5)) (.int .i64 (R.last 6)) (.int .i64 (R.last 7)) (.int .i64 R.done) HS1.out.zero) ?_
 exact step_same HF.out HSL.out (below17 HS1.out.bel (R := (w.heap.size + 1 + 1 + 1)) (by omega) (.slice al nl cl) (.slice ad nd cd) (.slice ai ni ci) (.int .i64 R.next) (.int .i64 R.round) (.bool R.over) (.slice aw nw cw) (.slice ae ne ce) (.int .i64 (R.last 0)) (.int .i64 (R.last 1)) (.int .i64 (R.last 2)) (.int .i64 (R.last 3)) (.int .i64 (R.last 4)) (.int .i64 (R.last 5)) (.int .i64 (R.last 6)) (.int .i64 (R.last 7)) (.int .i64 R.done)) HT.out
set_option maxRecDepth 100000 in
set_option maxHeartbeats 16000000 in
theorem rstep_turn {r : LegR} {g : LegG} {R : RG} {es : List Nat} (p : Int) (w : World) (vc vl vd vi vw ve vb : Value) (bs : List Int) (hf : RfOk r g R es) (hc : Sl w 3 encC vc r.counts) (hs : RfSl w vl vd vi vw ve g es) (ho : g.over = false) (hr : r.Ok) (hin : inb 0 ((r.counts.length : Int) - 1) p = true) (hnx : ¬ p = g.next) : Calls Try.prog 50 #[legRV r vc, .agg (rgC R vl vd vi vw ve), .agg #[.int .i64 p, vb]] w (StepOk r g p bs w) := by
 have ht : takeG r g p bs = (g, -1, 30) := by unfold takeG; rw [if_neg (by rw [ho]; simp), if_pos hin, if_neg hnx]
 have h88 : r.counts.length ≤ 8 := hr.n8
 have HF : Aside (RfOk r g R es) := hf
 have HSL : Aside (RfSl w vl vd vi vw ve g es) := hs
 have HOV : Aside (R.over = g.over ∧ R.next = g.next) := ⟨hf.over, hf.next⟩
 obtain ⟨s1, s2, s3, s4, s5⟩ := hs
 obtain ⟨n, hn⟩ : ∃ n, r.counts.length = n := ⟨_, rfl⟩
 obtain ⟨ac, cp, rfl, hl, -⟩ := hc
 rw [hn] at hl hin ⊢
 obtain ⟨al, cl, rfl, -, -⟩ := s1.1
 obtain ⟨ad, cd, rfl, -, -⟩ := s2.1
 obtain ⟨ai, ci, rfl, -, -⟩ := s3.1
 obtain ⟨aw, cw, rfl, -, -⟩ := s4.1
 obtain ⟨ae, ce, rfl, -, -⟩ := s5.1
 have HT : Aside _ := ht
 obtain ⟨nl, hnl⟩ : ∃ x, g.left.length = x := ⟨_, rfl⟩
 obtain ⟨nd, hnd⟩ : ∃ x, g.darts.length = x := ⟨_, rfl⟩
 obtain ⟨ni, hni⟩ : ∃ x, g.inn.length = x := ⟨_, rfl⟩
 obtain ⟨nw, hnw⟩ : ∃ x, g.wins.length = x := ⟨_, rfl⟩
 obtain ⟨ne, hne⟩ : ∃ x, (cI es).length = x := ⟨_, rfl⟩
 rw [hnl, hnd, hni, hnw, hne] at HSL ⊢
 clear hnl hnd hni hnw hne s1 s2 s3 s4 s5 hf ht hn
 unfold legRV
 go_enter Try.func50, Try.ntmps50
 have o1 : R.over = false := HOV.out.1.trans ho
 have n1 : R.next = g.next := HOV.out.2
 have ew1 : IntKind.i64.wrap ((n : Int) - 1) = (n : Int) - 1 := IntWalk.i64_in _ (by omega)
 have y1 := fun W => rin_any p 0 ((n : Int) - 1) W
 rw [hin] at y1
 have HS0 : Aside _ := St4.start w r (.slice ac n cp) p vb (rgC R (.slice al nl cl) (.slice ad nd cd) (.slice ai ni ci) (.slice aw nw cw) (.slice ae ne ce))
 go_upto_region 1 with (fail)
 obtain ⟨w1, hw1⟩ : ∃ u, u = ((((w.alloc (.cells #[.slice ac n cp, .int .i64 r.first, .int .i64 r.rounds, .bool r.equal] 42)).alloc (.cells (rgC R (.slice al nl cl) (.slice ad nd cd) (.slice ai ni ci) (.slice aw nw cw) (.slice ae ne ce)) 108)).alloc (.cells #[.int .i64 p, vb] 84)).alloc (.cells zeroC 108)) := ⟨_, rfl⟩
 have HS1 : Aside (St4 w r (.slice ac n cp) p vb (rgC R (.slice al nl cl) (.slice ad nd cd) (.slice ai ni ci) (.slice aw nw cw) (.slice ae ne ce)) w1) := by rw [hw1]; exact HS0.out
 unfold zeroC at hw1
 rw [← hw1]
 clear hw1 HS0
 have u0 : w1.cell? ⟨w.heap.size, 0, none⟩ = some (.slice ac n cp) := blk_cell HS1.out.rul rfl
 have v0 : w1.cell? ⟨(w.heap.size + 1 + 1), 0, none⟩ = some (.int .i64 p) := blk_cell HS1.out.vis rfl
 have g5 : w1.cell? ⟨(w.heap.size + 1), 5, none⟩ = some (.bool R.over) := blk_cell HS1.out.leg rfl
 have g3 : w1.cell? ⟨(w.heap.size + 1), 3, none⟩ = some (.int .i64 R.next) := blk_cell HS1.out.leg rfl
 rw [o1] at g5
 go_wp2_with fail
 refine (y1 _).mono ?_
 rintro e w2 ⟨rfl, hb2⟩
 have HS2 : Aside (St4 w r (.slice ac n cp) p vb (rgC R (.slice al nl cl) (.slice ad nd cd) (.slice ai ni ci) (.slice aw nw cw) (.slice ae ne ce)) w2) := HS1.out.below hb2
 clear hb2 y1 u0 v0 g5 g3 HS1
 obtain ⟨w1, rfl⟩ : ∃ u, u = w2 := ⟨_, rfl⟩
 have HS1 : Aside (St4 w r (.slice ac n cp) p vb (rgC R (.slice al nl cl) (.slice ad nd cd) (.slice ai ni ci) (.slice aw nw cw) (.slice ae ne ce)) w1) := HS2.out
 clear HS2
 have u0 : w1.cell? ⟨w.heap.size, 0, none⟩ = some (.slice ac n cp) := blk_cell HS1.out.rul rfl
 have v0 : w1.cell? ⟨(w.heap.size + 1 + 1), 0, none⟩ = some (.int .i64 p) := blk_cell HS1.out.vis rfl
 have g5 : w1.cell? ⟨(w.heap.size + 1), 5, none⟩ = some (.bool R.over) := blk_cell HS1.out.leg rfl
 have g3 : w1.cell? ⟨(w.heap.size + 1), 3, none⟩ = some (.int .i64 R.next) := blk_cell HS1.out.leg rfl
 have hnb : (p == R.next) = false := by rw [n1]; simpa using hnx
 go_upto_region 7 with (fail)
 refine wp_region_lit ?_
 refine wpList_plain rfl fun KK hK => wp_load17 (by rfl) HS1.out.leg (hK _ _ ?_)
 clear hK KK
 refine wpList_plain rfl fun KK hK => wp_store17 (B := (w.heap.size + 1 + 1 + 1)) (by rfl) (by rfl) HS1.out.zero (hK _ _ ?_)
 clear hK KK
 simp only [Act.put, List.setIfInBounds_toArray, List.set_cons_zero, List.set_cons_succ]
 obtain ⟨wz, hwz⟩ : ∃ u, u = set17 w1 (w.heap.size + 1 + 1 + 1) (.slice al nl cl) (.slice ad nd cd) (.slice ai ni ci) (.int .i64 R.next) (.int .i64 R.round) (.bool R.over) (.slice aw nw cw) (.slice ae ne ce) (.int .i64 (R.last 0)) (.int .i64 (R.last 1)) (.int .i64 (R.last 2)) (.int .i64 (R.last 3)) (.int .i64 (R.last 4)) (.int .i64 (R.last 5)) (.int .i64 (R.last 6)) (.int .i64 (R.last 7)) (.int .i64 R.done) := ⟨_, rfl⟩
 rw [← hwz]
 go_wp2_with fail
 subst hwz
 refine ret17s (wz := set17 w1 (w.heap.size + 1 + 1 + 1) (.slice al nl cl) (.slice ad nd cd) (.slice ai ni ci) (.int .i64 R.next) (.int .i64 R.round) (.bool R.over) (.slice aw nw cw) (.slice ae ne ce) (.int .i64 (R.last 0)) (.int .i64 (R.last 1)) (.int .i64 (R.last 2)) (.int .i64 (R.last 3)) (.int .i64 (R.last 4)) (.int .i64 (R.last 5)) (.int .i64 (R.last 6)) (.int .i64 (R.last 7)) (.int .i64 R.done)) rfl rfl rfl rfl (rg17 (.slice al nl cl) (.slice ad nd cd) (.slice ai ni ci) (.int .i64 R.next) (.int .i64 R.round) (.bool R.over) (.slice aw nw cw) (.slice ae ne ce) (.int .i64 (R.last 0)) (.int .i64 (R.last 1)) (.int .i64 (R.last 2)) (.int .i64 (R.last 3)) (.int .i64 (R.last 4)) (.int .i64 (R.last 5)) (.int .i64 (R.last 6)) (.int .i64 (R.last 7)) (.int .i64 R.done) HS1.out.zero) ?_
 exact step_same HF.out HSL.out (below17 HS1.out.bel (R := (w.heap.size + 1 + 1 + 1)) (by omega) (.slice al nl cl) (.slice ad nd cd) (.slice ai ni ci) (.int .i64 R.next) (.int .i64 R.round) (.bool R.over) (.slice aw nw cw) (.slice ae ne ce) (.int .i64 (R.last 0)) (.int .i64 (R.last 1)) (.int .i64 (R.last 2)) (.int .i64 (R.last 3)) (.int .i64 (R.last 4)) (.int .i64 (R.last 5)) (.int .i64 (R.last 6)) (.int .i64 (R.last 7)) (.int .i64 R.done)) HT.out
theorem rstep_any {r : LegR} {g : LegG} {R : RG} {es : List Nat} {i : Nat} (p : Int) (w : World) (vc vl vd vi vw ve vb : Value) (bs : List Int) (hv : vleg r = true) (hg : g.Ok r i) (hi : i ≤ 10000) (hf : RfOk r g R es) (hc : Sl w 3 encC vc r.counts) (hs : RfSl w vl vd vi vw ve g es) (hbs : Sl w 1 eI vb bs) (h64 : ∀ x ∈ bs, -9223372036854775808 ≤ x ∧ x ≤ 9223372036854775807) :
  Calls Try.prog 50 #[legRV r vc, .agg (rgC R vl vd vi vw ve), .agg #[.int .i64 p, vb]] w (StepOk r g p bs w) := by
 cases ho : g.over with
 | true => exact rstep_over p w vc vl vd vi vw ve vb bs hf hc hs ho (.inl trivial)
 | false =>
  cases hin : inb 0 ((r.counts.length : Int) - 1) p with
  | false => exact rstep_out p w vc vl vd vi vw ve vb bs hf hc hs ho (vleg_ok hv).1 hin
  | true =>
   by_cases hnx : p = g.next
   ·have h0 : 0 ≤ p ∧ p < (r.counts.length : Int) := by unfold inb at hin; simp at hin; omega
    obtain ⟨k, rfl⟩ : ∃ k : Nat, p = (k : Int) := ⟨p.toNat, by omega⟩
    exact step_go w vc vl vd vi vw ve vb bs hv hg hi hf ho (by omega) hnx.symm hc hs hbs h64
   ·exact rstep_turn p w vc vl vd vi vw ve vb bs hf hc hs ho (vleg_ok hv).1 hin hnx
end
section
open Go.RowKit Go.Maps Go.Sort Go.Shelf Go.Deep
theorem wp_append_own_at {P : Program} {o : Oper} {a : Act} {w : World} {K : Act → World → Prop} {Q : Exit → Act → World → Prop} (s x : Operand) (t : TypeId)
  (ho : o.op = .call { callee := .builtin .append, args := #[s, x], argTypes := #[t, t] })
  (base : Nat) (e : TypeId) (i : TypeInfo) (z : Value) (size bytes : Nat) (ht : P.underlying t = some (.slice e)) (hi : P.info? e = some i) (hz : i.zero = some z)
  (hsize : i.size = size) (hby : i.bytes = bytes) (hzs : z.cells.size = size) (hsz : 0 < size)
  (v : Value) (n : Nat) (xs : List Value) (hs : a.eval s = v) (hown : w.ownsRow base e size v n xs)
  (ad : Addr) (m c : Nat) (news : List Value) (hx : a.eval x = .slice (some ad) m c) (hl : news.length = m * size) (hnews : ∀ j u, news[j]? = some u → w.cell? (ad.add j) = some u) (h1 : ∀ u ∈ news, u.oneCell' = true)
  (h63 : n + m ≤ maxLen) (hbytes : (n + m) * bytes ≤ 140737488355328) (hbase : base ≤ w.heap.size)
  (h : ∀ v' w', w'.ownsRow base e size v' (n + m) (xs ++ news) → w.grownBy w' v.ownBlock → (v'.ownBlock = v.ownBlock ∨ v'.ownBlock = some w.heap.size) → K (a.put o.dst v') w') : o.wp P a w K Q := by
 obtain ⟨v', w', hr, h2, h3, h4, h5⟩ := run_append_own_at (P := P) w base t o.type e i z size bytes ht hi hz hsize hby hzs hsz v n xs hown ad m c news hl hnews h1 h63 hbytes hbase
 unfold Oper.wp execOp
 simp only [ho, resolve, invoke, builtin, Sem.run_bind, Sem.run_pure, Result.andThen_ok, List.map_toArray, List.map_cons, List.map_nil, hs, hx, hr]
 exact h v' w' h2 h3 h5
/-- The operations and the slots of one row: its element's slice, its append, its store. -/
structure GN where
 ib : Nat
 ia : Nat
 is : Nat
 tb : Nat
 ta : Nat
def bgN : Nat → GN
 | 0 => ⟨9, 10, 30, 25, 26⟩
 | 1 => ⟨14, 15, 33, 30, 31⟩
 | _ => ⟨26, 27, 36, 42, 43⟩
theorem bgN_ne' : ∀ i : Fin 3, ∀ j : Fin 3, (bgN i).ia ≠ (bgN j).ib ∧ (bgN i).is ≠ (bgN j).ib ∧ (bgN i).is ≠ (bgN j).ia ∧ (bgN i).ta ≠ (bgN j).tb ∧ (i ≠ j → (bgN i).ib ≠ (bgN j).ib ∧ (bgN i).ia ≠ (bgN j).ia ∧ (bgN i).is ≠ (bgN j).is ∧ (bgN i).tb ≠ (bgN j).tb ∧ (bgN i).ta ≠ (bgN j).ta) := by decide
theorem bgN_ne : ∀ i, i < 3 → ∀ j, j < 3 → (bgN i).ia ≠ (bgN j).ib ∧ (bgN i).is ≠ (bgN j).ib ∧ (bgN i).is ≠ (bgN j).ia ∧ (bgN i).ta ≠ (bgN j).tb ∧ (i ≠ j → (bgN i).ib ≠ (bgN j).ib ∧ (bgN i).ia ≠ (bgN j).ia ∧ (bgN i).is ≠ (bgN j).is ∧ (bgN i).tb ≠ (bgN j).tb ∧ (bgN i).ta ≠ (bgN j).ta) := fun i hi j hj => by
 have h := bgN_ne' ⟨i, hi⟩ ⟨j, hj⟩
 exact ⟨h.1, h.2.1, h.2.2.1, h.2.2.2.1, fun e => h.2.2.2.2 (fun e' => e (congrArg Fin.val e'))⟩
def bgFree (i t : Nat) : Bool := (List.range 3).all fun j => decide (i ≠ (bgN j).ib) && decide (i ≠ (bgN j).ia) && decide (i ≠ (bgN j).is) && decide (t ≠ (bgN j).tb) && decide (t ≠ (bgN j).ta)
/-- A row: the type of its elements, what it is, and what is put behind. -/
structure GD where
 T : TypeId
 v : Value
 k : Nat
 xs : List Value
 x : Value
def grV (G : Nat → GD) (listed : Array Bool) (r : Nat → Value) (j : Nat) : Value := if listed.getD (bgN j).is false = true then r j else (G j).v
structure Gr (w : World) (Z L : Nat) (G : Nat → GD) (R : RG) (base : World) (listed : Array Bool) (a : Act) (r : Nat → Value) (W : World) : Prop where
 bel : Below w.heap.size w W
 siz : Z ≤ W.heap.size
 fix : ∀ j, j < Z → j ≠ L → W.heap[j]? = base.heap[j]?
 leg : RgB W L (rgC R (grV G listed r 0) (grV G listed r 1) (grV G listed r 2) (.slice none 0 0) (.slice none 0 0))
 row : ∀ j, j < 3 → (listed.getD (bgN j).ia false = false → r j = (G j).v ∧ W.ownsRow Z (G j).T 1 (r j) (G j).k (G j).xs) ∧ (listed.getD (bgN j).ia false = true → a.tmps.getD (bgN j).ta undef = r j ∧ W.ownsRow Z (G j).T 1 (r j) ((G j).k + 1) ((G j).xs ++ [(G j).x]))
 lt : ∀ j, j < 3 → ∀ g, (r j).ownBlock = some g → Z ≤ g ∧ g < W.heap.size
 one : ∀ j, j < 3 → listed.getD (bgN j).ib false = true → ∃ g, a.tmps.getD (bgN j).tb undef = .slice (some ⟨g, 0, none⟩) 1 1 ∧ Z ≤ g ∧ W.heap[g]? = some (.cells #[(G j).x] (G j).T (0, 0)) ∧ ∀ i, i < 3 → (r i).ownBlock ≠ some g
 dis : ∀ i, i < 3 → ∀ j, j < 3 → i ≠ j → ∀ g, (r i).ownBlock = some g → (r j).ownBlock ≠ some g
section
variable {w base W W' : World} {Z L : Nat} {G : Nat → GD} {R : RG} {listed : Array Bool} {a : Act} {r : Nat → Value}
theorem Gr.start (hb : Below w.heap.size w base) (hs : Z ≤ base.heap.size) (hl : RgB base L (rgC R (G 0).v (G 1).v (G 2).v (.slice none 0 0) (.slice none 0 0))) (hr : ∀ j, j < 3 → base.ownsRow Z (G j).T 1 (G j).v (G j).k (G j).xs) (hd : ∀ i, i < 3 → ∀ j, j < 3 → i ≠ j → ∀ g, ((G i).v).ownBlock = some g → ((G j).v).ownBlock ≠ some g) (m : Nat) (a : Act) : Gr w Z L G R base (Array.replicate m false) a (fun j => (G j).v) base.drew := by
 refine ⟨hb.drew, hs, fun _ _ _ => rfl, ?_, fun j hj => ⟨fun _ => ⟨rfl, hr j hj⟩, fun e => ?_⟩, fun j hj g hg => (hr j hj).lt g hg, fun j hj e => ?_, hd⟩
 ·unfold grV; rw [rep_false, rep_false, rep_false]; exact hl
 ·rw [rep_false] at e; cases e
 ·rw [rep_false] at e; cases e
theorem Gr.other (h : Gr w Z L G R base listed a r W) {i t : Nat} {x : Value} (hi : bgFree i t = true) : Gr w Z L G R base (listed.setIfInBounds i true) (a.put (some t) x) r W := by
 have hq : ∀ j, j < 3 → i ≠ (bgN j).ib ∧ i ≠ (bgN j).ia ∧ i ≠ (bgN j).is ∧ t ≠ (bgN j).tb ∧ t ≠ (bgN j).ta := fun j hj => by
  have := List.all_eq_true.1 hi j (List.mem_range.2 hj)
  simp only [Bool.and_eq_true, decide_eq_true_eq] at this
  exact ⟨this.1.1.1.1, this.1.1.1.2, this.1.1.2, this.1.2, this.2⟩
 refine ⟨h.bel, h.siz, h.fix, ?_, fun j hj => ?_, h.lt, fun j hj e => ?_, h.dis⟩
 ·have e : ∀ j, j < 3 → grV G (listed.setIfInBounds i true) r j = grV G listed r j := fun j hj => by
   unfold grV; rw [getD_set_ne _ _ _ _ (Ne.symm (hq j hj).2.2.1)]
  rw [e 0 (by decide), e 1 (by decide), e 2 (by decide)]; exact h.leg
 ·rw [getD_set_ne _ _ _ _ (Ne.symm (hq j hj).2.1), getD_put (Ne.symm (hq j hj).2.2.2.2)]; exact h.row j hj
 ·rw [getD_set_ne _ _ _ _ (Ne.symm (hq j hj).1)] at e
  rw [getD_put (Ne.symm (hq j hj).2.2.2.1)]; exact h.one j hj e
theorem Gr.build (h : Gr w Z L G R base listed a r W) (j : Nat) (hj : j < 3) (ht : (bgN j).tb < a.tmps.size) (hL : L < Z) : Gr w Z L G R base (listed.setIfInBounds (bgN j).ib true) (a.put (some (bgN j).tb) (.slice (some ⟨W.heap.size, 0, none⟩) 1 1)) r (W.alloc (.cells #[(G j).x] (G j).T)) := by
 have hB : Below W.heap.size W (W.alloc (.cells #[(G j).x] (G j).T)) := (Below.refl _ _).alloc (Nat.le_refl _) _
 refine ⟨h.bel.trans (hB.mono h.bel.size), Nat.le_trans h.siz hB.size, fun i hi hne => (hB.block i (Nat.lt_of_lt_of_le hi h.siz)).trans (h.fix i hi hne), ?_, fun i hi => ?_, fun i hi g hg => ⟨(h.lt i hi g hg).1, Nat.lt_of_lt_of_le (h.lt i hi g hg).2 hB.size⟩, fun i hi e => ?_, h.dis⟩
 ·have e : ∀ i, i < 3 → grV G (listed.setIfInBounds (bgN j).ib true) r i = grV G listed r i := fun i hi => by
   unfold grV; rw [getD_set_ne _ _ _ _ (bgN_ne i hi j hj).2.1]
  rw [e 0 (by decide), e 1 (by decide), e 2 (by decide)]
  exact (hB.block L (Nat.lt_of_lt_of_le hL h.siz)).trans h.leg
 ·rw [getD_set_ne _ _ _ _ (bgN_ne i hi j hj).1, getD_put (bgN_ne i hi j hj).2.2.2.1]
  have := h.row i hi
  exact ⟨fun e => ⟨(this.1 e).1, ownsRow_below (this.1 e).2 hB⟩, fun e => ⟨(this.2 e).1, ownsRow_below (this.2 e).2 hB⟩⟩
 ·by_cases hij : i = j
  ·subst hij
   refine ⟨W.heap.size, getDV_set_self _ _ _ _ ht, h.siz, World.alloc_heap_new _ _, fun q hq e => ?_⟩
   exact absurd (h.lt q hq _ e).2 (Nat.lt_irrefl _)
  ·have hn := (bgN_ne i hi j hj).2.2.2.2 hij
   rw [getD_set_ne _ _ _ _ hn.1] at e
   rw [getD_put hn.2.2.2.1]
   obtain ⟨g, g1, g2, g3, g4⟩ := h.one i hi e
   exact ⟨g, g1, g2, (hB.block g (Array.getElem?_eq_some_iff.1 g3).1).trans g3, g4⟩
theorem Gr.app (h : Gr w Z L G R base listed a r W) (j : Nat) (hj : j < 3) (hl : (bgN j).ia < listed.size) (ht : (bgN j).ta < a.tmps.size) (hL : L < Z) (hw : w.heap.size ≤ Z) (l3 : listed.getD (bgN j).is false = false) {v' : Value}
  (hown : W'.ownsRow Z (G j).T 1 v' ((G j).k + 1) ((G j).xs ++ [(G j).x])) (hg : W.grownBy W' (r j).ownBlock) (hat : v'.ownBlock = (r j).ownBlock ∨ v'.ownBlock = some W.heap.size) :
  Gr w Z L G R base (listed.setIfInBounds (bgN j).ia true) (a.put (some (bgN j).ta) v') (fun i => if i = j then v' else r i) W' := by
 have hz : ∀ b, (r j).ownBlock = some b → Z ≤ b := fun b e => (h.lt j hj b e).1
 have hk : ∀ q, q < W.heap.size → (r j).ownBlock ≠ some q → W'.heap[q]? = W.heap[q]? := fun q hq hne => hg.block q hq (fun e => hne e.symm)
 have hkZ : ∀ q, q < Z → W'.heap[q]? = W.heap[q]? := fun q hq => hk q (Nat.lt_of_lt_of_le hq h.siz) (fun e => by have := hz q e; omega)
 refine ⟨h.bel.grown hg h.bel.size (fun b e => by have := hz b e; omega), Nat.le_trans h.siz hg.size, fun q hq hne => (hkZ q hq).trans (h.fix q hq hne), ?_, fun i hi => ?_, fun i hi g e => ?_, fun i hi e => ?_, fun i hi q hq hne g e e' => ?_⟩
 ·have e : ∀ i, i < 3 → grV G (listed.setIfInBounds (bgN j).ia true) (fun i => if i = j then v' else r i) i = grV G listed r i := fun i hi => by
   unfold grV; rw [getD_set_ne _ _ _ _ (bgN_ne i hi j hj).2.2.1]
   by_cases hij : i = j
   ·subst hij; rw [if_neg (by rw [l3]; simp), if_neg (by rw [l3]; simp)]
   ·simp only [if_neg hij]
  rw [e 0 (by decide), e 1 (by decide), e 2 (by decide)]
  exact (hkZ L hL).trans h.leg
 ·by_cases hij : i = j
  ·subst hij
   rw [getD_set_self _ _ _ hl]
   simp only [if_pos]
   exact ⟨fun e => absurd e (by simp), fun _ => ⟨getDV_set_self _ _ _ _ ht, hown⟩⟩
  ·have hn := (bgN_ne i hi j hj).2.2.2.2 hij
   rw [getD_set_ne _ _ _ _ hn.2.1, getD_put hn.2.2.2.2]
   simp only [if_neg hij]
   have := h.row i hi
   have hne : (r i).ownBlock = none ∨ (r i).ownBlock ≠ (r j).ownBlock := by
    cases hc : (r i).ownBlock with
    | none => exact .inl rfl
    | some g => exact .inr (fun e => h.dis i hi j hj hij g hc e.symm)
   exact ⟨fun e => ⟨(this.1 e).1, (this.1 e).2.kept hg hne⟩, fun e => ⟨(this.2 e).1, (this.2 e).2.kept hg hne⟩⟩
 ·by_cases hij : i = j
  ·subst hij; simp only [if_pos] at e; exact hown.lt g e
  ·simp only [if_neg hij] at e; exact ⟨(h.lt i hi g e).1, Nat.lt_of_lt_of_le (h.lt i hi g e).2 hg.size⟩
 ·rw [getD_set_ne _ _ _ _ (Ne.symm (bgN_ne j hj i hi).1)] at e
  rw [getD_put (Ne.symm (bgN_ne j hj i hi).2.2.2.1)]
  obtain ⟨g, g1, g2, g3, g4⟩ := h.one i hi e
  have hgl := (Array.getElem?_eq_some_iff.1 g3).1
  refine ⟨g, g1, g2, (hk g hgl (g4 j hj)).trans g3, fun q hq => ?_⟩
  by_cases hqj : q = j
  ·simp only [if_pos hqj]
   rcases hat with h1 | h1
   ·rw [h1]; exact g4 j hj
   ·rw [h1]; intro e2; simp only [Option.some.injEq] at e2; omega
  ·simp only [if_neg hqj]; exact g4 q hq
 ·by_cases hij : i = j
  ·subst hij
   simp only [if_pos] at e
   simp only [if_neg (Ne.symm hne)] at e'
   rcases hat with h1 | h1
   ·rw [h1] at e; exact h.dis i hi q hq hne g e e'
   ·rw [h1] at e; simp only [Option.some.injEq] at e; have := (h.lt q hq g e').2; omega
  ·simp only [if_neg hij] at e
   by_cases hqj : q = j
   ·simp only [if_pos hqj] at e'
    rcases hat with h1 | h1
    ·rw [h1] at e'; exact h.dis i hi j hj hij g e e'
    ·rw [h1] at e'; simp only [Option.some.injEq] at e'; have := (h.lt i hi g e).2; omega
   ·simp only [if_neg hqj] at e'; exact h.dis i hi q hq hne g e e'
theorem Gr.st (h : Gr w Z L G R base listed a r W) (j : Nat) (hj : j < 3) (hl : (bgN j).is < listed.size) (hL : L < Z) (hw : w.heap.size ≤ L) (l1 : listed.getD (bgN j).ia false = true) (a' : Act) (ha : a'.tmps = a.tmps) : Gr w Z L G R base (listed.setIfInBounds (bgN j).is true) a' r (W.setCell ⟨L, j, none⟩ (r j)) := by
 have hk : ∀ q, q ≠ L → (W.setCell ⟨L, j, none⟩ (r j)).heap[q]? = W.heap[q]? := fun q hq => Below.heap_setCell _ _ _ _ hq
 refine ⟨h.bel.setCell (p := ⟨L, j, none⟩) hw _, by simp only [World.size_setCell]; exact h.siz, fun q hq hne => (hk q hne).trans (h.fix q hq hne), ?_, fun i hi => ?_, fun i hi g e => ⟨(h.lt i hi g e).1, by simp only [World.size_setCell]; exact (h.lt i hi g e).2⟩, fun i hi e => ?_, h.dis⟩
 ·have h1 : RgB (W.setCell ⟨L, j, none⟩ (r j)) L ((rgC R (grV G listed r 0) (grV G listed r 1) (grV G listed r 2) (.slice none 0 0) (.slice none 0 0)).setIfInBounds j (r j)) := Go.Joins.block_setCell h.leg _
  have e : ∀ i, i < 3 → grV G (listed.setIfInBounds (bgN j).is true) r i = if i = j then r j else grV G listed r i := fun i hi => by
   unfold grV
   by_cases hij : i = j
   ·subst hij; rw [getD_set_self _ _ _ hl, if_pos rfl, if_pos rfl]
   ·rw [getD_set_ne _ _ _ _ ((bgN_ne i hi j hj).2.2.2.2 hij).2.2.1, if_neg hij]
  rw [e 0 (by decide), e 1 (by decide), e 2 (by decide)]
  match j, hj with
  | 0, _ => exact h1
  | 1, _ => exact h1
  | 2, _ => exact h1
 ·rw [getD_set_ne _ _ _ _ (Ne.symm (bgN_ne j hj i hi).2.2.1), ha]
  have := h.row i hi
  have hs : ∀ {n : Nat} {xs : List Value}, W.ownsRow Z (G i).T 1 (r i) n xs → (W.setCell ⟨L, j, none⟩ (r j)).ownsRow Z (G i).T 1 (r i) n xs := fun h => ownsRow_setCell_below h (a := ⟨L, j, none⟩) hL _
  exact ⟨fun e => ⟨(this.1 e).1, hs (this.1 e).2⟩, fun e => ⟨(this.2 e).1, hs (this.2 e).2⟩⟩
 ·rw [getD_set_ne _ _ _ _ (Ne.symm (bgN_ne j hj i hi).2.1)] at e
  rw [ha]
  obtain ⟨g, g1, g2, g3, g4⟩ := h.one i hi e
  exact ⟨g, g1, g2, (hk g (by omega)).trans g3, g4⟩
end
end
end Go.Proofs.Ytgmlcgifagbjmaa
