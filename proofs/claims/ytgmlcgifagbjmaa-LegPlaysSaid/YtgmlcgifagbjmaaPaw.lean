/- Leg: parts Gm, Gn. -/
import Derived.Deep.DeepCutAuto
import Derived.Deep.CutBlock
import Derived.Test.YtgmlcgifagbjmaaPav
import Derived.Test.YtgmlcgifagbjmaaPau
set_option linter.unusedVariables false
set_option linter.unusedSimpArgs false
namespace Go.Proofs.Ytgmlcgifagbjmaa
section
open Go.RowKit Go.Maps Go.Sort Go.Shelf Go.Deep
set_option maxRecDepth 100000 in
set_option maxHeartbeats 16000000 in
theorem swB {r : LegR} {g : LegG} {es : List Nat} {R3 : RG} {k p b off cp nw cw ne2 ce2 ag ac_ dg dc ig ic vcc : Nat} {w wa : World} {vb : Value} {aw ae2 va : Option Addr} {rds rr rd tl ts td : Int} {rl : Nat → Int} {ti tb tw : Bool} {s0 s1 s2 s5 s6 s7 s8 s10 s11 s12 s13 s15 : Value} {u16 u17 u18 u19 u20 u21 u22 u23 u24 u25 u26 u27 u28 u29 u30 u31 u32 u33 u34 u35 u36 u37 u38 u39 u40 u41 u42 u43 u44 u45 u46 u47 u48 u49 u50 u51 u52 u53 u54 u55 u56 u57 u58 u59 u60 u61 u62 u63 u64 u65 u66 u67 u68 u69 u70 u71 u72 u73 u74 u75 u76 u77 u78 u79 u80 u81 u82 u83 u84 u85 u86 u87 u88 u89 u90 u91 u92 u93 u94 u95 u96 u97 u98 u99 u100 u101 u102 u103 u104 u105 u106 u107 u108 u109 u110 u111 u112 u113 u114 u115 u116 u117 u118 u119 u120 u121 u122 u123 u124 u125 u126 u127 u128 u129 u130 u131 u132 u133 u134 u135 u136 u137 u138 u139 u140 u141 u142 u143 u144 u145 u146 u147 u148 u149 u150 u151 u152 u153 u154 u155 u156 u157 u158 u159 u160 u161 u162 u163 u164 u165 u166 u167 u168 u169 u170 u171 u172 u173 u174 u175 u176 u177 u178 u179 u180 u181 u182 u183 u184 u185 u186 u187 u188 u189 u190 u191 u192 u193 u194 u195 u196 u197 u198 u199 u200 u201 u202 u203 u204 u205 u206 u207 u208 u209 u210 u211 u212 u213 u214 u215 u216 u217 u218 u219 u220 u221 u222 u223 u224 u225 u226 u227 u228 u229 u230 : Value} {c : Code} (hc : blkOf 2 Try.f50 = some c) {J' K' : Act → World → Prop} {Q' : Exit → Act → World → Prop}
  (hJ' : ∀ (a' : Act) (w' : World), (∃ u16 u17 u18 u19 u20 u21 u22 u23 u24 u25 u26 u27 u28 u29 u30 u31 u32 u33 u34 u35 u36 u37 u38 u39 u40 u41 u42 u43 u44 u45 u46 u47 u48 u49 u50 u51 u52 u53 u54 u55 u56 u57 u58 u59 u60 u61 u62 u63 u64 u65 u66 u67 u68 u69 u70 u71 u72 u73 u74 u75 u76 u77 u78 u79 u80 u81 u82 u83 u84 u85 u86 u87 u88 u89 u90 u91 u92 u93 u94 u95 u96 u97 u98 u99 u100 u101 u102 u103 u104 u105 u106 u107 u108 u109 u110 u111 u112 u113 u114 u115 u116 u117 u118 u119 u120 u121 u122 u123 u124 u125 u126 u127 u128 u129 u130 u131 u132 u133 u134 u135 u136 u137 u138 u139 u140 u141 u142 u143 u144 u145 u146 u147 u148 u149 u150 u151 u152 u153 u154 u155 u156 u157 u158 u159 u160 u161 u162 u163 u164 u165 u166 u167 u168 u169 u170 u171 u172 u173 u174 u175 u176 u177 u178 u179 u180 u181 u182 u183 u184 u185 u186 u187 u188 u189 u190 u191 u192 u193 u194 u195 u196 u197 u198 u199 u200 u201 u202 u203 u204 u205 u206 u207 u208 u209 u210 u211 u212 u213 u214 u215 u216 u217 u218 u219 u220 u221 u222 u223 u224 u225 u226 u227 u228 u229 u230, (∃ (R4 : RG) (vl4 vd4 vi4 vw4 ve4 : Value), Aside (StB w r (.slice (some ⟨b, off, none⟩) p cp) k vb (rgC R4 vl4 vd4 vi4 vw4 ve4) w' ∧ RfAt (w.heap.size + 1) w' vl4 vd4 vi4 vw4 ve4 (passG r (hitG g k (⟨tl, ts, td, ti, tb, tw⟩ : Thr))) (hitE es k (⟨tl, ts, td, ti, tb, tw⟩ : Thr)) ∧ RfOk r (passG r (hitG g k (⟨tl, ts, td, ti, tb, tw⟩ : Thr))) R4 (hitE es k (⟨tl, ts, td, ti, tb, tw⟩ : Thr)))) ∧ a' = ⟨#[s0, s1, s2, .pointer (some ⟨w.heap.size, 0, none⟩), .pointer (some ⟨w.heap.size + 1, 0, none⟩), s5, s6, s7, s8, .int .i64 (p : Int), s10, s11, s12, s13, .slice va p vcc, s15, u16, u17, u18, u19, u20, u21, u22, u23, u24, u25, u26, u27, u28, u29, u30, u31, u32, u33, u34, u35, u36, u37, u38, u39, u40, u41, u42, u43, u44, u45, u46, u47, u48, u49, u50, u51, u52, u53, u54, u55, u56, u57, u58, u59, u60, u61, u62, u63, u64, u65, u66, u67, u68, u69, u70, u71, u72, u73, u74, u75, u76, u77, u78, u79, u80, u81, u82, u83, u84, u85, u86, u87, u88, u89, u90, u91, u92, u93, u94, u95, u96, u97, u98, u99, u100, u101, u102, u103, u104, u105, u106, u107, u108, u109, u110, u111, u112, u113, u114, u115, u116, u117, u118, u119, u120, u121, u122, u123, u124, u125, u126, u127, u128, u129, u130, u131, u132, u133, u134, u135, u136, u137, u138, u139, u140, u141, u142, u143, u144, u145, u146, u147, u148, u149, u150, u151, u152, u153, u154, u155, u156, u157, u158, u159, u160, u161, u162, u163, u164, u165, u166, u167, u168, u169, u170, u171, u172, u173, u174, u175, u176, u177, u178, u179, u180, u181, u182, u183, u184, u185, u186, u187, u188, u189, u190, u191, u192, u193, u194, u195, u196, u197, u198, u199, u200, u201, u202, u203, u204, u205, u206, u207, u208, u209, u210, u211, u212, u213, u214, u215, u216, u217, u218, u219, u220, u221, u222, u223, u224, u225, u226, u227, u228, u229, u230], []⟩) → J' a' w') (hK' : ∀ (a' : Act) (w' : World), Met J' a' w' → K' a' w')
  (HSR : Aside (StB w r (.slice (some ⟨b, off, none⟩) p cp) k vb (rgC R3 (.slice (some ⟨ag, 0, none⟩) p ac_) (.slice (some ⟨dg, 0, none⟩) p dc) (.slice (some ⟨ig, 0, none⟩) p ic) (.slice aw nw cw) (.slice ae2 ne2 ce2)) wa)) (HAR : Aside (RfAt (w.heap.size + 1) wa (.slice (some ⟨ag, 0, none⟩) p ac_) (.slice (some ⟨dg, 0, none⟩) p dc) (.slice (some ⟨ig, 0, none⟩) p ic) (.slice aw nw cw) (.slice ae2 ne2 ce2) (hitG g k (⟨tl, ts, td, ti, tb, tw⟩ : Thr)) (hitE es k (⟨tl, ts, td, ti, tb, tw⟩ : Thr)))) (HALL : Aside (Sl wa 1 eI (.slice va p vcc) (cI (List.range p))))
  (HPF : Aside ((passF r (hitG g k (⟨tl, ts, td, ti, tb, tw⟩ : Thr))).2.1 = R3.round ∧ (passF r (hitG g k (⟨tl, ts, td, ti, tb, tw⟩ : Thr))).2.2 = ((!(hitE es k (⟨tl, ts, td, ti, tb, tw⟩ : Thr)).isEmpty && !r.equal) || ((!(hitE es k (⟨tl, ts, td, ti, tb, tw⟩ : Thr)).isEmpty && decide (R3.done = 0)) || (decide (R3.done = 0) && decide (R3.round = r.rounds))))))
  (HOV : Aside ((passF r (hitG g k (⟨tl, ts, td, ti, tb, tw⟩ : Thr))).2.2 = true → ∀ R4 : RG, R4 = { R3 with over := true, next := -1 } → RfOk r (passG r (hitG g k (⟨tl, ts, td, ti, tb, tw⟩ : Thr))) R4 (hitE es k (⟨tl, ts, td, ti, tb, tw⟩ : Thr)))) (HON : Aside ((passF r (hitG g k (⟨tl, ts, td, ti, tb, tw⟩ : Thr))).2.2 = false → RfOk r (passG r (hitG g k (⟨tl, ts, td, ti, tb, tw⟩ : Thr))) R3 (hitE es k (⟨tl, ts, td, ti, tb, tw⟩ : Thr))))
  (HEQ : Aside (r.equal = true ∧ r.rounds = rds)) (HLT : Aside (∀ e ∈ (hitE es k (⟨tl, ts, td, ti, tb, tw⟩ : Thr)), e < p)) (HGL : Aside ((hitG g k (⟨tl, ts, td, ti, tb, tw⟩ : Thr)).left.length = p)) (HNR : Aside (r.counts.length = p)) (HNE2 : Aside ((hitE es k (⟨tl, ts, td, ti, tb, tw⟩ : Thr)).length = ne2)) (HIT : Aside (RfHit r (hitG g k (⟨tl, ts, td, ti, tb, tw⟩ : Thr)) (hitR (⟨(k : Int), rr, false, rl, rd⟩ : RG) k (⟨tl, ts, td, ti, tb, tw⟩ : Thr)) (hitE es k (⟨tl, ts, td, ti, tb, tw⟩ : Thr)))) (HR : Aside (r.Ok)) (HL1 : Aside (R3.last = (hitR (⟨(k : Int), rr, false, rl, rd⟩ : RG) k (⟨tl, ts, td, ti, tb, tw⟩ : Thr)).last)) (h8 : p ≤ 8) (hk : k < p) (HEM : Aside ((hitE es k (⟨tl, ts, td, ti, tb, tw⟩ : Thr)).isEmpty = false ∧ (hitE es k (⟨tl, ts, td, ti, tb, tw⟩ : Thr)) ≠ [])) (hlt : (0 : Int) < (ne2 : Int)) (hdz : R3.done = 0) (hdb : (R3.done == 0) = true) : c.wp Try.prog (Exit.then K' Q') ⟨#[s0, s1, s2, .pointer (some ⟨w.heap.size, 0, none⟩), .pointer (some ⟨w.heap.size + 1, 0, none⟩), s5, s6, s7, s8, .int .i64 (p : Int), s10, s11, s12, s13, .slice va p vcc, s15, u16, u17, u18, u19, u20, u21, u22, u23, u24, u25, u26, u27, u28, u29, u30, u31, u32, u33, u34, u35, u36, u37, u38, u39, u40, u41, u42, u43, u44, u45, u46, u47, u48, u49, u50, u51, u52, u53, u54, u55, u56, u57, u58, u59, u60, u61, u62, u63, u64, u65, u66, u67, u68, u69, u70, u71, u72, u73, u74, u75, u76, u77, u78, u79, u80, u81, u82, u83, u84, u85, u86, u87, u88, u89, u90, u91, u92, u93, u94, u95, u96, u97, u98, u99, u100, u101, u102, u103, u104, u105, u106, u107, u108, u109, u110, u111, u112, u113, u114, u115, u116, u117, u118, u119, u120, u121, u122, u123, u124, u125, u126, u127, u128, u129, u130, u131, u132, u133, u134, u135, u136, u137, u138, u139, u140, u141, u142, u143, u144, u145, u146, u147, u148, u149, u150, u151, u152, u153, u154, u155, u156, u157, u158, u159, u160, u161, u162, u163, u164, u165, u166, u167, u168, u169, u170, u171, u172, u173, u174, u175, u176, u177, u178, u179, u180, u181, u182, u183, u184, u185, u186, u187, u188, u189, u190, u191, u192, u193, u194, u195, u196, u197, u198, u199, u200, u201, u202, u203, u204, u205, u206, u207, u208, u209, u210, u211, u212, u213, u214, u215, u216, u217, u218, u219, u220, u221, u222, u223, u224, u225, u226, u227, u228, u229, u230], []⟩ wa := by
 (conv at hc => lhs; whnf)
 obtain rfl := Option.some.inj hc
 clear hc
 have u3 : wa.cell? ⟨w.heap.size, 3, none⟩ = some (.bool true) := by rw [← HEQ.out.1]; exact blk_cell HSR.out.rul rfl
 have u2 : wa.cell? ⟨w.heap.size, 2, none⟩ = some (.int .i64 rds) := by rw [← HEQ.out.2]; exact blk_cell HSR.out.rul rfl
 have g0 : wa.cell? ⟨w.heap.size + 1, 0, none⟩ = some (.slice (some ⟨ag, 0, none⟩) p ac_) := blk_cell HSR.out.leg rfl
 have g3 : wa.cell? ⟨w.heap.size + 1, 3, none⟩ = some (.int .i64 R3.next) := blk_cell HSR.out.leg rfl
 have g4 : wa.cell? ⟨w.heap.size + 1, 4, none⟩ = some (.int .i64 R3.round) := blk_cell HSR.out.leg rfl
 have g7 : wa.cell? ⟨w.heap.size + 1, 7, none⟩ = some (.slice ae2 ne2 ce2) := blk_cell HSR.out.leg rfl
 have gf := blk_free HSR.out.leg
 have HBX : Aside (w.heap.size + 1 < wa.heap.size) := by have := HSR.out.siz; show _ < _; omega
 have hX : w.heap.size + 1 < wa.heap.size := HBX.out
 have g16 : wa.cell? ⟨w.heap.size + 1, 16, none⟩ = some (.int .i64 R3.done) := blk_cell HSR.out.leg rfl
 have HP : Aside ((passF r (hitG g k (⟨tl, ts, td, ti, tb, tw⟩ : Thr))).2.2 = true) := by show _ = _; rw [HPF.out.2, HEM.out.1, decide_eq_true hdz]; simp
 clear hdz
 obtain ⟨i0, hi0, hz0, hz1, hz2⟩ := info_parts info_int
 go_wp2_with fail
 obtain ⟨wg, hwg⟩ : ∃ u, u = wa.alloc (.cells #[] 3) := ⟨_, rfl⟩
 have hown0 : wg.ownsRow wa.heap.size 3 1 (.slice (some ⟨wa.heap.size, 0, none⟩) 0 0) 0 [] := by rw [hwg]; exact owns_empty _ _ _
 have HBG : Aside (Below wa.heap.size wa wg) := by rw [hwg]; exact (Below.refl _ _).alloc (Nat.le_refl _) _
 rw [← hwg]
 clear hwg u2 u3
 go_loopg [16, 17] p (fun gg v i wr => ∃ q : Nat, q ≤ p ∧ p - q ≤ gg ∧ i = .int .i64 q ∧ wr.ownsRow wa.heap.size 3 1 v q (((List.range q).map R3.last).map (Value.int .i64)) ∧ Aside (Below wa.heap.size wa wr))
 case atStart => exact ⟨0, Nat.zero_le _, by omega, rfl, hown0, HBG.out⟩
 case round =>
  obtain ⟨q, hq, hgq, rfl, hownq, HBq⟩ := hrel
  clear hown0 HBG g0 g3 g4 g7 g16 gf hX
  have HSQ : Aside (StB w r (.slice (some ⟨b, off, none⟩) p cp) k vb (rgC R3 (.slice (some ⟨ag, 0, none⟩) p ac_) (.slice (some ⟨dg, 0, none⟩) p dc) (.slice (some ⟨ig, 0, none⟩) p ic) (.slice aw nw cw) (.slice ae2 ne2 ce2)) wr) := HSR.out.below HBq.out
  obtain ⟨va0, vc0, rfl⟩ := owns_sl hownq
  have HOW : Aside (wr.ownsRow wa.heap.size 3 1 (.slice va0 q vc0) q (((List.range q).map R3.last).map (Value.int .i64))) := hownq
  clear hownq
  by_cases hltq : q < p
  ·have hltz : (q : Int) < (p : Int) := by omega
   have hq8 : (q : Int) < 8 := by omega
   have kl : wr.cell? ⟨w.heap.size + 1, 8 + q, none⟩ = some (.int .i64 (R3.last q)) := rg_lastc HSQ.out.leg (by omega)
   go_upto_region 34 with (fail)
   refine wp_region_lit ?_
   refine wpList_plain rfl (fun KK hK => ?_)
   unfold Oper.wp
   go_simp
   refine hK _ _ ?_
   clear hK KK
   (try simp only [Act.put, List.setIfInBounds_toArray, List.set_cons_zero, List.set_cons_succ])
   refine wpList_plain rfl (fun KK hK => ?_)
   unfold Oper.wp
   go_simp
   refine hK _ _ ?_
   clear hK KK
   (try simp only [Act.put, List.setIfInBounds_toArray, List.set_cons_zero, List.set_cons_succ])
   refine wpList_plain rfl (fun KK hK => ?_)
   unfold Oper.wp
   go_simp
   refine hK _ _ ?_
   clear hK KK
   (try simp only [Act.put, List.setIfInBounds_toArray, List.set_cons_zero, List.set_cons_succ])
   refine wpList_plain rfl (fun KK hK => ?_)
   unfold Oper.wp
   go_simp
   refine hK _ _ ?_
   clear hK KK
   (try simp only [Act.put, List.setIfInBounds_toArray, List.set_cons_zero, List.set_cons_succ])
   refine wpList_plain rfl (fun KK hK => ?_)
   unfold Oper.wp
   go_simp
   refine hK _ _ ?_
   clear hK KK
   (try simp only [Act.put, List.setIfInBounds_toArray, List.set_cons_zero, List.set_cons_succ])
   refine wpList_plain rfl (fun KK hK => ?_)
   unfold Oper.wp
   go_simp
   refine hK _ _ ?_
   clear hK KK
   (try simp only [Act.put, List.setIfInBounds_toArray, List.set_cons_zero, List.set_cons_succ])
   refine wpList_append_own _ rfl _ _ 48 rfl wa.heap.size 3 i0 (.int .i64 0) 1 8 Try.underlying48 hi0 hz0 hz1 hz2 rfl (by decide) _ _ _ rfl (HOW.out.alloc _) ⟨wr.heap.size, 0, none⟩ 1 1 [.int .i64 (R3.last q)] rfl rfl (cell_one_new _ _ _) (ints_oneCell .i64 [(R3.last q)]) (by unfold maxLen; omega) (by omega) (by have := HBq.out.size; simp; omega) ?_
   intro v' w8 hown8 hgrow8 hnil8
   (try simp only [Act.put, List.setIfInBounds_toArray, List.set_cons_zero, List.set_cons_succ])
   go_wp2_with fail
   go_roundg (p - (q + 1))
   case measure => omega
   case rel =>
    refine ⟨q + 1, by omega, by omega, by go_num, ?_, ?_⟩
    ·rw [List.range_succ, List.map_append, List.map_append]; exact hown8
    ·exact HBq.out.trans ((((Below.refl wa.heap.size wr).alloc HBq.out.size _).grown hgrow8 (by have := HBq.out.size; simp; omega) (fun j hj => (HOW.out.lt j hj).1)))
  ·have hltz : ¬ (q : Int) < (p : Int) := by omega
   have hqe : q = p := by omega
   subst hqe
   have HLS : Aside (Sl wr 1 eI (.slice va0 q vc0) (lastL r R3)) := by
    have := sl_owns (base := wa.heap.size) (w := wr) (e := 3) (enc := eI) (xs := (List.range q).map R3.last) (v := .slice va0 q vc0) (fun _ => rfl) (by simp; omega) (by rw [List.length_map, List.length_range, flat_eI]; exact HOW.out)
    unfold lastL
    rw [HNR.out]; exact this
   have HAQ : Aside (RfAt (w.heap.size + 1) wr (.slice (some ⟨ag, 0, none⟩) q ac_) (.slice (some ⟨dg, 0, none⟩) q dc) (.slice (some ⟨ig, 0, none⟩) q ic) (.slice aw nw cw) (.slice ae2 ne2 ce2) (hitG g k (⟨tl, ts, td, ti, tb, tw⟩ : Thr)) (hitE es k (⟨tl, ts, td, ti, tb, tw⟩ : Thr))) := HAR.out.below HBq.out
   have HLL : Aside ((lastL r R3).length = q) := by show _ = _; unfold lastL; rw [List.length_map, List.length_range]; exact HNR.out
   have xo := rover_any R3 (some ⟨ag, 0, none⟩) (some ⟨dg, 0, none⟩) (some ⟨ig, 0, none⟩) aw ae2 q ac_ q dc q ic nw cw ne2 ce2 (.slice ae2 ne2 ce2) (.slice va0 q vc0) (hitE es k (⟨tl, ts, td, ti, tb, tw⟩ : Thr)) (lastL r R3) wr HAQ.out.se.1 HLS.out HEM.out.2 (fun e he => by rw [HLL.out]; exact HLT.out e he) (by rw [HLL.out]; exact h8)
   have HWB : Aside (winL (hitG g k (⟨tl, ts, td, ti, tb, tw⟩ : Thr)) = cI (overW (hitE es k (⟨tl, ts, td, ti, tb, tw⟩ : Thr)) (lastL r R3))) := by
    have h1 := rf_winB HIT.out HEM.out.2
    unfold lastL at h1 ⊢
    rw [HL1.out]; exact h1
   clear hltz
   have g7 : wr.cell? ⟨w.heap.size + 1, 7, none⟩ = some (.slice ae2 ne2 ce2) := blk_cell HSQ.out.leg rfl
   go_upto_region 35 with (fail)
   refine wp_region_lit ?_
   refine wpList_plain rfl (fun KK hK => ?_)
   refine wp_load17 (by rfl) HSQ.out.leg ?_
   refine hK _ _ ?_
   clear hK KK
   simp only [Act.put, List.setIfInBounds_toArray, List.set_cons_zero, List.set_cons_succ]
   go_wp2_with fail
   refine xo.mono ?_
   rintro e w5 ⟨hB5, v5, rfl, hown5⟩
   have HS5 : Aside (StB w r (.slice (some ⟨b, off, none⟩) q cp) k vb (rgC R3 (.slice (some ⟨ag, 0, none⟩) q ac_) (.slice (some ⟨dg, 0, none⟩) q dc) (.slice (some ⟨ig, 0, none⟩) q ic) (.slice aw nw cw) (.slice ae2 ne2 ce2)) w5) := HSQ.out.below hB5
   obtain ⟨va5, vc5, hv5⟩ := owns_sl hown5
   obtain ⟨nw5, hnw5⟩ : ∃ x, (overW (hitE es k (⟨tl, ts, td, ti, tb, tw⟩ : Thr)) (lastL r R3)).length = x := ⟨_, rfl⟩
   rw [hnw5] at hv5
   subst hv5
   have HFA : Aside (RfAt (w.heap.size + 1) w5 (.slice (some ⟨ag, 0, none⟩) q ac_) (.slice (some ⟨dg, 0, none⟩) q dc) (.slice (some ⟨ig, 0, none⟩) q ic) (.slice va5 nw5 vc5) (.slice ae2 ne2 ce2) (passG r (hitG g k (⟨tl, ts, td, ti, tb, tw⟩ : Thr))) (hitE es k (⟨tl, ts, td, ti, tb, tw⟩ : Thr))) := RfAt.won HAQ.out hB5 HP.out HWB.out hown5 (by have := HSQ.out.siz; omega) (by have := overW_len (hitE es k (⟨tl, ts, td, ti, tb, tw⟩ : Thr)) (lastL r R3); rw [HLL.out] at this; omega)
   have hX5 : w.heap.size + 1 < w5.heap.size := by have := HS5.out.siz; omega
   clear hown5 hB5 hnw5
   (try clear g0)
   (try clear g1)
   (try clear g2)
   (try clear g3)
   (try clear g4)
   (try clear g5)
   (try clear g6)
   (try clear g7)
   (try clear g8)
   (try clear g9)
   (try clear g10)
   (try clear g11)
   (try clear g12)
   (try clear g13)
   (try clear g14)
   (try clear g15)
   (try clear g16)
   (try clear gf)
   (try clear hX)
   dsimp only
   apply_assumption
   refine wpList_plain rfl (fun KK hK => ?_)
   refine wp_store17 (by rfl) (by rfl) HS5.out.leg ?_
   refine hK _ _ ?_
   simp only [Act.put, List.setIfInBounds_toArray, List.set_cons_zero, List.set_cons_succ]
   go_wp2_with fail
   go_meet
   exact ⟨{ R3 with over := true, next := -1 }, _, _, _, _, _, HS5.out.outs (outs17 w5 (w.heap.size + 1) (.slice (some ⟨ag, 0, none⟩) q ac_) (.slice (some ⟨dg, 0, none⟩) q dc) (.slice (some ⟨ig, 0, none⟩) q ic) (.int .i64 (-1)) (.int .i64 R3.round) (.bool true) (.slice va5 nw5 vc5) (.slice ae2 ne2 ce2) (.int .i64 (R3.last 0)) (.int .i64 (R3.last 1)) (.int .i64 (R3.last 2)) (.int .i64 (R3.last 3)) (.int .i64 (R3.last 4)) (.int .i64 (R3.last 5)) (.int .i64 (R3.last 6)) (.int .i64 (R3.last 7)) (.int .i64 R3.done)) (rg17 (.slice (some ⟨ag, 0, none⟩) q ac_) (.slice (some ⟨dg, 0, none⟩) q dc) (.slice (some ⟨ig, 0, none⟩) q ic) (.int .i64 (-1)) (.int .i64 R3.round) (.bool true) (.slice va5 nw5 vc5) (.slice ae2 ne2 ce2) (.int .i64 (R3.last 0)) (.int .i64 (R3.last 1)) (.int .i64 (R3.last 2)) (.int .i64 (R3.last 3)) (.int .i64 (R3.last 4)) (.int .i64 (R3.last 5)) (.int .i64 (R3.last 6)) (.int .i64 (R3.last 7)) (.int .i64 R3.done) HS5.out.leg), HFA.out.outs (outs17 w5 (w.heap.size + 1) (.slice (some ⟨ag, 0, none⟩) q ac_) (.slice (some ⟨dg, 0, none⟩) q dc) (.slice (some ⟨ig, 0, none⟩) q ic) (.int .i64 (-1)) (.int .i64 R3.round) (.bool true) (.slice va5 nw5 vc5) (.slice ae2 ne2 ce2) (.int .i64 (R3.last 0)) (.int .i64 (R3.last 1)) (.int .i64 (R3.last 2)) (.int .i64 (R3.last 3)) (.int .i64 (R3.last 4)) (.int .i64 (R3.last 5)) (.int .i64 (R3.last 6)) (.int .i64 (R3.last 7)) (.int .i64 R3.done)), HOV.out HP.out _ rfl⟩
end
section
open Go.RowKit Go.Maps Go.Sort Go.Shelf Go.Deep
set_option maxRecDepth 100000 in
set_option maxHeartbeats 16000000 in
theorem swC {r : LegR} {g : LegG} {es : List Nat} {R3 : RG} {k p b off cp nw cw ce2 ag ac_ dg dc ig ic vcc : Nat} {w wr : World} {vb : Value} {aw ae2 va : Option Addr} {eq : Bool} {rds rr rd tl ts td : Int} {rl : Nat → Int} {ti tb tw : Bool} {s0 s1 s2 s5 s6 s7 s8 s10 s11 s12 s13 s15 : Value} {u16 u17 u18 u19 u20 u21 u22 u23 u24 u25 u26 u27 u28 u29 u30 u31 u32 u33 u34 u35 u36 u37 u38 u39 u40 u41 u42 u43 u44 u45 u46 u47 u48 u49 u50 u51 u52 u53 u54 u55 u56 u57 u58 u59 u60 u61 u62 u63 u64 u65 u66 u67 u68 u69 u70 u71 u72 u73 u74 u75 u76 u77 u78 u79 u80 u81 u82 u83 u84 u85 u86 u87 u88 u89 u90 u91 u92 u93 u94 u95 u96 u97 u98 u99 u100 u101 u102 u103 u104 u105 u106 u107 u108 u109 u110 u111 u112 u113 u114 u115 u116 u117 u118 u119 u120 u121 u122 u123 u124 u125 u126 u127 u128 u129 u130 u131 u132 u133 u134 u135 u136 u137 u138 u139 u140 u141 u142 u143 u144 u145 u146 u147 u148 u149 u150 u151 u152 u153 u154 u155 u156 u157 u158 u159 u160 u161 u162 u163 u164 u165 u166 u167 u168 u169 u170 u171 u172 u173 u174 u175 u176 u177 u178 u179 u180 u181 u182 u183 u184 u185 u186 u187 u188 u189 u190 u191 u192 u193 u194 u195 u196 u197 u198 u199 u200 u201 u202 u203 u204 u205 u206 u207 u208 u209 u210 u211 u212 u213 u214 u215 u216 u217 u218 u219 u220 u221 u222 u223 u224 u225 u226 u227 u228 u229 u230 : Value} {c : Code} (hc : blkOf 2 Try.f50 = some c) {J' K' : Act → World → Prop} {Q' : Exit → Act → World → Prop}
  (hJ' : ∀ (a' : Act) (w' : World), (∃ u16 u17 u18 u19 u20 u21 u22 u23 u24 u25 u26 u27 u28 u29 u30 u31 u32 u33 u34 u35 u36 u37 u38 u39 u40 u41 u42 u43 u44 u45 u46 u47 u48 u49 u50 u51 u52 u53 u54 u55 u56 u57 u58 u59 u60 u61 u62 u63 u64 u65 u66 u67 u68 u69 u70 u71 u72 u73 u74 u75 u76 u77 u78 u79 u80 u81 u82 u83 u84 u85 u86 u87 u88 u89 u90 u91 u92 u93 u94 u95 u96 u97 u98 u99 u100 u101 u102 u103 u104 u105 u106 u107 u108 u109 u110 u111 u112 u113 u114 u115 u116 u117 u118 u119 u120 u121 u122 u123 u124 u125 u126 u127 u128 u129 u130 u131 u132 u133 u134 u135 u136 u137 u138 u139 u140 u141 u142 u143 u144 u145 u146 u147 u148 u149 u150 u151 u152 u153 u154 u155 u156 u157 u158 u159 u160 u161 u162 u163 u164 u165 u166 u167 u168 u169 u170 u171 u172 u173 u174 u175 u176 u177 u178 u179 u180 u181 u182 u183 u184 u185 u186 u187 u188 u189 u190 u191 u192 u193 u194 u195 u196 u197 u198 u199 u200 u201 u202 u203 u204 u205 u206 u207 u208 u209 u210 u211 u212 u213 u214 u215 u216 u217 u218 u219 u220 u221 u222 u223 u224 u225 u226 u227 u228 u229 u230, (∃ (R4 : RG) (vl4 vd4 vi4 vw4 ve4 : Value), Aside (StB w r (.slice (some ⟨b, off, none⟩) p cp) k vb (rgC R4 vl4 vd4 vi4 vw4 ve4) w' ∧ RfAt (w.heap.size + 1) w' vl4 vd4 vi4 vw4 ve4 (passG r (hitG g k (⟨tl, ts, td, ti, tb, tw⟩ : Thr))) (hitE es k (⟨tl, ts, td, ti, tb, tw⟩ : Thr)) ∧ RfOk r (passG r (hitG g k (⟨tl, ts, td, ti, tb, tw⟩ : Thr))) R4 (hitE es k (⟨tl, ts, td, ti, tb, tw⟩ : Thr)))) ∧ a' = ⟨#[s0, s1, s2, .pointer (some ⟨w.heap.size, 0, none⟩), .pointer (some ⟨w.heap.size + 1, 0, none⟩), s5, s6, s7, s8, .int .i64 (p : Int), s10, s11, s12, s13, .slice va p vcc, s15, u16, u17, u18, u19, u20, u21, u22, u23, u24, u25, u26, u27, u28, u29, u30, u31, u32, u33, u34, u35, u36, u37, u38, u39, u40, u41, u42, u43, u44, u45, u46, u47, u48, u49, u50, u51, u52, u53, u54, u55, u56, u57, u58, u59, u60, u61, u62, u63, u64, u65, u66, u67, u68, u69, u70, u71, u72, u73, u74, u75, u76, u77, u78, u79, u80, u81, u82, u83, u84, u85, u86, u87, u88, u89, u90, u91, u92, u93, u94, u95, u96, u97, u98, u99, u100, u101, u102, u103, u104, u105, u106, u107, u108, u109, u110, u111, u112, u113, u114, u115, u116, u117, u118, u119, u120, u121, u122, u123, u124, u125, u126, u127, u128, u129, u130, u131, u132, u133, u134, u135, u136, u137, u138, u139, u140, u141, u142, u143, u144, u145, u146, u147, u148, u149, u150, u151, u152, u153, u154, u155, u156, u157, u158, u159, u160, u161, u162, u163, u164, u165, u166, u167, u168, u169, u170, u171, u172, u173, u174, u175, u176, u177, u178, u179, u180, u181, u182, u183, u184, u185, u186, u187, u188, u189, u190, u191, u192, u193, u194, u195, u196, u197, u198, u199, u200, u201, u202, u203, u204, u205, u206, u207, u208, u209, u210, u211, u212, u213, u214, u215, u216, u217, u218, u219, u220, u221, u222, u223, u224, u225, u226, u227, u228, u229, u230], []⟩) → J' a' w') (hK' : ∀ (a' : Act) (w' : World), Met J' a' w' → K' a' w')
  (HSR : Aside (StB w r (.slice (some ⟨b, off, none⟩) p cp) k vb (rgC R3 (.slice (some ⟨ag, 0, none⟩) p ac_) (.slice (some ⟨dg, 0, none⟩) p dc) (.slice (some ⟨ig, 0, none⟩) p ic) (.slice aw nw cw) (.slice ae2 0 ce2)) wr)) (HAR : Aside (RfAt (w.heap.size + 1) wr (.slice (some ⟨ag, 0, none⟩) p ac_) (.slice (some ⟨dg, 0, none⟩) p dc) (.slice (some ⟨ig, 0, none⟩) p ic) (.slice aw nw cw) (.slice ae2 0 ce2) (hitG g k (⟨tl, ts, td, ti, tb, tw⟩ : Thr)) (hitE es k (⟨tl, ts, td, ti, tb, tw⟩ : Thr)))) (HALL : Aside (Sl wr 1 eI (.slice va p vcc) (cI (List.range p))))
  (HPF : Aside ((passF r (hitG g k (⟨tl, ts, td, ti, tb, tw⟩ : Thr))).2.1 = R3.round ∧ (passF r (hitG g k (⟨tl, ts, td, ti, tb, tw⟩ : Thr))).2.2 = ((!(hitE es k (⟨tl, ts, td, ti, tb, tw⟩ : Thr)).isEmpty && !r.equal) || ((!(hitE es k (⟨tl, ts, td, ti, tb, tw⟩ : Thr)).isEmpty && decide (R3.done = 0)) || (decide (R3.done = 0) && decide (R3.round = r.rounds))))))
  (HOV : Aside ((passF r (hitG g k (⟨tl, ts, td, ti, tb, tw⟩ : Thr))).2.2 = true → ∀ R4 : RG, R4 = { R3 with over := true, next := -1 } → RfOk r (passG r (hitG g k (⟨tl, ts, td, ti, tb, tw⟩ : Thr))) R4 (hitE es k (⟨tl, ts, td, ti, tb, tw⟩ : Thr)))) (HON : Aside ((passF r (hitG g k (⟨tl, ts, td, ti, tb, tw⟩ : Thr))).2.2 = false → RfOk r (passG r (hitG g k (⟨tl, ts, td, ti, tb, tw⟩ : Thr))) R3 (hitE es k (⟨tl, ts, td, ti, tb, tw⟩ : Thr))))
  (HEQ : Aside (r.equal = eq ∧ r.rounds = rds)) (HLT : Aside (∀ e ∈ (hitE es k (⟨tl, ts, td, ti, tb, tw⟩ : Thr)), e < p)) (HGL : Aside ((hitG g k (⟨tl, ts, td, ti, tb, tw⟩ : Thr)).left.length = p)) (HNR : Aside (r.counts.length = p)) (HNE2 : Aside ((hitE es k (⟨tl, ts, td, ti, tb, tw⟩ : Thr)).length = 0)) (HIT : Aside (RfHit r (hitG g k (⟨tl, ts, td, ti, tb, tw⟩ : Thr)) (hitR (⟨(k : Int), rr, false, rl, rd⟩ : RG) k (⟨tl, ts, td, ti, tb, tw⟩ : Thr)) (hitE es k (⟨tl, ts, td, ti, tb, tw⟩ : Thr)))) (HR : Aside (r.Ok)) (HL1 : Aside (R3.last = (hitR (⟨(k : Int), rr, false, rl, rd⟩ : RG) k (⟨tl, ts, td, ti, tb, tw⟩ : Thr)).last)) (h8 : p ≤ 8) (hk : k < p) (HEM : Aside ((hitE es k (⟨tl, ts, td, ti, tb, tw⟩ : Thr)).isEmpty = true ∧ (hitE es k (⟨tl, ts, td, ti, tb, tw⟩ : Thr)) = [])) (hdz : R3.done = 0) (hdb : (R3.done == 0) = true) (hrz : R3.round = rds) (hrb : (R3.round == rds) = true) : c.wp Try.prog (Exit.then K' Q') ⟨#[s0, s1, s2, .pointer (some ⟨w.heap.size, 0, none⟩), .pointer (some ⟨w.heap.size + 1, 0, none⟩), s5, s6, s7, s8, .int .i64 (p : Int), s10, s11, s12, s13, .slice va p vcc, s15, u16, u17, u18, u19, u20, u21, u22, u23, u24, u25, u26, u27, u28, u29, u30, u31, u32, u33, u34, u35, u36, u37, u38, u39, u40, u41, u42, u43, u44, u45, u46, u47, u48, u49, u50, u51, u52, u53, u54, u55, u56, u57, u58, u59, u60, u61, u62, u63, u64, u65, u66, u67, u68, u69, u70, u71, u72, u73, u74, u75, u76, u77, u78, u79, u80, u81, u82, u83, u84, u85, u86, u87, u88, u89, u90, u91, u92, u93, u94, u95, u96, u97, u98, u99, u100, u101, u102, u103, u104, u105, u106, u107, u108, u109, u110, u111, u112, u113, u114, u115, u116, u117, u118, u119, u120, u121, u122, u123, u124, u125, u126, u127, u128, u129, u130, u131, u132, u133, u134, u135, u136, u137, u138, u139, u140, u141, u142, u143, u144, u145, u146, u147, u148, u149, u150, u151, u152, u153, u154, u155, u156, u157, u158, u159, u160, u161, u162, u163, u164, u165, u166, u167, u168, u169, u170, u171, u172, u173, u174, u175, u176, u177, u178, u179, u180, u181, u182, u183, u184, u185, u186, u187, u188, u189, u190, u191, u192, u193, u194, u195, u196, u197, u198, u199, u200, u201, u202, u203, u204, u205, u206, u207, u208, u209, u210, u211, u212, u213, u214, u215, u216, u217, u218, u219, u220, u221, u222, u223, u224, u225, u226, u227, u228, u229, u230], []⟩ wr := by
 (conv at hc => lhs; whnf)
 obtain rfl := Option.some.inj hc
 clear hc
 have u3 : wr.cell? ⟨w.heap.size, 3, none⟩ = some (.bool eq) := by rw [← HEQ.out.1]; exact blk_cell HSR.out.rul rfl
 have u2 : wr.cell? ⟨w.heap.size, 2, none⟩ = some (.int .i64 rds) := by rw [← HEQ.out.2]; exact blk_cell HSR.out.rul rfl
 have g0 : wr.cell? ⟨w.heap.size + 1, 0, none⟩ = some (.slice (some ⟨ag, 0, none⟩) p ac_) := blk_cell HSR.out.leg rfl
 have g3 : wr.cell? ⟨w.heap.size + 1, 3, none⟩ = some (.int .i64 R3.next) := blk_cell HSR.out.leg rfl
 have g4 : wr.cell? ⟨w.heap.size + 1, 4, none⟩ = some (.int .i64 R3.round) := blk_cell HSR.out.leg rfl
 have g7 : wr.cell? ⟨w.heap.size + 1, 7, none⟩ = some (.slice ae2 0 ce2) := blk_cell HSR.out.leg rfl
 have gf := blk_free HSR.out.leg
 have HBX : Aside (w.heap.size + 1 < wr.heap.size) := by have := HSR.out.siz; show _ < _; omega
 have hX : w.heap.size + 1 < wr.heap.size := HBX.out
 have g16 : wr.cell? ⟨w.heap.size + 1, 16, none⟩ = some (.int .i64 R3.done) := blk_cell HSR.out.leg rfl
 have hlt : ¬ (0 : Int) < ((0 : Nat) : Int) := by omega
 have HP : Aside ((passF r (hitG g k (⟨tl, ts, td, ti, tb, tw⟩ : Thr))).2.2 = true) := by show _ = _; rw [HPF.out.2, HEM.out.1, HEQ.out.2, decide_eq_true hdz, decide_eq_true hrz]; rfl
 clear hdz hrz
 have HSQ : Aside (StB w r (.slice (some ⟨b, off, none⟩) p cp) k vb (rgC R3 (.slice (some ⟨ag, 0, none⟩) p ac_) (.slice (some ⟨dg, 0, none⟩) p dc) (.slice (some ⟨ig, 0, none⟩) p ic) (.slice aw nw cw) (.slice ae2 0 ce2)) wr) := HSR.out
 have HAQ : Aside (RfAt (w.heap.size + 1) wr (.slice (some ⟨ag, 0, none⟩) p ac_) (.slice (some ⟨dg, 0, none⟩) p dc) (.slice (some ⟨ig, 0, none⟩) p ic) (.slice aw nw cw) (.slice ae2 0 ce2) (hitG g k (⟨tl, ts, td, ti, tb, tw⟩ : Thr)) (hitE es k (⟨tl, ts, td, ti, tb, tw⟩ : Thr))) := HAR.out
 have xo := rover_any R3 (some ⟨ag, 0, none⟩) (some ⟨dg, 0, none⟩) (some ⟨ig, 0, none⟩) aw ae2 p ac_ p dc p ic nw cw 0 ce2 (.slice va p vcc) (.slice (some ⟨ag, 0, none⟩) p ac_) (List.range p) (hitG g k (⟨tl, ts, td, ti, tb, tw⟩ : Thr)).left wr HALL.out HAQ.out.sl.1 (fun e => by have := congrArg List.length e; simp at this; omega) (fun e he => by rw [HGL.out]; exact List.mem_range.1 he) (by rw [HGL.out]; exact h8)
 have HWC : Aside (winL (hitG g k (⟨tl, ts, td, ti, tb, tw⟩ : Thr)) = cI (overW (List.range p) (hitG g k (⟨tl, ts, td, ti, tb, tw⟩ : Thr)).left)) := by have h1 := rf_winC HR.out HIT.out HEM.out.2; rw [HNR.out] at h1; exact h1
 cases eq with
 | false =>
  go_upto_region 37 with (fail)
  refine wp_region_lit ?_
  refine wpList_plain rfl (fun KK hK => ?_)
  refine wp_load17 (by rfl) HSR.out.leg ?_
  refine hK _ _ ?_
  clear hK KK
  simp only [Act.put, List.setIfInBounds_toArray, List.set_cons_zero, List.set_cons_succ]
  go_wp2_with fail
  refine xo.mono ?_
  rintro e w5 ⟨hB5, v5, rfl, hown5⟩
  have HS5 : Aside (StB w r (.slice (some ⟨b, off, none⟩) p cp) k vb (rgC R3 (.slice (some ⟨ag, 0, none⟩) p ac_) (.slice (some ⟨dg, 0, none⟩) p dc) (.slice (some ⟨ig, 0, none⟩) p ic) (.slice aw nw cw) (.slice ae2 0 ce2)) w5) := HSQ.out.below hB5
  obtain ⟨va5, vc5, hv5⟩ := owns_sl hown5
  obtain ⟨nw5, hnw5⟩ : ∃ x, (overW (List.range p) (hitG g k (⟨tl, ts, td, ti, tb, tw⟩ : Thr)).left).length = x := ⟨_, rfl⟩
  rw [hnw5] at hv5
  subst hv5
  have HFA : Aside (RfAt (w.heap.size + 1) w5 (.slice (some ⟨ag, 0, none⟩) p ac_) (.slice (some ⟨dg, 0, none⟩) p dc) (.slice (some ⟨ig, 0, none⟩) p ic) (.slice va5 nw5 vc5) (.slice ae2 0 ce2) (passG r (hitG g k (⟨tl, ts, td, ti, tb, tw⟩ : Thr))) (hitE es k (⟨tl, ts, td, ti, tb, tw⟩ : Thr))) := RfAt.won HAQ.out hB5 HP.out HWC.out hown5 (by have := HSQ.out.siz; omega) (by have := overW_len (List.range p) (hitG g k (⟨tl, ts, td, ti, tb, tw⟩ : Thr)).left; rw [HGL.out] at this; omega)
  have hX5 : w.heap.size + 1 < w5.heap.size := by have := HS5.out.siz; omega
  clear hown5 hB5 hnw5
  (try clear g0)
  (try clear g1)
  (try clear g2)
  (try clear g3)
  (try clear g4)
  (try clear g5)
  (try clear g6)
  (try clear g7)
  (try clear g8)
  (try clear g9)
  (try clear g10)
  (try clear g11)
  (try clear g12)
  (try clear g13)
  (try clear g14)
  (try clear g15)
  (try clear g16)
  (try clear gf)
  (try clear hX)
  dsimp only
  apply_assumption
  refine wpList_plain rfl (fun KK hK => ?_)
  refine wp_store17 (by rfl) (by rfl) HS5.out.leg ?_
  refine hK _ _ ?_
  simp only [Act.put, List.setIfInBounds_toArray, List.set_cons_zero, List.set_cons_succ]
  go_wp2_with fail
  go_meet
  exact ⟨{ R3 with over := true, next := -1 }, _, _, _, _, _, HS5.out.outs (outs17 w5 (w.heap.size + 1) (.slice (some ⟨ag, 0, none⟩) p ac_) (.slice (some ⟨dg, 0, none⟩) p dc) (.slice (some ⟨ig, 0, none⟩) p ic) (.int .i64 (-1)) (.int .i64 R3.round) (.bool true) (.slice va5 nw5 vc5) (.slice ae2 0 ce2) (.int .i64 (R3.last 0)) (.int .i64 (R3.last 1)) (.int .i64 (R3.last 2)) (.int .i64 (R3.last 3)) (.int .i64 (R3.last 4)) (.int .i64 (R3.last 5)) (.int .i64 (R3.last 6)) (.int .i64 (R3.last 7)) (.int .i64 R3.done)) (rg17 (.slice (some ⟨ag, 0, none⟩) p ac_) (.slice (some ⟨dg, 0, none⟩) p dc) (.slice (some ⟨ig, 0, none⟩) p ic) (.int .i64 (-1)) (.int .i64 R3.round) (.bool true) (.slice va5 nw5 vc5) (.slice ae2 0 ce2) (.int .i64 (R3.last 0)) (.int .i64 (R3.last 1)) (.int .i64 (R3.last 2)) (.int .i64 (R3.last 3)) (.int .i64 (R3.last 4)) (.int .i64 (R3.last 5)) (.int .i64 (R3.last 6)) (.int .i64 (R3.last 7)) (.int .i64 R3.done) HS5.out.leg), HFA.out.outs (outs17 w5 (w.heap.size + 1) (.slice (some ⟨ag, 0, none⟩) p ac_) (.slice (some ⟨dg, 0, none⟩) p dc) (.slice (some ⟨ig, 0, none⟩) p ic) (.int .i64 (-1)) (.int .i64 R3.round) (.bool true) (.slice va5 nw5 vc5) (.slice ae2 0 ce2) (.int .i64 (R3.last 0)) (.int .i64 (R3.last 1)) (.int .i64 (R3.last 2)) (.int .i64 (R3.last 3)) (.int .i64 (R3.last 4)) (.int .i64 (R3.last 5)) (.int .i64 (R3.last 6)) (.int .i64 (R3.last 7)) (.int .i64 R3.done)), HOV.out HP.out _ rfl⟩
 | true =>
  go_upto_region 37 with (fail)
  refine wp_region_lit ?_
  refine wpList_plain rfl (fun KK hK => ?_)
  refine wp_load17 (by rfl) HSR.out.leg ?_
  refine hK _ _ ?_
  clear hK KK
  simp only [Act.put, List.setIfInBounds_toArray, List.set_cons_zero, List.set_cons_succ]
  go_wp2_with fail
  refine xo.mono ?_
  rintro e w5 ⟨hB5, v5, rfl, hown5⟩
  have HS5 : Aside (StB w r (.slice (some ⟨b, off, none⟩) p cp) k vb (rgC R3 (.slice (some ⟨ag, 0, none⟩) p ac_) (.slice (some ⟨dg, 0, none⟩) p dc) (.slice (some ⟨ig, 0, none⟩) p ic) (.slice aw nw cw) (.slice ae2 0 ce2)) w5) := HSQ.out.below hB5
  obtain ⟨va5, vc5, hv5⟩ := owns_sl hown5
  obtain ⟨nw5, hnw5⟩ : ∃ x, (overW (List.range p) (hitG g k (⟨tl, ts, td, ti, tb, tw⟩ : Thr)).left).length = x := ⟨_, rfl⟩
  rw [hnw5] at hv5
  subst hv5
  have HFA : Aside (RfAt (w.heap.size + 1) w5 (.slice (some ⟨ag, 0, none⟩) p ac_) (.slice (some ⟨dg, 0, none⟩) p dc) (.slice (some ⟨ig, 0, none⟩) p ic) (.slice va5 nw5 vc5) (.slice ae2 0 ce2) (passG r (hitG g k (⟨tl, ts, td, ti, tb, tw⟩ : Thr))) (hitE es k (⟨tl, ts, td, ti, tb, tw⟩ : Thr))) := RfAt.won HAQ.out hB5 HP.out HWC.out hown5 (by have := HSQ.out.siz; omega) (by have := overW_len (List.range p) (hitG g k (⟨tl, ts, td, ti, tb, tw⟩ : Thr)).left; rw [HGL.out] at this; omega)
  have hX5 : w.heap.size + 1 < w5.heap.size := by have := HS5.out.siz; omega
  clear hown5 hB5 hnw5
  (try clear g0)
  (try clear g1)
  (try clear g2)
  (try clear g3)
  (try clear g4)
  (try clear g5)
  (try clear g6)
  (try clear g7)
  (try clear g8)
  (try clear g9)
  (try clear g10)
  (try clear g11)
  (try clear g12)
  (try clear g13)
  (try clear g14)
  (try clear g15)
  (try clear g16)
  (try clear gf)
  (try clear hX)
  dsimp only
  apply_assumption
  refine wpList_plain rfl (fun KK hK => ?_)
  refine wp_store17 (by rfl) (by rfl) HS5.out.leg ?_
  refine hK _ _ ?_
  simp only [Act.put, List.setIfInBounds_toArray, List.set_cons_zero, List.set_cons_succ]
  go_wp2_with fail
  go_meet
  exact ⟨{ R3 with over := true, next := -1 }, _, _, _, _, _, HS5.out.outs (outs17 w5 (w.heap.size + 1) (.slice (some ⟨ag, 0, none⟩) p ac_) (.slice (some ⟨dg, 0, none⟩) p dc) (.slice (some ⟨ig, 0, none⟩) p ic) (.int .i64 (-1)) (.int .i64 R3.round) (.bool true) (.slice va5 nw5 vc5) (.slice ae2 0 ce2) (.int .i64 (R3.last 0)) (.int .i64 (R3.last 1)) (.int .i64 (R3.last 2)) (.int .i64 (R3.last 3)) (.int .i64 (R3.last 4)) (.int .i64 (R3.last 5)) (.int .i64 (R3.last 6)) (.int .i64 (R3.last 7)) (.int .i64 R3.done)) (rg17 (.slice (some ⟨ag, 0, none⟩) p ac_) (.slice (some ⟨dg, 0, none⟩) p dc) (.slice (some ⟨ig, 0, none⟩) p ic) (.int .i64 (-1)) (.int .i64 R3.round) (.bool true) (.slice va5 nw5 vc5) (.slice ae2 0 ce2) (.int .i64 (R3.last 0)) (.int .i64 (R3.last 1)) (.int .i64 (R3.last 2)) (.int .i64 (R3.last 3)) (.int .i64 (R3.last 4)) (.int .i64 (R3.last 5)) (.int .i64 (R3.last 6)) (.int .i64 (R3.last 7)) (.int .i64 R3.done) HS5.out.leg), HFA.out.outs (outs17 w5 (w.heap.size + 1) (.slice (some ⟨ag, 0, none⟩) p ac_) (.slice (some ⟨dg, 0, none⟩) p dc) (.slice (some ⟨ig, 0, none⟩) p ic) (.int .i64 (-1)) (.int .i64 R3.round) (.bool true) (.slice va5 nw5 vc5) (.slice ae2 0 ce2) (.int .i64 (R3.last 0)) (.int .i64 (R3.last 1)) (.int .i64 (R3.last 2)) (.int .i64 (R3.last 3)) (.int .i64 (R3.last 4)) (.int .i64 (R3.last 5)) (.int .i64 (R3.last 6)) (.int .i64 (R3.last 7)) (.int .i64 R3.done)), HOV.out HP.out _ rfl⟩
end
end Go.Proofs.Ytgmlcgifagbjmaa
