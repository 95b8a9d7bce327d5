/- Leg: parts Ik. -/
import Derived.Deep.DeepCutAuto
import Derived.Deep.CutBlock
import Derived.Test.YtnhjoebdmmelaaaMau
import Derived.Test.YtnhjoebdmmelaaaMav
set_option linter.unusedVariables false
set_option linter.unusedSimpArgs false
namespace Go.Proofs.Ytnhjoebdmmelaaa
section
open Go.RowKit Go.Maps Go.Sort Go.Shelf Go.Deep
theorem cell_blk {w w' : World} {g i : Nat} (h : w'.heap[g]? = w.heap[g]?) : w'.cell? ⟨g, i, none⟩ = w.cell? ⟨g, i, none⟩ := by simp only [World.cell?, h]
theorem cell_lt {w : World} {g i : Nat} {x : Value} (h : w.cell? ⟨g, i, none⟩ = some x) : g < w.heap.size := by
 by_cases hh : g < w.heap.size
 ·exact hh
 ·have : w.heap[g]? = none := Array.getElem?_eq_none (by omega)
  simp [World.cell?, this] at h
set_option maxRecDepth 100000 in
set_option maxHeartbeats 16000000 in
theorem tal_b4 {h : Hnd} {c : Cnt} {w wb : World} {vs vbd s0 s2 s3 s5 s7 u15 x16 x17 x18 x19 x20 x21 x22 x23 x24 x25 x26 x27 x28 x29 x30 x31 x32 x33 x34 x35 x36 x37 x38 x39 x40 x41 x42 x43 x44 x45 x46 x47 x48 x49 x50 x51 x52 x53 x54 u55 u56 u57 u58 u59 u60 u61 u62 u63 u64 u65 u66 u67 u68 u69 u70 u71 u72 u73 u74 u75 u76 u77 u78 u79 u80 u81 u82 u83 u84 u85 u86 u87 u88 u89 u90 u91 u92 u93 u94 u95 u96 u97 u98 u99 u100 u101 u102 u103 u104 u105 u106 u107 u108 u109 u110 u111 u112 u113 u114 u115 u116 u117 u118 u119 u120 u121 u122 u123 u124 u125 u126 u127 u128 u129 u130 u131 u132 u133 u134 u135 u136 u137 u138 u139 u140 u141 u142 u143 u144 u145 u146 u147 u148 u149 u150 u151 u152 u153 u154 u155 u156 u157 u158 u159 u160 u161 u162 u163 u164 u165 u166 u167 u168 u169 u170 u171 u172 u173 u174 u175 u176 u177 u178 u179 u180 u181 u182 u183 u184 u185 u186 u187 u188 u189 u190 u191 u192 u193 u194 u195 u196 u197 u198 u199 u200 u201 u202 u203 u204 u205 u206 u207 u208 u209 u210 u211 u212 u213 u214 u215 u216 u217 u218 u219 u220 u221 u222 u223 u224 u225 u226 u227 u228 u229 u230 u231 u232 u233 u234 u235 u236 u237 : Value} {B0 L4 g10 g13 Z a0 v p nc lg lc ig ic : Nat} {l0 rn : Int} {in0 ov : Bool} {vv : Nat → Value} {nn : Nat → Nat} {xx : Nat → List Value} {cd : Code} (hc : blkOf 4 Try.f34 = some cd) {J' K' : Act → World → Prop} {Q' : Exit → Act → World → Prop}
  (hJ' : ∀ (a' : Act) (w' : World), (∃ u6 u11 u12 u14 u15 u55 u56 u57 u58 u59 u60 u61 u62 u63 u64 u65 u66 u67 u68 u69 u70 u71 u72 u73 u74 u75 u76 u77 u78 u79 u80 u81 u82 u83 u84 u85 u86 u87 u88 u89 u90 u91 u92 u93 u94 u95 u96 u97 u98 u99 u100 u101 u102 u103 u104 u105 u106 u107 u108 u109 u110 u111 u112 u113 u114 u115 u116 u117 u118 u119 u120 u121 u122 u123 u124 u125 u126 u127 u128 u129 u130 u131 u132 u133 u134 u135 u136 u137 u138 u139 u140 u141 u142 u143 u144 u145 u146 u147 u148 u149 u150 u151 u152 u153 u154 u155 u156 u157 u158 u159 u160 u161 u162 u163 u164 u165 u166 u167 u168 u169 u170 u171 u172 u173 u174 u175 u176 u177 u178 u179 u180 u181 u182 u183 u184 u185 u186 u187 u188 u189 u190 u191 u192 u193 u194 u195 u196 u197 u198 u199 u200 u201 u202 u203 u204 u205 u206 u207 u208 u209 u210 u211 u212 u213 u214 u215 u216 u217 u218 u219 u220 u221 u222 u223 u224 u225 u226 u227 u228 u229 u230 u231 u232 u233 u234 u235 u236, (∃ (beds : List Int) (a : Nat) (T : Thr), u6 = .int .i64 (a : Int) ∧ u11 = .int .i64 (T.fin l0 in0).left ∧ u12 = .bool (T.fin l0 in0).inn ∧ Aside (B4Ok h.beds c v ⟨l0, 0, 0, in0, false, false⟩ a0 w wb Z L4 g13 p vv nn xx rn ov beds a T w')) ∧ a' = ⟨#[s0, .pointer (some ⟨B0, 0, none⟩), s2, s3, .pointer (some ⟨L4, 0, none⟩), s5, u6, s7, .int .i64 (v : Int), .int .i64 (p : Int), .pointer (some ⟨g10, 0, none⟩), u11, u12, .pointer (some ⟨g13, 0, none⟩), u14, u15, x16, x17, x18, x19, x20, x21, x22, x23, x24, x25, x26, x27, x28, x29, x30, x31, x32, x33, x34, x35, x36, x37, x38, x39, x40, x41, x42, x43, x44, x45, x46, x47, x48, x49, x50, x51, x52, x53, x54, u55, u56, u57, u58, u59, u60, u61, u62, u63, u64, u65, u66, u67, u68, u69, u70, u71, u72, u73, u74, u75, u76, u77, u78, u79, u80, u81, u82, u83, u84, u85, u86, u87, u88, u89, u90, u91, u92, u93, u94, u95, u96, u97, u98, u99, u100, u101, u102, u103, u104, u105, u106, u107, u108, u109, u110, u111, u112, u113, u114, u115, u116, u117, u118, u119, u120, u121, u122, u123, u124, u125, u126, u127, u128, u129, u130, u131, u132, u133, u134, u135, u136, u137, u138, u139, u140, u141, u142, u143, u144, u145, u146, u147, u148, u149, u150, u151, u152, u153, u154, u155, u156, u157, u158, u159, u160, u161, u162, u163, u164, u165, u166, u167, u168, u169, u170, u171, u172, u173, u174, u175, u176, u177, u178, u179, u180, u181, u182, u183, u184, u185, u186, u187, u188, u189, u190, u191, u192, u193, u194, u195, u196, u197, u198, u199, u200, u201, u202, u203, u204, u205, u206, u207, u208, u209, u210, u211, u212, u213, u214, u215, u216, u217, u218, u219, u220, u221, u222, u223, u224, u225, u226, u227, u228, u229, u230, u231, u232, u233, u234, u235, u236, u237], []⟩) → J' a' w') (hK' : ∀ (a' : Act) (w' : World), Met J' a' w' → K' a' w')
  (HBX : Aside (wb.heap[B0]? = some (.cells #[vs, .int .u8 h.gates, .bool h.equal, .int .u8 h.rounds, .int .u8 h.first, vbd] 78 (0, 0)) ∧ B0 < wb.heap.size ∧ B0 ≠ g13)) (HBD : Aside (∀ W, Below w.heap.size w W → ∀ k, k ≤ 1000000 → Calls Try.prog 63 #[.agg #[vs, .int .u8 h.gates, .bool h.equal, .int .u8 h.rounds, .int .u8 h.first, vbd], .int .i64 ((k : Nat) : Int)] W (Ret (.int .i64 (hbedF h.beds k)) W))) (HVB : Aside (∀ x ∈ h.beds, 0 ≤ x ∧ x ≤ 255))
  (H10 : Aside (wb.heap[g10]? = some (.cells #[.int .i64 c.1, .int .i64 c.2.1, .int .i64 c.2.2] 24 (0, 0)) ∧ g10 ≠ g13)) (HGT : Aside (inb 0 2 c.2.1 = true ∧ inb 0 2 c.2.2 = true)) (HM0 : Aside (Mid c 0 ⟨l0, 0, 0, in0, false, false⟩))
  (HRS : Aside (Rws Z 6 (tlD vv nn xx) wb)) (HL4 : Aside (wb.heap[L4]? = some (.cells (tlC vv rn ov) 81 (0, 0)) ∧ L4 < Z ∧ w.heap.size ≤ L4 ∧ Z ≤ wb.heap.size ∧ L4 ≠ g13)) (H13 : Aside (wb.heap[g13]? = some (.cells #[.int .i64 (p : Int), .slice none 0 0] 84 (0, 0)) ∧ g13 < wb.heap.size ∧ w.heap.size ≤ g13)) (HNR : Aside (∀ i, i < 6 → (vv i).ownBlock ≠ some g13)) (HBW : Aside (Below w.heap.size w wb))
  (HNN : Aside ((∀ i, nn i ≤ 1000) ∧ nn 0 = nc ∧ nn 2 = nc)) (HVV : Aside (vv 0 = .slice (some ⟨lg, 0, none⟩) nc lc ∧ vv 2 = .slice (some ⟨ig, 0, none⟩) nc ic)) (HQL : Aside (wb.cell? ⟨lg, p, none⟩ = some (.int .i64 l0) ∧ wb.cell? ⟨ig, p, none⟩ = some (.bool in0))) (hltp : p < nc) (ha0 : a0 ≤ 1000) (hv60 : v < 60) :
  cd.wp Try.prog (Exit.then K' Q') ⟨#[s0, .pointer (some ⟨B0, 0, none⟩), s2, s3, .pointer (some ⟨L4, 0, none⟩), s5, .int .i64 (a0 : Int), s7, .int .i64 (v : Int), .int .i64 (p : Int), .pointer (some ⟨g10, 0, none⟩), .int .i64 l0, .bool in0, .pointer (some ⟨g13, 0, none⟩), .int .i64 0, u15, x16, x17, x18, x19, x20, x21, x22, x23, x24, x25, x26, x27, x28, x29, x30, x31, x32, x33, x34, x35, x36, x37, x38, x39, x40, x41, x42, x43, x44, x45, x46, x47, x48, x49, x50, x51, x52, x53, x54, u55, u56, u57, u58, u59, u60, u61, u62, u63, u64, u65, u66, u67, u68, u69, u70, u71, u72, u73, u74, u75, u76, u77, u78, u79, u80, u81, u82, u83, u84, u85, u86, u87, u88, u89, u90, u91, u92, u93, u94, u95, u96, u97, u98, u99, u100, u101, u102, u103, u104, u105, u106, u107, u108, u109, u110, u111, u112, u113, u114, u115, u116, u117, u118, u119, u120, u121, u122, u123, u124, u125, u126, u127, u128, u129, u130, u131, u132, u133, u134, u135, u136, u137, u138, u139, u140, u141, u142, u143, u144, u145, u146, u147, u148, u149, u150, u151, u152, u153, u154, u155, u156, u157, u158, u159, u160, u161, u162, u163, u164, u165, u166, u167, u168, u169, u170, u171, u172, u173, u174, u175, u176, u177, u178, u179, u180, u181, u182, u183, u184, u185, u186, u187, u188, u189, u190, u191, u192, u193, u194, u195, u196, u197, u198, u199, u200, u201, u202, u203, u204, u205, u206, u207, u208, u209, u210, u211, u212, u213, u214, u215, u216, u217, u218, u219, u220, u221, u222, u223, u224, u225, u226, u227, u228, u229, u230, u231, u232, u233, u234, u235, u236, u237], []⟩ wb := by
 (conv at hc => lhs; whnf)
 obtain rfl := Option.some.inj hc
 clear hc
 obtain ⟨i0, hi0, hz0, hz1, hz2⟩ := info_parts info_bedD
 have HA0 : Aside (a0 ≤ 1000 ∧ v < 60 ∧ p < nc) := ⟨ha0, hv60, hltp⟩
 have tv : Int.tmod (v : Int) 2 = ((v % 2 : Nat) : Int) := by rw [Int.tmod_eq_emod_of_nonneg (by omega)]; omega
 obtain ⟨v2, hv2⟩ : ∃ v2, v % 2 = v2 := ⟨_, rfl⟩
 have HV2 : Aside (v % 2 = v2 ∧ v2 ≤ 1) := ⟨hv2, by omega⟩
 rw [hv2] at tv
 clear hv2 ha0 hv60
 dsimp only
 go_wp2_with fail
 go_loopg [6, 11, 12, 14] 3 (fun gg s6 s11 s12 s14 wr => ∃ (k : Nat) (t : Thr) (a : Nat) (beds : List Int) (vb : Value), k ≤ 3 ∧ 3 - k ≤ gg ∧ s6 = .int .i64 (a : Int) ∧ s11 = .int .i64 t.left ∧ s12 = .bool t.inn ∧ s14 = .int .i64 (k : Int) ∧ Aside (Mid c k t ∧ TvAt h.beds c v ⟨l0, 0, 0, in0, false, false⟩ a0 k beds t a ∧ beds.length = k ∧ a ≤ a0 + 2 * k) ∧ Aside (K3 w wb g13 p k beds vb wr))
 case atStart => exact ⟨0, ⟨l0, 0, 0, in0, false, false⟩, a0, [], .slice none 0 0, by omega, by omega, rfl, rfl, rfl, rfl, ⟨HM0.out, TvAt.start, rfl, by omega⟩, ⟨HBW.out, Nat.le_refl _, fun _ _ _ => rfl, H13.out.1, World.ownsRow_nil _ _ _ _⟩⟩
 case round =>
  obtain ⟨k, t, a, beds, vb, hk3, hgk, rfl, rfl, rfl, rfl, HMT, HK⟩ := hrel
  by_cases hlt : k < 3
  ·have hltz : (k : Int) < 3 := by omega
   have bx := (HK.out.oth B0 HBX.out.2.1 HBX.out.2.2).trans HBX.out.1
   have b0 := blk_cell bx (i := 0) rfl
   have b1 := blk_cell bx (i := 1) rfl
   have b2 := blk_cell bx (i := 2) rfl
   have b3 := blk_cell bx (i := 3) rfl
   have b4 := blk_cell bx (i := 4) rfl
   have b5 := blk_cell bx (i := 5) rfl
   clear bx
   go_wp2_with fail
   refine (HBD.out _ HK.out.bel a (by have := HMT.out.2.2.2; have := HA0.out.1; omega)).mono ?_
   rintro e w1 ⟨rfl, hb1⟩
   have HK1 : Aside (K3 w wb g13 p k beds vb w1) := HK.out.below H13.out.2.1 hb1
   clear hb1 HK b0 b1 b2 b3 b4 b5
   obtain ⟨b, hb⟩ : ∃ b, hbedF h.beds a = b := ⟨_, rfl⟩
   have HBB : Aside (hbedF h.beds a = b ∧ vbed b = true) := ⟨hb, by rw [← hb]; exact hbed_ok HVB.out a⟩
   rw [hb]
   clear hb
   dsimp only
   obtain ⟨va, vc, rfl⟩ := owns_sl HK1.out.own
   have k1 := blk_cell HK1.out.vis (i := 1) rfl
   have kf := blk_free HK1.out.vis
   have klt : g13 < w1.heap.size := Nat.lt_of_lt_of_le H13.out.2.1 HK1.out.sb
   have ea : IntKind.i64.wrap ((a : Int) + 1) = (a : Int) + 1 := IntWalk.i64_in _ (by have := HMT.out.2.2.2; have := HA0.out.1; omega)
   have eb : IntKind.i64.wrap (v2 : Int) = (v2 : Int) := IntWalk.i64_in _ (by have := HV2.out.2; omega)
   have ec : IntKind.i64.wrap ((a : Int) + 1 + (v2 : Int)) = (a : Int) + 1 + (v2 : Int) := IntWalk.i64_in _ (by have := HMT.out.2.2.2; have := HA0.out.1; have := HV2.out.2; omega)
   go_upto_region 16 with (fail)
   refine wp_region_lit ?_
   refine wpList_plain rfl (fun KK hK => ?_)
   unfold Oper.wp
   go_simp
   refine hK _ _ ?_
   clear hK KK
   (try simp only [Act.put, List.setIfInBounds_toArray, List.set_cons_zero, List.set_cons_succ])
   refine wpList_plain rfl (fun KK hK => ?_)
   unfold Oper.wp
   go_simp
   refine hK _ _ ?_
   clear hK KK
   (try simp only [Act.put, List.setIfInBounds_toArray, List.set_cons_zero, List.set_cons_succ])
   refine wpList_plain rfl (fun KK hK => ?_)
   unfold Oper.wp
   go_simp
   refine hK _ _ ?_
   clear hK KK
   (try simp only [Act.put, List.setIfInBounds_toArray, List.set_cons_zero, List.set_cons_succ])
   refine wpList_plain rfl (fun KK hK => ?_)
   unfold Oper.wp
   go_simp
   refine hK _ _ ?_
   clear hK KK
   (try simp only [Act.put, List.setIfInBounds_toArray, List.set_cons_zero, List.set_cons_succ])
   refine wpList_append_own _ rfl _ _ 27 rfl wb.heap.size 34 i0 (.int .i64 0) 1 8 Try.underlying27 hi0 hz0 hz1 hz2 rfl (by decide) _ _ _ rfl (HK1.out.own.alloc _) ⟨w1.heap.size, 0, none⟩ 1 1 [.int .i64 b] rfl rfl (cell_one_new _ _ _) (ints_oneCell .i64 [b]) (by unfold maxLen; omega) (by omega) (by have := HK1.out.sb; simp; omega) ?_
   intro v' w8 hown8 hgrow8 hnil8
   (try simp only [Act.put, List.setIfInBounds_toArray, List.set_cons_zero, List.set_cons_succ])
   obtain ⟨va8, vc8, rfl⟩ := owns_sl hown8
   obtain ⟨wx, hwx⟩ : ∃ u, u = w1.alloc (.cells #[.int .i64 b] 34) := ⟨_, rfl⟩
   have hbx : Below w1.heap.size w1 wx := by rw [hwx]; exact (Below.refl _ _).alloc (Nat.le_refl _) _
   have HKX : Aside (K3 w wb g13 p k beds (.slice va k vc) wx) := HK1.out.below H13.out.2.1 hbx
   have hg8 : wx.grownBy w8 (Value.slice va k vc).ownBlock := by rw [hwx]; exact hgrow8
   have HK2 : Aside (K3 w wb g13 p (k + 1) (beds ++ [b]) (.slice va8 (k + 1) vc8) (w8.setCell ⟨g13, 1, none⟩ (.slice va8 (k + 1) vc8))) := HKX.out.app H13.out.2.1 H13.out.2.2 (by rw [List.map_append]; exact hown8) hg8
   have h8b : w8.heap[g13]? = some (.cells #[.int .i64 (p : Int), .slice va k vc] 84 (0, 0)) := (hg8.block g13 (Nat.lt_of_lt_of_le H13.out.2.1 HKX.out.sb) (fun e => by have := (HKX.out.own.lt g13 e.symm).1; have := H13.out.2.1; omega)).trans HKX.out.vis
   have k8 := blk_cell h8b (i := 1) rfl
   have f8 := blk_free h8b
   have l8 : g13 < w8.heap.size := (Array.getElem?_eq_some_iff.1 h8b).1
   clear hown8 hgrow8 hnil8 hwx hbx hg8 h8b HKX k1 kf klt HK1
   refine wpList_plain rfl (fun KK hK => ?_)
   unfold Oper.wp
   go_simp
   refine hK _ _ ?_
   clear hK KK
   (try simp only [Act.put, List.setIfInBounds_toArray, List.set_cons_zero, List.set_cons_succ])
   refine wpList_plain rfl (fun KK hK => ?_)
   unfold Oper.wp
   go_simp
   refine hK _ _ ?_
   clear hK KK
   (try simp only [Act.put, List.setIfInBounds_toArray, List.set_cons_zero, List.set_cons_succ])
   refine wpList_plain rfl (fun KK hK => ?_)
   unfold Oper.wp
   go_simp
   refine hK _ _ ?_
   clear hK KK
   (try simp only [Act.put, List.setIfInBounds_toArray, List.set_cons_zero, List.set_cons_succ])
   refine wpList_plain rfl (fun KK hK => ?_)
   unfold Oper.wp
   go_simp
   refine hK _ _ ?_
   clear hK KK
   (try simp only [Act.put, List.setIfInBounds_toArray, List.set_cons_zero, List.set_cons_succ])
   refine wpList_plain rfl (fun KK hK => ?_)
   unfold Oper.wp
   go_simp
   refine hK _ _ ?_
   clear hK KK
   (try simp only [Act.put, List.setIfInBounds_toArray, List.set_cons_zero, List.set_cons_succ])
   refine wpList_plain rfl (fun KK hK => ?_)
   unfold Oper.wp
   go_simp
   refine hK _ _ ?_
   clear hK KK
   (try simp only [Act.put, List.setIfInBounds_toArray, List.set_cons_zero, List.set_cons_succ])
   go_upto_region 17 with (fail)
   obtain ⟨w9, hw9⟩ : ∃ u, u = w8.setCell ⟨g13, 1, none⟩ (.slice va8 (k + 1) vc8) := ⟨_, rfl⟩
   rw [← hw9] at HK2 ⊢
   clear hw9 k8 f8 l8 ea eb ec
   have hg10 := (HK2.out.oth g10 (Array.getElem?_eq_some_iff.1 H10.out.1).1 H10.out.2).trans H10.out.1
   have q1 := blk_cell hg10 (i := 1) rfl
   have q2 := blk_cell hg10 (i := 2) rfl
   have H10k : Aside (w9.heap[g10]? = some (.cells #[.int .i64 c.1, .int .i64 c.2.1, .int .i64 c.2.2] 24 (0, 0))) := hg10
   clear hg10
   obtain ⟨ti, hti⟩ : ∃ ti, t.inn = ti := ⟨_, rfl⟩
   have HTI : Aside (t.inn = ti) := hti
   rw [hti]
   clear hti
   have XO : Aside (∀ W, Calls Try.prog 64 #[.int .i64 c.2.1, .int .i64 b] W (Ret (.bool (opn c.2.1 b)) W)) := fun W => hopens_any _ _ W HBB.out.2 HGT.out.1
   have XO2 : Aside (∀ W, Calls Try.prog 64 #[.int .i64 c.2.2, .int .i64 b] W (Ret (.bool (opn c.2.2 b)) W)) := fun W => hopens_any _ _ W HBB.out.2 HGT.out.2
   have XW : Aside (∀ W, Calls Try.prog 65 #[.int .i64 b] W (Ret (.int .i64 (sc b)) W)) := fun W => hworth_any b W (vbed_bd HBB.out.2).1 (vbed_bd HBB.out.2).2
   go_cut [121] from 91 to 157 (fun s121 wc => s121 = .bool (decide (b = 0) || (!ti && !(opn c.2.1 b))) ∧ Aside (Below w9.heap.size w9 wc))
   case first =>
    by_cases hb0 : b = 0
    ·have hbz : (b == 0) = true := by simpa using hb0
     have hd : (decide (b = 0) || (!ti && !(opn c.2.1 b))) = true := by simp [hb0]
     go_wp2_with fail
     go_meet
     exact ⟨by rw [hd], Below.refl _ _⟩
    ·have hbz : (b == 0) = false := by simpa using hb0
     cases ti with
     | true =>
      have hd : (decide (b = 0) || (!true && !(opn c.2.1 b))) = false := by simp [hb0]
      go_wp2_with fail
      go_meet
      exact ⟨by rw [hd], Below.refl _ _⟩
     | false =>
      have hd : (decide (b = 0) || (!false && !(opn c.2.1 b))) = !(opn c.2.1 b) := by simp [hb0]
      go_wp2_with fail
      refine (XO.out _).mono ?_
      rintro e wo ⟨rfl, hbo⟩
      dsimp only
      go_wp2_with fail
      go_meet
      exact ⟨by rw [hd], hbo⟩
   case rest =>
    obtain ⟨rfl, HB9⟩ := hcut
    have HK3 : Aside (K3 w wb g13 p (k + 1) (beds ++ [b]) (.slice va8 (k + 1) vc8) wc) := HK2.out.below H13.out.2.1 HB9.out
    replace H10k : Aside (wc.heap[g10]? = some (.cells #[.int .i64 c.1, .int .i64 c.2.1, .int .i64 c.2.2] 24 (0, 0))) := (HB9.out.block _ (Array.getElem?_eq_some_iff.1 H10k.out).1).trans H10k.out
    clear HK2 HB9 q1 q2 XO
    obtain ⟨sy, hsy⟩ : ∃ sy, (decide (b = 0) || (!ti && !(opn c.2.1 b))) = sy := ⟨_, rfl⟩
    have HSY : Aside ((decide (b = 0) || (!ti && !(opn c.2.1 b))) = sy) := hsy
    rw [hsy]
    clear hsy
    cases sy with
    | true =>
     have HST : Aside (Mid c (k + 1) (t.step c b) ∧ (t.step c b).left = t.left ∧ (t.step c b).inn = ti) := by
      have := mid_stay HMT.out.1 (b := b) (by have h1 := HSY.out; rw [← HTI.out] at h1; simp at h1; exact h1)
      rw [HTI.out] at this; exact this
     have ek : IntKind.i64.wrap ((k : Int) + 1) = (k : Int) + 1 := IntWalk.i64_in _ (by omega)
     go_wp2_with fail
     go_roundg (3 - (k + 1))
     case measure => omega
     case rel => exact ⟨k + 1, t.step c b, a + 1 + v2, beds ++ [b], _, by omega, by omega, by go_num, by rw [HST.out.2.1], by rw [HST.out.2.2], by go_num, ⟨HST.out.1, by have := HMT.out.2.1.step HMT.out.1 hlt; rw [HBB.out.1, HV2.out.1] at this; exact this, by simp [HMT.out.2.2.1], by have := HMT.out.2.2.2; have := HV2.out.2; omega⟩, HK3⟩
    | false =>
     have HCN : Aside ((t.inn || opn c.2.1 b) = true ∧ b ≠ 0) := by
      have h1 := HSY.out
      show _ ∧ _
      rw [HTI.out]
      simp at h1
      refine ⟨?_, h1.1⟩
      cases ti with
      | true => rfl
      | false => simpa using h1.2
     have HSC : Aside (0 ≤ sc b ∧ sc b ≤ 400) := sc_bd (vbed_bd HBB.out.2).1 (vbed_bd HBB.out.2).2
     have el : IntKind.i64.wrap (t.left - sc b) = t.left - sc b := IntWalk.i64_in _ (by have := HMT.out.1.l1; have := HMT.out.1.l3; have := HSC.out; omega)
     go_wp2_with fail
     refine (XW.out _).mono ?_
     rintro e w10 ⟨rfl, hb10⟩
     dsimp only
     have HK4 : Aside (K3 w wb g13 p (k + 1) (beds ++ [b]) (.slice va8 (k + 1) vc8) w10) := HK3.out.below H13.out.2.1 hb10
     replace H10k : Aside (w10.heap[g10]? = some (.cells #[.int .i64 c.1, .int .i64 c.2.1, .int .i64 c.2.2] 24 (0, 0))) := (hb10.block _ (Array.getElem?_eq_some_iff.1 H10k.out).1).trans H10k.out
     clear hb10 HK3 XW
     have q2 := blk_cell H10k.out (i := 2) rfl
     go_upto_region 19 with (fail)
     obtain ⟨l1, hl1⟩ : ∃ l1, t.left - sc b = l1 := ⟨_, rfl⟩
     have HL1 : Aside (t.left - sc b = l1 ∧ -1000 ≤ l1 ∧ l1 ≤ 1001) := ⟨hl1, by have := HMT.out.1.l1; have := HMT.out.1.l3; have := HSC.out; omega⟩
     rw [hl1]
     clear hl1 el
     go_cut [133] from 91 to 157 (fun s133 wc2 => s133 = .bool (decide (l1 = 0) && opn c.2.2 b) ∧ Aside (Below w10.heap.size w10 wc2))
     case first =>
      by_cases hl0 : l1 = 0
      ·have hbz : (l1 == 0) = true := by simpa using hl0
       have hd : (decide (l1 = 0) && opn c.2.2 b) = opn c.2.2 b := by simp [hl0]
       clear hl0
       go_wp2_with fail
       refine (XO2.out _).mono ?_
       rintro e wo ⟨rfl, hbo⟩
       dsimp only
       go_wp2_with fail
       go_meet
       exact ⟨by rw [hd], hbo⟩
      ·have hbz : (l1 == 0) = false := by simpa using hl0
       have hd : (decide (l1 = 0) && opn c.2.2 b) = false := by simp [hl0]
       clear hl0
       go_wp2_with fail
       go_meet
       exact ⟨by rw [hd], Below.refl _ _⟩
     case rest =>
      obtain ⟨rfl, HB10⟩ := hcut
      have HK5 : Aside (K3 w wb g13 p (k + 1) (beds ++ [b]) (.slice va8 (k + 1) vc8) wc) := HK4.out.below H13.out.2.1 HB10.out
      replace H10k : Aside (wc.heap[g10]? = some (.cells #[.int .i64 c.1, .int .i64 c.2.1, .int .i64 c.2.2] 24 (0, 0))) := (HB10.out.block _ (Array.getElem?_eq_some_iff.1 H10k.out).1).trans H10k.out
      clear HK4 HB10 q2 XO2
      obtain ⟨wn, hwn⟩ : ∃ wn, (decide (l1 = 0) && opn c.2.2 b) = wn := ⟨_, rfl⟩
      have HWN : Aside ((decide (l1 = 0) && opn c.2.2 b) = wn) := hwn
      rw [hwn]
      clear hwn
      cases wn with
      | true =>
       have HW : Aside (l1 = 0 ∧ opn c.2.2 b = true) := by have h1 := HWN.out; show _ ∧ _; simpa using h1
       have HST : Aside (t.step c b = ⟨0, t.score, (k : Int) + 1, true, false, true⟩) := mid_win HMT.out.1 HCN.out.1 (by rw [HL1.out.1]; exact HW.out.1) HW.out.2
       have HTS : Aside (TvAt h.beds c v ⟨l0, 0, 0, in0, false, false⟩ a0 (k + 1) (beds ++ [b]) (t.step c b) (a + 1 + v2)) := by have := HMT.out.2.1.step HMT.out.1 hlt; rw [HBB.out.1, HV2.out.1] at this; exact this
       have HLN : Aside ((beds ++ [b]).length = k + 1) := by show (beds ++ [b]).length = k + 1; simp [HMT.out.2.2.1]
       have h4 := (HK5.out.oth L4 (Array.getElem?_eq_some_iff.1 HL4.out.1).1 HL4.out.2.2.2.2).trans HL4.out.1
       have ek : IntKind.i64.wrap ((k : Int) + 1) = (k : Int) + 1 := IntWalk.i64_in _ (by omega)
       have HR5 : Aside (Rws Z 6 (tlD vv nn xx) wc) := HK5.out.rows HRS.out HNR.out
       have HB5 : Aside (Below w.heap.size w wc) := HK5.out.bel
       go_upto_region 20 with (fail)
       refine tal20 HR5 h4 HB5 (Nat.le_trans HL4.out.2.2.2.1 HK5.out.sb) HL4.out.2.1 HL4.out.2.2.1 HNN.out.1 ek (by kernel_rfl) (by rfl) (by rfl) (by rfl) (by rfl) ?rest20
       case rest20 =>
        intro ac w5 hL
        have e134 : ac.tmps.getD 134 undef = .pointer (some ⟨L4, 4, none⟩) := hL.new 0 _ 134 rfl rfl rfl
        have e135 : ac.tmps.getD 135 undef = vv 3 := hL.new 1 _ 135 rfl rfl rfl
        have e136 : ac.tmps.getD 136 undef = .int .i64 (p : Int) := hL.new 2 _ 136 rfl rfl rfl
        obtain ⟨y137, e137⟩ : ∃ x, ac.tmps.getD 137 undef = x := ⟨_, rfl⟩
        obtain ⟨y138, e138⟩ : ∃ x, ac.tmps.getD 138 undef = x := ⟨_, rfl⟩
        have e139 : ac.tmps.getD 139 undef = .pointer (some ⟨L4, 5, none⟩) := hL.new 5 _ 139 rfl rfl rfl
        have e140 : ac.tmps.getD 140 undef = vv 4 := hL.new 6 _ 140 rfl rfl rfl
        have e141 : ac.tmps.getD 141 undef = .int .i64 (k : Int) := hL.new 7 _ 141 rfl rfl rfl
        have e142 : ac.tmps.getD 142 undef = .int .i64 ((k : Int) + 1) := hL.new 8 _ 142 rfl rfl rfl
        obtain ⟨y143, e143⟩ : ∃ x, ac.tmps.getD 143 undef = x := ⟨_, rfl⟩
        obtain ⟨y144, e144⟩ : ∃ x, ac.tmps.getD 144 undef = x := ⟨_, rfl⟩
        have e145 : ac.tmps.getD 145 undef = .pointer (some ⟨L4, 4, none⟩) := hL.new 11 _ 145 rfl rfl rfl
        have e146 : ac.tmps.getD 146 undef = .pointer (some ⟨L4, 5, none⟩) := hL.new 13 _ 146 rfl rfl rfl
        have HCL : Aside ((fun listed a W => ∃ E, RwC w Z L4 tlN20 (tlP20 6 (p : Int) (k : Int)) (tlD vv nn xx) 81 (tlC vv rn ov) wc listed a E W) (#[true, true, true, true, true, true, true, true, true, true, true, true, true, true, true]) ac w5) := hL.cls
        have es_ := hL.sets [134, 135, 136, 137, 138, 139, 140, 141, 142, 143, 144, 145, 146] (by decide +kernel)
        rw [List.foldl_cons, List.foldl_cons, List.foldl_cons, List.foldl_cons, List.foldl_cons, List.foldl_cons, List.foldl_cons, List.foldl_cons, List.foldl_cons, List.foldl_cons, List.foldl_cons, List.foldl_cons, List.foldl_cons, List.foldl_nil, e134, e135, e136, e137, e138, e139, e140, e141, e142, e143, e144, e145, e146] at es_
        rw [es_]
        clear es_ hL e134 e135 e136 e137 e138 e139 e140 e141 e142 e143 e144 e145 e146
        refine wpAny_done (by decide +kernel) ?_ _
        simp only [List.setIfInBounds_toArray, List.set_cons_zero, List.set_cons_succ]
        obtain ⟨E, HE⟩ := HCL.out
        have HEE : Aside (B4Ok h.beds c v ⟨l0, 0, 0, in0, false, false⟩ a0 w wb Z L4 g13 p vv nn xx rn ov (beds ++ [b]) (a + 1 + v2) (t.step c b) w5) := b4_won (kk := k) HK5.out HE (HTS.out.stop (.inl (by rw [HST.out]; simp [Thr.ended]))) HLN.out (by omega) (by rw [HST.out]) (by rw [HST.out]) HRS.out HNR.out HL4.out.2.1 HL4.out.2.2.2.1 HL4.out.2.2.2.2 H13.out.2.1
        clear HCL HE h4
        go_wp2_with fail
        go_meet
        obtain ⟨f1, f2⟩ := fin_no (t := t.step c b) (l0 := l0) (in0 := in0) (by rw [HST.out])
        exact ⟨beds ++ [b], a + 1 + v2, t.step c b, by go_num, by rw [f1, HST.out, HW.out.1], by rw [f2, HST.out], HEE⟩
      | false =>
       have q2 := blk_cell H10k.out (i := 2) rfl
       go_upto_region 21 with (fail)
       go_cut [157] from 91 to 157 (fun s157 WD => s157 = .bool (decide (l1 < 2) && (decide (l1 < 1) || !decide (c.2.2 = 0))) ∧ Aside (Below wc.heap.size wc WD))
       case first =>
        by_cases h2 : l1 < 2
        ·by_cases h1 : l1 < 1
         ·go_wp2_with fail
          go_meet
          exact ⟨by simp [h1, h2], Below.refl _ _⟩
         ·by_cases hz : c.2.2 = 0
          ·have hzz : (c.2.2 == 0) = true := by simpa using hz
           have hzn : (c.2.2 != 0) = false := by simpa using hz
           go_wp2_with fail
           go_meet
           exact ⟨by simp [h1, h2, hz], Below.refl _ _⟩
          ·have hzz : (c.2.2 == 0) = false := by simpa using hz
           have hzn : (c.2.2 != 0) = true := by simpa using hz
           go_wp2_with fail
           go_meet
           exact ⟨by simp [h1, h2, hz], Below.refl _ _⟩
        ·go_wp2_with fail
         go_meet
         exact ⟨by simp [h2], Below.refl _ _⟩
       case rest =>
        obtain ⟨rfl, HBD5⟩ := hcut
        have HK6 : Aside (K3 w wb g13 p (k + 1) (beds ++ [b]) (.slice va8 (k + 1) vc8) wc) := HK5.out.below H13.out.2.1 HBD5.out
        clear HK5 HBD5 q2 H10k
        have HNW : Aside (¬ (t.left - sc b = 0 ∧ opn c.2.2 b = true)) := by
         have h1 := HWN.out
         rw [← HL1.out.1] at h1
         exact fun e => by rw [e.2] at h1; simp [e.1] at h1
        have HTS : Aside (TvAt h.beds c v ⟨l0, 0, 0, in0, false, false⟩ a0 (k + 1) (beds ++ [b]) (t.step c b) (a + 1 + v2)) := by have := HMT.out.2.1.step HMT.out.1 hlt; rw [HBB.out.1, HV2.out.1] at this; exact this
        have HLN : Aside ((beds ++ [b]).length = k + 1) := by show (beds ++ [b]).length = k + 1; simp [HMT.out.2.2.1]
        obtain ⟨bu, hbu⟩ : ∃ bu, (decide (l1 < 2) && (decide (l1 < 1) || !decide (c.2.2 = 0))) = bu := ⟨_, rfl⟩
        have HBU : Aside ((decide (l1 < 2) && (decide (l1 < 1) || !decide (c.2.2 = 0))) = bu) := hbu
        rw [hbu]
        clear hbu
        cases bu with
        | true =>
         have HST : Aside (t.step c b = ⟨t.left, t.score, (k : Int) + 1, t.inn, true, false⟩) := mid_bust HMT.out.1 HCN.out.1 HNW.out (by have h1 := HBU.out; rw [← HL1.out.1] at h1; simpa using h1)
         have h4 := (HK6.out.oth L4 (Array.getElem?_eq_some_iff.1 HL4.out.1).1 HL4.out.2.2.2.2).trans HL4.out.1
         have kl : wc.cell? ⟨L4, 1, none⟩ = some (vv 0) := blk_cell h4 (i := 1) rfl
         have ki : wc.cell? ⟨L4, 3, none⟩ = some (vv 2) := blk_cell h4 (i := 3) rfl
         rw [HVV.out.1] at kl
         rw [HVV.out.2] at ki
         have hlg : lg ≠ g13 := fun e => HNR.out 0 (by omega) (by rw [HVV.out.1, e]; rfl)
         have hig : ig ≠ g13 := fun e => HNR.out 2 (by omega) (by rw [HVV.out.2, e]; rfl)
         have ql := (cell_blk (i := p) (HK6.out.oth lg (cell_lt HQL.out.1) hlg)).trans HQL.out.1
         have qi := (cell_blk (i := p) (HK6.out.oth ig (cell_lt HQL.out.2) hig)).trans HQL.out.2
         have hltq : (p : Int) < (nc : Int) := by have := HA0.out.2.2; omega
         go_upto_region 22 with (fail)
         refine tal22 kl ki ql qi HA0.out.2.2 hltq (by kernel_rfl) (by rfl) (by rfl) (by rfl) ?rest22
         case rest22 =>
          intro ac w5 hL
          have e158 : ac.tmps.getD 158 undef = .pointer (some ⟨L4, 3, none⟩) := hL.new 0 _ 158 rfl rfl rfl
          have e159 : ac.tmps.getD 159 undef = .slice (some ⟨ig, 0, none⟩) nc ic := hL.new 1 _ 159 rfl rfl rfl
          have e160 : ac.tmps.getD 160 undef = .int .i64 (p : Int) := hL.new 2 _ 160 rfl rfl rfl
          have e161 : ac.tmps.getD 161 undef = .pointer (some ⟨ig, p, none⟩) := hL.new 3 _ 161 rfl rfl rfl
          have e162 : ac.tmps.getD 162 undef = .bool in0 := hL.new 4 _ 162 rfl rfl rfl
          have e163 : ac.tmps.getD 163 undef = .pointer (some ⟨L4, 1, none⟩) := hL.new 5 _ 163 rfl rfl rfl
          have e164 : ac.tmps.getD 164 undef = .slice (some ⟨lg, 0, none⟩) nc lc := hL.new 6 _ 164 rfl rfl rfl
          have e165 : ac.tmps.getD 165 undef = .int .i64 (p : Int) := hL.new 7 _ 165 rfl rfl rfl
          have e166 : ac.tmps.getD 166 undef = .pointer (some ⟨lg, p, none⟩) := hL.new 8 _ 166 rfl rfl rfl
          have e167 : ac.tmps.getD 167 undef = .int .i64 l0 := hL.new 9 _ 167 rfl rfl rfl
          have e12 : ac.tmps.getD 12 undef = .bool in0 := hL.new 10 _ 12 rfl rfl rfl
          have e11 : ac.tmps.getD 11 undef = .int .i64 l0 := hL.new 11 _ 11 rfl rfl rfl
          have HCL : Aside ((fun (_ : Array Bool) (_ : Act) (w2_ : World) => Below wc.heap.size wc w2_) (#[true, true, true, true, true, true, true, true, true, true, true, true]) ac w5) := hL.cls
          have es_ := hL.sets [158, 159, 160, 161, 162, 163, 164, 165, 166, 167, 12, 11] (by decide +kernel)
          rw [List.foldl_cons, List.foldl_cons, List.foldl_cons, List.foldl_cons, List.foldl_cons, List.foldl_cons, List.foldl_cons, List.foldl_cons, List.foldl_cons, List.foldl_cons, List.foldl_cons, List.foldl_cons, List.foldl_nil, e158, e159, e160, e161, e162, e163, e164, e165, e166, e167, e12, e11] at es_
          rw [es_]
          clear es_ hL e158 e159 e160 e161 e162 e163 e164 e165 e166 e167 e12 e11
          refine wpAny_done (by decide +kernel) ?_ _
          simp only [List.setIfInBounds_toArray, List.set_cons_zero, List.set_cons_succ]
          have HK7 : Aside (K3 w wb g13 p (k + 1) (beds ++ [b]) (.slice va8 (k + 1) vc8) w5) := HK6.out.below H13.out.2.1 HCL.out
          clear HK6 HCL kl ki ql qi h4
          go_wp2_with fail
          go_meet
          obtain ⟨f1, f2⟩ := fin_bust (t := t.step c b) (l0 := l0) (in0 := in0) (by rw [HST.out])
          exact ⟨beds ++ [b], a + 1 + v2, t.step c b, by go_num, by rw [f1], by rw [f2], b4_no HK7.out (HTS.out.stop (.inl (by rw [HST.out]; simp [Thr.ended]))) HLN.out (by omega) (by rw [HST.out]) HRS.out HNR.out HL4.out.1 HL4.out.2.2.2.2⟩
        | false =>
         have HST : Aside (Mid c (k + 1) (t.step c b) ∧ (t.step c b).left = l1 ∧ (t.step c b).inn = true) := by
          have := mid_on HMT.out.1 HSC.out.1 HCN.out.1 HNW.out (by have h1 := HBU.out; rw [← HL1.out.1] at h1; intro e; obtain ⟨e1, e2⟩ := e; rcases e2 with e2 | e2 <;> simp [e1, e2] at h1)
          rw [HL1.out.1] at this; exact this
         have ek : IntKind.i64.wrap ((k : Int) + 1) = (k : Int) + 1 := IntWalk.i64_in _ (by omega)
         go_wp2_with fail
         go_roundg (3 - (k + 1))
         case measure => omega
         case rel => exact ⟨k + 1, t.step c b, a + 1 + v2, beds ++ [b], _, by omega, by omega, by go_num, by rw [HST.out.2.1], by rw [HST.out.2.2], by go_num, ⟨HST.out.1, HTS.out, HLN.out, by have := HMT.out.2.2.2; have := HV2.out.2; omega⟩, HK6⟩
  ·have hltz : ¬ (k : Int) < 3 := by omega
   have hke : k = 3 := by omega
   subst hke
   go_wp2_with fail
   go_meet
   have hM := HMT.out.1
   obtain ⟨f1, f2⟩ := fin_no (l0 := l0) (in0 := in0) hM.bust
   exact ⟨beds, a, t, rfl, by rw [f1], by rw [f2], b4_no HK.out (HMT.out.2.1.stop (.inr (Nat.le_refl 3))) HMT.out.2.2.1 (Nat.le_refl 3) hM.won HRS.out HNR.out HL4.out.1 HL4.out.2.2.2.2⟩
end
end Go.Proofs.Ytnhjoebdmmelaaa
