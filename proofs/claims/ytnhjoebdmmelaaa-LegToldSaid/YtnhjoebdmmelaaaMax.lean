/- Leg: parts Iq. -/
import Derived.Deep.DeepCutAuto
import Derived.Deep.CutBlock
import Derived.Test.YtnhjoebdmmelaaaMaw
import Derived.Test.YtnhjoebdmmelaaaMau
set_option linter.unusedVariables false
set_option linter.unusedSimpArgs false
namespace Go.Proofs.Ytnhjoebdmmelaaa
section
open Go.RowKit Go.Maps Go.Sort Go.Shelf Go.Deep
theorem own_free {w : World} {b g n0 n c sz : Nat} {T : TypeId} {v : Value} {xs : List Value} (h : w.ownsRow b T sz v n0 xs) (hv : v = .slice (some ⟨g, 0, none⟩) n c) (i : Nat) : w.frozen? ⟨g, i, none⟩ = false := by
 rcases h.2 with ⟨e1, _⟩ | ⟨g', cap, cur, e1, h3, h4, h5⟩
 ·rw [hv] at e1; cases e1
 ·rw [hv] at e1
  simp only [Value.slice.injEq, Option.some.injEq, Addr.mk.injEq, and_true] at e1
  obtain ⟨rfl, e3, e4⟩ := e1
  exact blk_free h4 i
set_option maxRecDepth 100000 in
set_option maxHeartbeats 16000000 in
theorem tal_b3 {h : Hnd} {r : LegR} {w wr : World} {vs vbd s0 s2 s7 u9 u10 u11 u12 u13 u14 u15 x16 x17 x18 x19 x20 x21 x22 x23 x24 x25 x26 x27 x28 x29 x30 x31 x32 x33 x34 x35 x36 x37 x38 x39 x40 x41 x42 x43 x44 x45 x46 x47 x48 x49 x50 x51 x52 x53 x54 u55 u56 u57 u58 u59 u60 u61 u62 u63 u64 u65 u66 u67 u68 u69 u70 u71 u72 u73 u74 u75 u76 u77 u78 u79 u80 u81 u82 u83 u84 u85 u86 u87 u88 u89 u90 u91 u92 u93 u94 u95 u96 u97 u98 u99 u100 u101 u102 u103 u104 u105 u106 u107 u108 u109 u110 u111 u112 u113 u114 u115 u116 u117 u118 u119 u120 u121 u122 u123 u124 u125 u126 u127 u128 u129 u130 u131 u132 u133 u134 u135 u136 u137 u138 u139 u140 u141 u142 u143 u144 u145 u146 u147 u148 u149 u150 u151 u152 u153 u154 u155 u156 u157 u158 u159 u160 u161 u162 u163 u164 u165 u166 u167 u168 u169 u170 u171 u172 u173 u174 u175 u176 u177 u178 u179 u180 u181 u182 u183 u184 u185 u186 u187 u188 u189 u190 u191 u192 u193 u194 u195 u196 u197 u198 u199 u200 u201 u202 u203 u204 u205 u206 u207 u208 u209 u210 u211 u212 u213 u214 u215 u216 u217 u218 u219 u220 u221 u222 u223 u224 u225 u226 u227 u228 u229 u230 u231 u232 u233 u234 u235 u236 u237 : Value} {B0 L3 L4 Z v a0 nc cb co cc : Nat} {vv : Nat → Value} {nn : Nat → Nat} {xx : Nat → List Value} {cd : Code} (hc : blkOf 3 Try.f34 = some cd) {J0 K0 : Act → World → Prop} {Q0 : Exit → Act → World → Prop}
  (hJ0 : ∀ (a' : Act) (w' : World), (∃ u6 u9 u10 u11 u12 u13 u14 u15 u55 u56 u57 u58 u59 u60 u61 u62 u63 u64 u65 u66 u67 u68 u69 u70 u71 u72 u73 u74 u75 u76 u77 u78 u79 u80 u81 u82 u83 u84 u85 u86 u87 u88 u89 u90 u91 u92 u93 u94 u95 u96 u97 u98 u99 u100 u101 u102 u103 u104 u105 u106 u107 u108 u109 u110 u111 u112 u113 u114 u115 u116 u117 u118 u119 u120 u121 u122 u123 u124 u125 u126 u127 u128 u129 u130 u131 u132 u133 u134 u135 u136 u137 u138 u139 u140 u141 u142 u143 u144 u145 u146 u147 u148 u149 u150 u151 u152 u153 u154 u155 u156 u157 u158 u159 u160 u161 u162 u163 u164 u165 u166 u167 u168 u169 u170 u171 u172 u173 u174 u175 u176 u177 u178 u179 u180 u181 u182 u183 u184 u185 u186 u187 u188 u189 u190 u191 u192 u193 u194 u195 u196 u197 u198 u199 u200 u201 u202 u203 u204 u205 u206 u207 u208 u209 u210 u211 u212 u213 u214 u215 u216 u217 u218 u219 u220 u221 u222 u223 u224 u225 u226 u227 u228 u229 u230 u231 u232 u233 u234 u235 u236, (∃ (vv' : Nat → Value) (nn' : Nat → Nat) (xx' : Nat → List Value), u6 = .int .i64 ((talK r h.beds (v + 1)).a : Int) ∧ Aside (TlAt w Z L4 (talK r h.beds (v + 1)).g (talK r h.beds (v + 1)).vs vv' nn' xx' w' ∧ ∀ i, 6 ≤ i → nn' i = 0)) ∧ a' = ⟨#[s0, .pointer (some ⟨B0, 0, none⟩), s2, .pointer (some ⟨L3, 0, none⟩), .pointer (some ⟨L4, 0, none⟩), .int .i64 (nc : Int), u6, s7, .int .i64 (v : Int), u9, u10, u11, u12, u13, u14, u15, x16, x17, x18, x19, x20, x21, x22, x23, x24, x25, x26, x27, x28, x29, x30, x31, x32, x33, x34, x35, x36, x37, x38, x39, x40, x41, x42, x43, x44, x45, x46, x47, x48, x49, x50, x51, x52, x53, x54, u55, u56, u57, u58, u59, u60, u61, u62, u63, u64, u65, u66, u67, u68, u69, u70, u71, u72, u73, u74, u75, u76, u77, u78, u79, u80, u81, u82, u83, u84, u85, u86, u87, u88, u89, u90, u91, u92, u93, u94, u95, u96, u97, u98, u99, u100, u101, u102, u103, u104, u105, u106, u107, u108, u109, u110, u111, u112, u113, u114, u115, u116, u117, u118, u119, u120, u121, u122, u123, u124, u125, u126, u127, u128, u129, u130, u131, u132, u133, u134, u135, u136, u137, u138, u139, u140, u141, u142, u143, u144, u145, u146, u147, u148, u149, u150, u151, u152, u153, u154, u155, u156, u157, u158, u159, u160, u161, u162, u163, u164, u165, u166, u167, u168, u169, u170, u171, u172, u173, u174, u175, u176, u177, u178, u179, u180, u181, u182, u183, u184, u185, u186, u187, u188, u189, u190, u191, u192, u193, u194, u195, u196, u197, u198, u199, u200, u201, u202, u203, u204, u205, u206, u207, u208, u209, u210, u211, u212, u213, u214, u215, u216, u217, u218, u219, u220, u221, u222, u223, u224, u225, u226, u227, u228, u229, u230, u231, u232, u233, u234, u235, u236, u237], []⟩) → J0 a' w') (hK0 : ∀ (a' : Act) (w' : World), Met J0 a' w' → K0 a' w')
  (HBX : Aside (w.heap[B0]? = some (.cells #[vs, .int .u8 h.gates, .bool h.equal, .int .u8 h.rounds, .int .u8 h.first, vbd] 78 (0, 0)))) (HBD : Aside (∀ W, Below w.heap.size w W → ∀ k, k ≤ 1000000 → Calls Try.prog 63 #[.agg #[vs, .int .u8 h.gates, .bool h.equal, .int .u8 h.rounds, .int .u8 h.first, vbd], .int .i64 ((k : Nat) : Int)] W (Ret (.int .i64 (hbedF h.beds k)) W))) (HVB : Aside (∀ x ∈ h.beds, 0 ≤ x ∧ x ≤ 255))
  (HR : Aside (r.Ok ∧ r.counts.length = nc)) (HL3 : Aside (w.heap[L3]? = some (.cells #[.slice (some ⟨cb, co, none⟩) nc cc, .int .i64 r.first, .int .i64 r.rounds, .bool r.equal] 42 (0, 0))))
  (HCC : Aside (∀ k c, r.counts[k]? = some c → w.cell? ⟨cb, co + k * 3, none⟩ = some (.int .i64 c.1) ∧ w.cell? ⟨cb, co + k * 3 + 1, none⟩ = some (.int .i64 c.2.1) ∧ w.cell? ⟨cb, co + k * 3 + 2, none⟩ = some (.int .i64 c.2.2)))
  (HA : Aside ((talK r h.beds v).a = a0)) (HT : Aside (TlAt w Z L4 (talK r h.beds v).g (talK r h.beds v).vs vv nn xx wr ∧ ∀ i, 6 ≤ i → nn i = 0)) (HO : Aside ((talK r h.beds v).g.over = false)) (hv60 : v < 60) :
  cd.wp Try.prog (Exit.then K0 Q0) ⟨#[s0, .pointer (some ⟨B0, 0, none⟩), s2, .pointer (some ⟨L3, 0, none⟩), .pointer (some ⟨L4, 0, none⟩), .int .i64 (nc : Int), .int .i64 (a0 : Int), s7, .int .i64 (v : Int), u9, u10, u11, u12, u13, u14, u15, x16, x17, x18, x19, x20, x21, x22, x23, x24, x25, x26, x27, x28, x29, x30, x31, x32, x33, x34, x35, x36, x37, x38, x39, x40, x41, x42, x43, x44, x45, x46, x47, x48, x49, x50, x51, x52, x53, x54, u55, u56, u57, u58, u59, u60, u61, u62, u63, u64, u65, u66, u67, u68, u69, u70, u71, u72, u73, u74, u75, u76, u77, u78, u79, u80, u81, u82, u83, u84, u85, u86, u87, u88, u89, u90, u91, u92, u93, u94, u95, u96, u97, u98, u99, u100, u101, u102, u103, u104, u105, u106, u107, u108, u109, u110, u111, u112, u113, u114, u115, u116, u117, u118, u119, u120, u121, u122, u123, u124, u125, u126, u127, u128, u129, u130, u131, u132, u133, u134, u135, u136, u137, u138, u139, u140, u141, u142, u143, u144, u145, u146, u147, u148, u149, u150, u151, u152, u153, u154, u155, u156, u157, u158, u159, u160, u161, u162, u163, u164, u165, u166, u167, u168, u169, u170, u171, u172, u173, u174, u175, u176, u177, u178, u179, u180, u181, u182, u183, u184, u185, u186, u187, u188, u189, u190, u191, u192, u193, u194, u195, u196, u197, u198, u199, u200, u201, u202, u203, u204, u205, u206, u207, u208, u209, u210, u211, u212, u213, u214, u215, u216, u217, u218, u219, u220, u221, u222, u223, u224, u225, u226, u227, u228, u229, u230, u231, u232, u233, u234, u235, u236, u237], []⟩ wr := by
 (conv at hc => lhs; whnf)
 obtain rfl := Option.some.inj hc
 clear hc
 have HV : Aside (v < 60) := hv60
 obtain ⟨p, hp⟩ : ∃ p, talP r v = p := ⟨_, rfl⟩
 obtain ⟨c, hcn⟩ : ∃ c, cntAt r p = c := ⟨_, rfl⟩
 obtain ⟨l0, hl0⟩ : ∃ l, (talK r h.beds v).g.left.getD p 0 = l := ⟨_, rfl⟩
 obtain ⟨in0, hin0⟩ : ∃ i, (talK r h.beds v).g.inn.getD p false = i := ⟨_, rfl⟩
 obtain ⟨d0, hd0⟩ : ∃ d, (talK r h.beds v).g.darts.getD p 0 = d := ⟨_, rfl⟩
 obtain ⟨rn, hrn⟩ : ∃ x, (talK r h.beds v).g.round = x := ⟨_, rfl⟩
 obtain ⟨fr, hfr⟩ : ∃ x, r.first = x := ⟨_, rfl⟩
 obtain ⟨rr, hrr⟩ : ∃ x, r.rounds = x := ⟨_, rfl⟩
 obtain ⟨eq, heq⟩ : ∃ x, r.equal = x := ⟨_, rfl⟩
 have HP : Aside (talP r v = p ∧ cntAt r p = c ∧ r.first = fr ∧ r.rounds = rr ∧ r.equal = eq) := ⟨hp, hcn, hfr, hrr, heq⟩
 have HG : Aside ((talK r h.beds v).g.left.getD p 0 = l0 ∧ (talK r h.beds v).g.inn.getD p false = in0 ∧ (talK r h.beds v).g.darts.getD p 0 = d0 ∧ (talK r h.beds v).g.round = rn) := ⟨hl0, hin0, hd0, hrn⟩
 have HLN : Aside ((talK r h.beds v).g.left.length = nc ∧ (talK r h.beds v).g.darts.length = nc ∧ (talK r h.beds v).g.inn.length = nc ∧ (talK r h.beds v).g.ended.length ≤ nc ∧ (talK r h.beds v).vs.length ≤ v) := by
  have := tal_len HR.out.1 HVB.out v
  rw [HR.out.2] at this; exact this
 have HP2 : Aside (p < nc ∧ (p : Int) = (fr + (v : Int)) % (nc : Int) ∧ 0 ≤ fr ∧ fr < (nc : Int) ∧ nc ≤ 8) := by
  obtain ⟨h1, h2⟩ := talP_lt HR.out.1 v
  rw [hp, HR.out.2] at h1 h2
  rw [hfr] at h2
  have a1 := HR.out.1.f0
  have a2 := HR.out.1.f1
  have a3 := HR.out.1.n8
  rw [hfr] at a1 a2
  rw [HR.out.2] at a2 a3
  exact ⟨h1, h2, a1, a2, a3⟩
 have HLF : Aside (Mid c 0 ⟨l0, 0, 0, in0, false, false⟩) := by
  have := tal_lft HR.out.1 (tal_inv HR.out.1 HVB.out v) HO.out
  rw [hp, hcn, hl0] at this
  exact this.mid in0
 have HVC : Aside (inb 0 2 c.2.1 = true ∧ inb 0 2 c.2.2 = true) := by
  have hc2 : r.counts[p]? = some c := by
   rw [← hcn]; unfold cntAt; rw [List.getD_eq_getElem?_getD, List.getElem?_eq_getElem (by rw [HR.out.2]; exact HP2.out.1)]; rfl
  have hv := HR.out.1.cnt c (List.mem_of_getElem? hc2)
  unfold vcnt at hv
  simp only [Bool.and_eq_true] at hv
  exact hv.2
 have HA0 : Aside (a0 ≤ 360) := by have := tal_a (r := r) (bs := h.beds) v; rw [HA.out] at this; show _ ≤ _; omega
 have HD0 : Aside (0 ≤ d0 ∧ d0 ≤ 360) := by
  have := (tal_inv HR.out.1 HVB.out v).ok.darts d0 (by rw [← hd0, List.getD_eq_getElem?_getD, List.getElem?_eq_getElem (by rw [HLN.out.2.1]; exact HP2.out.1)]; exact List.getElem_mem _)
  refine ⟨this.1, ?_⟩
  have := this.2
  omega
 have HRN : Aside (0 ≤ rn ∧ rn ≤ 120) := by
  have h1 := (tal_inv HR.out.1 HVB.out v).ok.r0
  have h2 := (tal_inv HR.out.1 HVB.out v).ok.r1
  rw [hrn] at h1 h2
  exact ⟨h1, by omega⟩
 clear hp hcn hl0 hin0 hd0 hrn hfr hrr heq
 have hltp : p < nc := HP2.out.1
 have hltz : (p : Int) < (nc : Int) := by omega
 have nz : ¬ (nc : Int) = 0 := by omega
 have ew : IntKind.i64.wrap (fr + (v : Int)) = fr + (v : Int) := IntWalk.i64_in _ (by have := HP2.out; omega)
 have et : Int.tmod (fr + (v : Int)) (nc : Int) = (p : Int) := by rw [HP2.out.2.1, Int.tmod_eq_emod_of_nonneg (by have := HP2.out.2.2.1; omega)]
 have ep : IntKind.i64.wrap (p : Int) = (p : Int) := IntWalk.i64_in _ (by have := HP2.out; omega)
 have HB : Aside (Below w.heap.size w wr) := HT.out.1.bel
 have kx3 : wr.heap[L3]? = some (.cells #[.slice (some ⟨cb, co, none⟩) nc cc, .int .i64 fr, .int .i64 rr, .bool eq] 42 (0, 0)) := by
  rw [← HP.out.2.2.1, ← HP.out.2.2.2.1, ← HP.out.2.2.2.2]
  exact (HB.out.block _ (Array.getElem?_eq_some_iff.1 HL3.out).1).trans HL3.out
 have k3 := blk_cell kx3 (i := 1) rfl
 dsimp only
 go_upto_region 11 with (fail)
 have kc := blk_cell kx3 (i := 0) rfl
 obtain ⟨c1, c2, c3⟩ := c
 have hcp : r.counts[p]? = some (c1, c2, c3) := by
  rw [← HP.out.2.1]; unfold cntAt; rw [List.getD_eq_getElem?_getD, List.getElem?_eq_getElem (by rw [HR.out.2]; exact hltp)]; rfl
 have hcw : ∀ (i : Nat) (x : Value), w.cell? ⟨cb, i, none⟩ = some x → wr.cell? ⟨cb, i, none⟩ = some x := fun i x hx => (cell_blk (HB.out.block _ (cell_lt hx))).trans hx
 have q0 : wr.cell? ⟨cb, co + p * 3, none⟩ = some (.int .i64 c1) := hcw _ _ (HCC.out p _ hcp).1
 have q1 : wr.cell? ⟨cb, co + p * 3 + 1, none⟩ = some (.int .i64 c2) := hcw _ _ (HCC.out p _ hcp).2.1
 have q2 : wr.cell? ⟨cb, co + p * 3 + 2, none⟩ = some (.int .i64 c3) := hcw _ _ (HCC.out p _ hcp).2.2
 clear hcp hcw
 obtain ⟨lg, lc, tg, tc, ig, ic, ev0, ev1, ev2, ql, qt, qi⟩ := HT.out.1.at HLN.out.1 HLN.out.2.1 HLN.out.2.2.1 hltp
 have HEV : Aside (vv 0 = .slice (some ⟨lg, 0, none⟩) nc lc ∧ vv 1 = .slice (some ⟨tg, 0, none⟩) nc tc ∧ vv 2 = .slice (some ⟨ig, 0, none⟩) nc ic) := ⟨ev0, ev1, ev2⟩
 rw [HG.out.1] at ql
 rw [HG.out.2.1] at qi
 have kl : wr.cell? ⟨L4, 1, none⟩ = some (.slice (some ⟨lg, 0, none⟩) nc lc) := by rw [← ev0]; exact blk_cell HT.out.1.leg (i := 1) rfl
 have ki : wr.cell? ⟨L4, 3, none⟩ = some (.slice (some ⟨ig, 0, none⟩) nc ic) := by rw [← ev2]; exact blk_cell HT.out.1.leg (i := 3) rfl
 refine tal11 kc q0 q1 q2 kl ki ql qi hltp hltz (by kernel_rfl) (by rfl) (by rfl) (by rfl) (by rfl) ?rest11
 case rest11 =>
  intro ac wb hL
  have e74 : ac.tmps.getD 74 undef = .pointer (some ⟨L3, 0, none⟩) := hL.new 0 _ 74 rfl rfl rfl
  have e75 : ac.tmps.getD 75 undef = .slice (some ⟨cb, co, none⟩) nc cc := hL.new 1 _ 75 rfl rfl rfl
  have e76 : ac.tmps.getD 76 undef = .int .i64 (p : Int) := hL.new 2 _ 76 rfl rfl rfl
  have e77 : ac.tmps.getD 77 undef = .pointer (some ⟨cb, co + p * 3, none⟩) := hL.new 3 _ 77 rfl rfl rfl
  have e78 : ac.tmps.getD 78 undef = .agg #[.int .i64 c1, .int .i64 c2, .int .i64 c3] := hL.new 4 _ 78 rfl rfl rfl
  have e79 : ac.tmps.getD 79 undef = .pointer (some ⟨L4, 1, none⟩) := hL.new 5 _ 79 rfl rfl rfl
  have e80 : ac.tmps.getD 80 undef = .slice (some ⟨lg, 0, none⟩) nc lc := hL.new 6 _ 80 rfl rfl rfl
  have e81 : ac.tmps.getD 81 undef = .int .i64 (p : Int) := hL.new 7 _ 81 rfl rfl rfl
  have e82 : ac.tmps.getD 82 undef = .pointer (some ⟨lg, p, none⟩) := hL.new 8 _ 82 rfl rfl rfl
  have e83 : ac.tmps.getD 83 undef = .int .i64 l0 := hL.new 9 _ 83 rfl rfl rfl
  have e84 : ac.tmps.getD 84 undef = .pointer (some ⟨L4, 3, none⟩) := hL.new 10 _ 84 rfl rfl rfl
  have e85 : ac.tmps.getD 85 undef = .slice (some ⟨ig, 0, none⟩) nc ic := hL.new 11 _ 85 rfl rfl rfl
  have e86 : ac.tmps.getD 86 undef = .int .i64 (p : Int) := hL.new 12 _ 86 rfl rfl rfl
  have e87 : ac.tmps.getD 87 undef = .pointer (some ⟨ig, p, none⟩) := hL.new 13 _ 87 rfl rfl rfl
  have e88 : ac.tmps.getD 88 undef = .bool in0 := hL.new 14 _ 88 rfl rfl rfl
  have e89 : ac.tmps.getD 89 undef = .int .i64 (p : Int) := hL.new 15 _ 89 rfl rfl rfl
  have e90 : ac.tmps.getD 90 undef = .agg #[.int .i64 (p : Int), .slice none 0 0] := hL.new 16 _ 90 rfl rfl rfl
  obtain ⟨hb5, hAF, hDF⟩ := hL.cls
  obtain ⟨g10, e10, g10a, g10b, g10c⟩ := hAF _ (List.mem_cons_self ..) rfl
  obtain ⟨g13, e13, g13a, g13b, g13c⟩ := hAF _ (List.mem_cons_of_mem _ (List.mem_cons_self ..)) rfl
  have hne := hDF _ (List.mem_cons_self ..) _ (List.mem_cons_of_mem _ (List.mem_cons_self ..)) (show (17 : Nat) ≠ 18 by decide) rfl rfl
  change ac.tmps.getD 10 undef = _ at e10
  change ac.tmps.getD 13 undef = _ at e13
  change ac.tmps.getD 10 undef ≠ ac.tmps.getD 13 undef at hne
  rw [e10, e13] at hne
  have x10 : wb.heap[g10]? = some (.cells #[.int .i64 c1, .int .i64 c2, .int .i64 c3] 24 (0, 0)) := g10c
  have x13 : wb.heap[g13]? = some (.cells #[.int .i64 (p : Int), .slice none 0 0] 84 (0, 0)) := g13c
  have e11 : ac.tmps.getD 11 undef = .int .i64 l0 := hL.new 20 _ 11 rfl rfl rfl
  have e12 : ac.tmps.getD 12 undef = .bool in0 := hL.new 21 _ 12 rfl rfl rfl
  have es_ := hL.sets [74, 75, 76, 77, 78, 79, 80, 81, 82, 83, 84, 85, 86, 87, 88, 89, 90, 10, 13, 11, 12] (by decide +kernel)
  rw [List.foldl_cons, List.foldl_cons, List.foldl_cons, List.foldl_cons, List.foldl_cons, List.foldl_cons, List.foldl_cons, List.foldl_cons, List.foldl_cons, List.foldl_cons, List.foldl_cons, List.foldl_cons, List.foldl_cons, List.foldl_cons, List.foldl_cons, List.foldl_cons, List.foldl_cons, List.foldl_cons, List.foldl_cons, List.foldl_cons, List.foldl_cons, List.foldl_nil, e74, e75, e76, e77, e78, e79, e80, e81, e82, e83, e84, e85, e86, e87, e88, e89, e90, e10, e13, e11, e12] at es_
  rw [es_]
  clear es_ hL e74 e75 e76 e77 e78 e79 e80 e81 e82 e83 e84 e85 e86 e87 e88 e89 e90 e10 e13 e11 e12
  have HG13 : Aside (g10 ≠ g13 ∧ wr.heap.size ≤ g13 ∧ g13 < wb.heap.size ∧ Below wr.heap.size wr wb) := ⟨fun e => hne (by rw [e]), g13a, g13b, hb5⟩
  have HTB : Aside (TlAt w Z L4 (talK r h.beds v).g (talK r h.beds v).vs vv nn xx wb) := HT.out.1.below hb5
  have HX10 : Aside (wb.heap[g10]? = some (.cells #[.int .i64 c1, .int .i64 c2, .int .i64 c3] 24 (0, 0))) := x10
  have HX13 : Aside (wb.heap[g13]? = some (.cells #[.int .i64 (p : Int), .slice none 0 0] 84 (0, 0))) := x13
  have HQL : Aside (wb.cell? ⟨lg, p, none⟩ = some (.int .i64 l0) ∧ wb.cell? ⟨ig, p, none⟩ = some (.bool in0)) := ⟨(cell_blk (hb5.block _ (cell_lt ql))).trans ql, (cell_blk (hb5.block _ (cell_lt qi))).trans qi⟩
  clear hne g10a g10b g10c g13a g13b g13c x10 x13 hb5 hAF hDF kl ki ql qi qt q0 q1 q2 kc k3 kx3 ev0 ev1 ev2
  refine wpAny_done (by decide +kernel) ?_ _
  simp only [List.setIfInBounds_toArray, List.set_cons_zero, List.set_cons_succ]
  go_upto_block 4 with (fail)
  go_cut [6, 11, 12] from 55 to 236 (fun s6 s11 s12 wf => ∃ (beds : List Int) (a : Nat) (T : Thr), s6 = .int .i64 (a : Int) ∧ s11 = .int .i64 (T.fin l0 in0).left ∧ s12 = .bool (T.fin l0 in0).inn ∧ Aside (B4Ok h.beds (c1, c2, c3) v ⟨l0, 0, 0, in0, false, false⟩ a0 w wb Z L4 g13 p vv nn xx rn false beds a T wf))
  case first =>
   as_aux_lemma =>
    rename_i J' K' hJ' hK'
    have hlt := HTB.out.lt
    have hZ := HTB.out.siz
    have hwL := HTB.out.new
    have hg13 := HG13.out
    have hZr := HT.out.1.siz
    have hws := HB.out.size
    have h0lt := (Array.getElem?_eq_some_iff.1 HBX.out).1
    have hleg := HTB.out.leg
    rw [HG.out.2.2.2, HO.out] at hleg
    exact tal_b4 (c := (c1, c2, c3)) (by kernel_rfl) hJ' hK' ⟨(HTB.out.bel.block _ h0lt).trans HBX.out, Nat.lt_of_lt_of_le h0lt HTB.out.bel.size, fun e => by omega⟩ HBD HVB ⟨HX10.out, hg13.1⟩ HVC HLF HTB.out.rows ⟨hleg, hlt, hwL, hZ, fun e => by omega⟩ ⟨HX13.out, hg13.2.2.1, by omega⟩ (fun i hi e => by have := (HT.out.1.rows.lt hi e).2; omega) HTB.out.bel ⟨HT.out.1.nb HT.out.2 (by have := HLN.out; have := HP2.out; omega) (by have := HLN.out; have := HP2.out; omega) (by have := HLN.out; have := HP2.out; omega) (by have := HLN.out; have := HP2.out; omega) (by have := HLN.out; have := HV.out; omega), by rw [HTB.out.n0.1, HLN.out.1], by rw [HTB.out.n0.2.2.1, HLN.out.2.2.1]⟩ ⟨HEV.out.1, HEV.out.2.2⟩ HQL HP2.out.1 (by have := HA0.out; omega) HV.out
  case rest =>
   obtain ⟨beds, a, T, rfl, rfl, rfl, HB4⟩ := hcut
   obtain ⟨F, hF⟩ : ∃ F, T.fin l0 in0 = F := ⟨_, rfl⟩
   have HF : Aside (T.fin l0 in0 = F) := hF
   rw [hF]
   clear hF
   have HTT : Aside (talT r h.beds (talK r h.beds v) v = (beds, a, T)) := by
    have := HB4.out.tv
    rw [← HP.out.2.1, ← HG.out.1, ← HG.out.2.1, ← HA.out, ← HP.out.1] at this
    exact this
   have hb4' := HB4.out
   rw [← HG.out.2.2.2, ← HO.out] at hb4'
   obtain ⟨vb, vv1, nn1, xx1, t1, t2, t3, t4, t5, t6, t7, t8⟩ := b4_tl HT.out.1 HG13.out.2.2.2 HG13.out.2.1 HG13.out.2.2.1 hb4'
   obtain ⟨g1, hg1⟩ : ∃ g1, ({ (talK r h.beds v).g with ended := if T.won = true then (talK r h.beds v).g.ended ++ [((p : Int), T.darts)] else (talK r h.beds v).g.ended } : LegG) = g1 := ⟨_, rfl⟩
   have HG1 : Aside (({ (talK r h.beds v).g with ended := if T.won = true then (talK r h.beds v).g.ended ++ [((p : Int), T.darts)] else (talK r h.beds v).g.ended } : LegG) = g1 ∧ g1.left = (talK r h.beds v).g.left ∧ g1.inn = (talK r h.beds v).g.inn ∧ g1.darts = (talK r h.beds v).g.darts ∧ g1.round = rn ∧ g1.over = false) := ⟨hg1, by rw [← hg1], by rw [← hg1], by rw [← hg1], by rw [← hg1]; exact HG.out.2.2.2, by rw [← hg1]; exact HO.out⟩
   rw [hg1] at t1
   clear hg1 hb4'
   obtain ⟨va, vc, rfl⟩ := owns_sl t3
   obtain ⟨nb, hnb⟩ : ∃ nb, beds.length = nb := ⟨_, rfl⟩
   have HNB : Aside (beds.length = nb ∧ nb ≤ 3) := ⟨hnb, by rw [← hnb]; exact HB4.out.len⟩
   rw [hnb] at t2 t3 t4
   clear hnb
   have HT1 : Aside (TlAt w Z L4 g1 (talK r h.beds v).vs vv1 nn1 xx1 wc ∧ (∀ i, 6 ≤ i → nn1 i = 0)) := ⟨t1, fun i hi => (t7 i (by omega)).trans (HT.out.2 i hi)⟩
   have HV1 : Aside (vv1 0 = .slice (some ⟨lg, 0, none⟩) nc lc ∧ vv1 1 = .slice (some ⟨tg, 0, none⟩) nc tc ∧ vv1 2 = .slice (some ⟨ig, 0, none⟩) nc ic) := ⟨t6.1.trans HEV.out.1, t6.2.1.trans HEV.out.2.1, t6.2.2.trans HEV.out.2.2⟩
   have HW13 : Aside (wc.heap[g13]? = some (.cells #[.int .i64 (p : Int), .slice va nb vc] 84 (0, 0)) ∧ (∀ i, i < 6 → (vv1 i).ownBlock ≠ some g13) ∧ wb.heap.size ≤ wc.heap.size) := ⟨t2, t5, t8⟩
   have HOB : Aside (wc.ownsRow wb.heap.size 34 1 (.slice va nb vc) nb (beds.map (Value.int .i64)) ∧ (∀ i, i < 6 → ∀ q, (Value.slice va nb vc).ownBlock = some q → (vv1 i).ownBlock ≠ some q)) := ⟨t3, t4⟩
   have HN1 : Aside (nn1 0 = nc ∧ nn1 1 = nc ∧ nn1 2 = nc) := ⟨(t7 0 (by omega)).trans (HTB.out.n0.1.trans HLN.out.1), (t7 1 (by omega)).trans (HTB.out.n0.2.1.trans HLN.out.2.1), (t7 2 (by omega)).trans (HTB.out.n0.2.2.1.trans HLN.out.2.2.1)⟩
   clear t1 t2 t3 t4 t5 t6 t7 t8 HB4
   have hleg : wc.heap[L4]? = some (.cells (tlC vv1 rn false) 81 (0, 0)) := by have := HT1.out.1.leg; rw [HG1.out.2.2.2.2.1, HG1.out.2.2.2.2.2] at this; exact this
   have hnn : ∀ i, nn1 i ≤ 1000 := HT1.out.1.nb HT1.out.2 (by rw [HG1.out.2.1]; have := HLN.out; have := HP2.out; omega) (by rw [HG1.out.2.2.2.1]; have := HLN.out; have := HP2.out; omega) (by rw [HG1.out.2.2.1]; have := HLN.out; have := HP2.out; omega) (by rw [← HG1.out.1]; have := HLN.out; have := HP2.out; show (if _ then _ else _ : List (Int × Int)).length ≤ _; split <;> (try rw [List.length_append, List.length_singleton]) <;> omega) (by have := HLN.out; have := HV.out; omega)
   have hg13lt : g13 < wc.heap.size := by have := HG13.out.2.2.1; have := HW13.out.2.2; omega
   have hgne : g13 ≠ L4 := by have := HG13.out; have := HT.out.1.siz; have := HT.out.1.lt; omega
   go_upto_region 23 with (fail)
   refine tal23 HT1.out.1.rows hleg HT1.out.1.bel HT1.out.1.siz HT1.out.1.lt HT1.out.1.new ⟨hnn, HN1.out.1, HN1.out.2.2⟩ ⟨HV1.out.1, HV1.out.2.2⟩ HW13.out.1 hgne HW13.out.2.1 hltp hltz (by kernel_rfl) (by rfl) (by rfl) (by rfl) (by rfl) (by rfl) (by rfl) ?rest23
   case rest23 =>
    intro ac w5 hL
    have e168 : ac.tmps.getD 168 undef = .pointer (some ⟨L4, 1, none⟩) := hL.new 0 _ 168 rfl rfl rfl
    have e169 : ac.tmps.getD 169 undef = .slice (some ⟨lg, 0, none⟩) nc lc := hL.new 1 _ 169 rfl rfl rfl
    have e170 : ac.tmps.getD 170 undef = .int .i64 (p : Int) := hL.new 2 _ 170 rfl rfl rfl
    have e171 : ac.tmps.getD 171 undef = .pointer (some ⟨L4, 3, none⟩) := hL.new 3 _ 171 rfl rfl rfl
    have e172 : ac.tmps.getD 172 undef = .slice (some ⟨ig, 0, none⟩) nc ic := hL.new 4 _ 172 rfl rfl rfl
    have e173 : ac.tmps.getD 173 undef = .int .i64 (p : Int) := hL.new 5 _ 173 rfl rfl rfl
    have e174 : ac.tmps.getD 174 undef = .pointer (some ⟨L4, 0, none⟩) := hL.new 6 _ 174 rfl rfl rfl
    have e175 : ac.tmps.getD 175 undef = vv1 5 := hL.new 7 _ 175 rfl rfl rfl
    have e176 : ac.tmps.getD 176 undef = .agg #[.int .i64 (p : Int), .slice va nb vc] := hL.new 8 _ 176 rfl rfl rfl
    obtain ⟨y177, e177⟩ : ∃ x, ac.tmps.getD 177 undef = x := ⟨_, rfl⟩
    obtain ⟨y178, e178⟩ : ∃ x, ac.tmps.getD 178 undef = x := ⟨_, rfl⟩
    have e179 : ac.tmps.getD 179 undef = .int .i64 F.left := hL.new 11 _ 179 rfl rfl rfl
    have e180 : ac.tmps.getD 180 undef = .bool F.inn := hL.new 12 _ 180 rfl rfl rfl
    have e181 : ac.tmps.getD 181 undef = .pointer (some ⟨L4, 0, none⟩) := hL.new 13 _ 181 rfl rfl rfl
    have e182 : ac.tmps.getD 182 undef = .pointer (some ⟨lg, p, none⟩) := hL.new 15 _ 182 rfl rfl rfl
    have e183 : ac.tmps.getD 183 undef = .pointer (some ⟨ig, p, none⟩) := hL.new 17 _ 183 rfl rfl rfl
    have HCL : Aside (∃ E, C23 w Z L4 vv1 nn1 xx1 rn false p F.left F.inn [.int .i64 (p : Int), .slice va nb vc] wc #[true, true, true, true, true, true, true, true, true, true, true, true, true, true, true, true, true, true, true] ac E w5) := hL.cls
    have es_ := hL.sets [168, 169, 170, 171, 172, 173, 174, 175, 176, 177, 178, 179, 180, 181, 182, 183] (by decide +kernel)
    rw [List.foldl_cons, List.foldl_cons, List.foldl_cons, List.foldl_cons, List.foldl_cons, List.foldl_cons, List.foldl_cons, List.foldl_cons, List.foldl_cons, List.foldl_cons, List.foldl_cons, List.foldl_cons, List.foldl_cons, List.foldl_cons, List.foldl_cons, List.foldl_cons, List.foldl_nil, e168, e169, e170, e171, e172, e173, e174, e175, e176, e177, e178, e179, e180, e181, e182, e183] at es_
    rw [es_]
    clear es_ hL e168 e169 e170 e171 e172 e173 e174 e175 e176 e177 e178 e179 e180 e181 e182 e183
    obtain ⟨E, hE⟩ := HCL.out
    have hE' := hE
    rw [← HG1.out.2.2.2.2.1, ← HG1.out.2.2.2.2.2] at hE'
    obtain ⟨vv2, nn2, xx2, t1, t2, t3, t4⟩ := c23_tl (beds := beds) HT1.out.1 hE' rfl rfl rfl rfl (by rw [HNB.out.1]; exact own_mono HOB.out.1 HTB.out.siz) HOB.out.2
    have HT2 : Aside (TlAt w Z L4 { g1 with left := g1.left.set p F.left, inn := g1.inn.set p F.inn } ((talK r h.beds v).vs ++ [((p : Int), beds)]) vv2 nn2 xx2 w5 ∧ (∀ i, 6 ≤ i → nn2 i = 0)) := ⟨t1, fun i hi => (t4 i hi).trans (HT1.out.2 i hi)⟩
    have HV2 : Aside (vv2 1 = .slice (some ⟨tg, 0, none⟩) nc tc ∧ nn2 1 = nc) := ⟨t2.trans HV1.out.2.1, t3.trans HN1.out.2.1⟩
    have x13 : w5.heap[g13]? = some (.cells #[.int .i64 (p : Int), .slice va nb vc] 84 (0, 0)) := (hE.oth g13 hg13lt hgne HW13.out.2.1).trans HW13.out.1
    clear hE hE' t1 t2 t3 t4 HCL hleg hnn hg13lt
    refine wpAny_done (by decide +kernel) ?_ _
    simp only [List.setIfInBounds_toArray, List.set_cons_zero, List.set_cons_succ]
    have kt : w5.cell? ⟨L4, 2, none⟩ = some (.slice (some ⟨tg, 0, none⟩) nc tc) := by rw [← HV2.out.1]; exact blk_cell HT2.out.1.leg (i := 2) rfl
    have qt : w5.cell? ⟨tg, p, none⟩ = some (.int .i64 d0) := by
     obtain ⟨g9, c9, e9, f9⟩ := own_at (p := p) (show w5.ownsRow Z (tlT 1) 1 (vv2 1) (nn2 1) (xx2 1) from HT2.out.1.rows.own 1 (by omega)) (by rw [HV2.out.2]; exact hltp)
     rw [HV2.out.1] at e9
     simp only [Value.slice.injEq, Option.some.injEq, Addr.mk.injEq, and_true] at e9
     obtain ⟨rfl, -, -⟩ := e9
     refine f9 p _ ?_
     rw [HT2.out.1.x1, List.getElem?_map]
     show Option.map _ (g1.darts[p]?) = _
     rw [HG1.out.2.2.2.1, List.getElem?_eq_getElem (by rw [HLN.out.2.1]; exact hltp)]
     have := HG.out.2.2.1
     rw [List.getD_eq_getElem?_getD, List.getElem?_eq_getElem (by rw [HLN.out.2.1]; exact hltp)] at this
     simp only [Option.getD_some] at this
     rw [this]; rfl
    have kb := blk_cell x13 (i := 1) rfl
    have ed : IntKind.i64.wrap (d0 + (nb : Int)) = d0 + (nb : Int) := IntWalk.i64_in _ (by have := HD0.out; have := HNB.out; omega)
    clear x13
    go_upto_region 24 with (fail)
    refine tal24 kt qt kb hltp hltz ed (by kernel_rfl) (by rfl) (by rfl) (by rfl) (by rfl) ?rest24
    case rest24 =>
     intro ac w6 hL
     have e184 : ac.tmps.getD 184 undef = .pointer (some ⟨L4, 2, none⟩) := hL.new 0 _ 184 rfl rfl rfl
     have e185 : ac.tmps.getD 185 undef = .slice (some ⟨tg, 0, none⟩) nc tc := hL.new 1 _ 185 rfl rfl rfl
     have e186 : ac.tmps.getD 186 undef = .int .i64 (p : Int) := hL.new 2 _ 186 rfl rfl rfl
     have e187 : ac.tmps.getD 187 undef = .pointer (some ⟨tg, p, none⟩) := hL.new 3 _ 187 rfl rfl rfl
     have e188 : ac.tmps.getD 188 undef = .int .i64 d0 := hL.new 4 _ 188 rfl rfl rfl
     have e189 : ac.tmps.getD 189 undef = .pointer (some ⟨g13, 1, none⟩) := hL.new 5 _ 189 rfl rfl rfl
     have e190 : ac.tmps.getD 190 undef = .slice va nb vc := hL.new 6 _ 190 rfl rfl rfl
     have e191 : ac.tmps.getD 191 undef = .int .i64 (nb : Int) := hL.new 7 _ 191 rfl rfl rfl
     have e192 : ac.tmps.getD 192 undef = .int .i64 (d0 + (nb : Int)) := hL.new 8 _ 192 rfl rfl rfl
     have e193 : ac.tmps.getD 193 undef = .pointer (some ⟨tg, p, none⟩) := hL.new 9 _ 193 rfl rfl rfl
     have hb6 : Below w5.heap.size w5 w6 := hL.cls
     have es_ := hL.sets [184, 185, 186, 187, 188, 189, 190, 191, 192, 193] (by decide +kernel)
     rw [List.foldl_cons, List.foldl_cons, List.foldl_cons, List.foldl_cons, List.foldl_cons, List.foldl_cons, List.foldl_cons, List.foldl_cons, List.foldl_cons, List.foldl_cons, List.foldl_nil, e184, e185, e186, e187, e188, e189, e190, e191, e192, e193] at es_
     rw [es_]
     clear es_ hL e184 e185 e186 e187 e188 e189 e190 e191 e192 e193
     simp only [List.setIfInBounds_toArray, List.set_cons_zero, List.set_cons_succ]
     have HT3 : Aside (TlAt w Z L4 { g1 with left := g1.left.set p F.left, inn := g1.inn.set p F.inn } ((talK r h.beds v).vs ++ [((p : Int), beds)]) vv2 nn2 xx2 w6) := HT2.out.1.below hb6
     have kq : w6.cell? ⟨tg, p, none⟩ = some (.int .i64 d0) := (cell_blk (hb6.block _ (cell_lt qt))).trans qt
     have kf := own_free (show w6.ownsRow Z (tlT 1) 1 (vv2 1) (nn2 1) (xx2 1) from HT3.out.rows.own 1 (by omega)) HV2.out.1
     clear hb6 kt qt kb
     obtain ⟨xx3, hx3⟩ := HT3.out.setD HV2.out.1 (by rw [HV2.out.2]; exact hltp) (d0 + (nb : Int))
     refine wpAny_one (i := 10) (by decide +kernel) rfl rfl ?_
     unfold Oper.wp
     go_simp
     refine wpAny_done (by decide +kernel) ?_ _
     obtain ⟨w7, hw7⟩ : ∃ u, u = w6.setCell ⟨tg, p, none⟩ (.int .i64 (d0 + (nb : Int))) := ⟨_, rfl⟩
     rw [← hw7] at hx3 ⊢
     obtain ⟨g3, hg3⟩ : ∃ g3, ({ g1 with left := g1.left.set p F.left, inn := g1.inn.set p F.inn, darts := g1.darts.set p (d0 + (nb : Int)) } : LegG) = g3 := ⟨_, rfl⟩
     have HG3 : Aside (({ g1 with left := g1.left.set p F.left, inn := g1.inn.set p F.inn, darts := g1.darts.set p (d0 + (nb : Int)) } : LegG) = g3 ∧ g3.round = rn ∧ g3.over = false ∧ g3.ended = g1.ended) := ⟨hg3, by rw [← hg3]; exact HG1.out.2.2.2.2.1, by rw [← hg3]; exact HG1.out.2.2.2.2.2, by rw [← hg3]⟩
     have HT7 : Aside (TlAt w Z L4 g3 ((talK r h.beds v).vs ++ [((p : Int), beds)]) vv2 nn2 xx3 w7) := by show TlAt ..; rw [← hg3]; exact hx3
     clear hw7 hx3 hg3 kq kf HT3
     obtain ⟨cm, hcm⟩ : ∃ m, v % nc = m := ⟨_, rfl⟩
     have e25 : Int.tmod (v : Int) (nc : Int) = (cm : Int) := by rw [Int.tmod_eq_emod_of_nonneg (by omega), ← hcm]; exact (Int.natCast_emod v nc).symm
     have hcl : cm < nc := by rw [← hcm]; exact Nat.mod_lt _ (by omega)
     have ec : IntKind.i64.wrap (cm : Int) = (cm : Int) := IntWalk.i64_in _ (by have := HP2.out; omega)
     have en : IntKind.i64.wrap ((nc : Int) - 1) = (nc : Int) - 1 := IntWalk.i64_in _ (by have := HP2.out; omega)
     have HCM : Aside (v % nc = cm) := hcm
     clear hcm
     obtain ⟨cp, hcp⟩ : ∃ b, decide ((cm : Int) = (nc : Int) - 1) = b := ⟨_, rfl⟩
     have HCP : Aside (decide ((cm : Int) = (nc : Int) - 1) = cp) := hcp
     have hbq : ((cm : Int) == (nc : Int) - 1) = cp := by rw [← hcp]; rfl
     clear hcp
     have kr : w7.cell? ⟨L4, 6, none⟩ = some (.int .i64 rn) := by rw [← HG3.out.2.1]; exact blk_cell HT7.out.leg (i := 6) rfl
     have kfr := blk_free HT7.out.leg
     have er : IntKind.i64.wrap (rn + 1) = rn + 1 := IntWalk.i64_in _ (by have := HRN.out; omega)
     go_upto_if 199 with (fail)
     go_cut [] from 55 to 236 (fun wf => Aside (TlAt w Z L4 ({ g3 with round := if cp = true then rn + 1 else rn } : LegG) ((talK r h.beds v).vs ++ [((p : Int), beds)]) vv2 nn2 xx3 wf))
     case first =>
      cases cp with
      | true =>
       go_wp2_with fail
       go_meet
       exact HT7.out.setR (rn + 1)
      | false =>
       go_wp2_with fail
       go_meet
       exact HT7.out.congr rfl rfl rfl rfl (by show (if false = true then rn + 1 else rn) = _; rw [if_neg (by decide)]; exact HG3.out.2.1.symm) rfl
     case rest =>
      have HT8 : Aside (TlAt w Z L4 ({ g3 with round := if cp = true then rn + 1 else rn } : LegG) ((talK r h.beds v).vs ++ [((p : Int), beds)]) vv2 nn2 xx3 wc) := hcut
      clear hcut kr kfr er
      have hnx := tal_next HR.out.1 HVB.out HO.out
      rw [HP.out.1, HG.out.1, HG.out.2.1, HTT.out, HR.out.2] at hnx
      dsimp only at hnx
      rw [HF.out, HNB.out.1] at hnx
      have hcm : decide ((v : Int) % (nc : Int) = (nc : Int) - 1) = cp := by
       rw [← Int.natCast_emod, HCM.out]; exact HCP.out
      rw [hcm] at hnx
      have HNX : Aside ((talK r h.beds (v + 1)).vs = (talK r h.beds v).vs ++ [((p : Int), beds)] ∧ (talK r h.beds (v + 1)).a = a) := ⟨hnx.1, hnx.2.1⟩
      obtain ⟨rd, hrd⟩ : ∃ rd, (if cp = true then rn + 1 else rn) = rd := ⟨_, rfl⟩
      have HFIN : Aside (∀ W ov', ov' = ((!(g3.ended.isEmpty) && (cp || !eq)) || (cp && rd == rr)) → TlAt w Z L4 ({ g3 with round := rd, over := ov' } : LegG) ((talK r h.beds v).vs ++ [((p : Int), beds)]) vv2 nn2 xx3 W → TlAt w Z L4 (talK r h.beds (v + 1)).g (talK r h.beds (v + 1)).vs vv2 nn2 xx3 W) := by
       intro W ov' ho ht
       have hN := hnx.2.2
       rw [hnx.1]
       have y1 : g3.left = (talK r h.beds v).g.left.set p F.left := by rw [← HG3.out.1]; show g1.left.set p F.left = _; rw [HG1.out.2.1]
       have y2 : g3.darts = (talK r h.beds v).g.darts.set p (d0 + (nb : Int)) := by rw [← HG3.out.1]; show g1.darts.set p _ = _; rw [HG1.out.2.2.2.1]
       have y3 : g3.inn = (talK r h.beds v).g.inn.set p F.inn := by rw [← HG3.out.1]; show g1.inn.set p F.inn = _; rw [HG1.out.2.2.1]
       have y4 : g3.ended = if T.won = true then (talK r h.beds v).g.ended ++ [((p : Int), T.darts)] else (talK r h.beds v).g.ended := by rw [HG3.out.2.2.2, ← HG1.out.1]
       have y5 : (talK r h.beds (v + 1)).g.round = rd := by rw [hN.round, HG.out.2.2.2]; exact hrd
       refine ht.congr (hN.left.trans y1.symm) (hN.darts.trans ?_) (hN.inn.trans y3.symm) (hN.ended.trans y4.symm) y5 ?_
       ·rw [HG.out.2.2.1]; exact y2.symm
       ·rw [hN.over, hN.ended, ← y4, y5, HP.out.2.2.2.1, HP.out.2.2.2.2]; exact ho.symm
      rw [hrd] at HT8
      clear hnx hcm hrd
      have kx3 : wc.heap[L3]? = some (.cells #[.slice (some ⟨cb, co, none⟩) nc cc, .int .i64 fr, .int .i64 rr, .bool eq] 42 (0, 0)) := by
       rw [← HP.out.2.2.1, ← HP.out.2.2.2.1, ← HP.out.2.2.2.2]
       exact (HT8.out.bel.block _ (Array.getElem?_eq_some_iff.1 HL3.out).1).trans HL3.out
      have k32 : wc.cell? ⟨L3, 2, none⟩ = some (.int .i64 rr) := blk_cell kx3 (i := 2) rfl
      have k33 : wc.cell? ⟨L3, 3, none⟩ = some (.bool eq) := blk_cell kx3 (i := 3) rfl
      clear kx3
      have hleg : wc.heap[L4]? = some (.cells (tlC vv2 rd false) 81 (0, 0)) := by have := HT8.out.leg; rw [show ({ g3 with round := rd } : LegG).over = false from HG3.out.2.2.1] at this; exact this
      have k4 := blk_cell hleg (i := 4) rfl
      have k6 : wc.cell? ⟨L4, 6, none⟩ = some (.int .i64 rd) := blk_cell hleg (i := 6) rfl
      have k7 : wc.cell? ⟨L4, 7, none⟩ = some (.bool false) := blk_cell hleg (i := 7) rfl
      have kf7 := blk_free hleg
      obtain ⟨a3, c3', e3⟩ := owns_sl (show wc.ownsRow Z (tlT 3) 1 (vv2 3) (nn2 3) (xx3 3) from HT8.out.rows.own 3 (by omega))
      have n3 : nn2 3 = g3.ended.length := HT8.out.n0.2.2.2.1
      change wc.cell? ⟨L4, 4, none⟩ = some (vv2 3) at k4
      rw [e3, n3] at k4
      clear hleg e3 n3
      obtain ⟨es, hes⟩ : ∃ es, g3.ended = es := ⟨_, rfl⟩
      have HES : Aside (g3.ended = es) := hes
      rw [hes] at k4
      obtain ⟨ne, hne⟩ : ∃ ne, es.length = ne := ⟨_, rfl⟩
      have HNE : Aside (es.length = ne) := hne
      rw [hne] at k4
      clear hes hne
      have HIE : Aside (g3.ended.isEmpty = decide (ne = 0)) := by
       show _ = _
       rw [HES.out, ← HNE.out]
       cases es <;> simp
      have H2N : Aside (∀ i, 6 ≤ i → nn2 i = 0) := HT2.out.2
      by_cases hz : 0 < ne
      ·have hgt : (ne : Int) > 0 := by omega
       have hzz : decide (ne = 0) = false := by simp; omega
       cases eq with
       | false =>
        go_wp2_with fail
        go_meet
        exact ⟨vv2, nn2, xx3, by rw [HNX.out.2], HFIN.out _ true (by rw [HIE.out, hzz]; simp) (HT8.out.setO true), H2N.out⟩
       | true =>
        cases cp with
        | true =>
         go_wp2_with fail
         go_meet
         exact ⟨vv2, nn2, xx3, by rw [HNX.out.2], HFIN.out _ true (by rw [HIE.out, hzz]; simp) (HT8.out.setO true), H2N.out⟩
        | false =>
         go_wp2_with fail
         go_meet
         exact ⟨vv2, nn2, xx3, by rw [HNX.out.2], HFIN.out _ false (by rw [HIE.out, hzz]; simp) (HT8.out.setO false), H2N.out⟩
      ·have hgt : ¬ (ne : Int) > 0 := by omega
       have hzz : decide (ne = 0) = true := by simp; omega
       cases cp with
       | false =>
        go_wp2_with fail
        go_meet
        exact ⟨vv2, nn2, xx3, by rw [HNX.out.2], HFIN.out _ false (by rw [HIE.out, hzz]; simp) (HT8.out.setO false), H2N.out⟩
       | true =>
        by_cases hq : rd = rr
        ·have hqq : (rd == rr) = true := by simpa using hq
         clear hq
         go_wp2_with fail
         go_meet
         exact ⟨vv2, nn2, xx3, by rw [HNX.out.2], HFIN.out _ true (by rw [HIE.out, hzz, hqq]; simp) (HT8.out.setO true), H2N.out⟩
        ·have hqq : (rd == rr) = false := by simpa using hq
         clear hq
         go_wp2_with fail
         go_meet
         exact ⟨vv2, nn2, xx3, by rw [HNX.out.2], HFIN.out _ false (by rw [HIE.out, hzz, hqq]; simp) (HT8.out.setO false), H2N.out⟩
end
end Go.Proofs.Ytnhjoebdmmelaaa
