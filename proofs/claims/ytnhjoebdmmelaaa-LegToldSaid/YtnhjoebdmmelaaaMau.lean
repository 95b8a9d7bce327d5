/- Leg: parts Ih, Ij, Il, Im, In, Io, Ip. -/
import Derived.Test.YtnhjoebdmmelaaaMat
import Derived.Test.YtnhjoebdmmelaaaMao
import Derived.Test.YtnhjoebdmmelaaaMap
set_option linter.unusedVariables false
set_option linter.unusedSimpArgs false
namespace Go.Proofs.Ytnhjoebdmmelaaa
section
open Go.RowKit Go.Maps Go.Sort Go.Shelf Go.Deep
theorem own_cellG {w : World} {b n0 g n c p : Nat} {T : TypeId} {v : Value} {sz : Nat} {xs : List Value} (h : w.ownsRow b T sz v n0 xs) (hv : v = .slice (some ⟨g, 0, none⟩) n c) (hs : sz = 1) (hp : p < n0) : ∃ x, w.cell? ⟨g, p, none⟩ = some x ∧ ∀ i, w.frozen? ⟨g, i, none⟩ = false := by
 subst hs
 rcases h.2 with ⟨e1, h0⟩ | ⟨g', cap, cur, e1, _, hg, hn, _, hsz, _⟩
 ·omega
 ·rw [hv] at e1
  simp only [Value.slice.injEq, Option.some.injEq, Addr.mk.injEq, and_true] at e1
  obtain ⟨rfl, -, -⟩ := e1
  have hl : p < cur.size := by omega
  exact ⟨_, blk_cell hg (Array.getElem?_eq_getElem hl), fun i => blk_free hg i⟩
section
variable {w wr w5 : World} {Z L4 g13 nc lg lc ig ic nb bc p : Nat} {l rn : Int} {b0 ov : Bool} {bb : Option Addr} {v : Nat → Value} {n : Nat → Nat} {xs : Nat → List Value}
set_option maxRecDepth 100000 in
set_option maxHeartbeats 16000000 in
theorem tal23 {ops : List Oper} {Q : Exit → Act → World → Prop} {a0 : Act} (HRS : Aside (Rws Z 6 (tlD v n xs) wr)) (hl4 : wr.heap[L4]? = some (.cells (tlC v rn ov) 81 (0, 0))) (HBW : Aside (Below w.heap.size w wr)) (hZ : Z ≤ wr.heap.size) (hL4 : L4 < Z) (hwL : w.heap.size ≤ L4) (HNN : Aside ((∀ i, n i ≤ 1000) ∧ n 0 = nc ∧ n 2 = nc)) (HVV : Aside (v 0 = .slice (some ⟨lg, 0, none⟩) nc lc ∧ v 2 = .slice (some ⟨ig, 0, none⟩) nc ic)) (HV13 : wr.heap[g13]? = some (.cells #[.int .i64 (p : Int), .slice bb nb bc] 84 (0, 0))) (hne13 : g13 ≠ L4) (HNR : Aside (∀ i, i < 6 → (v i).ownBlock ≠ some g13)) (hltp : p < nc) (hltz : (p : Int) < (nc : Int)) (hops : regOps 23 Try.f34 = some ops) (hsz0 : a0.tmps.size = 238) (hs4 : a0.tmps.getD 4 undef = .pointer (some ⟨L4, 0, none⟩)) (hs9 : a0.tmps.getD 9 undef = .int .i64 (p : Int)) (hs11 : a0.tmps.getD 11 undef = .int .i64 l) (hs12 : a0.tmps.getD 12 undef = .bool b0) (hs13 : a0.tmps.getD 13 undef = .pointer (some ⟨g13, 0, none⟩))
  (hrest : ∀ (ac : Act) (w5 : World), LaidG ops.toArray a0 (fun (i : Nat) (x : Value) (ww : World) => (match i with | 0 => x = .pointer (some ⟨L4, 1, none⟩) | 1 => x = .slice (some ⟨lg, 0, none⟩) nc lc | 2 => x = .int .i64 (p : Int) | 3 => x = .pointer (some ⟨L4, 3, none⟩) | 4 => x = .slice (some ⟨ig, 0, none⟩) nc ic | 5 => x = .int .i64 (p : Int) | 6 => x = .pointer (some ⟨L4, 0, none⟩) | 7 => x = v 5 | 8 => x = .agg #[.int .i64 (p : Int), .slice bb nb bc] | 9 => True | 10 => True | 11 => x = .int .i64 l | 12 => x = .bool b0 | 13 => x = .pointer (some ⟨L4, 0, none⟩) | 14 => True | 15 => x = .pointer (some ⟨lg, p, none⟩) | 16 => True | 17 => x = .pointer (some ⟨ig, p, none⟩) | 18 => True | _ => True : Prop)) (fun listed a W => ∃ E, C23 w Z L4 v n xs rn ov p l b0 [.int .i64 (p : Int), .slice bb nb bc] wr listed a E W) #[true, true, true, true, true, true, true, true, true, true, true, true, true, true, true, true, true, true, true] ac w5 → wpAny Try.prog .any ops.toArray Q 0 #[true, true, true, true, true, true, true, true, true, true, true, true, true, true, true, true, true, true, true] ac w5) : (Code.region 23 ops.toArray true).wp Try.prog Q a0 wr := by
 (conv at hops => lhs; whnf)
 obtain rfl := Option.some.inj hops
 clear hops
 obtain ⟨i0, hi0, hz0, hz1, hz2⟩ := info_parts info_visD
 refine region_laidK (fun _ _ => True) (fl := 16) [true, true, true, true, true, true, true, true, true, true, true, true, true, true, true, true, true, true, true] 0 (fun (i : Nat) (x : Value) (ww : World) => (match i with | 0 => x = .pointer (some ⟨L4, 1, none⟩) | 1 => x = .slice (some ⟨lg, 0, none⟩) nc lc | 2 => x = .int .i64 (p : Int) | 3 => x = .pointer (some ⟨L4, 3, none⟩) | 4 => x = .slice (some ⟨ig, 0, none⟩) nc ic | 5 => x = .int .i64 (p : Int) | 6 => x = .pointer (some ⟨L4, 0, none⟩) | 7 => x = v 5 | 8 => x = .agg #[.int .i64 (p : Int), .slice bb nb bc] | 9 => True | 10 => True | 11 => x = .int .i64 l | 12 => x = .bool b0 | 13 => x = .pointer (some ⟨L4, 0, none⟩) | 14 => True | 15 => x = .pointer (some ⟨lg, p, none⟩) | 16 => True | 17 => x = .pointer (some ⟨ig, p, none⟩) | 18 => True | _ => True : Prop)) (fun listed a W => ∃ E, C23 w Z L4 v n xs rn ov p l b0 [.int .i64 (p : Int), .slice bb nb bc] wr listed a E W) (by kernel_rfl) rfl (by rw [hsz0]; decide +kernel) rfl ⟨_, C23.start HBW.out hZ hl4 HRS.out _ _⟩ ?mono ?step hrest
 case mono =>
  intro i x ww ww' hB h
  match i, h with
  | 0, h => exact h
  | 1, h => exact h
  | 2, h => exact h
  | 3, h => exact h
  | 4, h => exact h
  | 5, h => exact h
  | 6, h => exact h
  | 7, h => exact h
  | 8, h => exact h
  | 9, h => exact h
  | 10, h => exact h
  | 11, h => exact h
  | 12, h => exact h
  | 13, h => exact h
  | 14, h => exact h
  | 15, h => exact h
  | 16, h => exact h
  | 17, h => exact h
  | 18, h => exact h
  | n + 19, h => exact h
 case step =>
  intro i o_ listed ac W hA ho hL he hcl hli hsz
  have hk4 : ac.tmps.getD 4 undef = .pointer (some ⟨L4, 0, none⟩) := (hL.kept 4 (by decide +kernel)).trans hs4
  have hk9 : ac.tmps.getD 9 undef = .int .i64 (p : Int) := (hL.kept 9 (by decide +kernel)).trans hs9
  have hk11 : ac.tmps.getD 11 undef = .int .i64 l := (hL.kept 11 (by decide +kernel)).trans hs11
  have hk12 : ac.tmps.getD 12 undef = .bool b0 := (hL.kept 12 (by decide +kernel)).trans hs12
  have hk13 : ac.tmps.getD 13 undef = .pointer (some ⟨g13, 0, none⟩) := (hL.kept 13 (by decide +kernel)).trans hs13
  obtain ⟨E, hG⟩ := hL.cls
  match i, hA, ho with
  | 0, _, ho =>
   cases ho
   refine wpOp_plain rfl rfl ?_
   unfold Oper.wp
   go_simp
   first | exact ⟨_, rfl, trivial, ⟨E, C23.other (i := 0) (t := 168) hG rfl⟩, rfl⟩ | exact ⟨trivial, ⟨E, C23.other (i := 0) (t := 168) hG rfl⟩⟩ | exact ⟨E, C23.other (i := 0) (t := 168) hG rfl⟩
  | 1, _, ho =>
   cases ho
   have d0 : ac.tmps.getD 168 undef = .pointer (some ⟨L4, 1, none⟩) := hL.new 0 _ 168 rfl (he ⟨0, .data⟩ (by simp) rfl) rfl
   have kl : W.cell? ⟨L4, 1, none⟩ = some (v 0) := blk_cell hG.leg rfl
   rw [HVV.out.1] at kl
   refine wpOp_plain rfl rfl ?_
   unfold Oper.wp
   go_simp
   first | exact ⟨_, rfl, trivial, ⟨E, C23.other (i := 1) (t := 169) hG rfl⟩, rfl⟩ | exact ⟨trivial, ⟨E, C23.other (i := 1) (t := 169) hG rfl⟩⟩ | exact ⟨E, C23.other (i := 1) (t := 169) hG rfl⟩
  | 2, _, ho =>
   cases ho
   refine wpOp_plain rfl rfl ?_
   unfold Oper.wp
   go_simp
   first | exact ⟨_, rfl, trivial, ⟨E, C23.other (i := 2) (t := 170) hG rfl⟩, rfl⟩ | exact ⟨trivial, ⟨E, C23.other (i := 2) (t := 170) hG rfl⟩⟩ | exact ⟨E, C23.other (i := 2) (t := 170) hG rfl⟩
  | 3, _, ho =>
   cases ho
   refine wpOp_plain rfl rfl ?_
   unfold Oper.wp
   go_simp
   first | exact ⟨_, rfl, trivial, ⟨E, C23.other (i := 3) (t := 171) hG rfl⟩, rfl⟩ | exact ⟨trivial, ⟨E, C23.other (i := 3) (t := 171) hG rfl⟩⟩ | exact ⟨E, C23.other (i := 3) (t := 171) hG rfl⟩
  | 4, _, ho =>
   cases ho
   have d3 : ac.tmps.getD 171 undef = .pointer (some ⟨L4, 3, none⟩) := hL.new 3 _ 171 rfl (he ⟨3, .data⟩ (by simp) rfl) rfl
   have kl : W.cell? ⟨L4, 3, none⟩ = some (v 2) := blk_cell hG.leg rfl
   rw [HVV.out.2] at kl
   refine wpOp_plain rfl rfl ?_
   unfold Oper.wp
   go_simp
   first | exact ⟨_, rfl, trivial, ⟨E, C23.other (i := 4) (t := 172) hG rfl⟩, rfl⟩ | exact ⟨trivial, ⟨E, C23.other (i := 4) (t := 172) hG rfl⟩⟩ | exact ⟨E, C23.other (i := 4) (t := 172) hG rfl⟩
  | 5, _, ho =>
   cases ho
   refine wpOp_plain rfl rfl ?_
   unfold Oper.wp
   go_simp
   first | exact ⟨_, rfl, trivial, ⟨E, C23.other (i := 5) (t := 173) hG rfl⟩, rfl⟩ | exact ⟨trivial, ⟨E, C23.other (i := 5) (t := 173) hG rfl⟩⟩ | exact ⟨E, C23.other (i := 5) (t := 173) hG rfl⟩
  | 6, _, ho =>
   cases ho
   refine wpOp_plain rfl rfl ?_
   unfold Oper.wp
   go_simp
   first | exact ⟨_, rfl, trivial, ⟨E, C23.other (i := 6) (t := 174) hG rfl⟩, rfl⟩ | exact ⟨trivial, ⟨E, C23.other (i := 6) (t := 174) hG rfl⟩⟩ | exact ⟨E, C23.other (i := 6) (t := 174) hG rfl⟩
  | 7, _, ho =>
   cases ho
   have d6 : ac.tmps.getD 174 undef = .pointer (some ⟨L4, 0, none⟩) := hL.new 6 _ 174 rfl (he ⟨6, .data⟩ (by simp) rfl) rfl
   have la : listed.getD 10 false = false := by
    cases hx : listed.getD 10 false with
    | false => rfl
    | true =>
     have h8 := hcl 10 _ rfl hx ⟨7, .data⟩ (by simp) rfl
     simp only [Array.getD_eq_getD_getElem?] at h8 hli
     rw [Array.getElem?_eq_getElem (show 7 < listed.size by rw [hsz]; decide)] at h8 hli
     rw [Option.getD_some] at h8 hli
     rw [h8] at hli
     exact absurd hli (by simp)
   have lx : listed.getD 14 false = false := by
    cases hx : listed.getD 14 false with
    | false => rfl
    | true =>
     have h8 := hcl 14 _ rfl hx ⟨10, .data⟩ (by simp) rfl
     rw [la] at h8; cases h8
   have kl : W.cell? ⟨L4, 0, none⟩ = some (v 5) := by
    have h := hG.leg
    rw [lx] at h
    exact blk_cell h rfl
   refine wpOp_plain rfl rfl ?_
   unfold Oper.wp
   go_simp
   first | exact ⟨_, rfl, trivial, ⟨E, C23.other (i := 7) (t := 175) hG rfl⟩, rfl⟩ | exact ⟨trivial, ⟨E, C23.other (i := 7) (t := 175) hG rfl⟩⟩ | exact ⟨E, C23.other (i := 7) (t := 175) hG rfl⟩
  | 8, _, ho =>
   cases ho
   have k13 := (hG.oth g13 (Array.getElem?_eq_some_iff.1 HV13).1 hne13 HNR.out).trans HV13
   have k0 := blk_cell k13 (i := 0) rfl
   have k1 := blk_cell k13 (i := 1) rfl
   clear k13
   refine wpOp_plain rfl rfl ?_
   unfold Oper.wp
   go_simp
   first | exact ⟨_, rfl, trivial, ⟨E, C23.other (i := 8) (t := 176) hG rfl⟩, rfl⟩ | exact ⟨trivial, ⟨E, C23.other (i := 8) (t := 176) hG rfl⟩⟩ | exact ⟨E, C23.other (i := 8) (t := 176) hG rfl⟩
  | 9, _, ho =>
   cases ho
   have d8 : ac.tmps.getD 176 undef = .agg #[.int .i64 (p : Int), .slice bb nb bc] := hL.new 8 _ 176 rfl (he ⟨8, .data⟩ (by simp) rfl) rfl
   simp only [Array.getD_eq_getD_getElem?] at d8
   refine wpOp_plain rfl rfl ?_
   unfold Oper.wp
   go_simp
   have hC := hG.build (by rw [hL.size, hsz0]; exact (by decide : (177 : Nat) < 238)) hL4
   first | exact ⟨_, rfl, E, hC⟩ | exact ⟨_, rfl, trivial, ⟨E, hC⟩, trivial⟩
  | 10, _, ho =>
   cases ho
   have d7 : ac.tmps.getD 175 undef = v 5 := hL.new 7 _ 175 rfl (he ⟨7, .data⟩ (by simp) rfl) rfl
   have lb : listed.getD 9 false = true := he ⟨9, .data⟩ (by simp) rfl
   have ls : listed.getD 10 false = false := by
    simp only [Array.getD_eq_getD_getElem?] at hli ⊢
    rw [Array.getElem?_eq_getElem (show 10 < listed.size by rw [hsz]; decide)] at hli ⊢
    simpa using hli
   have lx : listed.getD 14 false = false := by
    cases hx : listed.getD 14 false with
    | false => rfl
    | true =>
     have h8 := hcl 14 _ rfl hx ⟨10, .data⟩ (by simp) rfl
     rw [ls] at h8; cases h8
   obtain ⟨g, g1, g2, g3, g4⟩ := hG.one lb
   have h5 := hG.e5.1 ls
   have hown := hG.rows.own 5 (show 5 < 6 by decide)
   rw [h5] at hown
   have hown2 : W.ownsRow Z 84 2 (ac.tmps.getD 175 undef) (n 5) (xs 5) := by rw [d7]; exact hown
   have hn5 := HNN.out.1 5
   refine wpOp_plain rfl rfl ?_
   refine wp_append_own_at (.tmp 175) (.tmp 177) 43 rfl Z 84 i0 (.agg #[.int .i64 0, .slice none 0 0]) 2 32 Try.underlying43 hi0 hz0 hz1 hz2 rfl (by decide) _ _ _ rfl hown2 ⟨g, 0, none⟩ 1 1 [.int .i64 (p : Int), .slice bb nb bc] (by exact g1) rfl (by intro j u h; match j, h with | 0, h => (simp at h; subst h; exact blk_cell g3 rfl) | 1, h => (simp at h; subst h; exact blk_cell g3 rfl) | j + 2, h => simp at h) (by intro u hu; simp at hu; rcases hu with rfl | rfl <;> rfl) (by unfold maxLen; omega) (by omega) hG.siz ?_
   intro v' W' hown' hg' hat'
   change W.grownBy W' (ac.tmps.getD 175 undef).ownBlock at hg'
   change v'.ownBlock = (ac.tmps.getD 175 undef).ownBlock ∨ _ at hat'
   rw [d7] at hg' hat'
   obtain ⟨E', hC⟩ := hG.app (by rw [hL.size, hsz0]; exact (by decide : (178 : Nat) < 238)) (by rw [hsz]; exact (by decide : (10 : Nat) < 19)) hL4 (by omega) ls lx hown' hg' hat'
   exact ⟨_, rfl, trivial, ⟨E', hC⟩, trivial⟩
  | 11, _, ho =>
   cases ho
   refine wpOp_plain rfl rfl ?_
   unfold Oper.wp
   go_simp
   first | exact ⟨_, rfl, trivial, ⟨E, C23.other (i := 11) (t := 179) hG rfl⟩, rfl⟩ | exact ⟨trivial, ⟨E, C23.other (i := 11) (t := 179) hG rfl⟩⟩ | exact ⟨E, C23.other (i := 11) (t := 179) hG rfl⟩
  | 12, _, ho =>
   cases ho
   refine wpOp_plain rfl rfl ?_
   unfold Oper.wp
   go_simp
   first | exact ⟨_, rfl, trivial, ⟨E, C23.other (i := 12) (t := 180) hG rfl⟩, rfl⟩ | exact ⟨trivial, ⟨E, C23.other (i := 12) (t := 180) hG rfl⟩⟩ | exact ⟨E, C23.other (i := 12) (t := 180) hG rfl⟩
  | 13, _, ho =>
   cases ho
   refine wpOp_plain rfl rfl ?_
   unfold Oper.wp
   go_simp
   first | exact ⟨_, rfl, trivial, ⟨E, C23.other (i := 13) (t := 181) hG rfl⟩, rfl⟩ | exact ⟨trivial, ⟨E, C23.other (i := 13) (t := 181) hG rfl⟩⟩ | exact ⟨E, C23.other (i := 13) (t := 181) hG rfl⟩
  | 14, _, ho =>
   cases ho
   have d13 : ac.tmps.getD 181 undef = .pointer (some ⟨L4, 0, none⟩) := hL.new 13 _ 181 rfl (he ⟨13, .data⟩ (by simp) rfl) rfl
   have la : listed.getD 10 false = true := he ⟨10, .data⟩ (by simp) rfl
   obtain ⟨e9, -⟩ := hG.e5.2 la
   have hown := hG.rows.own 5 (show 5 < 6 by decide)
   have HPU : Aside (∃ E, C23 w Z L4 v n xs rn ov p l b0 [.int .i64 (p : Int), .slice bb nb bc] wr (listed.setIfInBounds 14 true) ac E (W.setCell ⟨L4, 0, none⟩ (ac.tmps.getD 178 undef))) := by show Exists _; rw [e9]; exact ⟨E, hG.st14 (by rw [hsz]; exact (by decide : (14 : Nat) < 19)) hL4 hwL ac rfl⟩
   obtain ⟨xo, kl⟩ : ∃ x, W.cell? ⟨L4, 0, none⟩ = some x := ⟨_, blk_cell hG.leg rfl⟩
   have zf := blk_free hG.leg
   obtain ⟨va, vcc, hva⟩ := own_slG hown
   rw [hva] at e9
   rw [e9] at HPU
   simp only [Array.getD_eq_getD_getElem?] at e9
   clear hown
   refine wpOp_plain rfl rfl ?_
   unfold Oper.wp
   go_simp
   first | exact HPU.out | exact ⟨trivial, HPU.out⟩
  | 15, _, ho =>
   cases ho
   have d1 : ac.tmps.getD 169 undef = .slice (some ⟨lg, 0, none⟩) nc lc := hL.new 1 _ 169 rfl (he ⟨1, .data⟩ (by simp) rfl) rfl
   have d2 : ac.tmps.getD 170 undef = .int .i64 (p : Int) := hL.new 2 _ 170 rfl (he ⟨2, .data⟩ (by simp) rfl) rfl
   refine wpOp_plain rfl rfl ?_
   unfold Oper.wp
   go_simp
   first | exact ⟨_, rfl, trivial, ⟨E, C23.other (i := 15) (t := 182) hG rfl⟩, rfl⟩ | exact ⟨trivial, ⟨E, C23.other (i := 15) (t := 182) hG rfl⟩⟩ | exact ⟨E, C23.other (i := 15) (t := 182) hG rfl⟩
  | 16, _, ho =>
   cases ho
   have d15 : ac.tmps.getD 182 undef = .pointer (some ⟨lg, p, none⟩) := hL.new 15 _ 182 rfl (he ⟨15, .data⟩ (by simp) rfl) rfl
   have d11 : ac.tmps.getD 179 undef = .int .i64 l := hL.new 11 _ 179 rfl (he ⟨11, .data⟩ (by simp) rfl) rfl
   have ls : listed.getD 16 false = false := by
    simp only [Array.getD_eq_getD_getElem?] at hli ⊢
    rw [Array.getElem?_eq_getElem (show 16 < listed.size by rw [hsz]; decide)] at hli ⊢
    simpa using hli
   have hown := hG.rows.own 0 (show 0 < 6 by decide)
   obtain ⟨xo, kl, zf⟩ : ∃ x, W.cell? ⟨lg, p, none⟩ = some x ∧ ∀ i, W.frozen? ⟨lg, i, none⟩ = false := by rw [hG.e0] at hown; exact own_cellG hown (by show v 0 = _; exact HVV.out.1) rfl (by show p < n 0; rw [HNN.out.2.1]; exact hltp)
   obtain ⟨E', hC⟩ := hG.set16 (by rw [hsz]; exact (by decide : (16 : Nat) < 19)) hL4 (by omega) ls HVV.out.1 (by rw [HNN.out.2.1]; exact hltp) ac rfl
   have HPU : Aside _ := hC
   clear hown hC
   refine wpOp_plain rfl rfl ?_
   unfold Oper.wp
   go_simp
   first | exact ⟨E', HPU.out⟩ | exact ⟨trivial, E', HPU.out⟩
  | 17, _, ho =>
   cases ho
   have d4 : ac.tmps.getD 172 undef = .slice (some ⟨ig, 0, none⟩) nc ic := hL.new 4 _ 172 rfl (he ⟨4, .data⟩ (by simp) rfl) rfl
   have d5 : ac.tmps.getD 173 undef = .int .i64 (p : Int) := hL.new 5 _ 173 rfl (he ⟨5, .data⟩ (by simp) rfl) rfl
   refine wpOp_plain rfl rfl ?_
   unfold Oper.wp
   go_simp
   first | exact ⟨_, rfl, trivial, ⟨E, C23.other (i := 17) (t := 183) hG rfl⟩, rfl⟩ | exact ⟨trivial, ⟨E, C23.other (i := 17) (t := 183) hG rfl⟩⟩ | exact ⟨E, C23.other (i := 17) (t := 183) hG rfl⟩
  | 18, _, ho =>
   cases ho
   have d17 : ac.tmps.getD 183 undef = .pointer (some ⟨ig, p, none⟩) := hL.new 17 _ 183 rfl (he ⟨17, .data⟩ (by simp) rfl) rfl
   have d12 : ac.tmps.getD 180 undef = .bool b0 := hL.new 12 _ 180 rfl (he ⟨12, .data⟩ (by simp) rfl) rfl
   have ls : listed.getD 18 false = false := by
    simp only [Array.getD_eq_getD_getElem?] at hli ⊢
    rw [Array.getElem?_eq_getElem (show 18 < listed.size by rw [hsz]; decide)] at hli ⊢
    simpa using hli
   have hown := hG.rows.own 2 (show 2 < 6 by decide)
   obtain ⟨xo, kl, zf⟩ : ∃ x, W.cell? ⟨ig, p, none⟩ = some x ∧ ∀ i, W.frozen? ⟨ig, i, none⟩ = false := by rw [hG.e2] at hown; exact own_cellG hown (by show v 2 = _; exact HVV.out.2) rfl (by show p < n 2; rw [HNN.out.2.2]; exact hltp)
   obtain ⟨E', hC⟩ := hG.set18 (by rw [hsz]; exact (by decide : (18 : Nat) < 19)) hL4 (by omega) ls HVV.out.2 (by rw [HNN.out.2.2]; exact hltp) ac rfl
   have HPU : Aside _ := hC
   clear hown hC
   refine wpOp_plain rfl rfl ?_
   unfold Oper.wp
   go_simp
   first | exact ⟨E', HPU.out⟩ | exact ⟨trivial, E', HPU.out⟩
  | n + 19, hA, _ => simp at hA
end
end
section
open Go.RowKit Go.Maps Go.Sort Go.Shelf Go.Deep
structure B4Ok (bs : List Int) (c : Cnt) (v : Nat) (t0 : Thr) (a0 : Nat) (w wb : World) (Z L4 g13 p : Nat) (vv : Nat → Value) (nn : Nat → Nat) (xx : Nat → List Value) (rn : Int) (ov : Bool) (beds : List Int) (a : Nat) (T : Thr) (W : World) : Prop where
 tv : tvB bs c v 3 t0 a0 = (beds, a, T)
 len : beds.length ≤ 3
 all : ∃ (vb : Value) (E : Nat → RD), (W.heap[g13]? = some (.cells #[.int .i64 (p : Int), vb] 84 (0, 0)) ∧ W.ownsRow wb.heap.size 34 1 vb beds.length (beds.map (Value.int .i64))) ∧ Rws Z 6 E W ∧ W.heap[L4]? = some (.cells (tlC (fun i => (E i).v) rn ov) 81 (0, 0)) ∧ (∀ i, i < 6 → (T.won = false ∨ (i ≠ 3 ∧ i ≠ 4)) → E i = tlD vv nn xx i) ∧ (T.won = true → E 3 = ⟨tlT 3, tlS 3, (E 3).v, nn 3 + 1, xx 3 ++ [.int .i64 (p : Int)]⟩ ∧ E 4 = ⟨tlT 4, tlS 4, (E 4).v, nn 4 + 1, xx 4 ++ [.int .i64 T.darts]⟩) ∧ (∀ i, i < 6 → ∀ g, (E i).v.ownBlock = some g → (vv i).ownBlock = some g ∨ wb.heap.size ≤ g) ∧ (∀ i, i < 6 → ∀ g, vb.ownBlock = some g → (E i).v.ownBlock ≠ some g)
 bel : Below w.heap.size w W
 sb : wb.heap.size ≤ W.heap.size
 oth : ∀ j, j < wb.heap.size → j ≠ L4 → j ≠ g13 → (∀ i, i < 6 → (vv i).ownBlock ≠ some j) → W.heap[j]? = wb.heap[j]?
structure K3 (w wb : World) (g13 p k : Nat) (beds : List Int) (vb : Value) (W : World) : Prop where
 bel : Below w.heap.size w W
 sb : wb.heap.size ≤ W.heap.size
 oth : ∀ j, j < wb.heap.size → j ≠ g13 → W.heap[j]? = wb.heap[j]?
 vis : W.heap[g13]? = some (.cells #[.int .i64 (p : Int), vb] 84 (0, 0))
 own : W.ownsRow wb.heap.size 34 1 vb k (beds.map (Value.int .i64))
theorem K3.below {w wb W W' : World} {g13 p k : Nat} {beds : List Int} {vb : Value} (h : K3 w wb g13 p k beds vb W) (hg : g13 < wb.heap.size) (hB : Below W.heap.size W W') : K3 w wb g13 p k beds vb W' :=
 ⟨h.bel.trans (hB.mono h.bel.size), Nat.le_trans h.sb hB.size, fun j hj hne => (hB.block j (Nat.lt_of_lt_of_le hj h.sb)).trans (h.oth j hj hne), (hB.block _ (Nat.lt_of_lt_of_le hg h.sb)).trans h.vis, ownsRow_below h.own hB⟩
theorem K3.app {w wb W W' : World} {g13 p k : Nat} {beds : List Int} {vb v' : Value} {b : Int} (h : K3 w wb g13 p k beds vb W) (hg : g13 < wb.heap.size) (hw : w.heap.size ≤ g13) (ho : W'.ownsRow wb.heap.size 34 1 v' (k + 1) ((beds ++ [b]).map (Value.int .i64))) (hgr : W.grownBy W' vb.ownBlock) : K3 w wb g13 p (k + 1) (beds ++ [b]) v' (W'.setCell ⟨g13, 1, none⟩ v') := by
 have hz : ∀ q, vb.ownBlock = some q → wb.heap.size ≤ q := fun q e => (h.own.lt q e).1
 have hk : ∀ j, j < wb.heap.size → W'.heap[j]? = W.heap[j]? := fun j hj => hgr.block j (Nat.lt_of_lt_of_le hj h.sb) (fun e => by have := hz j e.symm; omega)
 refine ⟨(h.bel.grown hgr h.bel.size (fun q e => by have := hz q e; have := h.bel.size; omega)).setCell (p := ⟨g13, 1, none⟩) hw _, by simp only [World.size_setCell]; exact Nat.le_trans h.sb hgr.size, fun j hj hne => (Below.heap_setCell _ _ _ _ hne).trans ((hk j hj).trans (h.oth j hj hne)), Go.Joins.block_setCell (i := 1) ((hk g13 hg).trans h.vis) v', ownsRow_setCell_below ho (a := ⟨g13, 1, none⟩) hg _⟩
theorem ownsRow_heap {w w' : World} {b k n : Nat} {T : TypeId} {v : Value} {xs : List Value} (h : w.ownsRow b T k v n xs) (hk : ∀ g, v.ownBlock = some g → w'.heap[g]? = w.heap[g]?) : w'.ownsRow b T k v n xs := by
 obtain ⟨h1, h2⟩ := h
 refine ⟨h1, ?_⟩
 rcases h2 with h2 | ⟨g, cap, cur, h3, h4, h5, h6⟩
 ·exact .inl h2
 ·exact .inr ⟨g, cap, cur, h3, h4, (hk g (by rw [h3]; rfl)).trans h5, h6⟩
theorem K3.rows {w wb W : World} {g13 p k Z : Nat} {beds : List Int} {vb : Value} {vv : Nat → Value} {nn : Nat → Nat} {xx : Nat → List Value} (h : K3 w wb g13 p k beds vb W) (hr : Rws Z 6 (tlD vv nn xx) wb) (hn : ∀ i, i < 6 → (vv i).ownBlock ≠ some g13) : Rws Z 6 (tlD vv nn xx) W :=
 ⟨fun i hi => ownsRow_heap (hr.own i hi) (fun g hg => h.oth g (hr.lt hi hg).2 (fun e => hn i hi (by rw [← e]; exact hg))), hr.dis⟩
theorem b4_no {bs : List Int} {c : Cnt} {v a0 : Nat} {t0 T : Thr} {w wb W : World} {Z L4 g13 p k a : Nat} {vv : Nat → Value} {nn : Nat → Nat} {xx : Nat → List Value} {rn : Int} {ov : Bool} {beds : List Int} {vb : Value} (h : K3 w wb g13 p k beds vb W) (htv : tvB bs c v 3 t0 a0 = (beds, a, T)) (hl : beds.length = k) (hk : k ≤ 3) (hw : T.won = false) (hr : Rws Z 6 (tlD vv nn xx) wb) (hn : ∀ i, i < 6 → (vv i).ownBlock ≠ some g13) (h4 : wb.heap[L4]? = some (.cells (tlC vv rn ov) 81 (0, 0))) (hne : L4 ≠ g13) : B4Ok bs c v t0 a0 w wb Z L4 g13 p vv nn xx rn ov beds a T W :=
 ⟨htv, by omega, ⟨vb, tlD vv nn xx, ⟨h.vis, by rw [hl]; exact h.own⟩, h.rows hr hn, (h.oth L4 (Array.getElem?_eq_some_iff.1 h4).1 hne).trans h4, fun _ _ _ => rfl, (fun e => by rw [hw] at e; cases e), fun _ _ _ e => .inl e, fun i hi g hg e => by have a1 := (h.own.lt g hg).1; have a2 := (hr.lt hi e).2; omega⟩, h.bel, h.sb, fun j hj _ h2 _ => h.oth j hj h2⟩
theorem fin_no {t : Thr} {l0 : Int} {in0 : Bool} (h : t.bust = false) : (t.fin l0 in0).left = t.left ∧ (t.fin l0 in0).inn = t.inn := by
 unfold Thr.fin; rw [if_neg (by rw [h]; simp)]; exact ⟨rfl, rfl⟩
theorem fin_bust {t : Thr} {l0 : Int} {in0 : Bool} (h : t.bust = true) : (t.fin l0 in0).left = l0 ∧ (t.fin l0 in0).inn = in0 := by
 unfold Thr.fin; rw [if_pos h]; exact ⟨rfl, rfl⟩
theorem b4_won {bs : List Int} {c : Cnt} {v a0 : Nat} {t0 T : Thr} {w wb wc W : World} {Z L4 g13 p k a kk : Nat} {act : Act} {E : Nat → RD} {vv : Nat → Value} {nn : Nat → Nat} {xx : Nat → List Value} {rn : Int} {ov : Bool} {beds : List Int} {vb : Value} (h : K3 w wb g13 p k beds vb wc) (R : RwC w Z L4 tlN20 (tlP20 6 (p : Int) (kk : Int)) (tlD vv nn xx) 81 (tlC vv rn ov) wc (#[true, true, true, true, true, true, true, true, true, true, true, true, true, true, true]) act E W) (htv : tvB bs c v 3 t0 a0 = (beds, a, T)) (hl : beds.length = k) (hk : k ≤ 3) (hw : T.won = true) (hd : T.darts = (kk : Int) + 1) (hr : Rws Z 6 (tlD vv nn xx) wb) (hn : ∀ i, i < 6 → (vv i).ownBlock ≠ some g13) (hL4 : L4 < Z) (hZ : Z ≤ wb.heap.size) (hne : L4 ≠ g13) (hg : g13 < wb.heap.size) : B4Ok bs c v t0 a0 w wb Z L4 g13 p vv nn xx rn ov beds a T W := by
 have hrow : ∀ i, i < 6 → ∀ g, (vv i).ownBlock = some g → g < wb.heap.size := fun i hi g hg => (hr.lt hi hg).2
 have hkeep : ∀ j, j < wc.heap.size → j ≠ L4 → (∀ i, i < 6 → (vv i).ownBlock ≠ some j) → W.heap[j]? = wc.heap[j]? := R.oth
 obtain ⟨ds, l1, l2, l3, l4⟩ := R.leg
 have hs : ∀ i, i < 6 → i ≠ 3 → i ≠ 4 → E i = tlD vv nn xx i := fun i hi a b => R.same i hi (fun j hj => by have hj2 : j < 2 := hj; show i ≠ j + 3; omega)
 have hv : ∀ i, i < 6 → i ≠ 3 → i ≠ 4 → (E i).v = vv i := fun i hi a b => by rw [hs i hi a b]; rfl
 have hds : ds = tlC (fun i => (E i).v) rn ov := by
  apply Array.ext_getElem?
  intro i
  by_cases h4 : i = 4
  ·subst h4; exact (l3 0 (by decide : 0 < 2)).trans rfl
  ·by_cases h5 : i = 5
   ·subst h5; exact (l3 1 (by decide : 1 < 2)).trans rfl
   ·rw [l4 i (fun j hj => by have hj2 : j < 2 := hj; show i ≠ j + 4; omega)]
    rcases (by omega : i = 0 ∨ i = 1 ∨ i = 2 ∨ i = 3 ∨ i = 6 ∨ i = 7 ∨ 8 ≤ i) with rfl | rfl | rfl | rfl | rfl | rfl | h8
    ·show some (vv 5) = some (E 5).v; rw [hv 5 (by omega) (by omega) (by omega)]
    ·show some (vv 0) = some (E 0).v; rw [hv 0 (by omega) (by omega) (by omega)]
    ·show some (vv 1) = some (E 1).v; rw [hv 1 (by omega) (by omega) (by omega)]
    ·show some (vv 2) = some (E 2).v; rw [hv 2 (by omega) (by omega) (by omega)]
    ·rfl
    ·rfl
    ·rw [Array.getElem?_eq_none (show (tlC vv rn ov).size ≤ i from h8), Array.getElem?_eq_none (show (tlC (fun i => (E i).v) rn ov).size ≤ i from h8)]
 have r3 := ((R.row 0 (by decide : 0 < 2)).2 rfl).2
 have r4 := ((R.row 1 (by decide : 1 < 2)).2 rfl).2
 refine ⟨htv, by omega, ⟨vb, E, ⟨(hkeep g13 (Nat.lt_of_lt_of_le hg h.sb) (Ne.symm hne) hn).trans h.vis, by rw [hl]; exact ownsRow_heap h.own (fun g hq => hkeep g (h.own.lt g hq).2 (fun e => by have := (h.own.lt g hq).1; omega) (fun i hi e => by have := hrow i hi g e; have := (h.own.lt g hq).1; omega))⟩, R.rows, by rw [l1, hds], fun i hi ho => ?_, fun _ => ⟨r3, ?_⟩, fun i hi g e => (R.org i hi g e).elim .inl (fun h2 => .inr (Nat.le_trans h.sb h2)), fun i hi g hg e => (R.org i hi g e).elim (fun h2 => by have a1 := hrow i hi g h2; have a2 := (h.own.lt g hg).1; omega) (fun h2 => by have a2 := (h.own.lt g hg).2; omega)⟩, R.bel, Nat.le_trans h.sb R.sb, fun j hj h1 h2 h3 => (hkeep j (Nat.lt_of_lt_of_le hj h.sb) h1 h3).trans (h.oth j hj h2)⟩
 ·rcases ho with ho | ho
  ·rw [hw] at ho; cases ho
  ·exact hs i hi ho.1 ho.2
 ·rw [hd]; exact r4
end
section
open Go.RowKit Go.Maps Go.Sort Go.Shelf Go.Deep
def Lft (c : Cnt) (l : Int) : Prop := 1 ≤ l ∧ l ≤ 1001 ∧ (l = 1 → c.2.2 = 0)
theorem Mid.lft {c : Cnt} {k : Nat} {t : Thr} (h : Mid c k t) : Lft c t.left := ⟨h.l1, h.l3, h.l2⟩
theorem Lft.mid {c : Cnt} {l : Int} (h : Lft c l) (i : Bool) : Mid c 0 ⟨l, 0, 0, i, false, false⟩ := ⟨h.1, h.2.2, h.2.1, rfl, rfl, rfl⟩
theorem tvB_stop {bs : List Int} {c : Cnt} {v : Nat} {t : Thr} (he : t.ended = true) : ∀ (f a : Nat), tvB bs c v f t a = ([], a, t)
 | 0, a => by unfold tvB; rfl
 | f + 1, a => by unfold tvB; rw [if_pos he]
theorem tv_end {bs : List Int} {c : Cnt} {v : Nat} (hb : ∀ x ∈ bs, 0 ≤ x ∧ x ≤ 255) : ∀ (f k : Nat) (t : Thr) (a : Nat), k + f = 3 → Mid c k t →
  ((tvB bs c v f t a).2.2.bust = true ∧ (tvB bs c v f t a).2.2.won = false) ∨ ((tvB bs c v f t a).2.2.bust = false ∧ (tvB bs c v f t a).2.2.won = true ∧ (tvB bs c v f t a).2.2.left = 0) ∨ Mid c 3 (tvB bs c v f t a).2.2
 | 0, k, t, a, hk, hm => by
  have hk3 : k = 3 := by omega
  subst hk3
  unfold tvB
  exact .inr (.inr hm)
 | f + 1, k, t, a, hk, hm => by
  have hv := hbed_ok hb a
  have hs := sc_bd (vbed_bd hv).1 (vbed_bd hv).2
  have e : (tvB bs c v (f + 1) t a).2.2 = (tvB bs c v f (t.step c (hbedF bs a)) (a + 1 + v % 2)).2.2 := by
   rw [tvB, if_neg (by rw [hm.ended]; simp; omega)]
  rw [e]
  by_cases h1 : hbedF bs a = 0 ∨ (t.inn = false ∧ opn c.2.1 (hbedF bs a) = false)
  ·exact tv_end hb f (k + 1) _ _ (by omega) (mid_stay hm h1).1
  ·have hc : (t.inn || opn c.2.1 (hbedF bs a)) = true := by
    cases hi : t.inn with
    | true => rfl
    | false =>
     cases ho : opn c.2.1 (hbedF bs a) with
     | true => rfl
     | false => exact absurd (.inr ⟨hi, ho⟩) h1
   by_cases h2 : t.left - sc (hbedF bs a) = 0 ∧ opn c.2.2 (hbedF bs a) = true
   ·have he := mid_win hm hc h2.1 h2.2
    rw [tvB_stop (by rw [he]; rfl), he]
    exact .inr (.inl ⟨rfl, rfl, rfl⟩)
   ·by_cases h3 : t.left - sc (hbedF bs a) < 2 ∧ (t.left - sc (hbedF bs a) < 1 ∨ c.2.2 ≠ 0)
    ·have he := mid_bust hm hc h2 h3
     rw [tvB_stop (by rw [he]; rfl), he]
     exact .inl ⟨rfl, rfl⟩
    ·exact tv_end hb f (k + 1) _ _ (by omega) (mid_on hm hs.1 hc h2 h3).1
theorem tal_lft {r : LegR} (hr : r.Ok) {bs : List Int} {v : Nat} (hT : TalI r bs v) (ho : (talK r bs v).g.over = false) : Lft (cntAt r (talP r v)) ((talK r bs v).g.left.getD (talP r v) 0) := by
 obtain ⟨R, es, hR, hd⟩ := hT.rf
 have hdone := hd ho
 obtain ⟨hp1, hp2⟩ := talP_lt hr v
 have hnx : (talK r bs v).g.next = (talP r v : Int) := by rw [(hR.done ho).2.2, hdone, hp2, Int.add_emod_emod]
 have hni : talP r v ∉ es := rf_fresh hR ho hnx.symm
 have hs := hR.stand ho _ hp1 hni
 have hc : vcnt (cntAt r (talP r v)) = true := by
  unfold cntAt
  rw [List.getD_eq_getElem?_getD, List.getElem?_eq_getElem hp1]
  exact hr.cnt _ (List.getElem_mem hp1)
 have hb := vcnt_bd hc
 change vstand (cntAt r (talP r v)) _ _ = true at hs
 unfold vstand inb at hs
 simp only [Bool.and_eq_true, decide_eq_true_eq] at hs
 obtain ⟨⟨h1, h2⟩, -⟩ := hs
 refine ⟨?_, by omega, fun e => ?_⟩
 ·split at h1 <;> omega
 ·by_cases hz : (cntAt r (talP r v)).2.2 = 0
  ·exact hz
  ·rw [if_neg hz] at h1; omega
end
section
open Go.RowKit Go.Maps Go.Sort Go.Shelf Go.Deep
structure TlV (Z : Nat) (vs : List (Int × List Int)) (vv : Nat → Value) (bv : Nat → Value) (W : World) : Prop where
 own : ∀ i, i < vs.length → W.ownsRow Z 34 1 (bv i) (vs.getD i (0, [])).2.length ((vs.getD i (0, [])).2.map (Value.int .i64))
 dis : ∀ i, i < vs.length → ∀ j, j < 6 → ∀ q, (bv i).ownBlock = some q → (vv j).ownBlock ≠ some q
def tlVs (vs : List (Int × List Int)) (bv : Nat → Value) : List Value := (List.range vs.length).flatMap (fun i => [Value.int .i64 (vs.getD i (0, [])).1, bv i])
structure TlAt (w : World) (Z L4 : Nat) (g : LegG) (vs : List (Int × List Int)) (vv : Nat → Value) (nn : Nat → Nat) (xx : Nat → List Value) (W : World) : Prop where
 bel : Below w.heap.size w W
 siz : Z ≤ W.heap.size
 lt : L4 < Z
 new : w.heap.size ≤ L4
 leg : W.heap[L4]? = some (.cells (tlC vv g.round g.over) 81 (0, 0))
 rows : Rws Z 6 (tlD vv nn xx) W
 x0 : xx 0 = g.left.map (Value.int .i64)
 x1 : xx 1 = g.darts.map (Value.int .i64)
 x2 : xx 2 = g.inn.map Value.bool
 x3 : xx 3 = g.ended.map (fun q => Value.int .i64 q.1)
 x4 : xx 4 = g.ended.map (fun q => Value.int .i64 q.2)
 vis : ∃ bv, xx 5 = tlVs vs bv ∧ TlV Z vs vv bv W
theorem own_at {w : World} {b n p : Nat} {T : TypeId} {v : Value} {xs : List Value} (h : w.ownsRow b T 1 v n xs) (hp : p < n) : ∃ g c, v = .slice (some ⟨g, 0, none⟩) n c ∧ ∀ j u, xs[j]? = some u → w.cell? ⟨g, j, none⟩ = some u := by
 have hl := h.1
 rcases h.2 with ⟨_, h0⟩ | ⟨g, cap, cur, h3, h4, h5, h6⟩
 ·omega
 ·refine ⟨g, cap, h3, fun j u hu => ?_⟩
  have := World.ownsRow.cells h (g := g) (by rw [h3]; rfl) j u hu
  by_cases hj : j = 0
  ·subst hj; simpa [Addr.add] using this
  ·simpa [Addr.add, hj] using this
theorem TlAt.n0 {w : World} {Z L4 : Nat} {g : LegG} {vs : List (Int × List Int)} {vv : Nat → Value} {nn : Nat → Nat} {xx : Nat → List Value} {W : World} (h : TlAt w Z L4 g vs vv nn xx W) : nn 0 = g.left.length ∧ nn 1 = g.darts.length ∧ nn 2 = g.inn.length ∧ nn 3 = g.ended.length ∧ nn 4 = g.ended.length := by
 have e : ∀ i, i < 5 → nn i = (xx i).length := fun i hi => by
  have := (h.rows.own i (by omega)).1
  have hz : tlS i = 1 := by
   match i, hi with
   | 0, _ => rfl
   | 1, _ => rfl
   | 2, _ => rfl
   | 3, _ => rfl
   | 4, _ => rfl
   | i + 5, hi => omega
  change (xx i).length = nn i * tlS i at this
  rw [hz] at this
  omega
 refine ⟨?_, ?_, ?_, ?_, ?_⟩
 ·rw [e 0 (by omega), h.x0, List.length_map]
 ·rw [e 1 (by omega), h.x1, List.length_map]
 ·rw [e 2 (by omega), h.x2, List.length_map]
 ·rw [e 3 (by omega), h.x3, List.length_map]
 ·rw [e 4 (by omega), h.x4, List.length_map]
theorem TlAt.at {w : World} {Z L4 p n : Nat} {g : LegG} {vs : List (Int × List Int)} {vv : Nat → Value} {nn : Nat → Nat} {xx : Nat → List Value} {W : World} (h : TlAt w Z L4 g vs vv nn xx W) (l0 : g.left.length = n) (l1 : g.darts.length = n) (l2 : g.inn.length = n) (hp : p < n) :
  ∃ lg lc tg tc ig ic, vv 0 = .slice (some ⟨lg, 0, none⟩) n lc ∧ vv 1 = .slice (some ⟨tg, 0, none⟩) n tc ∧ vv 2 = .slice (some ⟨ig, 0, none⟩) n ic ∧ W.cell? ⟨lg, p, none⟩ = some (.int .i64 (g.left.getD p 0)) ∧ W.cell? ⟨tg, p, none⟩ = some (.int .i64 (g.darts.getD p 0)) ∧ W.cell? ⟨ig, p, none⟩ = some (.bool (g.inn.getD p false)) := by
 obtain ⟨n0, n1, n2, -, -⟩ := h.n0
 obtain ⟨lg, lc, e0, c0⟩ := own_at (p := p) (show W.ownsRow Z (tlT 0) 1 (vv 0) (nn 0) (xx 0) from h.rows.own 0 (by omega)) (by omega)
 obtain ⟨tg, tc, e1, c1⟩ := own_at (p := p) (show W.ownsRow Z (tlT 1) 1 (vv 1) (nn 1) (xx 1) from h.rows.own 1 (by omega)) (by omega)
 obtain ⟨ig, ic, e2, c2⟩ := own_at (p := p) (show W.ownsRow Z (tlT 2) 1 (vv 2) (nn 2) (xx 2) from h.rows.own 2 (by omega)) (by omega)
 refine ⟨lg, lc, tg, tc, ig, ic, by rw [e0, n0, l0], by rw [e1, n1, l1], by rw [e2, n2, l2], c0 p _ ?_, c1 p _ ?_, c2 p _ ?_⟩
 ·rw [h.x0, List.getElem?_map, List.getD_eq_getElem?_getD, List.getElem?_eq_getElem (by omega)]; rfl
 ·rw [h.x1, List.getElem?_map, List.getD_eq_getElem?_getD, List.getElem?_eq_getElem (by omega)]; rfl
 ·rw [h.x2, List.getElem?_map, List.getD_eq_getElem?_getD, List.getElem?_eq_getElem (by omega)]; rfl
end
section
open Go.RowKit Go.Maps Go.Sort Go.Shelf Go.Deep
theorem emod_wrap {x n : Int} (h0 : n ≤ x) (h1 : x < n + n) : x % n = x - n := by
 have h : (x - n) % n = x % n := by
  rw [Int.sub_emod, Int.emod_self, Int.sub_zero, Int.emod_emod]
 rw [← h, Int.emod_eq_of_lt (by omega) (by omega)]
theorem tal_comp {r : LegR} (hr : r.Ok) (v : Nat) : ((((talP r v : Int) + 1) % (r.counts.length : Int)) == r.first) = decide ((v : Int) % (r.counts.length : Int) = (r.counts.length : Int) - 1) := by
 obtain ⟨hp1, hp2⟩ := talP_lt hr v
 have f0 := hr.f0
 have f1 := hr.f1
 rw [hp2]
 obtain ⟨n, hn⟩ : ∃ n : Int, (r.counts.length : Int) = n := ⟨_, rfl⟩
 rw [hn] at f1 ⊢
 obtain ⟨m, hm⟩ : ∃ m : Int, (v : Int) % n = m := ⟨_, rfl⟩
 have m0 : 0 ≤ m := by rw [← hm]; exact Int.emod_nonneg _ (by omega)
 have m1 : m < n := by rw [← hm]; exact Int.emod_lt_of_pos _ (by omega)
 have e1 : (r.first + (v : Int)) % n = (r.first + m) % n := by rw [← hm, Int.add_emod_emod]
 rw [e1, hm]
 have key : ((r.first + m) % n + 1) % n = r.first ↔ m = n - 1 := by
  by_cases hA : r.first + m < n
  ·rw [Int.emod_eq_of_lt (show 0 ≤ r.first + m by omega) hA]
   by_cases hB : r.first + m + 1 = n
   ·rw [hB, Int.emod_self]; omega
   ·rw [Int.emod_eq_of_lt (show 0 ≤ r.first + m + 1 by omega) (by omega)]; omega
  ·rw [emod_wrap (x := r.first + m) (by omega) (by omega), Int.emod_eq_of_lt (show 0 ≤ r.first + m - n + 1 by omega) (by omega)]; omega
 rw [Bool.eq_iff_iff, beq_iff_eq, decide_eq_true_iff]
 exact key
end
section
open Go.RowKit Go.Maps Go.Sort Go.Shelf Go.Deep
structure TalN (r : LegR) (g : LegG) (p : Nat) (T F : Thr) (m : Nat) (c : Bool) (g' : LegG) : Prop where
 left : g'.left = g.left.set p F.left
 inn : g'.inn = g.inn.set p F.inn
 darts : g'.darts = g.darts.set p (g.darts.getD p 0 + (m : Int))
 ended : g'.ended = if T.won = true then g.ended ++ [((p : Int), T.darts)] else g.ended
 round : g'.round = if c = true then g.round + 1 else g.round
 over : g'.over = ((!g'.ended.isEmpty && (c || !r.equal)) || (c && g'.round == r.rounds))
theorem fin_same (t : Thr) (l : Int) (i : Bool) : (t.fin l i).won = t.won ∧ (t.fin l i).darts = t.darts := by unfold Thr.fin; split <;> exact ⟨rfl, rfl⟩
theorem p3 (b : Bool) (x y z : Int) : ((if b = true then (x, z, true) else (y, z, false)) : Int × Int × Bool).2.1 = z ∧ ((if b = true then (x, z, true) else (y, z, false)) : Int × Int × Bool).2.2 = b := by cases b <;> exact ⟨rfl, rfl⟩
theorem pass_N (r : LegR) (g : LegG) : (passG r g).left = g.left ∧ (passG r g).inn = g.inn ∧ (passG r g).darts = g.darts ∧ (passG r g).ended = g.ended ∧ (passG r g).round = (if ((g.next + 1) % (r.counts.length : Int) == r.first) = true then g.round + 1 else g.round) := by
 unfold passG
 by_cases h : (passF r g).2.2 = true
 ·rw [if_pos h]
  refine ⟨rfl, rfl, rfl, rfl, ?_⟩
  show (passF r g).2.1 = _
  unfold passF; exact (p3 _ _ _ _).1
 ·rw [if_neg h]
  refine ⟨rfl, rfl, rfl, rfl, ?_⟩
  show (passF r g).2.1 = _
  unfold passF; exact (p3 _ _ _ _).1
theorem pass_over {r : LegR} {g : LegG} (ho : g.over = false) : (passG r g).over = ((!g.ended.isEmpty && (((g.next + 1) % (r.counts.length : Int) == r.first) || !r.equal)) || (((g.next + 1) % (r.counts.length : Int) == r.first) && (passG r g).round == r.rounds)) := by
 rw [(pass_N r g).2.2.2.2]
 have e : (passF r g).2.2 = ((!g.ended.isEmpty && (((g.next + 1) % (r.counts.length : Int) == r.first) || !r.equal)) || (((g.next + 1) % (r.counts.length : Int) == r.first) && (if ((g.next + 1) % (r.counts.length : Int) == r.first) = true then g.round + 1 else g.round) == r.rounds)) := by
  unfold passF; exact (p3 _ _ _ _).2
 rw [← e]
 unfold passG
 by_cases h : (passF r g).2.2 = true
 ·rw [if_pos h, h]
 ·rw [if_neg h]
  have : (passF r g).2.2 = false := by simpa using h
  rw [this]; exact ho
theorem tal_next {r : LegR} (hr : r.Ok) {bs : List Int} (hb : ∀ x ∈ bs, 0 ≤ x ∧ x ≤ 255) {v : Nat} (ho : (talK r bs v).g.over = false) :
  (talK r bs (v + 1)).vs = (talK r bs v).vs ++ [((talP r v : Int), (talT r bs (talK r bs v) v).1)] ∧ (talK r bs (v + 1)).a = (talT r bs (talK r bs v) v).2.1 ∧
  TalN r (talK r bs v).g (talP r v) (talT r bs (talK r bs v) v).2.2 ((talT r bs (talK r bs v) v).2.2.fin ((talK r bs v).g.left.getD (talP r v) 0) ((talK r bs v).g.inn.getD (talP r v) false)) (talT r bs (talK r bs v) v).1.length (decide ((v : Int) % (r.counts.length : Int) = (r.counts.length : Int) - 1)) (talK r bs (v + 1)).g := by
 obtain ⟨R, es, hR, hd⟩ := (tal_inv hr hb v).rf
 have hdone := hd ho
 obtain ⟨hp1, hp2⟩ := talP_lt hr v
 have hnx : (talK r bs v).g.next = (talP r v : Int) := by rw [(hR.done ho).2.2, hdone, hp2, Int.add_emod_emod]
 obtain ⟨ht, hg⟩ := tal_take hr hb ho hnx
 have he : talK r bs (v + 1) = ⟨passG r (hitG (talK r bs v).g (talP r v) ((talT r bs (talK r bs v) v).2.2.fin ((talK r bs v).g.left.getD (talP r v) 0) ((talK r bs v).g.inn.getD (talP r v) false))), (talK r bs v).vs ++ [((talP r v : Int), (talT r bs (talK r bs v) v).1)], (talT r bs (talK r bs v) v).2.1⟩ := by rw [talK, if_neg (by rw [ho]; simp), hg]
 have hf := rf_fresh hR ho hnx.symm
 have hkn : ((talP r v : Nat) : Int) ∉ (talK r bs v).g.ended.map (·.1) := by rw [← hR.keys, mem_cI]; exact hf
 have hlen := (tv_len bs (cntAt r (talP r v)) v 3 ⟨(talK r bs v).g.left.getD (talP r v) 0, 0, 0, (talK r bs v).g.inn.getD (talP r v) false, false, false⟩ (talK r bs v).a).2.1
 change (talT r bs (talK r bs v) v).2.2.darts = 0 + ((talT r bs (talK r bs v) v).1.length : Int) at hlen
 rw [he]
 refine ⟨rfl, rfl, ?_⟩
 obtain ⟨f1, f2⟩ := fin_same (talT r bs (talK r bs v) v).2.2 ((talK r bs v).g.left.getD (talP r v) 0) ((talK r bs v).g.inn.getD (talP r v) false)
 generalize hF : (talT r bs (talK r bs v) v).2.2.fin ((talK r bs v).g.left.getD (talP r v) 0) ((talK r bs v).g.inn.getD (talP r v) false) = F at *
 obtain ⟨q1, q2, q3, q4, q5⟩ := pass_N r (hitG (talK r bs v).g (talP r v) F)
 have hc : (((hitG (talK r bs v).g (talP r v) F).next + 1) % (r.counts.length : Int) == r.first) = decide ((v : Int) % (r.counts.length : Int) = (r.counts.length : Int) - 1) := by
  show ((((talK r bs v).g.next) + 1) % _ == _) = _
  rw [hnx]; exact tal_comp hr v
 refine ⟨q1, q2, q3.trans ?_, q4.trans ?_, by rw [← hc]; exact q5, by rw [q4, ← hc]; exact pass_over ho⟩
 ·show (talK r bs v).g.darts.set _ _ = _
  rw [f2, hlen, Int.zero_add]
 ·show (if F.won = true then putA _ _ _ else _) = _
  rw [f1, f2]
  split
  ·unfold putA; rw [if_neg hkn]
  ·rfl
end
section
open Go.RowKit Go.Maps Go.Sort Go.Shelf Go.Deep
theorem Rws.congr {Z m : Nat} {D D' : Nat → RD} {W : World} (h : Rws Z m D W) (e : ∀ i, i < m → D' i = D i) : Rws Z m D' W :=
 ⟨fun i hi => by rw [e i hi]; exact h.own i hi, fun i hi j hj hne g hg => by rw [e i hi] at hg; rw [e j hj]; exact h.dis i hi j hj hne g hg⟩
theorem tlC_congr {v v' : Nat → Value} (h : ∀ i, i < 6 → v i = v' i) (rn : Int) (ov : Bool) : tlC v rn ov = tlC v' rn ov := by
 unfold tlC; rw [h 0 (by omega), h 1 (by omega), h 2 (by omega), h 3 (by omega), h 4 (by omega), h 5 (by omega)]
theorem own_mono {w : World} {b b' k n : Nat} {T : TypeId} {v : Value} {xs : List Value} (h : w.ownsRow b T k v n xs) (hb : b' ≤ b) : w.ownsRow b' T k v n xs := by
 obtain ⟨h1, h2⟩ := h
 refine ⟨h1, ?_⟩
 rcases h2 with h2 | ⟨g, cap, cur, h3, h4, h5, h6⟩
 ·exact .inl h2
 ·exact .inr ⟨g, cap, cur, h3, Nat.le_trans hb h4, h5, h6⟩
section
variable {w W W' : World} {Z L4 : Nat} {g g' : LegG} {vs : List (Int × List Int)} {vv : Nat → Value} {nn : Nat → Nat} {xx : Nat → List Value}
theorem TlV.keep {bv : Nat → Value} (h : TlV Z vs vv bv W) (hk : ∀ i, i < vs.length → ∀ q, (bv i).ownBlock = some q → W'.heap[q]? = W.heap[q]?) : TlV Z vs vv bv W' :=
 ⟨fun i hi => ownsRow_heap (h.own i hi) (hk i hi), h.dis⟩
theorem TlV.below {bv : Nat → Value} (h : TlV Z vs vv bv W) (hB : Below W.heap.size W W') : TlV Z vs vv bv W' :=
 h.keep (fun i hi q hq => hB.block q ((h.own i hi).lt q hq).2)
theorem TlAt.below (h : TlAt w Z L4 g vs vv nn xx W) (hB : Below W.heap.size W W') : TlAt w Z L4 g vs vv nn xx W' := by
 obtain ⟨bv, h1, h2⟩ := h.vis
 exact ⟨h.bel.trans (hB.mono h.bel.size), Nat.le_trans h.siz hB.size, h.lt, h.new, (hB.block _ (Nat.lt_of_lt_of_le h.lt h.siz)).trans h.leg, h.rows.below hB, h.x0, h.x1, h.x2, h.x3, h.x4, bv, h1, h2.below hB⟩
theorem TlAt.congr (h : TlAt w Z L4 g vs vv nn xx W) (e1 : g'.left = g.left) (e2 : g'.darts = g.darts) (e3 : g'.inn = g.inn) (e4 : g'.ended = g.ended) (e5 : g'.round = g.round) (e6 : g'.over = g.over) : TlAt w Z L4 g' vs vv nn xx W :=
 ⟨h.bel, h.siz, h.lt, h.new, by rw [e5, e6]; exact h.leg, h.rows, by rw [e1]; exact h.x0, by rw [e2]; exact h.x1, by rw [e3]; exact h.x2, by rw [e4]; exact h.x3, by rw [e4]; exact h.x4, h.vis⟩
theorem TlAt.setR (h : TlAt w Z L4 g vs vv nn xx W) (rn : Int) : TlAt w Z L4 { g with round := rn } vs vv nn xx (W.setCell ⟨L4, 6, none⟩ (.int .i64 rn)) := by
 obtain ⟨bv, h1, h2⟩ := h.vis
 exact ⟨h.bel.setCell (p := ⟨L4, 6, none⟩) h.new _, by simp only [World.size_setCell]; exact h.siz, h.lt, h.new, Go.Joins.block_setCell (i := 6) h.leg _, h.rows.set (a := ⟨L4, 6, none⟩) h.lt _, h.x0, h.x1, h.x2, h.x3, h.x4, bv, h1, h2.keep (fun i hi q hq => Below.heap_setCell _ _ _ _ (fun e => by have a := ((h2.own i hi).lt q hq).1; have b := h.lt; have e' : q = L4 := e; omega))⟩
theorem TlAt.setO (h : TlAt w Z L4 g vs vv nn xx W) (ov : Bool) : TlAt w Z L4 { g with over := ov } vs vv nn xx (W.setCell ⟨L4, 7, none⟩ (.bool ov)) := by
 obtain ⟨bv, h1, h2⟩ := h.vis
 exact ⟨h.bel.setCell (p := ⟨L4, 7, none⟩) h.new _, by simp only [World.size_setCell]; exact h.siz, h.lt, h.new, Go.Joins.block_setCell (i := 7) h.leg _, h.rows.set (a := ⟨L4, 7, none⟩) h.lt _, h.x0, h.x1, h.x2, h.x3, h.x4, bv, h1, h2.keep (fun i hi q hq => Below.heap_setCell _ _ _ _ (fun e => by have a := ((h2.own i hi).lt q hq).1; have b := h.lt; have e' : q = L4 := e; omega))⟩
theorem map_set {α β : Type} (f : α → β) (xs : List α) (k : Nat) (x : α) : (xs.map f).set k (f x) = (xs.set k x).map f := by
 apply List.ext_getElem?
 intro i
 by_cases h : k = i
 ·subst h
  by_cases hk : k < xs.length
  ·rw [List.getElem?_set_self (by rw [List.length_map]; exact hk), List.getElem?_map, List.getElem?_set_self hk]; rfl
  ·rw [List.getElem?_eq_none (by rw [List.length_set, List.length_map]; omega), List.getElem?_eq_none (by rw [List.length_map, List.length_set]; omega)]
 ·rw [List.getElem?_set_ne h, List.getElem?_map, List.getElem?_map, List.getElem?_set_ne h]
theorem TlAt.setD (h : TlAt w Z L4 g vs vv nn xx W) {tg nc tc p : Nat} (hv : vv 1 = .slice (some ⟨tg, 0, none⟩) nc tc) (hp : p < nn 1) (x : Int) : ∃ xx', TlAt w Z L4 { g with darts := g.darts.set p x } vs vv nn xx' (W.setCell ⟨tg, p, none⟩ (.int .i64 x)) := by
 obtain ⟨bv, h1, h2⟩ := h.vis
 have hR := h.rows.put (i := 1) (by decide) rfl (g := tg) (n := nc) (c := tc) hv (k := p) hp (.int .i64 x)
 have htg : (vv 1).ownBlock = some tg := by rw [hv]; rfl
 have hz := h.rows.lt (show 1 < 6 by decide) (show (tlD vv nn xx 1).v.ownBlock = some tg from htg)
 have hlt := h.lt
 have hnw := h.new
 refine ⟨fun i => if i = 1 then (xx 1).set p (.int .i64 x) else xx i, h.bel.setCell (p := ⟨tg, p, none⟩) (by show _ ≤ tg; omega) _, by simp only [World.size_setCell]; exact h.siz, h.lt, h.new, (Below.heap_setCell _ _ _ _ (by show L4 ≠ tg; omega)).trans h.leg, hR.congr (fun i hi => ?_), h.x0, ?_, h.x2, h.x3, h.x4, bv, h1, h2.keep (fun i hi q hq => Below.heap_setCell _ _ _ _ (fun e => h2.dis i hi 1 (by decide) q hq (by rw [htg]; exact congrArg some e.symm)))⟩
 ·by_cases hi1 : i = 1
  ·subst hi1; rw [upd_self]; rfl
  ·rw [upd_ne hi1]; show (⟨_, _, _, _, if i = 1 then _ else _⟩ : RD) = _; rw [if_neg hi1]; rfl
 ·show (if (1 : Nat) = 1 then _ else _) = _
  rw [if_pos rfl, h.x1]; exact map_set _ _ _ _
theorem tlVs_len (vs : List (Int × List Int)) (bv : Nat → Value) : (tlVs vs bv).length = 2 * vs.length := by
 have : ∀ (n : Nat) (a b : Nat → Value), ((List.range n).flatMap (fun i => [a i, b i])).length = 2 * n := by
  intro n a b
  induction n with
  | zero => rfl
  | succ n ih => rw [List.range_succ, List.flatMap_append, List.length_append, ih]; simp; omega
 exact this _ _ _
theorem tlVs_snoc (vs : List (Int × List Int)) (bv : Nat → Value) (p : Int) (bs : List Int) (vb : Value) : tlVs (vs ++ [(p, bs)]) (fun i => if i < vs.length then bv i else vb) = tlVs vs bv ++ [.int .i64 p, vb] := by
 unfold tlVs
 rw [List.length_append, List.length_singleton, List.range_succ, List.flatMap_append]
 congr 1
 ·have : ∀ i ∈ List.range vs.length, ([Value.int .i64 ((vs ++ [(p, bs)]).getD i (0, [])).1, if i < vs.length then bv i else vb] : List Value) = [Value.int .i64 (vs.getD i (0, [])).1, bv i] := by
   intro i hi
   have hi := List.mem_range.1 hi
   rw [if_pos hi, List.getD_eq_getElem?_getD, List.getD_eq_getElem?_getD, List.getElem?_append_left hi]
  simp only [List.flatMap, List.map_congr_left this]
 ·rw [List.flatMap_singleton]
  show [Value.int .i64 ((vs ++ [(p, bs)]).getD vs.length (0, [])).1, if vs.length < vs.length then bv vs.length else vb] = _
  rw [if_neg (Nat.lt_irrefl _), List.getD_eq_getElem?_getD, List.getElem?_append_right (Nat.le_refl _)]
  simp
theorem TlAt.nb (h : TlAt w Z L4 g vs vv nn xx W) (h6 : ∀ i, 6 ≤ i → nn i = 0) (l0 : g.left.length ≤ 1000) (l1 : g.darts.length ≤ 1000) (l2 : g.inn.length ≤ 1000) (l3 : g.ended.length ≤ 1000) (l5 : vs.length ≤ 1000) : ∀ i, nn i ≤ 1000 := by
 obtain ⟨n0, n1, n2, n3, n4⟩ := h.n0
 obtain ⟨bv, h1, -⟩ := h.vis
 have h5 := (h.rows.own 5 (by decide)).1
 change (xx 5).length = nn 5 * 2 at h5
 rw [h1, tlVs_len] at h5
 intro i
 rcases (by omega : i = 0 ∨ i = 1 ∨ i = 2 ∨ i = 3 ∨ i = 4 ∨ i = 5 ∨ 6 ≤ i) with rfl | rfl | rfl | rfl | rfl | rfl | hi
 ·omega
 ·omega
 ·omega
 ·omega
 ·omega
 ·omega
 ·rw [h6 i hi]; omega
theorem b4_tl {bs : List Int} {c : Cnt} {v a0 a p g13 : Nat} {t0 T : Thr} {wr wb : World} {beds : List Int} (h0 : TlAt w Z L4 g vs vv nn xx wr) (hB : Below wr.heap.size wr wb) (hg : wr.heap.size ≤ g13) (hg2 : g13 < wb.heap.size) (hb : B4Ok bs c v t0 a0 w wb Z L4 g13 p vv nn xx g.round g.over beds a T W) :
  ∃ vb vv1 nn1 xx1, TlAt w Z L4 { g with ended := if T.won = true then g.ended ++ [((p : Int), T.darts)] else g.ended } vs vv1 nn1 xx1 W ∧ W.heap[g13]? = some (.cells #[.int .i64 (p : Int), vb] 84 (0, 0)) ∧ W.ownsRow wb.heap.size 34 1 vb beds.length (beds.map (Value.int .i64)) ∧ (∀ i, i < 6 → ∀ q, vb.ownBlock = some q → (vv1 i).ownBlock ≠ some q) ∧ (∀ i, i < 6 → (vv1 i).ownBlock ≠ some g13) ∧ (vv1 0 = vv 0 ∧ vv1 1 = vv 1 ∧ vv1 2 = vv 2) ∧ (∀ i, i ≤ 2 ∨ 5 ≤ i → nn1 i = nn i) ∧ wb.heap.size ≤ W.heap.size := by
 have h := h0.below hB
 obtain ⟨vb, E, ⟨e1, e2⟩, e3, e4, e5, e6, e7, e8⟩ := hb.all
 have hE : ∀ i, i < 6 → E i = ⟨tlT i, tlS i, (E i).v, (E i).n, (E i).xs⟩ := by
  intro i hi
  by_cases hw : T.won = false
  ·rw [e5 i hi (.inl hw)]; rfl
  ·have hw : T.won = true := by simpa using hw
   by_cases h3 : i = 3
   ·subst h3; rw [(e6 hw).1]
   ·by_cases h4 : i = 4
    ·subst h4; rw [(e6 hw).2]
    ·rw [e5 i hi (.inr ⟨h3, h4⟩)]; rfl
 have hs : ∀ i, i < 6 → i ≠ 3 → i ≠ 4 → E i = tlD vv nn xx i := fun i hi a b => e5 i hi (.inr ⟨a, b⟩)
 have hv : ∀ i, i < 6 → i ≠ 3 → i ≠ 4 → (E i).v = vv i := fun i hi a b => by rw [hs i hi a b]; rfl
 have hx : ∀ i, i < 6 → i ≠ 3 → i ≠ 4 → (E i).xs = xx i := fun i hi a b => by rw [hs i hi a b]; rfl
 have x3 : (E 3).xs = if T.won = true then xx 3 ++ [.int .i64 (p : Int)] else xx 3 := by
  by_cases hw : T.won = true
  ·rw [if_pos hw, (e6 hw).1]
  ·rw [if_neg hw, e5 3 (by omega) (.inl (by simpa using hw))]; rfl
 have x4 : (E 4).xs = if T.won = true then xx 4 ++ [.int .i64 T.darts] else xx 4 := by
  by_cases hw : T.won = true
  ·rw [if_pos hw, (e6 hw).2]
  ·rw [if_neg hw, e5 4 (by omega) (.inl (by simpa using hw))]; rfl
 obtain ⟨bv, v1, v2⟩ := h0.vis
 have hlt := h.lt
 have hZ := h0.siz
 have hsz := hB.size
 refine ⟨vb, fun i => if i < 6 then (E i).v else vv i, fun i => if i < 6 then (E i).n else nn i, fun i => if i < 6 then (E i).xs else xx i, ⟨hb.bel, Nat.le_trans h.siz hb.sb, h.lt, h.new, ?_, e3.congr (fun i hi => ?_), ?_, ?_, ?_, ?_, ?_, bv, ?_, ⟨fun i hi => ?_, fun i hi j hj q hq => ?_⟩⟩, e1, e2, fun i hi q hq => ?_, fun i hi e => ?_, ⟨?_, ?_, ?_⟩, fun i hi => ?_, hb.sb⟩
 ·rw [e4]; exact congrArg (fun x => some (Obj.cells x _ (0, 0))) (tlC_congr (fun i hi => (if_pos hi).symm) _ _)
 ·rw [hE i hi]; show (⟨_, _, (if i < 6 then (E i).v else vv i), (if i < 6 then (E i).n else nn i), (if i < 6 then (E i).xs else xx i)⟩ : RD) = _; rw [if_pos hi, if_pos hi, if_pos hi]
 ·show (if (0 : Nat) < 6 then (E 0).xs else _) = _; rw [if_pos (by omega), hx 0 (by omega) (by omega) (by omega)]; exact h.x0
 ·show (if (1 : Nat) < 6 then (E 1).xs else _) = _; rw [if_pos (by omega), hx 1 (by omega) (by omega) (by omega)]; exact h.x1
 ·show (if (2 : Nat) < 6 then (E 2).xs else _) = _; rw [if_pos (by omega), hx 2 (by omega) (by omega) (by omega)]; exact h.x2
 ·show (if (3 : Nat) < 6 then (E 3).xs else _) = _; rw [if_pos (by omega), x3, h.x3]
  by_cases hw : T.won = true
  ·rw [if_pos hw]; show _ = (if _ then _ else _ : List (Int × Int)).map _; rw [if_pos hw, List.map_append]; rfl
  ·rw [if_neg hw]; show _ = (if _ then _ else _ : List (Int × Int)).map _; rw [if_neg hw]
 ·show (if (4 : Nat) < 6 then (E 4).xs else _) = _; rw [if_pos (by omega), x4, h.x4]
  by_cases hw : T.won = true
  ·rw [if_pos hw]; show _ = (if _ then _ else _ : List (Int × Int)).map _; rw [if_pos hw, List.map_append]; rfl
  ·rw [if_neg hw]; show _ = (if _ then _ else _ : List (Int × Int)).map _; rw [if_neg hw]
 ·show (if (5 : Nat) < 6 then (E 5).xs else _) = _; rw [if_pos (by omega), hx 5 (by omega) (by omega) (by omega)]; exact v1
 ·exact ownsRow_heap (v2.own i hi) (fun q hq => by
   obtain ⟨a1, a2⟩ := (v2.own i hi).lt q hq
   rw [hb.oth q (by omega) (by omega) (by omega) (fun j hj e => v2.dis i hi j hj q hq e)]
   exact hB.block q a2)
 ·show (if j < 6 then (E j).v else vv j).ownBlock ≠ some q
  rw [if_pos hj]
  intro e
  obtain ⟨a1, a2⟩ := (v2.own i hi).lt q hq
  rcases e7 j hj q e with e | e
  ·exact v2.dis i hi j hj q hq e
  ·omega
 ·show (if i < 6 then (E i).v else vv i).ownBlock ≠ some q
  rw [if_pos hi]; exact e8 i hi q hq
 ·change (if i < 6 then (E i).v else vv i).ownBlock = some g13 at e
  rw [if_pos hi] at e
  rcases e7 i hi g13 e with e | e
  ·have := (h0.rows.lt hi (show (tlD vv nn xx i).v.ownBlock = some g13 from e)).2; omega
  ·omega
 ·show (if (0 : Nat) < 6 then (E 0).v else _) = _; rw [if_pos (by omega)]; exact hv 0 (by omega) (by omega) (by omega)
 ·show (if (1 : Nat) < 6 then (E 1).v else _) = _; rw [if_pos (by omega)]; exact hv 1 (by omega) (by omega) (by omega)
 ·show (if (2 : Nat) < 6 then (E 2).v else _) = _; rw [if_pos (by omega)]; exact hv 2 (by omega) (by omega) (by omega)
 ·show (if i < 6 then (E i).n else nn i) = _
  by_cases h6 : i < 6
  ·rw [if_pos h6, hs i h6 (by omega) (by omega)]; rfl
  ·rw [if_neg h6]
theorem c23_tl {p : Nat} {l : Int} {b : Bool} {vb : Value} {beds : List Int} {listed : Array Bool} {a : Act} {E : Nat → RD} (h : TlAt w Z L4 g vs vv nn xx W) (hC : C23 w Z L4 vv nn xx g.round g.over p l b [.int .i64 (p : Int), vb] W listed a E W') (d10 : listed.getD 10 false = true) (d14 : listed.getD 14 false = true) (d16 : listed.getD 16 false = true) (d18 : listed.getD 18 false = true) (ho : W.ownsRow Z 34 1 vb beds.length (beds.map (Value.int .i64))) (hd : ∀ i, i < 6 → ∀ q, vb.ownBlock = some q → (vv i).ownBlock ≠ some q) :
  ∃ vv2 nn2 xx2, TlAt w Z L4 { g with left := g.left.set p l, inn := g.inn.set p b } (vs ++ [((p : Int), beds)]) vv2 nn2 xx2 W' ∧ vv2 1 = vv 1 ∧ nn2 1 = nn 1 ∧ (∀ i, 6 ≤ i → nn2 i = nn i) := by
 have e0 := hC.e0
 have e2 := hC.e2
 rw [d16, if_pos rfl] at e0
 rw [d18, if_pos rfl] at e2
 have e5 := (hC.e5.2 d10).2
 have hl := hC.leg
 rw [d14] at hl
 obtain ⟨bv, v1, v2⟩ := h.vis
 have hlt := h.lt
 have hE : ∀ i, i < 6 → E i = ⟨tlT i, tlS i, (E i).v, (E i).n, (E i).xs⟩ := by
  intro i hi
  rcases (by omega : i = 0 ∨ i = 1 ∨ i = 2 ∨ i = 3 ∨ i = 4 ∨ i = 5) with rfl | rfl | rfl | rfl | rfl | rfl
  ·rw [e0]
  ·rw [hC.e1]; rfl
  ·rw [e2]
  ·rw [hC.e3]; rfl
  ·rw [hC.e4]; rfl
  ·rw [e5]
 have hx0 : (E 0).xs = (xx 0).set p (.int .i64 l) := by rw [e0]
 have hx1 : (E 1).xs = xx 1 := by rw [hC.e1]; rfl
 have hx2 : (E 2).xs = (xx 2).set p (.bool b) := by rw [e2]
 have hx3 : (E 3).xs = xx 3 := by rw [hC.e3]; rfl
 have hx4 : (E 4).xs = xx 4 := by rw [hC.e4]; rfl
 have hx5 : (E 5).xs = xx 5 ++ [.int .i64 (p : Int), vb] := by rw [e5]
 have hv : ∀ i, i < 6 → i ≠ 5 → (E i).v = vv i := by
  intro i hi h5
  rcases (by omega : i = 0 ∨ i = 1 ∨ i = 2 ∨ i = 3 ∨ i = 4) with rfl | rfl | rfl | rfl | rfl
  ·rw [e0]
  ·rw [hC.e1]; rfl
  ·rw [e2]
  ·rw [hC.e3]; rfl
  ·rw [hC.e4]; rfl
 refine ⟨fun i => if i < 6 then (E i).v else vv i, fun i => if i < 6 then (E i).n else nn i, fun i => if i < 6 then (E i).xs else xx i, ⟨hC.bel, hC.siz, h.lt, h.new, ?_, hC.rows.congr (fun i hi => ?_), ?_, ?_, ?_, ?_, ?_, fun i => if i < vs.length then bv i else vb, ?_, ⟨fun i hi => ?_, fun i hi j hj q hq => ?_⟩⟩, ?_, ?_, fun i hi => ?_⟩
 ·rw [hl]; refine congrArg (fun x => some (Obj.cells x _ (0, 0))) (tlC_congr (fun i hi => ?_) _ _)
  show (if i = 5 then (if true = true then (E 5).v else vv 5) else vv i) = (if i < 6 then (E i).v else vv i)
  rw [if_pos hi]
  by_cases h5 : i = 5
  ·subst h5; rw [if_pos rfl, if_pos rfl]
  ·rw [if_neg h5, hv i hi h5]
 ·rw [hE i hi]; show (⟨_, _, (if i < 6 then (E i).v else vv i), (if i < 6 then (E i).n else nn i), (if i < 6 then (E i).xs else xx i)⟩ : RD) = _; rw [if_pos hi, if_pos hi, if_pos hi]
 ·show (if (0 : Nat) < 6 then (E 0).xs else _) = _; rw [if_pos (by omega), hx0, h.x0]; exact map_set _ _ _ _
 ·show (if (1 : Nat) < 6 then (E 1).xs else _) = _; rw [if_pos (by omega), hx1]; exact h.x1
 ·show (if (2 : Nat) < 6 then (E 2).xs else _) = _; rw [if_pos (by omega), hx2, h.x2]; exact map_set _ _ _ _
 ·show (if (3 : Nat) < 6 then (E 3).xs else _) = _; rw [if_pos (by omega), hx3]; exact h.x3
 ·show (if (4 : Nat) < 6 then (E 4).xs else _) = _; rw [if_pos (by omega), hx4]; exact h.x4
 ·show (if (5 : Nat) < 6 then (E 5).xs else _) = _; rw [if_pos (by omega), hx5, v1]; exact (tlVs_snoc _ _ _ _ _).symm
 ·show W'.ownsRow Z _ 1 (if i < vs.length then bv i else vb) _ _
  rw [List.length_append, List.length_singleton] at hi
  by_cases hi2 : i < vs.length
  ·rw [if_pos hi2, List.getD_eq_getElem?_getD, List.getElem?_append_left hi2, ← List.getD_eq_getElem?_getD]
   exact ownsRow_heap (v2.own i hi2) (fun q hq => hC.oth q ((v2.own i hi2).lt q hq).2 (fun e => by have := ((v2.own i hi2).lt q hq).1; omega) (fun j hj e => v2.dis i hi2 j hj q hq e))
  ·have hie : i = vs.length := by omega
   subst hie
   rw [if_neg (Nat.lt_irrefl _), List.getD_eq_getElem?_getD, List.getElem?_append_right (Nat.le_refl _), Nat.sub_self]
   exact ownsRow_heap ho (fun q hq => hC.oth q (ho.lt q hq).2 (fun e => by have := (ho.lt q hq).1; omega) (fun j hj e => hd j hj q hq e))
 ·show (if j < 6 then (E j).v else vv j).ownBlock ≠ some q
  rw [if_pos hj]
  intro e
  change (if i < vs.length then bv i else vb).ownBlock = some q at hq
  by_cases hi2 : i < vs.length
  ·rw [if_pos hi2] at hq
   rcases hC.org j hj q e with e | e
   ·exact v2.dis i hi2 j hj q hq e
   ·have := ((v2.own i hi2).lt q hq).2; omega
  ·rw [if_neg hi2] at hq
   rcases hC.org j hj q e with e | e
   ·exact hd j hj q hq e
   ·have := (ho.lt q hq).2; omega
 ·show (if (1 : Nat) < 6 then (E 1).v else _) = _; rw [if_pos (by omega)]; exact hv 1 (by omega) (by omega)
 ·show (if (1 : Nat) < 6 then (E 1).n else _) = _; rw [if_pos (by omega), hC.e1]; rfl
 ·show (if i < 6 then (E i).n else nn i) = _; rw [if_neg (by omega)]
end
theorem tal_a {r : LegR} {bs : List Int} (v : Nat) : (talK r bs v).a ≤ 6 * v := by
 induction v with
 | zero => exact Nat.le_refl _
 | succ v ih =>
  by_cases ho : (talK r bs v).g.over = true
  ·rw [talK, if_pos ho]; omega
  ·rw [talK, if_neg ho]
   obtain ⟨h1, -, h3⟩ := tv_len bs (cntAt r (talP r v)) v 3 ⟨(talK r bs v).g.left.getD (talP r v) 0, 0, 0, (talK r bs v).g.inn.getD (talP r v) false, false, false⟩ (talK r bs v).a
   show (talT r bs (talK r bs v) v).2.1 ≤ _
   change (talT r bs (talK r bs v) v).2.1 = _ at h3
   rw [h3]
   have h2 : v % 2 ≤ 1 := by omega
   have := Nat.mul_le_mul h1 (show 1 + v % 2 ≤ 2 by omega)
   omega
theorem tal_len {r : LegR} (hr : r.Ok) {bs : List Int} (hb : ∀ x ∈ bs, 0 ≤ x ∧ x ≤ 255) (v : Nat) : (talK r bs v).g.left.length = r.counts.length ∧ (talK r bs v).g.darts.length = r.counts.length ∧ (talK r bs v).g.inn.length = r.counts.length ∧ (talK r bs v).g.ended.length ≤ r.counts.length ∧ (talK r bs v).vs.length ≤ v := by
 obtain ⟨R, es, hR, -⟩ := (tal_inv hr hb v).rf
 refine ⟨hR.l1, hR.l2, hR.l3, ?_, (tal_inv hr hb v).le⟩
 have h2 := hR.nodup
 have h3 := hR.lt
 have := nodup_bd r.counts.length (cI es) (by unfold cI; exact List.pairwise_map.2 (h2.imp (fun h e => h (by omega)))) (fun x hx => by obtain ⟨q, hq, rfl⟩ := List.mem_map.1 hx; have := h3 q hq; omega)
 rw [hR.keys, List.length_map] at this
 exact this
end
end Go.Proofs.Ytnhjoebdmmelaaa
