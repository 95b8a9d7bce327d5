/- Leg: parts De, Df, Ae, Af, Ah. -/
import Derived.Test.YtgmlcgifagbjmaaJap
set_option linter.unusedVariables false
set_option linter.unusedSimpArgs false
namespace Go.Proofs.Ytgmlcgifagbjmaa
section
open Go.RowKit Go.Maps Go.Sort Go.Shelf Go.Deep
theorem info_bedD : (Try.prog.info? 34).map (fun i => (i.zero, i.size, i.bytes)) = some (some (.int .i64 0), 1, 8) := by kernel_rfl
theorem info_visD : (Try.prog.info? 84).map (fun i => (i.zero, i.size, i.bytes)) = some (some (.agg #[.int .i64 0, .slice none 0 0]), 2, 32) := by kernel_rfl
theorem eI_all (bs : List Int) : ∀ y ∈ bs, ∀ u ∈ eI y, u.oneCell' = true := by
 intro y _ u hu
 simp [eI] at hu; subst hu; rfl
theorem add_plain1 (g : Nat) : (⟨g, 0, none⟩ : Addr).add 1 = ⟨g, 1, none⟩ := by unfold Addr.add; simp
theorem RowB.grw {α : Type} {w w' : World} {size : Nat} {enc : α → List Value} {e e' : TypeId} {v vr : Value} {ys : List α} {b sz n : Nat} {xs : List Value} (h : RowB w size enc e v ys) (hown : w.ownsRow b e' sz vr n xs) (hg : w.grownBy w' vr.ownBlock) (hne : e ≠ e') : RowB w' size enc e v ys := by
 obtain ⟨g, c, cs, h1, hl, hb, hc⟩ := h
 refine ⟨g, c, cs, h1, hl, (hg.block g (Array.getElem?_eq_some_iff.1 hb).1 (fun h => ?_)).trans hb, hc⟩
 rcases ownsRow_ne_a hown hb (fun cur e => by injection e with _ e2; exact hne e2) with h2 | h2
 ·rw [h2] at h; cases h
 ·exact h2 h.symm
/-- A visit without its slice. -/
def prV (x : Int × Value × List Int) : Int × List Int := (x.1, x.2.2)
/-- What holds of copies. -/
structure CvInv (lv : List (Int × Value × List Int)) (w : World) (k : Nat) (ys : List (Int × Value × List Int)) (wr : World) : Prop where
 same : ys.map prV = (lv.take k).map prV
 rows : ∀ y ∈ ys, RowB wr 1 eI 34 y.2.1 y.2.2
 bel : Below w.heap.size w wr
 siz : w.heap.size ≤ wr.heap.size
def NilB (ww : World) (x : Value) : Prop := ∃ g, x = .slice (some ⟨g, 0, none⟩) 0 0 ∧ ww.heap[g]? = some (.cells #[] 34 (0, 0))
def AggV (ww : World) (p : Int) (bs : List Int) (x : Value) : Prop := ∃ u, x = .agg #[.int .i64 p, u] ∧ RowB ww 1 eI 34 u bs
def OneV (ww : World) (p : Int) (bs : List Int) (x : Value) : Prop := ∃ g u, x = .slice (some ⟨g, 0, none⟩) 1 1 ∧ ww.heap[g]? = some (.cells #[.int .i64 p, u] 84 (0, 0)) ∧ RowB ww 1 eI 34 u bs
def VisitsOk (lv : List (Int × Value × List Int)) (w : World) (e : Ending) (w' : World) : Prop :=
 Below w.heap.size w w' ∧ ∃ v' lv', e = .returned v' ∧ Sl w' 2 encV v' lv' ∧ (∀ x ∈ lv', Sl w' 1 eI x.2.1 x.2.2) ∧ lv'.map prV = lv.map prV
set_option maxRecDepth 100000 in
set_option maxHeartbeats 8000000 in
theorem visits_any (lv : List (Int × Value × List Int)) (v : Value) (w : World) (hv : Sl w 2 encV v lv) (hb : ∀ x ∈ lv, Sl w 1 eI x.2.1 x.2.2) (hm200 : lv.length ≤ 2010) (h6 : ∀ x ∈ lv, x.2.2.length ≤ 6) :
  Calls Try.prog 20 #[v] w (VisitsOk lv w) := by
 obtain ⟨i0, hi0, hz0, hz1, hz2⟩ := info_parts info_visD
 obtain ⟨j0, hj0, jz0, jz1, jz2⟩ := info_parts info_bedD
 obtain ⟨a2, cp2, rfl, hl2, hs2⟩ := hv
 obtain ⟨m, hm⟩ : ∃ m, lv.length = m := ⟨_, rfl⟩
 have HN : Aside (lv.length = m) := hm
 have HX : Aside ((∀ x ∈ lv, Sl w 1 eI x.2.1 x.2.2) ∧ ∀ x ∈ lv, x.2.2.length ≤ 6) := ⟨hb, h6⟩
 have HS : Aside (lv ≠ [] → ∃ b off, a2 = some ⟨b, off, none⟩ ∧ b < w.heap.size ∧ ∀ j x, lv[j]? = some x → ∀ i y, (encV x)[i]? = some y → w.cell? ⟨b, off + j * 2 + i, none⟩ = some y) := hs2
 rw [hm] at hl2 hm200 ⊢
 clear hs2 hb hm h6
 go_enter Try.func20, Try.ntmps20
 go_wp2_with fail
 obtain ⟨wa, hwa⟩ : ∃ u, u = w.alloc (.cells #[] 84) := ⟨_, rfl⟩
 have HO : Aside (wa.ownsRow w.heap.size 84 2 (.slice (some ⟨w.heap.size, 0, none⟩) 0 0) 0 []) := by rw [hwa]; exact owns_empty w _ 2
 have HI : Aside (CvInv lv w 0 [] wa) := ⟨by simp, (fun y hy => by cases hy), by rw [hwa]; exact (Below.refl _ _).alloc (Nat.le_refl _) _, by rw [hwa]; simp⟩
 rw [← hwa]
 clear hwa
 go_loopg [3, 4] m (fun gg v i wr => ∃ (k : Nat) (ys : List (Int × Value × List Int)), k ≤ m ∧ m - k ≤ gg ∧ i = .int .i64 k ∧ wr.ownsRow w.heap.size 84 2 v k ((ys.map encV).flatten) ∧ Aside (CvInv lv w k ys wr))
 case atStart => exact ⟨0, [], Nat.zero_le _, by omega, rfl, HO.out, HI.out⟩
 case round =>
  clear HO HI
  obtain ⟨k, ys, hk, hg, rfl, hown, HI⟩ := hrel
  by_cases hlt : k < m
  ·have hltz : (k : Int) < (m : Int) := by omega
   obtain ⟨x, hx⟩ : ∃ x, lv[k]? = some x := ⟨_, List.getElem?_eq_getElem (by rw [HN.out]; exact hlt)⟩
   obtain ⟨B, off, rfl, hBlt, hcl⟩ := HS.out (by intro e; rw [e] at hx; simp at hx)
   have kx0 : wr.cell? ⟨B, off + k * 2, none⟩ = some (.int .i64 x.1) := keepc HI.out.bel (hcl k x hx 0 (.int .i64 x.1) rfl)
   have kx1 : wr.cell? ⟨B, off + k * 2 + 1, none⟩ = some x.2.1 := keepc HI.out.bel (hcl k x hx 1 x.2.1 rfl)
   have HXS : Aside (Sl wr 1 eI x.2.1 x.2.2) := (HX.out.1 x (List.mem_of_getElem? hx)).below HI.out.bel
   have HXL : Aside (x.2.2.length ≤ 6) := HX.out.2 x (List.mem_of_getElem? hx)
   have HTK : Aside (lv.take (k + 1) = lv.take k ++ [x]) := take_snoc' hx
   obtain ⟨p, vb, bs⟩ := x
   simp only [] at kx0 kx1 HXS HXL
   obtain ⟨a3, c3, rfl, hl3, _⟩ := HXS.out
   obtain ⟨dl, hdl⟩ : ∃ dl, bs.length = dl := ⟨_, rfl⟩
   have HDL : Aside (bs.length = dl) := hdl
   rw [hdl] at kx1 hl3 HXL HXS
   have hd6 : dl ≤ 6 := HXL.out
   clear hcl hx hdl
   go_wp2_with fail
   refine region_laidC (fl := 17) [true, true, true, true, true, true, true, true, true, true, true, true, true, true, true, false, false] 2 (fun (i : Nat) (x : Value) (ww : World) => (match i with | 0 => x = u3 | 1 => x = .slice (some ⟨B, off, none⟩) m cp2 | 2 => x = .int .i64 (k : Int) | 3 => x = .pointer (some ⟨B, off + k * 2, none⟩) | 4 => x = .pointer (some ⟨B, off + k * 2, none⟩) | 5 => x = .int .i64 p | 6 => NilB ww x | 7 => x = .slice (some ⟨B, off, none⟩) m cp2 | 8 => x = .int .i64 (k : Int) | 9 => x = .pointer (some ⟨B, off + k * 2, none⟩) | 10 => x = .pointer (some ⟨B, off + k * 2 + 1, none⟩) | 11 => x = .slice a3 dl c3 | 12 => RowB ww 1 eI 34 x bs | 13 => AggV ww p bs x | 14 => OneV ww p bs x | _ => True : Prop)) (fun w' => Below wr.heap.size wr w') (by kernel_rfl) rfl (by show layableC _ 29 _ 17 = true; decide +kernel) rfl ((Below.refl _ _).drew) ?mono5 ?step5 ?rest5
   case mono5 =>
    intro i x ww ww' hB h
    match i, h with
    | 0, h => exact h
    | 1, h => exact h
    | 2, h => exact h
    | 3, h => exact h
    | 4, h => exact h
    | 5, h => exact h
    | 6, h => exact (by obtain ⟨g, hx, hg⟩ := h; exact ⟨g, hx, (hB.block _ (Array.getElem?_eq_some_iff.1 hg).1).trans hg⟩)
    | 7, h => exact h
    | 8, h => exact h
    | 9, h => exact h
    | 10, h => exact h
    | 11, h => exact h
    | 12, h => exact (h.below hB)
    | 13, h => exact (by obtain ⟨u, hx, hu⟩ := h; exact ⟨u, hx, hu.below hB⟩)
    | 14, h => exact (by obtain ⟨g, u, hx, hg, hu⟩ := h; exact ⟨g, u, hx, (hB.block _ (Array.getElem?_eq_some_iff.1 hg).1).trans hg, hu.below hB⟩)
    | n + 15, h => exact h
   case step5 =>
    intro i o_ listed ac W hA ho hL he hcl hli hsz
    have hk0 : ac.tmps.getD 0 undef = .slice (some ⟨B, off, none⟩) m cp2 := hL.kept 0 (by decide +kernel)
    have hk4 : ac.tmps.getD 4 undef = .int .i64 (k : Int) := hL.kept 4 (by decide +kernel)
    have CL : ∀ W', Below W.heap.size W W' → Below wr.heap.size wr W' := fun W' h => hL.cls.trans (h.mono hL.cls.size)
    have k_kx0 := keepc hL.cls kx0
    have k_kx1 := keepc hL.cls kx1
    match i, hA, ho with
    | 0, _, ho =>
     cases ho
     have hk3 : ac.tmps.getD 3 undef = u3 := hL.kept3 hcl hsz 3 0 16 17 hli (by decide +kernel) (by decide +kernel)
     refine wpOp_plain rfl rfl ?_
     unfold Oper.wp
     go_simp
     exact ⟨_, rfl, Below.refl _ _, CL _ (Below.refl _ _), rfl⟩
    | 1, _, ho =>
     cases ho
     refine wpOp_plain rfl rfl ?_
     unfold Oper.wp
     go_simp
     exact ⟨_, rfl, Below.refl _ _, CL _ (Below.refl _ _), rfl⟩
    | 2, _, ho =>
     cases ho
     refine wpOp_plain rfl rfl ?_
     unfold Oper.wp
     go_simp
     exact ⟨_, rfl, Below.refl _ _, CL _ (Below.refl _ _), rfl⟩
    | 3, _, ho =>
     cases ho
     have d1 : ac.tmps.getD 13 undef = .slice (some ⟨B, off, none⟩) m cp2 := hL.new 1 _ 13 rfl (he ⟨1, .data⟩ (by simp) rfl) rfl
     have d2 : ac.tmps.getD 14 undef = .int .i64 (k : Int) := hL.new 2 _ 14 rfl (he ⟨2, .data⟩ (by simp) rfl) rfl
     refine wpOp_plain rfl rfl ?_
     unfold Oper.wp
     go_simp
     exact ⟨_, rfl, Below.refl _ _, CL _ (Below.refl _ _), rfl⟩
    | 4, _, ho =>
     cases ho
     have d3 : ac.tmps.getD 15 undef = .pointer (some ⟨B, off + k * 2, none⟩) := hL.new 3 _ 15 rfl (he ⟨3, .data⟩ (by simp) rfl) rfl
     refine wpOp_plain rfl rfl ?_
     unfold Oper.wp
     go_simp
     exact ⟨_, rfl, Below.refl _ _, CL _ (Below.refl _ _), rfl⟩
    | 5, _, ho =>
     cases ho
     have d4 : ac.tmps.getD 16 undef = .pointer (some ⟨B, off + k * 2, none⟩) := hL.new 4 _ 16 rfl (he ⟨4, .data⟩ (by simp) rfl) rfl
     refine wpOp_plain rfl rfl ?_
     unfold Oper.wp
     go_simp
     exact ⟨_, rfl, Below.refl _ _, CL _ (Below.refl _ _), rfl⟩
    | 6, _, ho =>
     cases ho
     have hBn : Below W.heap.size W (W.alloc (.cells #[] 34)) := (Below.refl _ _).alloc (Nat.le_refl _) _
     refine wpOp_plain rfl rfl ?_
     unfold Oper.wp
     go_simp
     first | exact ⟨_, rfl, _, rfl, World.alloc_heap_new _ _⟩ | exact ⟨_, rfl, hBn, CL _ hBn, _, rfl, World.alloc_heap_new _ _⟩
    | 7, _, ho =>
     cases ho
     refine wpOp_plain rfl rfl ?_
     unfold Oper.wp
     go_simp
     exact ⟨_, rfl, Below.refl _ _, CL _ (Below.refl _ _), rfl⟩
    | 8, _, ho =>
     cases ho
     refine wpOp_plain rfl rfl ?_
     unfold Oper.wp
     go_simp
     exact ⟨_, rfl, Below.refl _ _, CL _ (Below.refl _ _), rfl⟩
    | 9, _, ho =>
     cases ho
     have d7 : ac.tmps.getD 19 undef = .slice (some ⟨B, off, none⟩) m cp2 := hL.new 7 _ 19 rfl (he ⟨7, .data⟩ (by simp) rfl) rfl
     have d8 : ac.tmps.getD 20 undef = .int .i64 (k : Int) := hL.new 8 _ 20 rfl (he ⟨8, .data⟩ (by simp) rfl) rfl
     refine wpOp_plain rfl rfl ?_
     unfold Oper.wp
     go_simp
     exact ⟨_, rfl, Below.refl _ _, CL _ (Below.refl _ _), rfl⟩
    | 10, _, ho =>
     cases ho
     have d9 : ac.tmps.getD 21 undef = .pointer (some ⟨B, off + k * 2, none⟩) := hL.new 9 _ 21 rfl (he ⟨9, .data⟩ (by simp) rfl) rfl
     refine wpOp_plain rfl rfl ?_
     unfold Oper.wp
     go_simp
     exact ⟨_, rfl, Below.refl _ _, CL _ (Below.refl _ _), rfl⟩
    | 11, _, ho =>
     cases ho
     have d10 : ac.tmps.getD 22 undef = .pointer (some ⟨B, off + k * 2 + 1, none⟩) := hL.new 10 _ 22 rfl (he ⟨10, .data⟩ (by simp) rfl) rfl
     refine wpOp_plain rfl rfl ?_
     unfold Oper.wp
     go_simp
     exact ⟨_, rfl, Below.refl _ _, CL _ (Below.refl _ _), rfl⟩
    | 12, _, ho =>
     cases ho
     obtain ⟨x6, hx6⟩ : ∃ x, ac.tmps.getD 18 undef = x := ⟨_, rfl⟩
     have d6 := hL.new 6 _ 18 rfl (he ⟨6, .data⟩ (by simp) rfl) rfl
     rw [hx6] at d6
     have d11 : ac.tmps.getD 23 undef = .slice a3 dl c3 := hL.new 11 _ 23 rfl (he ⟨11, .data⟩ (by simp) rfl) rfl
     obtain ⟨g, rfl, hg⟩ := d6
     refine wpOp_plain rfl rfl ?_
     refine wp_append_fresh W (.tmp 18) (.tmp 23) 27 rfl 34 j0 (.int .i64 0) 1 8 Try.underlying27 hj0 jz0 jz1 jz2 rfl (by decide) g hg (by rw [← hx6]; rfl) (vy := .slice a3 dl c3) (ys := bs) (enc := eI) d11 (HXS.out.below hL.cls) (fun _ => rfl) (eI_all bs) (by rw [HDL.out]; unfold maxLen; omega) (by rw [HDL.out]; omega) ?_
     intro v' w' hrow hBn
     exact ⟨_, rfl, hBn, CL _ hBn, hrow⟩
    | 13, _, ho =>
     cases ho
     have d5 : ac.tmps.getD 17 undef = .int .i64 p := hL.new 5 _ 17 rfl (he ⟨5, .data⟩ (by simp) rfl) rfl
     obtain ⟨x12, hx12⟩ : ∃ x, ac.tmps.getD 24 undef = x := ⟨_, rfl⟩
     have d12 := hL.new 12 _ 24 rfl (he ⟨12, .data⟩ (by simp) rfl) rfl
     rw [hx12] at d12
     obtain ⟨g5, c5, cs5, rfl, hl5, hg5, hc5⟩ := d12
     have dq1 : ac.tmps[17]?.getD undef = .int .i64 p := by rw [← Array.getD_eq_getD_getElem?]; exact d5
     have dq2 : ac.tmps[24]?.getD undef = .slice (some ⟨g5, 0, none⟩) bs.length c5 := by rw [← Array.getD_eq_getD_getElem?]; exact hx12
     refine wpOp_plain rfl rfl ?_
     unfold Oper.wp
     go_simp
     exact ⟨_, rfl, Below.refl _ _, CL _ (Below.refl _ _), _, rfl, g5, c5, cs5, rfl, hl5, hg5, hc5⟩
    | 14, _, ho =>
     cases ho
     obtain ⟨x13, hx13⟩ : ∃ x, ac.tmps.getD 25 undef = x := ⟨_, rfl⟩
     have d13 := hL.new 13 _ 25 rfl (he ⟨13, .data⟩ (by simp) rfl) rfl
     rw [hx13] at d13
     obtain ⟨u, rfl, g5, c5, cs5, rfl, hl5, hg5, hc5⟩ := d13
     have dq1 : ac.tmps[25]?.getD undef = .agg #[.int .i64 p, .slice (some ⟨g5, 0, none⟩) bs.length c5] := by rw [← Array.getD_eq_getD_getElem?]; exact hx13
     have hBn : Below W.heap.size W (W.alloc (.cells #[.int .i64 p, .slice (some ⟨g5, 0, none⟩) bs.length c5] 84)) := (Below.refl _ _).alloc (Nat.le_refl _) _
     refine wpOp_plain rfl rfl ?_
     unfold Oper.wp
     go_simp
     first | exact ⟨_, rfl, _, _, rfl, World.alloc_heap_new _ _, RowB.below ⟨g5, c5, cs5, rfl, hl5, hg5, hc5⟩ hBn⟩ | exact ⟨_, rfl, hBn, CL _ hBn, _, _, rfl, World.alloc_heap_new _ _, RowB.below ⟨g5, c5, cs5, rfl, hl5, hg5, hc5⟩ hBn⟩
    | 15, hA, _ => cases hA
    | 16, hA, _ => cases hA
    | n + 17, hA, _ => simp at hA
   case rest5 =>
    intro ac wz hL
    have e12 : ac.tmps.getD 12 undef = u3 := hL.new 0 _ 12 rfl rfl rfl
    have e13 : ac.tmps.getD 13 undef = .slice (some ⟨B, off, none⟩) m cp2 := hL.new 1 _ 13 rfl rfl rfl
    have e14 : ac.tmps.getD 14 undef = .int .i64 (k : Int) := hL.new 2 _ 14 rfl rfl rfl
    have e15 : ac.tmps.getD 15 undef = .pointer (some ⟨B, off + k * 2, none⟩) := hL.new 3 _ 15 rfl rfl rfl
    have e16 : ac.tmps.getD 16 undef = .pointer (some ⟨B, off + k * 2, none⟩) := hL.new 4 _ 16 rfl rfl rfl
    have e17 : ac.tmps.getD 17 undef = .int .i64 p := hL.new 5 _ 17 rfl rfl rfl
    obtain ⟨y18, e18⟩ : ∃ x, ac.tmps.getD 18 undef = x := ⟨_, rfl⟩
    have e19 : ac.tmps.getD 19 undef = .slice (some ⟨B, off, none⟩) m cp2 := hL.new 7 _ 19 rfl rfl rfl
    have e20 : ac.tmps.getD 20 undef = .int .i64 (k : Int) := hL.new 8 _ 20 rfl rfl rfl
    have e21 : ac.tmps.getD 21 undef = .pointer (some ⟨B, off + k * 2, none⟩) := hL.new 9 _ 21 rfl rfl rfl
    have e22 : ac.tmps.getD 22 undef = .pointer (some ⟨B, off + k * 2 + 1, none⟩) := hL.new 10 _ 22 rfl rfl rfl
    have e23 : ac.tmps.getD 23 undef = .slice a3 dl c3 := hL.new 11 _ 23 rfl rfl rfl
    obtain ⟨y24, e24⟩ : ∃ x, ac.tmps.getD 24 undef = x := ⟨_, rfl⟩
    obtain ⟨y25, e25⟩ : ∃ x, ac.tmps.getD 25 undef = x := ⟨_, rfl⟩
    have hn26 := hL.new 14 _ 26 rfl rfl rfl
    obtain ⟨y26, e26⟩ : ∃ x, ac.tmps.getD 26 undef = x := ⟨_, rfl⟩
    rw [e26] at hn26
    have Hy26 : Aside (OneV wz p bs y26) := hn26
    clear hn26
    have es := hL.sets [12, 13, 14, 15, 16, 17, 18, 19, 20, 21, 22, 23, 24, 25, 26] (by decide +kernel)
    rw [List.foldl_cons, List.foldl_cons, List.foldl_cons, List.foldl_cons, List.foldl_cons, List.foldl_cons, List.foldl_cons, List.foldl_cons, List.foldl_cons, List.foldl_cons, List.foldl_cons, List.foldl_cons, List.foldl_cons, List.foldl_cons, List.foldl_cons, List.foldl_nil, e12, e13, e14, e15, e16, e17, e18, e19, e20, e21, e22, e23, e24, e25, e26] at es
    have BN : Below wr.heap.size wr wz := hL.cls
    rw [es]
    clear es hL e12 e13 e14 e15 e16 e17 e18 e19 e20 e21 e22 e23 e24 e25 e26
    simp only [List.setIfInBounds_toArray, List.set_cons_zero, List.set_cons_succ]
    have HOZ : Aside (wz.ownsRow w.heap.size 84 2 u3 k ((ys.map encV).flatten)) := ownsRow_below hown BN
    have HIZ : Aside (CvInv lv w k ys wz) := ⟨HI.out.same, fun y hy => (HI.out.rows y hy).below BN, HI.out.bel.trans (BN.mono HI.out.siz), Nat.le_trans HI.out.siz BN.size⟩
    obtain ⟨g6, u6, rfl, hg6, hu6⟩ := Hy26.out
    obtain ⟨g5, c5, cs5, rfl, hl5, hg5, hc5⟩ := hu6
    have HU : Aside (RowB wz 1 eI 34 (.slice (some ⟨g5, 0, none⟩) bs.length c5) bs) := ⟨g5, c5, cs5, rfl, hl5, hg5, hc5⟩
    clear hg5 hc5 hl5 Hy26 BN hown HI HXS HXL
    refine wpAny_one (i := 15) (by decide +kernel) rfl rfl ?_
    refine wp_append_own wz (.tmp 12) (.tmp 26) 43 rfl w.heap.size 84 i0 (.agg #[.int .i64 0, .slice none 0 0]) 2 32 Try.underlying43 hi0 hz0 hz1 hz2 rfl (by decide) u3 k ((ys.map encV).flatten) rfl HOZ.out ⟨g6, 0, none⟩ 1 1 [.int .i64 p, .slice (some ⟨g5, 0, none⟩) bs.length c5] rfl rfl (by intro j u h; match j, h with | 0, h => (simp at h; subst h; exact blk_cell hg6 rfl) | 1, h => (simp at h; subst h; rw [add_plain1]; exact blk_cell hg6 rfl) | j + 2, h => simp at h) (by intro u hu; simp at hu; rcases hu with rfl | rfl <;> rfl) (by unfold maxLen; omega) (by omega) HIZ.out.siz ?_
    intro v3 w3 hown3 hgrow3 hnil3
    refine wpAny_one (i := 16) (by decide +kernel) rfl rfl ?_
    unfold Oper.wp
    go_simp
    refine wpAny_done (by decide +kernel) ?_ _
    have HF : Aside (w3.ownsRow w.heap.size 84 2 v3 (k + 1) (((ys ++ [(p, Value.slice (some ⟨g5, 0, none⟩) bs.length c5, bs)]).map encV).flatten) ∧ CvInv lv w (k + 1) (ys ++ [(p, Value.slice (some ⟨g5, 0, none⟩) bs.length c5, bs)]) w3) := by
     refine ⟨by rw [List.map_append, List.flatten_append]; exact hown3, by rw [HTK.out, List.map_append, List.map_append, HIZ.out.same]; rfl, fun y hy => ?_, HIZ.out.bel.grown hgrow3 HIZ.out.siz (fun j hj => (HOZ.out.lt j hj).1), by have := hgrow3.size; have := HIZ.out.siz; omega⟩
     rcases List.mem_append.1 hy with hy | hy
     ·exact (HIZ.out.rows y hy).grw HOZ.out hgrow3 (by decide)
     ·simp at hy; subst hy; exact HU.out.grw HOZ.out hgrow3 (by decide)
    clear hown3 hgrow3 hnil3 HOZ HIZ HU hg6
    go_wp2_with fail
    go_roundg (m - (k + 1))
    case measure => omega
    case rel => exact ⟨k + 1, _, by omega, by omega, by go_num, HF.out.1, HF.out.2⟩
  ·have hltz : ¬ (k : Int) < (m : Int) := by omega
   have hke : k = m := by omega
   subst hke
   go_wp2
   go_ret
   have hsame := HI.out.same
   rw [List.take_of_length_le (by rw [HN.out]; exact Nat.le_refl _)] at hsame
   have hyl : ys.length = k := by have := congrArg List.length hsame; rw [List.length_map, List.length_map, HN.out] at this; exact this
   exact ⟨HI.out.bel, _, ys, rfl, sl_owns (fun _ => rfl) (by rw [hyl]; omega) (by rw [hyl]; exact hown), fun x hx => (HI.out.rows x hx).sl, hsame⟩
end
section
theorem thrL_dart (c : Cnt) (in0 : Bool) (left0 : Int) : ∀ (bs : List Int) (t : Thr) (i : Nat), -1 ≤ (thrL c in0 left0 t i bs).2.1 ∧ (thrL c in0 left0 t i bs).2.1 < (i : Int) + bs.length := by
 intro bs
 induction bs with
 | nil => intro t i; unfold thrL; split <;> (simp only [List.length_nil]; omega)
 | cons b bs ih =>
  intro t i
  unfold thrL
  split
  ·simp only [List.length_cons]; omega
  ·split
   ·obtain ⟨h1, h2⟩ := ih (t.step c b) (i + 1)
    simp only [List.length_cons]
    omega
   ·simp only [List.length_cons]; omega
theorem take_err {r : LegR} {g : LegG} {p : Int} {bs : List Int} (h : (takeG r g p bs).2.2 ≠ 0) : (takeG r g p bs).1 = g ∧ -1 ≤ (takeG r g p bs).2.1 ∧ (takeG r g p bs).2.1 < (bs.length : Int) := by
 unfold takeG at h ⊢
 split
 ·exact ⟨rfl, show (-1 : Int) ≤ -1 by decide, by show (-1 : Int) < _; omega⟩
 ·split
  ·split
   ·split
    ·rename_i h1 h2 h3 h4
     rw [if_neg h1, if_pos h2, if_pos h3, if_pos h4] at h
     exact absurd rfl h
    ·have := thrL_dart (r.counts.getD p.toNat (0, 0, 0)) (g.inn.getD p.toNat false) (g.left.getD p.toNat 0) bs ⟨g.left.getD p.toNat 0, 0, 0, g.inn.getD p.toNat false, false, false⟩ 0
     unfold takeT thr
     refine ⟨rfl, this.1, ?_⟩
     have h2 := this.2
     simp only [] at h2 ⊢
     omega
   ·exact ⟨rfl, show (-1 : Int) ≤ -1 by decide, by show (-1 : Int) < _; omega⟩
  ·exact ⟨rfl, show (-1 : Int) ≤ -1 by decide, by show (-1 : Int) < _; omega⟩
end
section
open Go.RowKit Go.Maps Go.Sort Go.Shelf Go.Deep
def twoR (eq : Bool) : LegR := ⟨[(101, 0, 1), (101, 0, 1)], 0, 0, eq⟩
def exP1 : List (Int × List Int) := [(0, [320, 101, 220]), (1, [320, 101, 220])]
theorem ex_visit1 : visitF (101, 0, 1) true 101 [320, 220] = (⟨101, 0, 2, true, true, false⟩, 0) := by decide +kernel
theorem ex_visit2 : visitF (101, 1, 0) false 101 [320, 210, 120] = (⟨61, 40, 3, true, false, false⟩, 0) := by decide +kernel
theorem least_sorted {ps : List (Int × Int)} {m : Int} {xs : List Int} (h : leastU (mn (ps.map (·.2))) ps = xs) (hs : xs.Pairwise (fun x y => decide (x ≤ y) = true)) : leastL ps = xs := by
 unfold leastL
 rw [h]
 exact List.mergeSort_of_pairwise hs
theorem ex_near1 : nearL [0, 1, 2] [(125, 0), (101, 300), (125, 0)] = [0, 2] := by
 unfold nearL
 exact least_sorted (m := 0) (by decide +kernel) (by decide)
theorem ex_near2 : nearL [0, 2] [(103, 250), (104, 240)] = [2] := by
 unfold nearL
 exact least_sorted (m := 0) (by decide +kernel) (by decide)
theorem ex_off : offF 3 [[(125, 0), (101, 300), (125, 0)], [(103, 250), (104, 240)]] = (2, 0) := by
 unfold offF
 rw [show evL (3 : Int).toNat = [0, 1, 2] from rfl]
 simp only [offL, ex_near1, ex_near2]
 decide +kernel
theorem ex_play1o : (judgeK (twoR true) exP1 2).1.over = true ∧ (judgeK (twoR true) exP1 2).1.round = 1 := by decide +kernel
theorem ex_play1w : (judgeK (twoR true) exP1 2).1.wins = leastL [(0, 3), (1, 3)] := by rfl
theorem ex_play1n : (judgeK (twoR true) exP1 2).1.wins.length = 2 := by
 rw [ex_play1w]
 unfold leastL
 rw [List.length_mergeSort]
 decide +kernel
def exJ : List (Int × List Int) := [(0, [101, 101, 101]), (0, [101, 101, 101]), (1, [120, 120]), (1, [120, 120, 120])]
def exP2 : List (Int × List Int) := [(0, [320, 101, 0]), (0, [0, 0, 0])]
theorem ex_play2 : playE (twoR false) exP2 = (1, 30) := by decide +kernel
theorem ex_play2g : playG (twoR false) exP2 = none := by decide +kernel
theorem ex_play1 : playE (twoR true) exP1 = (0, 0) := by decide +kernel
theorem ex_judge : judgeE (twoR false) exJ = 0 := by decide +kernel
theorem ex_judgeF : (judgeK (twoR false) exJ 4).2 = [(1, -1, 30), (2, -1, 31)] := by decide +kernel
theorem ex_judgeL : (judgeK (twoR false) exJ 4).1.left = [98, 41] ∧ (judgeK (twoR false) exJ 4).1.next = 0 := by decide +kernel
end
section
open Go.RowKit Go.Maps Go.Sort Go.Shelf Go.Deep
/-- The rules of the examples: their two counts lie in a block of their own. -/
def TwoAt (W : World) (eq : Bool) (x : Value) : Prop := ∃ b, x = .agg #[.slice (some ⟨b, 0, none⟩) 2 2, .int .i64 0, .int .i64 0, .bool eq] ∧ W.heap[b]? = some (.cells #[.int .i64 101, .int .i64 0, .int .i64 1, .int .i64 101, .int .i64 0, .int .i64 1] 24 (0, 0))
set_option maxRecDepth 100000 in
set_option maxHeartbeats 1000000 in
theorem two_any (eq : Bool) (w : World) : Calls Try.prog 37 #[.bool eq] w (fun e w' => Below w.heap.size w w' ∧ ∃ x, e = .returned x ∧ TwoAt w' eq x) := by
 go_enter Try.func37, Try.ntmps37
 go_wp2
 refine bodyPost_ret (v := .agg #[.slice (some ⟨w.heap.size + 1 + 1, 0, none⟩) 2 2, .int .i64 0, .int .i64 0, .bool eq]) (by simp [results, Try.results37, go_sem]) rfl ⟨by (repeat' (first | exact Below.refl _ _ | assumption | (with_reducible refine Below.drew ?_) | (with_reducible refine Below.setCell ?_ (by (first | (simp; done) | (simp; omega))) _) | (with_reducible refine below_drewN' ?_ _) | (refine Below.alloc ?_ (by (try simp only [World.size_alloc, World.size_drew, World.size_setCell]); omega) _) | (refine Below.trans ?_ (Below.mono (by assumption) (by (try simp only [World.size_alloc, World.size_drew, World.size_setCell]); omega))))), _, rfl, w.heap.size + 1 + 1, rfl, World.alloc_heap_new' _ _ _ (by simp)⟩
theorem beds_any (a : Option Addr) (n c : Nat) (w : World) : Calls Try.prog 38 #[.slice a n c] w (Ret (.slice a n c) w) := by
 go_enter Try.func38, Try.ntmps38
 go_wp2
 go_ret
 exact ⟨rfl, by (repeat' (first | exact Below.refl _ _ | assumption | (with_reducible refine Below.drew ?_) | (with_reducible refine Below.setCell ?_ (by (first | (simp; done) | (simp; omega))) _) | (with_reducible refine below_drewN' ?_ _) | (refine Below.alloc ?_ (by (try simp only [World.size_alloc, World.size_drew, World.size_setCell]); omega) _) | (refine Below.trans ?_ (Below.mono (by assumption) (by (try simp only [World.size_alloc, World.size_drew, World.size_setCell]); omega)))))⟩
/-- A literal slice lies in a block of its own. -/
theorem sl_blk {α : Type} {W : World} {g k : Nat} {T : TypeId} {enc : α → List Value} {xs : List α} (hk : ∀ x, (enc x).length = k) (hl : xs.length ≤ 1000) (hb : W.heap[g]? = some (.cells ((xs.map enc).flatten).toArray T (0, 0))) (c : Nat) : Sl W k enc (.slice (some ⟨g, 0, none⟩) xs.length c) xs :=
 sl_lit hk hl (Array.getElem?_eq_some_iff.1 hb).1 (fun j u h => blk_cell hb (by simpa using h)) c
/-- Blocks stay as they are, but for those that hold what a visit comes to. -/
def RT (W W' : World) : Prop := W.heap.size ≤ W'.heap.size ∧ ∀ k, k < W.heap.size → (∀ cs, W.heap[k]? ≠ some (.cells cs 30 (0, 0))) → W'.heap[k]? = W.heap[k]?
theorem RT.refl (W : World) : RT W W := ⟨Nat.le_refl _, fun _ _ _ => rfl⟩
theorem RT.of_below {W W' : World} (h : Below W.heap.size W W') : RT W W' := ⟨h.size, fun k hk _ => h.block k hk⟩
theorem RT.put {W W' : World} {g : Nat} {F : Obj} {cs : Array Value} (h : Put g F W W') (hg : W.heap[g]? = some (.cells cs 30 (0, 0))) : RT W W' := ⟨by rw [h.size]; exact Nat.le_refl _, fun k _ hno => h.block k (fun e => by subst e; exact hno _ hg)⟩
theorem RT.keep {W W' : World} {k : Nat} {cs : Array Value} {T : TypeId} (h : RT W W') (hT : T ≠ 30) (hk : W.heap[k]? = some (.cells cs T (0, 0))) : W'.heap[k]? = some (.cells cs T (0, 0)) :=
 (h.2 k (Array.getElem?_eq_some_iff.1 hk).1 (fun c e => by rw [hk] at e; simp only [Option.some.injEq, Obj.cells.injEq] at e; exact hT e.2.1)).trans hk
end
section
open Go.RowKit Go.Maps Go.Sort Go.Shelf Go.Deep
theorem ex_matchA : matchF ⟨2, 2, 2, 2, 0⟩ [0, 0, 1, 1, 0, 1, 0, 0] = (⟨2, 1, 3, 1, 0⟩, -1, 0, 0) := by decide +kernel
theorem ex_play1g : playG (twoR true) exP1 = some (judgeK (twoR true) exP1 2).1 := by
 unfold playG
 rw [if_pos (by decide +kernel)]
 have : (judgeK (twoR true) exP1 exP1.length).2 = [] := by decide +kernel
 rw [this]
 rfl
theorem play1_ok {w w' : World} {e : Ending} (h : PlayOk (twoR true) exP1 w e w') : Below w.heap.size w w' ∧ ∃ al ad ai aw cl cd ci cw nl nd ni nx, e = .returned (.tuple #[.agg #[.slice al nl cl, .slice ad nd cd, .slice ai ni ci, .int .i64 nx, .int .i64 1, .bool true, .slice aw 2 cw], .int .i64 0, .int .i64 0]) := by
 obtain ⟨hB, vs, rfl, hm⟩ := h
 rw [ex_play1g] at hm
 obtain ⟨vl, vd, vi, vw, rfl, h1, h2, h3, h4, _⟩ := hm
 obtain ⟨al, cl, rfl, _⟩ := h1
 obtain ⟨ad, cd, rfl, _⟩ := h2
 obtain ⟨ai, ci, rfl, _⟩ := h3
 obtain ⟨aw, cw, rfl, _⟩ := h4
 exact ⟨hB, al, ad, ai, aw, cl, cd, ci, cw, _, _, _, _, by rw [ex_play1, ex_play1o.1, ex_play1o.2, ex_play1n]⟩
theorem play2_ok {w w' : World} {e : Ending} (h : PlayOk (twoR false) exP2 w e w') : Below w.heap.size w w' ∧ e = .returned (.tuple #[zeroSt, .int .i64 1, .int .i64 30]) := by
 obtain ⟨hB, vs, rfl, hm⟩ := h
 rw [ex_play2g] at hm
 rw [ex_play2, hm]
 exact ⟨hB, rfl⟩
theorem judge_ok {w w' : World} {e : Ending} (h : JudgeOk (twoR false) exJ w e w') : Below w.heap.size w w' ∧ ∃ al ad ai aw af cl cd ci cw cf nd ni nw rd ov, e = .returned (.tuple #[.agg #[.slice al 2 cl, .slice ad nd cd, .slice ai ni ci, .int .i64 0, .int .i64 rd, .bool ov, .slice aw nw cw], .slice af 2 cf, .int .i64 0]) ∧
  Sl w' 1 eI (.slice al 2 cl) [98, 41] ∧ Sl w' 3 encF (.slice af 2 cf) [(1, -1, 30), (2, -1, 31)] := by
 obtain ⟨hB, vs, vf, rfl, hm, _⟩ := h
 obtain ⟨hm, hf, _⟩ := hm ex_judge
 rw [show exJ.length = 4 from rfl, ex_judgeF] at hf
 rw [show exJ.length = 4 from rfl] at hm
 obtain ⟨vl, vd, vi, vw, rfl, h1, h2, h3, h4, _⟩ := hm
 rw [ex_judgeL.1] at h1
 obtain ⟨al, cl, rfl, h1⟩ := h1
 obtain ⟨ad, cd, rfl, _⟩ := h2
 obtain ⟨ai, ci, rfl, _⟩ := h3
 obtain ⟨aw, cw, rfl, _⟩ := h4
 obtain ⟨af, cf, rfl, hf⟩ := hf
 exact ⟨hB, al, ad, ai, aw, af, cl, cd, ci, cw, cf, _, _, _, _, _, by rw [ex_judge, ex_judgeL.2]; rfl, ⟨al, cl, rfl, h1⟩, ⟨af, cf, rfl, hf⟩⟩
theorem two_sl {W : World} {b : Nat} (eq : Bool) (h : W.heap[b]? = some (.cells #[.int .i64 101, .int .i64 0, .int .i64 1, .int .i64 101, .int .i64 0, .int .i64 1] 24 (0, 0))) : Sl W 3 encC (.slice (some ⟨b, 0, none⟩) 2 2) (twoR eq).counts :=
 sl_blk (enc := encC) (xs := [(101, 0, 1), (101, 0, 1)]) (fun _ => rfl) (by decide) h 2
theorem bedsB {xs : List Int} (h : xs.all (fun x => decide (-9223372036854775808 ≤ x) && decide (x ≤ 9223372036854775807)) = true) : ∀ b ∈ xs, -9223372036854775808 ≤ b ∧ b ≤ 9223372036854775807 := by
 intro b hb
 have := List.all_eq_true.1 h b hb
 simpa using this
theorem beds3 {W : World} {k : Nat} {x y z : Int} (h : W.heap[k]? = some (.cells #[.int .i64 x, .int .i64 y, .int .i64 z] 34 (0, 0))) : Sl W 1 eI (.slice (some ⟨k, 0, none⟩) 3 3) [x, y, z] := sl_blk (enc := eI) (xs := [x, y, z]) (fun _ => rfl) (by simp) h 3
theorem beds2 {W : World} {k : Nat} {x y : Int} (h : W.heap[k]? = some (.cells #[.int .i64 x, .int .i64 y] 34 (0, 0))) : Sl W 1 eI (.slice (some ⟨k, 0, none⟩) 2 2) [x, y] := sl_blk (enc := eI) (xs := [x, y]) (fun _ => rfl) (by simp) h 2
end
end Go.Proofs.Ytgmlcgifagbjmaa
