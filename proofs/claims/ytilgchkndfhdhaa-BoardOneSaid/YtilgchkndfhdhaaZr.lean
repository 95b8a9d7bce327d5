/- Board, part Zr: one bed. -/
import Derived.Test.YtilgchkndfhdhaaZp
import Derived.Test.YtilgchkndfhdhaaZq
import Derived.Test.YtilgchkndfhdhaaZt
import Derived.Test.YtilgchkndfhdhaaYj
import Derived.Test.YtilgchkndfhdhaaUh
import Derived.Test.YtilgchkndfhdhaaUg
import Derived.Test.YtilgchkndfhdhaaUj
import Derived.Test.YtilgchkndfhdhaaUk
import Derived.Test.YtilgchkndfhdhaaUr
set_option linter.unusedVariables false
set_option linter.unusedSimpArgs false
namespace Go.Proofs.Ytilgchkndfhdhaa
open Go.RowKit Go.Shelf

set_option maxRecDepth 100000 in
set_option maxHeartbeats 16000000 in
theorem one_law (vr vl : Value) (rings lines : List Int) (f wi a b t : Int) (w : World) (sr : Sl w 1 eU vr rings) (sl : Sl w 1 eU vl lines) (hr : ∀ x ∈ rings, 0 ≤ x ∧ x ≤ 255) (hl : ∀ x ∈ lines, 0 ≤ x ∧ x ≤ 255) (f0 : 0 ≤ f) (f1 : f ≤ 255) (w0 : 0 ≤ wi) (w1 : wi ≤ 255)
    (a0 : 0 ≤ a) (a1 : a ≤ 65535) (b0 : 0 ≤ b) (b1 : b ≤ 65535) (t0 : 0 ≤ t) (t1 : t ≤ 255) :
    Calls Try.prog 3 #[mdV vr vl f wi, .agg #[.int .u16 a, .int .u16 b], .int .u8 t] w (Ret (.bool true) w) := by
  have HR : Aside (Sl w 1 eU vr rings) := sr
  have HL : Aside (Sl w 1 eU vl lines) := sl
  obtain ⟨ar, cr, rfl, lr0, _⟩ := sr
  obtain ⟨al, cl, rfl, ll0, _⟩ := sl
  have HM : Aside (∀ W, Below w.heap.size w W → Calls Try.prog 8 #[mdV (.slice ar rings.length cr) (.slice al lines.length cl) f wi] W (MadeOk rings lines f wi W)) := fun W hW => made_any _ _ rings lines f wi W (HR.out.below hW) (HL.out.below hW) hr hl f0 f1 w0 w1
  have HPT : Aside (∀ W, Calls Try.prog 9 #[.agg #[.int .u16 a, .int .u16 b]] W (Ret (pt (ptOf a b)) W)) := fun W => point_any a b W a0 a1 b0 b1
  have HPB : Aside ((-1250 ≤ (ptOf a b).1 ∧ (ptOf a b).1 ≤ 1250) ∧ -1250 ≤ (ptOf a b).2 ∧ (ptOf a b).2 ≤ 1250) := by
    unfold ptOf
    refine ⟨⟨?_, ?_⟩, ?_, ?_⟩ <;> (simp only []; omega)
  obtain ⟨P, hP⟩ : ∃ P, ptOf a b = P := ⟨_, rfl⟩
  rw [hP] at HPT HPB
  clear HR HL hP
  have HCK : Aside (∀ k, EndL lines k → chk (madeB rings lines f wi k) = 0) := fun k hk => made_chk rings lines f wi k hr f0 f1 w0 hk
  clear hr hl
  generalize rings.length = n at *
  generalize lines.length = m at *
  unfold mdV
  go_enter Try.func3, Try.ntmps3
  go_wp2_with fail
  obtain ⟨W0, hW0⟩ : ∃ W0, W0 = (w.alloc (.cells #[.slice ar n cr, .slice al m cl, .int .u8 f, .int .u8 wi] 24)).alloc (.cells #[.int .u16 a, .int .u16 b] 26) := ⟨_, rfl⟩
  rw [← hW0]
  have BWU : Aside (Below w.heap.size w W0) := by rw [hW0]; clear hW0; (repeat' (first | exact Below.refl _ _ | assumption | (with_reducible refine Below.drew ?_) | (with_reducible refine Below.setCell ?_ (by (first | (simp; done) | (simp; omega))) _) | (with_reducible refine below_drewN' ?_ _) | (refine Below.alloc ?_ (by (try simp only [World.size_alloc, World.size_drew, World.size_setCell]); omega) _) | (refine Below.trans ?_ (Below.mono (by assumption) (by (try simp only [World.size_alloc, World.size_drew, World.size_setCell]); omega)))))
  have x0 : W0.cell? ⟨w.heap.size, 0, none⟩ = some (.slice ar n cr) := by rw [hW0]; clear hW0; go_simp
  have x1 : W0.cell? ⟨w.heap.size, 1, none⟩ = some (.slice al m cl) := by rw [hW0]; clear hW0; go_simp
  have x2 : W0.cell? ⟨w.heap.size, 2, none⟩ = some (.int .u8 f) := by rw [hW0]; clear hW0; go_simp
  have x3 : W0.cell? ⟨w.heap.size, 3, none⟩ = some (.int .u8 wi) := by rw [hW0]; clear hW0; go_simp
  have x4 : W0.cell? ⟨w.heap.size + 1, 0, none⟩ = some (.int .u16 a) := by rw [hW0]; clear hW0; go_simp
  have x5 : W0.cell? ⟨w.heap.size + 1, 1, none⟩ = some (.int .u16 b) := by rw [hW0]; clear hW0; go_simp
  clear hW0
  refine region_laid (fl := 10) [true, true, true, true, true, true, false, false] 2 (fun (i : Nat) (x : Value) (ww : World) => (match i with | 0 => x = .agg #[.slice ar n cr, .slice al m cl, .int .u8 f, .int .u8 wi] | 1 => ∃ k, EndL lines k ∧ BrdAt ww x (madeB rings lines f wi k) | 2 => x = .agg #[.int .u16 a, .int .u16 b] | 3 => x = pt P | 4 => ∃ g, x = .pointer (some ⟨g, 0, none⟩) ∧ W0.heap.size ≤ g ∧ ww.heap[g]? = some (.cells #[.int .i64 0, .int .i64 0, .slice none 0 0, .slice none 0 0, .slice none 0 0, .int .i64 0] 31 (0, 0)) | 5 => ∃ g, x = .pointer (some ⟨g, 0, none⟩) ∧ W0.heap.size ≤ g ∧ ww.heap[g]? = some (.cells #[.int .i64 0, .int .i64 0] 34 (0, 0)) | _ => True : Prop)) (fun w' => Below W0.heap.size W0 w') (by kernel_rfl) rfl (by show layable _ 255 _ 10 = true; decide +kernel) rfl ((Below.refl _ _).drew) ?mono1 ?step1 ?rest1
  case mono1 =>
    intro i x ww ww' hB h
    match i, h with
    | 0, h => exact h
    | 1, h => exact (by obtain ⟨k, h1, h2⟩ := h; exact ⟨k, h1, h2.below hB⟩)
    | 2, h => exact h
    | 3, h => exact h
    | 4, h => exact (by obtain ⟨g, e, hn, h⟩ := h; exact ⟨g, e, hn, (hB.block g (Array.getElem?_eq_some_iff.1 h).1).trans h⟩)
    | 5, h => exact (by obtain ⟨g, e, hn, h⟩ := h; exact ⟨g, e, hn, (hB.block g (Array.getElem?_eq_some_iff.1 h).1).trans h⟩)
    | n + 6, h => exact h
  case step1 =>
    intro i o_ listed ac W hA ho hL he
    have hk3 : ac.tmps.getD 3 undef = .pointer (some ⟨w.heap.size, 0, none⟩) := hL.kept 3 (by decide +kernel)
    have hk4 : ac.tmps.getD 4 undef = .pointer (some ⟨w.heap.size + 1, 0, none⟩) := hL.kept 4 (by decide +kernel)
    have CL : ∀ W', Below W.heap.size W W' → Below W0.heap.size W0 W' := fun W' h => hL.cls.trans (h.mono hL.cls.size)
    have k_x0 := keepc hL.cls x0
    have k_x1 := keepc hL.cls x1
    have k_x2 := keepc hL.cls x2
    have k_x3 := keepc hL.cls x3
    have k_x4 := keepc hL.cls x4
    have k_x5 := keepc hL.cls x5
    match i, hA, ho with
    | 0, _, ho =>
      cases ho
      refine wpOp_plain rfl rfl ?_
      unfold Oper.wp
      go_simp
      exact ⟨_, rfl, Below.refl _ _, CL _ (Below.refl _ _), rfl⟩
    | 1, _, ho =>
      cases ho
      have d0 : ac.tmps.getD 24 undef = .agg #[.slice ar n cr, .slice al m cl, .int .u8 f, .int .u8 wi] := hL.new 0 _ 24 rfl (he ⟨0, .data⟩ (by simp) rfl) rfl
      have x := HM.out W (BWU.out.trans (hL.cls.mono BWU.out.size))
      unfold MadeOk mdV at x
      refine wpOp_plain rfl rfl ?_
      unfold Oper.wp
      go_simp
      refine x.mono ?_
      rintro e w' ⟨k, v, hE, rfl, hbr, hBn⟩
      exact ⟨_, rfl, hBn, CL _ hBn, ⟨k, hE, hbr⟩⟩
    | 2, _, ho =>
      cases ho
      refine wpOp_plain rfl rfl ?_
      unfold Oper.wp
      go_simp
      exact ⟨_, rfl, Below.refl _ _, CL _ (Below.refl _ _), rfl⟩
    | 3, _, ho =>
      cases ho
      have d2 : ac.tmps.getD 26 undef = .agg #[.int .u16 a, .int .u16 b] := hL.new 2 _ 26 rfl (he ⟨2, .data⟩ (by simp) rfl) rfl
      have x := HPT.out W
      refine wpOp_plain rfl rfl ?_
      unfold Oper.wp
      go_simp
      refine x.mono ?_
      rintro e w' ⟨rfl, hBn⟩
      exact ⟨_, rfl, hBn, CL _ hBn, rfl⟩
    | 4, _, ho =>
      cases ho
      refine wpOp_plain rfl rfl ?_
      unfold Oper.wp
      go_simp
      exact ⟨_, rfl, (Below.refl _ _).alloc (Nat.le_refl _) _, CL _ ((Below.refl _ _).alloc (Nat.le_refl _) _), ⟨_, rfl, hL.cls.size, World.alloc_heap_new _ _⟩⟩
    | 5, _, ho =>
      cases ho
      refine wpOp_plain rfl rfl ?_
      unfold Oper.wp
      go_simp
      exact ⟨_, rfl, (Below.refl _ _).alloc (Nat.le_refl _) _, CL _ ((Below.refl _ _).alloc (Nat.le_refl _) _), ⟨_, rfl, hL.cls.size, World.alloc_heap_new _ _⟩⟩
    | 6, hA, _ => cases hA
    | 7, hA, _ => cases hA
    | n + 8, hA, _ => simp at hA
  case rest1 =>
    intro ac W2 hL
    have e24 : ac.tmps.getD 24 undef = .agg #[.slice ar n cr, .slice al m cl, .int .u8 f, .int .u8 wi] := hL.new 0 _ 24 rfl rfl rfl
    have hn25 := hL.new 1 _ 25 rfl rfl rfl
    obtain ⟨xb, e25⟩ : ∃ x, ac.tmps.getD 25 undef = x := ⟨_, rfl⟩
    rw [e25] at hn25
    have Hxb : Aside (∃ k, EndL lines k ∧ BrdAt W2 xb (madeB rings lines f wi k)) := hn25
    clear hn25
    have e26 : ac.tmps.getD 26 undef = .agg #[.int .u16 a, .int .u16 b] := hL.new 2 _ 26 rfl rfl rfl
    have e27 : ac.tmps.getD 27 undef = pt P := hL.new 3 _ 27 rfl rfl rfl
    have hn7 := hL.new 4 _ 7 rfl rfl rfl
    obtain ⟨z7, e7⟩ : ∃ x, ac.tmps.getD 7 undef = x := ⟨_, rfl⟩
    rw [e7] at hn7
    have Hz7 : Aside (∃ g, z7 = .pointer (some ⟨g, 0, none⟩) ∧ W0.heap.size ≤ g ∧ W2.heap[g]? = some (.cells #[.int .i64 0, .int .i64 0, .slice none 0 0, .slice none 0 0, .slice none 0 0, .int .i64 0] 31 (0, 0))) := hn7
    clear hn7
    have hn8 := hL.new 5 _ 8 rfl rfl rfl
    obtain ⟨z8, e8⟩ : ∃ x, ac.tmps.getD 8 undef = x := ⟨_, rfl⟩
    rw [e8] at hn8
    have Hz8 : Aside (∃ g, z8 = .pointer (some ⟨g, 0, none⟩) ∧ W0.heap.size ≤ g ∧ W2.heap[g]? = some (.cells #[.int .i64 0, .int .i64 0] 34 (0, 0))) := hn8
    clear hn8
    have es := hL.sets [24, 25, 26, 27, 7, 8] (by decide +kernel)
    rw [List.foldl_cons, List.foldl_cons, List.foldl_cons, List.foldl_cons, List.foldl_cons, List.foldl_cons, List.foldl_nil, e24, e25, e26, e27, e7, e8] at es
    have BN : Below W0.heap.size W0 W2 := hL.cls
    rw [es]
    clear es hL e24 e25 e26 e27 e7 e8
    simp only [List.setIfInBounds_toArray, List.set_cons_zero, List.set_cons_succ]
    obtain ⟨g7, rfl, n7, z7'⟩ := Hz7.out
    obtain ⟨g8, rfl, n8, z8'⟩ := Hz8.out
    obtain ⟨k, hE, hbr⟩ := Hxb.out
    have hck := HCK.out k hE
    obtain ⟨B, hB⟩ : ∃ B, madeB rings lines f wi k = B := ⟨_, rfl⟩
    rw [hB] at hck hbr
    clear hB HCK hE Hxb Hz7 Hz8
    obtain ⟨xr, xl, xn, rfl, hxr, hxl, hxn⟩ := hbr
    have XR : Aside (Sl W2 2 encP xr B.rings) := hxr
    have XL : Aside (Sl W2 2 encP xl B.lines) := hxl
    have XN : Aside (Sl W2 1 (fun x => [Value.int .i64 x]) xn B.nums) := hxn
    obtain ⟨p1, q1, rfl, _, _⟩ := hxr
    obtain ⟨p2, q2, rfl, _, _⟩ := hxl
    obtain ⟨p3, q3, rfl, _, _⟩ := hxn
    have hne : g7 ≠ g8 := by intro e; rw [e] at z7'; rw [z7'] at z8'; simp at z8'
    obtain ⟨aw1, aw2, aw3⟩ := brd_away hck XR.out XL.out XN.out (zero_board z7')
    obtain ⟨aw4, aw5, aw6⟩ := brd_away hck XR.out XL.out XN.out (zero_point z8')
    have u0 : W2.cell? ⟨g7, 0, none⟩ = some (.int .i64 0) := by rw [cell_of_row W2 g7 0 _ _ _ z7']; rfl
    have u1 : W2.cell? ⟨g7, 1, none⟩ = some (.int .i64 0) := by rw [cell_of_row W2 g7 1 _ _ _ z7']; rfl
    have u2 : W2.cell? ⟨g7, 2, none⟩ = some (.slice none 0 0) := by rw [cell_of_row W2 g7 2 _ _ _ z7']; rfl
    have u3 : W2.cell? ⟨g7, 3, none⟩ = some (.slice none 0 0) := by rw [cell_of_row W2 g7 3 _ _ _ z7']; rfl
    have u4 : W2.cell? ⟨g7, 4, none⟩ = some (.slice none 0 0) := by rw [cell_of_row W2 g7 4 _ _ _ z7']; rfl
    have u5 : W2.cell? ⟨g7, 5, none⟩ = some (.int .i64 0) := by rw [cell_of_row W2 g7 5 _ _ _ z7']; rfl
    have u6 : W2.cell? ⟨g8, 0, none⟩ = some (.int .i64 0) := by rw [cell_of_row W2 g8 0 _ _ _ z8']; rfl
    have u7 : W2.cell? ⟨g8, 1, none⟩ = some (.int .i64 0) := by rw [cell_of_row W2 g8 1 _ _ _ z8']; rfl
    have uf7 : ∀ i, W2.frozen? ⟨g7, i, none⟩ = false := by intro i; simp [World.frozen?, z7']
    have uf8 : ∀ i, W2.frozen? ⟨g8, i, none⟩ = false := by intro i; simp [World.frozen?, z8']
    have hne2 : ¬ g7 = g8 := hne
    have hne3 : ¬ g8 = g7 := fun e => hne e.symm
    clear z7' z8' hne
    unfold pt
    have BN2 : Aside (Below W0.heap.size W0 W2) := BN
    clear BN
    refine wpAny_one (i := 6) (by decide +kernel) rfl rfl ?_
    unfold Oper.wp
    go_simp
    refine wpAny_one (i := 7) (by decide +kernel) rfl rfl ?_
    unfold Oper.wp
    go_simp
    refine wpAny_done (by decide +kernel) ?_ _
    obtain ⟨U, hU⟩ : ∃ U, U = ((((((((W2.setCell ⟨g7, 0, none⟩ (.int .i64 B.eye)).setCell ⟨g7, 1, none⟩ (.int .i64 B.bull)).setCell ⟨g7, 2, none⟩ (.slice p1 B.rings.length q1)).setCell ⟨g7, 3, none⟩ (.slice p2 B.lines.length q2)).setCell ⟨g7, 4, none⟩ (.slice p3 B.nums.length q3)).setCell ⟨g7, 5, none⟩ (.int .i64 B.wire)).setCell ⟨g8, 0, none⟩ (.int .i64 P.1)).setCell ⟨g8, 1, none⟩ (.int .i64 P.2)) := ⟨_, rfl⟩
    have c0 : U.cell? ⟨g7, 0, none⟩ = some (.int .i64 B.eye) := by rw [hU]; clear hU; (first | (go_simp; done) | (go_simp; refine World.cell?_setCell_same' _ _ _ ?_; (repeat (with_reducible refine some_set ?_)); go_simp))
    have c1 : U.cell? ⟨g7, 1, none⟩ = some (.int .i64 B.bull) := by rw [hU]; clear hU; (first | (go_simp; done) | (go_simp; refine World.cell?_setCell_same' _ _ _ ?_; (repeat (with_reducible refine some_set ?_)); go_simp))
    have c2 : U.cell? ⟨g7, 2, none⟩ = some (.slice p1 B.rings.length q1) := by rw [hU]; clear hU; (first | (go_simp; done) | (go_simp; refine World.cell?_setCell_same' _ _ _ ?_; (repeat (with_reducible refine some_set ?_)); go_simp))
    have c3 : U.cell? ⟨g7, 3, none⟩ = some (.slice p2 B.lines.length q2) := by rw [hU]; clear hU; (first | (go_simp; done) | (go_simp; refine World.cell?_setCell_same' _ _ _ ?_; (repeat (with_reducible refine some_set ?_)); go_simp))
    have c4 : U.cell? ⟨g7, 4, none⟩ = some (.slice p3 B.nums.length q3) := by rw [hU]; clear hU; (first | (go_simp; done) | (go_simp; refine World.cell?_setCell_same' _ _ _ ?_; (repeat (with_reducible refine some_set ?_)); go_simp))
    have c5 : U.cell? ⟨g7, 5, none⟩ = some (.int .i64 B.wire) := by rw [hU]; clear hU; (first | (go_simp; done) | (go_simp; refine World.cell?_setCell_same' _ _ _ ?_; (repeat (with_reducible refine some_set ?_)); go_simp))
    have c6 : U.cell? ⟨g8, 0, none⟩ = some (.int .i64 P.1) := by rw [hU]; clear hU; (first | (go_simp; done) | (go_simp; refine World.cell?_setCell_same' _ _ _ ?_; (repeat (with_reducible refine some_set ?_)); go_simp))
    have c7 : U.cell? ⟨g8, 1, none⟩ = some (.int .i64 P.2) := by rw [hU]; clear hU; (first | (go_simp; done) | (go_simp; refine World.cell?_setCell_same' _ _ _ ?_; (repeat (with_reducible refine some_set ?_)); go_simp))
    have HB : Aside (BrdAt U (.agg #[.int .i64 B.eye, .int .i64 B.bull, .slice p1 B.rings.length q1, .slice p2 B.lines.length q2, .slice p3 B.nums.length q3, .int .i64 B.wire]) B) := by
      rw [hU]
      exact ⟨_, _, _, rfl, ((((((((XR.out.away (p := ⟨g7, 0, none⟩) (u := .int .i64 B.eye) aw1).away (p := ⟨g7, 1, none⟩) (u := .int .i64 B.bull) aw1).away (p := ⟨g7, 2, none⟩) (u := .slice p1 B.rings.length q1) aw1).away (p := ⟨g7, 3, none⟩) (u := .slice p2 B.lines.length q2) aw1).away (p := ⟨g7, 4, none⟩) (u := .slice p3 B.nums.length q3) aw1).away (p := ⟨g7, 5, none⟩) (u := .int .i64 B.wire) aw1).away (p := ⟨g8, 0, none⟩) (u := .int .i64 P.1) aw4).away (p := ⟨g8, 1, none⟩) (u := .int .i64 P.2) aw4), ((((((((XL.out.away (p := ⟨g7, 0, none⟩) (u := .int .i64 B.eye) aw2).away (p := ⟨g7, 1, none⟩) (u := .int .i64 B.bull) aw2).away (p := ⟨g7, 2, none⟩) (u := .slice p1 B.rings.length q1) aw2).away (p := ⟨g7, 3, none⟩) (u := .slice p2 B.lines.length q2) aw2).away (p := ⟨g7, 4, none⟩) (u := .slice p3 B.nums.length q3) aw2).away (p := ⟨g7, 5, none⟩) (u := .int .i64 B.wire) aw2).away (p := ⟨g8, 0, none⟩) (u := .int .i64 P.1) aw5).away (p := ⟨g8, 1, none⟩) (u := .int .i64 P.2) aw5), ((((((((XN.out.away (p := ⟨g7, 0, none⟩) (u := .int .i64 B.eye) aw3).away (p := ⟨g7, 1, none⟩) (u := .int .i64 B.bull) aw3).away (p := ⟨g7, 2, none⟩) (u := .slice p1 B.rings.length q1) aw3).away (p := ⟨g7, 3, none⟩) (u := .slice p2 B.lines.length q2) aw3).away (p := ⟨g7, 4, none⟩) (u := .slice p3 B.nums.length q3) aw3).away (p := ⟨g7, 5, none⟩) (u := .int .i64 B.wire) aw3).away (p := ⟨g8, 0, none⟩) (u := .int .i64 P.1) aw6).away (p := ⟨g8, 1, none⟩) (u := .int .i64 P.2) aw6)⟩
    have BU : Below W0.heap.size W0 U := by rw [hU]; exact ((((((((BN2.out.setCell (p := ⟨g7, 0, none⟩) n7 _).setCell (p := ⟨g7, 1, none⟩) n7 _).setCell (p := ⟨g7, 2, none⟩) n7 _).setCell (p := ⟨g7, 3, none⟩) n7 _).setCell (p := ⟨g7, 4, none⟩) n7 _).setCell (p := ⟨g7, 5, none⟩) n7 _).setCell (p := ⟨g8, 0, none⟩) n8 _).setCell (p := ⟨g8, 1, none⟩) n8 _)
    rw [← hU]
    clear hU aw1 aw2 aw3 aw4 aw5 aw6 XR XL XN u0 u1 u2 u3 u4 u5 u6 u7 uf7 uf8 hne2 hne3 n7 n8 BN2
    replace BWU : Aside (Below w.heap.size w U) := BWU.out.trans (BU.mono BWU.out.size)
    clear BU x0 x1 x2 x3 x4 x5 HM HPT
    have HCB : Aside (chk B = 0) := hck
    have G := good_of_chk hck
    have HGL : Aside (B.rings ≠ [] ∧ B.lines ≠ [] ∧ B.nums ≠ [] ∧ B.rings.length ≤ 1000 ∧ B.lines.length ≤ 1000 ∧ B.nums.length ≤ 1000) := ⟨G.rings, G.lines, (by intro e; have h1 := G.same; rw [e] at h1; exact G.lines (List.eq_nil_of_length_eq_zero h1.symm)), by have := G.len.1; omega, by have := G.len.2.1; omega, by have := G.len.2.2; omega⟩
    clear G hck
    have HOWN : Aside (∀ (W : World) (v : Value), BrdAt W v B → Calls Try.prog 11 #[v] W (fun e w' => ∃ v', e = .returned v' ∧ BrdAt w' v' B ∧ Below W.heap.size W w')) := by
      intro W v h
      obtain ⟨g1, g2, g3, g4, g5, g6⟩ := HGL.out
      have x := own_any v B W h g1 g2 g3 g4 g5 g6
      unfold OwnOk at x
      refine x.mono ?_
      rintro e w' ⟨_, _, _, _, _, _, rfl, hbr, hBn⟩
      exact ⟨_, rfl, hbr, hBn⟩
    have HCHK : Aside (∀ (W : World) (v : Value), BrdAt W v B → Calls Try.prog 13 #[v] W (Ret (.int .i64 0) W)) := by
      intro W v h
      have x := check_any v B W h
      rwa [HCB.out] at x
    obtain ⟨L0, hL0⟩ : ∃ L0, allOf B = L0 := ⟨_, rfl⟩
    have HALL : Aside (∀ (W : World) (v : Value), BrdAt W v B → Calls Try.prog 10 #[v] W (BedsOk L0 W)) := by
      intro W v h
      have x := All_ok v B W h HCB.out
      rwa [hL0] at x
    have HPOS : Aside (∀ x ∈ L0, 1 ≤ x ∧ x < 500) := by
      show ∀ x ∈ L0, 1 ≤ x ∧ x < 500
      rw [← hL0]; exact allOf_pos HCB.out
    have HSRT : Aside (∀ k x y, L0[k]? = some x → L0[k + 1]? = some y → x < y) := by
      show ∀ k x y, L0[k]? = some x → L0[k + 1]? = some y → x < y
      rw [← hL0]
      intro k x y hx hy
      obtain ⟨h1, e1⟩ := List.getElem?_eq_some_iff.1 hx
      obtain ⟨h2, e2⟩ := List.getElem?_eq_some_iff.1 hy
      rw [← e1, ← e2]
      exact List.pairwise_iff_getElem.1 (allOf_sorted B) k (k + 1) h1 h2 (Nat.lt_succ_self k)
    have HLEN : Aside (L0.length ≤ 500) := by
      show _ ≤ _
      rw [← hL0]; exact allOf_len B
    have HIN : Aside (bedW B P = 0 ∨ bedW B P ∈ L0) := by
      show _ ∨ _
      rw [← hL0]
      by_cases h : bedW B P = 0
      · exact .inl h
      · exact .inr (bed_in_all HCB.out P h)
    clear hL0
    go_upto_region 2 with (fail)
    go_cut [9, 10] (fun s9 s10 wc => ∃ a_vl c_vl, s9 = .slice a_vl L0.length c_vl ∧ s10 = .int .i64 0 ∧ Aside (Sl wc 1 eI (.slice a_vl L0.length c_vl) L0) ∧ Aside (Below U.heap.size U wc))
    case first =>
      have hB := HB.out
      go_wp2_with (first | (go_at_call 11; (with_reducible refine (HOWN.out _ _ hB).mono ?_); rintro e w1 ⟨v1, rfl, hbr1, hb1⟩) | (go_at_call 10; (with_reducible refine (HALL.out _ _ hbr1).mono ?_); rintro e w2 ⟨vl, rfl, hs2, hb2⟩))
      go_meet
      obtain ⟨a', c', rfl, _⟩ := id hs2
      exact ⟨_, _, rfl, rfl, hs2, hb1.trans (hb2.mono hb1.size)⟩
    case rest =>
      obtain ⟨U2, rfl⟩ : ∃ U2 : World, U2 = wc := ⟨_, rfl⟩
      obtain ⟨a_vl, c_vl, rfl, rfl, Hvl, hBN⟩ := hcut
      have BN : Below U.heap.size U U2 := hBN.out
      clear hBN HALL
      replace HB : Aside (BrdAt U2 (.agg #[.int .i64 B.eye, .int .i64 B.bull, .slice p1 B.rings.length q1, .slice p2 B.lines.length q2, .slice p3 B.nums.length q3, .int .i64 B.wire]) B) := HB.out.below BN
      replace c0 := keepc BN c0
      replace c1 := keepc BN c1
      replace c2 := keepc BN c2
      replace c3 := keepc BN c3
      replace c4 := keepc BN c4
      replace c5 := keepc BN c5
      replace c6 := keepc BN c6
      replace c7 := keepc BN c7
      replace BWU : Aside (Below w.heap.size w U2) := BWU.out.trans (BN.mono BWU.out.size)
      clear BN
      obtain ⟨A, hA⟩ : ∃ A, bedW B P = A := ⟨_, rfl⟩
      obtain ⟨o, ho⟩ : ∃ o, onWire B P = o := ⟨_, rfl⟩
      have HBDQ : Aside (∀ (Q : Int × Int) (W : World) (v : Value), vpt Q = true → BrdAt W v B → Calls Try.prog 12 #[v, .agg #[.int .i64 Q.1, .int .i64 Q.2]] W (Ret (.tuple #[.int .i64 (bedW B Q), .bool (onWire B Q), .int .i64 0]) W)) := by
        intro Q W v hq h
        have x := Bed_any v B Q W h
        have hr : bedR B Q = .tuple #[.int .i64 (bedW B Q), .bool (onWire B Q), .int .i64 0] := by
          unfold bedR
          rw [if_pos HCB.out, if_pos hq]
        rw [hr] at x
        exact x
      have HBD : Aside (∀ (W : World) (v : Value), BrdAt W v B → Calls Try.prog 12 #[v, .agg #[.int .i64 P.1, .int .i64 P.2]] W (Ret (.tuple #[.int .i64 A, .bool o, .int .i64 0]) W)) := by
        intro W v h
        have x := HBDQ.out P W v (by unfold vpt inb; simp; have := HPB.out; omega) h
        rwa [hA, ho] at x
      have HA : Aside (bedW B P = A ∧ onWire B P = o) := ⟨hA, ho⟩
      have HAB : Aside (0 ≤ A ∧ A < 500) := by
        show _ ∧ _
        rw [← hA]; exact bedW_bd HCB.out P
      have HAO : Aside (o = true → A = 0 ∧ B.wire ≠ 0) := by
        show _ → _
        intro h
        rw [← ho] at h
        refine ⟨by rw [← hA]; unfold bedW; rw [if_pos h], ?_⟩
        intro e
        unfold onWire at h
        rw [e] at h
        simp at h
      rw [hA] at HIN
      clear hA ho
      go_upto_region 3 with (fail)
      refine region_laid (fl := 10) [true, true, true, true, true, true, true, true, true, true, true] 0 (fun (i : Nat) (x : Value) (ww : World) => (match i with | 0 => x = .agg #[.int .i64 B.eye, .int .i64 B.bull, .slice p1 B.rings.length q1, .slice p2 B.lines.length q2, .slice p3 B.nums.length q3, .int .i64 B.wire] | 1 => BrdAt ww x B | 2 => x = .agg #[.int .i64 P.1, .int .i64 P.2] | 3 => x = .tuple #[.int .i64 A, .bool o, .int .i64 0] | 4 => x = .tuple #[.int .i64 A, .bool o, .int .i64 0] | 5 => x = .int .i64 A | 6 => x = .bool o | 7 => x = .int .i64 0 | 8 => x = .int .i64 A | 9 => x = .bool o | 10 => x = .int .i64 0 | _ => True : Prop)) (fun w' => Below U2.heap.size U2 w') (by kernel_rfl) rfl (by show layable _ 255 _ 10 = true; decide +kernel) rfl ((Below.refl _ _).drew) ?mono3 ?step3 ?rest3
      case mono3 =>
        intro i x ww ww' hB h
        match i, h with
        | 0, h => exact h
        | 1, h => exact BrdAt.below h hB
        | 2, h => exact h
        | 3, h => exact h
        | 4, h => exact h
        | 5, h => exact h
        | 6, h => exact h
        | 7, h => exact h
        | 8, h => exact h
        | 9, h => exact h
        | 10, h => exact h
        | n + 11, h => exact h
      case step3 =>
        intro i o_ listed ac W hA ho hL he
        have hk7 : ac.tmps.getD 7 undef = .pointer (some ⟨g7, 0, none⟩) := hL.kept 7 (by decide +kernel)
        have hk8 : ac.tmps.getD 8 undef = .pointer (some ⟨g8, 0, none⟩) := hL.kept 8 (by decide +kernel)
        have CL : ∀ W', Below W.heap.size W W' → Below U2.heap.size U2 W' := fun W' h => hL.cls.trans (h.mono hL.cls.size)
        have k_c0 := keepc hL.cls c0
        have k_c1 := keepc hL.cls c1
        have k_c2 := keepc hL.cls c2
        have k_c3 := keepc hL.cls c3
        have k_c4 := keepc hL.cls c4
        have k_c5 := keepc hL.cls c5
        have k_c6 := keepc hL.cls c6
        have k_c7 := keepc hL.cls c7
        match i, hA, ho with
        | 0, _, ho =>
          cases ho
          refine wpOp_plain rfl rfl ?_
          unfold Oper.wp
          go_simp
          exact ⟨_, rfl, Below.refl _ _, CL _ (Below.refl _ _), rfl⟩
        | 1, _, ho =>
          cases ho
          have d0 : ac.tmps.getD 35 undef = .agg #[.int .i64 B.eye, .int .i64 B.bull, .slice p1 B.rings.length q1, .slice p2 B.lines.length q2, .slice p3 B.nums.length q3, .int .i64 B.wire] := hL.new 0 _ 35 rfl (he ⟨0, .data⟩ (by simp) rfl) rfl
          have x := HOWN.out W _ (HB.out.below hL.cls)
          refine wpOp_plain rfl rfl ?_
          unfold Oper.wp
          go_simp
          refine x.mono ?_
          rintro e w' ⟨v', rfl, hbr, hBn⟩
          exact ⟨_, rfl, hBn, CL _ hBn, hbr⟩
        | 2, _, ho =>
          cases ho
          refine wpOp_plain rfl rfl ?_
          unfold Oper.wp
          go_simp
          exact ⟨_, rfl, Below.refl _ _, CL _ (Below.refl _ _), rfl⟩
        | 3, _, ho =>
          cases ho
          obtain ⟨x1, hx1⟩ : ∃ x, ac.tmps.getD 36 undef = x := ⟨_, rfl⟩
          have d1 := hL.new 1 _ 36 rfl (he ⟨1, .data⟩ (by simp) rfl) rfl
          rw [hx1] at d1
          have d2 : ac.tmps.getD 37 undef = .agg #[.int .i64 P.1, .int .i64 P.2] := hL.new 2 _ 37 rfl (he ⟨2, .data⟩ (by simp) rfl) rfl
          have x := HBD.out W x1 d1
          refine wpOp_plain rfl rfl ?_
          unfold Oper.wp
          go_simp
          refine x.mono ?_
          rintro e w' ⟨rfl, hBn⟩
          exact ⟨_, rfl, hBn, CL _ hBn, rfl⟩
        | 4, _, ho =>
          cases ho
          have d3 : ac.tmps.getD 38 undef = .tuple #[.int .i64 A, .bool o, .int .i64 0] := hL.new 3 _ 38 rfl (he ⟨3, .data⟩ (by simp) rfl) rfl
          refine wpOp_plain rfl rfl ?_
          unfold Oper.wp
          go_simp
          exact ⟨_, rfl, Below.refl _ _, CL _ (Below.refl _ _), rfl⟩
        | 5, _, ho =>
          cases ho
          have d4 : ac.tmps.getD 34 undef = .tuple #[.int .i64 A, .bool o, .int .i64 0] := hL.new 4 _ 34 rfl (he ⟨4, .data⟩ (by simp) rfl) rfl
          refine wpOp_plain rfl rfl ?_
          unfold Oper.wp
          go_simp
          exact ⟨_, rfl, Below.refl _ _, CL _ (Below.refl _ _), rfl⟩
        | 6, _, ho =>
          cases ho
          have d4 : ac.tmps.getD 34 undef = .tuple #[.int .i64 A, .bool o, .int .i64 0] := hL.new 4 _ 34 rfl (he ⟨4, .data⟩ (by simp) rfl) rfl
          refine wpOp_plain rfl rfl ?_
          unfold Oper.wp
          go_simp
          exact ⟨_, rfl, Below.refl _ _, CL _ (Below.refl _ _), rfl⟩
        | 7, _, ho =>
          cases ho
          have d4 : ac.tmps.getD 34 undef = .tuple #[.int .i64 A, .bool o, .int .i64 0] := hL.new 4 _ 34 rfl (he ⟨4, .data⟩ (by simp) rfl) rfl
          refine wpOp_plain rfl rfl ?_
          unfold Oper.wp
          go_simp
          exact ⟨_, rfl, Below.refl _ _, CL _ (Below.refl _ _), rfl⟩
        | 8, _, ho =>
          cases ho
          have d5 : ac.tmps.getD 39 undef = .int .i64 A := hL.new 5 _ 39 rfl (he ⟨5, .data⟩ (by simp) rfl) rfl
          refine wpOp_plain rfl rfl ?_
          unfold Oper.wp
          go_simp
          exact ⟨_, rfl, Below.refl _ _, CL _ (Below.refl _ _), rfl⟩
        | 9, _, ho =>
          cases ho
          have d6 : ac.tmps.getD 40 undef = .bool o := hL.new 6 _ 40 rfl (he ⟨6, .data⟩ (by simp) rfl) rfl
          refine wpOp_plain rfl rfl ?_
          unfold Oper.wp
          go_simp
          exact ⟨_, rfl, Below.refl _ _, CL _ (Below.refl _ _), rfl⟩
        | 10, _, ho =>
          cases ho
          have d7 : ac.tmps.getD 41 undef = .int .i64 0 := hL.new 7 _ 41 rfl (he ⟨7, .data⟩ (by simp) rfl) rfl
          refine wpOp_plain rfl rfl ?_
          unfold Oper.wp
          go_simp
          exact ⟨_, rfl, Below.refl _ _, CL _ (Below.refl _ _), rfl⟩
        | n + 11, hA, _ => simp at hA
      case rest3 =>
        intro ac U3 hL
        have e35 : ac.tmps.getD 35 undef = .agg #[.int .i64 B.eye, .int .i64 B.bull, .slice p1 B.rings.length q1, .slice p2 B.lines.length q2, .slice p3 B.nums.length q3, .int .i64 B.wire] := hL.new 0 _ 35 rfl rfl rfl
        obtain ⟨y36, e36⟩ : ∃ x, ac.tmps.getD 36 undef = x := ⟨_, rfl⟩
        have e37 : ac.tmps.getD 37 undef = .agg #[.int .i64 P.1, .int .i64 P.2] := hL.new 2 _ 37 rfl rfl rfl
        have e38 : ac.tmps.getD 38 undef = .tuple #[.int .i64 A, .bool o, .int .i64 0] := hL.new 3 _ 38 rfl rfl rfl
        have e34 : ac.tmps.getD 34 undef = .tuple #[.int .i64 A, .bool o, .int .i64 0] := hL.new 4 _ 34 rfl rfl rfl
        have e39 : ac.tmps.getD 39 undef = .int .i64 A := hL.new 5 _ 39 rfl rfl rfl
        have e40 : ac.tmps.getD 40 undef = .bool o := hL.new 6 _ 40 rfl rfl rfl
        have e41 : ac.tmps.getD 41 undef = .int .i64 0 := hL.new 7 _ 41 rfl rfl rfl
        have e11 : ac.tmps.getD 11 undef = .int .i64 A := hL.new 8 _ 11 rfl rfl rfl
        have e12 : ac.tmps.getD 12 undef = .bool o := hL.new 9 _ 12 rfl rfl rfl
        have e13 : ac.tmps.getD 13 undef = .int .i64 0 := hL.new 10 _ 13 rfl rfl rfl
        have es := hL.sets [35, 36, 37, 38, 34, 39, 40, 41, 11, 12, 13] (by decide +kernel)
        rw [List.foldl_cons, List.foldl_cons, List.foldl_cons, List.foldl_cons, List.foldl_cons, List.foldl_cons, List.foldl_cons, List.foldl_cons, List.foldl_cons, List.foldl_cons, List.foldl_cons, List.foldl_nil, e35, e36, e37, e38, e34, e39, e40, e41, e11, e12, e13] at es
        have BN : Below U2.heap.size U2 U3 := hL.cls
        rw [es]
        clear es hL e35 e36 e37 e38 e34 e39 e40 e41 e11 e12 e13
        refine wpAny_done (by decide +kernel) ?_ _
        simp only [List.setIfInBounds_toArray, List.set_cons_zero, List.set_cons_succ]
        replace HB : Aside (BrdAt U3 (.agg #[.int .i64 B.eye, .int .i64 B.bull, .slice p1 B.rings.length q1, .slice p2 B.lines.length q2, .slice p3 B.nums.length q3, .int .i64 B.wire]) B) := HB.out.below BN
        replace Hvl : Aside (Sl U3 1 eI (.slice a_vl L0.length c_vl) L0) := Hvl.out.below BN
        replace c0 := keepc BN c0
        replace c1 := keepc BN c1
        replace c2 := keepc BN c2
        replace c3 := keepc BN c3
        replace c4 := keepc BN c4
        replace c5 := keepc BN c5
        replace c6 := keepc BN c6
        replace c7 := keepc BN c7
        replace BWU : Aside (Below w.heap.size w U3) := BWU.out.trans (BN.mono BWU.out.size)
        clear BN
        clear HBD
        go_upto_region 4 with (fail)
        go_cut [65] (fun s65 wc => s65 = .bool false ∧ Aside (Below U3.heap.size U3 wc))
        case first =>
          have hB := HB.out
          cases o with
          | false =>
            go_wp2_with (first | (go_at_call 11; (with_reducible refine (HOWN.out _ _ hB).mono ?_); rintro e w1 ⟨v1, rfl, hbr1, hb1⟩) | (go_at_call 13; (with_reducible refine (HCHK.out _ _ hbr1).mono ?_); rintro e w2 ⟨rfl, hb2⟩))
            go_meet
            exact ⟨rfl, hb1.trans (hb2.mono hb1.size)⟩
          | true =>
            obtain ⟨hA0, hw0⟩ := HAO.out rfl
            have hwz : (B.wire == 0) = false := by rw [beq_eq_false_iff_ne]; exact hw0
            subst hA0
            clear hw0
            go_wp2_with (first | (go_at_call 11; (with_reducible refine (HOWN.out _ _ hB).mono ?_); rintro e w1 ⟨v1, rfl, hbr1, hb1⟩) | (go_at_call 13; (with_reducible refine (HCHK.out _ _ hbr1).mono ?_); rintro e w2 ⟨rfl, hb2⟩; have c5' := keepc hb2 (keepc hb1 c5)))
            go_meet
            exact ⟨rfl, hb1.trans (hb2.mono hb1.size)⟩
        case rest =>
          obtain ⟨U4, rfl⟩ : ∃ U4 : World, U4 = wc := ⟨_, rfl⟩
          obtain ⟨rfl, hBN⟩ := hcut
          have BN : Below U3.heap.size U3 U4 := hBN.out
          clear hBN HCHK
          replace HB : Aside (BrdAt U4 (.agg #[.int .i64 B.eye, .int .i64 B.bull, .slice p1 B.rings.length q1, .slice p2 B.lines.length q2, .slice p3 B.nums.length q3, .int .i64 B.wire]) B) := HB.out.below BN
          replace Hvl : Aside (Sl U4 1 eI (.slice a_vl L0.length c_vl) L0) := Hvl.out.below BN
          replace c0 := keepc BN c0
          replace c1 := keepc BN c1
          replace c2 := keepc BN c2
          replace c3 := keepc BN c3
          replace c4 := keepc BN c4
          replace c5 := keepc BN c5
          replace c6 := keepc BN c6
          replace c7 := keepc BN c7
          replace BWU : Aside (Below w.heap.size w U4) := BWU.out.trans (BN.mono BWU.out.size)
          clear BN
          obtain ⟨n0, hn0⟩ : ∃ n0, L0.length = n0 := ⟨_, rfl⟩
          have HN0 : Aside (L0.length = n0) := hn0
          have hn0b : n0 ≤ 500 := by rw [← hn0]; exact HLEN.out
          have HCV : Aside (∀ k x, L0[k]? = some x → ∃ b off, a_vl = some ⟨b, off, none⟩ ∧ ∀ W, Below U4.heap.size U4 W → W.cell? ⟨b, off + k, none⟩ = some (.int .i64 x)) := by
            intro k x hx
            obtain ⟨a', c', e, _, hs⟩ := Hvl.out
            cases e
            obtain ⟨b, off, ha, _, hc⟩ := hs (by intro e; rw [e] at hx; simp at hx)
            exact ⟨b, off, ha, fun W hW => keepc hW (by have := hc k x hx 0 _ rfl; simpa using this)⟩
          rw [hn0]
          clear hn0 Hvl HLEN
          have HST : Aside (Value.bool (A == 0) = .bool ((A == 0) || (L0.take 0).contains A)) := by show _ = _; simp
          go_wp2_with fail
          go_loopg [14, 15] n0 (fun gg s14 iv wr => ∃ k : Nat, k ≤ n0 ∧ n0 - k ≤ gg ∧ iv = .int .i64 k ∧ s14 = .bool ((A == 0) || (L0.take k).contains A) ∧ Aside (Below U4.heap.size U4 wr))
          case atStart => exact ⟨0, by omega, by omega, rfl, HST.out, Below.refl _ _⟩
          case round =>
            clear HST
            obtain ⟨k, hk, hg, rfl, rfl, BR⟩ := hrel
            by_cases hlt : k < n0
            ·
              as_aux_lemma =>
                have hltz : (k : Int) < (n0 : Int) := by omega
                obtain ⟨x, hx⟩ : ∃ x, L0[k]? = some x := ⟨_, List.getElem?_eq_getElem (by rw [HN0.out]; exact hlt)⟩
                have HX : Aside (L0[k]? = some x) := hx
                obtain ⟨b, off, rfl, kx'⟩ := HCV.out k x hx
                have kx := kx' _ BR.out
                obtain ⟨bb, hbb⟩ : ∃ bb, ((A == 0) || (L0.take k).contains A) = bb := ⟨_, rfl⟩
                have HT : Aside (((A == 0) || (L0.take (k + 1)).contains A) = (bb || (x == A))) := by
                  show _ = _
                  obtain ⟨hk', e⟩ := List.getElem?_eq_some_iff.1 hx
                  rw [List.take_succ_eq_append_getElem hk', e, ← hbb]
                  rw [Bool.eq_iff_iff]
                  simp only [List.contains_eq_mem, List.mem_append, List.mem_singleton, decide_eq_true_eq, Bool.or_eq_true, beq_iff_eq]
                  constructor
                  · rintro (h | h | h)
                    · exact .inl (.inl h)
                    · exact .inl (.inr h)
                    · exact .inr h.symm
                  · rintro ((h | h) | h)
                    · exact .inl h
                    · exact .inr (.inl h)
                    · exact .inr (.inr h.symm)
                rw [hbb]
                clear hbb hx kx'
                go_upto_region 10 with (fail)
                go_cut [14] (fun s14 wc => s14 = .bool ((A == 0) || (L0.take (k + 1)).contains A) ∧ wr = wc)
                case first =>
                  cases bb with
                  | true =>
                    go_wp2_with fail
                    go_meet
                    exact ⟨by rw [HT.out]; rfl, rfl⟩
                  | false =>
                    by_cases hxa : x = A
                    · have hxb : (x == A) = true := by simp [hxa]
                      clear hxa
                      go_wp2_with fail
                      go_meet
                      exact ⟨by rw [HT.out, hxb]; rfl, rfl⟩
                    · have hxb : (x == A) = false := by simp [hxa]
                      clear hxa
                      go_wp2_with fail
                      go_meet
                      exact ⟨by rw [HT.out, hxb]; rfl, rfl⟩
                case rest =>
                  obtain ⟨rfl, rfl⟩ := hcut
                  obtain ⟨sv, hsv⟩ : ∃ sv, ((A == 0) || (L0.take (k + 1)).contains A) = sv := ⟨_, rfl⟩
                  have HSV : Aside (((A == 0) || (L0.take (k + 1)).contains A) = sv) := hsv
                  rw [hsv]
                  clear hsv HT
                  have hx1 : decide (x < 1) = false := decide_eq_false (by have := HPOS.out x (List.mem_of_getElem? HX.out); omega)
                  go_upto_region 11 with (fail)
                  by_cases hk0 : k = 0
                  · subst hk0
                    have hdg : decide ((0 : Int) < ((0 : Nat) : Int)) = false := rfl
                    have hdg2 : decide ((0 : Int) < (0 : Int)) = false := rfl
                    have MK : Aside (∀ w', Below wr.heap.size wr w' → (Below wr.heap.size wr w' ∧ w'.cell? ⟨b, off + 0, none⟩ = some (.int .i64 x))) := fun w' hB => ⟨hB, keepc hB kx⟩
                    have MK2 : Aside (∀ w', Below wr.heap.size wr w' → (Below wr.heap.size wr w' ∧ w'.cell? ⟨b, off, none⟩ = some (.int .i64 x))) := fun w' hB => ⟨hB, keepc hB kx⟩
                    refine region_class (fun w' => Below wr.heap.size wr w' ∧ w'.cell? ⟨b, off, none⟩ = some (.int .i64 x)) (by kernel_rfl) (by kernel_rfl) (MK2.out _ ((Below.refl _ _).drew)) ?_
                    iterate 21 (first | go_big_quiet_skip | (go_big_quiet_want; unfold Oper.quiet; apply Exists.intro; refine ⟨fun W hW => ?_, ?_⟩; (go_split_ands; unfold Oper.quietAt; go_simp; first | rfl | exact ⟨rfl, rfl⟩ | skip); go_big_quiet_on; (try simp only [Act.put, List.setIfInBounds_toArray, List.set_cons_zero, List.set_cons_succ])))
                    refine wpQuiet_nil ?_
                    intro W hW
                    obtain ⟨hBW, _⟩ := hW
                    go_wp2_with fail
                    go_roundg (n0 - (0 + 1))
                    case measure => omega
                    case rel => exact ⟨0 + 1, by omega, by omega, by go_num, by rw [HSV.out], BR.out.trans (hBW.mono BR.out.size)⟩
                  · obtain ⟨j, rfl⟩ : ∃ j, k = j + 1 := ⟨k - 1, by omega⟩
                    obtain ⟨y, hy⟩ : ∃ y, L0[j]? = some y := ⟨_, List.getElem?_eq_getElem (by rw [HN0.out]; omega)⟩
                    have hyx : decide (x ≤ y) = false := decide_eq_false (by have := HSRT.out j y x hy HX.out; omega)
                    obtain ⟨b', off', e', ky'⟩ := HCV.out j y hy
                    have ky := ky' _ BR.out
                    simp only [Option.some.injEq, Addr.mk.injEq, and_true] at e'
                    obtain ⟨rfl, rfl⟩ := e'
                    have hdg : decide ((0 : Int) < ((j + 1 : Nat) : Int)) = true := decide_eq_true (by omega)
                    have hdg2 : decide ((0 : Int) < (j : Int) + 1) = true := decide_eq_true (by omega)
                    have hjn : (j : Int) < (n0 : Int) := by omega
                    have hj1 : ((j + 1 : Nat) : Int) < (n0 : Int) := by omega
                    have hj2 : (j : Int) + 1 < (n0 : Int) := by omega
                    have hw1 : IntKind.i64.wrap ((j : Int) + 1 - 1) = (j : Int) := by rw [IntWalk.i64_in _ (by omega)]; omega
                    have hw2 : IntKind.i64.wrap (j : Int) = (j : Int) := IntWalk.i64_in _ (by omega)
                    have hw3 : ((j : Int) + 1).toNat = j + 1 := by omega
                    clear hy ky' hk0
                    have MK : Aside (∀ w', Below wr.heap.size wr w' → (Below wr.heap.size wr w' ∧ w'.cell? ⟨b, off + (j + 1), none⟩ = some (.int .i64 x) ∧ w'.cell? ⟨b, off + j, none⟩ = some (.int .i64 y))) := fun w' hB => ⟨hB, keepc hB kx, keepc hB ky⟩
                    refine region_class (fun w' => Below wr.heap.size wr w' ∧ w'.cell? ⟨b, off + (j + 1), none⟩ = some (.int .i64 x) ∧ w'.cell? ⟨b, off + j, none⟩ = some (.int .i64 y)) (by kernel_rfl) (by kernel_rfl) (MK.out _ ((Below.refl _ _).drew)) ?_
                    iterate 21 (first | go_big_quiet_skip | (go_big_quiet_want; unfold Oper.quiet; apply Exists.intro; refine ⟨fun W hW => ?_, ?_⟩; (go_split_ands; unfold Oper.quietAt; go_simp; first | rfl | exact ⟨rfl, rfl⟩ | skip); go_big_quiet_on; (try simp only [Act.put, List.setIfInBounds_toArray, List.set_cons_zero, List.set_cons_succ])))
                    refine wpQuiet_nil ?_
                    intro W hW
                    obtain ⟨hBW, _⟩ := hW
                    go_wp2_with fail
                    go_roundg (n0 - (j + 1 + 1))
                    case measure => omega
                    case rel => exact ⟨j + 1 + 1, by omega, by omega, by go_num, by rw [HSV.out], BR.out.trans (hBW.mono BR.out.size)⟩
            · have hke : n0 = k := by omega
              subst hke
              have hltz : ¬ (n0 : Int) < (n0 : Int) := by omega
              have hin : ((A == 0) || (L0.take n0).contains A) = true := by
                rw [← HN0.out, List.take_length]
                simp only [List.contains_eq_mem, decide_eq_true_eq, Bool.or_eq_true, beq_iff_eq]
                exact HIN.out
              rw [hin]
              clear hin HIN HCV HPOS HSRT HN0
              obtain ⟨U5, rfl⟩ : ∃ U5 : World, U5 = wr := ⟨_, rfl⟩
              have BN : Below U4.heap.size U4 U5 := BR.out
              clear BR
              replace HB : Aside (BrdAt U5 (.agg #[.int .i64 B.eye, .int .i64 B.bull, .slice p1 B.rings.length q1, .slice p2 B.lines.length q2, .slice p3 B.nums.length q3, .int .i64 B.wire]) B) := HB.out.below BN
              replace c0 := keepc BN c0
              replace c1 := keepc BN c1
              replace c2 := keepc BN c2
              replace c3 := keepc BN c3
              replace c4 := keepc BN c4
              replace c5 := keepc BN c5
              replace c6 := keepc BN c6
              replace c7 := keepc BN c7
              replace BWU : Aside (Below w.heap.size w U5) := BWU.out.trans (BN.mono BWU.out.size)
              clear BN
              as_aux_lemma =>
                obtain ⟨kk, hkk⟩ : ∃ kk, 1 + t % 4 = kk := ⟨_, rfl⟩
                have hkb : 1 ≤ kk ∧ kk ≤ 4 := by omega
                obtain ⟨X, hX⟩ : ∃ X, P.1 = X := ⟨_, rfl⟩
                obtain ⟨Y, hY⟩ : ∃ Y, P.2 = Y := ⟨_, rfl⟩
                have HP : Aside (P = (X, Y)) := by show _ = _; rw [← hX, ← hY]
                rw [hX, hY] at HPB
                rw [hX] at c6
                rw [hY] at c7
                obtain ⟨⟨X0, X1⟩, Y0, Y1⟩ := HPB.out
                have hxk : -5000 ≤ X * kk ∧ X * kk ≤ 5000 := by
                  have h1 := mul_bd X kk 1250 4 (by omega) (by omega) (by omega) (by omega)
                  omega
                have hyk : -5000 ≤ Y * kk ∧ Y * kk ≤ 5000 := by
                  have h1 := mul_bd Y kk 1250 4 (by omega) (by omega) (by omega) (by omega)
                  omega
                obtain ⟨XK, hXK⟩ : ∃ XK, X * kk = XK := ⟨_, rfl⟩
                obtain ⟨YK, hYK⟩ : ∃ YK, Y * kk = YK := ⟨_, rfl⟩
                have HK : Aside (sc kk P = (XK, YK)) := by
                  show _ = _
                  rw [HP.out]; unfold sc; rw [hXK, hYK]
                have HWK : Aside (IntKind.i64.wrap (X * kk) = XK ∧ IntKind.i64.wrap (Y * kk) = YK) := ⟨by rw [IntWalk.i64_in _ (by omega)]; exact hXK, by rw [IntWalk.i64_in _ (by omega)]; exact hYK⟩
                have HT4 : Aside (1 + t % 4 = kk) := hkk
                rw [hXK] at hxk
                rw [hYK] at hyk
                clear hX hY hkk hXK hYK
                go_upto_region 13 with (fail)
                go_cut [16] (fun s16 wc => ∃ g16, s16 = .pointer (some ⟨g16, 0, none⟩) ∧ wc.cell? ⟨g16, 0, none⟩ = some (.int .i64 XK) ∧ wc.cell? ⟨g16, 1, none⟩ = some (.int .i64 YK) ∧ Aside (Below U5.heap.size U5 wc))
                case first =>
                  as_aux_lemma =>
                    have h1 := HT4.out
                    obtain ⟨h2, h3⟩ := HWK.out
                    have h4 : IntKind.u8.wrap t = t := IntWalk.u8_in _ (by omega)
                    go_wp2_with fail
                    go_meet
                    refine ⟨_, rfl, ?_, ?_, (Below.refl _ _).alloc (Nat.le_refl _) _⟩ <;> go_simp
                case rest =>
                  clear HT4 HWK
                  obtain ⟨U6, rfl⟩ : ∃ U6 : World, U6 = wc := ⟨_, rfl⟩
                  obtain ⟨g16, rfl, k0, k1, hBN⟩ := hcut
                  have BN : Below U5.heap.size U5 U6 := hBN.out
                  clear hBN
                  replace HB : Aside (BrdAt U6 (.agg #[.int .i64 B.eye, .int .i64 B.bull, .slice p1 B.rings.length q1, .slice p2 B.lines.length q2, .slice p3 B.nums.length q3, .int .i64 B.wire]) B) := HB.out.below BN
                  replace c0 := keepc BN c0
                  replace c1 := keepc BN c1
                  replace c2 := keepc BN c2
                  replace c3 := keepc BN c3
                  replace c4 := keepc BN c4
                  replace c5 := keepc BN c5
                  replace c6 := keepc BN c6
                  replace c7 := keepc BN c7
                  replace BWU : Aside (Below w.heap.size w U6) := BWU.out.trans (BN.mono BWU.out.size)
                  clear BN
                  obtain ⟨A2, hA2⟩ : ∃ A2, bedW B (XK, YK) = A2 := ⟨_, rfl⟩
                  obtain ⟨o2, ho2⟩ : ∃ o2, onWire B (XK, YK) = o2 := ⟨_, rfl⟩
                  have HBD : Aside (∀ (W : World) (v : Value), BrdAt W v B → Calls Try.prog 12 #[v, .agg #[.int .i64 XK, .int .i64 YK]] W (Ret (.tuple #[.int .i64 A2, .bool o2, .int .i64 0]) W)) := by
                    intro W v h
                    have x := HBDQ.out (XK, YK) W v (by unfold vpt inb; simp; omega) h
                    rwa [hA2, ho2] at x
                  have HFS : Aside (A ≠ 0 → A2 ≠ 0 → A % 100 ≠ 25 → A2 % 100 ≠ 25 → A2 % 100 = A % 100) := by
                    show A ≠ 0 → _
                    rw [← hA2, ← HK.out, ← HA.out.1]
                    intro h1 h2 h3 h4
                    exact far_same (good_of_chk HCB.out) (by omega) P h1 h2 h3 h4
                  have HAB2 : Aside (0 ≤ A2 ∧ A2 < 500) := by
                    show _ ∧ _
                    rw [← hA2]; exact bedW_bd HCB.out _
                  clear hA2 ho2 HK
                  go_upto_region 14 with (fail)
                  refine region_laid (fl := 10) [true, true, true, true, true, true, true, true, true, true, true] 0 (fun (i : Nat) (x : Value) (ww : World) => (match i with | 0 => x = .agg #[.int .i64 B.eye, .int .i64 B.bull, .slice p1 B.rings.length q1, .slice p2 B.lines.length q2, .slice p3 B.nums.length q3, .int .i64 B.wire] | 1 => BrdAt ww x B | 2 => x = .agg #[.int .i64 XK, .int .i64 YK] | 3 => x = .tuple #[.int .i64 A2, .bool o2, .int .i64 0] | 4 => x = .tuple #[.int .i64 A2, .bool o2, .int .i64 0] | 5 => x = .int .i64 A2 | 6 => x = .bool o2 | 7 => x = .int .i64 0 | 8 => x = .int .i64 A2 | 9 => x = .bool o2 | 10 => x = .int .i64 0 | _ => True : Prop)) (fun w' => Below U6.heap.size U6 w') (by kernel_rfl) rfl (by show layable _ 255 _ 10 = true; decide +kernel) rfl ((Below.refl _ _).drew) ?mono14 ?step14 ?rest14
                  case mono14 =>
                    intro i x ww ww' hB h
                    match i, h with
                    | 0, h => exact h
                    | 1, h => exact BrdAt.below h hB
                    | 2, h => exact h
                    | 3, h => exact h
                    | 4, h => exact h
                    | 5, h => exact h
                    | 6, h => exact h
                    | 7, h => exact h
                    | 8, h => exact h
                    | 9, h => exact h
                    | 10, h => exact h
                    | n + 11, h => exact h
                  case step14 =>
                    intro i o_ listed ac W hA ho hL he
                    have hk7 : ac.tmps.getD 7 undef = .pointer (some ⟨g7, 0, none⟩) := hL.kept 7 (by decide +kernel)
                    have hk16 : ac.tmps.getD 16 undef = .pointer (some ⟨g16, 0, none⟩) := hL.kept 16 (by decide +kernel)
                    have CL : ∀ W', Below W.heap.size W W' → Below U6.heap.size U6 W' := fun W' h => hL.cls.trans (h.mono hL.cls.size)
                    have k_c0 := keepc hL.cls c0
                    have k_c1 := keepc hL.cls c1
                    have k_c2 := keepc hL.cls c2
                    have k_c3 := keepc hL.cls c3
                    have k_c4 := keepc hL.cls c4
                    have k_c5 := keepc hL.cls c5
                    have k_k0 := keepc hL.cls k0
                    have k_k1 := keepc hL.cls k1
                    match i, hA, ho with
                    | 0, _, ho =>
                      cases ho
                      refine wpOp_plain rfl rfl ?_
                      unfold Oper.wp
                      go_simp
                      exact ⟨_, rfl, Below.refl _ _, CL _ (Below.refl _ _), rfl⟩
                    | 1, _, ho =>
                      cases ho
                      have d0 : ac.tmps.getD 120 undef = .agg #[.int .i64 B.eye, .int .i64 B.bull, .slice p1 B.rings.length q1, .slice p2 B.lines.length q2, .slice p3 B.nums.length q3, .int .i64 B.wire] := hL.new 0 _ 120 rfl (he ⟨0, .data⟩ (by simp) rfl) rfl
                      have x := HOWN.out W _ (HB.out.below hL.cls)
                      refine wpOp_plain rfl rfl ?_
                      unfold Oper.wp
                      go_simp
                      refine x.mono ?_
                      rintro e w' ⟨v', rfl, hbr, hBn⟩
                      exact ⟨_, rfl, hBn, CL _ hBn, hbr⟩
                    | 2, _, ho =>
                      cases ho
                      refine wpOp_plain rfl rfl ?_
                      unfold Oper.wp
                      go_simp
                      exact ⟨_, rfl, Below.refl _ _, CL _ (Below.refl _ _), rfl⟩
                    | 3, _, ho =>
                      cases ho
                      obtain ⟨x1, hx1⟩ : ∃ x, ac.tmps.getD 121 undef = x := ⟨_, rfl⟩
                      have d1 := hL.new 1 _ 121 rfl (he ⟨1, .data⟩ (by simp) rfl) rfl
                      rw [hx1] at d1
                      have d2 : ac.tmps.getD 122 undef = .agg #[.int .i64 XK, .int .i64 YK] := hL.new 2 _ 122 rfl (he ⟨2, .data⟩ (by simp) rfl) rfl
                      have x := HBD.out W x1 d1
                      refine wpOp_plain rfl rfl ?_
                      unfold Oper.wp
                      go_simp
                      refine x.mono ?_
                      rintro e w' ⟨rfl, hBn⟩
                      exact ⟨_, rfl, hBn, CL _ hBn, rfl⟩
                    | 4, _, ho =>
                      cases ho
                      have d3 : ac.tmps.getD 123 undef = .tuple #[.int .i64 A2, .bool o2, .int .i64 0] := hL.new 3 _ 123 rfl (he ⟨3, .data⟩ (by simp) rfl) rfl
                      refine wpOp_plain rfl rfl ?_
                      unfold Oper.wp
                      go_simp
                      exact ⟨_, rfl, Below.refl _ _, CL _ (Below.refl _ _), rfl⟩
                    | 5, _, ho =>
                      cases ho
                      have d4 : ac.tmps.getD 119 undef = .tuple #[.int .i64 A2, .bool o2, .int .i64 0] := hL.new 4 _ 119 rfl (he ⟨4, .data⟩ (by simp) rfl) rfl
                      refine wpOp_plain rfl rfl ?_
                      unfold Oper.wp
                      go_simp
                      exact ⟨_, rfl, Below.refl _ _, CL _ (Below.refl _ _), rfl⟩
                    | 6, _, ho =>
                      cases ho
                      have d4 : ac.tmps.getD 119 undef = .tuple #[.int .i64 A2, .bool o2, .int .i64 0] := hL.new 4 _ 119 rfl (he ⟨4, .data⟩ (by simp) rfl) rfl
                      refine wpOp_plain rfl rfl ?_
                      unfold Oper.wp
                      go_simp
                      exact ⟨_, rfl, Below.refl _ _, CL _ (Below.refl _ _), rfl⟩
                    | 7, _, ho =>
                      cases ho
                      have d4 : ac.tmps.getD 119 undef = .tuple #[.int .i64 A2, .bool o2, .int .i64 0] := hL.new 4 _ 119 rfl (he ⟨4, .data⟩ (by simp) rfl) rfl
                      refine wpOp_plain rfl rfl ?_
                      unfold Oper.wp
                      go_simp
                      exact ⟨_, rfl, Below.refl _ _, CL _ (Below.refl _ _), rfl⟩
                    | 8, _, ho =>
                      cases ho
                      have d5 : ac.tmps.getD 124 undef = .int .i64 A2 := hL.new 5 _ 124 rfl (he ⟨5, .data⟩ (by simp) rfl) rfl
                      refine wpOp_plain rfl rfl ?_
                      unfold Oper.wp
                      go_simp
                      exact ⟨_, rfl, Below.refl _ _, CL _ (Below.refl _ _), rfl⟩
                    | 9, _, ho =>
                      cases ho
                      have d6 : ac.tmps.getD 125 undef = .bool o2 := hL.new 6 _ 125 rfl (he ⟨6, .data⟩ (by simp) rfl) rfl
                      refine wpOp_plain rfl rfl ?_
                      unfold Oper.wp
                      go_simp
                      exact ⟨_, rfl, Below.refl _ _, CL _ (Below.refl _ _), rfl⟩
                    | 10, _, ho =>
                      cases ho
                      have d7 : ac.tmps.getD 126 undef = .int .i64 0 := hL.new 7 _ 126 rfl (he ⟨7, .data⟩ (by simp) rfl) rfl
                      refine wpOp_plain rfl rfl ?_
                      unfold Oper.wp
                      go_simp
                      exact ⟨_, rfl, Below.refl _ _, CL _ (Below.refl _ _), rfl⟩
                    | n + 11, hA, _ => simp at hA
                  case rest14 =>
                    intro ac U7 hL
                    have e120 : ac.tmps.getD 120 undef = .agg #[.int .i64 B.eye, .int .i64 B.bull, .slice p1 B.rings.length q1, .slice p2 B.lines.length q2, .slice p3 B.nums.length q3, .int .i64 B.wire] := hL.new 0 _ 120 rfl rfl rfl
                    obtain ⟨y121, e121⟩ : ∃ x, ac.tmps.getD 121 undef = x := ⟨_, rfl⟩
                    have e122 : ac.tmps.getD 122 undef = .agg #[.int .i64 XK, .int .i64 YK] := hL.new 2 _ 122 rfl rfl rfl
                    have e123 : ac.tmps.getD 123 undef = .tuple #[.int .i64 A2, .bool o2, .int .i64 0] := hL.new 3 _ 123 rfl rfl rfl
                    have e119 : ac.tmps.getD 119 undef = .tuple #[.int .i64 A2, .bool o2, .int .i64 0] := hL.new 4 _ 119 rfl rfl rfl
                    have e124 : ac.tmps.getD 124 undef = .int .i64 A2 := hL.new 5 _ 124 rfl rfl rfl
                    have e125 : ac.tmps.getD 125 undef = .bool o2 := hL.new 6 _ 125 rfl rfl rfl
                    have e126 : ac.tmps.getD 126 undef = .int .i64 0 := hL.new 7 _ 126 rfl rfl rfl
                    have e17 : ac.tmps.getD 17 undef = .int .i64 A2 := hL.new 8 _ 17 rfl rfl rfl
                    have e18 : ac.tmps.getD 18 undef = .bool o2 := hL.new 9 _ 18 rfl rfl rfl
                    have e10 : ac.tmps.getD 10 undef = .int .i64 0 := hL.new 10 _ 10 rfl rfl rfl
                    have es := hL.sets [120, 121, 122, 123, 119, 124, 125, 126, 17, 18, 10] (by decide +kernel)
                    rw [List.foldl_cons, List.foldl_cons, List.foldl_cons, List.foldl_cons, List.foldl_cons, List.foldl_cons, List.foldl_cons, List.foldl_cons, List.foldl_cons, List.foldl_cons, List.foldl_cons, List.foldl_nil, e120, e121, e122, e123, e119, e124, e125, e126, e17, e18, e10] at es
                    have BN : Below U6.heap.size U6 U7 := hL.cls
                    rw [es]
                    clear es hL e120 e121 e122 e123 e119 e124 e125 e126 e17 e18 e10
                    refine wpAny_done (by decide +kernel) ?_ _
                    simp only [List.setIfInBounds_toArray, List.set_cons_zero, List.set_cons_succ]
                    replace HB : Aside (BrdAt U7 (.agg #[.int .i64 B.eye, .int .i64 B.bull, .slice p1 B.rings.length q1, .slice p2 B.lines.length q2, .slice p3 B.nums.length q3, .int .i64 B.wire]) B) := HB.out.below BN
                    replace c0 := keepc BN c0
                    replace c1 := keepc BN c1
                    replace c2 := keepc BN c2
                    replace c3 := keepc BN c3
                    replace c4 := keepc BN c4
                    replace c5 := keepc BN c5
                    replace c6 := keepc BN c6
                    replace c7 := keepc BN c7
                    replace BWU : Aside (Below w.heap.size w U7) := BWU.out.trans (BN.mono BWU.out.size)
                    clear BN
                    as_aux_lemma =>
                      clear HBD k0 k1
                      go_upto_region 15 with (fail)
                      go_cut [153] (fun s153 wc => s153 = .bool false ∧ U7 = wc)
                      case first =>
                        obtain ⟨hA0, _⟩ := HAB.out
                        obtain ⟨hB0, _⟩ := HAB2.out
                        by_cases e1 : A2 % 100 = A % 100
                        · have q1 : (A2 % 100 != A % 100) = false := by rw [e1]; simp
                          clear e1
                          go_wp2_with fail
                          go_meet
                          exact ⟨rfl, rfl⟩
                        · have q1 : (A2 % 100 != A % 100) = true := by rw [bne_iff_ne]; exact e1
                          by_cases e2 : A2 = 0
                          · have q2 : (A2 != 0) = false := by rw [e2]; rfl
                            clear e1 e2
                            go_wp2_with fail
                            go_meet
                            exact ⟨rfl, rfl⟩
                          · have q2 : (A2 != 0) = true := by rw [bne_iff_ne]; exact e2
                            by_cases e3 : A = 0
                            · have q3 : (A != 0) = false := by rw [e3]; rfl
                              clear e1 e2 e3
                              go_wp2_with fail
                              go_meet
                              exact ⟨rfl, rfl⟩
                            · have q3 : (A != 0) = true := by rw [bne_iff_ne]; exact e3
                              by_cases e4 : A2 % 100 = 25
                              · have q4 : (A2 % 100 != 25) = false := by rw [e4]; rfl
                                clear e1 e2 e3 e4
                                go_wp2_with fail
                                go_meet
                                exact ⟨rfl, rfl⟩
                              · have q4 : (A2 % 100 != 25) = true := by rw [bne_iff_ne]; exact e4
                                by_cases e5 : A % 100 = 25
                                · have q5 : (A % 100 != 25) = false := by rw [e5]; rfl
                                  clear e1 e2 e3 e4 e5
                                  go_wp2_with fail
                                  go_meet
                                  exact ⟨rfl, rfl⟩
                                · exact absurd (HFS.out e3 e2 e5 e4) e1
                      case rest =>
                        obtain ⟨rfl, rfl⟩ := hcut
                        clear HFS HAB2 hxk hyk
                        have HOWN2 : Aside (∀ (W : World) (v : Value), BrdAt W v B → Below U7.heap.size U7 W → Calls Try.prog 11 #[v] W (fun e w' => ∃ v', e = .returned v' ∧ CopyAt U7 B v' w' ∧ Below W.heap.size W w')) := by
                          intro W v h hW
                          obtain ⟨q1, q2, q3, q4, q5, q6⟩ := HGL.out
                          have x := own_any2 v B W h q1 q2 q3 q4 q5 q6
                          unfold OwnOk2 at x
                          refine x.mono ?_
                          rintro e w' ⟨g1, c1, g2, c2, g3, c3, rfl, hbr, hg2, hg3, ht1, ht2, ht3, hBn⟩
                          obtain ⟨yr, yl, yn, e, s1, s2, s3⟩ := hbr
                          cases e
                          exact ⟨_, rfl, ⟨g1, c1, g2, c2, g3, c3, rfl, s1, s2, s3, Nat.le_trans hW.size hg2, Nat.le_trans hW.size hg3, ht1, ht2, ht3⟩, hBn⟩
                        clear HOWN
                        go_upto_region 17 with (fail)
                        refine region_laidK (fun _ _ => True) (fl := 10) [true, true, true, true, true, true, true, false] 1 (fun (i : Nat) (x : Value) (ww : World) => (match i with | 0 => x = .agg #[.int .i64 B.eye, .int .i64 B.bull, .slice p1 B.rings.length q1, .slice p2 B.lines.length q2, .slice p3 B.nums.length q3, .int .i64 B.wire] | 1 => True | 2 => x = .pointer (some ⟨g7, 3, none⟩) | 3 => x = .slice p2 B.lines.length q2 | 4 => x = .int .i64 B.lines.length | 5 => True | 6 => True | _ => True : Prop)) (Cm U7 B) (by kernel_rfl) rfl (by show layableK _ 255 _ 10 = true; decide +kernel) rfl (Cm.start _ _ _ _) ?mono17 ?step17 ?rest17
                        case mono17 =>
                          intro i x ww ww' hB h
                          match i, h with
                          | 0, h => exact h
                          | 1, h => exact h
                          | 2, h => exact h
                          | 3, h => exact h
                          | 4, h => exact h
                          | 5, h => exact h
                          | 6, h => exact h
                          | n + 7, h => exact h
                        case step17 =>
                          intro i o_ listed ac W hA ho hL he hcl hli hsz
                          have hk7 : ac.tmps.getD 7 undef = .pointer (some ⟨g7, 0, none⟩) := hL.kept 7 (by decide +kernel)
                          have CL : ∀ W', Below W.heap.size W W' → Below U7.heap.size U7 W' := fun W' h => hL.cls.1.trans (h.mono hL.cls.1.size)
                          have k_c0 := keepc hL.cls.1 c0
                          have k_c1 := keepc hL.cls.1 c1
                          have k_c2 := keepc hL.cls.1 c2
                          have k_c3 := keepc hL.cls.1 c3
                          have k_c4 := keepc hL.cls.1 c4
                          have k_c5 := keepc hL.cls.1 c5
                          match i, hA, ho with
                          | 0, _, ho =>
                            cases ho
                            refine wpOp_plain rfl rfl ?_
                            unfold Oper.wp
                            go_simp
                            exact Cm.other hL.cls (by decide) (Below.refl _ _)
                          | 1, _, ho =>
                            cases ho
                            have d0 : ac.tmps.getD 154 undef = .agg #[.int .i64 B.eye, .int .i64 B.bull, .slice p1 B.rings.length q1, .slice p2 B.lines.length q2, .slice p3 B.nums.length q3, .int .i64 B.wire] := hL.new 0 _ 154 rfl (he ⟨0, .data⟩ (by simp) rfl) rfl
                            have hq : listed.getD 6 false = false := by
                              cases hx : listed.getD 6 false with
                              | false => rfl
                              | true =>
                                have h8 := hcl 6 _ rfl hx ⟨1, .data⟩ (by simp) rfl
                                simp only [Array.getD_eq_getD_getElem?] at h8 hli
                                rw [Array.getElem?_eq_getElem (show 1 < listed.size by rw [hsz]; decide)] at h8 hli
                                rw [Option.getD_some] at h8 hli
                                rw [h8] at hli; cases hli
                            have x := HOWN2.out W _ (HB.out.below hL.cls.1) hL.cls.1
                            refine wpOp_plain rfl rfl ?_
                            unfold Oper.wp
                            go_simp
                            refine x.mono ?_
                            rintro e w' ⟨v', rfl, hcp, hBn⟩
                            exact ⟨_, rfl, Cm.own hL.cls (by rw [hL.size]; exact (by decide : (155 : Nat) < 255)) hq hBn hcp⟩
                          | 2, _, ho =>
                            cases ho
                            refine wpOp_plain rfl rfl ?_
                            unfold Oper.wp
                            go_simp
                            exact Cm.other hL.cls (by decide) (Below.refl _ _)
                          | 3, _, ho =>
                            cases ho
                            have d2 : ac.tmps.getD 156 undef = .pointer (some ⟨g7, 3, none⟩) := hL.new 2 _ 156 rfl (he ⟨2, .data⟩ (by simp) rfl) rfl
                            refine wpOp_plain rfl rfl ?_
                            unfold Oper.wp
                            go_simp
                            exact Cm.other hL.cls (by decide) (Below.refl _ _)
                          | 4, _, ho =>
                            cases ho
                            have d3 : ac.tmps.getD 157 undef = .slice p2 B.lines.length q2 := hL.new 3 _ 157 rfl (he ⟨3, .data⟩ (by simp) rfl) rfl
                            refine wpOp_plain rfl rfl ?_
                            unfold Oper.wp
                            go_simp
                            exact Cm.other hL.cls (by decide) (Below.refl _ _)
                          | 5, _, ho =>
                            cases ho
                            have hq : listed.getD 6 false = false := by
                              cases hx : listed.getD 6 false with
                              | false => rfl
                              | true =>
                                have h8 := hcl 6 _ rfl hx ⟨5, .data⟩ (by simp) rfl
                                simp only [Array.getD_eq_getD_getElem?] at h8 hli
                                rw [Array.getElem?_eq_getElem (show 5 < listed.size by rw [hsz]; decide)] at h8 hli
                                rw [Option.getD_some] at h8 hli
                                rw [h8] at hli; cases hli
                            refine wpOp_plain rfl rfl ?_
                            unfold Oper.wp
                            go_simp
                            exact ⟨_, rfl, Cm.alloc hL.cls (by rw [hL.size]; exact (by decide : (19 : Nat) < 255)) hq⟩
                          | 6, _, ho =>
                            cases ho
                            have h5 : listed.getD 5 false = true := he ⟨5, .data⟩ (by simp) rfl
                            have h1l : listed.getD 1 false = true := he ⟨1, .data⟩ (by simp) rfl
                            have hq : listed.getD 6 false = false := by
                              simp only [Array.getD_eq_getD_getElem?] at hli ⊢
                              rw [Array.getElem?_eq_getElem (show 6 < listed.size by rw [hsz]; decide)] at hli ⊢
                              simpa using hli
                            obtain ⟨gg, u1, u2, u3, u4⟩ := hL.cls.2.1 h5
                            have u5 := u4 hq
                            obtain ⟨_, _, _, _, _, _, e155, _⟩ := hL.cls.2.2.1 h1l
                            have HPU : Aside _ := Cm.store hL.cls h5 u1 (by rw [hsz]; exact (by decide : (6 : Nat) < 8)) e155 u5
                            have zc0 : W.cell? ⟨gg, 0, none⟩ = some (.int .i64 0) := by rw [cell_of_row W gg 0 _ _ _ u5]; rfl
                            have zc1 : W.cell? ⟨gg, 1, none⟩ = some (.int .i64 0) := by rw [cell_of_row W gg 1 _ _ _ u5]; rfl
                            have zc2 : W.cell? ⟨gg, 2, none⟩ = some (.slice none 0 0) := by rw [cell_of_row W gg 2 _ _ _ u5]; rfl
                            have zc3 : W.cell? ⟨gg, 3, none⟩ = some (.slice none 0 0) := by rw [cell_of_row W gg 3 _ _ _ u5]; rfl
                            have zc4 : W.cell? ⟨gg, 4, none⟩ = some (.slice none 0 0) := by rw [cell_of_row W gg 4 _ _ _ u5]; rfl
                            have zc5 : W.cell? ⟨gg, 5, none⟩ = some (.int .i64 0) := by rw [cell_of_row W gg 5 _ _ _ u5]; rfl
                            have zf : ∀ i, W.frozen? ⟨gg, i, none⟩ = false := by intro i; simp [World.frozen?, u5]
                            clear u3 u4 u5 k_c0 k_c1 k_c2 k_c3 k_c4 k_c5
                            refine wpOp_plain rfl rfl ?_
                            unfold Oper.wp
                            go_simp
                            exact HPU.out
                          | 7, hA, _ => cases hA
                          | n + 8, hA, _ => simp at hA
                        case rest17 =>
                          intro ac U8 hL
                          have e154 : ac.tmps.getD 154 undef = .agg #[.int .i64 B.eye, .int .i64 B.bull, .slice p1 B.rings.length q1, .slice p2 B.lines.length q2, .slice p3 B.nums.length q3, .int .i64 B.wire] := hL.new 0 _ 154 rfl rfl rfl
                          obtain ⟨g1, d1, g2, d2, g3, d3, e155, s1, s2, s3, n2, n3, t1', t2', t3'⟩ := hL.cls.2.2.1 rfl
                          have e156 : ac.tmps.getD 156 undef = .pointer (some ⟨g7, 3, none⟩) := hL.new 2 _ 156 rfl rfl rfl
                          have e157 : ac.tmps.getD 157 undef = .slice p2 B.lines.length q2 := hL.new 3 _ 157 rfl rfl rfl
                          have e158 : ac.tmps.getD 158 undef = .int .i64 B.lines.length := hL.new 4 _ 158 rfl rfl rfl
                          obtain ⟨g19, cs19, e19, e155', z19⟩ := hL.cls.2.2.2 rfl
                          rw [e155] at e155'
                          cases e155'
                          have n19 : U7.heap.size ≤ g19 := by
                            obtain ⟨g', w1', w2', _⟩ := hL.cls.2.1 rfl
                            rw [e19] at w1'
                            cases w1'
                            exact w2'
                          have es := hL.sets [154, 155, 156, 157, 158, 19] (by decide +kernel)
                          rw [List.foldl_cons, List.foldl_cons, List.foldl_cons, List.foldl_cons, List.foldl_cons, List.foldl_cons, List.foldl_nil, e154, e155, e156, e157, e158, e19] at es
                          have BN : Below U7.heap.size U7 U8 := hL.cls.1
                          rw [es]
                          clear es hL e154 e155 e156 e157 e158 e19
                          simp only [List.setIfInBounds_toArray, List.set_cons_zero, List.set_cons_succ]
                          as_aux_lemma =>
                            refine wpAny_one (i := 7) (by decide +kernel) rfl rfl ?_
                            unfold Oper.wp
                            go_simp
                            refine wpAny_done (by decide +kernel) ?_ _
                            have BR8 : Aside (Below U7.heap.size U7 U8) := BN
                            have HMI : Aside (MirAt B P g19 g1 d1 g2 d2 g3 d3 0 0 0 U8) := ⟨z19, s1, by rw [mix_zero]; exact s2, by rw [mix_zero]; exact s3, t1', t2', t3', fun q l hq => absurd hq (Nat.not_lt_zero _)⟩
                            clear BN z19 s1 s2 s3 t1' t2' t3' HOWN2
                            obtain ⟨lb, lo, hp2, HLC⟩ : ∃ lb lo, p2 = some ⟨lb, lo, none⟩ ∧ Aside (∀ j l, B.lines[j]? = some l → ∀ W, Below U7.heap.size U7 W → W.cell? ⟨lb, lo + j * 2, none⟩ = some (.int .i64 l.1) ∧ W.cell? ⟨lb, lo + j * 2 + 1, none⟩ = some (.int .i64 l.2)) := by
                              obtain ⟨yr, yl, yn, e, _, hl, _⟩ := HB.out
                              cases e
                              obtain ⟨a', c', e, _, hs⟩ := hl
                              cases e
                              obtain ⟨b', off', ha, _, hc⟩ := hs HGL.out.2.1
                              refine ⟨b', off', ha, fun j l hj W hW => ⟨keepc hW ?_, keepc hW ?_⟩⟩
                              · have := hc j l hj 0 _ rfl; simpa using this
                              · have := hc j l hj 1 _ rfl; simpa using this
                            obtain ⟨nb, no, hp3, HNC⟩ : ∃ nb no, p3 = some ⟨nb, no, none⟩ ∧ Aside (∀ j x, B.nums[j]? = some x → ∀ W, Below U7.heap.size U7 W → W.cell? ⟨nb, no + j, none⟩ = some (.int .i64 x)) := by
                              obtain ⟨yr, yl, yn, e, _, _, hn⟩ := HB.out
                              cases e
                              obtain ⟨a', c', e, _, hs⟩ := hn
                              cases e
                              obtain ⟨b', off', ha, _, hc⟩ := hs HGL.out.2.2.1
                              refine ⟨b', off', ha, fun j x hj W hW => keepc hW ?_⟩
                              have := hc j x hj 0 _ rfl; simpa using this
                            have HP2 : Aside (p2 = some ⟨lb, lo, none⟩) := hp2
                            have HP3 : Aside (p3 = some ⟨nb, no, none⟩) := hp3
                            clear hp2 hp3
                            have hGD := good_of_chk HCB.out
                            obtain ⟨NL, hNL⟩ : ∃ n, B.lines.length = n := ⟨_, rfl⟩
                            have hNN : B.nums.length = NL := hGD.same.trans hNL
                            have hn20 : 1 ≤ NL ∧ NL ≤ 20 := by
                              have h1 := List.length_pos_iff.2 hGD.lines
                              have h2 := hGD.len.2.1
                              omega
                            have HL5 : Aside (∀ l ∈ B.lines, Pt5 l) := hGD.pts
                            have HNL : Aside (B.lines.length = NL ∧ B.nums.length = NL) := ⟨hNL, hNN⟩
                            rw [hNL] at c3 ⊢
                            rw [hNN] at c4
                            clear hNL hNN hGD HGL HB c0 c1 c2 c5
                            go_wp2_with fail
                            go_loopg [21] NL (fun gg iv wr => ∃ iu : Nat, iu ≤ NL ∧ NL - iu ≤ gg ∧ iv = .int .i64 iu ∧ Aside (Below U7.heap.size U7 wr) ∧ Aside (MirAt B P g19 g1 d1 g2 d2 g3 d3 iu iu iu wr))
                            case atStart => exact ⟨0, by omega, by omega, rfl, BR8, HMI⟩
                            case round =>
                              clear BR8 HMI
                              obtain ⟨iu, hi, hg, rfl, BR, HMI⟩ := hrel
                              by_cases hlt : iu < NL
                              ·
                                as_aux_lemma =>
                                  obtain ⟨l, hl1, hl2⟩ := mir_line B iu (by rw [HNL.out.1]; exact hlt)
                                  obtain ⟨xq, hq1, hq2⟩ := mir_num B iu (by rw [HNL.out.2]; exact hlt)
                                  obtain ⟨li, hli⟩ : ∃ li, B.lines[iu]? = some li := ⟨_, List.getElem?_eq_getElem (by rw [HNL.out.1]; exact hlt)⟩
                                  rw [HNL.out.1] at hl1
                                  rw [HNL.out.2] at hq1
                                  obtain ⟨q, hq⟩ : ∃ q, (NL - iu) % NL = q := ⟨_, rfl⟩
                                  have hqn : q < NL := by rw [← hq]; exact Nat.mod_lt _ (by omega)
                                  have hqz : ((NL : Int) - (iu : Int)).tmod (NL : Int) = (q : Int) := by
                                    rw [Int.tmod_eq_emod_of_nonneg (by omega), show (NL : Int) - (iu : Int) = ((NL - iu : Nat) : Int) by omega, ← hq]
                                    exact (Int.natCast_emod _ _).symm
                                  rw [hq] at hl1
                                  obtain ⟨lx, ly⟩ := l
                                  obtain ⟨ix, iy⟩ := li
                                  obtain ⟨⟨b1', b2'⟩, b3', b4'⟩ : (-5000 ≤ lx ∧ lx ≤ 5000) ∧ -5000 ≤ ly ∧ ly ≤ 5000 := by have := HL5.out _ (List.mem_of_getElem? hl1); unfold Pt5 at this; simp only [] at this; omega
                                  obtain ⟨⟨b5', b6'⟩, b7', b8'⟩ : (-5000 ≤ ix ∧ ix ≤ 5000) ∧ -5000 ≤ iy ∧ iy ≤ 5000 := by have := HL5.out _ (List.mem_of_getElem? hli); unfold Pt5 at this; simp only [] at this; omega
                                  have HML : Aside ((mirB B).lines[iu]? = some (mir (lx, ly)) ∧ (mirB B).nums[iu]? = some xq ∧ B.lines[iu]? = some (ix, iy)) := ⟨hl2, hq2, hli⟩
                                  obtain ⟨j1, j2⟩ := HLC.out q _ hl1 wr BR.out
                                  have j3 := HNC.out _ _ hq1 wr BR.out
                                  obtain ⟨j4, j5⟩ := HLC.out iu _ hli wr BR.out
                                  simp only [] at j1 j2 j4 j5
                                  have j6 := keepc BR.out c3
                                  have j7 := keepc BR.out c4
                                  have j8 := keepc BR.out c6
                                  have j9 := keepc BR.out c7
                                  have m3 : wr.cell? ⟨g19, 3, none⟩ = some (.slice (some ⟨g2, 0, none⟩) NL d2) := by rw [cell_of_row wr g19 3 _ _ _ HMI.out.1, ← HNL.out.1]; rfl
                                  have m4 : wr.cell? ⟨g19, 4, none⟩ = some (.slice (some ⟨g3, 0, none⟩) NL d3) := by rw [cell_of_row wr g19 4 _ _ _ HMI.out.1, ← HNL.out.2]; rfl
                                  obtain rfl := HP2.out
                                  obtain rfl := HP3.out
                                  have HWI : Aside (IntKind.i64.wrap ((NL : Int) - (iu : Int)) = (NL : Int) - (iu : Int) ∧ ((NL : Int) - (iu : Int)).tmod (NL : Int) = (q : Int) ∧ IntKind.i64.wrap (-lx) = -lx ∧ ¬ NL = 0) := ⟨IntWalk.i64_in _ (by omega), hqz, IntWalk.i64_in _ (by omega), by omega⟩
                                  have HWN : Aside (IntKind.i64.wrap ((NL : Int) - 1) = (NL : Int) - 1 ∧ IntKind.i64.wrap ((NL : Int) - 1 - (iu : Int)) = (NL : Int) - 1 - (iu : Int) ∧ ((NL : Int) - 1 - (iu : Int)).toNat = NL - 1 - iu) := ⟨IntWalk.i64_in _ (by omega), IntWalk.i64_in _ (by omega), by omega⟩
                                  have hiz : (iu : Int) < (NL : Int) := by omega
                                  have hizn : ¬ (NL : Int) ≤ (iu : Int) := by omega
                                  have hqz2 : (q : Int) < (NL : Int) := by omega
                                  have hqzn : ¬ (NL : Int) ≤ (q : Int) := by omega
                                  clear hl1 hl2 hq1 hq2 hli hq hqz
                                  go_upto_region 21 with (fail)
                                  refine region_laid (fl := 30) [true, true, true, true, true, true, true, true, true, true, true, true, true, true, true, true, true, true, true, true, true, true, true, true, true, true, false] 1 (fun (i : Nat) (x : Value) (ww : World) => (match i with | 0 => x = .pointer (some ⟨g19, 3, none⟩) | 1 => x = .slice (some ⟨g2, 0, none⟩) NL d2 | 2 => x = .int .i64 iu | 3 => x = .pointer (some ⟨g7, 3, none⟩) | 4 => x = .slice (some ⟨lb, lo, none⟩) NL q2 | 5 => x = .int .i64 NL | 6 => x = .int .i64 iu | 7 => x = .int .i64 ((NL : Int) - (iu : Int)) | 8 => x = .int .i64 NL | 9 => x = .int .i64 q | 10 => x = .pointer (some ⟨lb, lo + q * 2, none⟩) | 11 => x = .pointer (some ⟨lb, lo + q * 2, none⟩) | 12 => x = .int .i64 lx | 13 => x = .int .i64 (-lx) | 14 => x = .pointer (some ⟨g7, 3, none⟩) | 15 => x = .slice (some ⟨lb, lo, none⟩) NL q2 | 16 => x = .int .i64 NL | 17 => x = .int .i64 iu | 18 => x = .int .i64 ((NL : Int) - (iu : Int)) | 19 => x = .int .i64 NL | 20 => x = .int .i64 q | 21 => x = .pointer (some ⟨lb, lo + q * 2, none⟩) | 22 => x = .pointer (some ⟨lb, lo + q * 2 + 1, none⟩) | 23 => x = .int .i64 ly | 24 => x = .agg #[.int .i64 (-lx), .int .i64 ly] | 25 => x = .pointer (some ⟨g2, iu * 2, none⟩) | _ => True : Prop)) (fun w' => Below wr.heap.size wr w') (by kernel_rfl) rfl (by show layable _ 255 _ 30 = true; decide +kernel) rfl ((Below.refl _ _).drew) ?mono21 ?step21 ?rest21
                                  case mono21 =>
                                    intro i x ww ww' hB h
                                    match i, h with
                                    | 0, h => exact h
                                    | 1, h => exact h
                                    | 2, h => exact h
                                    | 3, h => exact h
                                    | 4, h => exact h
                                    | 5, h => exact h
                                    | 6, h => exact h
                                    | 7, h => exact h
                                    | 8, h => exact h
                                    | 9, h => exact h
                                    | 10, h => exact h
                                    | 11, h => exact h
                                    | 12, h => exact h
                                    | 13, h => exact h
                                    | 14, h => exact h
                                    | 15, h => exact h
                                    | 16, h => exact h
                                    | 17, h => exact h
                                    | 18, h => exact h
                                    | 19, h => exact h
                                    | 20, h => exact h
                                    | 21, h => exact h
                                    | 22, h => exact h
                                    | 23, h => exact h
                                    | 24, h => exact h
                                    | 25, h => exact h
                                    | n + 26, h => exact h
                                  case step21 =>
                                    intro i o_ listed ac W hA ho hL he
                                    have hk7 : ac.tmps.getD 7 undef = .pointer (some ⟨g7, 0, none⟩) := hL.kept 7 (by decide +kernel)
                                    have hk19 : ac.tmps.getD 19 undef = .pointer (some ⟨g19, 0, none⟩) := hL.kept 19 (by decide +kernel)
                                    have hk20 : ac.tmps.getD 20 undef = .int .i64 NL := hL.kept 20 (by decide +kernel)
                                    have hk21 : ac.tmps.getD 21 undef = .int .i64 iu := hL.kept 21 (by decide +kernel)
                                    have CL : ∀ W', Below W.heap.size W W' → Below wr.heap.size wr W' := fun W' h => hL.cls.trans (h.mono hL.cls.size)
                                    have k_j1 := keepc hL.cls j1
                                    have k_j2 := keepc hL.cls j2
                                    have k_j6 := keepc hL.cls j6
                                    have k_m3 := keepc hL.cls m3
                                    match i, hA, ho with
                                    | 0, _, ho =>
                                      cases ho
                                      refine wpOp_plain rfl rfl ?_
                                      unfold Oper.wp
                                      go_simp
                                      exact ⟨_, rfl, Below.refl _ _, CL _ (Below.refl _ _), rfl⟩
                                    | 1, _, ho =>
                                      cases ho
                                      have d0 : ac.tmps.getD 164 undef = .pointer (some ⟨g19, 3, none⟩) := hL.new 0 _ 164 rfl (he ⟨0, .data⟩ (by simp) rfl) rfl
                                      refine wpOp_plain rfl rfl ?_
                                      unfold Oper.wp
                                      go_simp
                                      exact ⟨_, rfl, Below.refl _ _, CL _ (Below.refl _ _), rfl⟩
                                    | 2, _, ho =>
                                      cases ho
                                      refine wpOp_plain rfl rfl ?_
                                      unfold Oper.wp
                                      go_simp
                                      exact ⟨_, rfl, Below.refl _ _, CL _ (Below.refl _ _), rfl⟩
                                    | 3, _, ho =>
                                      cases ho
                                      refine wpOp_plain rfl rfl ?_
                                      unfold Oper.wp
                                      go_simp
                                      exact ⟨_, rfl, Below.refl _ _, CL _ (Below.refl _ _), rfl⟩
                                    | 4, _, ho =>
                                      cases ho
                                      have d3 : ac.tmps.getD 167 undef = .pointer (some ⟨g7, 3, none⟩) := hL.new 3 _ 167 rfl (he ⟨3, .data⟩ (by simp) rfl) rfl
                                      refine wpOp_plain rfl rfl ?_
                                      unfold Oper.wp
                                      go_simp
                                      exact ⟨_, rfl, Below.refl _ _, CL _ (Below.refl _ _), rfl⟩
                                    | 5, _, ho =>
                                      cases ho
                                      refine wpOp_plain rfl rfl ?_
                                      unfold Oper.wp
                                      go_simp
                                      exact ⟨_, rfl, Below.refl _ _, CL _ (Below.refl _ _), rfl⟩
                                    | 6, _, ho =>
                                      cases ho
                                      refine wpOp_plain rfl rfl ?_
                                      unfold Oper.wp
                                      go_simp
                                      exact ⟨_, rfl, Below.refl _ _, CL _ (Below.refl _ _), rfl⟩
                                    | 7, _, ho =>
                                      cases ho
                                      have d5 : ac.tmps.getD 169 undef = .int .i64 NL := hL.new 5 _ 169 rfl (he ⟨5, .data⟩ (by simp) rfl) rfl
                                      have d6 : ac.tmps.getD 170 undef = .int .i64 iu := hL.new 6 _ 170 rfl (he ⟨6, .data⟩ (by simp) rfl) rfl
                                      obtain ⟨hw0, hw1, hw2, hw3⟩ := HWI.out
                                      refine wpOp_plain rfl rfl ?_
                                      unfold Oper.wp
                                      go_simp
                                      exact ⟨_, rfl, Below.refl _ _, CL _ (Below.refl _ _), rfl⟩
                                    | 8, _, ho =>
                                      cases ho
                                      refine wpOp_plain rfl rfl ?_
                                      unfold Oper.wp
                                      go_simp
                                      exact ⟨_, rfl, Below.refl _ _, CL _ (Below.refl _ _), rfl⟩
                                    | 9, _, ho =>
                                      cases ho
                                      have d7 : ac.tmps.getD 171 undef = .int .i64 ((NL : Int) - (iu : Int)) := hL.new 7 _ 171 rfl (he ⟨7, .data⟩ (by simp) rfl) rfl
                                      have d8 : ac.tmps.getD 172 undef = .int .i64 NL := hL.new 8 _ 172 rfl (he ⟨8, .data⟩ (by simp) rfl) rfl
                                      obtain ⟨hw0, hw1, hw2, hw3⟩ := HWI.out
                                      refine wpOp_plain rfl rfl ?_
                                      unfold Oper.wp
                                      go_simp
                                      exact ⟨_, rfl, Below.refl _ _, CL _ (Below.refl _ _), rfl⟩
                                    | 10, _, ho =>
                                      cases ho
                                      have d4 : ac.tmps.getD 168 undef = .slice (some ⟨lb, lo, none⟩) NL q2 := hL.new 4 _ 168 rfl (he ⟨4, .data⟩ (by simp) rfl) rfl
                                      have d9 : ac.tmps.getD 173 undef = .int .i64 q := hL.new 9 _ 173 rfl (he ⟨9, .data⟩ (by simp) rfl) rfl
                                      refine wpOp_plain rfl rfl ?_
                                      unfold Oper.wp
                                      go_simp
                                      exact ⟨_, rfl, Below.refl _ _, CL _ (Below.refl _ _), rfl⟩
                                    | 11, _, ho =>
                                      cases ho
                                      have d10 : ac.tmps.getD 174 undef = .pointer (some ⟨lb, lo + q * 2, none⟩) := hL.new 10 _ 174 rfl (he ⟨10, .data⟩ (by simp) rfl) rfl
                                      refine wpOp_plain rfl rfl ?_
                                      unfold Oper.wp
                                      go_simp
                                      exact ⟨_, rfl, Below.refl _ _, CL _ (Below.refl _ _), rfl⟩
                                    | 12, _, ho =>
                                      cases ho
                                      have d11 : ac.tmps.getD 175 undef = .pointer (some ⟨lb, lo + q * 2, none⟩) := hL.new 11 _ 175 rfl (he ⟨11, .data⟩ (by simp) rfl) rfl
                                      refine wpOp_plain rfl rfl ?_
                                      unfold Oper.wp
                                      go_simp
                                      exact ⟨_, rfl, Below.refl _ _, CL _ (Below.refl _ _), rfl⟩
                                    | 13, _, ho =>
                                      cases ho
                                      have d12 : ac.tmps.getD 176 undef = .int .i64 lx := hL.new 12 _ 176 rfl (he ⟨12, .data⟩ (by simp) rfl) rfl
                                      obtain ⟨hw0, hw1, hw2, hw3⟩ := HWI.out
                                      refine wpOp_plain rfl rfl ?_
                                      unfold Oper.wp
                                      go_simp
                                      exact ⟨_, rfl, Below.refl _ _, CL _ (Below.refl _ _), rfl⟩
                                    | 14, _, ho =>
                                      cases ho
                                      refine wpOp_plain rfl rfl ?_
                                      unfold Oper.wp
                                      go_simp
                                      exact ⟨_, rfl, Below.refl _ _, CL _ (Below.refl _ _), rfl⟩
                                    | 15, _, ho =>
                                      cases ho
                                      have d14 : ac.tmps.getD 178 undef = .pointer (some ⟨g7, 3, none⟩) := hL.new 14 _ 178 rfl (he ⟨14, .data⟩ (by simp) rfl) rfl
                                      refine wpOp_plain rfl rfl ?_
                                      unfold Oper.wp
                                      go_simp
                                      exact ⟨_, rfl, Below.refl _ _, CL _ (Below.refl _ _), rfl⟩
                                    | 16, _, ho =>
                                      cases ho
                                      refine wpOp_plain rfl rfl ?_
                                      unfold Oper.wp
                                      go_simp
                                      exact ⟨_, rfl, Below.refl _ _, CL _ (Below.refl _ _), rfl⟩
                                    | 17, _, ho =>
                                      cases ho
                                      refine wpOp_plain rfl rfl ?_
                                      unfold Oper.wp
                                      go_simp
                                      exact ⟨_, rfl, Below.refl _ _, CL _ (Below.refl _ _), rfl⟩
                                    | 18, _, ho =>
                                      cases ho
                                      have d16 : ac.tmps.getD 180 undef = .int .i64 NL := hL.new 16 _ 180 rfl (he ⟨16, .data⟩ (by simp) rfl) rfl
                                      have d17 : ac.tmps.getD 181 undef = .int .i64 iu := hL.new 17 _ 181 rfl (he ⟨17, .data⟩ (by simp) rfl) rfl
                                      obtain ⟨hw0, hw1, hw2, hw3⟩ := HWI.out
                                      refine wpOp_plain rfl rfl ?_
                                      unfold Oper.wp
                                      go_simp
                                      exact ⟨_, rfl, Below.refl _ _, CL _ (Below.refl _ _), rfl⟩
                                    | 19, _, ho =>
                                      cases ho
                                      refine wpOp_plain rfl rfl ?_
                                      unfold Oper.wp
                                      go_simp
                                      exact ⟨_, rfl, Below.refl _ _, CL _ (Below.refl _ _), rfl⟩
                                    | 20, _, ho =>
                                      cases ho
                                      have d18 : ac.tmps.getD 182 undef = .int .i64 ((NL : Int) - (iu : Int)) := hL.new 18 _ 182 rfl (he ⟨18, .data⟩ (by simp) rfl) rfl
                                      have d19 : ac.tmps.getD 183 undef = .int .i64 NL := hL.new 19 _ 183 rfl (he ⟨19, .data⟩ (by simp) rfl) rfl
                                      obtain ⟨hw0, hw1, hw2, hw3⟩ := HWI.out
                                      refine wpOp_plain rfl rfl ?_
                                      unfold Oper.wp
                                      go_simp
                                      exact ⟨_, rfl, Below.refl _ _, CL _ (Below.refl _ _), rfl⟩
                                    | 21, _, ho =>
                                      cases ho
                                      have d15 : ac.tmps.getD 179 undef = .slice (some ⟨lb, lo, none⟩) NL q2 := hL.new 15 _ 179 rfl (he ⟨15, .data⟩ (by simp) rfl) rfl
                                      have d20 : ac.tmps.getD 184 undef = .int .i64 q := hL.new 20 _ 184 rfl (he ⟨20, .data⟩ (by simp) rfl) rfl
                                      refine wpOp_plain rfl rfl ?_
                                      unfold Oper.wp
                                      go_simp
                                      exact ⟨_, rfl, Below.refl _ _, CL _ (Below.refl _ _), rfl⟩
                                    | 22, _, ho =>
                                      cases ho
                                      have d21 : ac.tmps.getD 185 undef = .pointer (some ⟨lb, lo + q * 2, none⟩) := hL.new 21 _ 185 rfl (he ⟨21, .data⟩ (by simp) rfl) rfl
                                      refine wpOp_plain rfl rfl ?_
                                      unfold Oper.wp
                                      go_simp
                                      exact ⟨_, rfl, Below.refl _ _, CL _ (Below.refl _ _), rfl⟩
                                    | 23, _, ho =>
                                      cases ho
                                      have d22 : ac.tmps.getD 186 undef = .pointer (some ⟨lb, lo + q * 2 + 1, none⟩) := hL.new 22 _ 186 rfl (he ⟨22, .data⟩ (by simp) rfl) rfl
                                      refine wpOp_plain rfl rfl ?_
                                      unfold Oper.wp
                                      go_simp
                                      exact ⟨_, rfl, Below.refl _ _, CL _ (Below.refl _ _), rfl⟩
                                    | 24, _, ho =>
                                      cases ho
                                      have d13 : ac.tmps.getD 177 undef = .int .i64 (-lx) := hL.new 13 _ 177 rfl (he ⟨13, .data⟩ (by simp) rfl) rfl
                                      have d23 : ac.tmps.getD 187 undef = .int .i64 ly := hL.new 23 _ 187 rfl (he ⟨23, .data⟩ (by simp) rfl) rfl
                                      have dz1 := d13
                                      have dz2 := d23
                                      rw [Array.getD_eq_getD_getElem?] at dz1 dz2
                                      refine wpOp_plain rfl rfl ?_
                                      unfold Oper.wp
                                      go_simp
                                      exact ⟨_, rfl, Below.refl _ _, CL _ (Below.refl _ _), rfl⟩
                                    | 25, _, ho =>
                                      cases ho
                                      have d1 : ac.tmps.getD 165 undef = .slice (some ⟨g2, 0, none⟩) NL d2 := hL.new 1 _ 165 rfl (he ⟨1, .data⟩ (by simp) rfl) rfl
                                      have d2 : ac.tmps.getD 166 undef = .int .i64 iu := hL.new 2 _ 166 rfl (he ⟨2, .data⟩ (by simp) rfl) rfl
                                      refine wpOp_plain rfl rfl ?_
                                      unfold Oper.wp
                                      go_simp
                                      exact ⟨_, rfl, Below.refl _ _, CL _ (Below.refl _ _), rfl⟩
                                    | 26, hA, _ => cases hA
                                    | n + 27, hA, _ => simp at hA
                                  case rest21 =>
                                    intro ac W21 hL
                                    have e164 : ac.tmps.getD 164 undef = .pointer (some ⟨g19, 3, none⟩) := hL.new 0 _ 164 rfl rfl rfl
                                    have e165 : ac.tmps.getD 165 undef = .slice (some ⟨g2, 0, none⟩) NL d2 := hL.new 1 _ 165 rfl rfl rfl
                                    have e166 : ac.tmps.getD 166 undef = .int .i64 iu := hL.new 2 _ 166 rfl rfl rfl
                                    have e167 : ac.tmps.getD 167 undef = .pointer (some ⟨g7, 3, none⟩) := hL.new 3 _ 167 rfl rfl rfl
                                    have e168 : ac.tmps.getD 168 undef = .slice (some ⟨lb, lo, none⟩) NL q2 := hL.new 4 _ 168 rfl rfl rfl
                                    have e169 : ac.tmps.getD 169 undef = .int .i64 NL := hL.new 5 _ 169 rfl rfl rfl
                                    have e170 : ac.tmps.getD 170 undef = .int .i64 iu := hL.new 6 _ 170 rfl rfl rfl
                                    have e171 : ac.tmps.getD 171 undef = .int .i64 ((NL : Int) - (iu : Int)) := hL.new 7 _ 171 rfl rfl rfl
                                    have e172 : ac.tmps.getD 172 undef = .int .i64 NL := hL.new 8 _ 172 rfl rfl rfl
                                    have e173 : ac.tmps.getD 173 undef = .int .i64 q := hL.new 9 _ 173 rfl rfl rfl
                                    have e174 : ac.tmps.getD 174 undef = .pointer (some ⟨lb, lo + q * 2, none⟩) := hL.new 10 _ 174 rfl rfl rfl
                                    have e175 : ac.tmps.getD 175 undef = .pointer (some ⟨lb, lo + q * 2, none⟩) := hL.new 11 _ 175 rfl rfl rfl
                                    have e176 : ac.tmps.getD 176 undef = .int .i64 lx := hL.new 12 _ 176 rfl rfl rfl
                                    have e177 : ac.tmps.getD 177 undef = .int .i64 (-lx) := hL.new 13 _ 177 rfl rfl rfl
                                    have e178 : ac.tmps.getD 178 undef = .pointer (some ⟨g7, 3, none⟩) := hL.new 14 _ 178 rfl rfl rfl
                                    have e179 : ac.tmps.getD 179 undef = .slice (some ⟨lb, lo, none⟩) NL q2 := hL.new 15 _ 179 rfl rfl rfl
                                    have e180 : ac.tmps.getD 180 undef = .int .i64 NL := hL.new 16 _ 180 rfl rfl rfl
                                    have e181 : ac.tmps.getD 181 undef = .int .i64 iu := hL.new 17 _ 181 rfl rfl rfl
                                    have e182 : ac.tmps.getD 182 undef = .int .i64 ((NL : Int) - (iu : Int)) := hL.new 18 _ 182 rfl rfl rfl
                                    have e183 : ac.tmps.getD 183 undef = .int .i64 NL := hL.new 19 _ 183 rfl rfl rfl
                                    have e184 : ac.tmps.getD 184 undef = .int .i64 q := hL.new 20 _ 184 rfl rfl rfl
                                    have e185 : ac.tmps.getD 185 undef = .pointer (some ⟨lb, lo + q * 2, none⟩) := hL.new 21 _ 185 rfl rfl rfl
                                    have e186 : ac.tmps.getD 186 undef = .pointer (some ⟨lb, lo + q * 2 + 1, none⟩) := hL.new 22 _ 186 rfl rfl rfl
                                    have e187 : ac.tmps.getD 187 undef = .int .i64 ly := hL.new 23 _ 187 rfl rfl rfl
                                    have e188 : ac.tmps.getD 188 undef = .agg #[.int .i64 (-lx), .int .i64 ly] := hL.new 24 _ 188 rfl rfl rfl
                                    have e189 : ac.tmps.getD 189 undef = .pointer (some ⟨g2, iu * 2, none⟩) := hL.new 25 _ 189 rfl rfl rfl
                                    have es := hL.sets [164, 165, 166, 167, 168, 169, 170, 171, 172, 173, 174, 175, 176, 177, 178, 179, 180, 181, 182, 183, 184, 185, 186, 187, 188, 189] (by decide +kernel)
                                    rw [List.foldl_cons, List.foldl_cons, List.foldl_cons, List.foldl_cons, List.foldl_cons, List.foldl_cons, List.foldl_cons, List.foldl_cons, List.foldl_cons, List.foldl_cons, List.foldl_cons, List.foldl_cons, List.foldl_cons, List.foldl_cons, List.foldl_cons, List.foldl_cons, List.foldl_cons, List.foldl_cons, List.foldl_cons, List.foldl_cons, List.foldl_cons, List.foldl_cons, List.foldl_cons, List.foldl_cons, List.foldl_cons, List.foldl_cons, List.foldl_nil, e164, e165, e166, e167, e168, e169, e170, e171, e172, e173, e174, e175, e176, e177, e178, e179, e180, e181, e182, e183, e184, e185, e186, e187, e188, e189] at es
                                    have BN : Below wr.heap.size wr W21 := hL.cls
                                    rw [es]
                                    clear es hL e164 e165 e166 e167 e168 e169 e170 e171 e172 e173 e174 e175 e176 e177 e178 e179 e180 e181 e182 e183 e184 e185 e186 e187 e188 e189
                                    simp only [List.setIfInBounds_toArray, List.set_cons_zero, List.set_cons_succ]
                                    as_aux_lemma =>
                                      have HM21 : Aside (MirAt B P g19 g1 d1 g2 d2 g3 d3 iu iu iu W21) := HMI.out.below BN
                                      have BR21 : Below U7.heap.size U7 W21 := BR.out.trans (BN.mono BR.out.size)
                                      obtain ⟨⟨y0, v0⟩, y1, v1⟩ := HM21.out.cellsL (by rw [HNL.out.1]; exact hlt)
                                      have vf := HM21.out.2.2.2.2.2.1.frozen
                                      replace j3 := keepc BN j3
                                      replace j4 := keepc BN j4
                                      replace j5 := keepc BN j5
                                      clear j1 j2 m3 j6 j7 j8 j9 m4 BN
                                      refine wpAny_one (i := 26) (by decide +kernel) rfl rfl ?_
                                      unfold Oper.wp
                                      go_simp
                                      refine wpAny_done (by decide +kernel) ?_ _
                                      obtain ⟨W22, hW22⟩ : ∃ W22, W22 = (W21.setCell ⟨g2, iu * 2, none⟩ (.int .i64 (-lx))).setCell ⟨g2, iu * 2 + 1, none⟩ (.int .i64 ly) := ⟨_, rfl⟩
                                      have BR22 : Below U7.heap.size U7 W22 := by rw [hW22]; exact (BR21.setCell (p := ⟨g2, iu * 2, none⟩) n2 _).setCell (p := ⟨g2, iu * 2 + 1, none⟩) n2 _
                                      have HM22 : Aside (MirAt B P g19 g1 d1 g2 d2 g3 d3 (iu + 1) iu iu W22) := by rw [hW22]; exact HM21.out.putL (y := mir (lx, ly)) (by rw [HNL.out.1]; exact hlt) HML.out.1
                                      rw [← hW22]
                                      clear hW22 HM21 BR21 v0 v1 vf j3 j4 j5
                                      obtain ⟨xw, hxw⟩ : ∃ xw, NL - 1 - iu = xw := ⟨_, rfl⟩
                                      have hxn : xw < NL := by omega
                                      have HWN2 : Aside (IntKind.i64.wrap ((NL : Int) - 1) = (NL : Int) - 1 ∧ IntKind.i64.wrap ((NL : Int) - 1 - (iu : Int)) = (xw : Int)) := ⟨HWN.out.1, by rw [HWN.out.2.1]; omega⟩
                                      obtain ⟨q1', hq1'⟩ : ∃ x, B.nums[xw]? = some x := ⟨_, List.getElem?_eq_getElem (by rw [HNL.out.2]; exact hxn)⟩
                                      have hqe : q1' = xq := by
                                        obtain ⟨x', h1', h2'⟩ := mir_num B iu (by rw [HNL.out.2]; exact hlt)
                                        rw [HML.out.2.1] at h2'
                                        rw [HNL.out.2, hxw, hq1'] at h1'
                                        cases h1'
                                        cases h2'
                                        rfl
                                      have j3 := HNC.out _ _ hq1' W22 BR22
                                      have j7 := keepc BR22 c4
                                      have m4 : W22.cell? ⟨g19, 4, none⟩ = some (.slice (some ⟨g3, 0, none⟩) NL d3) := by rw [cell_of_row W22 g19 4 _ _ _ HM22.out.1, ← HNL.out.2]; rfl
                                      rw [hqe] at j3
                                      have hxz : (xw : Int) < (NL : Int) := by omega
                                      have hxzn : ¬ (NL : Int) ≤ (xw : Int) := by omega
                                      clear hqe hq1' hxw HWN
                                      go_upto_region 22 with (fail)
                                      refine region_laid (fl := 16) [true, true, true, true, true, true, true, true, true, true, true, true, false] 1 (fun (i : Nat) (x : Value) (ww : World) => (match i with | 0 => x = .pointer (some ⟨g19, 4, none⟩) | 1 => x = .slice (some ⟨g3, 0, none⟩) NL d3 | 2 => x = .int .i64 iu | 3 => x = .pointer (some ⟨g7, 4, none⟩) | 4 => x = .slice (some ⟨nb, no, none⟩) NL q3 | 5 => x = .int .i64 NL | 6 => x = .int .i64 ((NL : Int) - 1) | 7 => x = .int .i64 iu | 8 => x = .int .i64 xw | 9 => x = .pointer (some ⟨nb, no + xw, none⟩) | 10 => x = .int .i64 xq | 11 => x = .pointer (some ⟨g3, iu, none⟩) | _ => True : Prop)) (fun w' => Below W22.heap.size W22 w') (by kernel_rfl) rfl (by show layable _ 255 _ 16 = true; decide +kernel) rfl ((Below.refl _ _).drew) ?mono22 ?step22 ?rest22
                                      case mono22 =>
                                        intro i x ww ww' hB h
                                        match i, h with
                                        | 0, h => exact h
                                        | 1, h => exact h
                                        | 2, h => exact h
                                        | 3, h => exact h
                                        | 4, h => exact h
                                        | 5, h => exact h
                                        | 6, h => exact h
                                        | 7, h => exact h
                                        | 8, h => exact h
                                        | 9, h => exact h
                                        | 10, h => exact h
                                        | 11, h => exact h
                                        | n + 12, h => exact h
                                      case step22 =>
                                        intro i o_ listed ac W hA ho hL he
                                        have hk7 : ac.tmps.getD 7 undef = .pointer (some ⟨g7, 0, none⟩) := hL.kept 7 (by decide +kernel)
                                        have hk19 : ac.tmps.getD 19 undef = .pointer (some ⟨g19, 0, none⟩) := hL.kept 19 (by decide +kernel)
                                        have hk20 : ac.tmps.getD 20 undef = .int .i64 NL := hL.kept 20 (by decide +kernel)
                                        have hk21 : ac.tmps.getD 21 undef = .int .i64 iu := hL.kept 21 (by decide +kernel)
                                        have CL : ∀ W', Below W.heap.size W W' → Below W22.heap.size W22 W' := fun W' h => hL.cls.trans (h.mono hL.cls.size)
                                        have k_j3 := keepc hL.cls j3
                                        have k_j7 := keepc hL.cls j7
                                        have k_m4 := keepc hL.cls m4
                                        match i, hA, ho with
                                        | 0, _, ho =>
                                          cases ho
                                          refine wpOp_plain rfl rfl ?_
                                          unfold Oper.wp
                                          go_simp
                                          exact ⟨_, rfl, Below.refl _ _, CL _ (Below.refl _ _), rfl⟩
                                        | 1, _, ho =>
                                          cases ho
                                          have d0 : ac.tmps.getD 190 undef = .pointer (some ⟨g19, 4, none⟩) := hL.new 0 _ 190 rfl (he ⟨0, .data⟩ (by simp) rfl) rfl
                                          refine wpOp_plain rfl rfl ?_
                                          unfold Oper.wp
                                          go_simp
                                          exact ⟨_, rfl, Below.refl _ _, CL _ (Below.refl _ _), rfl⟩
                                        | 2, _, ho =>
                                          cases ho
                                          refine wpOp_plain rfl rfl ?_
                                          unfold Oper.wp
                                          go_simp
                                          exact ⟨_, rfl, Below.refl _ _, CL _ (Below.refl _ _), rfl⟩
                                        | 3, _, ho =>
                                          cases ho
                                          refine wpOp_plain rfl rfl ?_
                                          unfold Oper.wp
                                          go_simp
                                          exact ⟨_, rfl, Below.refl _ _, CL _ (Below.refl _ _), rfl⟩
                                        | 4, _, ho =>
                                          cases ho
                                          have d3 : ac.tmps.getD 193 undef = .pointer (some ⟨g7, 4, none⟩) := hL.new 3 _ 193 rfl (he ⟨3, .data⟩ (by simp) rfl) rfl
                                          refine wpOp_plain rfl rfl ?_
                                          unfold Oper.wp
                                          go_simp
                                          exact ⟨_, rfl, Below.refl _ _, CL _ (Below.refl _ _), rfl⟩
                                        | 5, _, ho =>
                                          cases ho
                                          refine wpOp_plain rfl rfl ?_
                                          unfold Oper.wp
                                          go_simp
                                          exact ⟨_, rfl, Below.refl _ _, CL _ (Below.refl _ _), rfl⟩
                                        | 6, _, ho =>
                                          cases ho
                                          have d5 : ac.tmps.getD 195 undef = .int .i64 NL := hL.new 5 _ 195 rfl (he ⟨5, .data⟩ (by simp) rfl) rfl
                                          obtain ⟨hw0, hw1⟩ := HWN2.out
                                          refine wpOp_plain rfl rfl ?_
                                          unfold Oper.wp
                                          go_simp
                                          exact ⟨_, rfl, Below.refl _ _, CL _ (Below.refl _ _), rfl⟩
                                        | 7, _, ho =>
                                          cases ho
                                          refine wpOp_plain rfl rfl ?_
                                          unfold Oper.wp
                                          go_simp
                                          exact ⟨_, rfl, Below.refl _ _, CL _ (Below.refl _ _), rfl⟩
                                        | 8, _, ho =>
                                          cases ho
                                          have d6 : ac.tmps.getD 196 undef = .int .i64 ((NL : Int) - 1) := hL.new 6 _ 196 rfl (he ⟨6, .data⟩ (by simp) rfl) rfl
                                          have d7 : ac.tmps.getD 197 undef = .int .i64 iu := hL.new 7 _ 197 rfl (he ⟨7, .data⟩ (by simp) rfl) rfl
                                          obtain ⟨hw0, hw1⟩ := HWN2.out
                                          refine wpOp_plain rfl rfl ?_
                                          unfold Oper.wp
                                          go_simp
                                          exact ⟨_, rfl, Below.refl _ _, CL _ (Below.refl _ _), rfl⟩
                                        | 9, _, ho =>
                                          cases ho
                                          have d4 : ac.tmps.getD 194 undef = .slice (some ⟨nb, no, none⟩) NL q3 := hL.new 4 _ 194 rfl (he ⟨4, .data⟩ (by simp) rfl) rfl
                                          have d8 : ac.tmps.getD 198 undef = .int .i64 xw := hL.new 8 _ 198 rfl (he ⟨8, .data⟩ (by simp) rfl) rfl
                                          refine wpOp_plain rfl rfl ?_
                                          unfold Oper.wp
                                          go_simp
                                          exact ⟨_, rfl, Below.refl _ _, CL _ (Below.refl _ _), rfl⟩
                                        | 10, _, ho =>
                                          cases ho
                                          have d9 : ac.tmps.getD 199 undef = .pointer (some ⟨nb, no + xw, none⟩) := hL.new 9 _ 199 rfl (he ⟨9, .data⟩ (by simp) rfl) rfl
                                          refine wpOp_plain rfl rfl ?_
                                          unfold Oper.wp
                                          go_simp
                                          exact ⟨_, rfl, Below.refl _ _, CL _ (Below.refl _ _), rfl⟩
                                        | 11, _, ho =>
                                          cases ho
                                          have d1 : ac.tmps.getD 191 undef = .slice (some ⟨g3, 0, none⟩) NL d3 := hL.new 1 _ 191 rfl (he ⟨1, .data⟩ (by simp) rfl) rfl
                                          have d2 : ac.tmps.getD 192 undef = .int .i64 iu := hL.new 2 _ 192 rfl (he ⟨2, .data⟩ (by simp) rfl) rfl
                                          refine wpOp_plain rfl rfl ?_
                                          unfold Oper.wp
                                          go_simp
                                          exact ⟨_, rfl, Below.refl _ _, CL _ (Below.refl _ _), rfl⟩
                                        | 12, hA, _ => cases hA
                                        | n + 13, hA, _ => simp at hA
                                      case rest22 =>
                                        intro ac W23 hL
                                        have e190 : ac.tmps.getD 190 undef = .pointer (some ⟨g19, 4, none⟩) := hL.new 0 _ 190 rfl rfl rfl
                                        have e191 : ac.tmps.getD 191 undef = .slice (some ⟨g3, 0, none⟩) NL d3 := hL.new 1 _ 191 rfl rfl rfl
                                        have e192 : ac.tmps.getD 192 undef = .int .i64 iu := hL.new 2 _ 192 rfl rfl rfl
                                        have e193 : ac.tmps.getD 193 undef = .pointer (some ⟨g7, 4, none⟩) := hL.new 3 _ 193 rfl rfl rfl
                                        have e194 : ac.tmps.getD 194 undef = .slice (some ⟨nb, no, none⟩) NL q3 := hL.new 4 _ 194 rfl rfl rfl
                                        have e195 : ac.tmps.getD 195 undef = .int .i64 NL := hL.new 5 _ 195 rfl rfl rfl
                                        have e196 : ac.tmps.getD 196 undef = .int .i64 ((NL : Int) - 1) := hL.new 6 _ 196 rfl rfl rfl
                                        have e197 : ac.tmps.getD 197 undef = .int .i64 iu := hL.new 7 _ 197 rfl rfl rfl
                                        have e198 : ac.tmps.getD 198 undef = .int .i64 xw := hL.new 8 _ 198 rfl rfl rfl
                                        have e199 : ac.tmps.getD 199 undef = .pointer (some ⟨nb, no + xw, none⟩) := hL.new 9 _ 199 rfl rfl rfl
                                        have e200 : ac.tmps.getD 200 undef = .int .i64 xq := hL.new 10 _ 200 rfl rfl rfl
                                        have e201 : ac.tmps.getD 201 undef = .pointer (some ⟨g3, iu, none⟩) := hL.new 11 _ 201 rfl rfl rfl
                                        have es := hL.sets [190, 191, 192, 193, 194, 195, 196, 197, 198, 199, 200, 201] (by decide +kernel)
                                        rw [List.foldl_cons, List.foldl_cons, List.foldl_cons, List.foldl_cons, List.foldl_cons, List.foldl_cons, List.foldl_cons, List.foldl_cons, List.foldl_cons, List.foldl_cons, List.foldl_cons, List.foldl_cons, List.foldl_nil, e190, e191, e192, e193, e194, e195, e196, e197, e198, e199, e200, e201] at es
                                        have BN : Below W22.heap.size W22 W23 := hL.cls
                                        rw [es]
                                        clear es hL e190 e191 e192 e193 e194 e195 e196 e197 e198 e199 e200 e201
                                        simp only [List.setIfInBounds_toArray, List.set_cons_zero, List.set_cons_succ]
                                        as_aux_lemma =>
                                          have HM23 : Aside (MirAt B P g19 g1 d1 g2 d2 g3 d3 (iu + 1) iu iu W23) := HM22.out.below BN
                                          have BR23 : Below U7.heap.size U7 W23 := BR22.trans (BN.mono BR22.size)
                                          obtain ⟨y2, v2⟩ := HM23.out.cellsN (by rw [HNL.out.2]; exact hlt)
                                          have vf := HM23.out.2.2.2.2.2.2.1.frozen
                                          clear j3 j7 m4 BN BR22 HM22 HWN2
                                          refine wpAny_one (i := 12) (by decide +kernel) rfl rfl ?_
                                          unfold Oper.wp
                                          go_simp
                                          refine wpAny_done (by decide +kernel) ?_ _
                                          obtain ⟨W24, hW24⟩ : ∃ W24, W24 = W23.setCell ⟨g3, iu, none⟩ (.int .i64 xq) := ⟨_, rfl⟩
                                          have BR24 : Below U7.heap.size U7 W24 := by rw [hW24]; exact BR23.setCell (p := ⟨g3, iu, none⟩) n3 _
                                          have HM24 : Aside (MirAt B P g19 g1 d1 g2 d2 g3 d3 (iu + 1) (iu + 1) iu W24) := by rw [hW24]; exact HM23.out.putN (by rw [HNL.out.2]; exact hlt) HML.out.2.1
                                          rw [← hW24]
                                          clear hW24 HM23 BR23 v2 vf
                                          obtain ⟨j4, j5⟩ := HLC.out iu _ HML.out.2.2 W24 BR24
                                          simp only [] at j4 j5
                                          have j6 := keepc BR24 c3
                                          have j8 := keepc BR24 c6
                                          have j9 := keepc BR24 c7
                                          have hpp := mul_bd ix Y 5000 1250 (by omega) (by omega) (by omega) (by omega)
                                          have hpq := mul_bd iy X 5000 1250 (by omega) (by omega) (by omega) (by omega)
                                          obtain ⟨pa, hpa⟩ : ∃ pa, ix * Y = pa := ⟨_, rfl⟩
                                          obtain ⟨pb, hpb⟩ : ∃ pb, iy * X = pb := ⟨_, rfl⟩
                                          have HPP : Aside (IntKind.i64.wrap (ix * Y) = pa ∧ IntKind.i64.wrap (iy * X) = pb) := ⟨by rw [IntWalk.i64_in _ (by omega)]; exact hpa, by rw [IntWalk.i64_in _ (by omega)]; exact hpb⟩
                                          have HCR : Aside (crs (ix, iy) P = pa - pb) := by
                                            show _ = _
                                            rw [HP.out]; unfold crs; simp only []; rw [hpa, hpb]
                                          clear hpp hpq hpa hpb
                                          go_upto_region 23 with (fail)
                                          refine region_laid (fl := 24) [true, true, true, true, true, true, true, true, true, true, true, true, true, true, true, true, true, true, true] 0 (fun (i : Nat) (x : Value) (ww : World) => (match i with | 0 => x = .pointer (some ⟨g7, 3, none⟩) | 1 => x = .slice (some ⟨lb, lo, none⟩) NL q2 | 2 => x = .int .i64 iu | 3 => x = .pointer (some ⟨lb, lo + iu * 2, none⟩) | 4 => x = .pointer (some ⟨lb, lo + iu * 2, none⟩) | 5 => x = .int .i64 ix | 6 => x = .pointer (some ⟨g8, 1, none⟩) | 7 => x = .int .i64 Y | 8 => x = .int .i64 pa | 9 => x = .pointer (some ⟨g7, 3, none⟩) | 10 => x = .slice (some ⟨lb, lo, none⟩) NL q2 | 11 => x = .int .i64 iu | 12 => x = .pointer (some ⟨lb, lo + iu * 2, none⟩) | 13 => x = .pointer (some ⟨lb, lo + iu * 2 + 1, none⟩) | 14 => x = .int .i64 iy | 15 => x = .pointer (some ⟨g8, 0, none⟩) | 16 => x = .int .i64 X | 17 => x = .int .i64 pb | 18 => x = .bool (pa == pb) | _ => True : Prop)) (fun w' => Below W24.heap.size W24 w') (by kernel_rfl) rfl (by show layable _ 255 _ 24 = true; decide +kernel) rfl ((Below.refl _ _).drew) ?mono23 ?step23 ?rest23
                                          case mono23 =>
                                            intro i x ww ww' hB h
                                            match i, h with
                                            | 0, h => exact h
                                            | 1, h => exact h
                                            | 2, h => exact h
                                            | 3, h => exact h
                                            | 4, h => exact h
                                            | 5, h => exact h
                                            | 6, h => exact h
                                            | 7, h => exact h
                                            | 8, h => exact h
                                            | 9, h => exact h
                                            | 10, h => exact h
                                            | 11, h => exact h
                                            | 12, h => exact h
                                            | 13, h => exact h
                                            | 14, h => exact h
                                            | 15, h => exact h
                                            | 16, h => exact h
                                            | 17, h => exact h
                                            | 18, h => exact h
                                            | n + 19, h => exact h
                                          case step23 =>
                                            intro i o_ listed ac W hA ho hL he
                                            have hk7 : ac.tmps.getD 7 undef = .pointer (some ⟨g7, 0, none⟩) := hL.kept 7 (by decide +kernel)
                                            have hk8 : ac.tmps.getD 8 undef = .pointer (some ⟨g8, 0, none⟩) := hL.kept 8 (by decide +kernel)
                                            have hk21 : ac.tmps.getD 21 undef = .int .i64 iu := hL.kept 21 (by decide +kernel)
                                            have CL : ∀ W', Below W.heap.size W W' → Below W24.heap.size W24 W' := fun W' h => hL.cls.trans (h.mono hL.cls.size)
                                            have k_j4 := keepc hL.cls j4
                                            have k_j5 := keepc hL.cls j5
                                            have k_j6 := keepc hL.cls j6
                                            have k_j8 := keepc hL.cls j8
                                            have k_j9 := keepc hL.cls j9
                                            match i, hA, ho with
                                            | 0, _, ho =>
                                              cases ho
                                              refine wpOp_plain rfl rfl ?_
                                              unfold Oper.wp
                                              go_simp
                                              exact ⟨_, rfl, Below.refl _ _, CL _ (Below.refl _ _), rfl⟩
                                            | 1, _, ho =>
                                              cases ho
                                              have d0 : ac.tmps.getD 202 undef = .pointer (some ⟨g7, 3, none⟩) := hL.new 0 _ 202 rfl (he ⟨0, .data⟩ (by simp) rfl) rfl
                                              refine wpOp_plain rfl rfl ?_
                                              unfold Oper.wp
                                              go_simp
                                              exact ⟨_, rfl, Below.refl _ _, CL _ (Below.refl _ _), rfl⟩
                                            | 2, _, ho =>
                                              cases ho
                                              refine wpOp_plain rfl rfl ?_
                                              unfold Oper.wp
                                              go_simp
                                              exact ⟨_, rfl, Below.refl _ _, CL _ (Below.refl _ _), rfl⟩
                                            | 3, _, ho =>
                                              cases ho
                                              have d1 : ac.tmps.getD 203 undef = .slice (some ⟨lb, lo, none⟩) NL q2 := hL.new 1 _ 203 rfl (he ⟨1, .data⟩ (by simp) rfl) rfl
                                              have d2 : ac.tmps.getD 204 undef = .int .i64 iu := hL.new 2 _ 204 rfl (he ⟨2, .data⟩ (by simp) rfl) rfl
                                              refine wpOp_plain rfl rfl ?_
                                              unfold Oper.wp
                                              go_simp
                                              exact ⟨_, rfl, Below.refl _ _, CL _ (Below.refl _ _), rfl⟩
                                            | 4, _, ho =>
                                              cases ho
                                              have d3 : ac.tmps.getD 205 undef = .pointer (some ⟨lb, lo + iu * 2, none⟩) := hL.new 3 _ 205 rfl (he ⟨3, .data⟩ (by simp) rfl) rfl
                                              refine wpOp_plain rfl rfl ?_
                                              unfold Oper.wp
                                              go_simp
                                              exact ⟨_, rfl, Below.refl _ _, CL _ (Below.refl _ _), rfl⟩
                                            | 5, _, ho =>
                                              cases ho
                                              have d4 : ac.tmps.getD 206 undef = .pointer (some ⟨lb, lo + iu * 2, none⟩) := hL.new 4 _ 206 rfl (he ⟨4, .data⟩ (by simp) rfl) rfl
                                              refine wpOp_plain rfl rfl ?_
                                              unfold Oper.wp
                                              go_simp
                                              exact ⟨_, rfl, Below.refl _ _, CL _ (Below.refl _ _), rfl⟩
                                            | 6, _, ho =>
                                              cases ho
                                              refine wpOp_plain rfl rfl ?_
                                              unfold Oper.wp
                                              go_simp
                                              exact ⟨_, rfl, Below.refl _ _, CL _ (Below.refl _ _), rfl⟩
                                            | 7, _, ho =>
                                              cases ho
                                              have d6 : ac.tmps.getD 208 undef = .pointer (some ⟨g8, 1, none⟩) := hL.new 6 _ 208 rfl (he ⟨6, .data⟩ (by simp) rfl) rfl
                                              refine wpOp_plain rfl rfl ?_
                                              unfold Oper.wp
                                              go_simp
                                              exact ⟨_, rfl, Below.refl _ _, CL _ (Below.refl _ _), rfl⟩
                                            | 8, _, ho =>
                                              cases ho
                                              have d5 : ac.tmps.getD 207 undef = .int .i64 ix := hL.new 5 _ 207 rfl (he ⟨5, .data⟩ (by simp) rfl) rfl
                                              have d7 : ac.tmps.getD 209 undef = .int .i64 Y := hL.new 7 _ 209 rfl (he ⟨7, .data⟩ (by simp) rfl) rfl
                                              obtain ⟨hw0, hw1⟩ := HPP.out
                                              refine wpOp_plain rfl rfl ?_
                                              unfold Oper.wp
                                              go_simp
                                              exact ⟨_, rfl, Below.refl _ _, CL _ (Below.refl _ _), rfl⟩
                                            | 9, _, ho =>
                                              cases ho
                                              refine wpOp_plain rfl rfl ?_
                                              unfold Oper.wp
                                              go_simp
                                              exact ⟨_, rfl, Below.refl _ _, CL _ (Below.refl _ _), rfl⟩
                                            | 10, _, ho =>
                                              cases ho
                                              have d9 : ac.tmps.getD 211 undef = .pointer (some ⟨g7, 3, none⟩) := hL.new 9 _ 211 rfl (he ⟨9, .data⟩ (by simp) rfl) rfl
                                              refine wpOp_plain rfl rfl ?_
                                              unfold Oper.wp
                                              go_simp
                                              exact ⟨_, rfl, Below.refl _ _, CL _ (Below.refl _ _), rfl⟩
                                            | 11, _, ho =>
                                              cases ho
                                              refine wpOp_plain rfl rfl ?_
                                              unfold Oper.wp
                                              go_simp
                                              exact ⟨_, rfl, Below.refl _ _, CL _ (Below.refl _ _), rfl⟩
                                            | 12, _, ho =>
                                              cases ho
                                              have d10 : ac.tmps.getD 212 undef = .slice (some ⟨lb, lo, none⟩) NL q2 := hL.new 10 _ 212 rfl (he ⟨10, .data⟩ (by simp) rfl) rfl
                                              have d11 : ac.tmps.getD 213 undef = .int .i64 iu := hL.new 11 _ 213 rfl (he ⟨11, .data⟩ (by simp) rfl) rfl
                                              refine wpOp_plain rfl rfl ?_
                                              unfold Oper.wp
                                              go_simp
                                              exact ⟨_, rfl, Below.refl _ _, CL _ (Below.refl _ _), rfl⟩
                                            | 13, _, ho =>
                                              cases ho
                                              have d12 : ac.tmps.getD 214 undef = .pointer (some ⟨lb, lo + iu * 2, none⟩) := hL.new 12 _ 214 rfl (he ⟨12, .data⟩ (by simp) rfl) rfl
                                              refine wpOp_plain rfl rfl ?_
                                              unfold Oper.wp
                                              go_simp
                                              exact ⟨_, rfl, Below.refl _ _, CL _ (Below.refl _ _), rfl⟩
                                            | 14, _, ho =>
                                              cases ho
                                              have d13 : ac.tmps.getD 215 undef = .pointer (some ⟨lb, lo + iu * 2 + 1, none⟩) := hL.new 13 _ 215 rfl (he ⟨13, .data⟩ (by simp) rfl) rfl
                                              refine wpOp_plain rfl rfl ?_
                                              unfold Oper.wp
                                              go_simp
                                              exact ⟨_, rfl, Below.refl _ _, CL _ (Below.refl _ _), rfl⟩
                                            | 15, _, ho =>
                                              cases ho
                                              refine wpOp_plain rfl rfl ?_
                                              unfold Oper.wp
                                              go_simp
                                              exact ⟨_, rfl, Below.refl _ _, CL _ (Below.refl _ _), rfl⟩
                                            | 16, _, ho =>
                                              cases ho
                                              have d15 : ac.tmps.getD 217 undef = .pointer (some ⟨g8, 0, none⟩) := hL.new 15 _ 217 rfl (he ⟨15, .data⟩ (by simp) rfl) rfl
                                              refine wpOp_plain rfl rfl ?_
                                              unfold Oper.wp
                                              go_simp
                                              exact ⟨_, rfl, Below.refl _ _, CL _ (Below.refl _ _), rfl⟩
                                            | 17, _, ho =>
                                              cases ho
                                              have d14 : ac.tmps.getD 216 undef = .int .i64 iy := hL.new 14 _ 216 rfl (he ⟨14, .data⟩ (by simp) rfl) rfl
                                              have d16 : ac.tmps.getD 218 undef = .int .i64 X := hL.new 16 _ 218 rfl (he ⟨16, .data⟩ (by simp) rfl) rfl
                                              obtain ⟨hw0, hw1⟩ := HPP.out
                                              refine wpOp_plain rfl rfl ?_
                                              unfold Oper.wp
                                              go_simp
                                              exact ⟨_, rfl, Below.refl _ _, CL _ (Below.refl _ _), rfl⟩
                                            | 18, _, ho =>
                                              cases ho
                                              have d8 : ac.tmps.getD 210 undef = .int .i64 pa := hL.new 8 _ 210 rfl (he ⟨8, .data⟩ (by simp) rfl) rfl
                                              have d17 : ac.tmps.getD 219 undef = .int .i64 pb := hL.new 17 _ 219 rfl (he ⟨17, .data⟩ (by simp) rfl) rfl
                                              refine wpOp_plain rfl rfl ?_
                                              unfold Oper.wp
                                              go_simp
                                              exact ⟨_, rfl, Below.refl _ _, CL _ (Below.refl _ _), rfl⟩
                                            | n + 19, hA, _ => simp at hA
                                          case rest23 =>
                                            intro ac W25 hL
                                            have e202 : ac.tmps.getD 202 undef = .pointer (some ⟨g7, 3, none⟩) := hL.new 0 _ 202 rfl rfl rfl
                                            have e203 : ac.tmps.getD 203 undef = .slice (some ⟨lb, lo, none⟩) NL q2 := hL.new 1 _ 203 rfl rfl rfl
                                            have e204 : ac.tmps.getD 204 undef = .int .i64 iu := hL.new 2 _ 204 rfl rfl rfl
                                            have e205 : ac.tmps.getD 205 undef = .pointer (some ⟨lb, lo + iu * 2, none⟩) := hL.new 3 _ 205 rfl rfl rfl
                                            have e206 : ac.tmps.getD 206 undef = .pointer (some ⟨lb, lo + iu * 2, none⟩) := hL.new 4 _ 206 rfl rfl rfl
                                            have e207 : ac.tmps.getD 207 undef = .int .i64 ix := hL.new 5 _ 207 rfl rfl rfl
                                            have e208 : ac.tmps.getD 208 undef = .pointer (some ⟨g8, 1, none⟩) := hL.new 6 _ 208 rfl rfl rfl
                                            have e209 : ac.tmps.getD 209 undef = .int .i64 Y := hL.new 7 _ 209 rfl rfl rfl
                                            have e210 : ac.tmps.getD 210 undef = .int .i64 pa := hL.new 8 _ 210 rfl rfl rfl
                                            have e211 : ac.tmps.getD 211 undef = .pointer (some ⟨g7, 3, none⟩) := hL.new 9 _ 211 rfl rfl rfl
                                            have e212 : ac.tmps.getD 212 undef = .slice (some ⟨lb, lo, none⟩) NL q2 := hL.new 10 _ 212 rfl rfl rfl
                                            have e213 : ac.tmps.getD 213 undef = .int .i64 iu := hL.new 11 _ 213 rfl rfl rfl
                                            have e214 : ac.tmps.getD 214 undef = .pointer (some ⟨lb, lo + iu * 2, none⟩) := hL.new 12 _ 214 rfl rfl rfl
                                            have e215 : ac.tmps.getD 215 undef = .pointer (some ⟨lb, lo + iu * 2 + 1, none⟩) := hL.new 13 _ 215 rfl rfl rfl
                                            have e216 : ac.tmps.getD 216 undef = .int .i64 iy := hL.new 14 _ 216 rfl rfl rfl
                                            have e217 : ac.tmps.getD 217 undef = .pointer (some ⟨g8, 0, none⟩) := hL.new 15 _ 217 rfl rfl rfl
                                            have e218 : ac.tmps.getD 218 undef = .int .i64 X := hL.new 16 _ 218 rfl rfl rfl
                                            have e219 : ac.tmps.getD 219 undef = .int .i64 pb := hL.new 17 _ 219 rfl rfl rfl
                                            have e220 : ac.tmps.getD 220 undef = .bool (pa == pb) := hL.new 18 _ 220 rfl rfl rfl
                                            have es := hL.sets [202, 203, 204, 205, 206, 207, 208, 209, 210, 211, 212, 213, 214, 215, 216, 217, 218, 219, 220] (by decide +kernel)
                                            rw [List.foldl_cons, List.foldl_cons, List.foldl_cons, List.foldl_cons, List.foldl_cons, List.foldl_cons, List.foldl_cons, List.foldl_cons, List.foldl_cons, List.foldl_cons, List.foldl_cons, List.foldl_cons, List.foldl_cons, List.foldl_cons, List.foldl_cons, List.foldl_cons, List.foldl_cons, List.foldl_cons, List.foldl_cons, List.foldl_nil, e202, e203, e204, e205, e206, e207, e208, e209, e210, e211, e212, e213, e214, e215, e216, e217, e218, e219, e220] at es
                                            have BN : Below W24.heap.size W24 W25 := hL.cls
                                            rw [es]
                                            clear es hL e202 e203 e204 e205 e206 e207 e208 e209 e210 e211 e212 e213 e214 e215 e216 e217 e218 e219 e220
                                            refine wpAny_done (by decide +kernel) ?_ _
                                            simp only [List.setIfInBounds_toArray, List.set_cons_zero, List.set_cons_succ]
                                            as_aux_lemma =>
                                              have HM25 : Aside (MirAt B P g19 g1 d1 g2 d2 g3 d3 (iu + 1) (iu + 1) iu W25) := HM24.out.below BN
                                              have BR25 : Below U7.heap.size U7 W25 := BR24.trans (BN.mono BR24.size)
                                              clear j4 j5 j6 j8 j9 BN BR24 HM24 HPP
                                              by_cases hpe : pa = pb
                                              · have hpb : (pa == pb) = true := by rw [hpe]; simp
                                                have y7 := known_any
                                                clear hpe
                                                go_wp2_with (go_at_call 14; (with_reducible refine (y7 _).mono ?_); rintro e w6 ⟨rfl, hb6⟩)
                                                go_ret
                                                exact ⟨rfl, BWU.out.trans ((BR25.trans (hb6.mono BR25.size)).mono BWU.out.size)⟩
                                              · have hpb : (pa == pb) = false := by rw [beq_eq_false_iff_ne]; exact hpe
                                                have HM26 : Aside (MirAt B P g19 g1 d1 g2 d2 g3 d3 (iu + 1) (iu + 1) (iu + 1) W25) := HM25.out.miss HML.out.2.2 (by rw [HCR.out]; omega)
                                                clear hpe HM25 HML HCR
                                                go_wp2_with fail
                                                go_roundg (NL - (iu + 1))
                                                case measure => omega
                                                case rel => exact ⟨iu + 1, by omega, by omega, by go_num, BR25, HM26⟩
                              ·
                                as_aux_lemma =>
                                  have hke : NL = iu := by omega
                                  subst hke
                                  have hltz : ¬ (NL : Int) < (NL : Int) := by omega
                                  obtain ⟨hNL, hNN⟩ := HNL.out
                                  have HME : Aside (MirAt B P g19 g1 d1 g2 d2 g3 d3 B.lines.length B.nums.length NL wr) := by rw [hNL, hNN]; exact HMI.out
                                  have HBM := HME.out.brd
                                  have hno : ∀ l ∈ B.lines, crs l P ≠ 0 := by
                                    intro l hl
                                    obtain ⟨q, hq, rfl⟩ := List.getElem_of_mem hl
                                    exact HMI.out.2.2.2.2.2.2.2 q _ (by omega) (List.getElem?_eq_getElem hq)
                                  have HBDM : Aside (∀ (W : World) (v : Value), BrdAt W v (mirB B) → Calls Try.prog 12 #[v, .agg #[.int .i64 (-X), .int .i64 Y]] W (Ret (.tuple #[.int .i64 A, .bool o, .int .i64 0]) W)) := by
                                    intro W v h
                                    have x := Bed_any v (mirB B) (mir P) W h
                                    have hv : vpt (mir P) = true := by
                                      rw [vpt_mir, HP.out]
                                      unfold vpt inb; simp; omega
                                    have hr : bedR (mirB B) (mir P) = .tuple #[.int .i64 A, .bool o, .int .i64 0] := by
                                      unfold bedR
                                      rw [if_pos (chk_mir HCB.out), if_pos hv, bedW_mir HCB.out P hno, onWire_mir (by omega), HA.out.1, HA.out.2]
                                    have he : mir P = (-X, Y) := by rw [HP.out]; rfl
                                    rw [hr, he] at x
                                    exact x
                                  have m0 : wr.cell? ⟨g19, 0, none⟩ = some (.int .i64 B.eye) := by rw [cell_of_row wr g19 0 _ _ _ HMI.out.1]; rfl
                                  have m1 : wr.cell? ⟨g19, 1, none⟩ = some (.int .i64 B.bull) := by rw [cell_of_row wr g19 1 _ _ _ HMI.out.1]; rfl
                                  have m2 : wr.cell? ⟨g19, 2, none⟩ = some (.slice (some ⟨g1, 0, none⟩) B.rings.length d1) := by rw [cell_of_row wr g19 2 _ _ _ HMI.out.1]; rfl
                                  have m3 : wr.cell? ⟨g19, 3, none⟩ = some (.slice (some ⟨g2, 0, none⟩) B.lines.length d2) := by rw [cell_of_row wr g19 3 _ _ _ HMI.out.1]; rfl
                                  have m4 : wr.cell? ⟨g19, 4, none⟩ = some (.slice (some ⟨g3, 0, none⟩) B.nums.length d3) := by rw [cell_of_row wr g19 4 _ _ _ HMI.out.1]; rfl
                                  have m5 : wr.cell? ⟨g19, 5, none⟩ = some (.int .i64 B.wire) := by rw [cell_of_row wr g19 5 _ _ _ HMI.out.1]; rfl
                                  have j8 := keepc BR.out c6
                                  have j9 := keepc BR.out c7
                                  have HBM2 : Aside _ := HBM
                                  have y7 := known_any
                                  clear hno hNL hNN HBM HMI HME
                                  have hwx : IntKind.i64.wrap (-X) = -X := IntWalk.i64_in _ (by have := HPB.out; omega)
                                  have HB1 := HBDM.out _ _ HBM2.out
                                  clear HBDM HBM2
                                  go_wp2_with (first | (go_at_call 12; (with_reducible refine HB1.mono ?_); rintro e w5 ⟨rfl, hb5⟩) | (go_at_call 14; (with_reducible refine (y7 _).mono ?_); rintro e w6 ⟨rfl, hb6⟩))
                                  go_ret
                                  exact ⟨rfl, BWU.out.trans ((BR.out.trans ((hb5.trans (hb6.mono hb5.size)).mono BR.out.size)).mono BWU.out.size)⟩
end Go.Proofs.Ytilgchkndfhdhaa
