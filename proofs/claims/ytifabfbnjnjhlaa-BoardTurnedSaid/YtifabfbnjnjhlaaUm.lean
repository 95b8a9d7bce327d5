/- Board, part Um: a board whose ring of numbers is turned. -/
import Derived.Test.YtifabfbnjnjhlaaUr
import Derived.Test.YtifabfbnjnjhlaaUl
import Derived.Test.YtifabfbnjnjhlaaUg
import Derived.Test.YtifabfbnjnjhlaaS
import Derived.Test.YtifabfbnjnjhlaaTa
set_option linter.unusedVariables false
set_option linter.unusedSimpArgs false
namespace Go.Proofs.Ytifabfbnjnjhlaa
open Go.RowKit Go.Shelf

set_option maxRecDepth 100000 in
set_option maxHeartbeats 8000000 in
theorem turned_law (vr vl : Value) (rings lines : List Int) (f wi a b by_ : Int) (w : World) (sr : Sl w 1 eU vr rings) (sl : Sl w 1 eU vl lines) (hr : ∀ x ∈ rings, 0 ≤ x ∧ x ≤ 255) (hl : ∀ x ∈ lines, 0 ≤ x ∧ x ≤ 255) (f0 : 0 ≤ f) (f1 : f ≤ 255) (w0 : 0 ≤ wi) (w1 : wi ≤ 255)
    (a0 : 0 ≤ a) (a1 : a ≤ 65535) (b0 : 0 ≤ b) (b1 : b ≤ 65535) (y0 : 0 ≤ by_) (y1 : by_ ≤ 255) :
    Calls Try.prog 5 #[mdV vr vl f wi, .agg #[.int .u16 a, .int .u16 b], .int .u8 by_] w (Ret (.bool true) w) := by
  have HR : Aside (Sl w 1 eU vr rings) := sr
  have HL : Aside (Sl w 1 eU vl lines) := sl
  obtain ⟨ar, cr, rfl, lr, _⟩ := sr
  obtain ⟨al, cl, rfl, ll, _⟩ := sl
  have HM : Aside (∀ W, Below w.heap.size w W → Calls Try.prog 8 #[mdV (.slice ar rings.length cr) (.slice al lines.length cl) f wi] W (MadeOk rings lines f wi W)) := fun W hW => made_any _ _ rings lines f wi W (HR.out.below hW) (HL.out.below hW) hr hl f0 f1 w0 w1
  have HPT : Aside (∀ W, Calls Try.prog 9 #[.agg #[.int .u16 a, .int .u16 b]] W (Ret (pt (ptOf a b)) W)) := fun W => point_any a b W a0 a1 b0 b1
  have HP5 : Aside (vpt (ptOf a b) = true) := by
    show _ = _
    unfold vpt ptOf inb; simp; omega
  obtain ⟨P, hP⟩ : ∃ P, ptOf a b = P := ⟨_, rfl⟩
  rw [hP] at HPT HP5
  clear hP HR HL
  have HCK : Aside (∀ k, EndL lines k → chk (madeB rings lines f wi k) = 0) := fun k hk => made_chk rings lines f wi k hr f0 f1 w0 hk
  clear hr hl
  generalize rings.length = n at *
  generalize lines.length = m at *
  unfold mdV
  go_enter Try.func5, Try.ntmps5
  go_wp2_with fail
  obtain ⟨W0, hW0⟩ : ∃ W0, W0 = (w.alloc (.cells #[.slice ar n cr, .slice al m cl, .int .u8 f, .int .u8 wi] 24)).alloc (.cells #[.int .u16 a, .int .u16 b] 26) := ⟨_, rfl⟩
  rw [← hW0]
  have s0 : W0.heap.size = w.heap.size + 2 := by rw [hW0]; simp
  have B0 : Below w.heap.size w W0 := by rw [hW0]; clear hW0; (repeat' (first | exact Below.refl _ _ | assumption | (with_reducible refine Below.drew ?_) | (with_reducible refine Below.setCell ?_ (by (first | (simp; done) | (simp; omega))) _) | (with_reducible refine below_drewN' ?_ _) | (refine Below.alloc ?_ (by (try simp only [World.size_alloc, World.size_drew, World.size_setCell]); omega) _) | (refine Below.trans ?_ (Below.mono (by assumption) (by (try simp only [World.size_alloc, World.size_drew, World.size_setCell]); omega)))))
  have c0 : W0.cell? ⟨w.heap.size, 0, none⟩ = some (.slice ar n cr) := by rw [hW0]; clear hW0; go_simp
  have c1 : W0.cell? ⟨w.heap.size, 1, none⟩ = some (.slice al m cl) := by rw [hW0]; clear hW0; go_simp
  have c2 : W0.cell? ⟨w.heap.size, 2, none⟩ = some (.int .u8 f) := by rw [hW0]; clear hW0; go_simp
  have c3 : W0.cell? ⟨w.heap.size, 3, none⟩ = some (.int .u8 wi) := by rw [hW0]; clear hW0; go_simp
  have c4 : W0.cell? ⟨w.heap.size + 1, 0, none⟩ = some (.int .u16 a) := by rw [hW0]; clear hW0; go_simp
  have c5 : W0.cell? ⟨w.heap.size + 1, 1, none⟩ = some (.int .u16 b) := by rw [hW0]; clear hW0; go_simp
  clear hW0
  have S0 : Aside (W0.heap.size = w.heap.size + 2) := s0
  have BW0 : Aside (Below w.heap.size w W0) := B0
  clear s0 B0
  refine region_laid (fl := 8) [true, true, true, true, true, true, false, false] 2 (tuD1 w.heap.size lines rings f wi P (.slice ar n cr) (.slice al m cl) a b) (fun w' => Below W0.heap.size W0 w') (by kernel_rfl) rfl (by show layable _ 144 _ 8 = true; decide +kernel) rfl ((Below.refl _ _).drew) (tuD1_mono _ _ _ _ _ _ _ _ _ _) ?step ?rest
  case step =>
    intro i o listed ac W hA ho hL he
    have ha3 : ac.tmps.getD 3 undef = .pointer (some ⟨w.heap.size, 0, none⟩) := hL.kept 3 (by decide +kernel)
    have ha4 : ac.tmps.getD 4 undef = .pointer (some ⟨w.heap.size + 1, 0, none⟩) := hL.kept 4 (by decide +kernel)
    have CL : ∀ W', Below W.heap.size W W' → Below W0.heap.size W0 W' := fun W' h => hL.cls.trans (h.mono hL.cls.size)
    have BW : Below w.heap.size w W := BW0.out.trans (hL.cls.mono BW0.out.size)
    have k0 := keepc hL.cls c0
    have k1 := keepc hL.cls c1
    have k2 := keepc hL.cls c2
    have k3 := keepc hL.cls c3
    have k4 := keepc hL.cls c4
    have k5 := keepc hL.cls c5
    match i, hA, ho with
    | 0, _, ho =>
      cases ho
      refine wpOp_plain rfl rfl ?_
      unfold Oper.wp
      go_simp
      exact ⟨_, rfl, Below.refl _ _, CL _ (Below.refl _ _), rfl⟩
    | 1, _, ho =>
      cases ho
      have d21 : ac.tmps.getD 21 undef = mdV (.slice ar n cr) (.slice al m cl) f wi := hL.new 0 _ 21 rfl (he ⟨0, .data⟩ (by simp) rfl) rfl
      have x := HM.out W BW
      unfold MadeOk at x
      refine wpOp_plain rfl rfl ?_
      unfold Oper.wp
      go_simp
      refine x.mono ?_
      rintro e w' ⟨k, v, hE, rfl, hbr, hBn⟩
      exact ⟨_, rfl, hBn, CL _ hBn, ⟨k, hE, hbr⟩⟩
    | 2, _, ho =>
      cases ho
      refine wpOp_plain rfl rfl ?_
      unfold Oper.wp
      go_simp
      exact ⟨_, rfl, Below.refl _ _, CL _ (Below.refl _ _), rfl⟩
    | 3, _, ho =>
      cases ho
      have d23 : ac.tmps.getD 23 undef = .agg #[.int .u16 a, .int .u16 b] := hL.new 2 _ 23 rfl (he ⟨2, .data⟩ (by simp) rfl) rfl
      have x := HPT.out W
      refine wpOp_plain rfl rfl ?_
      unfold Oper.wp
      go_simp
      refine x.mono ?_
      rintro e w' ⟨rfl, hBn⟩
      exact ⟨_, rfl, hBn, CL _ hBn, rfl⟩
    | 4, _, ho =>
      cases ho
      refine wpOp_plain rfl rfl ?_
      unfold Oper.wp
      go_simp
      exact ⟨_, rfl, (Below.refl _ _).alloc (Nat.le_refl _) _, CL _ ((Below.refl _ _).alloc (Nat.le_refl _) _), ⟨_, rfl, BW.size, World.alloc_heap_new _ _⟩⟩
    | 5, _, ho =>
      cases ho
      refine wpOp_plain rfl rfl ?_
      unfold Oper.wp
      go_simp
      exact ⟨_, rfl, (Below.refl _ _).alloc (Nat.le_refl _) _, CL _ ((Below.refl _ _).alloc (Nat.le_refl _) _), ⟨_, rfl, BW.size, World.alloc_heap_new _ _⟩⟩
    | 6, hA, _ | 7, hA, _ => cases hA
    | n + 8, hA, _ => simp at hA
  case rest =>
    intro ac W hL
    have e21 : ac.tmps.getD 21 undef = mdV (.slice ar n cr) (.slice al m cl) f wi := hL.new 0 _ 21 rfl rfl rfl
    obtain ⟨k, hE, hbr⟩ : ∃ k, EndL lines k ∧ BrdAt W (ac.tmps.getD 22 undef) (madeB rings lines f wi k) := hL.new 1 _ 22 rfl rfl rfl
    have e23 : ac.tmps.getD 23 undef = .agg #[.int .u16 a, .int .u16 b] := hL.new 2 _ 23 rfl rfl rfl
    have e24 : ac.tmps.getD 24 undef = .agg #[.int .i64 P.1, .int .i64 P.2] := hL.new 3 _ 24 rfl rfl rfl
    obtain ⟨g7, e7, hb7, hg7⟩ : ∃ g, ac.tmps.getD 7 undef = .pointer (some ⟨g, 0, none⟩) ∧ w.heap.size ≤ g ∧ W.heap[g]? = some (.cells #[.int .i64 0, .int .i64 0, .slice none 0 0, .slice none 0 0, .slice none 0 0, .int .i64 0] 31 (0, 0)) := hL.new 4 _ 7 rfl rfl rfl
    obtain ⟨g8, e8, hb8, hg8⟩ : ∃ g, ac.tmps.getD 8 undef = .pointer (some ⟨g, 0, none⟩) ∧ w.heap.size ≤ g ∧ W.heap[g]? = some (.cells #[.int .i64 0, .int .i64 0] 34 (0, 0)) := hL.new 5 _ 8 rfl rfl rfl
    obtain ⟨B, hB⟩ : ∃ B, madeB rings lines f wi k = B := ⟨_, rfl⟩
    have hck := HCK.out k hE
    rw [hB] at hck hbr
    clear hB HCK hE
    obtain ⟨xr, xl, xn, e22, hxr, hxl, hxn⟩ := hbr
    have XR : Aside (Sl W 2 encP xr B.rings) := hxr
    have XL : Aside (Sl W 2 encP xl B.lines) := hxl
    have XN : Aside (Sl W 1 (fun x => [Value.int .i64 x]) xn B.nums) := hxn
    obtain ⟨p1, q1, rfl, _, _⟩ := hxr
    obtain ⟨p2, q2, rfl, _, _⟩ := hxl
    obtain ⟨p3, q3, rfl, _, _⟩ := hxn
    have es := hL.sets [21, 22, 23, 24, 7, 8] (by decide +kernel)
    rw [List.foldl_cons, List.foldl_cons, List.foldl_cons, List.foldl_cons, List.foldl_cons, List.foldl_cons, List.foldl_nil, e21, e22, e23, e24, e7, e8] at es
    have BW : Aside (Below w.heap.size w W) := BW0.out.trans (hL.cls.mono BW0.out.size)
    rw [es]
    unfold mdV
    clear es e21 e22 e23 e24 e7 e8 hL
    simp only [List.setIfInBounds_toArray, List.set_cons_zero, List.set_cons_succ]
    have hne : g7 ≠ g8 := by intro e; rw [e] at hg7; rw [hg7] at hg8; simp at hg8
    have hl7 := (Array.getElem?_eq_some_iff.1 hg7).1
    have hl8 := (Array.getElem?_eq_some_iff.1 hg8).1
    obtain ⟨aw1, aw2, aw3⟩ := brd_away hck XR.out XL.out XN.out (zero_board hg7)
    obtain ⟨aw4, aw5, aw6⟩ := brd_away hck XR.out XL.out XN.out (zero_point hg8)
    have u0 : W.cell? ⟨g7, 0, none⟩ = some (.int .i64 0) := by rw [cell_of_row W g7 0 _ _ _ hg7]; rfl
    have u1 : W.cell? ⟨g7, 1, none⟩ = some (.int .i64 0) := by rw [cell_of_row W g7 1 _ _ _ hg7]; rfl
    have u2 : W.cell? ⟨g7, 2, none⟩ = some (.slice none 0 0) := by rw [cell_of_row W g7 2 _ _ _ hg7]; rfl
    have u3 : W.cell? ⟨g7, 3, none⟩ = some (.slice none 0 0) := by rw [cell_of_row W g7 3 _ _ _ hg7]; rfl
    have u4 : W.cell? ⟨g7, 4, none⟩ = some (.slice none 0 0) := by rw [cell_of_row W g7 4 _ _ _ hg7]; rfl
    have u5 : W.cell? ⟨g7, 5, none⟩ = some (.int .i64 0) := by rw [cell_of_row W g7 5 _ _ _ hg7]; rfl
    have u6 : W.cell? ⟨g8, 0, none⟩ = some (.int .i64 0) := by rw [cell_of_row W g8 0 _ _ _ hg8]; rfl
    have u7 : W.cell? ⟨g8, 1, none⟩ = some (.int .i64 0) := by rw [cell_of_row W g8 1 _ _ _ hg8]; rfl
    have uf7 : ∀ i, W.frozen? ⟨g7, i, none⟩ = false := by intro i; simp [World.frozen?, hg7]
    have uf8 : ∀ i, W.frozen? ⟨g8, i, none⟩ = false := by intro i; simp [World.frozen?, hg8]
    have hne2 : ¬ g7 = g8 := hne
    have hne3 : ¬ g8 = g7 := fun e => hne e.symm
    clear hg7 hg8 hne
    refine wpAny_one (i := 6) (by decide +kernel) rfl rfl ?_
    unfold Oper.wp
    go_simp
    refine wpAny_one (i := 7) (by decide +kernel) rfl rfl ?_
    unfold Oper.wp
    go_simp
    refine wpAny_done (by decide +kernel) ?_ _
    obtain ⟨V, hV⟩ : ∃ V, V = ((((((((W.setCell ⟨g7, 0, none⟩ (.int .i64 B.eye)).setCell ⟨g7, 1, none⟩ (.int .i64 B.bull)).setCell ⟨g7, 2, none⟩ (.slice p1 B.rings.length q1)).setCell ⟨g7, 3, none⟩ (.slice p2 B.lines.length q2)).setCell ⟨g7, 4, none⟩ (.slice p3 B.nums.length q3)).setCell ⟨g7, 5, none⟩ (.int .i64 B.wire)).setCell ⟨g8, 0, none⟩ (.int .i64 P.1)).setCell ⟨g8, 1, none⟩ (.int .i64 P.2)) := ⟨_, rfl⟩
    have v0 : V.cell? ⟨g7, 0, none⟩ = some (.int .i64 B.eye) := by rw [hV]; clear hV; (first | (go_simp; done) | (go_simp; refine World.cell?_setCell_same' _ _ _ ?_; (repeat (with_reducible refine some_set ?_)); go_simp))
    have v1 : V.cell? ⟨g7, 1, none⟩ = some (.int .i64 B.bull) := by rw [hV]; clear hV; (first | (go_simp; done) | (go_simp; refine World.cell?_setCell_same' _ _ _ ?_; (repeat (with_reducible refine some_set ?_)); go_simp))
    have v2 : V.cell? ⟨g7, 2, none⟩ = some (.slice p1 B.rings.length q1) := by rw [hV]; clear hV; (first | (go_simp; done) | (go_simp; refine World.cell?_setCell_same' _ _ _ ?_; (repeat (with_reducible refine some_set ?_)); go_simp))
    have v3 : V.cell? ⟨g7, 3, none⟩ = some (.slice p2 B.lines.length q2) := by rw [hV]; clear hV; (first | (go_simp; done) | (go_simp; refine World.cell?_setCell_same' _ _ _ ?_; (repeat (with_reducible refine some_set ?_)); go_simp))
    have v4 : V.cell? ⟨g7, 4, none⟩ = some (.slice p3 B.nums.length q3) := by rw [hV]; clear hV; (first | (go_simp; done) | (go_simp; refine World.cell?_setCell_same' _ _ _ ?_; (repeat (with_reducible refine some_set ?_)); go_simp))
    have v5 : V.cell? ⟨g7, 5, none⟩ = some (.int .i64 B.wire) := by rw [hV]; clear hV; (first | (go_simp; done) | (go_simp; refine World.cell?_setCell_same' _ _ _ ?_; (repeat (with_reducible refine some_set ?_)); go_simp))
    have v6 : V.cell? ⟨g8, 0, none⟩ = some (.int .i64 P.1) := by rw [hV]; clear hV; (first | (go_simp; done) | (go_simp; refine World.cell?_setCell_same' _ _ _ ?_; (repeat (with_reducible refine some_set ?_)); go_simp))
    have v7 : V.cell? ⟨g8, 1, none⟩ = some (.int .i64 P.2) := by rw [hV]; clear hV; (first | (go_simp; done) | (go_simp; refine World.cell?_setCell_same' _ _ _ ?_; (repeat (with_reducible refine some_set ?_)); go_simp))
    have HBR : Aside (BrdAt V (.agg #[.int .i64 B.eye, .int .i64 B.bull, .slice p1 B.rings.length q1, .slice p2 B.lines.length q2, .slice p3 B.nums.length q3, .int .i64 B.wire]) B) := by
      rw [hV]
      exact ⟨_, _, _, rfl, ((((((((XR.out.away (p := ⟨g7, 0, none⟩) (u := .int .i64 B.eye) aw1).away (p := ⟨g7, 1, none⟩) (u := .int .i64 B.bull) aw1).away (p := ⟨g7, 2, none⟩) (u := .slice p1 B.rings.length q1) aw1).away (p := ⟨g7, 3, none⟩) (u := .slice p2 B.lines.length q2) aw1).away (p := ⟨g7, 4, none⟩) (u := .slice p3 B.nums.length q3) aw1).away (p := ⟨g7, 5, none⟩) (u := .int .i64 B.wire) aw1).away (p := ⟨g8, 0, none⟩) (u := .int .i64 P.1) aw4).away (p := ⟨g8, 1, none⟩) (u := .int .i64 P.2) aw4), ((((((((XL.out.away (p := ⟨g7, 0, none⟩) (u := .int .i64 B.eye) aw2).away (p := ⟨g7, 1, none⟩) (u := .int .i64 B.bull) aw2).away (p := ⟨g7, 2, none⟩) (u := .slice p1 B.rings.length q1) aw2).away (p := ⟨g7, 3, none⟩) (u := .slice p2 B.lines.length q2) aw2).away (p := ⟨g7, 4, none⟩) (u := .slice p3 B.nums.length q3) aw2).away (p := ⟨g7, 5, none⟩) (u := .int .i64 B.wire) aw2).away (p := ⟨g8, 0, none⟩) (u := .int .i64 P.1) aw5).away (p := ⟨g8, 1, none⟩) (u := .int .i64 P.2) aw5), ((((((((XN.out.away (p := ⟨g7, 0, none⟩) (u := .int .i64 B.eye) aw3).away (p := ⟨g7, 1, none⟩) (u := .int .i64 B.bull) aw3).away (p := ⟨g7, 2, none⟩) (u := .slice p1 B.rings.length q1) aw3).away (p := ⟨g7, 3, none⟩) (u := .slice p2 B.lines.length q2) aw3).away (p := ⟨g7, 4, none⟩) (u := .slice p3 B.nums.length q3) aw3).away (p := ⟨g7, 5, none⟩) (u := .int .i64 B.wire) aw3).away (p := ⟨g8, 0, none⟩) (u := .int .i64 P.1) aw6).away (p := ⟨g8, 1, none⟩) (u := .int .i64 P.2) aw6)⟩
    have BV : Aside (Below w.heap.size w V) := by rw [hV]; exact ((((((((BW.out.setCell (p := ⟨g7, 0, none⟩) hb7 _).setCell (p := ⟨g7, 1, none⟩) hb7 _).setCell (p := ⟨g7, 2, none⟩) hb7 _).setCell (p := ⟨g7, 3, none⟩) hb7 _).setCell (p := ⟨g7, 4, none⟩) hb7 _).setCell (p := ⟨g7, 5, none⟩) hb7 _).setCell (p := ⟨g8, 0, none⟩) hb8 _).setCell (p := ⟨g8, 1, none⟩) hb8 _)
    have gl7 : g7 < V.heap.size := World.block_lt_of_cell? V _ v0
    have gl8 : g8 < V.heap.size := World.block_lt_of_cell? V _ v6
    rw [← hV]
    clear hV aw1 aw2 aw3 aw4 aw5 aw6 XR XL XN u0 u1 u2 u3 u4 u5 u6 u7 uf7 uf8 BW HM HPT S0 BW0 c0 c1 c2 c3 c4 c5 hl7 hl8
    have G := good_of_chk hck
    have hnpos : 0 < B.nums.length := by rw [G.same]; exact List.length_pos_iff.2 G.lines
    have hn20 : B.nums.length ≤ 20 := G.len.2.2
    have HNE : Aside (B.rings ≠ [] ∧ B.lines ≠ [] ∧ B.nums ≠ [] ∧ B.rings.length ≤ 1000 ∧ B.lines.length ≤ 1000 ∧ B.nums.length ≤ 1000) := ⟨G.rings, G.lines, List.length_pos_iff.1 hnpos, by have := G.len.1; omega, by have := G.len.2.1; omega, by omega⟩
    obtain ⟨K, hK⟩ : ∃ K : Nat, by_ % (B.nums.length : Int) = K := ⟨(by_ % (B.nums.length : Int)).toNat, by have := Int.emod_nonneg by_ (show (B.nums.length : Int) ≠ 0 by omega); omega⟩
    have hKn : K < B.nums.length := by have := Int.emod_lt_of_pos by_ (show (0 : Int) < (B.nums.length : Int) by omega); omega
    have HK : Aside (by_ % (B.nums.length : Int) = K) := hK
    have HOWN : Aside (∀ (U : World) (v : Value) (C : Brd), chk C = 0 → BrdAt U v C → Calls Try.prog 11 #[v] U (OwnOk C U)) := by
      intro U v C hC h
      have G := good_of_chk hC
      have : 0 < C.nums.length := by rw [G.same]; exact List.length_pos_iff.2 G.lines
      exact own_any v C U h G.rings G.lines (List.length_pos_iff.1 this) (by have := G.len.1; omega) (by have := G.len.2.1; omega) (by have := G.len.2.2; omega)
    have HCB : Aside (chk B = 0) := hck
    have hnzz : ¬ (B.nums.length : Int) = 0 := by omega
    clear hK hck G
    go_wp2_with fail
    rw [HK.out]
    refine (HOWN.out _ _ B HCB.out HBR.out).mono ?_
    rintro e U1 ⟨h1, i1, h2, i2, h3, i3, rfl, hbr1, hb1⟩
    go_wp2_with fail
    refine (Turn_ok _ B K _ hbr1 HCB.out hKn).mono ?_
    rintro e U2 ⟨h4, i4, h5, i5, h6, i6, rfl, hbr2, hb2⟩
    have BU2 : Below V.heap.size V U2 := hb1.trans (hb2.mono hb1.size)
    have z2 : V.heap.size ≤ U2.heap.size := BU2.size
    have HT : Aside (BrdAt U2 (.agg #[.int .i64 B.eye, .int .i64 B.bull, .slice (some ⟨h4, 0, none⟩) B.rings.length i4, .slice (some ⟨h5, 0, none⟩) B.lines.length i5, .slice (some ⟨h6, 0, none⟩) B.nums.length i6, .int .i64 B.wire]) (turnB' B K)) := hbr2
    have w0' := keepc BU2 v0
    have w1' := keepc BU2 v1
    have w2' := keepc BU2 v2
    have w3' := keepc BU2 v3
    have w4' := keepc BU2 v4
    have w5' := keepc BU2 v5
    have w6' := keepc BU2 v6
    have w7' := keepc BU2 v7
    have HB2 : Aside (BrdAt U2 (.agg #[.int .i64 B.eye, .int .i64 B.bull, .slice p1 B.rings.length q1, .slice p2 B.lines.length q2, .slice p3 B.nums.length q3, .int .i64 B.wire]) B) := HBR.out.below BU2
    have BW2 : Aside (Below w.heap.size w U2) := BV.out.trans (BU2.mono BV.out.size)
    have gk7 : g7 < U2.heap.size := by omega
    have gk8 : g8 < U2.heap.size := by omega
    clear hb1 hb2 hbr1 hbr2 BU2 v0 v1 v2 v3 v4 v5 v6 v7 HBR BV gl7 gl8 z2
    go_wp2_with fail
    obtain ⟨U3, hU3⟩ : ∃ U3, U3 = (U2.alloc (.cells #[.int .i64 B.eye, .int .i64 B.bull, .slice (some ⟨h4, 0, none⟩) B.rings.length i4, .slice (some ⟨h5, 0, none⟩) B.lines.length i5, .slice (some ⟨h6, 0, none⟩) B.nums.length i6, .int .i64 B.wire] 31)) := ⟨_, rfl⟩
    obtain ⟨gT, hgT⟩ : ∃ gT, U2.heap.size = gT := ⟨_, rfl⟩
    have BU3 : Below U2.heap.size U2 U3 := by rw [hU3]; exact (Below.refl _ _).alloc (Nat.le_refl _) _
    have t0 : U3.cell? ⟨gT, 0, none⟩ = some (.int .i64 B.eye) := by rw [hU3, ← hgT]; clear hU3; go_simp
    have t1 : U3.cell? ⟨gT, 1, none⟩ = some (.int .i64 B.bull) := by rw [hU3, ← hgT]; clear hU3; go_simp
    have t2 : U3.cell? ⟨gT, 2, none⟩ = some (.slice (some ⟨h4, 0, none⟩) B.rings.length i4) := by rw [hU3, ← hgT]; clear hU3; go_simp
    have t3 : U3.cell? ⟨gT, 3, none⟩ = some (.slice (some ⟨h5, 0, none⟩) B.lines.length i5) := by rw [hU3, ← hgT]; clear hU3; go_simp
    have t4 : U3.cell? ⟨gT, 4, none⟩ = some (.slice (some ⟨h6, 0, none⟩) B.nums.length i6) := by rw [hU3, ← hgT]; clear hU3; go_simp
    have t5 : U3.cell? ⟨gT, 5, none⟩ = some (.int .i64 B.wire) := by rw [hU3, ← hgT]; clear hU3; go_simp
    rw [← hU3, hgT]
    clear hU3
    have m0 := keepc BU3 w0'
    have m1 := keepc BU3 w1'
    have m2 := keepc BU3 w2'
    have m3 := keepc BU3 w3'
    have m4 := keepc BU3 w4'
    have m5 := keepc BU3 w5'
    have m6 := keepc BU3 w6'
    have m7 := keepc BU3 w7'
    have HB3 : Aside (BrdAt U3 (.agg #[.int .i64 B.eye, .int .i64 B.bull, .slice p1 B.rings.length q1, .slice p2 B.lines.length q2, .slice p3 B.nums.length q3, .int .i64 B.wire]) B) := HB2.out.below BU3
    have HT3 : Aside (BrdAt U3 (.agg #[.int .i64 B.eye, .int .i64 B.bull, .slice (some ⟨h4, 0, none⟩) B.rings.length i4, .slice (some ⟨h5, 0, none⟩) B.lines.length i5, .slice (some ⟨h6, 0, none⟩) B.nums.length i6, .int .i64 B.wire]) (turnB' B K)) := HT.out.below BU3
    have BW3 : Aside (Below w.heap.size w U3) := BW2.out.trans (BU3.mono BW2.out.size)
    have HCT : Aside (chk (turnB' B K) = 0) := chk_turn B K HCB.out hKn
    have HTB : Aside _ := turn_bed HCB.out K hKn P
    have HBE5 : Aside (bedR B P = .tuple #[.int .i64 (bedW B P), .bool (onWire B P), .int .i64 0]) := by
      show _ = _
      unfold bedR; rw [if_pos HCB.out, if_pos HP5.out]
    have HBE6 : Aside (bedR (turnB' B K) P = .tuple #[.int .i64 (bedW (turnB' B K) P), .bool (onWire B P), .int .i64 0]) := by
      show _ = _
      unfold bedR; rw [if_pos HCT.out, if_pos HP5.out, onWire_turn]
    have HAB : Aside ((0 ≤ bedW B P ∧ bedW B P < 500) ∧ 0 ≤ bedW (turnB' B K) P ∧ bedW (turnB' B K) P < 500) := ⟨bedW_bd HCB.out P, bedW_bd HCT.out P⟩
    obtain ⟨A, hA⟩ : ∃ A, bedW B P = A := ⟨_, rfl⟩
    obtain ⟨C, hC⟩ : ∃ C, bedW (turnB' B K) P = C := ⟨_, rfl⟩
    obtain ⟨o, ho⟩ : ∃ o, onWire B P = o := ⟨_, rfl⟩
    rw [hA, hC] at HTB HAB
    rw [hA, ho] at HBE5
    rw [hC, ho] at HBE6
    clear hA hC ho w0' w1' w2' w3' w4' w5' w6' w7' HB2 HT BW2 BU3 gk7 gk8 hgT
    refine region_laid (fl := 8) [true, true, true, true, true, true, true, true, true, true, true] 0 (bedD (.agg #[.int .i64 B.eye, .int .i64 B.bull, .slice p1 B.rings.length q1, .slice p2 B.lines.length q2, .slice p3 B.nums.length q3, .int .i64 B.wire]) B P A o) (fun w' => Below U3.heap.size U3 w') (by kernel_rfl) rfl (by show layable _ 144 _ 8 = true; decide +kernel) rfl ((Below.refl _ _).drew) (bedD_mono _ _ _ _ _) ?step5 ?rest5
    case step5 =>
      intro i o_ listed ac W hA ho hL he
      have haB : ac.tmps.getD 7 undef = .pointer (some ⟨g7, 0, none⟩) := hL.kept 7 (by decide +kernel)
      have haP : ac.tmps.getD 8 undef = .pointer (some ⟨g8, 0, none⟩) := hL.kept 8 (by decide +kernel)
      have CL : ∀ W', Below W.heap.size W W' → Below U3.heap.size U3 W' := fun W' h => hL.cls.trans (h.mono hL.cls.size)
      have k0 := keepc hL.cls m0
      have k1 := keepc hL.cls m1
      have k2 := keepc hL.cls m2
      have k3 := keepc hL.cls m3
      have k4 := keepc hL.cls m4
      have k5 := keepc hL.cls m5
      have k6 := keepc hL.cls m6
      have k7 := keepc hL.cls m7
      match i, hA, ho with
      | 0, _, ho =>
        cases ho
        refine wpOp_plain rfl rfl ?_
        unfold Oper.wp
        go_simp
        exact ⟨_, rfl, Below.refl _ _, CL _ (Below.refl _ _), rfl⟩
      | 1, _, ho =>
        cases ho
        have dd : ac.tmps.getD 40 undef = .agg #[.int .i64 B.eye, .int .i64 B.bull, .slice p1 B.rings.length q1, .slice p2 B.lines.length q2, .slice p3 B.nums.length q3, .int .i64 B.wire] := hL.new 0 _ 40 rfl (he ⟨0, .data⟩ (by simp) rfl) rfl
        have x := HOWN.out W _ B HCB.out (HB3.out.below hL.cls)
        unfold OwnOk at x
        refine wpOp_plain rfl rfl ?_
        unfold Oper.wp
        go_simp
        refine x.mono ?_
        rintro e w' ⟨_, _, _, _, _, _, rfl, hbr, hBn⟩
        exact ⟨_, rfl, hBn, CL _ hBn, hbr⟩
      | 2, _, ho =>
        cases ho
        refine wpOp_plain rfl rfl ?_
        unfold Oper.wp
        go_simp
        exact ⟨_, rfl, Below.refl _ _, CL _ (Below.refl _ _), rfl⟩
      | 3, _, ho =>
        cases ho
        have hb : BrdAt W (ac.tmps.getD 41 undef) B := hL.new 1 _ 41 rfl (he ⟨1, .data⟩ (by simp) rfl) rfl
        have dp : ac.tmps.getD 42 undef = .agg #[.int .i64 P.1, .int .i64 P.2] := hL.new 2 _ 42 rfl (he ⟨2, .data⟩ (by simp) rfl) rfl
        obtain ⟨xo, hxo⟩ : ∃ x, ac.tmps.getD 41 undef = x := ⟨_, rfl⟩
        rw [hxo] at hb
        have x := Bed_any xo B P W hb
        rw [HBE5.out] at x
        refine wpOp_plain rfl rfl ?_
        unfold Oper.wp
        go_simp
        refine x.mono ?_
        rintro e w' ⟨rfl, hBn⟩
        exact ⟨_, rfl, hBn, CL _ hBn, rfl⟩
      | 4, _, ho =>
        cases ho
        have dd : ac.tmps.getD 43 undef = .tuple #[.int .i64 A, .bool o, .int .i64 0] := hL.new 3 _ 43 rfl (he ⟨3, .data⟩ (by simp) rfl) rfl
        refine wpOp_plain rfl rfl ?_
        unfold Oper.wp
        go_simp
        exact ⟨_, rfl, Below.refl _ _, CL _ (Below.refl _ _), rfl⟩
      | 5, _, ho =>
        cases ho
        have dd : ac.tmps.getD 39 undef = .tuple #[.int .i64 A, .bool o, .int .i64 0] := hL.new 4 _ 39 rfl (he ⟨4, .data⟩ (by simp) rfl) rfl
        refine wpOp_plain rfl rfl ?_
        unfold Oper.wp
        go_simp
        exact ⟨_, rfl, Below.refl _ _, CL _ (Below.refl _ _), rfl⟩
      | 6, _, ho =>
        cases ho
        have dd : ac.tmps.getD 39 undef = .tuple #[.int .i64 A, .bool o, .int .i64 0] := hL.new 4 _ 39 rfl (he ⟨4, .data⟩ (by simp) rfl) rfl
        refine wpOp_plain rfl rfl ?_
        unfold Oper.wp
        go_simp
        exact ⟨_, rfl, Below.refl _ _, CL _ (Below.refl _ _), rfl⟩
      | 7, _, ho =>
        cases ho
        have dd : ac.tmps.getD 39 undef = .tuple #[.int .i64 A, .bool o, .int .i64 0] := hL.new 4 _ 39 rfl (he ⟨4, .data⟩ (by simp) rfl) rfl
        refine wpOp_plain rfl rfl ?_
        unfold Oper.wp
        go_simp
        exact ⟨_, rfl, Below.refl _ _, CL _ (Below.refl _ _), rfl⟩
      | 8, _, ho =>
        cases ho
        have dd : ac.tmps.getD 44 undef = .int .i64 A := hL.new 5 _ 44 rfl (he ⟨5, .data⟩ (by simp) rfl) rfl
        refine wpOp_plain rfl rfl ?_
        unfold Oper.wp
        go_simp
        exact ⟨_, rfl, Below.refl _ _, CL _ (Below.refl _ _), rfl⟩
      | 9, _, ho =>
        cases ho
        have dd : ac.tmps.getD 45 undef = .bool o := hL.new 6 _ 45 rfl (he ⟨6, .data⟩ (by simp) rfl) rfl
        refine wpOp_plain rfl rfl ?_
        unfold Oper.wp
        go_simp
        exact ⟨_, rfl, Below.refl _ _, CL _ (Below.refl _ _), rfl⟩
      | 10, _, ho =>
        cases ho
        have dd : ac.tmps.getD 46 undef = .int .i64 0 := hL.new 7 _ 46 rfl (he ⟨7, .data⟩ (by simp) rfl) rfl
        refine wpOp_plain rfl rfl ?_
        unfold Oper.wp
        go_simp
        exact ⟨_, rfl, Below.refl _ _, CL _ (Below.refl _ _), rfl⟩
      | n + 11, hA, _ => simp at hA
    case rest5 =>
      intro ac U4 hL
      have e40 : ac.tmps.getD 40 undef = .agg #[.int .i64 B.eye, .int .i64 B.bull, .slice p1 B.rings.length q1, .slice p2 B.lines.length q2, .slice p3 B.nums.length q3, .int .i64 B.wire] := hL.new 0 _ 40 rfl rfl rfl
      obtain ⟨xo5, e41⟩ : ∃ x, ac.tmps.getD 41 undef = x := ⟨_, rfl⟩
      have e42 : ac.tmps.getD 42 undef = .agg #[.int .i64 P.1, .int .i64 P.2] := hL.new 2 _ 42 rfl rfl rfl
      have e43 : ac.tmps.getD 43 undef = .tuple #[.int .i64 A, .bool o, .int .i64 0] := hL.new 3 _ 43 rfl rfl rfl
      have e39 : ac.tmps.getD 39 undef = .tuple #[.int .i64 A, .bool o, .int .i64 0] := hL.new 4 _ 39 rfl rfl rfl
      have e44 : ac.tmps.getD 44 undef = .int .i64 A := hL.new 5 _ 44 rfl rfl rfl
      have e45 : ac.tmps.getD 45 undef = .bool o := hL.new 6 _ 45 rfl rfl rfl
      have e46 : ac.tmps.getD 46 undef = .int .i64 0 := hL.new 7 _ 46 rfl rfl rfl
      have e13 : ac.tmps.getD 13 undef = .int .i64 A := hL.new 8 _ 13 rfl rfl rfl
      have e14 : ac.tmps.getD 14 undef = .bool o := hL.new 9 _ 14 rfl rfl rfl
      have e15 : ac.tmps.getD 15 undef = .int .i64 0 := hL.new 10 _ 15 rfl rfl rfl
      have es := hL.sets [40, 41, 42, 43, 39, 44, 45, 46, 13, 14, 15] (by decide +kernel)
      rw [List.foldl_cons, List.foldl_cons, List.foldl_cons, List.foldl_cons, List.foldl_cons, List.foldl_cons, List.foldl_cons, List.foldl_cons, List.foldl_cons, List.foldl_cons, List.foldl_cons, List.foldl_nil, e40, e41, e42, e43, e39, e44, e45, e46, e13, e14, e15] at es
      have BU4 : Below U3.heap.size U3 U4 := hL.cls
      rw [es]
      clear es hL e40 e41 e42 e43 e39 e44 e45 e46 e13 e14 e15
      refine wpAny_done (by decide +kernel) ?_ _
      simp only [List.setIfInBounds_toArray, List.set_cons_zero, List.set_cons_succ]
      go_wp2_with fail
      have x0 := keepc BU4 t0
      have x1 := keepc BU4 t1
      have x2 := keepc BU4 t2
      have x3 := keepc BU4 t3
      have x4 := keepc BU4 t4
      have x5 := keepc BU4 t5
      have y0 := keepc BU4 m0
      have y1 := keepc BU4 m1
      have y2 := keepc BU4 m2
      have y3 := keepc BU4 m3
      have y4 := keepc BU4 m4
      have y5 := keepc BU4 m5
      have y6 := keepc BU4 m6
      have y7 := keepc BU4 m7
      have HB4 : Aside (BrdAt U4 (.agg #[.int .i64 B.eye, .int .i64 B.bull, .slice p1 B.rings.length q1, .slice p2 B.lines.length q2, .slice p3 B.nums.length q3, .int .i64 B.wire]) B) := HB3.out.below BU4
      have HT4 : Aside (BrdAt U4 (.agg #[.int .i64 B.eye, .int .i64 B.bull, .slice (some ⟨h4, 0, none⟩) B.rings.length i4, .slice (some ⟨h5, 0, none⟩) B.lines.length i5, .slice (some ⟨h6, 0, none⟩) B.nums.length i6, .int .i64 B.wire]) (turnB' B K)) := HT3.out.below BU4
      have BW4 : Aside (Below w.heap.size w U4) := BW3.out.trans (BU4.mono BW3.out.size)
      clear HB3 HT3 BW3 t0 t1 t2 t3 t4 t5 m0 m1 m2 m3 m4 m5 m6 m7 BU4
      refine region_laid (fl := 8) [true, true, true, true, true, true, true, true, true, true, true] 0 (bedD (.agg #[.int .i64 B.eye, .int .i64 B.bull, .slice (some ⟨h4, 0, none⟩) B.rings.length i4, .slice (some ⟨h5, 0, none⟩) B.lines.length i5, .slice (some ⟨h6, 0, none⟩) B.nums.length i6, .int .i64 B.wire]) (turnB' B K) P C o) (fun w' => Below U4.heap.size U4 w') (by kernel_rfl) rfl (by show layable _ 144 _ 8 = true; decide +kernel) rfl ((Below.refl _ _).drew) (bedD_mono _ _ _ _ _) ?step6 ?rest6
      case step6 =>
        intro i o_ listed ac W hA ho hL he
        have haB : ac.tmps.getD 11 undef = .pointer (some ⟨gT, 0, none⟩) := hL.kept 11 (by decide +kernel)
        have haP : ac.tmps.getD 8 undef = .pointer (some ⟨g8, 0, none⟩) := hL.kept 8 (by decide +kernel)
        have CL : ∀ W', Below W.heap.size W W' → Below U4.heap.size U4 W' := fun W' h => hL.cls.trans (h.mono hL.cls.size)
        have k0 := keepc hL.cls x0
        have k1 := keepc hL.cls x1
        have k2 := keepc hL.cls x2
        have k3 := keepc hL.cls x3
        have k4 := keepc hL.cls x4
        have k5 := keepc hL.cls x5
        have k6 := keepc hL.cls y6
        have k7 := keepc hL.cls y7
        match i, hA, ho with
        | 0, _, ho =>
          cases ho
          refine wpOp_plain rfl rfl ?_
          unfold Oper.wp
          go_simp
          exact ⟨_, rfl, Below.refl _ _, CL _ (Below.refl _ _), rfl⟩
        | 1, _, ho =>
          cases ho
          have dd : ac.tmps.getD 48 undef = .agg #[.int .i64 B.eye, .int .i64 B.bull, .slice (some ⟨h4, 0, none⟩) B.rings.length i4, .slice (some ⟨h5, 0, none⟩) B.lines.length i5, .slice (some ⟨h6, 0, none⟩) B.nums.length i6, .int .i64 B.wire] := hL.new 0 _ 48 rfl (he ⟨0, .data⟩ (by simp) rfl) rfl
          have x := HOWN.out W _ (turnB' B K) HCT.out (HT4.out.below hL.cls)
          unfold OwnOk at x
          refine wpOp_plain rfl rfl ?_
          unfold Oper.wp
          go_simp
          refine x.mono ?_
          rintro e w' ⟨_, _, _, _, _, _, rfl, hbr, hBn⟩
          exact ⟨_, rfl, hBn, CL _ hBn, hbr⟩
        | 2, _, ho =>
          cases ho
          refine wpOp_plain rfl rfl ?_
          unfold Oper.wp
          go_simp
          exact ⟨_, rfl, Below.refl _ _, CL _ (Below.refl _ _), rfl⟩
        | 3, _, ho =>
          cases ho
          have hb : BrdAt W (ac.tmps.getD 49 undef) (turnB' B K) := hL.new 1 _ 49 rfl (he ⟨1, .data⟩ (by simp) rfl) rfl
          have dp : ac.tmps.getD 50 undef = .agg #[.int .i64 P.1, .int .i64 P.2] := hL.new 2 _ 50 rfl (he ⟨2, .data⟩ (by simp) rfl) rfl
          obtain ⟨xo, hxo⟩ : ∃ x, ac.tmps.getD 49 undef = x := ⟨_, rfl⟩
          rw [hxo] at hb
          have x := Bed_any xo (turnB' B K) P W hb
          rw [HBE6.out] at x
          refine wpOp_plain rfl rfl ?_
          unfold Oper.wp
          go_simp
          refine x.mono ?_
          rintro e w' ⟨rfl, hBn⟩
          exact ⟨_, rfl, hBn, CL _ hBn, rfl⟩
        | 4, _, ho =>
          cases ho
          have dd : ac.tmps.getD 51 undef = .tuple #[.int .i64 C, .bool o, .int .i64 0] := hL.new 3 _ 51 rfl (he ⟨3, .data⟩ (by simp) rfl) rfl
          refine wpOp_plain rfl rfl ?_
          unfold Oper.wp
          go_simp
          exact ⟨_, rfl, Below.refl _ _, CL _ (Below.refl _ _), rfl⟩
        | 5, _, ho =>
          cases ho
          have dd : ac.tmps.getD 47 undef = .tuple #[.int .i64 C, .bool o, .int .i64 0] := hL.new 4 _ 47 rfl (he ⟨4, .data⟩ (by simp) rfl) rfl
          refine wpOp_plain rfl rfl ?_
          unfold Oper.wp
          go_simp
          exact ⟨_, rfl, Below.refl _ _, CL _ (Below.refl _ _), rfl⟩
        | 6, _, ho =>
          cases ho
          have dd : ac.tmps.getD 47 undef = .tuple #[.int .i64 C, .bool o, .int .i64 0] := hL.new 4 _ 47 rfl (he ⟨4, .data⟩ (by simp) rfl) rfl
          refine wpOp_plain rfl rfl ?_
          unfold Oper.wp
          go_simp
          exact ⟨_, rfl, Below.refl _ _, CL _ (Below.refl _ _), rfl⟩
        | 7, _, ho =>
          cases ho
          have dd : ac.tmps.getD 47 undef = .tuple #[.int .i64 C, .bool o, .int .i64 0] := hL.new 4 _ 47 rfl (he ⟨4, .data⟩ (by simp) rfl) rfl
          refine wpOp_plain rfl rfl ?_
          unfold Oper.wp
          go_simp
          exact ⟨_, rfl, Below.refl _ _, CL _ (Below.refl _ _), rfl⟩
        | 8, _, ho =>
          cases ho
          have dd : ac.tmps.getD 52 undef = .int .i64 C := hL.new 5 _ 52 rfl (he ⟨5, .data⟩ (by simp) rfl) rfl
          refine wpOp_plain rfl rfl ?_
          unfold Oper.wp
          go_simp
          exact ⟨_, rfl, Below.refl _ _, CL _ (Below.refl _ _), rfl⟩
        | 9, _, ho =>
          cases ho
          have dd : ac.tmps.getD 53 undef = .bool o := hL.new 6 _ 53 rfl (he ⟨6, .data⟩ (by simp) rfl) rfl
          refine wpOp_plain rfl rfl ?_
          unfold Oper.wp
          go_simp
          exact ⟨_, rfl, Below.refl _ _, CL _ (Below.refl _ _), rfl⟩
        | 10, _, ho =>
          cases ho
          have dd : ac.tmps.getD 54 undef = .int .i64 0 := hL.new 7 _ 54 rfl (he ⟨7, .data⟩ (by simp) rfl) rfl
          refine wpOp_plain rfl rfl ?_
          unfold Oper.wp
          go_simp
          exact ⟨_, rfl, Below.refl _ _, CL _ (Below.refl _ _), rfl⟩
        | n + 11, hA, _ => simp at hA
      case rest6 =>
        intro ac U5 hL
        have e48 : ac.tmps.getD 48 undef = .agg #[.int .i64 B.eye, .int .i64 B.bull, .slice (some ⟨h4, 0, none⟩) B.rings.length i4, .slice (some ⟨h5, 0, none⟩) B.lines.length i5, .slice (some ⟨h6, 0, none⟩) B.nums.length i6, .int .i64 B.wire] := hL.new 0 _ 48 rfl rfl rfl
        obtain ⟨xo6, e49⟩ : ∃ x, ac.tmps.getD 49 undef = x := ⟨_, rfl⟩
        have e50 : ac.tmps.getD 50 undef = .agg #[.int .i64 P.1, .int .i64 P.2] := hL.new 2 _ 50 rfl rfl rfl
        have e51 : ac.tmps.getD 51 undef = .tuple #[.int .i64 C, .bool o, .int .i64 0] := hL.new 3 _ 51 rfl rfl rfl
        have e47 : ac.tmps.getD 47 undef = .tuple #[.int .i64 C, .bool o, .int .i64 0] := hL.new 4 _ 47 rfl rfl rfl
        have e52 : ac.tmps.getD 52 undef = .int .i64 C := hL.new 5 _ 52 rfl rfl rfl
        have e53 : ac.tmps.getD 53 undef = .bool o := hL.new 6 _ 53 rfl rfl rfl
        have e54 : ac.tmps.getD 54 undef = .int .i64 0 := hL.new 7 _ 54 rfl rfl rfl
        have e16 : ac.tmps.getD 16 undef = .int .i64 C := hL.new 8 _ 16 rfl rfl rfl
        have e17 : ac.tmps.getD 17 undef = .bool o := hL.new 9 _ 17 rfl rfl rfl
        have e18 : ac.tmps.getD 18 undef = .int .i64 0 := hL.new 10 _ 18 rfl rfl rfl
        have es := hL.sets [48, 49, 50, 51, 47, 52, 53, 54, 16, 17, 18] (by decide +kernel)
        rw [List.foldl_cons, List.foldl_cons, List.foldl_cons, List.foldl_cons, List.foldl_cons, List.foldl_cons, List.foldl_cons, List.foldl_cons, List.foldl_cons, List.foldl_cons, List.foldl_cons, List.foldl_nil, e48, e49, e50, e51, e47, e52, e53, e54, e16, e17, e18] at es
        have BU5 : Below U4.heap.size U4 U5 := hL.cls
        rw [es]
        clear es hL e48 e49 e50 e51 e47 e52 e53 e54 e16 e17 e18
        refine wpAny_done (by decide +kernel) ?_ _
        simp only [List.setIfInBounds_toArray, List.set_cons_zero, List.set_cons_succ]
        have r0 := keepc BU5 x0
        have r1 := keepc BU5 x1
        have r2 := keepc BU5 x2
        have r3 := keepc BU5 x3
        have r4 := keepc BU5 x4
        have r5 := keepc BU5 x5
        have s0 := keepc BU5 y0
        have s1 := keepc BU5 y1
        have s2 := keepc BU5 y2
        have s3 := keepc BU5 y3
        have s4 := keepc BU5 y4
        have s5 := keepc BU5 y5
        have HB5 : Aside (BrdAt U5 (.agg #[.int .i64 B.eye, .int .i64 B.bull, .slice p1 B.rings.length q1, .slice p2 B.lines.length q2, .slice p3 B.nums.length q3, .int .i64 B.wire]) B) := HB4.out.below BU5
        have HT5 : Aside (BrdAt U5 (.agg #[.int .i64 B.eye, .int .i64 B.bull, .slice (some ⟨h4, 0, none⟩) B.rings.length i4, .slice (some ⟨h5, 0, none⟩) B.lines.length i5, .slice (some ⟨h6, 0, none⟩) B.nums.length i6, .int .i64 B.wire]) (turnB' B K)) := HT4.out.below BU5
        have BW5 : Aside (Below w.heap.size w U5) := BW4.out.trans (BU5.mono BW4.out.size)
        clear HB4 HT4 BW4 x0 x1 x2 x3 x4 x5 y0 y1 y2 y3 y4 y5 y6 y7 BU5
        have hq : A / 100 = C / 100 := by rcases HTB.out with ⟨e, _⟩ | ⟨_, _, e, _⟩; rw [e]; exact e
        obtain ⟨⟨hA0, hA1⟩, hC0, hC1⟩ := HAB.out
        have HD : Aside ((A = 0 ∨ A % 100 = 25) → A = C) := by
          show _ → _
          intro h
          rcases HTB.out with ⟨e, _⟩ | ⟨h2, h3, _⟩
          · exact e.symm
          · omega
        have HN : Aside (¬ (A = 0 ∨ A % 100 = 25) → ∀ i, i < B.nums.length → B.nums[i]?.getD 0 = A % 100 → B.nums[(i + B.nums.length - K) % B.nums.length]?.getD 0 = C % 100) := by
          show _ → _
          intro h
          rcases HTB.out with ⟨e, h2⟩ | ⟨_, _, _, hall⟩
          · exact absurd h2 h
          · exact hall
        clear HTB
        go_upto_region 9 with (fail)
        go_cut [90] (fun s90 wc => s90 = .bool (decide (A = 0 ∨ A % 100 = 25)) ∧ U5 = wc)
        case first =>
          by_cases h0 : A = 0
          · have h0b : (A == 0) = true := by simp [h0]
            go_wp2_with fail
            go_meet
            exact ⟨by simp [h0], rfl⟩
          · have h0b : (A == 0) = false := by simp [h0]
            by_cases h25 : A % 100 = 25
            · have h25b : (A % 100 == 25) = true := by simp [h25]
              go_wp2_with fail
              go_meet
              exact ⟨by simp [h25], rfl⟩
            · have h25b : (A % 100 == 25) = false := by simp [h25]
              go_wp2_with fail
              go_meet
              exact ⟨by simp [h0, h25], rfl⟩
        case rest =>
          obtain ⟨rfl, rfl⟩ := hcut
          go_upto_if 90 with (fail)
          obtain ⟨xr5, xl5, xn5, e5, _, _, hn5⟩ := HB5.out
          simp only [Value.agg.injEq, Array.mk.injEq, List.cons.injEq, and_true, true_and] at e5
          obtain ⟨ex5, ey5, e5⟩ := e5
          subst ex5 ey5 e5
          obtain ⟨a5, c5, e6, _, hn6⟩ := hn5
          simp only [Value.slice.injEq] at e6
          obtain ⟨rfl, _, rfl⟩ := e6
          obtain ⟨b3, o3, rfl, _, hn7⟩ := hn6 (List.length_pos_iff.1 hnpos)
          have HNC : Aside (∀ j, j < B.nums.length → U5.cell? ⟨b3, o3 + j, none⟩ = some (.int .i64 (B.nums[j]?.getD 0))) := by
            intro j hj
            have := hn7 j _ (List.getElem?_eq_getElem hj) 0 _ rfl
            rw [Nat.mul_one, Nat.add_zero] at this
            rw [this, List.getElem?_eq_getElem hj]; rfl
          clear hn6 hn7
          go_cut [19] (fun s19 wc => Aside (Below U5.heap.size U5 wc))
          case first =>
            by_cases hc : A = 0 ∨ A % 100 = 25
            · obtain rfl := HD.out hc
              rw [decide_eq_true hc]
              go_wp2_with fail
              go_meet
              exact Below.refl _ _
            · have HN2 := HN.out hc
              have HN3 : Aside _ := HN2
              rw [decide_eq_false hc]
              clear hc HN2
              go_wp2_with fail
              go_loopg [19] B.nums.length (fun gg i wr => ∃ j : Nat, j ≤ B.nums.length ∧ B.nums.length - j ≤ gg ∧ i = .int .i64 j ∧ Aside (Below U5.heap.size U5 wr))
              case atStart => exact ⟨0, Nat.zero_le _, by omega, rfl, Below.refl _ _⟩
              case round =>
                obtain ⟨j, hj, hg, rfl, BJ⟩ := hrel
                by_cases hlt : j < B.nums.length
                · have hltz : (j : Int) < (B.nums.length : Int) := by omega
                  obtain ⟨qn, hqn⟩ : ∃ qn, (j + B.nums.length - K) % B.nums.length = qn := ⟨_, rfl⟩
                  have hql : qn < B.nums.length := by rw [← hqn]; exact Nat.mod_lt _ hnpos
                  have hqz : ((j : Int) + (B.nums.length : Int) - (K : Int)) % (B.nums.length : Int) = (qn : Int) := by
                    rw [show (j : Int) + (B.nums.length : Int) - (K : Int) = ((j + B.nums.length - K : Nat) : Int) by omega, ← hqn]
                    exact (Int.natCast_emod _ _).symm
                  have hqt : ((j : Int) + (B.nums.length : Int) - (K : Int)).tmod (B.nums.length : Int) = (qn : Int) := by
                    rw [Int.tmod_eq_emod_of_nonneg (by omega)]; exact hqz
                  have hwr1 : IntKind.i64.wrap ((j : Int) + (B.nums.length : Int)) = (j : Int) + (B.nums.length : Int) := IntWalk.i64_in _ (by omega)
                  have hwr2 : IntKind.i64.wrap ((j : Int) + (B.nums.length : Int) - (K : Int)) = (j : Int) + (B.nums.length : Int) - (K : Int) := IntWalk.i64_in _ (by omega)
                  have hnzb : ¬ B.nums = [] := List.length_pos_iff.1 hnpos
                  have hq0 : 0 ≤ (j : Int) + (B.nums.length : Int) - (K : Int) := by omega
                  have k1 := keepc BJ.out (HNC.out j hlt)
                  have k2 := keepc BJ.out (HNC.out qn hql)
                  have k3 := keepc BJ.out s4
                  obtain ⟨xj, hxj⟩ : ∃ xj, B.nums[j]?.getD 0 = xj := ⟨_, rfl⟩
                  obtain ⟨xq, hxq⟩ : ∃ xq, B.nums[qn]?.getD 0 = xq := ⟨_, rfl⟩
                  rw [hxj] at k1
                  rw [hxq] at k2
                  have HQ := HN3.out j hlt
                  rw [hqn, hxj, hxq] at HQ
                  have HQ2 : Aside _ := HQ
                  clear HQ hxj hxq
                  have MK : Aside (∀ w', Below wr.heap.size wr w' → (Below wr.heap.size wr w' ∧ w'.cell? ⟨g7, 4, none⟩ = some (.slice (some ⟨b3, o3, none⟩) B.nums.length q3) ∧ w'.cell? ⟨b3, o3 + j, none⟩ = some (.int .i64 xj) ∧ w'.cell? ⟨b3, o3 + qn, none⟩ = some (.int .i64 xq))) := fun w' hB => ⟨hB, keepc hB k3, keepc hB k1, keepc hB k2⟩
                  clear hqn
                  go_upto_region 15 with (fail)
                  by_cases he : xj = A % 100
                  · have heb : (xj == A.tmod 100) = true := by rw [Int.tmod_eq_emod_of_nonneg hA0]; simp [he]
                    have hcb2 : (xq != C.tmod 100) = false := by rw [Int.tmod_eq_emod_of_nonneg hC0]; simp [HQ2.out he]
                    clear he
                    refine region_class (fun w' => Below wr.heap.size wr w' ∧ w'.cell? ⟨g7, 4, none⟩ = some (.slice (some ⟨b3, o3, none⟩) B.nums.length q3) ∧ w'.cell? ⟨b3, o3 + j, none⟩ = some (.int .i64 xj) ∧ w'.cell? ⟨b3, o3 + qn, none⟩ = some (.int .i64 xq)) (by kernel_rfl) (by kernel_rfl) (MK.out _ ((Below.refl _ _).drew)) ?_
                    iterate 24 (first | go_big_quiet_skip | (go_big_quiet_want; unfold Oper.quiet; apply Exists.intro; refine ⟨fun W hW => ?_, ?_⟩; (go_split_ands; unfold Oper.quietAt; go_simp; first | rfl | exact ⟨rfl, rfl⟩ | skip); go_big_quiet_on; (try simp only [Act.put, List.setIfInBounds_toArray, List.set_cons_zero, List.set_cons_succ])))
                    refine wpQuiet_nil ?_
                    intro W hW
                    obtain ⟨hBW, _⟩ := hW
                    go_wp2_with fail
                    go_roundg (B.nums.length - (j + 1))
                    case measure => omega
                    case rel => exact ⟨j + 1, by omega, by omega, by go_num, BJ.out.trans (hBW.mono BJ.out.size)⟩
                  · have heb : (xj == A.tmod 100) = false := by rw [Int.tmod_eq_emod_of_nonneg hA0]; simp [he]
                    clear he
                    refine region_class (fun w' => Below wr.heap.size wr w' ∧ w'.cell? ⟨g7, 4, none⟩ = some (.slice (some ⟨b3, o3, none⟩) B.nums.length q3) ∧ w'.cell? ⟨b3, o3 + j, none⟩ = some (.int .i64 xj) ∧ w'.cell? ⟨b3, o3 + qn, none⟩ = some (.int .i64 xq)) (by kernel_rfl) (by kernel_rfl) (MK.out _ ((Below.refl _ _).drew)) ?_
                    iterate 24 (first | go_big_quiet_skip | (go_big_quiet_want; unfold Oper.quiet; apply Exists.intro; refine ⟨fun W hW => ?_, ?_⟩; (go_split_ands; unfold Oper.quietAt; go_simp; first | rfl | exact ⟨rfl, rfl⟩ | skip); go_big_quiet_on; (try simp only [Act.put, List.setIfInBounds_toArray, List.set_cons_zero, List.set_cons_succ])))
                    refine wpQuiet_nil ?_
                    intro W hW
                    obtain ⟨hBW, _⟩ := hW
                    go_wp2_with fail
                    go_roundg (B.nums.length - (j + 1))
                    case measure => omega
                    case rel => exact ⟨j + 1, by omega, by omega, by go_num, BJ.out.trans (hBW.mono BJ.out.size)⟩
                · have hje : j = B.nums.length := by omega
                  subst hje
                  have hltz : ¬ (B.nums.length : Int) < (B.nums.length : Int) := by omega
                  go_wp2_with fail
                  go_meet
                  exact BJ.out
          case rest =>
            have BC : Below U5.heap.size U5 wc := hcut.out
            have a0' := keepc BC r0
            have a1' := keepc BC r1
            have a2' := keepc BC r2
            have a3' := keepc BC r3
            have a4' := keepc BC r4
            have a5' := keepc BC r5
            have b0' := keepc BC s0
            have b1' := keepc BC s1
            have b2' := keepc BC s2
            have b3' := keepc BC s3
            have b4' := keepc BC s4
            have b5' := keepc BC s5
            have HB6 : Aside (BrdAt wc (.agg #[.int .i64 B.eye, .int .i64 B.bull, .slice p1 B.rings.length q1, .slice p2 B.lines.length q2, .slice (some ⟨b3, o3, none⟩) B.nums.length q3, .int .i64 B.wire]) B) := HB5.out.below BC
            have HT6 : Aside (BrdAt wc (.agg #[.int .i64 B.eye, .int .i64 B.bull, .slice (some ⟨h4, 0, none⟩) B.rings.length i4, .slice (some ⟨h5, 0, none⟩) B.lines.length i5, .slice (some ⟨h6, 0, none⟩) B.nums.length i6, .int .i64 B.wire]) (turnB' B K)) := HT5.out.below BC
            have BW6 : Aside (Below w.heap.size w wc) := BW5.out.trans (BC.mono BW5.out.size)
            have gl7 : g7 < wc.heap.size := World.block_lt_of_cell? wc _ b0'
            obtain ⟨K2, hK2⟩ : ∃ K2, (B.nums.length - K) % B.nums.length = K2 := ⟨_, rfl⟩
            have hK2n : K2 < B.nums.length := by rw [← hK2]; exact Nat.mod_lt _ hnpos
            have hback : turnB' (turnB' B K) K2 = B := by
              unfold turnB'
              simp only []
              rw [← hK2, rot_back B.nums K hKn]
            have hnn2 : ¬ B.nums = [] := List.length_pos_iff.1 hnpos
            have HTK : Aside (∀ (U : World) (v : Value), BrdAt U v (turnB' B K) → Calls Try.prog 16 #[v, .int .i64 K2] U (fun e w' => ∃ v', e = .returned (.tuple #[v', .int .i64 0]) ∧ BrdAt w' v' B ∧ Below U.heap.size U w')) := by
              intro U v h
              refine (Turn_ok v (turnB' B K) K2 U h HCT.out (by show K2 < (rot B.nums K).length; rw [rot_length]; exact hK2n)).mono ?_
              rintro e w' ⟨h4, i4, h5, i5, h6, i6, rfl, hbr2, hb2⟩
              refine ⟨_, rfl, ?_, hb2⟩
              have : turnB (turnB' B K) K2 = B := hback
              rw [this] at hbr2
              exact hbr2
            have hKz : ((B.nums.length : Int) - (K : Int)).tmod (B.nums.length : Int) = (K2 : Int) := by
              rw [Int.tmod_eq_emod_of_nonneg (by omega), show (B.nums.length : Int) - (K : Int) = ((B.nums.length - K : Nat) : Int) by omega, ← hK2]
              exact (Int.natCast_emod _ _).symm
            have hKw : IntKind.i64.wrap ((B.nums.length : Int) - (K : Int)) = (B.nums.length : Int) - (K : Int) := IntWalk.i64_in _ (by omega)
            have HHZ : Aside (((B.nums.length : Int) - (K : Int)).tmod (B.nums.length : Int) = (K2 : Int) ∧ IntKind.i64.wrap ((B.nums.length : Int) - (K : Int)) = (B.nums.length : Int) - (K : Int) ∧ ¬ B.nums = []) := ⟨hKz, hKw, hnn2⟩
            clear hback hK2 hKz hKw hnn2 HB5 HT5 BW5 r0 r1 r2 r3 r4 r5 s0 s1 s2 s3 s4 s5 BC HD HN HNC
            go_upto_region 17 with (fail)
            refine region_laidS (fun _ => 20) (StepR 12 wc.heap.size B) (fl := 10) [true, true, true, true, true, true, true, true, true, true, true, true, true, true] 0 (fun listed => backD wc.heap.size (.agg #[.int .i64 B.eye, .int .i64 B.bull, .slice (some ⟨h4, 0, none⟩) B.rings.length i4, .slice (some ⟨h5, 0, none⟩) B.lines.length i5, .slice (some ⟨h6, 0, none⟩) B.nums.length i6, .int .i64 B.wire]) B (turnB' B K) B.nums.length K K2 (listed.getD 12 true)) (fun w' => Below wc.heap.size wc w') (by kernel_rfl) rfl (by show layableS _ _ 144 _ 10 = true; decide +kernel) rfl ((Below.refl _ _).drew) (backD_mono _ _ _ _ _ _ _ HCB.out HCT.out) ?step7 ?rest7
            case step7 =>
              intro i o_ listed ac W hA ho hL he hli
              have ha11 : ac.tmps.getD 11 undef = .pointer (some ⟨gT, 0, none⟩) := hL.kept 11 (by decide +kernel)
              have ha9 : ac.tmps.getD 9 undef = .int .i64 B.nums.length := hL.kept 9 (by decide +kernel)
              have ha10 : ac.tmps.getD 10 undef = .int .i64 K := hL.kept 10 (by decide +kernel)
              have CL : ∀ W', Below W.heap.size W W' → Below wc.heap.size wc W' := fun W' h => hL.cls.trans (h.mono hL.cls.size)
              have k0 := keepc hL.cls a0'
              have k1 := keepc hL.cls a1'
              have k2 := keepc hL.cls a2'
              have k3 := keepc hL.cls a3'
              have k4 := keepc hL.cls a4'
              have k5 := keepc hL.cls a5'
              match i, hA, ho with
              | 0, _, ho =>
                cases ho
                refine wpOp_plain rfl rfl ?_
                unfold Oper.wp
                go_simp
                exact ⟨_, rfl, Below.refl _ _, CL _ (Below.refl _ _), rfl⟩
              | 1, _, ho =>
                cases ho
                have dd : ac.tmps.getD 124 undef = .agg #[.int .i64 B.eye, .int .i64 B.bull, .slice (some ⟨h4, 0, none⟩) B.rings.length i4, .slice (some ⟨h5, 0, none⟩) B.lines.length i5, .slice (some ⟨h6, 0, none⟩) B.nums.length i6, .int .i64 B.wire] := hL.new 0 _ 124 rfl (he ⟨0, .data⟩ (by simp) rfl) rfl
                have x := HOWN.out W _ (turnB' B K) HCT.out (HT6.out.below hL.cls)
                unfold OwnOk at x
                refine wpOp_plain rfl rfl ?_
                unfold Oper.wp
                go_simp
                refine x.mono ?_
                rintro e w' ⟨_, _, _, _, _, _, rfl, hbr, hBn⟩
                exact ⟨_, rfl, hBn, CL _ hBn, hbr⟩
              | 2, _, ho =>
                cases ho
                refine wpOp_plain rfl rfl ?_
                unfold Oper.wp
                go_simp
                exact ⟨_, rfl, Below.refl _ _, CL _ (Below.refl _ _), rfl⟩
              | 3, _, ho =>
                cases ho
                refine wpOp_plain rfl rfl ?_
                unfold Oper.wp
                go_simp
                exact ⟨_, rfl, Below.refl _ _, CL _ (Below.refl _ _), rfl⟩
              | 4, _, ho =>
                cases ho
                have d1 : ac.tmps.getD 126 undef = .int .i64 B.nums.length := hL.new 2 _ 126 rfl (he ⟨2, .data⟩ (by simp) rfl) rfl
                have d2 : ac.tmps.getD 127 undef = .int .i64 K := hL.new 3 _ 127 rfl (he ⟨3, .data⟩ (by simp) rfl) rfl
                obtain ⟨hz1, hz2, hz3⟩ := HHZ.out
                refine wpOp_plain rfl rfl ?_
                unfold Oper.wp
                go_simp
                exact ⟨_, rfl, Below.refl _ _, CL _ (Below.refl _ _), rfl⟩
              | 5, _, ho =>
                cases ho
                refine wpOp_plain rfl rfl ?_
                unfold Oper.wp
                go_simp
                exact ⟨_, rfl, Below.refl _ _, CL _ (Below.refl _ _), rfl⟩
              | 6, _, ho =>
                cases ho
                have d1 : ac.tmps.getD 128 undef = .int .i64 (B.nums.length - K) := hL.new 4 _ 128 rfl (he ⟨4, .data⟩ (by simp) rfl) rfl
                have d2 : ac.tmps.getD 129 undef = .int .i64 B.nums.length := hL.new 5 _ 129 rfl (he ⟨5, .data⟩ (by simp) rfl) rfl
                obtain ⟨hz1, hz2, hz3⟩ := HHZ.out
                refine wpOp_plain rfl rfl ?_
                unfold Oper.wp
                go_simp
                exact ⟨_, rfl, Below.refl _ _, CL _ (Below.refl _ _), rfl⟩
              | 7, _, ho =>
                cases ho
                have hb : BrdAt W (ac.tmps.getD 125 undef) (turnB' B K) := hL.new 1 _ 125 rfl (he ⟨1, .data⟩ (by simp) rfl) rfl
                have d1 : ac.tmps.getD 130 undef = .int .i64 K2 := hL.new 6 _ 130 rfl (he ⟨6, .data⟩ (by simp) rfl) rfl
                obtain ⟨xo, hxo⟩ : ∃ x, ac.tmps.getD 125 undef = x := ⟨_, rfl⟩
                rw [hxo] at hb
                have x := HTK.out W xo hb
                refine wpOp_plain rfl rfl ?_
                unfold Oper.wp
                go_simp
                refine x.mono ?_
                rintro e w' ⟨v', rfl, hbr, hBn⟩
                exact ⟨_, rfl, hBn, CL _ hBn, ⟨_, rfl, hbr⟩⟩
              | 8, _, ho =>
                cases ho
                obtain ⟨v', d1, hbr⟩ : ∃ v, ac.tmps.getD 131 undef = .tuple #[v, .int .i64 0] ∧ BrdAt W v B := hL.new 7 _ 131 rfl (he ⟨7, .data⟩ (by simp) rfl) rfl
                refine wpOp_plain rfl rfl ?_
                unfold Oper.wp
                go_simp
                exact ⟨_, rfl, Below.refl _ _, CL _ (Below.refl _ _), ⟨_, rfl, hbr⟩⟩
              | 9, _, ho =>
                cases ho
                obtain ⟨v', d1, hbr⟩ : ∃ v, ac.tmps.getD 123 undef = .tuple #[v, .int .i64 0] ∧ BrdAt W v B := hL.new 8 _ 123 rfl (he ⟨8, .data⟩ (by simp) rfl) rfl
                refine wpOp_plain rfl rfl ?_
                unfold Oper.wp
                go_simp
                exact ⟨_, rfl, Below.refl _ _, CL _ (Below.refl _ _), hbr⟩
              | 10, _, ho =>
                cases ho
                obtain ⟨v', d1, hbr⟩ : ∃ v, ac.tmps.getD 123 undef = .tuple #[v, .int .i64 0] ∧ BrdAt W v B := hL.new 8 _ 123 rfl (he ⟨8, .data⟩ (by simp) rfl) rfl
                refine wpOp_plain rfl rfl ?_
                unfold Oper.wp
                go_simp
                exact ⟨_, rfl, Below.refl _ _, CL _ (Below.refl _ _), rfl⟩
              | 11, _, ho =>
                cases ho
                refine wpOp_plain rfl rfl ?_
                unfold Oper.wp
                go_simp
                exact ⟨_, rfl, (Below.refl _ _).alloc (Nat.le_refl _) _, CL _ ((Below.refl _ _).alloc (Nat.le_refl _) _), ⟨fun _ => ⟨_, rfl, hL.cls.size, World.alloc_heap_new _ _⟩, ⟨_, rfl, hL.cls.size, .inl (World.alloc_heap_new _ _)⟩⟩⟩
              | 12, _, ho =>
                cases ho
                have h11 : (listed.getD 12 true = false → ZeroP wc.heap.size (ac.tmps.getD 20 undef) W) ∧ PtrB wc.heap.size B (ac.tmps.getD 20 undef) W := hL.new 11 _ 20 rfl (he ⟨11, .data⟩ (by simp) rfl) rfl
                obtain ⟨g, eg, hgN, hgz⟩ := h11.1 hli
                have hb9 : BrdAt W (ac.tmps.getD 132 undef) B := hL.new 9 _ 132 rfl (he ⟨9, .data⟩ (by simp) rfl) rfl
                obtain ⟨ur, ul, un, eu, hh1, hh2, hh3⟩ := hb9
                have hbr : BrdAt W (.agg #[.int .i64 B.eye, .int .i64 B.bull, ur, ul, un, .int .i64 B.wire]) B := ⟨_, _, _, rfl, hh1, hh2, hh3⟩
                have HFS : Aside _ := fill_store HCB.out hbr hgz hgN rfl
                have HCS : Aside _ := ((((((hL.cls.setCell (p := ⟨g, 0, none⟩) hgN (.int .i64 B.eye)).setCell (p := ⟨g, 1, none⟩) hgN (.int .i64 B.bull)).setCell (p := ⟨g, 2, none⟩) hgN ur).setCell (p := ⟨g, 3, none⟩) hgN ul).setCell (p := ⟨g, 4, none⟩) hgN un).setCell (p := ⟨g, 5, none⟩) hgN (.int .i64 B.wire))
                have z0 : W.cell? ⟨g, 0, none⟩ = some (.int .i64 0) := by rw [cell_of_row W g 0 _ _ _ hgz]; rfl
                have z1 : W.cell? ⟨g, 1, none⟩ = some (.int .i64 0) := by rw [cell_of_row W g 1 _ _ _ hgz]; rfl
                have z2 : W.cell? ⟨g, 2, none⟩ = some (.slice none 0 0) := by rw [cell_of_row W g 2 _ _ _ hgz]; rfl
                have z3 : W.cell? ⟨g, 3, none⟩ = some (.slice none 0 0) := by rw [cell_of_row W g 3 _ _ _ hgz]; rfl
                have z4 : W.cell? ⟨g, 4, none⟩ = some (.slice none 0 0) := by rw [cell_of_row W g 4 _ _ _ hgz]; rfl
                have z5 : W.cell? ⟨g, 5, none⟩ = some (.int .i64 0) := by rw [cell_of_row W g 5 _ _ _ hgz]; rfl
                have zf : ∀ i, W.frozen? ⟨g, i, none⟩ = false := by intro i; simp [World.frozen?, hgz, zB]
                obtain ⟨ra, rc, rfl, _, _⟩ := hh1
                obtain ⟨la, lc, rfl, _, _⟩ := hh2
                obtain ⟨na, nc, rfl, _, _⟩ := hh3
                clear hgz hbr k0 k1 k2 k3 k4 k5 h11
                refine wpOp_plain rfl rfl ?_
                unfold Oper.wp
                go_simp
                exact ⟨(by unfold StepR; rw [if_pos rfl]; exact HFS.out.1), HCS.out, ⟨g, rfl, hgN, HFS.out.2⟩⟩
              | 13, _, ho =>
                cases ho
                have d1 : ac.tmps.getD 133 undef = .int .i64 0 := hL.new 10 _ 133 rfl (he ⟨10, .data⟩ (by simp) rfl) rfl
                refine wpOp_plain rfl rfl ?_
                unfold Oper.wp
                go_simp
                exact ⟨_, rfl, Below.refl _ _, CL _ (Below.refl _ _), rfl⟩
              | n + 14, hA, _ => simp at hA
            case rest7 =>
              intro ac Wf hL
              have e124 : ac.tmps.getD 124 undef = .agg #[.int .i64 B.eye, .int .i64 B.bull, .slice (some ⟨h4, 0, none⟩) B.rings.length i4, .slice (some ⟨h5, 0, none⟩) B.lines.length i5, .slice (some ⟨h6, 0, none⟩) B.nums.length i6, .int .i64 B.wire] := hL.new 0 _ 124 rfl rfl rfl
              obtain ⟨xa, e125⟩ : ∃ x, ac.tmps.getD 125 undef = x := ⟨_, rfl⟩
              have e126 : ac.tmps.getD 126 undef = .int .i64 B.nums.length := hL.new 2 _ 126 rfl rfl rfl
              have e127 : ac.tmps.getD 127 undef = .int .i64 K := hL.new 3 _ 127 rfl rfl rfl
              have e128 : ac.tmps.getD 128 undef = .int .i64 (B.nums.length - K) := hL.new 4 _ 128 rfl rfl rfl
              have e129 : ac.tmps.getD 129 undef = .int .i64 B.nums.length := hL.new 5 _ 129 rfl rfl rfl
              have e130 : ac.tmps.getD 130 undef = .int .i64 K2 := hL.new 6 _ 130 rfl rfl rfl
              obtain ⟨x131, e131⟩ : ∃ x, ac.tmps.getD 131 undef = x := ⟨_, rfl⟩
              obtain ⟨x123, e123⟩ : ∃ x, ac.tmps.getD 123 undef = x := ⟨_, rfl⟩
              obtain ⟨x132, e132⟩ : ∃ x, ac.tmps.getD 132 undef = x := ⟨_, rfl⟩
              have e133 : ac.tmps.getD 133 undef = .int .i64 0 := hL.new 10 _ 133 rfl rfl rfl
              have e12 : ac.tmps.getD 12 undef = .int .i64 0 := hL.new 13 _ 12 rfl rfl rfl
              obtain ⟨g20, e20, hgN, ur, ul, un, hbr20, hg20⟩ : FullP wc.heap.size B (ac.tmps.getD 20 undef) Wf := hL.newN 12 _ rfl rfl rfl
              have es := hL.sets [124, 125, 126, 127, 128, 129, 130, 131, 123, 132, 133, 20, 12] (by decide +kernel)
              rw [List.foldl_cons, List.foldl_cons, List.foldl_cons, List.foldl_cons, List.foldl_cons, List.foldl_cons, List.foldl_cons, List.foldl_cons, List.foldl_cons, List.foldl_cons, List.foldl_cons, List.foldl_cons, List.foldl_cons, List.foldl_nil, e124, e125, e126, e127, e128, e129, e130, e131, e123, e132, e133, e20, e12] at es
              have BWf : Below wc.heap.size wc Wf := hL.cls
              rw [es]
              clear es hL e124 e125 e126 e127 e128 e129 e130 e131 e123 e132 e133 e20 e12
              refine wpAny_done (by decide +kernel) ?_ _
              simp only [List.setIfInBounds_toArray, List.set_cons_zero, List.set_cons_succ]
              have c0 : Wf.cell? ⟨g20, 0, none⟩ = some (.int .i64 B.eye) := by rw [cell_of_row Wf g20 0 _ _ _ hg20]; rfl
              have c1 : Wf.cell? ⟨g20, 1, none⟩ = some (.int .i64 B.bull) := by rw [cell_of_row Wf g20 1 _ _ _ hg20]; rfl
              have c2 : Wf.cell? ⟨g20, 2, none⟩ = some (ur) := by rw [cell_of_row Wf g20 2 _ _ _ hg20]; rfl
              have c3 : Wf.cell? ⟨g20, 3, none⟩ = some (ul) := by rw [cell_of_row Wf g20 3 _ _ _ hg20]; rfl
              have c4 : Wf.cell? ⟨g20, 4, none⟩ = some (un) := by rw [cell_of_row Wf g20 4 _ _ _ hg20]; rfl
              have c5 : Wf.cell? ⟨g20, 5, none⟩ = some (.int .i64 B.wire) := by rw [cell_of_row Wf g20 5 _ _ _ hg20]; rfl
              have d0 := keepc BWf b0'
              have d1 := keepc BWf b1'
              have d2 := keepc BWf b2'
              have d3 := keepc BWf b3'
              have d4 := keepc BWf b4'
              have d5 := keepc BWf b5'
              have HX : Aside (BrdAt Wf (.agg #[.int .i64 B.eye, .int .i64 B.bull, ur, ul, un, .int .i64 B.wire]) B) := hbr20
              have HY : Aside (BrdAt Wf (.agg #[.int .i64 B.eye, .int .i64 B.bull, .slice p1 B.rings.length q1, .slice p2 B.lines.length q2, .slice (some ⟨b3, o3, none⟩) B.nums.length q3, .int .i64 B.wire]) B) := HB6.out.below BWf
              have HE : Aside (Below w.heap.size w Wf) := BW6.out.trans (BWf.mono BW6.out.size)
              clear hbr20 hg20 BWf HB6 HT6 BW6 HTK HOWN b0' b1' b2' b3' b4' b5' a0' a1' a2' a3' a4' a5'
              go_wp2_with (first | (go_at_call 17; (with_reducible refine (same_eq _ _ B _ HX.out HY.out).mono ?_); rintro e w8 ⟨rfl, hb8⟩) | (go_at_call 14; (with_reducible refine (known_any _).mono ?_); rintro e w9 ⟨rfl, hb9⟩))
              go_ret
              exact ⟨rfl, HE.out.trans ((hb8.mono HE.out.size).trans (hb9.mono (Nat.le_trans HE.out.size hb8.size)))⟩
end Go.Proofs.Ytifabfbnjnjhlaa
