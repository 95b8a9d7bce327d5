/- Leg: parts Ag. -/
import Derived.Test.YtnhjoebdmmelaaaMba
set_option linter.unusedVariables false
set_option linter.unusedSimpArgs false
namespace Go.Proofs.Ytnhjoebdmmelaaa
section
open Go.RowKit Go.Maps Go.Sort Go.Shelf Go.Deep
set_option maxRecDepth 100000 in
set_option maxHeartbeats 8000000 in
theorem known_any (w : World) : Calls Try.prog 13 #[] w (Ret (.bool true) w) := by
 go_enter Try.func13, Try.ntmps13
 go_wp2_with fail
 refine region_laidK RT (fl := 10) [true, true, true, true, true, true, true, true, true, true, true, true, true] 0 (fun (i : Nat) (x : Value) (ww : World) => (match i with | 0 => TwoAt ww false x | 1 => ∃ b, x = .slice (some ⟨b, 0, none⟩) 2 2 ∧ ww.heap[b]? = some (.cells #[.int .i64 101, .int .i64 0, .int .i64 1, .int .i64 101, .int .i64 0, .int .i64 1] 24 (0, 0)) | 2 => ∃ b, x = .pointer (some ⟨b, 0, none⟩) ∧ ww.heap[b]? = some (.cells #[.int .i64 101, .int .i64 0, .int .i64 1, .int .i64 101, .int .i64 0, .int .i64 1] 24 (0, 0)) | 3 => x = .agg #[.int .i64 101, .int .i64 0, .int .i64 1] | 4 => ∃ b, x = .slice (some ⟨b, 0, none⟩) 2 2 ∧ ww.heap[b]? = some (.cells #[.int .i64 320, .int .i64 220] 34 (0, 0)) | 5 => ∃ b, x = .slice (some ⟨b, 0, none⟩) 2 2 ∧ ww.heap[b]? = some (.cells #[.int .i64 320, .int .i64 220] 34 (0, 0)) | 6 => x = .tuple #[.agg #[.int .i64 101, .int .i64 0, .int .i64 2, .bool true, .bool true, .bool false], .int .i64 0] | 7 => x = .tuple #[.agg #[.int .i64 101, .int .i64 0, .int .i64 2, .bool true, .bool true, .bool false], .int .i64 0] | 8 => x = .agg #[.int .i64 101, .int .i64 0, .int .i64 2, .bool true, .bool true, .bool false] | 9 => x = .int .i64 0 | 10 => True | 11 => True | 12 => x = .int .i64 0 | _ => True : Prop)) (Cl w [(⟨10, 11, 1, .cells #[.int .i64 0, .int .i64 0, .int .i64 0, .bool false, .bool false, .bool false] 30 (0, 0), .cells #[.int .i64 101, .int .i64 0, .int .i64 2, .bool true, .bool true, .bool false] 30 (0, 0)⟩ : AS)]) (by kernel_rfl) rfl (by show layableK _ 223 _ 10 = true; decide +kernel) rfl (Cl.start _ _ _ _) ?mono1 ?step1 ?rest1
 case mono1 =>
  intro i x ww ww' hB h
  match i, h with
  | 0, h => exact (by obtain ⟨b, hx, hb⟩ := h; exact ⟨b, hx, hB.keep (by decide) hb⟩)
  | 1, h => exact (by obtain ⟨b, hx, hb⟩ := h; exact ⟨b, hx, hB.keep (by decide) hb⟩)
  | 2, h => exact (by obtain ⟨b, hx, hb⟩ := h; exact ⟨b, hx, hB.keep (by decide) hb⟩)
  | 3, h => exact h
  | 4, h => exact (by obtain ⟨b, hx, hb⟩ := h; exact ⟨b, hx, hB.keep (by decide) hb⟩)
  | 5, h => exact (by obtain ⟨b, hx, hb⟩ := h; exact ⟨b, hx, hB.keep (by decide) hb⟩)
  | 6, h => exact h
  | 7, h => exact h
  | 8, h => exact h
  | 9, h => exact h
  | 10, h => exact h
  | 11, h => exact h
  | 12, h => exact h
  | n + 13, h => exact h
 case step1 =>
  intro i o_ listed ac W hA ho hL he hcl hli hsz
  have CL : ∀ W', Below W.heap.size W W' → Below w.heap.size w W' := fun W' h => hL.cls.1.trans (h.mono hL.cls.1.size)
  match i, hA, ho with
  | 0, _, ho =>
   cases ho
   have x := two_any false W
   refine wpOp_plain rfl rfl ?_
   unfold Oper.wp
   go_simp
   refine x.mono ?_
   rintro e w' ⟨hBn, x, rfl, hT⟩
   exact ⟨_, rfl, RT.of_below hBn, Cl.other (i := 0) (t := 20) hL.cls rfl hBn, hT⟩
  | 1, _, ho =>
   cases ho
   obtain ⟨x0, hx0⟩ : ∃ x, ac.tmps.getD 20 undef = x := ⟨_, rfl⟩
   have d0 := hL.new 0 _ 20 rfl (he ⟨0, .data⟩ (by simp) rfl) rfl
   rw [hx0] at d0
   obtain ⟨bb, rfl, hbb⟩ := d0
   refine wpOp_plain rfl rfl ?_
   unfold Oper.wp
   go_simp
   first | exact ⟨_, rfl, RT.refl _, Cl.other (i := 1) (t := 21) hL.cls rfl (Below.refl _ _), bb, rfl, hbb⟩ | exact ⟨RT.refl _, Cl.other (i := 1) (t := 21) hL.cls rfl (Below.refl _ _), bb, rfl, hbb⟩
  | 2, _, ho =>
   cases ho
   obtain ⟨x1, hx1⟩ : ∃ x, ac.tmps.getD 21 undef = x := ⟨_, rfl⟩
   have d1 := hL.new 1 _ 21 rfl (he ⟨1, .data⟩ (by simp) rfl) rfl
   rw [hx1] at d1
   obtain ⟨bb, rfl, hbb⟩ := d1
   refine wpOp_plain rfl rfl ?_
   unfold Oper.wp
   go_simp
   first | exact ⟨_, rfl, RT.refl _, Cl.other (i := 2) (t := 22) hL.cls rfl (Below.refl _ _), bb, rfl, hbb⟩ | exact ⟨RT.refl _, Cl.other (i := 2) (t := 22) hL.cls rfl (Below.refl _ _), bb, rfl, hbb⟩
  | 3, _, ho =>
   cases ho
   obtain ⟨x2, hx2⟩ : ∃ x, ac.tmps.getD 22 undef = x := ⟨_, rfl⟩
   have d2 := hL.new 2 _ 22 rfl (he ⟨2, .data⟩ (by simp) rfl) rfl
   rw [hx2] at d2
   obtain ⟨bb, rfl, hbb⟩ := d2
   have kc0 := blk_cell hbb (i := 0) rfl
   have kc1 := blk_cell hbb (i := 1) rfl
   have kc2 := blk_cell hbb (i := 2) rfl
   refine wpOp_plain rfl rfl ?_
   unfold Oper.wp
   go_simp
   first | exact ⟨RT.refl _, Cl.other (i := 3) (t := 23) hL.cls rfl (Below.refl _ _)⟩ | exact ⟨_, rfl, RT.refl _, Cl.other (i := 3) (t := 23) hL.cls rfl (Below.refl _ _), rfl⟩
  | 4, _, ho =>
   cases ho
   refine wpOp_plain rfl rfl ?_
   unfold Oper.wp
   go_simp
   have hBn : Below W.heap.size W (W.alloc (.cells #[.int .i64 320, .int .i64 220] 34)) := (Below.refl _ _).alloc (Nat.le_refl _) _
   first | exact ⟨_, rfl, RT.of_below hBn, Cl.other (i := 4) (t := 24) hL.cls rfl hBn, _, rfl, World.alloc_heap_new _ _⟩ | exact ⟨RT.of_below hBn, Cl.other (i := 4) (t := 24) hL.cls rfl hBn, _, rfl, World.alloc_heap_new _ _⟩
  | 5, _, ho =>
   cases ho
   obtain ⟨x4, hx4⟩ : ∃ x, ac.tmps.getD 24 undef = x := ⟨_, rfl⟩
   have d4 := hL.new 4 _ 24 rfl (he ⟨4, .data⟩ (by simp) rfl) rfl
   rw [hx4] at d4
   obtain ⟨bb, rfl, hbb⟩ := d4
   have x := beds_any (some ⟨bb, 0, none⟩) 2 2 W
   refine wpOp_plain rfl rfl ?_
   unfold Oper.wp
   go_simp
   refine x.mono ?_
   rintro e w' ⟨rfl, hBn⟩
   exact ⟨_, rfl, RT.of_below hBn, Cl.other (i := 5) (t := 25) hL.cls rfl hBn, bb, rfl, (hBn.block _ (Array.getElem?_eq_some_iff.1 hbb).1).trans hbb⟩
  | 6, _, ho =>
   cases ho
   have d3 : ac.tmps.getD 23 undef = .agg #[.int .i64 101, .int .i64 0, .int .i64 1] := hL.new 3 _ 23 rfl (he ⟨3, .data⟩ (by simp) rfl) rfl
   obtain ⟨x5, hx5⟩ : ∃ x, ac.tmps.getD 25 undef = x := ⟨_, rfl⟩
   have d5 := hL.new 5 _ 25 rfl (he ⟨5, .data⟩ (by simp) rfl) rfl
   rw [hx5] at d5
   obtain ⟨bb, rfl, hbb⟩ := d5
   have x := Visit_any (101, 0, 1) true 101 (.slice (some ⟨bb, 0, none⟩) 2 2) [320, 220] W (sl_blk (enc := eI) (xs := [320, 220]) (fun _ => rfl) (by decide) hbb 2) (by intro x hx; simp at hx; rcases hx with rfl | rfl <;> omega)
   rw [ex_visit1] at x
   unfold cntV visR thrV at x
   refine wpOp_plain rfl rfl ?_
   unfold Oper.wp
   go_simp
   refine x.mono ?_
   rintro e w' ⟨rfl, hBn⟩
   exact ⟨_, rfl, RT.of_below hBn, Cl.other (i := 6) (t := 26) hL.cls rfl hBn, rfl⟩
  | 7, _, ho =>
   cases ho
   have d6 : ac.tmps.getD 26 undef = .tuple #[.agg #[.int .i64 101, .int .i64 0, .int .i64 2, .bool true, .bool true, .bool false], .int .i64 0] := hL.new 6 _ 26 rfl (he ⟨6, .data⟩ (by simp) rfl) rfl
   refine wpOp_plain rfl rfl ?_
   unfold Oper.wp
   go_simp
   first | exact ⟨RT.refl _, Cl.other (i := 7) (t := 19) hL.cls rfl (Below.refl _ _)⟩ | exact ⟨_, rfl, RT.refl _, Cl.other (i := 7) (t := 19) hL.cls rfl (Below.refl _ _), rfl⟩
  | 8, _, ho =>
   cases ho
   have d7 : ac.tmps.getD 19 undef = .tuple #[.agg #[.int .i64 101, .int .i64 0, .int .i64 2, .bool true, .bool true, .bool false], .int .i64 0] := hL.new 7 _ 19 rfl (he ⟨7, .data⟩ (by simp) rfl) rfl
   refine wpOp_plain rfl rfl ?_
   unfold Oper.wp
   go_simp
   first | exact ⟨RT.refl _, Cl.other (i := 8) (t := 27) hL.cls rfl (Below.refl _ _)⟩ | exact ⟨_, rfl, RT.refl _, Cl.other (i := 8) (t := 27) hL.cls rfl (Below.refl _ _), rfl⟩
  | 9, _, ho =>
   cases ho
   have d7 : ac.tmps.getD 19 undef = .tuple #[.agg #[.int .i64 101, .int .i64 0, .int .i64 2, .bool true, .bool true, .bool false], .int .i64 0] := hL.new 7 _ 19 rfl (he ⟨7, .data⟩ (by simp) rfl) rfl
   refine wpOp_plain rfl rfl ?_
   unfold Oper.wp
   go_simp
   first | exact ⟨RT.refl _, Cl.other (i := 9) (t := 28) hL.cls rfl (Below.refl _ _)⟩ | exact ⟨_, rfl, RT.refl _, Cl.other (i := 9) (t := 28) hL.cls rfl (Below.refl _ _), rfl⟩
  | 10, _, ho =>
   cases ho
   have hq : listed.getD 11 false = false := by
    cases hx : listed.getD 11 false with
    | false => rfl
    | true =>
     have h8 := hcl 11 _ rfl hx ⟨10, .data⟩ (by simp) rfl
     simp only [Array.getD_eq_getD_getElem?] at h8 hli
     rw [Array.getElem?_eq_getElem (show 10 < listed.size by rw [hsz]; decide)] at h8 hli
     rw [Option.getD_some] at h8 hli
     rw [h8] at hli; cases hli
   have HCA : Aside _ := Cl.alloc (⟨10, 11, 1, .cells #[.int .i64 0, .int .i64 0, .int .i64 0, .bool false, .bool false, .bool false] 30 (0, 0), .cells #[.int .i64 101, .int .i64 0, .int .i64 2, .bool true, .bool true, .bool false] 30 (0, 0)⟩ : AS) hL.cls (by simp) (by rw [hL.size]; exact (by decide : (1 : Nat) < 223)) hq (by simp) (by intro e' he hne; simp at he; subst he; exact absurd rfl hne)
   refine wpOp_plain rfl rfl ?_
   unfold Oper.wp
   go_simp
   first | exact ⟨_, rfl, RT.of_below ((Below.refl _ _).alloc (Nat.le_refl _) _), HCA.out⟩ | exact ⟨RT.of_below ((Below.refl _ _).alloc (Nat.le_refl _) _), HCA.out⟩ | exact ⟨_, rfl, RT.of_below ((Below.refl _ _).alloc (Nat.le_refl _) _), HCA.out, trivial⟩
  | 11, _, ho =>
   cases ho
   have d8 : ac.tmps.getD 27 undef = .agg #[.int .i64 101, .int .i64 0, .int .i64 2, .bool true, .bool true, .bool false] := hL.new 8 _ 27 rfl (he ⟨8, .data⟩ (by simp) rfl) rfl
   have hpp : listed.getD 10 false = true := he ⟨10, .data⟩ (by simp) rfl
   obtain ⟨g, g1, g2, g3, g4⟩ := hL.cls.2.1 (⟨10, 11, 1, .cells #[.int .i64 0, .int .i64 0, .int .i64 0, .bool false, .bool false, .bool false] 30 (0, 0), .cells #[.int .i64 101, .int .i64 0, .int .i64 2, .bool true, .bool true, .bool false] 30 (0, 0)⟩ : AS) (by simp) hpp
   have hq : listed.getD 11 false = false := by
    simp only [Array.getD_eq_getD_getElem?] at hli ⊢
    rw [Array.getElem?_eq_getElem (show 11 < listed.size by rw [hsz]; decide)] at hli ⊢
    simpa using hli
   simp only [] at g1 g4
   rw [if_neg (by rw [hq]; simp)] at g4
   have HPU : Aside _ := Cl.store (⟨10, 11, 1, .cells #[.int .i64 0, .int .i64 0, .int .i64 0, .bool false, .bool false, .bool false] 30 (0, 0), .cells #[.int .i64 101, .int .i64 0, .int .i64 2, .bool true, .bool true, .bool false] 30 (0, 0)⟩ : AS) hL.cls (by simp) hpp (by rw [hsz]; exact (by decide : (11 : Nat) < 13)) g1 (put6 g4) (by simp) (by intro e' he hne; simp at he; subst he; exact absurd rfl hne)
   have HRT : Aside _ := RT.put (put6 (x0 := .int .i64 101) (x1 := .int .i64 0) (x2 := .int .i64 2) (x3 := .bool true) (x4 := .bool true) (x5 := .bool false) g4) g4
   have zc0 : W.cell? ⟨g, 0, none⟩ = some (.int .i64 0) := blk_cell g4 rfl
   have zc1 : W.cell? ⟨g, 1, none⟩ = some (.int .i64 0) := blk_cell g4 rfl
   have zc2 : W.cell? ⟨g, 2, none⟩ = some (.int .i64 0) := blk_cell g4 rfl
   have zc3 : W.cell? ⟨g, 3, none⟩ = some (.bool false) := blk_cell g4 rfl
   have zc4 : W.cell? ⟨g, 4, none⟩ = some (.bool false) := blk_cell g4 rfl
   have zc5 : W.cell? ⟨g, 5, none⟩ = some (.bool false) := blk_cell g4 rfl
   have zf : ∀ i, W.frozen? ⟨g, i, none⟩ = false := fun i => blk_free g4 i
   clear g4
   refine wpOp_plain rfl rfl ?_
   unfold Oper.wp
   go_simp
   exact ⟨HRT.out, HPU.out⟩
  | 12, _, ho =>
   cases ho
   have d9 : ac.tmps.getD 28 undef = .int .i64 0 := hL.new 9 _ 28 rfl (he ⟨9, .data⟩ (by simp) rfl) rfl
   refine wpOp_plain rfl rfl ?_
   unfold Oper.wp
   go_simp
   first | exact ⟨RT.refl _, Cl.other (i := 12) (t := 2) hL.cls rfl (Below.refl _ _)⟩ | exact ⟨_, rfl, RT.refl _, Cl.other (i := 12) (t := 2) hL.cls rfl (Below.refl _ _), rfl⟩
  | n + 13, hA, _ => simp at hA
 case rest1 =>
  intro ac w2 hL
  obtain ⟨y20, e20⟩ : ∃ x, ac.tmps.getD 20 undef = x := ⟨_, rfl⟩
  obtain ⟨y21, e21⟩ : ∃ x, ac.tmps.getD 21 undef = x := ⟨_, rfl⟩
  obtain ⟨y22, e22⟩ : ∃ x, ac.tmps.getD 22 undef = x := ⟨_, rfl⟩
  have e23 : ac.tmps.getD 23 undef = .agg #[.int .i64 101, .int .i64 0, .int .i64 1] := hL.new 3 _ 23 rfl rfl rfl
  obtain ⟨y24, e24⟩ : ∃ x, ac.tmps.getD 24 undef = x := ⟨_, rfl⟩
  obtain ⟨y25, e25⟩ : ∃ x, ac.tmps.getD 25 undef = x := ⟨_, rfl⟩
  have e26 : ac.tmps.getD 26 undef = .tuple #[.agg #[.int .i64 101, .int .i64 0, .int .i64 2, .bool true, .bool true, .bool false], .int .i64 0] := hL.new 6 _ 26 rfl rfl rfl
  have e19 : ac.tmps.getD 19 undef = .tuple #[.agg #[.int .i64 101, .int .i64 0, .int .i64 2, .bool true, .bool true, .bool false], .int .i64 0] := hL.new 7 _ 19 rfl rfl rfl
  have e27 : ac.tmps.getD 27 undef = .agg #[.int .i64 101, .int .i64 0, .int .i64 2, .bool true, .bool true, .bool false] := hL.new 8 _ 27 rfl rfl rfl
  have e28 : ac.tmps.getD 28 undef = .int .i64 0 := hL.new 9 _ 28 rfl rfl rfl
  obtain ⟨R1, e1, n1, l1, z1⟩ := hL.cls.2.1 (⟨10, 11, 1, .cells #[.int .i64 0, .int .i64 0, .int .i64 0, .bool false, .bool false, .bool false] 30 (0, 0), .cells #[.int .i64 101, .int .i64 0, .int .i64 2, .bool true, .bool true, .bool false] 30 (0, 0)⟩ : AS) (by simp) rfl
  simp only [] at e1
  change w2.heap[R1]? = some (.cells #[.int .i64 101, .int .i64 0, .int .i64 2, .bool true, .bool true, .bool false] 30 (0, 0)) at z1
  have e2 : ac.tmps.getD 2 undef = .int .i64 0 := hL.new 12 _ 2 rfl rfl rfl
  have HCL : Aside (Cl w [(⟨10, 11, 1, .cells #[.int .i64 0, .int .i64 0, .int .i64 0, .bool false, .bool false, .bool false] 30 (0, 0), .cells #[.int .i64 101, .int .i64 0, .int .i64 2, .bool true, .bool true, .bool false] 30 (0, 0)⟩ : AS)] _ ac w2) := hL.cls
  have es := hL.sets [20, 21, 22, 23, 24, 25, 26, 19, 27, 28, 1, 2] (by decide +kernel)
  rw [List.foldl_cons, List.foldl_cons, List.foldl_cons, List.foldl_cons, List.foldl_cons, List.foldl_cons, List.foldl_cons, List.foldl_cons, List.foldl_cons, List.foldl_cons, List.foldl_cons, List.foldl_cons, List.foldl_nil, e20, e21, e22, e23, e24, e25, e26, e19, e27, e28, e1, e2] at es
  have BN : Below w.heap.size w w2 := hL.cls.1
  rw [es]
  clear es hL e20 e21 e22 e23 e24 e25 e26 e19 e27 e28 e1 e2
  refine wpAny_done (by decide +kernel) ?_ _
  simp only [List.setIfInBounds_toArray, List.set_cons_zero, List.set_cons_succ]
  have Z1 : Aside (w2.heap[R1]? = some (.cells #[.int .i64 101, .int .i64 0, .int .i64 2, .bool true, .bool true, .bool false] 30 (0, 0))) := z1
  have B2 : Aside (Below w.heap.size w w2) := BN
  clear z1 l1 n1 BN HCL
  go_wp2_with fail
  obtain ⟨v3, hv3⟩ : ∃ u, u = w2.alloc (.cells #[.int .i64 320, .int .i64 210, .int .i64 120] 34) := ⟨_, rfl⟩
  have Lv3 : Below w2.heap.size w2 v3 := by rw [hv3]; exact (Below.refl _ _).alloc (Nat.le_refl _) _
  have Yv30 : Aside (v3.heap[w2.heap.size]? = some (.cells #[.int .i64 320, .int .i64 210, .int .i64 120] 34 (0, 0))) := by rw [hv3]; exact World.alloc_heap_new' _ _ _ (by simp)
  rw [← hv3]
  clear hv3
  have Bv3 : Aside (Below w.heap.size w v3) := B2.out.trans (Lv3.mono B2.out.size)
  replace Z1 : Aside (v3.heap[R1]? = some (.cells #[.int .i64 101, .int .i64 0, .int .i64 2, .bool true, .bool true, .bool false] 30 (0, 0))) := (Lv3.block _ (Array.getElem?_eq_some_iff.1 Z1.out).1).trans Z1.out
  clear B2 Lv3
  refine (beds_any (some ⟨w2.heap.size, 0, none⟩) 3 3 _).mono ?_
  rintro e v4 ⟨rfl, Hv4⟩
  have Bv4 : Aside (Below w.heap.size w v4) := Bv3.out.trans (Hv4.mono Bv3.out.size)
  replace Z1 : Aside (v4.heap[R1]? = some (.cells #[.int .i64 101, .int .i64 0, .int .i64 2, .bool true, .bool true, .bool false] 30 (0, 0))) := (Hv4.block _ (Array.getElem?_eq_some_iff.1 Z1.out).1).trans Z1.out
  replace Yv30 : Aside (v4.heap[w2.heap.size]? = some (.cells #[.int .i64 320, .int .i64 210, .int .i64 120] 34 (0, 0))) := (Hv4.block _ (Array.getElem?_eq_some_iff.1 Yv30.out).1).trans Yv30.out
  clear Bv3 Hv4
  go_wp2_with fail
  have x := Visit_any (101, 1, 0) false 101 (.slice (some ⟨w2.heap.size, 0, none⟩) 3 3) [320, 210, 120] v4 (beds3 Yv30.out) (by intro x hx; simp at hx; omega)
  rw [ex_visit2] at x
  unfold cntV visR thrV at x
  refine x.mono ?_
  rintro e v5 ⟨rfl, Hv5⟩
  clear x
  have Bv5 : Aside (Below w.heap.size w v5) := Bv4.out.trans (Hv5.mono Bv4.out.size)
  replace Z1 : Aside (v5.heap[R1]? = some (.cells #[.int .i64 101, .int .i64 0, .int .i64 2, .bool true, .bool true, .bool false] 30 (0, 0))) := (Hv5.block _ (Array.getElem?_eq_some_iff.1 Z1.out).1).trans Z1.out
  replace Yv30 : Aside (v5.heap[w2.heap.size]? = some (.cells #[.int .i64 320, .int .i64 210, .int .i64 120] 34 (0, 0))) := (Hv5.block _ (Array.getElem?_eq_some_iff.1 Yv30.out).1).trans Yv30.out
  clear Bv4 Hv5
  go_wp2_with fail
  obtain ⟨v6, hv6⟩ : ∃ u, u = v5.alloc (.cells #[.int .i64 61, .int .i64 40, .int .i64 3, .bool true, .bool false, .bool false] 30) := ⟨_, rfl⟩
  have Lv6 : Below v5.heap.size v5 v6 := by rw [hv6]; exact (Below.refl _ _).alloc (Nat.le_refl _) _
  have Yv60 : Aside (v6.heap[v5.heap.size]? = some (.cells #[.int .i64 61, .int .i64 40, .int .i64 3, .bool true, .bool false, .bool false] 30 (0, 0))) := by rw [hv6]; exact World.alloc_heap_new' _ _ _ (by simp)
  rw [← hv6]
  clear hv6
  have Bv6 : Aside (Below w.heap.size w v6) := Bv5.out.trans (Lv6.mono Bv5.out.size)
  replace Z1 : Aside (v6.heap[R1]? = some (.cells #[.int .i64 101, .int .i64 0, .int .i64 2, .bool true, .bool true, .bool false] 30 (0, 0))) := (Lv6.block _ (Array.getElem?_eq_some_iff.1 Z1.out).1).trans Z1.out
  replace Yv30 : Aside (v6.heap[w2.heap.size]? = some (.cells #[.int .i64 320, .int .i64 210, .int .i64 120] 34 (0, 0))) := (Lv6.block _ (Array.getElem?_eq_some_iff.1 Yv30.out).1).trans Yv30.out
  clear Bv5 Lv6
  refine (two_any true _).mono ?_
  rintro e v7 ⟨Hv7, xv7, rfl, hT⟩
  have Bv7 : Aside (Below w.heap.size w v7) := Bv6.out.trans (Hv7.mono Bv6.out.size)
  replace Z1 : Aside (v7.heap[R1]? = some (.cells #[.int .i64 101, .int .i64 0, .int .i64 2, .bool true, .bool true, .bool false] 30 (0, 0))) := (Hv7.block _ (Array.getElem?_eq_some_iff.1 Z1.out).1).trans Z1.out
  replace Yv30 : Aside (v7.heap[w2.heap.size]? = some (.cells #[.int .i64 320, .int .i64 210, .int .i64 120] 34 (0, 0))) := (Hv7.block _ (Array.getElem?_eq_some_iff.1 Yv30.out).1).trans Yv30.out
  replace Yv60 : Aside (v7.heap[v5.heap.size]? = some (.cells #[.int .i64 61, .int .i64 40, .int .i64 3, .bool true, .bool false, .bool false] 30 (0, 0))) := (Hv7.block _ (Array.getElem?_eq_some_iff.1 Yv60.out).1).trans Yv60.out
  clear Bv6 Hv7
  obtain ⟨b3, rfl, hbb3⟩ := hT
  have Tb3 : Aside (v7.heap[b3]? = some (.cells #[.int .i64 101, .int .i64 0, .int .i64 1, .int .i64 101, .int .i64 0, .int .i64 1] 24 (0, 0))) := hbb3
  clear hbb3
  go_wp2_with fail
  obtain ⟨v8, hv8⟩ : ∃ u, u = v7.alloc (.cells #[.int .i64 320, .int .i64 101, .int .i64 220] 34) := ⟨_, rfl⟩
  have Lv8 : Below v7.heap.size v7 v8 := by rw [hv8]; exact (Below.refl _ _).alloc (Nat.le_refl _) _
  have Yv80 : Aside (v8.heap[v7.heap.size]? = some (.cells #[.int .i64 320, .int .i64 101, .int .i64 220] 34 (0, 0))) := by rw [hv8]; exact World.alloc_heap_new' _ _ _ (by simp)
  rw [← hv8]
  clear hv8
  have Bv8 : Aside (Below w.heap.size w v8) := Bv7.out.trans (Lv8.mono Bv7.out.size)
  replace Z1 : Aside (v8.heap[R1]? = some (.cells #[.int .i64 101, .int .i64 0, .int .i64 2, .bool true, .bool true, .bool false] 30 (0, 0))) := (Lv8.block _ (Array.getElem?_eq_some_iff.1 Z1.out).1).trans Z1.out
  replace Yv30 : Aside (v8.heap[w2.heap.size]? = some (.cells #[.int .i64 320, .int .i64 210, .int .i64 120] 34 (0, 0))) := (Lv8.block _ (Array.getElem?_eq_some_iff.1 Yv30.out).1).trans Yv30.out
  replace Yv60 : Aside (v8.heap[v5.heap.size]? = some (.cells #[.int .i64 61, .int .i64 40, .int .i64 3, .bool true, .bool false, .bool false] 30 (0, 0))) := (Lv8.block _ (Array.getElem?_eq_some_iff.1 Yv60.out).1).trans Yv60.out
  replace Tb3 : Aside (v8.heap[b3]? = some (.cells #[.int .i64 101, .int .i64 0, .int .i64 1, .int .i64 101, .int .i64 0, .int .i64 1] 24 (0, 0))) := (Lv8.block _ (Array.getElem?_eq_some_iff.1 Tb3.out).1).trans Tb3.out
  clear Bv7 Lv8
  refine (beds_any (some ⟨v7.heap.size, 0, none⟩) 3 3 _).mono ?_
  rintro e v9 ⟨rfl, Hv9⟩
  have Bv9 : Aside (Below w.heap.size w v9) := Bv8.out.trans (Hv9.mono Bv8.out.size)
  replace Z1 : Aside (v9.heap[R1]? = some (.cells #[.int .i64 101, .int .i64 0, .int .i64 2, .bool true, .bool true, .bool false] 30 (0, 0))) := (Hv9.block _ (Array.getElem?_eq_some_iff.1 Z1.out).1).trans Z1.out
  replace Yv30 : Aside (v9.heap[w2.heap.size]? = some (.cells #[.int .i64 320, .int .i64 210, .int .i64 120] 34 (0, 0))) := (Hv9.block _ (Array.getElem?_eq_some_iff.1 Yv30.out).1).trans Yv30.out
  replace Yv60 : Aside (v9.heap[v5.heap.size]? = some (.cells #[.int .i64 61, .int .i64 40, .int .i64 3, .bool true, .bool false, .bool false] 30 (0, 0))) := (Hv9.block _ (Array.getElem?_eq_some_iff.1 Yv60.out).1).trans Yv60.out
  replace Tb3 : Aside (v9.heap[b3]? = some (.cells #[.int .i64 101, .int .i64 0, .int .i64 1, .int .i64 101, .int .i64 0, .int .i64 1] 24 (0, 0))) := (Hv9.block _ (Array.getElem?_eq_some_iff.1 Tb3.out).1).trans Tb3.out
  replace Yv80 : Aside (v9.heap[v7.heap.size]? = some (.cells #[.int .i64 320, .int .i64 101, .int .i64 220] 34 (0, 0))) := (Hv9.block _ (Array.getElem?_eq_some_iff.1 Yv80.out).1).trans Yv80.out
  clear Bv8 Hv9
  go_wp2_with fail
  obtain ⟨v10, hv10⟩ : ∃ u, u = v9.alloc (.cells #[.int .i64 320, .int .i64 101, .int .i64 220] 34) := ⟨_, rfl⟩
  have Lv10 : Below v9.heap.size v9 v10 := by rw [hv10]; exact (Below.refl _ _).alloc (Nat.le_refl _) _
  have Yv100 : Aside (v10.heap[v9.heap.size]? = some (.cells #[.int .i64 320, .int .i64 101, .int .i64 220] 34 (0, 0))) := by rw [hv10]; exact World.alloc_heap_new' _ _ _ (by simp)
  rw [← hv10]
  clear hv10
  have Bv10 : Aside (Below w.heap.size w v10) := Bv9.out.trans (Lv10.mono Bv9.out.size)
  replace Z1 : Aside (v10.heap[R1]? = some (.cells #[.int .i64 101, .int .i64 0, .int .i64 2, .bool true, .bool true, .bool false] 30 (0, 0))) := (Lv10.block _ (Array.getElem?_eq_some_iff.1 Z1.out).1).trans Z1.out
  replace Yv30 : Aside (v10.heap[w2.heap.size]? = some (.cells #[.int .i64 320, .int .i64 210, .int .i64 120] 34 (0, 0))) := (Lv10.block _ (Array.getElem?_eq_some_iff.1 Yv30.out).1).trans Yv30.out
  replace Yv60 : Aside (v10.heap[v5.heap.size]? = some (.cells #[.int .i64 61, .int .i64 40, .int .i64 3, .bool true, .bool false, .bool false] 30 (0, 0))) := (Lv10.block _ (Array.getElem?_eq_some_iff.1 Yv60.out).1).trans Yv60.out
  replace Tb3 : Aside (v10.heap[b3]? = some (.cells #[.int .i64 101, .int .i64 0, .int .i64 1, .int .i64 101, .int .i64 0, .int .i64 1] 24 (0, 0))) := (Lv10.block _ (Array.getElem?_eq_some_iff.1 Tb3.out).1).trans Tb3.out
  replace Yv80 : Aside (v10.heap[v7.heap.size]? = some (.cells #[.int .i64 320, .int .i64 101, .int .i64 220] 34 (0, 0))) := (Lv10.block _ (Array.getElem?_eq_some_iff.1 Yv80.out).1).trans Yv80.out
  clear Bv9 Lv10
  refine (beds_any (some ⟨v9.heap.size, 0, none⟩) 3 3 _).mono ?_
  rintro e v11 ⟨rfl, Hv11⟩
  have Bv11 : Aside (Below w.heap.size w v11) := Bv10.out.trans (Hv11.mono Bv10.out.size)
  replace Z1 : Aside (v11.heap[R1]? = some (.cells #[.int .i64 101, .int .i64 0, .int .i64 2, .bool true, .bool true, .bool false] 30 (0, 0))) := (Hv11.block _ (Array.getElem?_eq_some_iff.1 Z1.out).1).trans Z1.out
  replace Yv30 : Aside (v11.heap[w2.heap.size]? = some (.cells #[.int .i64 320, .int .i64 210, .int .i64 120] 34 (0, 0))) := (Hv11.block _ (Array.getElem?_eq_some_iff.1 Yv30.out).1).trans Yv30.out
  replace Yv60 : Aside (v11.heap[v5.heap.size]? = some (.cells #[.int .i64 61, .int .i64 40, .int .i64 3, .bool true, .bool false, .bool false] 30 (0, 0))) := (Hv11.block _ (Array.getElem?_eq_some_iff.1 Yv60.out).1).trans Yv60.out
  replace Tb3 : Aside (v11.heap[b3]? = some (.cells #[.int .i64 101, .int .i64 0, .int .i64 1, .int .i64 101, .int .i64 0, .int .i64 1] 24 (0, 0))) := (Hv11.block _ (Array.getElem?_eq_some_iff.1 Tb3.out).1).trans Tb3.out
  replace Yv80 : Aside (v11.heap[v7.heap.size]? = some (.cells #[.int .i64 320, .int .i64 101, .int .i64 220] 34 (0, 0))) := (Hv11.block _ (Array.getElem?_eq_some_iff.1 Yv80.out).1).trans Yv80.out
  replace Yv100 : Aside (v11.heap[v9.heap.size]? = some (.cells #[.int .i64 320, .int .i64 101, .int .i64 220] 34 (0, 0))) := (Hv11.block _ (Array.getElem?_eq_some_iff.1 Yv100.out).1).trans Yv100.out
  clear Bv10 Hv11
  go_wp2_with fail
  obtain ⟨v12, hv12⟩ : ∃ u, u = v11.alloc (.cells #[.int .i64 0, .slice (some ⟨v7.heap.size, 0, none⟩) 3 3, .int .i64 1, .slice (some ⟨v9.heap.size, 0, none⟩) 3 3] 84) := ⟨_, rfl⟩
  have Lv12 : Below v11.heap.size v11 v12 := by rw [hv12]; exact (Below.refl _ _).alloc (Nat.le_refl _) _
  have Yv120 : Aside (v12.heap[v11.heap.size]? = some (.cells #[.int .i64 0, .slice (some ⟨v7.heap.size, 0, none⟩) 3 3, .int .i64 1, .slice (some ⟨v9.heap.size, 0, none⟩) 3 3] 84 (0, 0))) := by rw [hv12]; exact World.alloc_heap_new' _ _ _ (by simp)
  rw [← hv12]
  clear hv12
  have Bv12 : Aside (Below w.heap.size w v12) := Bv11.out.trans (Lv12.mono Bv11.out.size)
  replace Z1 : Aside (v12.heap[R1]? = some (.cells #[.int .i64 101, .int .i64 0, .int .i64 2, .bool true, .bool true, .bool false] 30 (0, 0))) := (Lv12.block _ (Array.getElem?_eq_some_iff.1 Z1.out).1).trans Z1.out
  replace Yv30 : Aside (v12.heap[w2.heap.size]? = some (.cells #[.int .i64 320, .int .i64 210, .int .i64 120] 34 (0, 0))) := (Lv12.block _ (Array.getElem?_eq_some_iff.1 Yv30.out).1).trans Yv30.out
  replace Yv60 : Aside (v12.heap[v5.heap.size]? = some (.cells #[.int .i64 61, .int .i64 40, .int .i64 3, .bool true, .bool false, .bool false] 30 (0, 0))) := (Lv12.block _ (Array.getElem?_eq_some_iff.1 Yv60.out).1).trans Yv60.out
  replace Tb3 : Aside (v12.heap[b3]? = some (.cells #[.int .i64 101, .int .i64 0, .int .i64 1, .int .i64 101, .int .i64 0, .int .i64 1] 24 (0, 0))) := (Lv12.block _ (Array.getElem?_eq_some_iff.1 Tb3.out).1).trans Tb3.out
  replace Yv80 : Aside (v12.heap[v7.heap.size]? = some (.cells #[.int .i64 320, .int .i64 101, .int .i64 220] 34 (0, 0))) := (Lv12.block _ (Array.getElem?_eq_some_iff.1 Yv80.out).1).trans Yv80.out
  replace Yv100 : Aside (v12.heap[v9.heap.size]? = some (.cells #[.int .i64 320, .int .i64 101, .int .i64 220] 34 (0, 0))) := (Lv12.block _ (Array.getElem?_eq_some_iff.1 Yv100.out).1).trans Yv100.out
  clear Bv11 Lv12
  have x : Calls Try.prog 22 #[.agg #[.slice (some ⟨b3, 0, none⟩) 2 2, .int .i64 0, .int .i64 0, .bool true], .slice (some ⟨v11.heap.size, 0, none⟩) 2 2] v12 (PlayOk (twoR true) exP1 v12) :=
   Play_any (twoR true) _ [(0, .slice (some ⟨v7.heap.size, 0, none⟩) 3 3, [320, 101, 220]), (1, .slice (some ⟨v9.heap.size, 0, none⟩) 3 3, [320, 101, 220])] _ v12 (two_sl true Tb3.out) (sl_blk (enc := encV) (xs := [(0, .slice (some ⟨v7.heap.size, 0, none⟩) 3 3, [320, 101, 220]), (1, .slice (some ⟨v9.heap.size, 0, none⟩) 3 3, [320, 101, 220])]) (fun _ => rfl) (by simp) Yv120.out 2) (fun x hx => by
    simp only [List.mem_cons, List.not_mem_nil, or_false] at hx
    rcases hx with rfl | rfl
    ·exact ⟨beds3 Yv80.out, bedsB (xs := [320, 101, 220]) (by decide)⟩
    ·exact ⟨beds3 Yv100.out, bedsB (xs := [320, 101, 220]) (by decide)⟩)
  refine x.mono ?_
  rintro e v13 hP
  clear x
  obtain ⟨Hv13, al3, ad3, ai3, aw3, cl3, cd3, ci3, cw3, nl3, nd3, ni3, nx3, rfl⟩ := play1_ok hP
  clear hP
  clear Yv30
  clear Tb3
  clear Yv80
  clear Yv100
  clear Yv120
  have Bv13 : Aside (Below w.heap.size w v13) := Bv12.out.trans (Hv13.mono Bv12.out.size)
  replace Z1 : Aside (v13.heap[R1]? = some (.cells #[.int .i64 101, .int .i64 0, .int .i64 2, .bool true, .bool true, .bool false] 30 (0, 0))) := (Hv13.block _ (Array.getElem?_eq_some_iff.1 Z1.out).1).trans Z1.out
  replace Yv60 : Aside (v13.heap[v5.heap.size]? = some (.cells #[.int .i64 61, .int .i64 40, .int .i64 3, .bool true, .bool false, .bool false] 30 (0, 0))) := (Hv13.block _ (Array.getElem?_eq_some_iff.1 Yv60.out).1).trans Yv60.out
  clear Bv12 Hv13
  go_wp2_with fail
  obtain ⟨v14, hv14⟩ : ∃ u, u = v13.alloc (.cells #[.slice al3 nl3 cl3, .slice ad3 nd3 cd3, .slice ai3 ni3 ci3, .int .i64 nx3, .int .i64 1, .bool true, .slice aw3 2 cw3] 51) := ⟨_, rfl⟩
  have Lv14 : Below v13.heap.size v13 v14 := by rw [hv14]; exact (Below.refl _ _).alloc (Nat.le_refl _) _
  have Yv140 : Aside (v14.heap[v13.heap.size]? = some (.cells #[.slice al3 nl3 cl3, .slice ad3 nd3 cd3, .slice ai3 ni3 ci3, .int .i64 nx3, .int .i64 1, .bool true, .slice aw3 2 cw3] 51 (0, 0))) := by rw [hv14]; exact World.alloc_heap_new' _ _ _ (by simp)
  rw [← hv14]
  clear hv14
  have Bv14 : Aside (Below w.heap.size w v14) := Bv13.out.trans (Lv14.mono Bv13.out.size)
  replace Z1 : Aside (v14.heap[R1]? = some (.cells #[.int .i64 101, .int .i64 0, .int .i64 2, .bool true, .bool true, .bool false] 30 (0, 0))) := (Lv14.block _ (Array.getElem?_eq_some_iff.1 Z1.out).1).trans Z1.out
  replace Yv60 : Aside (v14.heap[v5.heap.size]? = some (.cells #[.int .i64 61, .int .i64 40, .int .i64 3, .bool true, .bool false, .bool false] 30 (0, 0))) := (Lv14.block _ (Array.getElem?_eq_some_iff.1 Yv60.out).1).trans Yv60.out
  clear Bv13 Lv14
  refine (two_any false _).mono ?_
  rintro e v15 ⟨Hv15, xv15, rfl, hT⟩
  have Bv15 : Aside (Below w.heap.size w v15) := Bv14.out.trans (Hv15.mono Bv14.out.size)
  replace Z1 : Aside (v15.heap[R1]? = some (.cells #[.int .i64 101, .int .i64 0, .int .i64 2, .bool true, .bool true, .bool false] 30 (0, 0))) := (Hv15.block _ (Array.getElem?_eq_some_iff.1 Z1.out).1).trans Z1.out
  replace Yv60 : Aside (v15.heap[v5.heap.size]? = some (.cells #[.int .i64 61, .int .i64 40, .int .i64 3, .bool true, .bool false, .bool false] 30 (0, 0))) := (Hv15.block _ (Array.getElem?_eq_some_iff.1 Yv60.out).1).trans Yv60.out
  replace Yv140 : Aside (v15.heap[v13.heap.size]? = some (.cells #[.slice al3 nl3 cl3, .slice ad3 nd3 cd3, .slice ai3 ni3 ci3, .int .i64 nx3, .int .i64 1, .bool true, .slice aw3 2 cw3] 51 (0, 0))) := (Hv15.block _ (Array.getElem?_eq_some_iff.1 Yv140.out).1).trans Yv140.out
  clear Bv14 Hv15
  obtain ⟨b4, rfl, hbb4⟩ := hT
  have Tb4 : Aside (v15.heap[b4]? = some (.cells #[.int .i64 101, .int .i64 0, .int .i64 1, .int .i64 101, .int .i64 0, .int .i64 1] 24 (0, 0))) := hbb4
  clear hbb4
  go_wp2_with fail
  obtain ⟨v16, hv16⟩ : ∃ u, u = v15.alloc (.cells #[.int .i64 101, .int .i64 101, .int .i64 101] 34) := ⟨_, rfl⟩
  have Lv16 : Below v15.heap.size v15 v16 := by rw [hv16]; exact (Below.refl _ _).alloc (Nat.le_refl _) _
  have Yv160 : Aside (v16.heap[v15.heap.size]? = some (.cells #[.int .i64 101, .int .i64 101, .int .i64 101] 34 (0, 0))) := by rw [hv16]; exact World.alloc_heap_new' _ _ _ (by simp)
  rw [← hv16]
  clear hv16
  have Bv16 : Aside (Below w.heap.size w v16) := Bv15.out.trans (Lv16.mono Bv15.out.size)
  replace Z1 : Aside (v16.heap[R1]? = some (.cells #[.int .i64 101, .int .i64 0, .int .i64 2, .bool true, .bool true, .bool false] 30 (0, 0))) := (Lv16.block _ (Array.getElem?_eq_some_iff.1 Z1.out).1).trans Z1.out
  replace Yv60 : Aside (v16.heap[v5.heap.size]? = some (.cells #[.int .i64 61, .int .i64 40, .int .i64 3, .bool true, .bool false, .bool false] 30 (0, 0))) := (Lv16.block _ (Array.getElem?_eq_some_iff.1 Yv60.out).1).trans Yv60.out
  replace Yv140 : Aside (v16.heap[v13.heap.size]? = some (.cells #[.slice al3 nl3 cl3, .slice ad3 nd3 cd3, .slice ai3 ni3 ci3, .int .i64 nx3, .int .i64 1, .bool true, .slice aw3 2 cw3] 51 (0, 0))) := (Lv16.block _ (Array.getElem?_eq_some_iff.1 Yv140.out).1).trans Yv140.out
  replace Tb4 : Aside (v16.heap[b4]? = some (.cells #[.int .i64 101, .int .i64 0, .int .i64 1, .int .i64 101, .int .i64 0, .int .i64 1] 24 (0, 0))) := (Lv16.block _ (Array.getElem?_eq_some_iff.1 Tb4.out).1).trans Tb4.out
  clear Bv15 Lv16
  refine (beds_any (some ⟨v15.heap.size, 0, none⟩) 3 3 _).mono ?_
  rintro e v17 ⟨rfl, Hv17⟩
  have Bv17 : Aside (Below w.heap.size w v17) := Bv16.out.trans (Hv17.mono Bv16.out.size)
  replace Z1 : Aside (v17.heap[R1]? = some (.cells #[.int .i64 101, .int .i64 0, .int .i64 2, .bool true, .bool true, .bool false] 30 (0, 0))) := (Hv17.block _ (Array.getElem?_eq_some_iff.1 Z1.out).1).trans Z1.out
  replace Yv60 : Aside (v17.heap[v5.heap.size]? = some (.cells #[.int .i64 61, .int .i64 40, .int .i64 3, .bool true, .bool false, .bool false] 30 (0, 0))) := (Hv17.block _ (Array.getElem?_eq_some_iff.1 Yv60.out).1).trans Yv60.out
  replace Yv140 : Aside (v17.heap[v13.heap.size]? = some (.cells #[.slice al3 nl3 cl3, .slice ad3 nd3 cd3, .slice ai3 ni3 ci3, .int .i64 nx3, .int .i64 1, .bool true, .slice aw3 2 cw3] 51 (0, 0))) := (Hv17.block _ (Array.getElem?_eq_some_iff.1 Yv140.out).1).trans Yv140.out
  replace Tb4 : Aside (v17.heap[b4]? = some (.cells #[.int .i64 101, .int .i64 0, .int .i64 1, .int .i64 101, .int .i64 0, .int .i64 1] 24 (0, 0))) := (Hv17.block _ (Array.getElem?_eq_some_iff.1 Tb4.out).1).trans Tb4.out
  replace Yv160 : Aside (v17.heap[v15.heap.size]? = some (.cells #[.int .i64 101, .int .i64 101, .int .i64 101] 34 (0, 0))) := (Hv17.block _ (Array.getElem?_eq_some_iff.1 Yv160.out).1).trans Yv160.out
  clear Bv16 Hv17
  go_wp2_with fail
  obtain ⟨v18, hv18⟩ : ∃ u, u = v17.alloc (.cells #[.int .i64 101, .int .i64 101, .int .i64 101] 34) := ⟨_, rfl⟩
  have Lv18 : Below v17.heap.size v17 v18 := by rw [hv18]; exact (Below.refl _ _).alloc (Nat.le_refl _) _
  have Yv180 : Aside (v18.heap[v17.heap.size]? = some (.cells #[.int .i64 101, .int .i64 101, .int .i64 101] 34 (0, 0))) := by rw [hv18]; exact World.alloc_heap_new' _ _ _ (by simp)
  rw [← hv18]
  clear hv18
  have Bv18 : Aside (Below w.heap.size w v18) := Bv17.out.trans (Lv18.mono Bv17.out.size)
  replace Z1 : Aside (v18.heap[R1]? = some (.cells #[.int .i64 101, .int .i64 0, .int .i64 2, .bool true, .bool true, .bool false] 30 (0, 0))) := (Lv18.block _ (Array.getElem?_eq_some_iff.1 Z1.out).1).trans Z1.out
  replace Yv60 : Aside (v18.heap[v5.heap.size]? = some (.cells #[.int .i64 61, .int .i64 40, .int .i64 3, .bool true, .bool false, .bool false] 30 (0, 0))) := (Lv18.block _ (Array.getElem?_eq_some_iff.1 Yv60.out).1).trans Yv60.out
  replace Yv140 : Aside (v18.heap[v13.heap.size]? = some (.cells #[.slice al3 nl3 cl3, .slice ad3 nd3 cd3, .slice ai3 ni3 ci3, .int .i64 nx3, .int .i64 1, .bool true, .slice aw3 2 cw3] 51 (0, 0))) := (Lv18.block _ (Array.getElem?_eq_some_iff.1 Yv140.out).1).trans Yv140.out
  replace Tb4 : Aside (v18.heap[b4]? = some (.cells #[.int .i64 101, .int .i64 0, .int .i64 1, .int .i64 101, .int .i64 0, .int .i64 1] 24 (0, 0))) := (Lv18.block _ (Array.getElem?_eq_some_iff.1 Tb4.out).1).trans Tb4.out
  replace Yv160 : Aside (v18.heap[v15.heap.size]? = some (.cells #[.int .i64 101, .int .i64 101, .int .i64 101] 34 (0, 0))) := (Lv18.block _ (Array.getElem?_eq_some_iff.1 Yv160.out).1).trans Yv160.out
  clear Bv17 Lv18
  refine (beds_any (some ⟨v17.heap.size, 0, none⟩) 3 3 _).mono ?_
  rintro e v19 ⟨rfl, Hv19⟩
  have Bv19 : Aside (Below w.heap.size w v19) := Bv18.out.trans (Hv19.mono Bv18.out.size)
  replace Z1 : Aside (v19.heap[R1]? = some (.cells #[.int .i64 101, .int .i64 0, .int .i64 2, .bool true, .bool true, .bool false] 30 (0, 0))) := (Hv19.block _ (Array.getElem?_eq_some_iff.1 Z1.out).1).trans Z1.out
  replace Yv60 : Aside (v19.heap[v5.heap.size]? = some (.cells #[.int .i64 61, .int .i64 40, .int .i64 3, .bool true, .bool false, .bool false] 30 (0, 0))) := (Hv19.block _ (Array.getElem?_eq_some_iff.1 Yv60.out).1).trans Yv60.out
  replace Yv140 : Aside (v19.heap[v13.heap.size]? = some (.cells #[.slice al3 nl3 cl3, .slice ad3 nd3 cd3, .slice ai3 ni3 ci3, .int .i64 nx3, .int .i64 1, .bool true, .slice aw3 2 cw3] 51 (0, 0))) := (Hv19.block _ (Array.getElem?_eq_some_iff.1 Yv140.out).1).trans Yv140.out
  replace Tb4 : Aside (v19.heap[b4]? = some (.cells #[.int .i64 101, .int .i64 0, .int .i64 1, .int .i64 101, .int .i64 0, .int .i64 1] 24 (0, 0))) := (Hv19.block _ (Array.getElem?_eq_some_iff.1 Tb4.out).1).trans Tb4.out
  replace Yv160 : Aside (v19.heap[v15.heap.size]? = some (.cells #[.int .i64 101, .int .i64 101, .int .i64 101] 34 (0, 0))) := (Hv19.block _ (Array.getElem?_eq_some_iff.1 Yv160.out).1).trans Yv160.out
  replace Yv180 : Aside (v19.heap[v17.heap.size]? = some (.cells #[.int .i64 101, .int .i64 101, .int .i64 101] 34 (0, 0))) := (Hv19.block _ (Array.getElem?_eq_some_iff.1 Yv180.out).1).trans Yv180.out
  clear Bv18 Hv19
  go_wp2_with fail
  obtain ⟨v20, hv20⟩ : ∃ u, u = v19.alloc (.cells #[.int .i64 120, .int .i64 120] 34) := ⟨_, rfl⟩
  have Lv20 : Below v19.heap.size v19 v20 := by rw [hv20]; exact (Below.refl _ _).alloc (Nat.le_refl _) _
  have Yv200 : Aside (v20.heap[v19.heap.size]? = some (.cells #[.int .i64 120, .int .i64 120] 34 (0, 0))) := by rw [hv20]; exact World.alloc_heap_new' _ _ _ (by simp)
  rw [← hv20]
  clear hv20
  have Bv20 : Aside (Below w.heap.size w v20) := Bv19.out.trans (Lv20.mono Bv19.out.size)
  replace Z1 : Aside (v20.heap[R1]? = some (.cells #[.int .i64 101, .int .i64 0, .int .i64 2, .bool true, .bool true, .bool false] 30 (0, 0))) := (Lv20.block _ (Array.getElem?_eq_some_iff.1 Z1.out).1).trans Z1.out
  replace Yv60 : Aside (v20.heap[v5.heap.size]? = some (.cells #[.int .i64 61, .int .i64 40, .int .i64 3, .bool true, .bool false, .bool false] 30 (0, 0))) := (Lv20.block _ (Array.getElem?_eq_some_iff.1 Yv60.out).1).trans Yv60.out
  replace Yv140 : Aside (v20.heap[v13.heap.size]? = some (.cells #[.slice al3 nl3 cl3, .slice ad3 nd3 cd3, .slice ai3 ni3 ci3, .int .i64 nx3, .int .i64 1, .bool true, .slice aw3 2 cw3] 51 (0, 0))) := (Lv20.block _ (Array.getElem?_eq_some_iff.1 Yv140.out).1).trans Yv140.out
  replace Tb4 : Aside (v20.heap[b4]? = some (.cells #[.int .i64 101, .int .i64 0, .int .i64 1, .int .i64 101, .int .i64 0, .int .i64 1] 24 (0, 0))) := (Lv20.block _ (Array.getElem?_eq_some_iff.1 Tb4.out).1).trans Tb4.out
  replace Yv160 : Aside (v20.heap[v15.heap.size]? = some (.cells #[.int .i64 101, .int .i64 101, .int .i64 101] 34 (0, 0))) := (Lv20.block _ (Array.getElem?_eq_some_iff.1 Yv160.out).1).trans Yv160.out
  replace Yv180 : Aside (v20.heap[v17.heap.size]? = some (.cells #[.int .i64 101, .int .i64 101, .int .i64 101] 34 (0, 0))) := (Lv20.block _ (Array.getElem?_eq_some_iff.1 Yv180.out).1).trans Yv180.out
  clear Bv19 Lv20
  refine (beds_any (some ⟨v19.heap.size, 0, none⟩) 2 2 _).mono ?_
  rintro e v21 ⟨rfl, Hv21⟩
  have Bv21 : Aside (Below w.heap.size w v21) := Bv20.out.trans (Hv21.mono Bv20.out.size)
  replace Z1 : Aside (v21.heap[R1]? = some (.cells #[.int .i64 101, .int .i64 0, .int .i64 2, .bool true, .bool true, .bool false] 30 (0, 0))) := (Hv21.block _ (Array.getElem?_eq_some_iff.1 Z1.out).1).trans Z1.out
  replace Yv60 : Aside (v21.heap[v5.heap.size]? = some (.cells #[.int .i64 61, .int .i64 40, .int .i64 3, .bool true, .bool false, .bool false] 30 (0, 0))) := (Hv21.block _ (Array.getElem?_eq_some_iff.1 Yv60.out).1).trans Yv60.out
  replace Yv140 : Aside (v21.heap[v13.heap.size]? = some (.cells #[.slice al3 nl3 cl3, .slice ad3 nd3 cd3, .slice ai3 ni3 ci3, .int .i64 nx3, .int .i64 1, .bool true, .slice aw3 2 cw3] 51 (0, 0))) := (Hv21.block _ (Array.getElem?_eq_some_iff.1 Yv140.out).1).trans Yv140.out
  replace Tb4 : Aside (v21.heap[b4]? = some (.cells #[.int .i64 101, .int .i64 0, .int .i64 1, .int .i64 101, .int .i64 0, .int .i64 1] 24 (0, 0))) := (Hv21.block _ (Array.getElem?_eq_some_iff.1 Tb4.out).1).trans Tb4.out
  replace Yv160 : Aside (v21.heap[v15.heap.size]? = some (.cells #[.int .i64 101, .int .i64 101, .int .i64 101] 34 (0, 0))) := (Hv21.block _ (Array.getElem?_eq_some_iff.1 Yv160.out).1).trans Yv160.out
  replace Yv180 : Aside (v21.heap[v17.heap.size]? = some (.cells #[.int .i64 101, .int .i64 101, .int .i64 101] 34 (0, 0))) := (Hv21.block _ (Array.getElem?_eq_some_iff.1 Yv180.out).1).trans Yv180.out
  replace Yv200 : Aside (v21.heap[v19.heap.size]? = some (.cells #[.int .i64 120, .int .i64 120] 34 (0, 0))) := (Hv21.block _ (Array.getElem?_eq_some_iff.1 Yv200.out).1).trans Yv200.out
  clear Bv20 Hv21
  go_wp2_with fail
  obtain ⟨v22, hv22⟩ : ∃ u, u = v21.alloc (.cells #[.int .i64 120, .int .i64 120, .int .i64 120] 34) := ⟨_, rfl⟩
  have Lv22 : Below v21.heap.size v21 v22 := by rw [hv22]; exact (Below.refl _ _).alloc (Nat.le_refl _) _
  have Yv220 : Aside (v22.heap[v21.heap.size]? = some (.cells #[.int .i64 120, .int .i64 120, .int .i64 120] 34 (0, 0))) := by rw [hv22]; exact World.alloc_heap_new' _ _ _ (by simp)
  rw [← hv22]
  clear hv22
  have Bv22 : Aside (Below w.heap.size w v22) := Bv21.out.trans (Lv22.mono Bv21.out.size)
  replace Z1 : Aside (v22.heap[R1]? = some (.cells #[.int .i64 101, .int .i64 0, .int .i64 2, .bool true, .bool true, .bool false] 30 (0, 0))) := (Lv22.block _ (Array.getElem?_eq_some_iff.1 Z1.out).1).trans Z1.out
  replace Yv60 : Aside (v22.heap[v5.heap.size]? = some (.cells #[.int .i64 61, .int .i64 40, .int .i64 3, .bool true, .bool false, .bool false] 30 (0, 0))) := (Lv22.block _ (Array.getElem?_eq_some_iff.1 Yv60.out).1).trans Yv60.out
  replace Yv140 : Aside (v22.heap[v13.heap.size]? = some (.cells #[.slice al3 nl3 cl3, .slice ad3 nd3 cd3, .slice ai3 ni3 ci3, .int .i64 nx3, .int .i64 1, .bool true, .slice aw3 2 cw3] 51 (0, 0))) := (Lv22.block _ (Array.getElem?_eq_some_iff.1 Yv140.out).1).trans Yv140.out
  replace Tb4 : Aside (v22.heap[b4]? = some (.cells #[.int .i64 101, .int .i64 0, .int .i64 1, .int .i64 101, .int .i64 0, .int .i64 1] 24 (0, 0))) := (Lv22.block _ (Array.getElem?_eq_some_iff.1 Tb4.out).1).trans Tb4.out
  replace Yv160 : Aside (v22.heap[v15.heap.size]? = some (.cells #[.int .i64 101, .int .i64 101, .int .i64 101] 34 (0, 0))) := (Lv22.block _ (Array.getElem?_eq_some_iff.1 Yv160.out).1).trans Yv160.out
  replace Yv180 : Aside (v22.heap[v17.heap.size]? = some (.cells #[.int .i64 101, .int .i64 101, .int .i64 101] 34 (0, 0))) := (Lv22.block _ (Array.getElem?_eq_some_iff.1 Yv180.out).1).trans Yv180.out
  replace Yv200 : Aside (v22.heap[v19.heap.size]? = some (.cells #[.int .i64 120, .int .i64 120] 34 (0, 0))) := (Lv22.block _ (Array.getElem?_eq_some_iff.1 Yv200.out).1).trans Yv200.out
  clear Bv21 Lv22
  refine (beds_any (some ⟨v21.heap.size, 0, none⟩) 3 3 _).mono ?_
  rintro e v23 ⟨rfl, Hv23⟩
  have Bv23 : Aside (Below w.heap.size w v23) := Bv22.out.trans (Hv23.mono Bv22.out.size)
  replace Z1 : Aside (v23.heap[R1]? = some (.cells #[.int .i64 101, .int .i64 0, .int .i64 2, .bool true, .bool true, .bool false] 30 (0, 0))) := (Hv23.block _ (Array.getElem?_eq_some_iff.1 Z1.out).1).trans Z1.out
  replace Yv60 : Aside (v23.heap[v5.heap.size]? = some (.cells #[.int .i64 61, .int .i64 40, .int .i64 3, .bool true, .bool false, .bool false] 30 (0, 0))) := (Hv23.block _ (Array.getElem?_eq_some_iff.1 Yv60.out).1).trans Yv60.out
  replace Yv140 : Aside (v23.heap[v13.heap.size]? = some (.cells #[.slice al3 nl3 cl3, .slice ad3 nd3 cd3, .slice ai3 ni3 ci3, .int .i64 nx3, .int .i64 1, .bool true, .slice aw3 2 cw3] 51 (0, 0))) := (Hv23.block _ (Array.getElem?_eq_some_iff.1 Yv140.out).1).trans Yv140.out
  replace Tb4 : Aside (v23.heap[b4]? = some (.cells #[.int .i64 101, .int .i64 0, .int .i64 1, .int .i64 101, .int .i64 0, .int .i64 1] 24 (0, 0))) := (Hv23.block _ (Array.getElem?_eq_some_iff.1 Tb4.out).1).trans Tb4.out
  replace Yv160 : Aside (v23.heap[v15.heap.size]? = some (.cells #[.int .i64 101, .int .i64 101, .int .i64 101] 34 (0, 0))) := (Hv23.block _ (Array.getElem?_eq_some_iff.1 Yv160.out).1).trans Yv160.out
  replace Yv180 : Aside (v23.heap[v17.heap.size]? = some (.cells #[.int .i64 101, .int .i64 101, .int .i64 101] 34 (0, 0))) := (Hv23.block _ (Array.getElem?_eq_some_iff.1 Yv180.out).1).trans Yv180.out
  replace Yv200 : Aside (v23.heap[v19.heap.size]? = some (.cells #[.int .i64 120, .int .i64 120] 34 (0, 0))) := (Hv23.block _ (Array.getElem?_eq_some_iff.1 Yv200.out).1).trans Yv200.out
  replace Yv220 : Aside (v23.heap[v21.heap.size]? = some (.cells #[.int .i64 120, .int .i64 120, .int .i64 120] 34 (0, 0))) := (Hv23.block _ (Array.getElem?_eq_some_iff.1 Yv220.out).1).trans Yv220.out
  clear Bv22 Hv23
  go_wp2_with fail
  obtain ⟨v24, hv24⟩ : ∃ u, u = v23.alloc (.cells #[.int .i64 0, .slice (some ⟨v15.heap.size, 0, none⟩) 3 3, .int .i64 0, .slice (some ⟨v17.heap.size, 0, none⟩) 3 3, .int .i64 1, .slice (some ⟨v19.heap.size, 0, none⟩) 2 2, .int .i64 1, .slice (some ⟨v21.heap.size, 0, none⟩) 3 3] 84) := ⟨_, rfl⟩
  have Lv24 : Below v23.heap.size v23 v24 := by rw [hv24]; exact (Below.refl _ _).alloc (Nat.le_refl _) _
  have Yv240 : Aside (v24.heap[v23.heap.size]? = some (.cells #[.int .i64 0, .slice (some ⟨v15.heap.size, 0, none⟩) 3 3, .int .i64 0, .slice (some ⟨v17.heap.size, 0, none⟩) 3 3, .int .i64 1, .slice (some ⟨v19.heap.size, 0, none⟩) 2 2, .int .i64 1, .slice (some ⟨v21.heap.size, 0, none⟩) 3 3] 84 (0, 0))) := by rw [hv24]; exact World.alloc_heap_new' _ _ _ (by simp)
  rw [← hv24]
  clear hv24
  have Bv24 : Aside (Below w.heap.size w v24) := Bv23.out.trans (Lv24.mono Bv23.out.size)
  replace Z1 : Aside (v24.heap[R1]? = some (.cells #[.int .i64 101, .int .i64 0, .int .i64 2, .bool true, .bool true, .bool false] 30 (0, 0))) := (Lv24.block _ (Array.getElem?_eq_some_iff.1 Z1.out).1).trans Z1.out
  replace Yv60 : Aside (v24.heap[v5.heap.size]? = some (.cells #[.int .i64 61, .int .i64 40, .int .i64 3, .bool true, .bool false, .bool false] 30 (0, 0))) := (Lv24.block _ (Array.getElem?_eq_some_iff.1 Yv60.out).1).trans Yv60.out
  replace Yv140 : Aside (v24.heap[v13.heap.size]? = some (.cells #[.slice al3 nl3 cl3, .slice ad3 nd3 cd3, .slice ai3 ni3 ci3, .int .i64 nx3, .int .i64 1, .bool true, .slice aw3 2 cw3] 51 (0, 0))) := (Lv24.block _ (Array.getElem?_eq_some_iff.1 Yv140.out).1).trans Yv140.out
  replace Tb4 : Aside (v24.heap[b4]? = some (.cells #[.int .i64 101, .int .i64 0, .int .i64 1, .int .i64 101, .int .i64 0, .int .i64 1] 24 (0, 0))) := (Lv24.block _ (Array.getElem?_eq_some_iff.1 Tb4.out).1).trans Tb4.out
  replace Yv160 : Aside (v24.heap[v15.heap.size]? = some (.cells #[.int .i64 101, .int .i64 101, .int .i64 101] 34 (0, 0))) := (Lv24.block _ (Array.getElem?_eq_some_iff.1 Yv160.out).1).trans Yv160.out
  replace Yv180 : Aside (v24.heap[v17.heap.size]? = some (.cells #[.int .i64 101, .int .i64 101, .int .i64 101] 34 (0, 0))) := (Lv24.block _ (Array.getElem?_eq_some_iff.1 Yv180.out).1).trans Yv180.out
  replace Yv200 : Aside (v24.heap[v19.heap.size]? = some (.cells #[.int .i64 120, .int .i64 120] 34 (0, 0))) := (Lv24.block _ (Array.getElem?_eq_some_iff.1 Yv200.out).1).trans Yv200.out
  replace Yv220 : Aside (v24.heap[v21.heap.size]? = some (.cells #[.int .i64 120, .int .i64 120, .int .i64 120] 34 (0, 0))) := (Lv24.block _ (Array.getElem?_eq_some_iff.1 Yv220.out).1).trans Yv220.out
  clear Bv23 Lv24
  have x : Calls Try.prog 27 #[.agg #[.slice (some ⟨b4, 0, none⟩) 2 2, .int .i64 0, .int .i64 0, .bool false], .slice (some ⟨v23.heap.size, 0, none⟩) 4 4] v24 (JudgeOk (twoR false) exJ v24) :=
   Judge_any (twoR false) _ [(0, .slice (some ⟨v15.heap.size, 0, none⟩) 3 3, [101, 101, 101]), (0, .slice (some ⟨v17.heap.size, 0, none⟩) 3 3, [101, 101, 101]), (1, .slice (some ⟨v19.heap.size, 0, none⟩) 2 2, [120, 120]), (1, .slice (some ⟨v21.heap.size, 0, none⟩) 3 3, [120, 120, 120])] _ v24 (two_sl false Tb4.out) (sl_blk (enc := encV) (xs := [(0, .slice (some ⟨v15.heap.size, 0, none⟩) 3 3, [101, 101, 101]), (0, .slice (some ⟨v17.heap.size, 0, none⟩) 3 3, [101, 101, 101]), (1, .slice (some ⟨v19.heap.size, 0, none⟩) 2 2, [120, 120]), (1, .slice (some ⟨v21.heap.size, 0, none⟩) 3 3, [120, 120, 120])]) (fun _ => rfl) (by simp) Yv240.out 4) (fun x hx => by
    simp only [List.mem_cons, List.not_mem_nil, or_false] at hx
    rcases hx with rfl | rfl | rfl | rfl
    ·exact ⟨beds3 Yv160.out, bedsB (xs := [101, 101, 101]) (by decide)⟩
    ·exact ⟨beds3 Yv180.out, bedsB (xs := [101, 101, 101]) (by decide)⟩
    ·exact ⟨beds2 Yv200.out, bedsB (xs := [120, 120]) (by decide)⟩
    ·exact ⟨beds3 Yv220.out, bedsB (xs := [120, 120, 120]) (by decide)⟩)
  refine x.mono ?_
  rintro e v25 hP
  clear x
  obtain ⟨Hv25, al4, ad4, ai4, aw4, af4, cl4, cd4, ci4, cw4, cf4, nd4, ni4, nw4, rd4, ov4, rfl, hS4, hF4⟩ := judge_ok hP
  clear hP
  clear Tb4
  clear Yv160
  clear Yv180
  clear Yv200
  clear Yv220
  clear Yv240
  have Bv25 : Aside (Below w.heap.size w v25) := Bv24.out.trans (Hv25.mono Bv24.out.size)
  replace Z1 : Aside (v25.heap[R1]? = some (.cells #[.int .i64 101, .int .i64 0, .int .i64 2, .bool true, .bool true, .bool false] 30 (0, 0))) := (Hv25.block _ (Array.getElem?_eq_some_iff.1 Z1.out).1).trans Z1.out
  replace Yv60 : Aside (v25.heap[v5.heap.size]? = some (.cells #[.int .i64 61, .int .i64 40, .int .i64 3, .bool true, .bool false, .bool false] 30 (0, 0))) := (Hv25.block _ (Array.getElem?_eq_some_iff.1 Yv60.out).1).trans Yv60.out
  replace Yv140 : Aside (v25.heap[v13.heap.size]? = some (.cells #[.slice al3 nl3 cl3, .slice ad3 nd3 cd3, .slice ai3 ni3 ci3, .int .i64 nx3, .int .i64 1, .bool true, .slice aw3 2 cw3] 51 (0, 0))) := (Hv25.block _ (Array.getElem?_eq_some_iff.1 Yv140.out).1).trans Yv140.out
  clear Bv24 Hv25
  obtain ⟨_, _, _, _, hs4⟩ := hS4
  obtain ⟨_, _, _, _, hf4⟩ := hF4
  obtain ⟨bl4, ol4, rfl, ll4, hl4⟩ := hs4 (by simp)
  obtain ⟨bf4, of4, rfl, lf4, hf4⟩ := hf4 (by simp)
  have q41 : Aside (v25.cell? ⟨bl4, ol4 + 1, none⟩ = some (.int .i64 41)) := by show _ = _; have := hl4 1 _ rfl 0 (.int .i64 41) rfl; simpa using this
  have f40 : Aside (v25.cell? ⟨bf4, of4, none⟩ = some (.int .i64 1)) := by show _ = _; have := hf4 0 _ rfl 0 (.int .i64 1) rfl; simpa using this
  have f41 : Aside (v25.cell? ⟨bf4, of4 + 1, none⟩ = some (.int .i64 (-1))) := by show _ = _; have := hf4 0 _ rfl 1 (.int .i64 (-1)) rfl; simpa using this
  have f42 : Aside (v25.cell? ⟨bf4, of4 + 2, none⟩ = some (.int .i64 30)) := by show _ = _; have := hf4 0 _ rfl 2 (.int .i64 30) rfl; simpa using this
  have f45 : Aside (v25.cell? ⟨bf4, of4 + 3 + 2, none⟩ = some (.int .i64 31)) := by show _ = _; have := hf4 1 _ rfl 2 (.int .i64 31) rfl; simpa using this
  clear hl4 hf4
  go_wp2_with fail
  obtain ⟨v26, hv26⟩ : ∃ u, u = (((v25.alloc (.cells #[.slice (some ⟨bl4, ol4, none⟩) 2 cl4, .slice ad4 nd4 cd4, .slice ai4 ni4 ci4, .int .i64 0, .int .i64 rd4, .bool ov4, .slice aw4 nw4 cw4] 51)).alloc (.cells #[.int .i64 125, .int .i64 0, .int .i64 101, .int .i64 300, .int .i64 125, .int .i64 0] 91)).alloc (.cells #[.int .i64 103, .int .i64 250, .int .i64 104, .int .i64 240] 91)).alloc (.cells #[.slice (some ⟨v25.heap.size + 1, 0, none⟩) 3 3, .slice (some ⟨v25.heap.size + 1 + 1, 0, none⟩) 2 2] 63) := ⟨_, rfl⟩
  have Lv26 : Below v25.heap.size v25 v26 := by rw [hv26]; exact (((((Below.refl _ _).alloc (by simp <;> omega) _).alloc (by simp <;> omega) _).alloc (by simp <;> omega) _).alloc (by simp <;> omega) _)
  have Yv260 : Aside (v26.heap[v25.heap.size]? = some (.cells #[.slice (some ⟨bl4, ol4, none⟩) 2 cl4, .slice ad4 nd4 cd4, .slice ai4 ni4 ci4, .int .i64 0, .int .i64 rd4, .bool ov4, .slice aw4 nw4 cw4] 51 (0, 0))) := by rw [hv26]; exact (Below.heap_alloc _ _ _ (by simp; try omega)).trans ((Below.heap_alloc _ _ _ (by simp; try omega)).trans ((Below.heap_alloc _ _ _ (by simp; try omega)).trans (World.alloc_heap_new' _ _ _ (by simp))))
  have Yv261 : Aside (v26.heap[v25.heap.size + 1]? = some (.cells #[.int .i64 125, .int .i64 0, .int .i64 101, .int .i64 300, .int .i64 125, .int .i64 0] 91 (0, 0))) := by rw [hv26]; exact (Below.heap_alloc _ _ _ (by simp; try omega)).trans ((Below.heap_alloc _ _ _ (by simp; try omega)).trans (World.alloc_heap_new' _ _ _ (by simp)))
  have Yv262 : Aside (v26.heap[v25.heap.size + 1 + 1]? = some (.cells #[.int .i64 103, .int .i64 250, .int .i64 104, .int .i64 240] 91 (0, 0))) := by rw [hv26]; exact (Below.heap_alloc _ _ _ (by simp; try omega)).trans (World.alloc_heap_new' _ _ _ (by simp))
  have Yv263 : Aside (v26.heap[v25.heap.size + 1 + 1 + 1]? = some (.cells #[.slice (some ⟨v25.heap.size + 1, 0, none⟩) 3 3, .slice (some ⟨v25.heap.size + 1 + 1, 0, none⟩) 2 2] 63 (0, 0))) := by rw [hv26]; exact World.alloc_heap_new' _ _ _ (by simp)
  rw [← hv26]
  clear hv26
  have Bv26 : Aside (Below w.heap.size w v26) := Bv25.out.trans (Lv26.mono Bv25.out.size)
  replace Z1 : Aside (v26.heap[R1]? = some (.cells #[.int .i64 101, .int .i64 0, .int .i64 2, .bool true, .bool true, .bool false] 30 (0, 0))) := (Lv26.block _ (Array.getElem?_eq_some_iff.1 Z1.out).1).trans Z1.out
  replace Yv60 : Aside (v26.heap[v5.heap.size]? = some (.cells #[.int .i64 61, .int .i64 40, .int .i64 3, .bool true, .bool false, .bool false] 30 (0, 0))) := (Lv26.block _ (Array.getElem?_eq_some_iff.1 Yv60.out).1).trans Yv60.out
  replace Yv140 : Aside (v26.heap[v13.heap.size]? = some (.cells #[.slice al3 nl3 cl3, .slice ad3 nd3 cd3, .slice ai3 ni3 ci3, .int .i64 nx3, .int .i64 1, .bool true, .slice aw3 2 cw3] 51 (0, 0))) := (Lv26.block _ (Array.getElem?_eq_some_iff.1 Yv140.out).1).trans Yv140.out
  replace q41 : Aside (v26.cell? ⟨bl4, ol4 + 1, none⟩ = some (.int .i64 41)) := keepc Lv26 q41.out
  replace f40 : Aside (v26.cell? ⟨bf4, of4, none⟩ = some (.int .i64 1)) := keepc Lv26 f40.out
  replace f41 : Aside (v26.cell? ⟨bf4, of4 + 1, none⟩ = some (.int .i64 (-1))) := keepc Lv26 f41.out
  replace f42 : Aside (v26.cell? ⟨bf4, of4 + 2, none⟩ = some (.int .i64 30)) := keepc Lv26 f42.out
  replace f45 : Aside (v26.cell? ⟨bf4, of4 + 3 + 2, none⟩ = some (.int .i64 31)) := keepc Lv26 f45.out
  replace ll4 : bl4 < v26.heap.size := Nat.lt_of_lt_of_le ll4 Lv26.size
  replace lf4 : bf4 < v26.heap.size := Nat.lt_of_lt_of_le lf4 Lv26.size
  clear Bv25 Lv26
  have x : Calls Try.prog 29 #[.int .i64 3, .slice (some ⟨v25.heap.size + 1 + 1 + 1, 0, none⟩) 2 2] v26 (Ret (.tuple #[.int .i64 2, .int .i64 0]) v26) := by
   have x := Off_any 3 (.slice (some ⟨v25.heap.size + 1 + 1 + 1, 0, none⟩) 2 2) [(.slice (some ⟨v25.heap.size + 1, 0, none⟩) 3 3, [(125, 0), (101, 300), (125, 0)]), (.slice (some ⟨v25.heap.size + 1 + 1, 0, none⟩) 2 2, [(103, 250), (104, 240)])] v26 (sl_blk (enc := eRow) (xs := [(.slice (some ⟨v25.heap.size + 1, 0, none⟩) 3 3, [(125, 0), (101, 300), (125, 0)]), (.slice (some ⟨v25.heap.size + 1 + 1, 0, none⟩) 2 2, [(103, 250), (104, 240)])]) (fun _ => rfl) (by simp) Yv263.out 2)
    (fun x hx => by
     simp only [List.mem_cons, List.not_mem_nil, or_false] at hx
     rcases hx with rfl | rfl
     ·exact sl_blk (enc := encP) (xs := [(125, 0), (101, 300), (125, 0)]) (fun _ => rfl) (by simp) Yv261.out 3
     ·exact sl_blk (enc := encP) (xs := [(103, 250), (104, 240)]) (fun _ => rfl) (by simp) Yv262.out 2)
    (fun x hx => by
     simp only [List.mem_cons, List.not_mem_nil, or_false] at hx
     rcases hx with rfl | rfl
     ·intro d hd; simp only [List.mem_cons, List.not_mem_nil, or_false] at hd; rcases hd with rfl | rfl | rfl <;> decide
     ·intro d hd; simp only [List.mem_cons, List.not_mem_nil, or_false] at hd; rcases hd with rfl | rfl <;> decide)
   simp only [List.map_cons, List.map_nil, ex_off] at x
   exact x
  refine x.mono ?_
  rintro e v27 ⟨rfl, Hv27⟩
  clear x
  clear Yv261
  clear Yv262
  clear Yv263
  have Bv27 : Aside (Below w.heap.size w v27) := Bv26.out.trans (Hv27.mono Bv26.out.size)
  replace Z1 : Aside (v27.heap[R1]? = some (.cells #[.int .i64 101, .int .i64 0, .int .i64 2, .bool true, .bool true, .bool false] 30 (0, 0))) := (Hv27.block _ (Array.getElem?_eq_some_iff.1 Z1.out).1).trans Z1.out
  replace Yv60 : Aside (v27.heap[v5.heap.size]? = some (.cells #[.int .i64 61, .int .i64 40, .int .i64 3, .bool true, .bool false, .bool false] 30 (0, 0))) := (Hv27.block _ (Array.getElem?_eq_some_iff.1 Yv60.out).1).trans Yv60.out
  replace Yv140 : Aside (v27.heap[v13.heap.size]? = some (.cells #[.slice al3 nl3 cl3, .slice ad3 nd3 cd3, .slice ai3 ni3 ci3, .int .i64 nx3, .int .i64 1, .bool true, .slice aw3 2 cw3] 51 (0, 0))) := (Hv27.block _ (Array.getElem?_eq_some_iff.1 Yv140.out).1).trans Yv140.out
  replace Yv260 : Aside (v27.heap[v25.heap.size]? = some (.cells #[.slice (some ⟨bl4, ol4, none⟩) 2 cl4, .slice ad4 nd4 cd4, .slice ai4 ni4 ci4, .int .i64 0, .int .i64 rd4, .bool ov4, .slice aw4 nw4 cw4] 51 (0, 0))) := (Hv27.block _ (Array.getElem?_eq_some_iff.1 Yv260.out).1).trans Yv260.out
  replace q41 : Aside (v27.cell? ⟨bl4, ol4 + 1, none⟩ = some (.int .i64 41)) := keepc Hv27 q41.out
  replace f40 : Aside (v27.cell? ⟨bf4, of4, none⟩ = some (.int .i64 1)) := keepc Hv27 f40.out
  replace f41 : Aside (v27.cell? ⟨bf4, of4 + 1, none⟩ = some (.int .i64 (-1))) := keepc Hv27 f41.out
  replace f42 : Aside (v27.cell? ⟨bf4, of4 + 2, none⟩ = some (.int .i64 30)) := keepc Hv27 f42.out
  replace f45 : Aside (v27.cell? ⟨bf4, of4 + 3 + 2, none⟩ = some (.int .i64 31)) := keepc Hv27 f45.out
  replace ll4 : bl4 < v27.heap.size := Nat.lt_of_lt_of_le ll4 Hv27.size
  replace lf4 : bf4 < v27.heap.size := Nat.lt_of_lt_of_le lf4 Hv27.size
  clear Bv26 Hv27
  go_wp2_with fail
  obtain ⟨v28, hv28⟩ : ∃ u, u = v27.alloc (.cells #[.int .i64 0, .int .i64 0, .int .i64 1, .int .i64 1, .int .i64 0, .int .i64 1, .int .i64 0, .int .i64 0] 3) := ⟨_, rfl⟩
  have Lv28 : Below v27.heap.size v27 v28 := by rw [hv28]; exact (Below.refl _ _).alloc (Nat.le_refl _) _
  have Yv280 : Aside (v28.heap[v27.heap.size]? = some (.cells #[.int .i64 0, .int .i64 0, .int .i64 1, .int .i64 1, .int .i64 0, .int .i64 1, .int .i64 0, .int .i64 0] 3 (0, 0))) := by rw [hv28]; exact World.alloc_heap_new' _ _ _ (by simp)
  rw [← hv28]
  clear hv28
  have Bv28 : Aside (Below w.heap.size w v28) := Bv27.out.trans (Lv28.mono Bv27.out.size)
  replace Z1 : Aside (v28.heap[R1]? = some (.cells #[.int .i64 101, .int .i64 0, .int .i64 2, .bool true, .bool true, .bool false] 30 (0, 0))) := (Lv28.block _ (Array.getElem?_eq_some_iff.1 Z1.out).1).trans Z1.out
  replace Yv60 : Aside (v28.heap[v5.heap.size]? = some (.cells #[.int .i64 61, .int .i64 40, .int .i64 3, .bool true, .bool false, .bool false] 30 (0, 0))) := (Lv28.block _ (Array.getElem?_eq_some_iff.1 Yv60.out).1).trans Yv60.out
  replace Yv140 : Aside (v28.heap[v13.heap.size]? = some (.cells #[.slice al3 nl3 cl3, .slice ad3 nd3 cd3, .slice ai3 ni3 ci3, .int .i64 nx3, .int .i64 1, .bool true, .slice aw3 2 cw3] 51 (0, 0))) := (Lv28.block _ (Array.getElem?_eq_some_iff.1 Yv140.out).1).trans Yv140.out
  replace Yv260 : Aside (v28.heap[v25.heap.size]? = some (.cells #[.slice (some ⟨bl4, ol4, none⟩) 2 cl4, .slice ad4 nd4 cd4, .slice ai4 ni4 ci4, .int .i64 0, .int .i64 rd4, .bool ov4, .slice aw4 nw4 cw4] 51 (0, 0))) := (Lv28.block _ (Array.getElem?_eq_some_iff.1 Yv260.out).1).trans Yv260.out
  replace q41 : Aside (v28.cell? ⟨bl4, ol4 + 1, none⟩ = some (.int .i64 41)) := keepc Lv28 q41.out
  replace f40 : Aside (v28.cell? ⟨bf4, of4, none⟩ = some (.int .i64 1)) := keepc Lv28 f40.out
  replace f41 : Aside (v28.cell? ⟨bf4, of4 + 1, none⟩ = some (.int .i64 (-1))) := keepc Lv28 f41.out
  replace f42 : Aside (v28.cell? ⟨bf4, of4 + 2, none⟩ = some (.int .i64 30)) := keepc Lv28 f42.out
  replace f45 : Aside (v28.cell? ⟨bf4, of4 + 3 + 2, none⟩ = some (.int .i64 31)) := keepc Lv28 f45.out
  replace ll4 : bl4 < v28.heap.size := Nat.lt_of_lt_of_le ll4 Lv28.size
  replace lf4 : bf4 < v28.heap.size := Nat.lt_of_lt_of_le lf4 Lv28.size
  clear Bv27 Lv28
  have x : Calls Try.prog 31 #[.agg #[.int .i64 2, .int .i64 2, .int .i64 2, .int .i64 2, .int .i64 0], .slice (some ⟨v27.heap.size, 0, none⟩) 8 8] v28 (Ret (.tuple #[.agg #[.int .i64 2, .int .i64 1, .int .i64 3, .int .i64 1, .int .i64 (-1), .int .i64 0], .int .i64 0, .int .i64 0]) v28) := by
   have x := Match_any ⟨2, 2, 2, 2, 0⟩ (.slice (some ⟨v27.heap.size, 0, none⟩) 8 8) [0, 0, 1, 1, 0, 1, 0, 0] v28 (sl_blk (enc := eI) (xs := [0, 0, 1, 1, 0, 1, 0, 0]) (fun _ => rfl) (by decide) Yv280.out 8) (by decide)
   rw [ex_matchA] at x
   exact x
  refine x.mono ?_
  rintro e v29 ⟨rfl, Hv29⟩
  clear x
  clear Yv280
  have Bv29 : Aside (Below w.heap.size w v29) := Bv28.out.trans (Hv29.mono Bv28.out.size)
  replace Z1 : Aside (v29.heap[R1]? = some (.cells #[.int .i64 101, .int .i64 0, .int .i64 2, .bool true, .bool true, .bool false] 30 (0, 0))) := (Hv29.block _ (Array.getElem?_eq_some_iff.1 Z1.out).1).trans Z1.out
  replace Yv60 : Aside (v29.heap[v5.heap.size]? = some (.cells #[.int .i64 61, .int .i64 40, .int .i64 3, .bool true, .bool false, .bool false] 30 (0, 0))) := (Hv29.block _ (Array.getElem?_eq_some_iff.1 Yv60.out).1).trans Yv60.out
  replace Yv140 : Aside (v29.heap[v13.heap.size]? = some (.cells #[.slice al3 nl3 cl3, .slice ad3 nd3 cd3, .slice ai3 ni3 ci3, .int .i64 nx3, .int .i64 1, .bool true, .slice aw3 2 cw3] 51 (0, 0))) := (Hv29.block _ (Array.getElem?_eq_some_iff.1 Yv140.out).1).trans Yv140.out
  replace Yv260 : Aside (v29.heap[v25.heap.size]? = some (.cells #[.slice (some ⟨bl4, ol4, none⟩) 2 cl4, .slice ad4 nd4 cd4, .slice ai4 ni4 ci4, .int .i64 0, .int .i64 rd4, .bool ov4, .slice aw4 nw4 cw4] 51 (0, 0))) := (Hv29.block _ (Array.getElem?_eq_some_iff.1 Yv260.out).1).trans Yv260.out
  replace q41 : Aside (v29.cell? ⟨bl4, ol4 + 1, none⟩ = some (.int .i64 41)) := keepc Hv29 q41.out
  replace f40 : Aside (v29.cell? ⟨bf4, of4, none⟩ = some (.int .i64 1)) := keepc Hv29 f40.out
  replace f41 : Aside (v29.cell? ⟨bf4, of4 + 1, none⟩ = some (.int .i64 (-1))) := keepc Hv29 f41.out
  replace f42 : Aside (v29.cell? ⟨bf4, of4 + 2, none⟩ = some (.int .i64 30)) := keepc Hv29 f42.out
  replace f45 : Aside (v29.cell? ⟨bf4, of4 + 3 + 2, none⟩ = some (.int .i64 31)) := keepc Hv29 f45.out
  replace ll4 : bl4 < v29.heap.size := Nat.lt_of_lt_of_le ll4 Hv29.size
  replace lf4 : bf4 < v29.heap.size := Nat.lt_of_lt_of_le lf4 Hv29.size
  clear Bv28 Hv29
  go_wp2_with fail
  obtain ⟨v30, hv30⟩ : ∃ u, u = v29.alloc (.cells #[.int .i64 2, .int .i64 1, .int .i64 3, .int .i64 1, .int .i64 (-1), .int .i64 0] 71) := ⟨_, rfl⟩
  have Lv30 : Below v29.heap.size v29 v30 := by rw [hv30]; exact (Below.refl _ _).alloc (Nat.le_refl _) _
  have Yv300 : Aside (v30.heap[v29.heap.size]? = some (.cells #[.int .i64 2, .int .i64 1, .int .i64 3, .int .i64 1, .int .i64 (-1), .int .i64 0] 71 (0, 0))) := by rw [hv30]; exact World.alloc_heap_new' _ _ _ (by simp)
  rw [← hv30]
  clear hv30
  have Bv30 : Aside (Below w.heap.size w v30) := Bv29.out.trans (Lv30.mono Bv29.out.size)
  replace Z1 : Aside (v30.heap[R1]? = some (.cells #[.int .i64 101, .int .i64 0, .int .i64 2, .bool true, .bool true, .bool false] 30 (0, 0))) := (Lv30.block _ (Array.getElem?_eq_some_iff.1 Z1.out).1).trans Z1.out
  replace Yv60 : Aside (v30.heap[v5.heap.size]? = some (.cells #[.int .i64 61, .int .i64 40, .int .i64 3, .bool true, .bool false, .bool false] 30 (0, 0))) := (Lv30.block _ (Array.getElem?_eq_some_iff.1 Yv60.out).1).trans Yv60.out
  replace Yv140 : Aside (v30.heap[v13.heap.size]? = some (.cells #[.slice al3 nl3 cl3, .slice ad3 nd3 cd3, .slice ai3 ni3 ci3, .int .i64 nx3, .int .i64 1, .bool true, .slice aw3 2 cw3] 51 (0, 0))) := (Lv30.block _ (Array.getElem?_eq_some_iff.1 Yv140.out).1).trans Yv140.out
  replace Yv260 : Aside (v30.heap[v25.heap.size]? = some (.cells #[.slice (some ⟨bl4, ol4, none⟩) 2 cl4, .slice ad4 nd4 cd4, .slice ai4 ni4 ci4, .int .i64 0, .int .i64 rd4, .bool ov4, .slice aw4 nw4 cw4] 51 (0, 0))) := (Lv30.block _ (Array.getElem?_eq_some_iff.1 Yv260.out).1).trans Yv260.out
  replace q41 : Aside (v30.cell? ⟨bl4, ol4 + 1, none⟩ = some (.int .i64 41)) := keepc Lv30 q41.out
  replace f40 : Aside (v30.cell? ⟨bf4, of4, none⟩ = some (.int .i64 1)) := keepc Lv30 f40.out
  replace f41 : Aside (v30.cell? ⟨bf4, of4 + 1, none⟩ = some (.int .i64 (-1))) := keepc Lv30 f41.out
  replace f42 : Aside (v30.cell? ⟨bf4, of4 + 2, none⟩ = some (.int .i64 30)) := keepc Lv30 f42.out
  replace f45 : Aside (v30.cell? ⟨bf4, of4 + 3 + 2, none⟩ = some (.int .i64 31)) := keepc Lv30 f45.out
  replace ll4 : bl4 < v30.heap.size := Nat.lt_of_lt_of_le ll4 Lv30.size
  replace lf4 : bf4 < v30.heap.size := Nat.lt_of_lt_of_le lf4 Lv30.size
  clear Bv29 Lv30
  refine (two_any false _).mono ?_
  rintro e v31 ⟨Hv31, xv31, rfl, hT⟩
  have Bv31 : Aside (Below w.heap.size w v31) := Bv30.out.trans (Hv31.mono Bv30.out.size)
  replace Z1 : Aside (v31.heap[R1]? = some (.cells #[.int .i64 101, .int .i64 0, .int .i64 2, .bool true, .bool true, .bool false] 30 (0, 0))) := (Hv31.block _ (Array.getElem?_eq_some_iff.1 Z1.out).1).trans Z1.out
  replace Yv60 : Aside (v31.heap[v5.heap.size]? = some (.cells #[.int .i64 61, .int .i64 40, .int .i64 3, .bool true, .bool false, .bool false] 30 (0, 0))) := (Hv31.block _ (Array.getElem?_eq_some_iff.1 Yv60.out).1).trans Yv60.out
  replace Yv140 : Aside (v31.heap[v13.heap.size]? = some (.cells #[.slice al3 nl3 cl3, .slice ad3 nd3 cd3, .slice ai3 ni3 ci3, .int .i64 nx3, .int .i64 1, .bool true, .slice aw3 2 cw3] 51 (0, 0))) := (Hv31.block _ (Array.getElem?_eq_some_iff.1 Yv140.out).1).trans Yv140.out
  replace Yv260 : Aside (v31.heap[v25.heap.size]? = some (.cells #[.slice (some ⟨bl4, ol4, none⟩) 2 cl4, .slice ad4 nd4 cd4, .slice ai4 ni4 ci4, .int .i64 0, .int .i64 rd4, .bool ov4, .slice aw4 nw4 cw4] 51 (0, 0))) := (Hv31.block _ (Array.getElem?_eq_some_iff.1 Yv260.out).1).trans Yv260.out
  replace Yv300 : Aside (v31.heap[v29.heap.size]? = some (.cells #[.int .i64 2, .int .i64 1, .int .i64 3, .int .i64 1, .int .i64 (-1), .int .i64 0] 71 (0, 0))) := (Hv31.block _ (Array.getElem?_eq_some_iff.1 Yv300.out).1).trans Yv300.out
  replace q41 : Aside (v31.cell? ⟨bl4, ol4 + 1, none⟩ = some (.int .i64 41)) := keepc Hv31 q41.out
  replace f40 : Aside (v31.cell? ⟨bf4, of4, none⟩ = some (.int .i64 1)) := keepc Hv31 f40.out
  replace f41 : Aside (v31.cell? ⟨bf4, of4 + 1, none⟩ = some (.int .i64 (-1))) := keepc Hv31 f41.out
  replace f42 : Aside (v31.cell? ⟨bf4, of4 + 2, none⟩ = some (.int .i64 30)) := keepc Hv31 f42.out
  replace f45 : Aside (v31.cell? ⟨bf4, of4 + 3 + 2, none⟩ = some (.int .i64 31)) := keepc Hv31 f45.out
  replace ll4 : bl4 < v31.heap.size := Nat.lt_of_lt_of_le ll4 Hv31.size
  replace lf4 : bf4 < v31.heap.size := Nat.lt_of_lt_of_le lf4 Hv31.size
  clear Bv30 Hv31
  obtain ⟨b7, rfl, hbb7⟩ := hT
  have Tb7 : Aside (v31.heap[b7]? = some (.cells #[.int .i64 101, .int .i64 0, .int .i64 1, .int .i64 101, .int .i64 0, .int .i64 1] 24 (0, 0))) := hbb7
  clear hbb7
  go_wp2_with fail
  obtain ⟨v32, hv32⟩ : ∃ u, u = v31.alloc (.cells #[.int .i64 320, .int .i64 101, .int .i64 0] 34) := ⟨_, rfl⟩
  have Lv32 : Below v31.heap.size v31 v32 := by rw [hv32]; exact (Below.refl _ _).alloc (Nat.le_refl _) _
  have Yv320 : Aside (v32.heap[v31.heap.size]? = some (.cells #[.int .i64 320, .int .i64 101, .int .i64 0] 34 (0, 0))) := by rw [hv32]; exact World.alloc_heap_new' _ _ _ (by simp)
  rw [← hv32]
  clear hv32
  have Bv32 : Aside (Below w.heap.size w v32) := Bv31.out.trans (Lv32.mono Bv31.out.size)
  replace Z1 : Aside (v32.heap[R1]? = some (.cells #[.int .i64 101, .int .i64 0, .int .i64 2, .bool true, .bool true, .bool false] 30 (0, 0))) := (Lv32.block _ (Array.getElem?_eq_some_iff.1 Z1.out).1).trans Z1.out
  replace Yv60 : Aside (v32.heap[v5.heap.size]? = some (.cells #[.int .i64 61, .int .i64 40, .int .i64 3, .bool true, .bool false, .bool false] 30 (0, 0))) := (Lv32.block _ (Array.getElem?_eq_some_iff.1 Yv60.out).1).trans Yv60.out
  replace Yv140 : Aside (v32.heap[v13.heap.size]? = some (.cells #[.slice al3 nl3 cl3, .slice ad3 nd3 cd3, .slice ai3 ni3 ci3, .int .i64 nx3, .int .i64 1, .bool true, .slice aw3 2 cw3] 51 (0, 0))) := (Lv32.block _ (Array.getElem?_eq_some_iff.1 Yv140.out).1).trans Yv140.out
  replace Yv260 : Aside (v32.heap[v25.heap.size]? = some (.cells #[.slice (some ⟨bl4, ol4, none⟩) 2 cl4, .slice ad4 nd4 cd4, .slice ai4 ni4 ci4, .int .i64 0, .int .i64 rd4, .bool ov4, .slice aw4 nw4 cw4] 51 (0, 0))) := (Lv32.block _ (Array.getElem?_eq_some_iff.1 Yv260.out).1).trans Yv260.out
  replace Yv300 : Aside (v32.heap[v29.heap.size]? = some (.cells #[.int .i64 2, .int .i64 1, .int .i64 3, .int .i64 1, .int .i64 (-1), .int .i64 0] 71 (0, 0))) := (Lv32.block _ (Array.getElem?_eq_some_iff.1 Yv300.out).1).trans Yv300.out
  replace Tb7 : Aside (v32.heap[b7]? = some (.cells #[.int .i64 101, .int .i64 0, .int .i64 1, .int .i64 101, .int .i64 0, .int .i64 1] 24 (0, 0))) := (Lv32.block _ (Array.getElem?_eq_some_iff.1 Tb7.out).1).trans Tb7.out
  replace q41 : Aside (v32.cell? ⟨bl4, ol4 + 1, none⟩ = some (.int .i64 41)) := keepc Lv32 q41.out
  replace f40 : Aside (v32.cell? ⟨bf4, of4, none⟩ = some (.int .i64 1)) := keepc Lv32 f40.out
  replace f41 : Aside (v32.cell? ⟨bf4, of4 + 1, none⟩ = some (.int .i64 (-1))) := keepc Lv32 f41.out
  replace f42 : Aside (v32.cell? ⟨bf4, of4 + 2, none⟩ = some (.int .i64 30)) := keepc Lv32 f42.out
  replace f45 : Aside (v32.cell? ⟨bf4, of4 + 3 + 2, none⟩ = some (.int .i64 31)) := keepc Lv32 f45.out
  replace ll4 : bl4 < v32.heap.size := Nat.lt_of_lt_of_le ll4 Lv32.size
  replace lf4 : bf4 < v32.heap.size := Nat.lt_of_lt_of_le lf4 Lv32.size
  clear Bv31 Lv32
  refine (beds_any (some ⟨v31.heap.size, 0, none⟩) 3 3 _).mono ?_
  rintro e v33 ⟨rfl, Hv33⟩
  have Bv33 : Aside (Below w.heap.size w v33) := Bv32.out.trans (Hv33.mono Bv32.out.size)
  replace Z1 : Aside (v33.heap[R1]? = some (.cells #[.int .i64 101, .int .i64 0, .int .i64 2, .bool true, .bool true, .bool false] 30 (0, 0))) := (Hv33.block _ (Array.getElem?_eq_some_iff.1 Z1.out).1).trans Z1.out
  replace Yv60 : Aside (v33.heap[v5.heap.size]? = some (.cells #[.int .i64 61, .int .i64 40, .int .i64 3, .bool true, .bool false, .bool false] 30 (0, 0))) := (Hv33.block _ (Array.getElem?_eq_some_iff.1 Yv60.out).1).trans Yv60.out
  replace Yv140 : Aside (v33.heap[v13.heap.size]? = some (.cells #[.slice al3 nl3 cl3, .slice ad3 nd3 cd3, .slice ai3 ni3 ci3, .int .i64 nx3, .int .i64 1, .bool true, .slice aw3 2 cw3] 51 (0, 0))) := (Hv33.block _ (Array.getElem?_eq_some_iff.1 Yv140.out).1).trans Yv140.out
  replace Yv260 : Aside (v33.heap[v25.heap.size]? = some (.cells #[.slice (some ⟨bl4, ol4, none⟩) 2 cl4, .slice ad4 nd4 cd4, .slice ai4 ni4 ci4, .int .i64 0, .int .i64 rd4, .bool ov4, .slice aw4 nw4 cw4] 51 (0, 0))) := (Hv33.block _ (Array.getElem?_eq_some_iff.1 Yv260.out).1).trans Yv260.out
  replace Yv300 : Aside (v33.heap[v29.heap.size]? = some (.cells #[.int .i64 2, .int .i64 1, .int .i64 3, .int .i64 1, .int .i64 (-1), .int .i64 0] 71 (0, 0))) := (Hv33.block _ (Array.getElem?_eq_some_iff.1 Yv300.out).1).trans Yv300.out
  replace Tb7 : Aside (v33.heap[b7]? = some (.cells #[.int .i64 101, .int .i64 0, .int .i64 1, .int .i64 101, .int .i64 0, .int .i64 1] 24 (0, 0))) := (Hv33.block _ (Array.getElem?_eq_some_iff.1 Tb7.out).1).trans Tb7.out
  replace Yv320 : Aside (v33.heap[v31.heap.size]? = some (.cells #[.int .i64 320, .int .i64 101, .int .i64 0] 34 (0, 0))) := (Hv33.block _ (Array.getElem?_eq_some_iff.1 Yv320.out).1).trans Yv320.out
  replace q41 : Aside (v33.cell? ⟨bl4, ol4 + 1, none⟩ = some (.int .i64 41)) := keepc Hv33 q41.out
  replace f40 : Aside (v33.cell? ⟨bf4, of4, none⟩ = some (.int .i64 1)) := keepc Hv33 f40.out
  replace f41 : Aside (v33.cell? ⟨bf4, of4 + 1, none⟩ = some (.int .i64 (-1))) := keepc Hv33 f41.out
  replace f42 : Aside (v33.cell? ⟨bf4, of4 + 2, none⟩ = some (.int .i64 30)) := keepc Hv33 f42.out
  replace f45 : Aside (v33.cell? ⟨bf4, of4 + 3 + 2, none⟩ = some (.int .i64 31)) := keepc Hv33 f45.out
  replace ll4 : bl4 < v33.heap.size := Nat.lt_of_lt_of_le ll4 Hv33.size
  replace lf4 : bf4 < v33.heap.size := Nat.lt_of_lt_of_le lf4 Hv33.size
  clear Bv32 Hv33
  go_wp2_with fail
  obtain ⟨v34, hv34⟩ : ∃ u, u = v33.alloc (.cells #[.int .i64 0, .int .i64 0, .int .i64 0] 34) := ⟨_, rfl⟩
  have Lv34 : Below v33.heap.size v33 v34 := by rw [hv34]; exact (Below.refl _ _).alloc (Nat.le_refl _) _
  have Yv340 : Aside (v34.heap[v33.heap.size]? = some (.cells #[.int .i64 0, .int .i64 0, .int .i64 0] 34 (0, 0))) := by rw [hv34]; exact World.alloc_heap_new' _ _ _ (by simp)
  rw [← hv34]
  clear hv34
  have Bv34 : Aside (Below w.heap.size w v34) := Bv33.out.trans (Lv34.mono Bv33.out.size)
  replace Z1 : Aside (v34.heap[R1]? = some (.cells #[.int .i64 101, .int .i64 0, .int .i64 2, .bool true, .bool true, .bool false] 30 (0, 0))) := (Lv34.block _ (Array.getElem?_eq_some_iff.1 Z1.out).1).trans Z1.out
  replace Yv60 : Aside (v34.heap[v5.heap.size]? = some (.cells #[.int .i64 61, .int .i64 40, .int .i64 3, .bool true, .bool false, .bool false] 30 (0, 0))) := (Lv34.block _ (Array.getElem?_eq_some_iff.1 Yv60.out).1).trans Yv60.out
  replace Yv140 : Aside (v34.heap[v13.heap.size]? = some (.cells #[.slice al3 nl3 cl3, .slice ad3 nd3 cd3, .slice ai3 ni3 ci3, .int .i64 nx3, .int .i64 1, .bool true, .slice aw3 2 cw3] 51 (0, 0))) := (Lv34.block _ (Array.getElem?_eq_some_iff.1 Yv140.out).1).trans Yv140.out
  replace Yv260 : Aside (v34.heap[v25.heap.size]? = some (.cells #[.slice (some ⟨bl4, ol4, none⟩) 2 cl4, .slice ad4 nd4 cd4, .slice ai4 ni4 ci4, .int .i64 0, .int .i64 rd4, .bool ov4, .slice aw4 nw4 cw4] 51 (0, 0))) := (Lv34.block _ (Array.getElem?_eq_some_iff.1 Yv260.out).1).trans Yv260.out
  replace Yv300 : Aside (v34.heap[v29.heap.size]? = some (.cells #[.int .i64 2, .int .i64 1, .int .i64 3, .int .i64 1, .int .i64 (-1), .int .i64 0] 71 (0, 0))) := (Lv34.block _ (Array.getElem?_eq_some_iff.1 Yv300.out).1).trans Yv300.out
  replace Tb7 : Aside (v34.heap[b7]? = some (.cells #[.int .i64 101, .int .i64 0, .int .i64 1, .int .i64 101, .int .i64 0, .int .i64 1] 24 (0, 0))) := (Lv34.block _ (Array.getElem?_eq_some_iff.1 Tb7.out).1).trans Tb7.out
  replace Yv320 : Aside (v34.heap[v31.heap.size]? = some (.cells #[.int .i64 320, .int .i64 101, .int .i64 0] 34 (0, 0))) := (Lv34.block _ (Array.getElem?_eq_some_iff.1 Yv320.out).1).trans Yv320.out
  replace q41 : Aside (v34.cell? ⟨bl4, ol4 + 1, none⟩ = some (.int .i64 41)) := keepc Lv34 q41.out
  replace f40 : Aside (v34.cell? ⟨bf4, of4, none⟩ = some (.int .i64 1)) := keepc Lv34 f40.out
  replace f41 : Aside (v34.cell? ⟨bf4, of4 + 1, none⟩ = some (.int .i64 (-1))) := keepc Lv34 f41.out
  replace f42 : Aside (v34.cell? ⟨bf4, of4 + 2, none⟩ = some (.int .i64 30)) := keepc Lv34 f42.out
  replace f45 : Aside (v34.cell? ⟨bf4, of4 + 3 + 2, none⟩ = some (.int .i64 31)) := keepc Lv34 f45.out
  replace ll4 : bl4 < v34.heap.size := Nat.lt_of_lt_of_le ll4 Lv34.size
  replace lf4 : bf4 < v34.heap.size := Nat.lt_of_lt_of_le lf4 Lv34.size
  clear Bv33 Lv34
  refine (beds_any (some ⟨v33.heap.size, 0, none⟩) 3 3 _).mono ?_
  rintro e v35 ⟨rfl, Hv35⟩
  have Bv35 : Aside (Below w.heap.size w v35) := Bv34.out.trans (Hv35.mono Bv34.out.size)
  replace Z1 : Aside (v35.heap[R1]? = some (.cells #[.int .i64 101, .int .i64 0, .int .i64 2, .bool true, .bool true, .bool false] 30 (0, 0))) := (Hv35.block _ (Array.getElem?_eq_some_iff.1 Z1.out).1).trans Z1.out
  replace Yv60 : Aside (v35.heap[v5.heap.size]? = some (.cells #[.int .i64 61, .int .i64 40, .int .i64 3, .bool true, .bool false, .bool false] 30 (0, 0))) := (Hv35.block _ (Array.getElem?_eq_some_iff.1 Yv60.out).1).trans Yv60.out
  replace Yv140 : Aside (v35.heap[v13.heap.size]? = some (.cells #[.slice al3 nl3 cl3, .slice ad3 nd3 cd3, .slice ai3 ni3 ci3, .int .i64 nx3, .int .i64 1, .bool true, .slice aw3 2 cw3] 51 (0, 0))) := (Hv35.block _ (Array.getElem?_eq_some_iff.1 Yv140.out).1).trans Yv140.out
  replace Yv260 : Aside (v35.heap[v25.heap.size]? = some (.cells #[.slice (some ⟨bl4, ol4, none⟩) 2 cl4, .slice ad4 nd4 cd4, .slice ai4 ni4 ci4, .int .i64 0, .int .i64 rd4, .bool ov4, .slice aw4 nw4 cw4] 51 (0, 0))) := (Hv35.block _ (Array.getElem?_eq_some_iff.1 Yv260.out).1).trans Yv260.out
  replace Yv300 : Aside (v35.heap[v29.heap.size]? = some (.cells #[.int .i64 2, .int .i64 1, .int .i64 3, .int .i64 1, .int .i64 (-1), .int .i64 0] 71 (0, 0))) := (Hv35.block _ (Array.getElem?_eq_some_iff.1 Yv300.out).1).trans Yv300.out
  replace Tb7 : Aside (v35.heap[b7]? = some (.cells #[.int .i64 101, .int .i64 0, .int .i64 1, .int .i64 101, .int .i64 0, .int .i64 1] 24 (0, 0))) := (Hv35.block _ (Array.getElem?_eq_some_iff.1 Tb7.out).1).trans Tb7.out
  replace Yv320 : Aside (v35.heap[v31.heap.size]? = some (.cells #[.int .i64 320, .int .i64 101, .int .i64 0] 34 (0, 0))) := (Hv35.block _ (Array.getElem?_eq_some_iff.1 Yv320.out).1).trans Yv320.out
  replace Yv340 : Aside (v35.heap[v33.heap.size]? = some (.cells #[.int .i64 0, .int .i64 0, .int .i64 0] 34 (0, 0))) := (Hv35.block _ (Array.getElem?_eq_some_iff.1 Yv340.out).1).trans Yv340.out
  replace q41 : Aside (v35.cell? ⟨bl4, ol4 + 1, none⟩ = some (.int .i64 41)) := keepc Hv35 q41.out
  replace f40 : Aside (v35.cell? ⟨bf4, of4, none⟩ = some (.int .i64 1)) := keepc Hv35 f40.out
  replace f41 : Aside (v35.cell? ⟨bf4, of4 + 1, none⟩ = some (.int .i64 (-1))) := keepc Hv35 f41.out
  replace f42 : Aside (v35.cell? ⟨bf4, of4 + 2, none⟩ = some (.int .i64 30)) := keepc Hv35 f42.out
  replace f45 : Aside (v35.cell? ⟨bf4, of4 + 3 + 2, none⟩ = some (.int .i64 31)) := keepc Hv35 f45.out
  replace ll4 : bl4 < v35.heap.size := Nat.lt_of_lt_of_le ll4 Hv35.size
  replace lf4 : bf4 < v35.heap.size := Nat.lt_of_lt_of_le lf4 Hv35.size
  clear Bv34 Hv35
  go_wp2_with fail
  obtain ⟨v36, hv36⟩ : ∃ u, u = v35.alloc (.cells #[.int .i64 0, .slice (some ⟨v31.heap.size, 0, none⟩) 3 3, .int .i64 0, .slice (some ⟨v33.heap.size, 0, none⟩) 3 3] 84) := ⟨_, rfl⟩
  have Lv36 : Below v35.heap.size v35 v36 := by rw [hv36]; exact (Below.refl _ _).alloc (Nat.le_refl _) _
  have Yv360 : Aside (v36.heap[v35.heap.size]? = some (.cells #[.int .i64 0, .slice (some ⟨v31.heap.size, 0, none⟩) 3 3, .int .i64 0, .slice (some ⟨v33.heap.size, 0, none⟩) 3 3] 84 (0, 0))) := by rw [hv36]; exact World.alloc_heap_new' _ _ _ (by simp)
  rw [← hv36]
  clear hv36
  have Bv36 : Aside (Below w.heap.size w v36) := Bv35.out.trans (Lv36.mono Bv35.out.size)
  replace Z1 : Aside (v36.heap[R1]? = some (.cells #[.int .i64 101, .int .i64 0, .int .i64 2, .bool true, .bool true, .bool false] 30 (0, 0))) := (Lv36.block _ (Array.getElem?_eq_some_iff.1 Z1.out).1).trans Z1.out
  replace Yv60 : Aside (v36.heap[v5.heap.size]? = some (.cells #[.int .i64 61, .int .i64 40, .int .i64 3, .bool true, .bool false, .bool false] 30 (0, 0))) := (Lv36.block _ (Array.getElem?_eq_some_iff.1 Yv60.out).1).trans Yv60.out
  replace Yv140 : Aside (v36.heap[v13.heap.size]? = some (.cells #[.slice al3 nl3 cl3, .slice ad3 nd3 cd3, .slice ai3 ni3 ci3, .int .i64 nx3, .int .i64 1, .bool true, .slice aw3 2 cw3] 51 (0, 0))) := (Lv36.block _ (Array.getElem?_eq_some_iff.1 Yv140.out).1).trans Yv140.out
  replace Yv260 : Aside (v36.heap[v25.heap.size]? = some (.cells #[.slice (some ⟨bl4, ol4, none⟩) 2 cl4, .slice ad4 nd4 cd4, .slice ai4 ni4 ci4, .int .i64 0, .int .i64 rd4, .bool ov4, .slice aw4 nw4 cw4] 51 (0, 0))) := (Lv36.block _ (Array.getElem?_eq_some_iff.1 Yv260.out).1).trans Yv260.out
  replace Yv300 : Aside (v36.heap[v29.heap.size]? = some (.cells #[.int .i64 2, .int .i64 1, .int .i64 3, .int .i64 1, .int .i64 (-1), .int .i64 0] 71 (0, 0))) := (Lv36.block _ (Array.getElem?_eq_some_iff.1 Yv300.out).1).trans Yv300.out
  replace Tb7 : Aside (v36.heap[b7]? = some (.cells #[.int .i64 101, .int .i64 0, .int .i64 1, .int .i64 101, .int .i64 0, .int .i64 1] 24 (0, 0))) := (Lv36.block _ (Array.getElem?_eq_some_iff.1 Tb7.out).1).trans Tb7.out
  replace Yv320 : Aside (v36.heap[v31.heap.size]? = some (.cells #[.int .i64 320, .int .i64 101, .int .i64 0] 34 (0, 0))) := (Lv36.block _ (Array.getElem?_eq_some_iff.1 Yv320.out).1).trans Yv320.out
  replace Yv340 : Aside (v36.heap[v33.heap.size]? = some (.cells #[.int .i64 0, .int .i64 0, .int .i64 0] 34 (0, 0))) := (Lv36.block _ (Array.getElem?_eq_some_iff.1 Yv340.out).1).trans Yv340.out
  replace q41 : Aside (v36.cell? ⟨bl4, ol4 + 1, none⟩ = some (.int .i64 41)) := keepc Lv36 q41.out
  replace f40 : Aside (v36.cell? ⟨bf4, of4, none⟩ = some (.int .i64 1)) := keepc Lv36 f40.out
  replace f41 : Aside (v36.cell? ⟨bf4, of4 + 1, none⟩ = some (.int .i64 (-1))) := keepc Lv36 f41.out
  replace f42 : Aside (v36.cell? ⟨bf4, of4 + 2, none⟩ = some (.int .i64 30)) := keepc Lv36 f42.out
  replace f45 : Aside (v36.cell? ⟨bf4, of4 + 3 + 2, none⟩ = some (.int .i64 31)) := keepc Lv36 f45.out
  replace ll4 : bl4 < v36.heap.size := Nat.lt_of_lt_of_le ll4 Lv36.size
  replace lf4 : bf4 < v36.heap.size := Nat.lt_of_lt_of_le lf4 Lv36.size
  clear Bv35 Lv36
  have x : Calls Try.prog 22 #[.agg #[.slice (some ⟨b7, 0, none⟩) 2 2, .int .i64 0, .int .i64 0, .bool false], .slice (some ⟨v35.heap.size, 0, none⟩) 2 2] v36 (PlayOk (twoR false) exP2 v36) :=
   Play_any (twoR false) _ [(0, .slice (some ⟨v31.heap.size, 0, none⟩) 3 3, [320, 101, 0]), (0, .slice (some ⟨v33.heap.size, 0, none⟩) 3 3, [0, 0, 0])] _ v36 (two_sl false Tb7.out) (sl_blk (enc := encV) (xs := [(0, .slice (some ⟨v31.heap.size, 0, none⟩) 3 3, [320, 101, 0]), (0, .slice (some ⟨v33.heap.size, 0, none⟩) 3 3, [0, 0, 0])]) (fun _ => rfl) (by simp) Yv360.out 2) (fun x hx => by
    simp only [List.mem_cons, List.not_mem_nil, or_false] at hx
    rcases hx with rfl | rfl
    ·exact ⟨beds3 Yv320.out, bedsB (xs := [320, 101, 0]) (by decide)⟩
    ·exact ⟨beds3 Yv340.out, bedsB (xs := [0, 0, 0]) (by decide)⟩)
  refine x.mono ?_
  rintro e v37 hP
  clear x
  obtain ⟨Hv37, rfl⟩ := play2_ok hP
  clear hP
  clear Tb7
  clear Yv320
  clear Yv340
  clear Yv360
  have Bv37 : Aside (Below w.heap.size w v37) := Bv36.out.trans (Hv37.mono Bv36.out.size)
  replace Z1 : Aside (v37.heap[R1]? = some (.cells #[.int .i64 101, .int .i64 0, .int .i64 2, .bool true, .bool true, .bool false] 30 (0, 0))) := (Hv37.block _ (Array.getElem?_eq_some_iff.1 Z1.out).1).trans Z1.out
  replace Yv60 : Aside (v37.heap[v5.heap.size]? = some (.cells #[.int .i64 61, .int .i64 40, .int .i64 3, .bool true, .bool false, .bool false] 30 (0, 0))) := (Hv37.block _ (Array.getElem?_eq_some_iff.1 Yv60.out).1).trans Yv60.out
  replace Yv140 : Aside (v37.heap[v13.heap.size]? = some (.cells #[.slice al3 nl3 cl3, .slice ad3 nd3 cd3, .slice ai3 ni3 ci3, .int .i64 nx3, .int .i64 1, .bool true, .slice aw3 2 cw3] 51 (0, 0))) := (Hv37.block _ (Array.getElem?_eq_some_iff.1 Yv140.out).1).trans Yv140.out
  replace Yv260 : Aside (v37.heap[v25.heap.size]? = some (.cells #[.slice (some ⟨bl4, ol4, none⟩) 2 cl4, .slice ad4 nd4 cd4, .slice ai4 ni4 ci4, .int .i64 0, .int .i64 rd4, .bool ov4, .slice aw4 nw4 cw4] 51 (0, 0))) := (Hv37.block _ (Array.getElem?_eq_some_iff.1 Yv260.out).1).trans Yv260.out
  replace Yv300 : Aside (v37.heap[v29.heap.size]? = some (.cells #[.int .i64 2, .int .i64 1, .int .i64 3, .int .i64 1, .int .i64 (-1), .int .i64 0] 71 (0, 0))) := (Hv37.block _ (Array.getElem?_eq_some_iff.1 Yv300.out).1).trans Yv300.out
  replace q41 : Aside (v37.cell? ⟨bl4, ol4 + 1, none⟩ = some (.int .i64 41)) := keepc Hv37 q41.out
  replace f40 : Aside (v37.cell? ⟨bf4, of4, none⟩ = some (.int .i64 1)) := keepc Hv37 f40.out
  replace f41 : Aside (v37.cell? ⟨bf4, of4 + 1, none⟩ = some (.int .i64 (-1))) := keepc Hv37 f41.out
  replace f42 : Aside (v37.cell? ⟨bf4, of4 + 2, none⟩ = some (.int .i64 30)) := keepc Hv37 f42.out
  replace f45 : Aside (v37.cell? ⟨bf4, of4 + 3 + 2, none⟩ = some (.int .i64 31)) := keepc Hv37 f45.out
  replace ll4 : bl4 < v37.heap.size := Nat.lt_of_lt_of_le ll4 Hv37.size
  replace lf4 : bf4 < v37.heap.size := Nat.lt_of_lt_of_le lf4 Hv37.size
  clear Bv36 Hv37
  unfold zeroSt
  have ka0 := blk_cell Z1.out (i := 0) rfl
  have ka2 := blk_cell Z1.out (i := 2) rfl
  have ka4 := blk_cell Z1.out (i := 4) rfl
  have kb0 := blk_cell Yv60.out (i := 0) rfl
  have kb1 := blk_cell Yv60.out (i := 1) rfl
  have kb3 := blk_cell Yv60.out (i := 3) rfl
  have kc4 := blk_cell Yv140.out (i := 4) rfl
  have kc5 := blk_cell Yv140.out (i := 5) rfl
  have kc6 := blk_cell Yv140.out (i := 6) rfl
  have kd0 := blk_cell Yv260.out (i := 0) rfl
  have kd3 := blk_cell Yv260.out (i := 3) rfl
  have ke1 := blk_cell Yv300.out (i := 1) rfl
  have ke2 := blk_cell Yv300.out (i := 2) rfl
  have ke3 := blk_cell Yv300.out (i := 3) rfl
  have ke5 := blk_cell Yv300.out (i := 5) rfl
  have kf0 := q41.out
  have kf1 := f40.out
  have kf2 := f41.out
  have kf3 := f42.out
  have kf4 := f45.out
  have lt_Z1 := (Array.getElem?_eq_some_iff.1 Z1.out).1
  have lt_Yv60 := (Array.getElem?_eq_some_iff.1 Yv60.out).1
  have lt_Yv140 := (Array.getElem?_eq_some_iff.1 Yv140.out).1
  have lt_Yv260 := (Array.getElem?_eq_some_iff.1 Yv260.out).1
  have lt_Yv300 := (Array.getElem?_eq_some_iff.1 Yv300.out).1
  have hq := fun W => eqArr2 3 1 3 1 W
  go_wp2_with fail
  go_ret
  exact ⟨rfl, (Bv37.out.alloc Bv37.out.size _)⟩
end
end Go.Proofs.Ytnhjoebdmmelaaa
