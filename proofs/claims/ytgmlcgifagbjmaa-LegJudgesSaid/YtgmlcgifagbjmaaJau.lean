/- Leg: parts Gi, Gj, Gk, Ge. -/
import Derived.Test.YtgmlcgifagbjmaaJat
import Derived.Test.YtgmlcgifagbjmaaJas
set_option linter.unusedVariables false
set_option linter.unusedSimpArgs false
namespace Go.Proofs.Ytgmlcgifagbjmaa
section
open Go.RowKit Go.Maps Go.Sort Go.Shelf Go.Deep
section
variable {w w1 w2 w3 w4 w5 w6 w7 w8 wb : World} {r : LegR} {g : LegG} {es : List Nat} {k n off cp b bl ol ccl bd od ccd bi oi cci nw cw ne ce S O ag dg ig ac_ dc ic : Nat} {aw ae : Option Addr} {vb : Value} {rr rd nx l0 c1 c2 c3 tl ts td dt er d0 : Int} {rl : Nat → Int} {b0 ti tb tw : Bool}
set_option maxRecDepth 100000 in
set_option maxHeartbeats 16000000 in
theorem reg12 {ops : List Oper} {Q : Exit → Act → World → Prop} {a0 : Act} (HS3 : Aside (StB w r (.slice (some ⟨b, off, none⟩) n cp) k vb (rgC (⟨(k : Int), rr, false, rl, rd⟩ : RG) (.slice (some ⟨bl, ol, none⟩) n ccl) (.slice (some ⟨bd, od, none⟩) n ccd) (.slice (some ⟨bi, oi, none⟩) n cci) (.slice aw nw cw) (.slice ae ne ce)) w3)) (HAT : Aside (RfAt (w.heap.size + 1) w3 (.slice (some ⟨bl, ol, none⟩) n ccl) (.slice (some ⟨bd, od, none⟩) n ccd) (.slice (some ⟨bi, oi, none⟩) n cci) (.slice aw nw cw) (.slice ae ne ce) g es)) (HLN : Aside (g.left.length = n ∧ g.darts.length = n ∧ g.inn.length = n)) (HNL : Aside (g.left ≠ [] ∧ g.darts ≠ [] ∧ g.inn ≠ [])) (o0 : w3.cell? ⟨O, 0, none⟩ = some (.slice (some ⟨bl, ol, none⟩) n ccl)) (o1 : w3.cell? ⟨O, 1, none⟩ = some (.slice (some ⟨bd, od, none⟩) n ccd)) (o2 : w3.cell? ⟨O, 2, none⟩ = some (.slice (some ⟨bi, oi, none⟩) n cci)) (hOX : O ∉ [w.heap.size + 1]) (h8 : n ≤ 8) (hops : regOps 12 Try.f50 = some ops) (hsz0 : a0.tmps.size = 231) (hs4 : a0.tmps.getD 4 undef = .pointer (some ⟨w.heap.size + 1, 0, none⟩)) (hs13 : a0.tmps.getD 13 undef = .pointer (some ⟨O, 0, none⟩))
  (hrest : ∀ (ac : Act) (w4 : World), LaidG ops.toArray a0 (fun (i : Nat) (x : Value) (ww : World) => (match i with | 0 => ∃ g, x = .slice (some ⟨g, 0, none⟩) 0 0 ∧ ww.heap[g]? = some (.cells #[] 3 (0, 0)) | 1 => x = .pointer (some ⟨O, 0, none⟩) | 2 => x = .slice (some ⟨bl, ol, none⟩) n ccl | 3 => RowB ww 1 eI 3 x g.left ∧ ∀ gg m cc, x = rowV gg m cc → w3.heap.size ≤ gg | 4 => ∃ g, x = .slice (some ⟨g, 0, none⟩) 0 0 ∧ ww.heap[g]? = some (.cells #[] 3 (0, 0)) | 5 => x = .pointer (some ⟨O, 1, none⟩) | 6 => x = .slice (some ⟨bd, od, none⟩) n ccd | 7 => RowB ww 1 eI 3 x g.darts ∧ ∀ gg m cc, x = rowV gg m cc → w3.heap.size ≤ gg | 8 => ∃ g, x = .slice (some ⟨g, 0, none⟩) 0 0 ∧ ww.heap[g]? = some (.cells #[] 4 (0, 0)) | 9 => x = .pointer (some ⟨O, 2, none⟩) | 10 => x = .slice (some ⟨bi, oi, none⟩) n cci | 11 => RowB ww 1 eB 4 x g.inn ∧ ∀ gg m cc, x = rowV gg m cc → w3.heap.size ≤ gg | 12 => x = .pointer (some ⟨w.heap.size + 1, 0, none⟩) | 13 => x = .pointer (some ⟨w.heap.size + 1, 0, none⟩) | 14 => True | 15 => x = .pointer (some ⟨w.heap.size + 1, 0, none⟩) | 16 => x = .pointer (some ⟨w.heap.size + 1, 1, none⟩) | 17 => True | 18 => x = .pointer (some ⟨w.heap.size + 1, 0, none⟩) | 19 => x = .pointer (some ⟨w.heap.size + 1, 2, none⟩) | 20 => True | _ => True : Prop)) (C12 w r (.slice (some ⟨b, off, none⟩) n cp) k vb (⟨(k : Int), rr, false, rl, rd⟩ : RG) (.slice aw nw cw) (.slice ae ne ce) n w3) #[true, true, true, true, true, true, true, true, true, true, true, true, true, true, true, true, true, true, true, true, true] ac w4 → wpAny Try.prog .any ops.toArray Q 0 #[true, true, true, true, true, true, true, true, true, true, true, true, true, true, true, true, true, true, true, true, true] ac w4) : (Code.region 12 ops.toArray true).wp Try.prog Q a0 w3 := by
 (conv at hops => lhs; whnf)
 obtain rfl := Option.some.inj hops
 clear hops
 obtain ⟨i0, hi0, hz0, hz1, hz2⟩ := info_parts info_int
 obtain ⟨j0, hj0, jz0, jz1, jz2⟩ := info_parts info_bool
 refine region_laidK (RTy 108) (fl := 16) [true, true, true, true, true, true, true, true, true, true, true, true, true, true, true, true, true, true, true, true, true] 0 (fun (i : Nat) (x : Value) (ww : World) => (match i with | 0 => ∃ g, x = .slice (some ⟨g, 0, none⟩) 0 0 ∧ ww.heap[g]? = some (.cells #[] 3 (0, 0)) | 1 => x = .pointer (some ⟨O, 0, none⟩) | 2 => x = .slice (some ⟨bl, ol, none⟩) n ccl | 3 => RowB ww 1 eI 3 x g.left ∧ ∀ gg m cc, x = rowV gg m cc → w3.heap.size ≤ gg | 4 => ∃ g, x = .slice (some ⟨g, 0, none⟩) 0 0 ∧ ww.heap[g]? = some (.cells #[] 3 (0, 0)) | 5 => x = .pointer (some ⟨O, 1, none⟩) | 6 => x = .slice (some ⟨bd, od, none⟩) n ccd | 7 => RowB ww 1 eI 3 x g.darts ∧ ∀ gg m cc, x = rowV gg m cc → w3.heap.size ≤ gg | 8 => ∃ g, x = .slice (some ⟨g, 0, none⟩) 0 0 ∧ ww.heap[g]? = some (.cells #[] 4 (0, 0)) | 9 => x = .pointer (some ⟨O, 2, none⟩) | 10 => x = .slice (some ⟨bi, oi, none⟩) n cci | 11 => RowB ww 1 eB 4 x g.inn ∧ ∀ gg m cc, x = rowV gg m cc → w3.heap.size ≤ gg | 12 => x = .pointer (some ⟨w.heap.size + 1, 0, none⟩) | 13 => x = .pointer (some ⟨w.heap.size + 1, 0, none⟩) | 14 => True | 15 => x = .pointer (some ⟨w.heap.size + 1, 0, none⟩) | 16 => x = .pointer (some ⟨w.heap.size + 1, 1, none⟩) | 17 => True | 18 => x = .pointer (some ⟨w.heap.size + 1, 0, none⟩) | 19 => x = .pointer (some ⟨w.heap.size + 1, 2, none⟩) | 20 => True | _ => True : Prop)) (C12 w r (.slice (some ⟨b, off, none⟩) n cp) k vb (⟨(k : Int), rr, false, rl, rd⟩ : RG) (.slice aw nw cw) (.slice ae ne ce) n w3) (by kernel_rfl) rfl (by rw [hsz0]; decide +kernel) rfl (C12.start HS3.out _ _) ?mono ?step hrest
 case mono =>
  intro i x ww ww' hB h
  match i, h with
  | 0, h => exact (by obtain ⟨g, hx, hg⟩ := h; exact ⟨g, hx, hB.keep (by decide) hg⟩)
  | 1, h => exact h
  | 2, h => exact h
  | 3, h => exact ⟨h.1.rt hB (by decide), h.2⟩
  | 4, h => exact (by obtain ⟨g, hx, hg⟩ := h; exact ⟨g, hx, hB.keep (by decide) hg⟩)
  | 5, h => exact h
  | 6, h => exact h
  | 7, h => exact ⟨h.1.rt hB (by decide), h.2⟩
  | 8, h => exact (by obtain ⟨g, hx, hg⟩ := h; exact ⟨g, hx, hB.keep (by decide) hg⟩)
  | 9, h => exact h
  | 10, h => exact h
  | 11, h => exact ⟨h.1.rt hB (by decide), h.2⟩
  | 12, h => exact h
  | 13, h => exact h
  | 14, h => exact h
  | 15, h => exact h
  | 16, h => exact h
  | 17, h => exact h
  | 18, h => exact h
  | 19, h => exact h
  | 20, h => exact h
  | n + 21, h => exact h
 case step =>
  intro i o_ listed ac W hA ho hL he hcl hli hsz
  have hk4 : ac.tmps.getD 4 undef = .pointer (some ⟨w.heap.size + 1, 0, none⟩) := (hL.kept 4 (by decide +kernel)).trans hs4
  have hk13 : ac.tmps.getD 13 undef = .pointer (some ⟨O, 0, none⟩) := (hL.kept 13 (by decide +kernel)).trans hs13
  have k_o0 := hL.cls.out.cell (a := ⟨O, 0, none⟩) hOX o0
  have k_o1 := hL.cls.out.cell (a := ⟨O, 1, none⟩) hOX o1
  have k_o2 := hL.cls.out.cell (a := ⟨O, 2, none⟩) hOX o2
  match i, hA, ho with
  | 0, _, ho =>
   cases ho
   refine wpOp_plain rfl rfl ?_
   unfold Oper.wp
   go_simp
   have hBn : Below W.heap.size W (W.alloc (.cells #[] 3)) := (Below.refl _ _).alloc (Nat.le_refl _) _
   exact ⟨_, rfl, RTy.of_below hBn, C12.other (i := 0) (t := 73) hL.cls rfl hBn, _, rfl, World.alloc_heap_new _ _⟩
  | 1, _, ho =>
   cases ho
   refine wpOp_plain rfl rfl ?_
   unfold Oper.wp
   go_simp
   first | exact ⟨RTy.refl _ _, C12.other (i := 1) (t := 74) hL.cls rfl (Below.refl _ _)⟩ | exact ⟨_, rfl, RTy.refl _ _, C12.other (i := 1) (t := 74) hL.cls rfl (Below.refl _ _), rfl⟩
  | 2, _, ho =>
   cases ho
   have d1 : ac.tmps.getD 74 undef = .pointer (some ⟨O, 0, none⟩) := hL.new 1 _ 74 rfl (he ⟨1, .data⟩ (by simp) rfl) rfl
   refine wpOp_plain rfl rfl ?_
   unfold Oper.wp
   go_simp
   first | exact ⟨RTy.refl _ _, C12.other (i := 2) (t := 75) hL.cls rfl (Below.refl _ _)⟩ | exact ⟨_, rfl, RTy.refl _ _, C12.other (i := 2) (t := 75) hL.cls rfl (Below.refl _ _), rfl⟩
  | 3, _, ho =>
   cases ho
   obtain ⟨x0, hx0⟩ : ∃ x, ac.tmps.getD 73 undef = x := ⟨_, rfl⟩
   have d0 := hL.new 0 _ 73 rfl (he ⟨0, .data⟩ (by simp) rfl) rfl
   rw [hx0] at d0
   have d2 : ac.tmps.getD 75 undef = .slice (some ⟨bl, ol, none⟩) n ccl := hL.new 2 _ 75 rfl (he ⟨2, .data⟩ (by simp) rfl) rfl
   have hq : listed.getD 14 false = false := by
    cases hx : listed.getD 14 false with
    | false => rfl
    | true =>
     have h8 := hcl 14 _ rfl hx ⟨3, .data⟩ (by simp) rfl
     simp only [Array.getD_eq_getD_getElem?] at h8 hli
     rw [Array.getElem?_eq_getElem (show 3 < listed.size by rw [hsz]; decide)] at h8 hli
     rw [Option.getD_some] at h8 hli
     rw [h8] at hli
     exact absurd hli (by simp)
   obtain ⟨gg, rfl, hg⟩ := d0
   refine wpOp_plain rfl rfl ?_
   refine wp_append_new W (.tmp 73) (.tmp 75) 48 rfl 3 i0 (.int .i64 0) 1 8 Try.underlying48 hi0 hz0 hz1 hz2 rfl (by decide) gg hg (by rw [← hx0]; rfl) (vy := .slice (some ⟨bl, ol, none⟩) n ccl) (ys := g.left) (enc := eI) d2 ((HAT.out.outs hL.cls.out).sl.1) (fun _ => rfl) HNL.out.1 (by rw [HLN.out.1]; unfold maxLen; omega) (by rw [HLN.out.1]; omega) ?_
   intro c W' hrow hBn
   rw [HLN.out.1] at hrow ⊢
   exact ⟨_, rfl, RTy.of_below hBn, C12.at76 hL.cls (by rw [hL.size, hsz0]; exact (by decide : (76 : Nat) < 231)) hq hBn (fun h7 gd cd e80 => by have h9 := (hL.new 7 _ 80 rfl h7 rfl).1; rw [e80] at h9; obtain ⟨cs9, h9⟩ := h9.blk; exact (Array.getElem?_eq_some_iff.1 h9).1), hrow, fun gg m cc e => by simp only [Value.slice.injEq, Option.some.injEq, Addr.mk.injEq, and_true] at e; have := hL.cls.out.size; omega⟩
  | 4, _, ho =>
   cases ho
   refine wpOp_plain rfl rfl ?_
   unfold Oper.wp
   go_simp
   have hBn : Below W.heap.size W (W.alloc (.cells #[] 3)) := (Below.refl _ _).alloc (Nat.le_refl _) _
   exact ⟨_, rfl, RTy.of_below hBn, C12.other (i := 4) (t := 77) hL.cls rfl hBn, _, rfl, World.alloc_heap_new _ _⟩
  | 5, _, ho =>
   cases ho
   refine wpOp_plain rfl rfl ?_
   unfold Oper.wp
   go_simp
   first | exact ⟨RTy.refl _ _, C12.other (i := 5) (t := 78) hL.cls rfl (Below.refl _ _)⟩ | exact ⟨_, rfl, RTy.refl _ _, C12.other (i := 5) (t := 78) hL.cls rfl (Below.refl _ _), rfl⟩
  | 6, _, ho =>
   cases ho
   have d5 : ac.tmps.getD 78 undef = .pointer (some ⟨O, 1, none⟩) := hL.new 5 _ 78 rfl (he ⟨5, .data⟩ (by simp) rfl) rfl
   refine wpOp_plain rfl rfl ?_
   unfold Oper.wp
   go_simp
   first | exact ⟨RTy.refl _ _, C12.other (i := 6) (t := 79) hL.cls rfl (Below.refl _ _)⟩ | exact ⟨_, rfl, RTy.refl _ _, C12.other (i := 6) (t := 79) hL.cls rfl (Below.refl _ _), rfl⟩
  | 7, _, ho =>
   cases ho
   obtain ⟨x4, hx4⟩ : ∃ x, ac.tmps.getD 77 undef = x := ⟨_, rfl⟩
   have d4 := hL.new 4 _ 77 rfl (he ⟨4, .data⟩ (by simp) rfl) rfl
   rw [hx4] at d4
   have d6 : ac.tmps.getD 79 undef = .slice (some ⟨bd, od, none⟩) n ccd := hL.new 6 _ 79 rfl (he ⟨6, .data⟩ (by simp) rfl) rfl
   have hq : listed.getD 17 false = false := by
    cases hx : listed.getD 17 false with
    | false => rfl
    | true =>
     have h8 := hcl 17 _ rfl hx ⟨7, .data⟩ (by simp) rfl
     simp only [Array.getD_eq_getD_getElem?] at h8 hli
     rw [Array.getElem?_eq_getElem (show 7 < listed.size by rw [hsz]; decide)] at h8 hli
     rw [Option.getD_some] at h8 hli
     rw [h8] at hli
     exact absurd hli (by simp)
   obtain ⟨gg, rfl, hg⟩ := d4
   refine wpOp_plain rfl rfl ?_
   refine wp_append_new W (.tmp 77) (.tmp 79) 48 rfl 3 i0 (.int .i64 0) 1 8 Try.underlying48 hi0 hz0 hz1 hz2 rfl (by decide) gg hg (by rw [← hx4]; rfl) (vy := .slice (some ⟨bd, od, none⟩) n ccd) (ys := g.darts) (enc := eI) d6 ((HAT.out.outs hL.cls.out).sd.1) (fun _ => rfl) HNL.out.2.1 (by rw [HLN.out.2.1]; unfold maxLen; omega) (by rw [HLN.out.2.1]; omega) ?_
   intro c W' hrow hBn
   rw [HLN.out.2.1] at hrow ⊢
   exact ⟨_, rfl, RTy.of_below hBn, C12.at80 hL.cls (by rw [hL.size, hsz0]; exact (by decide : (80 : Nat) < 231)) hq hBn (fun h7 gd cd e80 => by have h9 := (hL.new 3 _ 76 rfl h7 rfl).1; rw [e80] at h9; obtain ⟨cs9, h9⟩ := h9.blk; exact (Array.getElem?_eq_some_iff.1 h9).1), hrow, fun gg m cc e => by simp only [Value.slice.injEq, Option.some.injEq, Addr.mk.injEq, and_true] at e; have := hL.cls.out.size; omega⟩
  | 8, _, ho =>
   cases ho
   refine wpOp_plain rfl rfl ?_
   unfold Oper.wp
   go_simp
   have hBn : Below W.heap.size W (W.alloc (.cells #[] 4)) := (Below.refl _ _).alloc (Nat.le_refl _) _
   exact ⟨_, rfl, RTy.of_below hBn, C12.other (i := 8) (t := 81) hL.cls rfl hBn, _, rfl, World.alloc_heap_new _ _⟩
  | 9, _, ho =>
   cases ho
   refine wpOp_plain rfl rfl ?_
   unfold Oper.wp
   go_simp
   first | exact ⟨RTy.refl _ _, C12.other (i := 9) (t := 82) hL.cls rfl (Below.refl _ _)⟩ | exact ⟨_, rfl, RTy.refl _ _, C12.other (i := 9) (t := 82) hL.cls rfl (Below.refl _ _), rfl⟩
  | 10, _, ho =>
   cases ho
   have d9 : ac.tmps.getD 82 undef = .pointer (some ⟨O, 2, none⟩) := hL.new 9 _ 82 rfl (he ⟨9, .data⟩ (by simp) rfl) rfl
   refine wpOp_plain rfl rfl ?_
   unfold Oper.wp
   go_simp
   first | exact ⟨RTy.refl _ _, C12.other (i := 10) (t := 83) hL.cls rfl (Below.refl _ _)⟩ | exact ⟨_, rfl, RTy.refl _ _, C12.other (i := 10) (t := 83) hL.cls rfl (Below.refl _ _), rfl⟩
  | 11, _, ho =>
   cases ho
   obtain ⟨x8, hx8⟩ : ∃ x, ac.tmps.getD 81 undef = x := ⟨_, rfl⟩
   have d8 := hL.new 8 _ 81 rfl (he ⟨8, .data⟩ (by simp) rfl) rfl
   rw [hx8] at d8
   have d10 : ac.tmps.getD 83 undef = .slice (some ⟨bi, oi, none⟩) n cci := hL.new 10 _ 83 rfl (he ⟨10, .data⟩ (by simp) rfl) rfl
   have hq : listed.getD 20 false = false := by
    cases hx : listed.getD 20 false with
    | false => rfl
    | true =>
     have h8 := hcl 20 _ rfl hx ⟨11, .data⟩ (by simp) rfl
     simp only [Array.getD_eq_getD_getElem?] at h8 hli
     rw [Array.getElem?_eq_getElem (show 11 < listed.size by rw [hsz]; decide)] at h8 hli
     rw [Option.getD_some] at h8 hli
     rw [h8] at hli
     exact absurd hli (by simp)
   obtain ⟨gg, rfl, hg⟩ := d8
   refine wpOp_plain rfl rfl ?_
   refine wp_append_new W (.tmp 81) (.tmp 83) 49 rfl 4 j0 (.bool false) 1 1 Try.underlying49 hj0 jz0 jz1 jz2 rfl (by decide) gg hg (by rw [← hx8]; rfl) (vy := .slice (some ⟨bi, oi, none⟩) n cci) (ys := g.inn) (enc := eB) d10 ((HAT.out.outs hL.cls.out).si.1) (fun _ => rfl) HNL.out.2.2 (by rw [HLN.out.2.2]; unfold maxLen; omega) (by rw [HLN.out.2.2]; omega) ?_
   intro c W' hrow hBn
   rw [HLN.out.2.2] at hrow ⊢
   exact ⟨_, rfl, RTy.of_below hBn, C12.at84 hL.cls hq hBn, hrow, fun gg m cc e => by simp only [Value.slice.injEq, Option.some.injEq, Addr.mk.injEq, and_true] at e; have := hL.cls.out.size; omega⟩
  | 12, _, ho =>
   cases ho
   refine wpOp_plain rfl rfl ?_
   unfold Oper.wp
   go_simp
   first | exact ⟨RTy.refl _ _, C12.other (i := 12) (t := 85) hL.cls rfl (Below.refl _ _)⟩ | exact ⟨_, rfl, RTy.refl _ _, C12.other (i := 12) (t := 85) hL.cls rfl (Below.refl _ _), rfl⟩
  | 13, _, ho =>
   cases ho
   have d12 : ac.tmps.getD 85 undef = .pointer (some ⟨w.heap.size + 1, 0, none⟩) := hL.new 12 _ 85 rfl (he ⟨12, .data⟩ (by simp) rfl) rfl
   refine wpOp_plain rfl rfl ?_
   unfold Oper.wp
   go_simp
   first | exact ⟨RTy.refl _ _, C12.other (i := 13) (t := 86) hL.cls rfl (Below.refl _ _)⟩ | exact ⟨_, rfl, RTy.refl _ _, C12.other (i := 13) (t := 86) hL.cls rfl (Below.refl _ _), rfl⟩
  | 14, _, ho =>
   cases ho
   have d13 : ac.tmps.getD 86 undef = .pointer (some ⟨w.heap.size + 1, 0, none⟩) := hL.new 13 _ 86 rfl (he ⟨13, .data⟩ (by simp) rfl) rfl
   obtain ⟨x3, hx3⟩ : ∃ x, ac.tmps.getD 76 undef = x := ⟨_, rfl⟩
   have d3 := hL.new 3 _ 76 rfl (he ⟨3, .data⟩ (by simp) rfl) rfl
   rw [hx3] at d3
   obtain ⟨⟨ag, ac_, as_, rfl, -⟩, -⟩ := d3
   obtain ⟨v0, v1, v2, hbk, -⟩ := hL.cls.blk
   have HPU : Aside _ := C12.st0 hL.cls
   rw [hx3] at HPU
   have HRT : Aside _ := rty_set (i := 0) (.slice (some ⟨ag, 0, none⟩) g.left.length ac_) hbk.leg
   have zc : W.cell? ⟨w.heap.size + 1, 0, none⟩ = some v0 := blk_cell hbk.leg rfl
   have zf := blk_free hbk.leg
   clear hbk
   refine wpOp_plain rfl rfl ?_
   unfold Oper.wp
   go_simp
   exact ⟨HRT.out, HPU.out⟩
  | 15, _, ho =>
   cases ho
   refine wpOp_plain rfl rfl ?_
   unfold Oper.wp
   go_simp
   first | exact ⟨RTy.refl _ _, C12.other (i := 15) (t := 87) hL.cls rfl (Below.refl _ _)⟩ | exact ⟨_, rfl, RTy.refl _ _, C12.other (i := 15) (t := 87) hL.cls rfl (Below.refl _ _), rfl⟩
  | 16, _, ho =>
   cases ho
   have d15 : ac.tmps.getD 87 undef = .pointer (some ⟨w.heap.size + 1, 0, none⟩) := hL.new 15 _ 87 rfl (he ⟨15, .data⟩ (by simp) rfl) rfl
   refine wpOp_plain rfl rfl ?_
   unfold Oper.wp
   go_simp
   first | exact ⟨RTy.refl _ _, C12.other (i := 16) (t := 88) hL.cls rfl (Below.refl _ _)⟩ | exact ⟨_, rfl, RTy.refl _ _, C12.other (i := 16) (t := 88) hL.cls rfl (Below.refl _ _), rfl⟩
  | 17, _, ho =>
   cases ho
   have d16 : ac.tmps.getD 88 undef = .pointer (some ⟨w.heap.size + 1, 1, none⟩) := hL.new 16 _ 88 rfl (he ⟨16, .data⟩ (by simp) rfl) rfl
   obtain ⟨x7, hx7⟩ : ∃ x, ac.tmps.getD 80 undef = x := ⟨_, rfl⟩
   have d7 := hL.new 7 _ 80 rfl (he ⟨7, .data⟩ (by simp) rfl) rfl
   rw [hx7] at d7
   obtain ⟨⟨dg, dc, ds, rfl, -⟩, -⟩ := d7
   obtain ⟨v0, v1, v2, hbk, -⟩ := hL.cls.blk
   have HPU : Aside _ := C12.st1 hL.cls
   rw [hx7] at HPU
   have HRT : Aside _ := rty_set (i := 1) (.slice (some ⟨dg, 0, none⟩) g.darts.length dc) hbk.leg
   have zc : W.cell? ⟨w.heap.size + 1, 1, none⟩ = some v1 := blk_cell hbk.leg rfl
   have zf := blk_free hbk.leg
   clear hbk
   refine wpOp_plain rfl rfl ?_
   unfold Oper.wp
   go_simp
   exact ⟨HRT.out, HPU.out⟩
  | 18, _, ho =>
   cases ho
   refine wpOp_plain rfl rfl ?_
   unfold Oper.wp
   go_simp
   first | exact ⟨RTy.refl _ _, C12.other (i := 18) (t := 89) hL.cls rfl (Below.refl _ _)⟩ | exact ⟨_, rfl, RTy.refl _ _, C12.other (i := 18) (t := 89) hL.cls rfl (Below.refl _ _), rfl⟩
  | 19, _, ho =>
   cases ho
   have d18 : ac.tmps.getD 89 undef = .pointer (some ⟨w.heap.size + 1, 0, none⟩) := hL.new 18 _ 89 rfl (he ⟨18, .data⟩ (by simp) rfl) rfl
   refine wpOp_plain rfl rfl ?_
   unfold Oper.wp
   go_simp
   first | exact ⟨RTy.refl _ _, C12.other (i := 19) (t := 90) hL.cls rfl (Below.refl _ _)⟩ | exact ⟨_, rfl, RTy.refl _ _, C12.other (i := 19) (t := 90) hL.cls rfl (Below.refl _ _), rfl⟩
  | 20, _, ho =>
   cases ho
   have d19 : ac.tmps.getD 90 undef = .pointer (some ⟨w.heap.size + 1, 2, none⟩) := hL.new 19 _ 90 rfl (he ⟨19, .data⟩ (by simp) rfl) rfl
   obtain ⟨x11, hx11⟩ : ∃ x, ac.tmps.getD 84 undef = x := ⟨_, rfl⟩
   have d11 := hL.new 11 _ 84 rfl (he ⟨11, .data⟩ (by simp) rfl) rfl
   rw [hx11] at d11
   obtain ⟨⟨ig, ic, is, rfl, -⟩, -⟩ := d11
   obtain ⟨v0, v1, v2, hbk, -⟩ := hL.cls.blk
   have HPU : Aside _ := C12.st2 hL.cls
   rw [hx11] at HPU
   have HRT : Aside _ := rty_set (i := 2) (.slice (some ⟨ig, 0, none⟩) g.inn.length ic) hbk.leg
   have zc : W.cell? ⟨w.heap.size + 1, 2, none⟩ = some v2 := blk_cell hbk.leg rfl
   have zf := blk_free hbk.leg
   clear hbk
   refine wpOp_plain rfl rfl ?_
   unfold Oper.wp
   go_simp
   exact ⟨HRT.out, HPU.out⟩
  | n + 21, hA, _ => simp at hA
end
end
section
open Go.RowKit Go.Maps Go.Sort Go.Shelf Go.Deep
section
variable {w w1 w2 w3 w4 w5 w6 w7 w8 wb : World} {r : LegR} {g : LegG} {es : List Nat} {k n off cp b bl ol ccl bd od ccd bi oi cci nw cw ne ce S O ag dg ig ac_ dc ic : Nat} {aw ae : Option Addr} {vb : Value} {rr rd nx l0 c1 c2 c3 tl ts td dt er d0 : Int} {rl : Nat → Int} {b0 ti tb tw : Bool}
set_option maxRecDepth 100000 in
set_option maxHeartbeats 16000000 in
theorem reg14 {ops : List Oper} {Q : Exit → Act → World → Prop} {a0 : Act} (k1 : w5.cell? ⟨w.heap.size + 1, 1, none⟩ = some (.slice (some ⟨dg, 0, none⟩) n dc)) (k2 : w5.cell? ⟨w.heap.size + 1 + 1, 0, none⟩ = some (.int .i64 (k : Int))) (k3 : w5.cell? ⟨dg, k, none⟩ = some (.int .i64 d0)) (k4 : w5.cell? ⟨S, 2, none⟩ = some (.int .i64 td)) (e3 : IntKind.i64.wrap (d0 + td) = d0 + td) (hk : k < n) (hkI : (k : Int) < (n : Int)) (hops : regOps 14 Try.f50 = some ops) (hsz0 : a0.tmps.size = 231) (hs4 : a0.tmps.getD 4 undef = .pointer (some ⟨w.heap.size + 1, 0, none⟩)) (hs5 : a0.tmps.getD 5 undef = .pointer (some ⟨w.heap.size + 1 + 1, 0, none⟩)) (hs10 : a0.tmps.getD 10 undef = .pointer (some ⟨S, 0, none⟩))
  (hrest : ∀ (ac : Act) (wb : World), LaidG ops.toArray a0 (fun (i : Nat) (x : Value) (ww : World) => (match i with | 0 => x = .pointer (some ⟨w.heap.size + 1, 0, none⟩) | 1 => x = .pointer (some ⟨w.heap.size + 1, 1, none⟩) | 2 => x = .slice (some ⟨dg, 0, none⟩) n dc | 3 => x = .pointer (some ⟨w.heap.size + 1 + 1, 0, none⟩) | 4 => x = .int .i64 (k : Int) | 5 => x = .pointer (some ⟨dg, k, none⟩) | 6 => x = .int .i64 d0 | 7 => x = .pointer (some ⟨S, 2, none⟩) | 8 => x = .int .i64 td | 9 => x = .int .i64 (d0 + td) | 10 => x = .pointer (some ⟨dg, k, none⟩) | _ => True : Prop)) (fun (_ : Array Bool) (_ : Act) (w2_ : World) => Below w5.heap.size w5 w2_) #[true, true, true, true, true, true, true, true, true, true, true, false] ac wb → wpAny Try.prog .any ops.toArray Q 1 #[true, true, true, true, true, true, true, true, true, true, true, false] ac wb) : (Code.region 14 ops.toArray true).wp Try.prog Q a0 w5 := by
 (conv at hops => lhs; whnf)
 obtain rfl := Option.some.inj hops
 clear hops
 refine region_laidK (fun _ _ => True) (fl := 16) [true, true, true, true, true, true, true, true, true, true, true, false] 1 (fun (i : Nat) (x : Value) (ww : World) => (match i with | 0 => x = .pointer (some ⟨w.heap.size + 1, 0, none⟩) | 1 => x = .pointer (some ⟨w.heap.size + 1, 1, none⟩) | 2 => x = .slice (some ⟨dg, 0, none⟩) n dc | 3 => x = .pointer (some ⟨w.heap.size + 1 + 1, 0, none⟩) | 4 => x = .int .i64 (k : Int) | 5 => x = .pointer (some ⟨dg, k, none⟩) | 6 => x = .int .i64 d0 | 7 => x = .pointer (some ⟨S, 2, none⟩) | 8 => x = .int .i64 td | 9 => x = .int .i64 (d0 + td) | 10 => x = .pointer (some ⟨dg, k, none⟩) | _ => True : Prop)) (fun (_ : Array Bool) (_ : Act) (w2_ : World) => Below w5.heap.size w5 w2_) (by kernel_rfl) rfl (by rw [hsz0]; decide +kernel) rfl ((Below.refl _ _).drew) ?mono ?step hrest
 case mono =>
  intro i x ww ww' hB h
  match i, h with
  | 0, h => exact h
  | 1, h => exact h
  | 2, h => exact h
  | 3, h => exact h
  | 4, h => exact h
  | 5, h => exact h
  | 6, h => exact h
  | 7, h => exact h
  | 8, h => exact h
  | 9, h => exact h
  | 10, h => exact h
  | n + 11, h => exact h
 case step =>
  intro i o_ listed ac W hA ho hL he hcl hli hsz
  have hk4 : ac.tmps.getD 4 undef = .pointer (some ⟨w.heap.size + 1, 0, none⟩) := (hL.kept 4 (by decide +kernel)).trans hs4
  have hk5 : ac.tmps.getD 5 undef = .pointer (some ⟨w.heap.size + 1 + 1, 0, none⟩) := (hL.kept 5 (by decide +kernel)).trans hs5
  have hk10 : ac.tmps.getD 10 undef = .pointer (some ⟨S, 0, none⟩) := (hL.kept 10 (by decide +kernel)).trans hs10
  have k_1 := keepc hL.cls k1
  have k_2 := keepc hL.cls k2
  have k_3 := keepc hL.cls k3
  have k_4 := keepc hL.cls k4
  match i, hA, ho with
  | 0, _, ho =>
   cases ho
   refine wpOp_plain rfl rfl ?_
   unfold Oper.wp
   go_simp
   first | exact ⟨trivial, hL.cls⟩ | exact hL.cls | exact ⟨_, rfl, trivial, hL.cls, rfl⟩
  | 1, _, ho =>
   cases ho
   have d0 : ac.tmps.getD 107 undef = .pointer (some ⟨w.heap.size + 1, 0, none⟩) := hL.new 0 _ 107 rfl (he ⟨0, .data⟩ (by simp) rfl) rfl
   refine wpOp_plain rfl rfl ?_
   unfold Oper.wp
   go_simp
   first | exact ⟨trivial, hL.cls⟩ | exact hL.cls | exact ⟨_, rfl, trivial, hL.cls, rfl⟩
  | 2, _, ho =>
   cases ho
   have d1 : ac.tmps.getD 108 undef = .pointer (some ⟨w.heap.size + 1, 1, none⟩) := hL.new 1 _ 108 rfl (he ⟨1, .data⟩ (by simp) rfl) rfl
   refine wpOp_plain rfl rfl ?_
   unfold Oper.wp
   go_simp
   first | exact ⟨trivial, hL.cls⟩ | exact hL.cls | exact ⟨_, rfl, trivial, hL.cls, rfl⟩
  | 3, _, ho =>
   cases ho
   refine wpOp_plain rfl rfl ?_
   unfold Oper.wp
   go_simp
   first | exact ⟨trivial, hL.cls⟩ | exact hL.cls | exact ⟨_, rfl, trivial, hL.cls, rfl⟩
  | 4, _, ho =>
   cases ho
   have d3 : ac.tmps.getD 110 undef = .pointer (some ⟨w.heap.size + 1 + 1, 0, none⟩) := hL.new 3 _ 110 rfl (he ⟨3, .data⟩ (by simp) rfl) rfl
   refine wpOp_plain rfl rfl ?_
   unfold Oper.wp
   go_simp
   first | exact ⟨trivial, hL.cls⟩ | exact hL.cls | exact ⟨_, rfl, trivial, hL.cls, rfl⟩
  | 5, _, ho =>
   cases ho
   have d2 : ac.tmps.getD 109 undef = .slice (some ⟨dg, 0, none⟩) n dc := hL.new 2 _ 109 rfl (he ⟨2, .data⟩ (by simp) rfl) rfl
   have d4 : ac.tmps.getD 111 undef = .int .i64 (k : Int) := hL.new 4 _ 111 rfl (he ⟨4, .data⟩ (by simp) rfl) rfl
   refine wpOp_plain rfl rfl ?_
   unfold Oper.wp
   go_simp
   first | exact ⟨trivial, hL.cls⟩ | exact hL.cls | exact ⟨_, rfl, trivial, hL.cls, rfl⟩
  | 6, _, ho =>
   cases ho
   have d5 : ac.tmps.getD 112 undef = .pointer (some ⟨dg, k, none⟩) := hL.new 5 _ 112 rfl (he ⟨5, .data⟩ (by simp) rfl) rfl
   refine wpOp_plain rfl rfl ?_
   unfold Oper.wp
   go_simp
   first | exact ⟨trivial, hL.cls⟩ | exact hL.cls | exact ⟨_, rfl, trivial, hL.cls, rfl⟩
  | 7, _, ho =>
   cases ho
   refine wpOp_plain rfl rfl ?_
   unfold Oper.wp
   go_simp
   first | exact ⟨trivial, hL.cls⟩ | exact hL.cls | exact ⟨_, rfl, trivial, hL.cls, rfl⟩
  | 8, _, ho =>
   cases ho
   have d7 : ac.tmps.getD 114 undef = .pointer (some ⟨S, 2, none⟩) := hL.new 7 _ 114 rfl (he ⟨7, .data⟩ (by simp) rfl) rfl
   refine wpOp_plain rfl rfl ?_
   unfold Oper.wp
   go_simp
   first | exact ⟨trivial, hL.cls⟩ | exact hL.cls | exact ⟨_, rfl, trivial, hL.cls, rfl⟩
  | 9, _, ho =>
   cases ho
   have d6 : ac.tmps.getD 113 undef = .int .i64 d0 := hL.new 6 _ 113 rfl (he ⟨6, .data⟩ (by simp) rfl) rfl
   have d8 : ac.tmps.getD 115 undef = .int .i64 td := hL.new 8 _ 115 rfl (he ⟨8, .data⟩ (by simp) rfl) rfl
   refine wpOp_plain rfl rfl ?_
   unfold Oper.wp
   go_simp
   first | exact ⟨trivial, hL.cls⟩ | exact hL.cls | exact ⟨_, rfl, trivial, hL.cls, rfl⟩
  | 10, _, ho =>
   cases ho
   have d2 : ac.tmps.getD 109 undef = .slice (some ⟨dg, 0, none⟩) n dc := hL.new 2 _ 109 rfl (he ⟨2, .data⟩ (by simp) rfl) rfl
   have d4 : ac.tmps.getD 111 undef = .int .i64 (k : Int) := hL.new 4 _ 111 rfl (he ⟨4, .data⟩ (by simp) rfl) rfl
   refine wpOp_plain rfl rfl ?_
   unfold Oper.wp
   go_simp
   first | exact ⟨trivial, hL.cls⟩ | exact hL.cls | exact ⟨_, rfl, trivial, hL.cls, rfl⟩
  | 11, hA, _ => cases hA
  | n + 12, hA, _ => simp at hA
set_option maxRecDepth 100000 in
set_option maxHeartbeats 16000000 in
theorem reg15 {ops : List Oper} {Q : Exit → Act → World → Prop} {a0 : Act} (HS6 : Aside (StB w r (.slice (some ⟨b, off, none⟩) n cp) k vb (rgC (⟨(k : Int), rr, false, rl, rd⟩ : RG) (.slice (some ⟨ag, 0, none⟩) n ac_) (.slice (some ⟨dg, 0, none⟩) n dc) (.slice (some ⟨ig, 0, none⟩) n ic) (.slice aw nw cw) (.slice ae ne ce)) w6)) (n0 : ¬ (n : Int) = 0) (n0' : ¬ n = 0) (e1 : IntKind.i64.wrap ((k : Int) + 1) = (k : Int) + 1) (e2 : Int.tmod ((k : Int) + 1) (n : Int) = nx) (e4 : IntKind.i64.wrap (rd + 1) = rd + 1) (e5 : IntKind.i64.wrap nx = nx) (hops : regOps 15 Try.f50 = some ops) (hsz0 : a0.tmps.size = 231) (hs4 : a0.tmps.getD 4 undef = .pointer (some ⟨w.heap.size + 1, 0, none⟩)) (hs5 : a0.tmps.getD 5 undef = .pointer (some ⟨w.heap.size + 1 + 1, 0, none⟩)) (hs9 : a0.tmps.getD 9 undef = .int .i64 (n : Int))
  (hrest : ∀ (ac : Act) (w7 : World), LaidG ops.toArray a0 (fun (i : Nat) (x : Value) (ww : World) => (match i with | 0 => x = .pointer (some ⟨w.heap.size + 1 + 1, 0, none⟩) | 1 => x = .int .i64 (k : Int) | 2 => x = .int .i64 ((k : Int) + 1) | 3 => x = .int .i64 (n : Int) | 4 => x = .int .i64 nx | 5 => x = .pointer (some ⟨w.heap.size + 1, 16, none⟩) | 6 => x = .int .i64 rd | 7 => x = .int .i64 (rd + 1) | 8 => x = .pointer (some ⟨w.heap.size + 1, 0, none⟩) | 9 => x = .pointer (some ⟨w.heap.size + 1, 3, none⟩) | 10 => True | 11 => x = .pointer (some ⟨w.heap.size + 1, 16, none⟩) | 12 => True | _ => True : Prop)) (C15 w r (.slice (some ⟨b, off, none⟩) n cp) k vb rr rd nx rl (.slice (some ⟨ag, 0, none⟩) n ac_) (.slice (some ⟨dg, 0, none⟩) n dc) (.slice (some ⟨ig, 0, none⟩) n ic) (.slice aw nw cw) (.slice ae ne ce) w6) #[true, true, true, true, true, true, true, true, true, true, true, true, true] ac w7 → wpAny Try.prog .any ops.toArray Q 0 #[true, true, true, true, true, true, true, true, true, true, true, true, true] ac w7) : (Code.region 15 ops.toArray true).wp Try.prog Q a0 w6 := by
 (conv at hops => lhs; whnf)
 obtain rfl := Option.some.inj hops
 clear hops
 refine region_laidK (fun _ _ => True) (fl := 16) [true, true, true, true, true, true, true, true, true, true, true, true, true] 0 (fun (i : Nat) (x : Value) (ww : World) => (match i with | 0 => x = .pointer (some ⟨w.heap.size + 1 + 1, 0, none⟩) | 1 => x = .int .i64 (k : Int) | 2 => x = .int .i64 ((k : Int) + 1) | 3 => x = .int .i64 (n : Int) | 4 => x = .int .i64 nx | 5 => x = .pointer (some ⟨w.heap.size + 1, 16, none⟩) | 6 => x = .int .i64 rd | 7 => x = .int .i64 (rd + 1) | 8 => x = .pointer (some ⟨w.heap.size + 1, 0, none⟩) | 9 => x = .pointer (some ⟨w.heap.size + 1, 3, none⟩) | 10 => True | 11 => x = .pointer (some ⟨w.heap.size + 1, 16, none⟩) | 12 => True | _ => True : Prop)) (C15 w r (.slice (some ⟨b, off, none⟩) n cp) k vb rr rd nx rl (.slice (some ⟨ag, 0, none⟩) n ac_) (.slice (some ⟨dg, 0, none⟩) n dc) (.slice (some ⟨ig, 0, none⟩) n ic) (.slice aw nw cw) (.slice ae ne ce) w6) (by kernel_rfl) rfl (by rw [hsz0]; decide +kernel) rfl (C15.start HS6.out _ _) ?mono ?step hrest
 case mono =>
  intro i x ww ww' hB h
  match i, h with
  | 0, h => exact h
  | 1, h => exact h
  | 2, h => exact h
  | 3, h => exact h
  | 4, h => exact h
  | 5, h => exact h
  | 6, h => exact h
  | 7, h => exact h
  | 8, h => exact h
  | 9, h => exact h
  | 10, h => exact h
  | 11, h => exact h
  | 12, h => exact h
  | n + 13, h => exact h
 case step =>
  intro i o_ listed ac W hA ho hL he hcl hli hsz
  have hk4 : ac.tmps.getD 4 undef = .pointer (some ⟨w.heap.size + 1, 0, none⟩) := (hL.kept 4 (by decide +kernel)).trans hs4
  have hk5 : ac.tmps.getD 5 undef = .pointer (some ⟨w.heap.size + 1 + 1, 0, none⟩) := (hL.kept 5 (by decide +kernel)).trans hs5
  have hk9 : ac.tmps.getD 9 undef = .int .i64 (n : Int) := (hL.kept 9 (by decide +kernel)).trans hs9
  have k_k2 : W.cell? ⟨w.heap.size + 1 + 1, 0, none⟩ = some (.int .i64 (k : Int)) := blk_cell hL.cls.blk.vis rfl
  match i, hA, ho with
  | 0, _, ho =>
   cases ho
   refine wpOp_plain rfl rfl ?_
   unfold Oper.wp
   go_simp
   first | exact C15.other (i := 0) hL.cls rfl | exact ⟨trivial, C15.other (i := 0) hL.cls rfl⟩ | exact ⟨_, rfl, trivial, C15.other (i := 0) hL.cls rfl, rfl⟩
  | 1, _, ho =>
   cases ho
   have d0 : ac.tmps.getD 118 undef = .pointer (some ⟨w.heap.size + 1 + 1, 0, none⟩) := hL.new 0 _ 118 rfl (he ⟨0, .data⟩ (by simp) rfl) rfl
   refine wpOp_plain rfl rfl ?_
   unfold Oper.wp
   go_simp
   first | exact C15.other (i := 1) hL.cls rfl | exact ⟨trivial, C15.other (i := 1) hL.cls rfl⟩ | exact ⟨_, rfl, trivial, C15.other (i := 1) hL.cls rfl, rfl⟩
  | 2, _, ho =>
   cases ho
   have d1 : ac.tmps.getD 119 undef = .int .i64 (k : Int) := hL.new 1 _ 119 rfl (he ⟨1, .data⟩ (by simp) rfl) rfl
   refine wpOp_plain rfl rfl ?_
   unfold Oper.wp
   go_simp
   first | exact C15.other (i := 2) hL.cls rfl | exact ⟨trivial, C15.other (i := 2) hL.cls rfl⟩ | exact ⟨_, rfl, trivial, C15.other (i := 2) hL.cls rfl, rfl⟩
  | 3, _, ho =>
   cases ho
   refine wpOp_plain rfl rfl ?_
   unfold Oper.wp
   go_simp
   first | exact C15.other (i := 3) hL.cls rfl | exact ⟨trivial, C15.other (i := 3) hL.cls rfl⟩ | exact ⟨_, rfl, trivial, C15.other (i := 3) hL.cls rfl, rfl⟩
  | 4, _, ho =>
   cases ho
   have d2 : ac.tmps.getD 120 undef = .int .i64 ((k : Int) + 1) := hL.new 2 _ 120 rfl (he ⟨2, .data⟩ (by simp) rfl) rfl
   have d3 : ac.tmps.getD 121 undef = .int .i64 (n : Int) := hL.new 3 _ 121 rfl (he ⟨3, .data⟩ (by simp) rfl) rfl
   refine wpOp_plain rfl rfl ?_
   unfold Oper.wp
   go_simp
   first | exact C15.other (i := 4) hL.cls rfl | exact ⟨trivial, C15.other (i := 4) hL.cls rfl⟩ | exact ⟨_, rfl, trivial, C15.other (i := 4) hL.cls rfl, rfl⟩
  | 5, _, ho =>
   cases ho
   refine wpOp_plain rfl rfl ?_
   unfold Oper.wp
   go_simp
   first | exact C15.other (i := 5) hL.cls rfl | exact ⟨trivial, C15.other (i := 5) hL.cls rfl⟩ | exact ⟨_, rfl, trivial, C15.other (i := 5) hL.cls rfl, rfl⟩
  | 6, _, ho =>
   cases ho
   have d5 : ac.tmps.getD 123 undef = .pointer (some ⟨w.heap.size + 1, 16, none⟩) := hL.new 5 _ 123 rfl (he ⟨5, .data⟩ (by simp) rfl) rfl
   have hq : listed.getD 12 false = false := by
    cases hx : listed.getD 12 false with
    | false => rfl
    | true =>
     have h7 := hcl 12 _ rfl hx ⟨7, .data⟩ (by simp) rfl
     have h8 := hcl 7 _ rfl h7 ⟨6, .data⟩ (by simp) rfl
     simp only [Array.getD_eq_getD_getElem?] at h8 hli
     rw [Array.getElem?_eq_getElem (show 6 < listed.size by rw [hsz]; decide)] at h8 hli
     rw [Option.getD_some] at h8 hli
     rw [h8] at hli
     exact absurd hli (by simp)
   have k16 : W.cell? ⟨w.heap.size + 1, 16, none⟩ = some (.int .i64 rd) := by
    have := hL.cls.blk.leg
    rw [hq] at this
    exact blk_cell this rfl
   refine wpOp_plain rfl rfl ?_
   unfold Oper.wp
   go_simp
   first | exact C15.other (i := 6) hL.cls rfl | exact ⟨trivial, C15.other (i := 6) hL.cls rfl⟩ | exact ⟨_, rfl, trivial, C15.other (i := 6) hL.cls rfl, rfl⟩
  | 7, _, ho =>
   cases ho
   have d6 : ac.tmps.getD 124 undef = .int .i64 rd := hL.new 6 _ 124 rfl (he ⟨6, .data⟩ (by simp) rfl) rfl
   refine wpOp_plain rfl rfl ?_
   unfold Oper.wp
   go_simp
   first | exact C15.other (i := 7) hL.cls rfl | exact ⟨trivial, C15.other (i := 7) hL.cls rfl⟩ | exact ⟨_, rfl, trivial, C15.other (i := 7) hL.cls rfl, rfl⟩
  | 8, _, ho =>
   cases ho
   refine wpOp_plain rfl rfl ?_
   unfold Oper.wp
   go_simp
   first | exact C15.other (i := 8) hL.cls rfl | exact ⟨trivial, C15.other (i := 8) hL.cls rfl⟩ | exact ⟨_, rfl, trivial, C15.other (i := 8) hL.cls rfl, rfl⟩
  | 9, _, ho =>
   cases ho
   have d8 : ac.tmps.getD 126 undef = .pointer (some ⟨w.heap.size + 1, 0, none⟩) := hL.new 8 _ 126 rfl (he ⟨8, .data⟩ (by simp) rfl) rfl
   refine wpOp_plain rfl rfl ?_
   unfold Oper.wp
   go_simp
   first | exact C15.other (i := 9) hL.cls rfl | exact ⟨trivial, C15.other (i := 9) hL.cls rfl⟩ | exact ⟨_, rfl, trivial, C15.other (i := 9) hL.cls rfl, rfl⟩
  | 10, _, ho =>
   cases ho
   have d4 : ac.tmps.getD 122 undef = .int .i64 nx := hL.new 4 _ 122 rfl (he ⟨4, .data⟩ (by simp) rfl) rfl
   have d9 : ac.tmps.getD 127 undef = .pointer (some ⟨w.heap.size + 1, 3, none⟩) := hL.new 9 _ 127 rfl (he ⟨9, .data⟩ (by simp) rfl) rfl
   have zc : ∃ x, W.cell? ⟨w.heap.size + 1, 3, none⟩ = some x := ⟨_, blk_cell hL.cls.blk.leg rfl⟩
   obtain ⟨zx, zc⟩ := zc
   have zf := blk_free hL.cls.blk.leg
   have HPU : Aside _ := C15.st10 (a' := ac) hL.cls (by rw [hsz]; decide)
   refine wpOp_plain rfl rfl ?_
   unfold Oper.wp
   go_simp
   first | exact HPU.out | exact ⟨trivial, HPU.out⟩
  | 11, _, ho =>
   cases ho
   refine wpOp_plain rfl rfl ?_
   unfold Oper.wp
   go_simp
   first | exact C15.other (i := 11) hL.cls rfl | exact ⟨trivial, C15.other (i := 11) hL.cls rfl⟩ | exact ⟨_, rfl, trivial, C15.other (i := 11) hL.cls rfl, rfl⟩
  | 12, _, ho =>
   cases ho
   have d7 : ac.tmps.getD 125 undef = .int .i64 (rd + 1) := hL.new 7 _ 125 rfl (he ⟨7, .data⟩ (by simp) rfl) rfl
   have d11 : ac.tmps.getD 128 undef = .pointer (some ⟨w.heap.size + 1, 16, none⟩) := hL.new 11 _ 128 rfl (he ⟨11, .data⟩ (by simp) rfl) rfl
   have zc : ∃ x, W.cell? ⟨w.heap.size + 1, 16, none⟩ = some x := ⟨_, blk_cell hL.cls.blk.leg rfl⟩
   obtain ⟨zx, zc⟩ := zc
   have zf := blk_free hL.cls.blk.leg
   have HPU : Aside _ := C15.st12 (a' := ac) hL.cls (by rw [hsz]; decide)
   refine wpOp_plain rfl rfl ?_
   unfold Oper.wp
   go_simp
   first | exact HPU.out | exact ⟨trivial, HPU.out⟩
  | n + 13, hA, _ => simp at hA
end
end
section
open Go.RowKit Go.Maps Go.Sort Go.Shelf Go.Deep
section
variable {w w1 w2 w3 w4 w5 w6 w7 w8 wb : World} {r : LegR} {g : LegG} {es : List Nat} {k n off cp b bl ol ccl bd od ccd bi oi cci nw cw ne ce S O ag dg ig ac_ dc ic : Nat} {aw ae : Option Addr} {vb : Value} {rr rd nx l0 c1 c2 c3 tl ts td dt er d0 : Int} {rl : Nat → Int} {b0 ti tb tw : Bool}
set_option maxRecDepth 100000 in
set_option maxHeartbeats 16000000 in
theorem reg17 {ops : List Oper} {Q : Exit → Act → World → Prop} {a0 : Act} (HS7 : Aside (StB w r (.slice (some ⟨b, off, none⟩) n cp) k vb (rgC (⟨nx, rr, false, rl, rd + 1⟩ : RG) (.slice (some ⟨ag, 0, none⟩) n ac_) (.slice (some ⟨dg, 0, none⟩) n dc) (.slice (some ⟨ig, 0, none⟩) n ic) (.slice aw nw cw) (.slice ae ne ce)) w7)) (HA7 : Aside (RfAt (w.heap.size + 1) w7 (.slice (some ⟨ag, 0, none⟩) n ac_) (.slice (some ⟨dg, 0, none⟩) n dc) (.slice (some ⟨ig, 0, none⟩) n ic) (.slice aw nw cw) (.slice ae ne ce) (hitG g k (⟨tl, ts, td, ti, tb, true⟩ : Thr)) es)) (HZ7 : Aside (w.heap.size + 4 ≤ w7.heap.size)) (HNE7 : Aside (es.length = ne ∧ ne ≤ 8)) (ke : w7.cell? ⟨w.heap.size + 1, 7, none⟩ = some (.slice ae ne ce)) (h8 : n ≤ 8) (hops : regOps 17 Try.f50 = some ops) (hsz0 : a0.tmps.size = 231) (hs4 : a0.tmps.getD 4 undef = .pointer (some ⟨w.heap.size + 1, 0, none⟩)) (hs5 : a0.tmps.getD 5 undef = .pointer (some ⟨w.heap.size + 1 + 1, 0, none⟩))
  (hrest : ∀ (ac : Act) (w8 : World), LaidG ops.toArray a0 (fun (i : Nat) (x : Value) (ww : World) => (match i with | 0 => True | 1 => x = .pointer (some ⟨w.heap.size + 1, 7, none⟩) | 2 => x = .slice ae ne ce | 3 => True | 4 => x = .pointer (some ⟨w.heap.size + 1 + 1, 0, none⟩) | 5 => x = .int .i64 (k : Int) | 6 => True | 7 => True | 8 => x = .pointer (some ⟨w.heap.size + 1, 7, none⟩) | 9 => True | _ => True : Prop)) (C17 w r (.slice (some ⟨b, off, none⟩) n cp) k vb (⟨nx, rr, false, rl, rd + 1⟩ : RG) (.slice (some ⟨ag, 0, none⟩) n ac_) (.slice (some ⟨dg, 0, none⟩) n dc) (.slice (some ⟨ig, 0, none⟩) n ic) (.slice aw nw cw) (.slice ae ne ce) es w7) #[true, true, true, true, true, true, true, true, true, true] ac w8 → wpAny Try.prog .any ops.toArray Q 0 #[true, true, true, true, true, true, true, true, true, true] ac w8) : (Code.region 17 ops.toArray true).wp Try.prog Q a0 w7 := by
 (conv at hops => lhs; whnf)
 obtain rfl := Option.some.inj hops
 clear hops
 obtain ⟨i0, hi0, hz0, hz1, hz2⟩ := info_parts info_int
 refine region_laidK (fun _ _ => True) (fl := 16) [true, true, true, true, true, true, true, true, true, true] 0 (fun (i : Nat) (x : Value) (ww : World) => (match i with | 0 => True | 1 => x = .pointer (some ⟨w.heap.size + 1, 7, none⟩) | 2 => x = .slice ae ne ce | 3 => True | 4 => x = .pointer (some ⟨w.heap.size + 1 + 1, 0, none⟩) | 5 => x = .int .i64 (k : Int) | 6 => True | 7 => True | 8 => x = .pointer (some ⟨w.heap.size + 1, 7, none⟩) | 9 => True | _ => True : Prop)) (C17 w r (.slice (some ⟨b, off, none⟩) n cp) k vb (⟨nx, rr, false, rl, rd + 1⟩ : RG) (.slice (some ⟨ag, 0, none⟩) n ac_) (.slice (some ⟨dg, 0, none⟩) n dc) (.slice (some ⟨ig, 0, none⟩) n ic) (.slice aw nw cw) (.slice ae ne ce) es w7) (by kernel_rfl) rfl (by rw [hsz0]; decide +kernel) rfl (C17.start HS7.out _ _) ?mono ?step hrest
 case mono =>
  intro i x ww ww' hB h
  match i, h with
  | 0, h => exact h
  | 1, h => exact h
  | 2, h => exact h
  | 3, h => exact h
  | 4, h => exact h
  | 5, h => exact h
  | 6, h => exact h
  | 7, h => exact h
  | 8, h => exact h
  | 9, h => exact h
  | n + 10, h => exact h
 case step =>
  intro i o_ listed ac W hA ho hL he hcl hli hsz
  have hk4 : ac.tmps.getD 4 undef = .pointer (some ⟨w.heap.size + 1, 0, none⟩) := (hL.kept 4 (by decide +kernel)).trans hs4
  have hk5 : ac.tmps.getD 5 undef = .pointer (some ⟨w.heap.size + 1 + 1, 0, none⟩) := (hL.kept 5 (by decide +kernel)).trans hs5
  have k_v : W.cell? ⟨w.heap.size + 1 + 1, 0, none⟩ = some (.int .i64 (k : Int)) := by
   obtain ⟨v, hbk, _⟩ := hL.cls.blk
   exact blk_cell hbk.vis rfl
  match i, hA, ho with
  | 0, _, ho =>
   cases ho
   refine wpOp_plain rfl rfl ?_
   unfold Oper.wp
   go_simp
   first | exact ⟨_, rfl, C17.at0 hL.cls (by rw [hL.size, hsz0]; exact (by decide : (131 : Nat) < 231))⟩ | exact ⟨_, rfl, trivial, C17.at0 hL.cls (by rw [hL.size, hsz0]; exact (by decide : (131 : Nat) < 231)), trivial⟩
  | 1, _, ho =>
   cases ho
   refine wpOp_plain rfl rfl ?_
   unfold Oper.wp
   go_simp
   first | exact ⟨trivial, C17.other (i := 1) (t := 132) hL.cls rfl⟩ | exact C17.other (i := 1) (t := 132) hL.cls rfl | exact ⟨_, rfl, trivial, C17.other (i := 1) (t := 132) hL.cls rfl, rfl⟩
  | 2, _, ho =>
   cases ho
   have d1 : ac.tmps.getD 132 undef = .pointer (some ⟨w.heap.size + 1, 7, none⟩) := hL.new 1 _ 132 rfl (he ⟨1, .data⟩ (by simp) rfl) rfl
   have l9 : listed.getD 9 false = false := by
    cases hx : listed.getD 9 false with
    | false => rfl
    | true =>
     have h7 := hcl 9 _ rfl hx ⟨7, .data⟩ (by simp) rfl
     have h3 := hcl 7 _ rfl h7 ⟨3, .data⟩ (by simp) rfl
     have h8 := hcl 3 _ rfl h3 ⟨2, .data⟩ (by simp) rfl
     simp only [Array.getD_eq_getD_getElem?] at h8 hli
     rw [Array.getElem?_eq_getElem (show 2 < listed.size by rw [hsz]; decide)] at h8 hli
     rw [Option.getD_some] at h8 hli
     rw [h8] at hli
     exact absurd hli (by simp)
   have ke2 : W.cell? ⟨w.heap.size + 1, 7, none⟩ = some (.slice ae ne ce) := hL.cls.old l9
   refine wpOp_plain rfl rfl ?_
   unfold Oper.wp
   go_simp
   first | exact ⟨trivial, C17.other (i := 2) (t := 133) hL.cls rfl⟩ | exact C17.other (i := 2) (t := 133) hL.cls rfl | exact ⟨_, rfl, trivial, C17.other (i := 2) (t := 133) hL.cls rfl, rfl⟩
  | 3, _, ho =>
   cases ho
   have d2 : ac.tmps.getD 133 undef = .slice ae ne ce := hL.new 2 _ 133 rfl (he ⟨2, .data⟩ (by simp) rfl) rfl
   have l0 : listed.getD 0 false = true := he ⟨0, .data⟩ (by simp) rfl
   have ls : listed.getD 3 false = false := by
    simp only [Array.getD_eq_getD_getElem?] at hli ⊢
    rw [Array.getElem?_eq_getElem (show 3 < listed.size by rw [hsz]; decide)] at hli ⊢
    simpa using hli
   have l7 : listed.getD 7 false = false := by
    cases hx : listed.getD 7 false with
    | false => rfl
    | true =>
     have h8 := hcl 7 _ rfl hx ⟨3, .data⟩ (by simp) rfl
     simp only [Array.getD_eq_getD_getElem?] at h8 hli
     rw [Array.getElem?_eq_getElem (show 3 < listed.size by rw [hsz]; decide)] at h8 hli
     rw [Option.getD_some] at h8 hli
     rw [h8] at hli
     exact absurd hli (by simp)
   have l9 : listed.getD 9 false = false := by
    cases hx : listed.getD 9 false with
    | false => rfl
    | true =>
     have h8 := hcl 9 _ rfl hx ⟨7, .data⟩ (by simp) rfl
     rw [l7] at h8; cases h8
   have hown := hL.cls.c0 l0 ls
   refine wpOp_plain rfl rfl ?_
   refine wp_append_sl W (.tmp 131) (.tmp 133) 48 rfl w7.heap.size 3 i0 (.int .i64 0) 1 8 Try.underlying48 hi0 hz0 hz1 hz2 rfl (by decide) _ 0 [] rfl hown (vy := .slice ae ne ce) (ys := cI es) (enc := eI) d2 ((HA7.out.outs hL.cls.out).se.1) (fun _ => rfl) (eI_oneG _) (by rw [cI_len, HNE7.out.1]; unfold maxLen; have := HNE7.out.2; omega) (by rw [cI_len, HNE7.out.1]; have := HNE7.out.2; omega) hL.cls.out.size ?_
   intro v' W' hown' hgrow'
   rw [Nat.zero_add, List.nil_append, cI_len, flat_eI] at hown'
   exact ⟨_, rfl, trivial, C17.at3 hL.cls HZ7.out (by rw [hL.size, hsz0]; exact (by decide : (134 : Nat) < 231)) l0 ls l7 l9 (by rw [hsz]; decide) hown' hgrow', trivial⟩
  | 4, _, ho =>
   cases ho
   refine wpOp_plain rfl rfl ?_
   unfold Oper.wp
   go_simp
   first | exact ⟨trivial, C17.other (i := 4) (t := 135) hL.cls rfl⟩ | exact C17.other (i := 4) (t := 135) hL.cls rfl | exact ⟨_, rfl, trivial, C17.other (i := 4) (t := 135) hL.cls rfl, rfl⟩
  | 5, _, ho =>
   cases ho
   have d4 : ac.tmps.getD 135 undef = .pointer (some ⟨w.heap.size + 1 + 1, 0, none⟩) := hL.new 4 _ 135 rfl (he ⟨4, .data⟩ (by simp) rfl) rfl
   refine wpOp_plain rfl rfl ?_
   unfold Oper.wp
   go_simp
   first | exact ⟨trivial, C17.other (i := 5) (t := 136) hL.cls rfl⟩ | exact C17.other (i := 5) (t := 136) hL.cls rfl | exact ⟨_, rfl, trivial, C17.other (i := 5) (t := 136) hL.cls rfl, rfl⟩
  | 6, _, ho =>
   cases ho
   have d5 : ac.tmps.getD 136 undef = .int .i64 (k : Int) := hL.new 5 _ 136 rfl (he ⟨5, .data⟩ (by simp) rfl) rfl
   simp only [Array.getD_eq_getD_getElem?] at d5
   refine wpOp_plain rfl rfl ?_
   unfold Oper.wp
   go_simp
   first | exact ⟨_, rfl, C17.at6 hL.cls (by rw [hL.size, hsz0]; exact (by decide : (137 : Nat) < 231))⟩ | exact ⟨_, rfl, trivial, C17.at6 hL.cls (by rw [hL.size, hsz0]; exact (by decide : (137 : Nat) < 231)), trivial⟩
  | 7, _, ho =>
   cases ho
   have l3 : listed.getD 3 false = true := he ⟨3, .data⟩ (by simp) rfl
   have l6 : listed.getD 6 false = true := he ⟨6, .data⟩ (by simp) rfl
   have ls : listed.getD 7 false = false := by
    simp only [Array.getD_eq_getD_getElem?] at hli ⊢
    rw [Array.getElem?_eq_getElem (show 7 < listed.size by rw [hsz]; decide)] at hli ⊢
    simpa using hli
   have l9 : listed.getD 9 false = false := by
    cases hx : listed.getD 9 false with
    | false => rfl
    | true =>
     have h8 := hcl 9 _ rfl hx ⟨7, .data⟩ (by simp) rfl
     simp only [Array.getD_eq_getD_getElem?] at h8 hli
     rw [Array.getElem?_eq_getElem (show 7 < listed.size by rw [hsz]; decide)] at h8 hli
     rw [Option.getD_some] at h8 hli
     rw [h8] at hli
     exact absurd hli (by simp)
   have l0 : listed.getD 0 false = true := hcl 3 _ rfl l3 ⟨0, .data⟩ (by simp) rfl
   have hown := hL.cls.c3 l3 ls
   obtain ⟨gg, g1, _, g3⟩ := hL.cls.c6 l6 ls
   refine wpOp_plain rfl rfl ?_
   refine wp_append_own W (.tmp 134) (.tmp 137) 48 rfl w7.heap.size 3 i0 (.int .i64 0) 1 8 Try.underlying48 hi0 hz0 hz1 hz2 rfl (by decide) _ _ _ rfl hown ⟨gg, 0, none⟩ 1 1 [.int .i64 (k : Int)] (by exact g1) rfl (by intro j u hu; cases j with | zero => (simp at hu; subst hu; exact blk_cell g3 rfl) | succ j => simp at hu) (ints_oneCell .i64 [(k : Int)]) (by rw [HNE7.out.1]; unfold maxLen; have := HNE7.out.2; omega) (by rw [HNE7.out.1]; have := HNE7.out.2; omega) hL.cls.out.size ?_
   intro v' W' hown' hgrow' _
   rw [← cI_map] at hown'
   exact ⟨_, rfl, trivial, C17.at7 hL.cls HZ7.out (by rw [hL.size, hsz0]; exact (by decide : (138 : Nat) < 231)) l0 l3 ls l9 (by rw [hsz]; decide) hown' hgrow', trivial⟩
  | 8, _, ho =>
   cases ho
   refine wpOp_plain rfl rfl ?_
   unfold Oper.wp
   go_simp
   first | exact ⟨trivial, C17.other (i := 8) (t := 139) hL.cls rfl⟩ | exact C17.other (i := 8) (t := 139) hL.cls rfl | exact ⟨_, rfl, trivial, C17.other (i := 8) (t := 139) hL.cls rfl, rfl⟩
  | 9, _, ho =>
   cases ho
   have d8 : ac.tmps.getD 139 undef = .pointer (some ⟨w.heap.size + 1, 7, none⟩) := hL.new 8 _ 139 rfl (he ⟨8, .data⟩ (by simp) rfl) rfl
   have l7 : listed.getD 7 false = true := he ⟨7, .data⟩ (by simp) rfl
   have hown := hL.cls.c7 l7
   have HPU : Aside _ := C17.st9 hL.cls HZ7.out l7 (by rw [hsz]; decide)
   obtain ⟨v, hbk, _⟩ := hL.cls.blk
   have zc : W.cell? ⟨w.heap.size + 1, 7, none⟩ = some v := blk_cell hbk.leg rfl
   have zf := blk_free hbk.leg
   obtain ⟨va, vcc, hva⟩ := owns_sl hown
   rw [hva] at HPU
   clear hbk hown
   refine wpOp_plain rfl rfl ?_
   unfold Oper.wp
   go_simp
   first | exact ⟨trivial, HPU.out⟩ | exact HPU.out
  | n + 10, hA, _ => simp at hA
end
end
section
open Go.RowKit Go.Maps Go.Sort Go.Shelf Go.Deep
set_option maxRecDepth 100000 in
set_option maxHeartbeats 1000000 in
theorem wp_load17 {w : World} {a : Act} {d : Option Nat} {ps : String} {af : Array Edge} {gd : Option (Nat × Bool)} {ty : TypeId} {KK : Act → World → Prop} {QQ : Exit → Act → World → Prop} {t B : Nat} {x0 x1 x2 x3 x4 x5 x6 x7 x8 x9 x10 x11 x12 x13 x14 x15 x16 : Value} (hx : a.tmps.getD t undef = .pointer (some ⟨B, 0, none⟩)) (hB : RgB w B #[x0, x1, x2, x3, x4, x5, x6, x7, x8, x9, x10, x11, x12, x13, x14, x15, x16])
  (h : KK (a.put d (.agg #[x0, x1, x2, x3, x4, x5, x6, x7, x8, x9, x10, x11, x12, x13, x14, x15, x16])) w) : Oper.wp Try.prog ⟨d, .load 108 (.tmp t), ty, ps, af, gd⟩ a w KK QQ := by
 have hx' : a.tmps[t]?.getD undef = .pointer (some ⟨B, 0, none⟩) := by simpa using hx
 have r0 : w.cell? ⟨B, 0, none⟩ = some x0 := blk_cell hB rfl
 have r1 : w.cell? ⟨B, 1, none⟩ = some x1 := blk_cell hB rfl
 have r2 : w.cell? ⟨B, 2, none⟩ = some x2 := blk_cell hB rfl
 have r3 : w.cell? ⟨B, 3, none⟩ = some x3 := blk_cell hB rfl
 have r4 : w.cell? ⟨B, 4, none⟩ = some x4 := blk_cell hB rfl
 have r5 : w.cell? ⟨B, 5, none⟩ = some x5 := blk_cell hB rfl
 have r6 : w.cell? ⟨B, 6, none⟩ = some x6 := blk_cell hB rfl
 have r7 : w.cell? ⟨B, 7, none⟩ = some x7 := blk_cell hB rfl
 have r8 : w.cell? ⟨B, 8, none⟩ = some x8 := blk_cell hB rfl
 have r9 : w.cell? ⟨B, 9, none⟩ = some x9 := blk_cell hB rfl
 have r10 : w.cell? ⟨B, 10, none⟩ = some x10 := blk_cell hB rfl
 have r11 : w.cell? ⟨B, 11, none⟩ = some x11 := blk_cell hB rfl
 have r12 : w.cell? ⟨B, 12, none⟩ = some x12 := blk_cell hB rfl
 have r13 : w.cell? ⟨B, 13, none⟩ = some x13 := blk_cell hB rfl
 have r14 : w.cell? ⟨B, 14, none⟩ = some x14 := blk_cell hB rfl
 have r15 : w.cell? ⟨B, 15, none⟩ = some x15 := blk_cell hB rfl
 have r16 : w.cell? ⟨B, 16, none⟩ = some x16 := blk_cell hB rfl
 have hl : B < w.heap.size := (Array.getElem?_eq_some_iff.1 hB).1
 clear hB
 unfold Oper.wp
 go_simp
 exact h
set_option maxRecDepth 100000 in
set_option maxHeartbeats 4000000 in
theorem wp_store17 {w : World} {a : Act} {d : Option Nat} {ps : String} {af : Array Edge} {gd : Option (Nat × Bool)} {ty : TypeId} {KK : Act → World → Prop} {QQ : Exit → Act → World → Prop} {t u B : Nat} {y0 y1 y2 y3 y4 y5 y6 y7 y8 y9 y10 y11 y12 y13 y14 y15 y16 : Value} {a0 a1 a2 a6 a7 : Option Addr} {n0 n1 n2 n6 n7 c0 c1 c2 c6 c7 : Nat} {i3 i4 i8 i9 i10 i11 i12 i13 i14 i15 i16 : Int} {b5 : Bool} (hx : a.tmps.getD t undef = .pointer (some ⟨B, 0, none⟩)) (hv : a.tmps.getD u undef = .agg #[.slice a0 n0 c0, .slice a1 n1 c1, .slice a2 n2 c2, .int .i64 i3, .int .i64 i4, .bool b5, .slice a6 n6 c6, .slice a7 n7 c7, .int .i64 i8, .int .i64 i9, .int .i64 i10, .int .i64 i11, .int .i64 i12, .int .i64 i13, .int .i64 i14, .int .i64 i15, .int .i64 i16]) (hB : RgB w B #[y0, y1, y2, y3, y4, y5, y6, y7, y8, y9, y10, y11, y12, y13, y14, y15, y16])
  (h : KK (a.put d undef) (set17 w B (.slice a0 n0 c0) (.slice a1 n1 c1) (.slice a2 n2 c2) (.int .i64 i3) (.int .i64 i4) (.bool b5) (.slice a6 n6 c6) (.slice a7 n7 c7) (.int .i64 i8) (.int .i64 i9) (.int .i64 i10) (.int .i64 i11) (.int .i64 i12) (.int .i64 i13) (.int .i64 i14) (.int .i64 i15) (.int .i64 i16))) : Oper.wp Try.prog ⟨d, .store 108 (.tmp t) (.tmp u), ty, ps, af, gd⟩ a w KK QQ := by
 have hx' : a.tmps[t]?.getD undef = .pointer (some ⟨B, 0, none⟩) := by simpa using hx
 have hv' : a.tmps[u]?.getD undef = .agg #[.slice a0 n0 c0, .slice a1 n1 c1, .slice a2 n2 c2, .int .i64 i3, .int .i64 i4, .bool b5, .slice a6 n6 c6, .slice a7 n7 c7, .int .i64 i8, .int .i64 i9, .int .i64 i10, .int .i64 i11, .int .i64 i12, .int .i64 i13, .int .i64 i14, .int .i64 i15, .int .i64 i16] := by simpa using hv
 have r0 : w.cell? ⟨B, 0, none⟩ = some y0 := blk_cell hB rfl
 have r1 : w.cell? ⟨B, 1, none⟩ = some y1 := blk_cell hB rfl
 have r2 : w.cell? ⟨B, 2, none⟩ = some y2 := blk_cell hB rfl
 have r3 : w.cell? ⟨B, 3, none⟩ = some y3 := blk_cell hB rfl
 have r4 : w.cell? ⟨B, 4, none⟩ = some y4 := blk_cell hB rfl
 have r5 : w.cell? ⟨B, 5, none⟩ = some y5 := blk_cell hB rfl
 have r6 : w.cell? ⟨B, 6, none⟩ = some y6 := blk_cell hB rfl
 have r7 : w.cell? ⟨B, 7, none⟩ = some y7 := blk_cell hB rfl
 have r8 : w.cell? ⟨B, 8, none⟩ = some y8 := blk_cell hB rfl
 have r9 : w.cell? ⟨B, 9, none⟩ = some y9 := blk_cell hB rfl
 have r10 : w.cell? ⟨B, 10, none⟩ = some y10 := blk_cell hB rfl
 have r11 : w.cell? ⟨B, 11, none⟩ = some y11 := blk_cell hB rfl
 have r12 : w.cell? ⟨B, 12, none⟩ = some y12 := blk_cell hB rfl
 have r13 : w.cell? ⟨B, 13, none⟩ = some y13 := blk_cell hB rfl
 have r14 : w.cell? ⟨B, 14, none⟩ = some y14 := blk_cell hB rfl
 have r15 : w.cell? ⟨B, 15, none⟩ = some y15 := blk_cell hB rfl
 have r16 : w.cell? ⟨B, 16, none⟩ = some y16 := blk_cell hB rfl
 have hl : B < w.heap.size := (Array.getElem?_eq_some_iff.1 hB).1
 have hf := blk_free hB
 clear hB
 unfold set17 at h
 unfold Oper.wp
 go_simp
 exact h
end
end Go.Proofs.Ytgmlcgifagbjmaa
