/- Leg: parts Ie, If, Ig. -/
import Derived.Test.YtnhjoebdmmelaaaMas
set_option linter.unusedVariables false
set_option linter.unusedSimpArgs false
namespace Go.Proofs.Ytnhjoebdmmelaaa
section
open Go.RowKit Go.Maps Go.Sort Go.Shelf Go.Deep
theorem put2t {W : World} {g : Nat} {x0 x1 y0 y1 : Value} {T : TypeId} (h : W.heap[g]? = some (.cells #[y0, y1] T (0, 0))) : Put g (.cells #[x0, x1] T (0, 0)) W ((W.setCell ⟨g, 0, none⟩ x0).setCell ⟨g, 1, none⟩ x1) := by
 have z0 := Go.Joins.block_setCell (i := 0) h x0
 have z1 := Go.Joins.block_setCell (i := 1) z0 x1
 exact ⟨rfl, rfl, rfl, by simp, z1, fun k hk => (Below.heap_setCell _ _ _ _ hk).trans (Below.heap_setCell _ _ _ _ hk)⟩
theorem put3t {W : World} {g : Nat} {x0 x1 x2 y0 y1 y2 : Value} {T : TypeId} (h : W.heap[g]? = some (.cells #[y0, y1, y2] T (0, 0))) : Put g (.cells #[x0, x1, x2] T (0, 0)) W (((W.setCell ⟨g, 0, none⟩ x0).setCell ⟨g, 1, none⟩ x1).setCell ⟨g, 2, none⟩ x2) := by
 have z0 := Go.Joins.block_setCell (i := 0) h x0
 have z1 := Go.Joins.block_setCell (i := 1) z0 x1
 have z2 := Go.Joins.block_setCell (i := 2) z1 x2
 exact ⟨rfl, rfl, rfl, by simp, z2, fun k hk => (Below.heap_setCell _ _ _ _ hk).trans ((Below.heap_setCell _ _ _ _ hk).trans (Below.heap_setCell _ _ _ _ hk))⟩
section
variable {w wr w5 : World} {L3 L4 nc cc cb co lg lc ig ic p : Nat} {c1 c2 c3 l0 : Int} {b0 : Bool}
set_option maxRecDepth 100000 in
set_option maxHeartbeats 16000000 in
theorem tal11 {ops : List Oper} {Q : Exit → Act → World → Prop} {a0 : Act} (kc : wr.cell? ⟨L3, 0, none⟩ = some (.slice (some ⟨cb, co, none⟩) nc cc)) (q0 : wr.cell? ⟨cb, co + p * 3, none⟩ = some (.int .i64 c1)) (q1 : wr.cell? ⟨cb, co + p * 3 + 1, none⟩ = some (.int .i64 c2)) (q2 : wr.cell? ⟨cb, co + p * 3 + 2, none⟩ = some (.int .i64 c3)) (kl : wr.cell? ⟨L4, 1, none⟩ = some (.slice (some ⟨lg, 0, none⟩) nc lc)) (ki : wr.cell? ⟨L4, 3, none⟩ = some (.slice (some ⟨ig, 0, none⟩) nc ic)) (ql : wr.cell? ⟨lg, p, none⟩ = some (.int .i64 l0)) (qi : wr.cell? ⟨ig, p, none⟩ = some (.bool b0)) (hltp : p < nc) (hltz : (p : Int) < (nc : Int)) (hops : regOps 11 Try.f34 = some ops) (hsz0 : a0.tmps.size = 238) (hs3 : a0.tmps.getD 3 undef = .pointer (some ⟨L3, 0, none⟩)) (hs4 : a0.tmps.getD 4 undef = .pointer (some ⟨L4, 0, none⟩)) (hs9 : a0.tmps.getD 9 undef = .int .i64 (p : Int))
  (hrest : ∀ (ac : Act) (w5 : World), LaidG ops.toArray a0 (fun (i : Nat) (x : Value) (ww : World) => (match i with | 0 => x = .pointer (some ⟨L3, 0, none⟩) | 1 => x = .slice (some ⟨cb, co, none⟩) nc cc | 2 => x = .int .i64 (p : Int) | 3 => x = .pointer (some ⟨cb, co + p * 3, none⟩) | 4 => x = .agg #[.int .i64 c1, .int .i64 c2, .int .i64 c3] | 5 => x = .pointer (some ⟨L4, 1, none⟩) | 6 => x = .slice (some ⟨lg, 0, none⟩) nc lc | 7 => x = .int .i64 (p : Int) | 8 => x = .pointer (some ⟨lg, p, none⟩) | 9 => x = .int .i64 l0 | 10 => x = .pointer (some ⟨L4, 3, none⟩) | 11 => x = .slice (some ⟨ig, 0, none⟩) nc ic | 12 => x = .int .i64 (p : Int) | 13 => x = .pointer (some ⟨ig, p, none⟩) | 14 => x = .bool b0 | 15 => x = .int .i64 (p : Int) | 16 => x = .agg #[.int .i64 (p : Int), .slice none 0 0] | 17 => True | 18 => True | 19 => True | 20 => x = .int .i64 l0 | 21 => x = .bool b0 | 22 => True | _ => True : Prop)) (Cl wr [(⟨17, 19, 10, .cells #[.int .i64 0, .int .i64 0, .int .i64 0] 24 (0, 0), .cells #[.int .i64 c1, .int .i64 c2, .int .i64 c3] 24 (0, 0)⟩ : AS), (⟨18, 22, 13, .cells #[.int .i64 0, .slice none 0 0] 84 (0, 0), .cells #[.int .i64 (p : Int), .slice none 0 0] 84 (0, 0)⟩ : AS)]) #[true, true, true, true, true, true, true, true, true, true, true, true, true, true, true, true, true, true, true, true, true, true, true] ac w5 → wpAny Try.prog .any ops.toArray Q 0 #[true, true, true, true, true, true, true, true, true, true, true, true, true, true, true, true, true, true, true, true, true, true, true] ac w5) : (Code.region 11 ops.toArray true).wp Try.prog Q a0 wr := by
 (conv at hops => lhs; whnf)
 obtain rfl := Option.some.inj hops
 clear hops
 refine region_laidK (fun _ _ => True) (fl := 16) [true, true, true, true, true, true, true, true, true, true, true, true, true, true, true, true, true, true, true, true, true, true, true] 0 (fun (i : Nat) (x : Value) (ww : World) => (match i with | 0 => x = .pointer (some ⟨L3, 0, none⟩) | 1 => x = .slice (some ⟨cb, co, none⟩) nc cc | 2 => x = .int .i64 (p : Int) | 3 => x = .pointer (some ⟨cb, co + p * 3, none⟩) | 4 => x = .agg #[.int .i64 c1, .int .i64 c2, .int .i64 c3] | 5 => x = .pointer (some ⟨L4, 1, none⟩) | 6 => x = .slice (some ⟨lg, 0, none⟩) nc lc | 7 => x = .int .i64 (p : Int) | 8 => x = .pointer (some ⟨lg, p, none⟩) | 9 => x = .int .i64 l0 | 10 => x = .pointer (some ⟨L4, 3, none⟩) | 11 => x = .slice (some ⟨ig, 0, none⟩) nc ic | 12 => x = .int .i64 (p : Int) | 13 => x = .pointer (some ⟨ig, p, none⟩) | 14 => x = .bool b0 | 15 => x = .int .i64 (p : Int) | 16 => x = .agg #[.int .i64 (p : Int), .slice none 0 0] | 17 => True | 18 => True | 19 => True | 20 => x = .int .i64 l0 | 21 => x = .bool b0 | 22 => True | _ => True : Prop)) (Cl wr [(⟨17, 19, 10, .cells #[.int .i64 0, .int .i64 0, .int .i64 0] 24 (0, 0), .cells #[.int .i64 c1, .int .i64 c2, .int .i64 c3] 24 (0, 0)⟩ : AS), (⟨18, 22, 13, .cells #[.int .i64 0, .slice none 0 0] 84 (0, 0), .cells #[.int .i64 (p : Int), .slice none 0 0] 84 (0, 0)⟩ : AS)]) (by kernel_rfl) rfl (by rw [hsz0]; decide +kernel) rfl (Cl.start _ _ _ _) ?mono ?step hrest
 case mono =>
  intro i x ww ww' hB h
  match i, h with
  | 0, h => exact h
  | 1, h => exact h
  | 2, h => exact h
  | 3, h => exact h
  | 4, h => exact h
  | 5, h => exact h
  | 6, h => exact h
  | 7, h => exact h
  | 8, h => exact h
  | 9, h => exact h
  | 10, h => exact h
  | 11, h => exact h
  | 12, h => exact h
  | 13, h => exact h
  | 14, h => exact h
  | 15, h => exact h
  | 16, h => exact h
  | 17, h => exact h
  | 18, h => exact h
  | 19, h => exact h
  | 20, h => exact h
  | 21, h => exact h
  | 22, h => exact h
  | n + 23, h => exact h
 case step =>
  intro i o_ listed ac W hA ho hL he hcl hli hsz
  have hk3 : ac.tmps.getD 3 undef = .pointer (some ⟨L3, 0, none⟩) := (hL.kept 3 (by decide +kernel)).trans hs3
  have hk4 : ac.tmps.getD 4 undef = .pointer (some ⟨L4, 0, none⟩) := (hL.kept 4 (by decide +kernel)).trans hs4
  have hk9 : ac.tmps.getD 9 undef = .int .i64 (p : Int) := (hL.kept 9 (by decide +kernel)).trans hs9
  have k_l := keepc hL.cls.1 kl
  have k_i := keepc hL.cls.1 ki
  have k_ql := keepc hL.cls.1 ql
  have k_qi := keepc hL.cls.1 qi
  have k_kc := keepc hL.cls.1 kc
  have k_q0 := keepc hL.cls.1 q0
  have k_q1 := keepc hL.cls.1 q1
  have k_q2 := keepc hL.cls.1 q2
  match i, hA, ho with
  | 0, _, ho =>
   cases ho
   refine wpOp_plain rfl rfl ?_
   unfold Oper.wp
   go_simp
   first | exact Cl.other hL.cls rfl (Below.refl _ _) | exact ⟨_, rfl, trivial, Cl.other hL.cls rfl (Below.refl _ _), rfl⟩
  | 1, _, ho =>
   cases ho
   have d0 : ac.tmps.getD 74 undef = .pointer (some ⟨L3, 0, none⟩) := hL.new 0 _ 74 rfl (he ⟨0, .data⟩ (by simp) rfl) rfl
   refine wpOp_plain rfl rfl ?_
   unfold Oper.wp
   go_simp
   first | exact Cl.other hL.cls rfl (Below.refl _ _) | exact ⟨_, rfl, trivial, Cl.other hL.cls rfl (Below.refl _ _), rfl⟩
  | 2, _, ho =>
   cases ho
   refine wpOp_plain rfl rfl ?_
   unfold Oper.wp
   go_simp
   first | exact Cl.other hL.cls rfl (Below.refl _ _) | exact ⟨_, rfl, trivial, Cl.other hL.cls rfl (Below.refl _ _), rfl⟩
  | 3, _, ho =>
   cases ho
   have d1 : ac.tmps.getD 75 undef = .slice (some ⟨cb, co, none⟩) nc cc := hL.new 1 _ 75 rfl (he ⟨1, .data⟩ (by simp) rfl) rfl
   have d2 : ac.tmps.getD 76 undef = .int .i64 (p : Int) := hL.new 2 _ 76 rfl (he ⟨2, .data⟩ (by simp) rfl) rfl
   refine wpOp_plain rfl rfl ?_
   unfold Oper.wp
   go_simp
   first | exact Cl.other hL.cls rfl (Below.refl _ _) | exact ⟨_, rfl, trivial, Cl.other hL.cls rfl (Below.refl _ _), rfl⟩
  | 4, _, ho =>
   cases ho
   have d3 : ac.tmps.getD 77 undef = .pointer (some ⟨cb, co + p * 3, none⟩) := hL.new 3 _ 77 rfl (he ⟨3, .data⟩ (by simp) rfl) rfl
   refine wpOp_plain rfl rfl ?_
   unfold Oper.wp
   go_simp
   first | exact Cl.other hL.cls rfl (Below.refl _ _) | exact ⟨_, rfl, trivial, Cl.other hL.cls rfl (Below.refl _ _), rfl⟩
  | 5, _, ho =>
   cases ho
   refine wpOp_plain rfl rfl ?_
   unfold Oper.wp
   go_simp
   first | exact Cl.other hL.cls rfl (Below.refl _ _) | exact ⟨_, rfl, trivial, Cl.other hL.cls rfl (Below.refl _ _), rfl⟩
  | 6, _, ho =>
   cases ho
   have d5 : ac.tmps.getD 79 undef = .pointer (some ⟨L4, 1, none⟩) := hL.new 5 _ 79 rfl (he ⟨5, .data⟩ (by simp) rfl) rfl
   refine wpOp_plain rfl rfl ?_
   unfold Oper.wp
   go_simp
   first | exact Cl.other hL.cls rfl (Below.refl _ _) | exact ⟨_, rfl, trivial, Cl.other hL.cls rfl (Below.refl _ _), rfl⟩
  | 7, _, ho =>
   cases ho
   refine wpOp_plain rfl rfl ?_
   unfold Oper.wp
   go_simp
   first | exact Cl.other hL.cls rfl (Below.refl _ _) | exact ⟨_, rfl, trivial, Cl.other hL.cls rfl (Below.refl _ _), rfl⟩
  | 8, _, ho =>
   cases ho
   have d6 : ac.tmps.getD 80 undef = .slice (some ⟨lg, 0, none⟩) nc lc := hL.new 6 _ 80 rfl (he ⟨6, .data⟩ (by simp) rfl) rfl
   have d7 : ac.tmps.getD 81 undef = .int .i64 (p : Int) := hL.new 7 _ 81 rfl (he ⟨7, .data⟩ (by simp) rfl) rfl
   refine wpOp_plain rfl rfl ?_
   unfold Oper.wp
   go_simp
   first | exact Cl.other hL.cls rfl (Below.refl _ _) | exact ⟨_, rfl, trivial, Cl.other hL.cls rfl (Below.refl _ _), rfl⟩
  | 9, _, ho =>
   cases ho
   have d8 : ac.tmps.getD 82 undef = .pointer (some ⟨lg, p, none⟩) := hL.new 8 _ 82 rfl (he ⟨8, .data⟩ (by simp) rfl) rfl
   refine wpOp_plain rfl rfl ?_
   unfold Oper.wp
   go_simp
   first | exact Cl.other hL.cls rfl (Below.refl _ _) | exact ⟨_, rfl, trivial, Cl.other hL.cls rfl (Below.refl _ _), rfl⟩
  | 10, _, ho =>
   cases ho
   refine wpOp_plain rfl rfl ?_
   unfold Oper.wp
   go_simp
   first | exact Cl.other hL.cls rfl (Below.refl _ _) | exact ⟨_, rfl, trivial, Cl.other hL.cls rfl (Below.refl _ _), rfl⟩
  | 11, _, ho =>
   cases ho
   have d10 : ac.tmps.getD 84 undef = .pointer (some ⟨L4, 3, none⟩) := hL.new 10 _ 84 rfl (he ⟨10, .data⟩ (by simp) rfl) rfl
   refine wpOp_plain rfl rfl ?_
   unfold Oper.wp
   go_simp
   first | exact Cl.other hL.cls rfl (Below.refl _ _) | exact ⟨_, rfl, trivial, Cl.other hL.cls rfl (Below.refl _ _), rfl⟩
  | 12, _, ho =>
   cases ho
   refine wpOp_plain rfl rfl ?_
   unfold Oper.wp
   go_simp
   first | exact Cl.other hL.cls rfl (Below.refl _ _) | exact ⟨_, rfl, trivial, Cl.other hL.cls rfl (Below.refl _ _), rfl⟩
  | 13, _, ho =>
   cases ho
   have d11 : ac.tmps.getD 85 undef = .slice (some ⟨ig, 0, none⟩) nc ic := hL.new 11 _ 85 rfl (he ⟨11, .data⟩ (by simp) rfl) rfl
   have d12 : ac.tmps.getD 86 undef = .int .i64 (p : Int) := hL.new 12 _ 86 rfl (he ⟨12, .data⟩ (by simp) rfl) rfl
   refine wpOp_plain rfl rfl ?_
   unfold Oper.wp
   go_simp
   first | exact Cl.other hL.cls rfl (Below.refl _ _) | exact ⟨_, rfl, trivial, Cl.other hL.cls rfl (Below.refl _ _), rfl⟩
  | 14, _, ho =>
   cases ho
   have d13 : ac.tmps.getD 87 undef = .pointer (some ⟨ig, p, none⟩) := hL.new 13 _ 87 rfl (he ⟨13, .data⟩ (by simp) rfl) rfl
   refine wpOp_plain rfl rfl ?_
   unfold Oper.wp
   go_simp
   first | exact Cl.other hL.cls rfl (Below.refl _ _) | exact ⟨_, rfl, trivial, Cl.other hL.cls rfl (Below.refl _ _), rfl⟩
  | 15, _, ho =>
   cases ho
   refine wpOp_plain rfl rfl ?_
   unfold Oper.wp
   go_simp
   first | exact Cl.other hL.cls rfl (Below.refl _ _) | exact ⟨_, rfl, trivial, Cl.other hL.cls rfl (Below.refl _ _), rfl⟩
  | 16, _, ho =>
   cases ho
   have d15 : ac.tmps.getD 89 undef = .int .i64 (p : Int) := hL.new 15 _ 89 rfl (he ⟨15, .data⟩ (by simp) rfl) rfl
   simp only [Array.getD_eq_getD_getElem?] at d15
   refine wpOp_plain rfl rfl ?_
   unfold Oper.wp
   go_simp
   first | exact Cl.other hL.cls rfl (Below.refl _ _) | exact ⟨_, rfl, trivial, Cl.other hL.cls rfl (Below.refl _ _), rfl⟩
  | 17, _, ho =>
   cases ho
   have hq : listed.getD 19 false = false := by
    cases hx : listed.getD 19 false with
    | false => rfl
    | true =>
     have h8 := hcl 19 _ rfl hx ⟨17, .data⟩ (by simp) rfl
     simp only [Array.getD_eq_getD_getElem?] at h8 hli
     rw [Array.getElem?_eq_getElem (show 17 < listed.size by rw [hsz]; decide)] at h8 hli
     rw [Option.getD_some] at h8 hli
     rw [h8] at hli
     exact absurd hli (by simp)
   refine wpOp_plain rfl rfl ?_
   unfold Oper.wp
   go_simp
   have hC := Cl.alloc (⟨17, 19, 10, .cells #[.int .i64 0, .int .i64 0, .int .i64 0] 24 (0, 0), .cells #[.int .i64 c1, .int .i64 c2, .int .i64 c3] 24 (0, 0)⟩ : AS) hL.cls (by simp) (by rw [hL.size, hsz0]; exact (by decide : (10 : Nat) < 238)) hq (by simp) (by intro e' he hne; simp at he; rcases he with rfl | rfl <;> first | exact absurd rfl hne | exact ⟨by simp, by simp, by simp⟩)
   first | exact ⟨_, rfl, trivial, hC⟩ | exact ⟨_, rfl, hC⟩ | exact ⟨_, rfl, trivial, hC, trivial⟩
  | 18, _, ho =>
   cases ho
   have hq : listed.getD 22 false = false := by
    cases hx : listed.getD 22 false with
    | false => rfl
    | true =>
     have h8 := hcl 22 _ rfl hx ⟨18, .data⟩ (by simp) rfl
     simp only [Array.getD_eq_getD_getElem?] at h8 hli
     rw [Array.getElem?_eq_getElem (show 18 < listed.size by rw [hsz]; decide)] at h8 hli
     rw [Option.getD_some] at h8 hli
     rw [h8] at hli
     exact absurd hli (by simp)
   refine wpOp_plain rfl rfl ?_
   unfold Oper.wp
   go_simp
   have hC := Cl.alloc (⟨18, 22, 13, .cells #[.int .i64 0, .slice none 0 0] 84 (0, 0), .cells #[.int .i64 (p : Int), .slice none 0 0] 84 (0, 0)⟩ : AS) hL.cls (by simp) (by rw [hL.size, hsz0]; exact (by decide : (13 : Nat) < 238)) hq (by simp) (by intro e' he hne; simp at he; rcases he with rfl | rfl <;> first | exact absurd rfl hne | exact ⟨by simp, by simp, by simp⟩)
   first | exact ⟨_, rfl, trivial, hC⟩ | exact ⟨_, rfl, hC⟩ | exact ⟨_, rfl, trivial, hC, trivial⟩
  | 19, _, ho =>
   cases ho
   have d4 : ac.tmps.getD 78 undef = .agg #[.int .i64 c1, .int .i64 c2, .int .i64 c3] := hL.new 4 _ 78 rfl (he ⟨4, .data⟩ (by simp) rfl) rfl
   have hpp : listed.getD 17 false = true := he ⟨17, .data⟩ (by simp) rfl
   obtain ⟨g, g1, g2, g3, g4⟩ := hL.cls.2.1 (⟨17, 19, 10, .cells #[.int .i64 0, .int .i64 0, .int .i64 0] 24 (0, 0), .cells #[.int .i64 c1, .int .i64 c2, .int .i64 c3] 24 (0, 0)⟩ : AS) (by simp) hpp
   have hq : listed.getD 19 false = false := by
    simp only [Array.getD_eq_getD_getElem?] at hli ⊢
    rw [Array.getElem?_eq_getElem (show 19 < listed.size by rw [hsz]; decide)] at hli ⊢
    simpa using hli
   simp only [] at g1 g4
   rw [if_neg (by rw [hq]; simp)] at g4
   have HPU : Aside _ := Cl.store (⟨17, 19, 10, .cells #[.int .i64 0, .int .i64 0, .int .i64 0] 24 (0, 0), .cells #[.int .i64 c1, .int .i64 c2, .int .i64 c3] 24 (0, 0)⟩ : AS) hL.cls (by simp) hpp (by rw [hsz]; exact (by decide : (19 : Nat) < 23)) g1 (put3t g4) (by simp) (by intro e' he hne; simp at he; rcases he with rfl | rfl <;> first | exact absurd rfl hne | exact ⟨by simp, by simp, by simp⟩)
   have zc0 : W.cell? ⟨g, 0, none⟩ = some (.int .i64 0) := blk_cell g4 rfl
   have zc1 : W.cell? ⟨g, 1, none⟩ = some (.int .i64 0) := blk_cell g4 rfl
   have zc2 : W.cell? ⟨g, 2, none⟩ = some (.int .i64 0) := blk_cell g4 rfl
   have zf : ∀ i, W.frozen? ⟨g, i, none⟩ = false := fun i => blk_free g4 i
   clear g4
   simp only [Array.getD_eq_getD_getElem?] at g1
   refine wpOp_plain rfl rfl ?_
   unfold Oper.wp
   go_simp
   exact HPU.out
  | 20, _, ho =>
   cases ho
   have d9 : ac.tmps.getD 83 undef = .int .i64 l0 := hL.new 9 _ 83 rfl (he ⟨9, .data⟩ (by simp) rfl) rfl
   refine wpOp_plain rfl rfl ?_
   unfold Oper.wp
   go_simp
   first | exact Cl.other hL.cls rfl (Below.refl _ _) | exact ⟨_, rfl, trivial, Cl.other hL.cls rfl (Below.refl _ _), rfl⟩
  | 21, _, ho =>
   cases ho
   have d14 : ac.tmps.getD 88 undef = .bool b0 := hL.new 14 _ 88 rfl (he ⟨14, .data⟩ (by simp) rfl) rfl
   refine wpOp_plain rfl rfl ?_
   unfold Oper.wp
   go_simp
   first | exact Cl.other hL.cls rfl (Below.refl _ _) | exact ⟨_, rfl, trivial, Cl.other hL.cls rfl (Below.refl _ _), rfl⟩
  | 22, _, ho =>
   cases ho
   have d16 : ac.tmps.getD 90 undef = .agg #[.int .i64 (p : Int), .slice none 0 0] := hL.new 16 _ 90 rfl (he ⟨16, .data⟩ (by simp) rfl) rfl
   have hpp : listed.getD 18 false = true := he ⟨18, .data⟩ (by simp) rfl
   obtain ⟨g, g1, g2, g3, g4⟩ := hL.cls.2.1 (⟨18, 22, 13, .cells #[.int .i64 0, .slice none 0 0] 84 (0, 0), .cells #[.int .i64 (p : Int), .slice none 0 0] 84 (0, 0)⟩ : AS) (by simp) hpp
   have hq : listed.getD 22 false = false := by
    simp only [Array.getD_eq_getD_getElem?] at hli ⊢
    rw [Array.getElem?_eq_getElem (show 22 < listed.size by rw [hsz]; decide)] at hli ⊢
    simpa using hli
   simp only [] at g1 g4
   rw [if_neg (by rw [hq]; simp)] at g4
   have HPU : Aside _ := Cl.store (⟨18, 22, 13, .cells #[.int .i64 0, .slice none 0 0] 84 (0, 0), .cells #[.int .i64 (p : Int), .slice none 0 0] 84 (0, 0)⟩ : AS) hL.cls (by simp) hpp (by rw [hsz]; exact (by decide : (22 : Nat) < 23)) g1 (put2t g4) (by simp) (by intro e' he hne; simp at he; rcases he with rfl | rfl <;> first | exact absurd rfl hne | exact ⟨by simp, by simp, by simp⟩)
   have zc0 : W.cell? ⟨g, 0, none⟩ = some (.int .i64 0) := blk_cell g4 rfl
   have zc1 : W.cell? ⟨g, 1, none⟩ = some (.slice none 0 0) := blk_cell g4 rfl
   have zf : ∀ i, W.frozen? ⟨g, i, none⟩ = false := fun i => blk_free g4 i
   clear g4
   simp only [Array.getD_eq_getD_getElem?] at g1
   refine wpOp_plain rfl rfl ?_
   unfold Oper.wp
   go_simp
   exact HPU.out
  | n + 23, hA, _ => simp at hA
set_option maxRecDepth 100000 in
set_option maxHeartbeats 16000000 in
theorem tal22 {ops : List Oper} {Q : Exit → Act → World → Prop} {a0 : Act} (kl : wr.cell? ⟨L4, 1, none⟩ = some (.slice (some ⟨lg, 0, none⟩) nc lc)) (ki : wr.cell? ⟨L4, 3, none⟩ = some (.slice (some ⟨ig, 0, none⟩) nc ic)) (ql : wr.cell? ⟨lg, p, none⟩ = some (.int .i64 l0)) (qi : wr.cell? ⟨ig, p, none⟩ = some (.bool b0)) (hltp : p < nc) (hltz : (p : Int) < (nc : Int)) (hops : regOps 22 Try.f34 = some ops) (hsz0 : a0.tmps.size = 238) (hs4 : a0.tmps.getD 4 undef = .pointer (some ⟨L4, 0, none⟩)) (hs9 : a0.tmps.getD 9 undef = .int .i64 (p : Int))
  (hrest : ∀ (ac : Act) (w5 : World), LaidG ops.toArray a0 (fun (i : Nat) (x : Value) (ww : World) => (match i with | 0 => x = .pointer (some ⟨L4, 3, none⟩) | 1 => x = .slice (some ⟨ig, 0, none⟩) nc ic | 2 => x = .int .i64 (p : Int) | 3 => x = .pointer (some ⟨ig, p, none⟩) | 4 => x = .bool b0 | 5 => x = .pointer (some ⟨L4, 1, none⟩) | 6 => x = .slice (some ⟨lg, 0, none⟩) nc lc | 7 => x = .int .i64 (p : Int) | 8 => x = .pointer (some ⟨lg, p, none⟩) | 9 => x = .int .i64 l0 | 10 => x = .bool b0 | 11 => x = .int .i64 l0 | _ => True : Prop)) (fun (_ : Array Bool) (_ : Act) (w2_ : World) => Below wr.heap.size wr w2_) #[true, true, true, true, true, true, true, true, true, true, true, true] ac w5 → wpAny Try.prog .any ops.toArray Q 0 #[true, true, true, true, true, true, true, true, true, true, true, true] ac w5) : (Code.region 22 ops.toArray true).wp Try.prog Q a0 wr := by
 (conv at hops => lhs; whnf)
 obtain rfl := Option.some.inj hops
 clear hops
 refine region_laidK (fun _ _ => True) (fl := 16) [true, true, true, true, true, true, true, true, true, true, true, true] 0 (fun (i : Nat) (x : Value) (ww : World) => (match i with | 0 => x = .pointer (some ⟨L4, 3, none⟩) | 1 => x = .slice (some ⟨ig, 0, none⟩) nc ic | 2 => x = .int .i64 (p : Int) | 3 => x = .pointer (some ⟨ig, p, none⟩) | 4 => x = .bool b0 | 5 => x = .pointer (some ⟨L4, 1, none⟩) | 6 => x = .slice (some ⟨lg, 0, none⟩) nc lc | 7 => x = .int .i64 (p : Int) | 8 => x = .pointer (some ⟨lg, p, none⟩) | 9 => x = .int .i64 l0 | 10 => x = .bool b0 | 11 => x = .int .i64 l0 | _ => True : Prop)) (fun (_ : Array Bool) (_ : Act) (w2_ : World) => Below wr.heap.size wr w2_) (by kernel_rfl) rfl (by rw [hsz0]; decide +kernel) rfl ((Below.refl _ _).drew) ?mono ?step hrest
 case mono =>
  intro i x ww ww' hB h
  match i, h with
  | 0, h => exact h
  | 1, h => exact h
  | 2, h => exact h
  | 3, h => exact h
  | 4, h => exact h
  | 5, h => exact h
  | 6, h => exact h
  | 7, h => exact h
  | 8, h => exact h
  | 9, h => exact h
  | 10, h => exact h
  | 11, h => exact h
  | n + 12, h => exact h
 case step =>
  intro i o_ listed ac W hA ho hL he hcl hli hsz
  have hk4 : ac.tmps.getD 4 undef = .pointer (some ⟨L4, 0, none⟩) := (hL.kept 4 (by decide +kernel)).trans hs4
  have hk9 : ac.tmps.getD 9 undef = .int .i64 (p : Int) := (hL.kept 9 (by decide +kernel)).trans hs9
  have k_l := keepc hL.cls kl
  have k_i := keepc hL.cls ki
  have k_ql := keepc hL.cls ql
  have k_qi := keepc hL.cls qi
  match i, hA, ho with
  | 0, _, ho =>
   cases ho
   refine wpOp_plain rfl rfl ?_
   unfold Oper.wp
   go_simp
   first | exact ⟨trivial, hL.cls⟩ | exact hL.cls | exact ⟨_, rfl, trivial, hL.cls, rfl⟩
  | 1, _, ho =>
   cases ho
   have d0 : ac.tmps.getD 158 undef = .pointer (some ⟨L4, 3, none⟩) := hL.new 0 _ 158 rfl (he ⟨0, .data⟩ (by simp) rfl) rfl
   refine wpOp_plain rfl rfl ?_
   unfold Oper.wp
   go_simp
   first | exact ⟨trivial, hL.cls⟩ | exact hL.cls | exact ⟨_, rfl, trivial, hL.cls, rfl⟩
  | 2, _, ho =>
   cases ho
   refine wpOp_plain rfl rfl ?_
   unfold Oper.wp
   go_simp
   first | exact ⟨trivial, hL.cls⟩ | exact hL.cls | exact ⟨_, rfl, trivial, hL.cls, rfl⟩
  | 3, _, ho =>
   cases ho
   have d1 : ac.tmps.getD 159 undef = .slice (some ⟨ig, 0, none⟩) nc ic := hL.new 1 _ 159 rfl (he ⟨1, .data⟩ (by simp) rfl) rfl
   have d2 : ac.tmps.getD 160 undef = .int .i64 (p : Int) := hL.new 2 _ 160 rfl (he ⟨2, .data⟩ (by simp) rfl) rfl
   refine wpOp_plain rfl rfl ?_
   unfold Oper.wp
   go_simp
   first | exact ⟨trivial, hL.cls⟩ | exact hL.cls | exact ⟨_, rfl, trivial, hL.cls, rfl⟩
  | 4, _, ho =>
   cases ho
   have d3 : ac.tmps.getD 161 undef = .pointer (some ⟨ig, p, none⟩) := hL.new 3 _ 161 rfl (he ⟨3, .data⟩ (by simp) rfl) rfl
   refine wpOp_plain rfl rfl ?_
   unfold Oper.wp
   go_simp
   first | exact ⟨trivial, hL.cls⟩ | exact hL.cls | exact ⟨_, rfl, trivial, hL.cls, rfl⟩
  | 5, _, ho =>
   cases ho
   refine wpOp_plain rfl rfl ?_
   unfold Oper.wp
   go_simp
   first | exact ⟨trivial, hL.cls⟩ | exact hL.cls | exact ⟨_, rfl, trivial, hL.cls, rfl⟩
  | 6, _, ho =>
   cases ho
   have d5 : ac.tmps.getD 163 undef = .pointer (some ⟨L4, 1, none⟩) := hL.new 5 _ 163 rfl (he ⟨5, .data⟩ (by simp) rfl) rfl
   refine wpOp_plain rfl rfl ?_
   unfold Oper.wp
   go_simp
   first | exact ⟨trivial, hL.cls⟩ | exact hL.cls | exact ⟨_, rfl, trivial, hL.cls, rfl⟩
  | 7, _, ho =>
   cases ho
   refine wpOp_plain rfl rfl ?_
   unfold Oper.wp
   go_simp
   first | exact ⟨trivial, hL.cls⟩ | exact hL.cls | exact ⟨_, rfl, trivial, hL.cls, rfl⟩
  | 8, _, ho =>
   cases ho
   have d6 : ac.tmps.getD 164 undef = .slice (some ⟨lg, 0, none⟩) nc lc := hL.new 6 _ 164 rfl (he ⟨6, .data⟩ (by simp) rfl) rfl
   have d7 : ac.tmps.getD 165 undef = .int .i64 (p : Int) := hL.new 7 _ 165 rfl (he ⟨7, .data⟩ (by simp) rfl) rfl
   refine wpOp_plain rfl rfl ?_
   unfold Oper.wp
   go_simp
   first | exact ⟨trivial, hL.cls⟩ | exact hL.cls | exact ⟨_, rfl, trivial, hL.cls, rfl⟩
  | 9, _, ho =>
   cases ho
   have d8 : ac.tmps.getD 166 undef = .pointer (some ⟨lg, p, none⟩) := hL.new 8 _ 166 rfl (he ⟨8, .data⟩ (by simp) rfl) rfl
   refine wpOp_plain rfl rfl ?_
   unfold Oper.wp
   go_simp
   first | exact ⟨trivial, hL.cls⟩ | exact hL.cls | exact ⟨_, rfl, trivial, hL.cls, rfl⟩
  | 10, _, ho =>
   cases ho
   have d4 : ac.tmps.getD 162 undef = .bool b0 := hL.new 4 _ 162 rfl (he ⟨4, .data⟩ (by simp) rfl) rfl
   refine wpOp_plain rfl rfl ?_
   unfold Oper.wp
   go_simp
   first | exact ⟨trivial, hL.cls⟩ | exact hL.cls | exact ⟨_, rfl, trivial, hL.cls, rfl⟩
  | 11, _, ho =>
   cases ho
   have d9 : ac.tmps.getD 167 undef = .int .i64 l0 := hL.new 9 _ 167 rfl (he ⟨9, .data⟩ (by simp) rfl) rfl
   refine wpOp_plain rfl rfl ?_
   unfold Oper.wp
   go_simp
   first | exact ⟨trivial, hL.cls⟩ | exact hL.cls | exact ⟨_, rfl, trivial, hL.cls, rfl⟩
  | n + 12, hA, _ => simp at hA
end
end
section
open Go.RowKit Go.Maps Go.Sort Go.Shelf Go.Deep
theorem put8z {W : World} {g : Nat} (h : W.heap[g]? = some (Obj.cells #[Value.slice none 0 0, Value.slice none 0 0, Value.slice none 0 0, Value.slice none 0 0, Value.slice none 0 0, Value.slice none 0 0, Value.int .i64 0, Value.bool false] 81 (0, 0))) : Put g (Obj.cells #[Value.slice none 0 0, Value.slice none 0 0, Value.slice none 0 0, Value.slice none 0 0, Value.slice none 0 0, Value.slice none 0 0, Value.int .i64 0, Value.bool false] 81 (0, 0)) W ((((((((W.setCell ⟨g, 0, none⟩ (Value.slice none 0 0)).setCell ⟨g, 1, none⟩ (Value.slice none 0 0)).setCell ⟨g, 2, none⟩ (Value.slice none 0 0)).setCell ⟨g, 3, none⟩ (Value.slice none 0 0)).setCell ⟨g, 4, none⟩ (Value.slice none 0 0)).setCell ⟨g, 5, none⟩ (Value.slice none 0 0)).setCell ⟨g, 6, none⟩ (Value.int .i64 0)).setCell ⟨g, 7, none⟩ (Value.bool false)) := by
 have z0 : (W.setCell ⟨g, 0, none⟩ (Value.slice none 0 0)).heap[g]? = some (Obj.cells #[Value.slice none 0 0, Value.slice none 0 0, Value.slice none 0 0, Value.slice none 0 0, Value.slice none 0 0, Value.slice none 0 0, Value.int .i64 0, Value.bool false] 81 (0, 0)) := Go.Joins.block_setCell (i := 0) h _
 have z1 : ((W.setCell ⟨g, 0, none⟩ (Value.slice none 0 0)).setCell ⟨g, 1, none⟩ (Value.slice none 0 0)).heap[g]? = some (Obj.cells #[Value.slice none 0 0, Value.slice none 0 0, Value.slice none 0 0, Value.slice none 0 0, Value.slice none 0 0, Value.slice none 0 0, Value.int .i64 0, Value.bool false] 81 (0, 0)) := Go.Joins.block_setCell (i := 1) z0 _
 have z2 : (((W.setCell ⟨g, 0, none⟩ (Value.slice none 0 0)).setCell ⟨g, 1, none⟩ (Value.slice none 0 0)).setCell ⟨g, 2, none⟩ (Value.slice none 0 0)).heap[g]? = some (Obj.cells #[Value.slice none 0 0, Value.slice none 0 0, Value.slice none 0 0, Value.slice none 0 0, Value.slice none 0 0, Value.slice none 0 0, Value.int .i64 0, Value.bool false] 81 (0, 0)) := Go.Joins.block_setCell (i := 2) z1 _
 have z3 : ((((W.setCell ⟨g, 0, none⟩ (Value.slice none 0 0)).setCell ⟨g, 1, none⟩ (Value.slice none 0 0)).setCell ⟨g, 2, none⟩ (Value.slice none 0 0)).setCell ⟨g, 3, none⟩ (Value.slice none 0 0)).heap[g]? = some (Obj.cells #[Value.slice none 0 0, Value.slice none 0 0, Value.slice none 0 0, Value.slice none 0 0, Value.slice none 0 0, Value.slice none 0 0, Value.int .i64 0, Value.bool false] 81 (0, 0)) := Go.Joins.block_setCell (i := 3) z2 _
 have z4 : (((((W.setCell ⟨g, 0, none⟩ (Value.slice none 0 0)).setCell ⟨g, 1, none⟩ (Value.slice none 0 0)).setCell ⟨g, 2, none⟩ (Value.slice none 0 0)).setCell ⟨g, 3, none⟩ (Value.slice none 0 0)).setCell ⟨g, 4, none⟩ (Value.slice none 0 0)).heap[g]? = some (Obj.cells #[Value.slice none 0 0, Value.slice none 0 0, Value.slice none 0 0, Value.slice none 0 0, Value.slice none 0 0, Value.slice none 0 0, Value.int .i64 0, Value.bool false] 81 (0, 0)) := Go.Joins.block_setCell (i := 4) z3 _
 have z5 : ((((((W.setCell ⟨g, 0, none⟩ (Value.slice none 0 0)).setCell ⟨g, 1, none⟩ (Value.slice none 0 0)).setCell ⟨g, 2, none⟩ (Value.slice none 0 0)).setCell ⟨g, 3, none⟩ (Value.slice none 0 0)).setCell ⟨g, 4, none⟩ (Value.slice none 0 0)).setCell ⟨g, 5, none⟩ (Value.slice none 0 0)).heap[g]? = some (Obj.cells #[Value.slice none 0 0, Value.slice none 0 0, Value.slice none 0 0, Value.slice none 0 0, Value.slice none 0 0, Value.slice none 0 0, Value.int .i64 0, Value.bool false] 81 (0, 0)) := Go.Joins.block_setCell (i := 5) z4 _
 have z6 : (((((((W.setCell ⟨g, 0, none⟩ (Value.slice none 0 0)).setCell ⟨g, 1, none⟩ (Value.slice none 0 0)).setCell ⟨g, 2, none⟩ (Value.slice none 0 0)).setCell ⟨g, 3, none⟩ (Value.slice none 0 0)).setCell ⟨g, 4, none⟩ (Value.slice none 0 0)).setCell ⟨g, 5, none⟩ (Value.slice none 0 0)).setCell ⟨g, 6, none⟩ (Value.int .i64 0)).heap[g]? = some (Obj.cells #[Value.slice none 0 0, Value.slice none 0 0, Value.slice none 0 0, Value.slice none 0 0, Value.slice none 0 0, Value.slice none 0 0, Value.int .i64 0, Value.bool false] 81 (0, 0)) := Go.Joins.block_setCell (i := 6) z5 _
 have z7 : ((((((((W.setCell ⟨g, 0, none⟩ (Value.slice none 0 0)).setCell ⟨g, 1, none⟩ (Value.slice none 0 0)).setCell ⟨g, 2, none⟩ (Value.slice none 0 0)).setCell ⟨g, 3, none⟩ (Value.slice none 0 0)).setCell ⟨g, 4, none⟩ (Value.slice none 0 0)).setCell ⟨g, 5, none⟩ (Value.slice none 0 0)).setCell ⟨g, 6, none⟩ (Value.int .i64 0)).setCell ⟨g, 7, none⟩ (Value.bool false)).heap[g]? = some (Obj.cells #[Value.slice none 0 0, Value.slice none 0 0, Value.slice none 0 0, Value.slice none 0 0, Value.slice none 0 0, Value.slice none 0 0, Value.int .i64 0, Value.bool false] 81 (0, 0)) := Go.Joins.block_setCell (i := 7) z6 _
 have hO : Outs [g] W ((((((((W.setCell ⟨g, 0, none⟩ (Value.slice none 0 0)).setCell ⟨g, 1, none⟩ (Value.slice none 0 0)).setCell ⟨g, 2, none⟩ (Value.slice none 0 0)).setCell ⟨g, 3, none⟩ (Value.slice none 0 0)).setCell ⟨g, 4, none⟩ (Value.slice none 0 0)).setCell ⟨g, 5, none⟩ (Value.slice none 0 0)).setCell ⟨g, 6, none⟩ (Value.int .i64 0)).setCell ⟨g, 7, none⟩ (Value.bool false)) := (((((((Outs.set (S := [g]) (by simp) _ _ _).trans (Outs.set (S := [g]) (by simp) _ _ _)).trans (Outs.set (S := [g]) (by simp) _ _ _)).trans (Outs.set (S := [g]) (by simp) _ _ _)).trans (Outs.set (S := [g]) (by simp) _ _ _)).trans (Outs.set (S := [g]) (by simp) _ _ _)).trans (Outs.set (S := [g]) (by simp) _ _ _)).trans (Outs.set (S := [g]) (by simp) _ _ _)
 refine ⟨hO.os, hO.tape, hO.output, by simp, z7, fun k hk => ?_⟩
 exact (Below.heap_setCell _ _ _ _ hk).trans ((Below.heap_setCell _ _ _ _ hk).trans ((Below.heap_setCell _ _ _ _ hk).trans ((Below.heap_setCell _ _ _ _ hk).trans ((Below.heap_setCell _ _ _ _ hk).trans ((Below.heap_setCell _ _ _ _ hk).trans ((Below.heap_setCell _ _ _ _ hk).trans (Below.heap_setCell _ _ _ _ hk)))))))
section
variable {w wr w5 : World} {L3 L4 g13 nc cc cb co tg tc nb bc p : Nat} {vcx : Value} {t0 : Int} {ac0 bb : Option Addr}
set_option maxRecDepth 100000 in
set_option maxHeartbeats 16000000 in
theorem tal2 {ops : List Oper} {Q : Exit → Act → World → Prop} {a0 : Act} (kc : wr.cell? ⟨L3, 0, none⟩ = some (.slice ac0 nc cc)) (hops : regOps 2 Try.f34 = some ops) (hsz0 : a0.tmps.size = 238) (hs3 : a0.tmps.getD 3 undef = .pointer (some ⟨L3, 0, none⟩))
  (hrest : ∀ (ac : Act) (w5 : World), LaidG ops.toArray a0 (fun (i : Nat) (x : Value) (ww : World) => (match i with | 0 => x = .agg #[.slice none 0 0, .slice none 0 0, .slice none 0 0, .slice none 0 0, .slice none 0 0, .slice none 0 0, .int .i64 0, .bool false] | 1 => x = .pointer (some ⟨L3, 0, none⟩) | 2 => x = .slice ac0 nc cc | 3 => x = .int .i64 (nc : Int) | 4 => True | 5 => True | 6 => x = .int .i64 (nc : Int) | 7 => x = .int .i64 0 | _ => True : Prop)) (Cl wr [(⟨4, 5, 4, .cells #[.slice none 0 0, .slice none 0 0, .slice none 0 0, .slice none 0 0, .slice none 0 0, .slice none 0 0, .int .i64 0, .bool false] 81 (0, 0), .cells #[.slice none 0 0, .slice none 0 0, .slice none 0 0, .slice none 0 0, .slice none 0 0, .slice none 0 0, .int .i64 0, .bool false] 81 (0, 0)⟩ : AS)]) #[true, true, true, true, true, true, true, true] ac w5 → wpAny Try.prog .any ops.toArray Q 0 #[true, true, true, true, true, true, true, true] ac w5) : (Code.region 2 ops.toArray true).wp Try.prog Q a0 wr := by
 (conv at hops => lhs; whnf)
 obtain rfl := Option.some.inj hops
 clear hops
 refine region_laidK (fun _ _ => True) (fl := 16) [true, true, true, true, true, true, true, true] 0 (fun (i : Nat) (x : Value) (ww : World) => (match i with | 0 => x = .agg #[.slice none 0 0, .slice none 0 0, .slice none 0 0, .slice none 0 0, .slice none 0 0, .slice none 0 0, .int .i64 0, .bool false] | 1 => x = .pointer (some ⟨L3, 0, none⟩) | 2 => x = .slice ac0 nc cc | 3 => x = .int .i64 (nc : Int) | 4 => True | 5 => True | 6 => x = .int .i64 (nc : Int) | 7 => x = .int .i64 0 | _ => True : Prop)) (Cl wr [(⟨4, 5, 4, .cells #[.slice none 0 0, .slice none 0 0, .slice none 0 0, .slice none 0 0, .slice none 0 0, .slice none 0 0, .int .i64 0, .bool false] 81 (0, 0), .cells #[.slice none 0 0, .slice none 0 0, .slice none 0 0, .slice none 0 0, .slice none 0 0, .slice none 0 0, .int .i64 0, .bool false] 81 (0, 0)⟩ : AS)]) (by kernel_rfl) rfl (by rw [hsz0]; decide +kernel) rfl (Cl.start _ _ _ _) ?mono ?step hrest
 case mono =>
  intro i x ww ww' hB h
  match i, h with
  | 0, h => exact h
  | 1, h => exact h
  | 2, h => exact h
  | 3, h => exact h
  | 4, h => exact h
  | 5, h => exact h
  | 6, h => exact h
  | 7, h => exact h
  | n + 8, h => exact h
 case step =>
  intro i o_ listed ac W hA ho hL he hcl hli hsz
  have hk3 : ac.tmps.getD 3 undef = .pointer (some ⟨L3, 0, none⟩) := (hL.kept 3 (by decide +kernel)).trans hs3
  have k_c := keepc hL.cls.1 kc
  match i, hA, ho with
  | 0, _, ho =>
   cases ho
   refine wpOp_plain rfl rfl ?_
   unfold Oper.wp
   go_simp
   first | exact Cl.other hL.cls rfl (Below.refl _ _) | exact ⟨_, rfl, trivial, Cl.other hL.cls rfl (Below.refl _ _), rfl⟩
  | 1, _, ho =>
   cases ho
   refine wpOp_plain rfl rfl ?_
   unfold Oper.wp
   go_simp
   first | exact Cl.other hL.cls rfl (Below.refl _ _) | exact ⟨_, rfl, trivial, Cl.other hL.cls rfl (Below.refl _ _), rfl⟩
  | 2, _, ho =>
   cases ho
   have d1 : ac.tmps.getD 19 undef = .pointer (some ⟨L3, 0, none⟩) := hL.new 1 _ 19 rfl (he ⟨1, .data⟩ (by simp) rfl) rfl
   refine wpOp_plain rfl rfl ?_
   unfold Oper.wp
   go_simp
   first | exact Cl.other hL.cls rfl (Below.refl _ _) | exact ⟨_, rfl, trivial, Cl.other hL.cls rfl (Below.refl _ _), rfl⟩
  | 3, _, ho =>
   cases ho
   have d2 : ac.tmps.getD 20 undef = .slice ac0 nc cc := hL.new 2 _ 20 rfl (he ⟨2, .data⟩ (by simp) rfl) rfl
   refine wpOp_plain rfl rfl ?_
   unfold Oper.wp
   go_simp
   first | exact Cl.other hL.cls rfl (Below.refl _ _) | exact ⟨_, rfl, trivial, Cl.other hL.cls rfl (Below.refl _ _), rfl⟩
  | 4, _, ho =>
   cases ho
   have hq : listed.getD 5 false = false := by
    cases hx : listed.getD 5 false with
    | false => rfl
    | true =>
     have h8 := hcl 5 _ rfl hx ⟨4, .data⟩ (by simp) rfl
     simp only [Array.getD_eq_getD_getElem?] at h8 hli
     rw [Array.getElem?_eq_getElem (show 4 < listed.size by rw [hsz]; decide)] at h8 hli
     rw [Option.getD_some] at h8 hli
     rw [h8] at hli
     exact absurd hli (by simp)
   refine wpOp_plain rfl rfl ?_
   unfold Oper.wp
   go_simp
   have hC := Cl.alloc (⟨4, 5, 4, .cells #[.slice none 0 0, .slice none 0 0, .slice none 0 0, .slice none 0 0, .slice none 0 0, .slice none 0 0, .int .i64 0, .bool false] 81 (0, 0), .cells #[.slice none 0 0, .slice none 0 0, .slice none 0 0, .slice none 0 0, .slice none 0 0, .slice none 0 0, .int .i64 0, .bool false] 81 (0, 0)⟩ : AS) hL.cls (by simp) (by rw [hL.size, hsz0]; exact (by decide : (4 : Nat) < 238)) hq (by simp) (by intro e' he hne; simp at he; subst he; exact absurd rfl hne)
   first | exact ⟨_, rfl, trivial, hC⟩ | exact ⟨_, rfl, hC⟩ | exact ⟨_, rfl, trivial, hC, trivial⟩
  | 5, _, ho =>
   cases ho
   have d0 : ac.tmps.getD 18 undef = .agg #[.slice none 0 0, .slice none 0 0, .slice none 0 0, .slice none 0 0, .slice none 0 0, .slice none 0 0, .int .i64 0, .bool false] := hL.new 0 _ 18 rfl (he ⟨0, .data⟩ (by simp) rfl) rfl
   have hpp : listed.getD 4 false = true := he ⟨4, .data⟩ (by simp) rfl
   obtain ⟨g, g1, g2, g3, g4⟩ := hL.cls.2.1 (⟨4, 5, 4, .cells #[.slice none 0 0, .slice none 0 0, .slice none 0 0, .slice none 0 0, .slice none 0 0, .slice none 0 0, .int .i64 0, .bool false] 81 (0, 0), .cells #[.slice none 0 0, .slice none 0 0, .slice none 0 0, .slice none 0 0, .slice none 0 0, .slice none 0 0, .int .i64 0, .bool false] 81 (0, 0)⟩ : AS) (by simp) hpp
   have hq : listed.getD 5 false = false := by
    simp only [Array.getD_eq_getD_getElem?] at hli ⊢
    rw [Array.getElem?_eq_getElem (show 5 < listed.size by rw [hsz]; decide)] at hli ⊢
    simpa using hli
   simp only [] at g1 g4
   rw [if_neg (by rw [hq]; simp)] at g4
   have HPU : Aside _ := Cl.store (⟨4, 5, 4, .cells #[.slice none 0 0, .slice none 0 0, .slice none 0 0, .slice none 0 0, .slice none 0 0, .slice none 0 0, .int .i64 0, .bool false] 81 (0, 0), .cells #[.slice none 0 0, .slice none 0 0, .slice none 0 0, .slice none 0 0, .slice none 0 0, .slice none 0 0, .int .i64 0, .bool false] 81 (0, 0)⟩ : AS) hL.cls (by simp) hpp (by rw [hsz]; exact (by decide : (5 : Nat) < 8)) g1 (put8z g4) (by simp) (by intro e' he hne; simp at he; subst he; exact absurd rfl hne)
   have zc0 : W.cell? ⟨g, 0, none⟩ = some (.slice none 0 0) := blk_cell g4 rfl
   have zc1 : W.cell? ⟨g, 1, none⟩ = some (.slice none 0 0) := blk_cell g4 rfl
   have zc2 : W.cell? ⟨g, 2, none⟩ = some (.slice none 0 0) := blk_cell g4 rfl
   have zc3 : W.cell? ⟨g, 3, none⟩ = some (.slice none 0 0) := blk_cell g4 rfl
   have zc4 : W.cell? ⟨g, 4, none⟩ = some (.slice none 0 0) := blk_cell g4 rfl
   have zc5 : W.cell? ⟨g, 5, none⟩ = some (.slice none 0 0) := blk_cell g4 rfl
   have zc6 : W.cell? ⟨g, 6, none⟩ = some (.int .i64 0) := blk_cell g4 rfl
   have zc7 : W.cell? ⟨g, 7, none⟩ = some (.bool false) := blk_cell g4 rfl
   have zf : ∀ i, W.frozen? ⟨g, i, none⟩ = false := fun i => blk_free g4 i
   clear g4
   simp only [Array.getD_eq_getD_getElem?] at g1
   refine wpOp_plain rfl rfl ?_
   unfold Oper.wp
   go_simp
   exact HPU.out
  | 6, _, ho =>
   cases ho
   have d3 : ac.tmps.getD 21 undef = .int .i64 (nc : Int) := hL.new 3 _ 21 rfl (he ⟨3, .data⟩ (by simp) rfl) rfl
   refine wpOp_plain rfl rfl ?_
   unfold Oper.wp
   go_simp
   first | exact Cl.other hL.cls rfl (Below.refl _ _) | exact ⟨_, rfl, trivial, Cl.other hL.cls rfl (Below.refl _ _), rfl⟩
  | 7, _, ho =>
   cases ho
   refine wpOp_plain rfl rfl ?_
   unfold Oper.wp
   go_simp
   first | exact Cl.other hL.cls rfl (Below.refl _ _) | exact ⟨_, rfl, trivial, Cl.other hL.cls rfl (Below.refl _ _), rfl⟩
  | n + 8, hA, _ => simp at hA
set_option maxRecDepth 100000 in
set_option maxHeartbeats 16000000 in
theorem tal24 {ops : List Oper} {Q : Exit → Act → World → Prop} {a0 : Act} (kt : wr.cell? ⟨L4, 2, none⟩ = some (.slice (some ⟨tg, 0, none⟩) nc tc)) (qt : wr.cell? ⟨tg, p, none⟩ = some (.int .i64 t0)) (kb : wr.cell? ⟨g13, 1, none⟩ = some (.slice bb nb bc)) (hltp : p < nc) (hltz : (p : Int) < (nc : Int)) (et : IntKind.i64.wrap (t0 + (nb : Int)) = t0 + (nb : Int)) (hops : regOps 24 Try.f34 = some ops) (hsz0 : a0.tmps.size = 238) (hs4 : a0.tmps.getD 4 undef = .pointer (some ⟨L4, 0, none⟩)) (hs9 : a0.tmps.getD 9 undef = .int .i64 (p : Int)) (hs13 : a0.tmps.getD 13 undef = .pointer (some ⟨g13, 0, none⟩))
  (hrest : ∀ (ac : Act) (w5 : World), LaidG ops.toArray a0 (fun (i : Nat) (x : Value) (ww : World) => (match i with | 0 => x = .pointer (some ⟨L4, 2, none⟩) | 1 => x = .slice (some ⟨tg, 0, none⟩) nc tc | 2 => x = .int .i64 (p : Int) | 3 => x = .pointer (some ⟨tg, p, none⟩) | 4 => x = .int .i64 t0 | 5 => x = .pointer (some ⟨g13, 1, none⟩) | 6 => x = .slice bb nb bc | 7 => x = .int .i64 (nb : Int) | 8 => x = .int .i64 (t0 + (nb : Int)) | 9 => x = .pointer (some ⟨tg, p, none⟩) | _ => True : Prop)) (fun (_ : Array Bool) (_ : Act) (w2_ : World) => Below wr.heap.size wr w2_) #[true, true, true, true, true, true, true, true, true, true, false] ac w5 → wpAny Try.prog .any ops.toArray Q 1 #[true, true, true, true, true, true, true, true, true, true, false] ac w5) : (Code.region 24 ops.toArray true).wp Try.prog Q a0 wr := by
 (conv at hops => lhs; whnf)
 obtain rfl := Option.some.inj hops
 clear hops
 refine region_laidK (fun _ _ => True) (fl := 16) [true, true, true, true, true, true, true, true, true, true, false] 1 (fun (i : Nat) (x : Value) (ww : World) => (match i with | 0 => x = .pointer (some ⟨L4, 2, none⟩) | 1 => x = .slice (some ⟨tg, 0, none⟩) nc tc | 2 => x = .int .i64 (p : Int) | 3 => x = .pointer (some ⟨tg, p, none⟩) | 4 => x = .int .i64 t0 | 5 => x = .pointer (some ⟨g13, 1, none⟩) | 6 => x = .slice bb nb bc | 7 => x = .int .i64 (nb : Int) | 8 => x = .int .i64 (t0 + (nb : Int)) | 9 => x = .pointer (some ⟨tg, p, none⟩) | _ => True : Prop)) (fun (_ : Array Bool) (_ : Act) (w2_ : World) => Below wr.heap.size wr w2_) (by kernel_rfl) rfl (by rw [hsz0]; decide +kernel) rfl ((Below.refl _ _).drew) ?mono ?step hrest
 case mono =>
  intro i x ww ww' hB h
  match i, h with
  | 0, h => exact h
  | 1, h => exact h
  | 2, h => exact h
  | 3, h => exact h
  | 4, h => exact h
  | 5, h => exact h
  | 6, h => exact h
  | 7, h => exact h
  | 8, h => exact h
  | 9, h => exact h
  | n + 10, h => exact h
 case step =>
  intro i o_ listed ac W hA ho hL he hcl hli hsz
  have hk4 : ac.tmps.getD 4 undef = .pointer (some ⟨L4, 0, none⟩) := (hL.kept 4 (by decide +kernel)).trans hs4
  have hk9 : ac.tmps.getD 9 undef = .int .i64 (p : Int) := (hL.kept 9 (by decide +kernel)).trans hs9
  have hk13 : ac.tmps.getD 13 undef = .pointer (some ⟨g13, 0, none⟩) := (hL.kept 13 (by decide +kernel)).trans hs13
  have k_t := keepc hL.cls kt
  have k_qt := keepc hL.cls qt
  have k_b := keepc hL.cls kb
  match i, hA, ho with
  | 0, _, ho =>
   cases ho
   refine wpOp_plain rfl rfl ?_
   unfold Oper.wp
   go_simp
   first | exact ⟨trivial, hL.cls⟩ | exact hL.cls | exact ⟨_, rfl, trivial, hL.cls, rfl⟩
  | 1, _, ho =>
   cases ho
   have d0 : ac.tmps.getD 184 undef = .pointer (some ⟨L4, 2, none⟩) := hL.new 0 _ 184 rfl (he ⟨0, .data⟩ (by simp) rfl) rfl
   refine wpOp_plain rfl rfl ?_
   unfold Oper.wp
   go_simp
   first | exact ⟨trivial, hL.cls⟩ | exact hL.cls | exact ⟨_, rfl, trivial, hL.cls, rfl⟩
  | 2, _, ho =>
   cases ho
   refine wpOp_plain rfl rfl ?_
   unfold Oper.wp
   go_simp
   first | exact ⟨trivial, hL.cls⟩ | exact hL.cls | exact ⟨_, rfl, trivial, hL.cls, rfl⟩
  | 3, _, ho =>
   cases ho
   have d1 : ac.tmps.getD 185 undef = .slice (some ⟨tg, 0, none⟩) nc tc := hL.new 1 _ 185 rfl (he ⟨1, .data⟩ (by simp) rfl) rfl
   have d2 : ac.tmps.getD 186 undef = .int .i64 (p : Int) := hL.new 2 _ 186 rfl (he ⟨2, .data⟩ (by simp) rfl) rfl
   refine wpOp_plain rfl rfl ?_
   unfold Oper.wp
   go_simp
   first | exact ⟨trivial, hL.cls⟩ | exact hL.cls | exact ⟨_, rfl, trivial, hL.cls, rfl⟩
  | 4, _, ho =>
   cases ho
   have d3 : ac.tmps.getD 187 undef = .pointer (some ⟨tg, p, none⟩) := hL.new 3 _ 187 rfl (he ⟨3, .data⟩ (by simp) rfl) rfl
   refine wpOp_plain rfl rfl ?_
   unfold Oper.wp
   go_simp
   first | exact ⟨trivial, hL.cls⟩ | exact hL.cls | exact ⟨_, rfl, trivial, hL.cls, rfl⟩
  | 5, _, ho =>
   cases ho
   refine wpOp_plain rfl rfl ?_
   unfold Oper.wp
   go_simp
   first | exact ⟨trivial, hL.cls⟩ | exact hL.cls | exact ⟨_, rfl, trivial, hL.cls, rfl⟩
  | 6, _, ho =>
   cases ho
   have d5 : ac.tmps.getD 189 undef = .pointer (some ⟨g13, 1, none⟩) := hL.new 5 _ 189 rfl (he ⟨5, .data⟩ (by simp) rfl) rfl
   refine wpOp_plain rfl rfl ?_
   unfold Oper.wp
   go_simp
   first | exact ⟨trivial, hL.cls⟩ | exact hL.cls | exact ⟨_, rfl, trivial, hL.cls, rfl⟩
  | 7, _, ho =>
   cases ho
   have d6 : ac.tmps.getD 190 undef = .slice bb nb bc := hL.new 6 _ 190 rfl (he ⟨6, .data⟩ (by simp) rfl) rfl
   refine wpOp_plain rfl rfl ?_
   unfold Oper.wp
   go_simp
   first | exact ⟨trivial, hL.cls⟩ | exact hL.cls | exact ⟨_, rfl, trivial, hL.cls, rfl⟩
  | 8, _, ho =>
   cases ho
   have d4 : ac.tmps.getD 188 undef = .int .i64 t0 := hL.new 4 _ 188 rfl (he ⟨4, .data⟩ (by simp) rfl) rfl
   have d7 : ac.tmps.getD 191 undef = .int .i64 (nb : Int) := hL.new 7 _ 191 rfl (he ⟨7, .data⟩ (by simp) rfl) rfl
   refine wpOp_plain rfl rfl ?_
   unfold Oper.wp
   go_simp
   first | exact ⟨trivial, hL.cls⟩ | exact hL.cls | exact ⟨_, rfl, trivial, hL.cls, rfl⟩
  | 9, _, ho =>
   cases ho
   have d1 : ac.tmps.getD 185 undef = .slice (some ⟨tg, 0, none⟩) nc tc := hL.new 1 _ 185 rfl (he ⟨1, .data⟩ (by simp) rfl) rfl
   have d2 : ac.tmps.getD 186 undef = .int .i64 (p : Int) := hL.new 2 _ 186 rfl (he ⟨2, .data⟩ (by simp) rfl) rfl
   refine wpOp_plain rfl rfl ?_
   unfold Oper.wp
   go_simp
   first | exact ⟨trivial, hL.cls⟩ | exact hL.cls | exact ⟨_, rfl, trivial, hL.cls, rfl⟩
  | 10, hA, _ => cases hA
  | n + 11, hA, _ => simp at hA
end
end
section
open Go.RowKit Go.Maps Go.Sort Go.Shelf Go.Deep
structure C23 (w : World) (Z L4 : Nat) (v : Nat → Value) (n : Nat → Nat) (xs : Nat → List Value) (rn : Int) (ov : Bool) (p : Nat) (l : Int) (b : Bool) (el : List Value) (base : World) (listed : Array Bool) (a : Act) (E : Nat → RD) (W : World) : Prop where
 bel : Below w.heap.size w W
 siz : Z ≤ W.heap.size
 leg : W.heap[L4]? = some (.cells (tlC (fun i => if i = 5 then (if listed.getD 14 false = true then (E 5).v else v 5) else v i) rn ov) 81 (0, 0))
 rows : Rws Z 6 E W
 e0 : E 0 = ⟨tlT 0, tlS 0, v 0, n 0, if listed.getD 16 false = true then (xs 0).set p (.int .i64 l) else xs 0⟩
 e1 : E 1 = tlD v n xs 1
 e2 : E 2 = ⟨tlT 2, tlS 2, v 2, n 2, if listed.getD 18 false = true then (xs 2).set p (.bool b) else xs 2⟩
 e3 : E 3 = tlD v n xs 3
 e4 : E 4 = tlD v n xs 4
 e5 : (listed.getD 10 false = false → E 5 = tlD v n xs 5) ∧ (listed.getD 10 false = true → a.tmps.getD 178 undef = (E 5).v ∧ E 5 = ⟨tlT 5, tlS 5, (E 5).v, n 5 + 1, xs 5 ++ el⟩)
 one : listed.getD 9 false = true → ∃ g, a.tmps.getD 177 undef = .slice (some ⟨g, 0, none⟩) 1 1 ∧ Z ≤ g ∧ W.heap[g]? = some (.cells el.toArray 84 (0, 0)) ∧ ∀ i, i < 6 → (E i).v.ownBlock ≠ some g
 sb : base.heap.size ≤ W.heap.size
 oth : ∀ j, j < base.heap.size → j ≠ L4 → (∀ i, i < 6 → (v i).ownBlock ≠ some j) → W.heap[j]? = base.heap[j]?
 org : ∀ i, i < 6 → ∀ g, (E i).v.ownBlock = some g → (v i).ownBlock = some g ∨ base.heap.size ≤ g
section
variable {w base W W' : World} {Z L4 : Nat} {v : Nat → Value} {n : Nat → Nat} {xs : Nat → List Value} {rn l : Int} {ov b : Bool} {p : Nat} {el : List Value} {listed : Array Bool} {a : Act} {E : Nat → RD}
theorem tlC_fun {v v' : Nat → Value} (h : ∀ i, v i = v' i) (rn : Int) (ov : Bool) : tlC v rn ov = tlC v' rn ov := by unfold tlC; simp only [h]
theorem C23.start (hb : Below w.heap.size w base) (hs : Z ≤ base.heap.size) (hl : base.heap[L4]? = some (.cells (tlC v rn ov) 81 (0, 0))) (hr : Rws Z 6 (tlD v n xs) base) (m : Nat) (a : Act) : C23 w Z L4 v n xs rn ov p l b el base (Array.replicate m false) a (tlD v n xs) base.drew := by
 refine ⟨hb.drew, hs, ?_, hr.below ((Below.refl _ _).drew), ?_, rfl, ?_, rfl, rfl, ⟨fun _ => rfl, fun e => ?_⟩, fun e => ?_, Nat.le_refl _, fun _ _ _ _ => rfl, fun _ _ _ e => .inl e⟩
 ·rw [rep_false, tlC_fun (v' := v)]
  ·exact hl
  ·intro i; by_cases hi : i = 5
   ·subst hi; simp
   ·simp [hi]
 ·rw [rep_false]; rfl
 ·rw [rep_false]; rfl
 ·rw [rep_false] at e; cases e
 ·rw [rep_false] at e; cases e
theorem C23.other (h : C23 w Z L4 v n xs rn ov p l b el base listed a E W) {i t : Nat} {x : Value} (hi : (decide (i ≠ 9) && decide (i ≠ 10) && decide (i ≠ 14) && decide (i ≠ 16) && decide (i ≠ 18) && decide (t ≠ 177) && decide (t ≠ 178)) = true) : C23 w Z L4 v n xs rn ov p l b el base (listed.setIfInBounds i true) (a.put (some t) x) E W := by
 simp only [Bool.and_eq_true, decide_eq_true_eq] at hi
 obtain ⟨⟨⟨⟨⟨⟨i9, i10⟩, i14⟩, i16⟩, i18⟩, t7⟩, t8⟩ := hi
 refine ⟨h.bel, h.siz, ?_, h.rows, ?_, h.e1, ?_, h.e3, h.e4, ?_, ?_, h.sb, h.oth, h.org⟩
 ·rw [getD_set_ne _ _ _ _ (Ne.symm i14)]; exact h.leg
 ·rw [getD_set_ne _ _ _ _ (Ne.symm i16)]; exact h.e0
 ·rw [getD_set_ne _ _ _ _ (Ne.symm i18)]; exact h.e2
 ·rw [getD_set_ne _ _ _ _ (Ne.symm i10), getD_put (Ne.symm t8)]; exact h.e5
 ·rw [getD_set_ne _ _ _ _ (Ne.symm i9), getD_put (Ne.symm t7)]; exact h.one
theorem C23.build (h : C23 w Z L4 v n xs rn ov p l b el base listed a E W) (ht : 177 < a.tmps.size) (hL : L4 < Z) : C23 w Z L4 v n xs rn ov p l b el base (listed.setIfInBounds 9 true) (a.put (some 177) (.slice (some ⟨W.heap.size, 0, none⟩) 1 1)) E (W.alloc (.cells el.toArray 84)) := by
 have hB : Below W.heap.size W (W.alloc (.cells el.toArray 84)) := (Below.refl _ _).alloc (Nat.le_refl _) _
 refine ⟨h.bel.trans (hB.mono h.bel.size), Nat.le_trans h.siz hB.size, ?_, h.rows.below hB, ?_, h.e1, ?_, h.e3, h.e4, ?_, fun _ => ⟨W.heap.size, getDV_set_self _ _ _ _ ht, h.siz, World.alloc_heap_new _ _, fun i hi e => absurd (h.rows.lt hi e).2 (Nat.lt_irrefl _)⟩, Nat.le_trans h.sb hB.size, fun j hj hne hr => (hB.block j (Nat.lt_of_lt_of_le hj h.sb)).trans (h.oth j hj hne hr), h.org⟩
 ·rw [getD_set_ne _ _ _ _ (by decide)]; exact (hB.block _ (Nat.lt_of_lt_of_le hL h.siz)).trans h.leg
 ·rw [getD_set_ne _ _ _ _ (by decide)]; exact h.e0
 ·rw [getD_set_ne _ _ _ _ (by decide)]; exact h.e2
 ·rw [getD_set_ne _ _ _ _ (by decide), getD_put (by decide)]; exact h.e5
theorem C23.app (h : C23 w Z L4 v n xs rn ov p l b el base listed a E W) (ht : 178 < a.tmps.size) (hl : 10 < listed.size) (hL : L4 < Z) (hw : w.heap.size ≤ Z) (n10 : listed.getD 10 false = false) (n14 : listed.getD 14 false = false) {v' : Value} (ho : W'.ownsRow Z (tlT 5) (tlS 5) v' (n 5 + 1) (xs 5 ++ el)) (hg : W.grownBy W' (v 5).ownBlock) (hat : v'.ownBlock = (v 5).ownBlock ∨ v'.ownBlock = some W.heap.size) : ∃ E', C23 w Z L4 v n xs rn ov p l b el base (listed.setIfInBounds 10 true) (a.put (some 178) v') E' W' := by
 have h5 := h.e5.1 n10
 have hv5 : (E 5).v = v 5 := by rw [h5]; rfl
 have hT : (E 5).T = tlT 5 ∧ (E 5).sz = tlS 5 := by rw [h5]; exact ⟨rfl, rfl⟩
 rw [← hv5] at hg hat
 have hz : ∀ q, (E 5).v.ownBlock = some q → Z ≤ q := fun q e => (h.rows.lt (by decide) e).1
 have hk : ∀ q, q < W.heap.size → (E 5).v.ownBlock ≠ some q → W'.heap[q]? = W.heap[q]? := fun q hq hne => hg.block q hq (fun e => hne e.symm)
 have hR := h.rows.app (i := 5) (by decide) (v' := v') (n' := n 5 + 1) (xs' := xs 5 ++ el) (by rw [hT.1, hT.2]; exact ho) hg hat
 rw [hT.1, hT.2] at hR
 have hu : ∀ i, i ≠ 5 → upd E 5 ⟨tlT 5, tlS 5, v', n 5 + 1, xs 5 ++ el⟩ i = E i := fun i hi => upd_ne hi
 refine ⟨upd E 5 ⟨tlT 5, tlS 5, v', n 5 + 1, xs 5 ++ el⟩, h.bel.grown hg h.bel.size (fun q e => by have := hz q e; omega), Nat.le_trans h.siz hg.size, ?_, hR, ?_, ?_, ?_, ?_, ?_, ⟨fun e => ?_, fun _ => ⟨?_, ?_⟩⟩, fun e => ?_, Nat.le_trans h.sb hg.size, fun q hq hne hr => (hk q (Nat.lt_of_lt_of_le hq h.sb) (fun e => (h.org 5 (by decide) q e).elim (fun e2 => hr 5 (by decide) e2) (fun e2 => by omega))).trans (h.oth q hq hne hr), fun i hi g e => ?_⟩
 ·have hl4 := h.leg
  rw [n14] at hl4
  rw [getD_set_ne _ _ _ _ (by decide), n14]
  exact (hk L4 (Nat.lt_of_lt_of_le hL h.siz) (fun e => by have := hz L4 e; omega)).trans hl4
 ·rw [hu 0 (by decide), getD_set_ne _ _ _ _ (by decide)]; exact h.e0
 ·rw [hu 1 (by decide)]; exact h.e1
 ·rw [hu 2 (by decide), getD_set_ne _ _ _ _ (by decide)]; exact h.e2
 ·rw [hu 3 (by decide)]; exact h.e3
 ·rw [hu 4 (by decide)]; exact h.e4
 ·rw [getD_set_self _ _ _ hl] at e; cases e
 ·rw [upd_self]; exact getDV_set_self _ _ _ _ ht
 ·rw [upd_self]
 ·rw [getD_set_ne _ _ _ _ (by decide)] at e
  rw [getD_put (by decide)]
  obtain ⟨g, g1, g2, g3, g4⟩ := h.one e
  have hgl := (Array.getElem?_eq_some_iff.1 g3).1
  refine ⟨g, g1, g2, (hk g hgl (g4 5 (by decide))).trans g3, fun q hq => ?_⟩
  by_cases hq5 : q = 5
  ·subst hq5
   rw [upd_self]
   rcases hat with h1 | h1
   ·intro e2; exact g4 5 (by decide) (h1.symm.trans e2)
   ·intro e2; rw [show v'.ownBlock = some W.heap.size from h1] at e2; simp only [Option.some.injEq] at e2; omega
  ·rw [hu q hq5]; exact g4 q hq
 ·by_cases hi5 : i = 5
  ·subst hi5
   rw [upd_self] at e
   rcases hat with h1 | h1
   ·exact h.org 5 (by decide) g (h1.symm.trans e)
   ·rw [show v'.ownBlock = some W.heap.size from h1] at e; simp only [Option.some.injEq] at e; have := h.sb; exact .inr (by omega)
  ·rw [hu i hi5] at e; exact h.org i hi g e
theorem C23.st14 (h : C23 w Z L4 v n xs rn ov p l b el base listed a E W) (hl : 14 < listed.size) (hL : L4 < Z) (hw : w.heap.size ≤ L4) (a' : Act) (ha : a'.tmps = a.tmps) : C23 w Z L4 v n xs rn ov p l b el base (listed.setIfInBounds 14 true) a' E (W.setCell ⟨L4, 0, none⟩ (E 5).v) := by
 have hk : ∀ q, q ≠ L4 → (W.setCell ⟨L4, 0, none⟩ (E 5).v).heap[q]? = W.heap[q]? := fun q hq => Below.heap_setCell _ _ _ _ hq
 refine ⟨h.bel.setCell (p := ⟨L4, 0, none⟩) hw _, by simp only [World.size_setCell]; exact h.siz, ?_, h.rows.set hL _, ?_, h.e1, ?_, h.e3, h.e4, ?_, fun e => ?_, by simp only [World.size_setCell]; exact h.sb, fun q hq hne hr => (hk q hne).trans (h.oth q hq hne hr), h.org⟩
 ·rw [getD_set_self _ _ _ hl]
  exact Go.Joins.block_setCell (i := 0) h.leg (E 5).v
 ·rw [getD_set_ne _ _ _ _ (by decide)]; exact h.e0
 ·rw [getD_set_ne _ _ _ _ (by decide)]; exact h.e2
 ·rw [getD_set_ne _ _ _ _ (by decide), ha]; exact h.e5
 ·rw [getD_set_ne _ _ _ _ (by decide)] at e
  rw [ha]
  obtain ⟨g, g1, g2, g3, g4⟩ := h.one e
  exact ⟨g, g1, g2, (hk g (by omega)).trans g3, g4⟩
theorem C23.set16 (h : C23 w Z L4 v n xs rn ov p l b el base listed a E W) (hl : 16 < listed.size) (hL : L4 < Z) (hw : w.heap.size ≤ Z) (n16 : listed.getD 16 false = false) {lg nc lc : Nat} (hv : v 0 = .slice (some ⟨lg, 0, none⟩) nc lc) (hp : p < n 0) (a' : Act) (ha : a'.tmps = a.tmps) : ∃ E', C23 w Z L4 v n xs rn ov p l b el base (listed.setIfInBounds 16 true) a' E' (W.setCell ⟨lg, p, none⟩ (.int .i64 l)) := by
 have h0 := h.e0
 rw [n16] at h0
 have h0' : E 0 = ⟨tlT 0, tlS 0, v 0, n 0, xs 0⟩ := h0
 have hR := h.rows.put (i := 0) (by decide) (by rw [h0']; rfl) (g := lg) (n := nc) (c := lc) (by rw [h0']; exact hv) (k := p) (by rw [h0']; exact hp) (.int .i64 l)
 rw [h0'] at hR
 have hlg : (E 0).v.ownBlock = some lg := by rw [h0']; show (v 0).ownBlock = _; rw [hv]; rfl
 have hlz := h.rows.lt (show 0 < 6 by decide) hlg
 have hk : ∀ q, q ≠ lg → (W.setCell ⟨lg, p, none⟩ (.int .i64 l)).heap[q]? = W.heap[q]? := fun q hq => Below.heap_setCell _ _ _ _ hq
 have hu : ∀ i, i ≠ 0 → upd E 0 ⟨tlT 0, tlS 0, v 0, n 0, (xs 0).set p (.int .i64 l)⟩ i = E i := fun i hi => upd_ne hi
 have h5 := hu 5 (by decide)
 refine ⟨upd E 0 ⟨tlT 0, tlS 0, v 0, n 0, (xs 0).set p (.int .i64 l)⟩, h.bel.setCell (p := ⟨lg, p, none⟩) (by show _ ≤ lg; omega) _, by simp only [World.size_setCell]; exact h.siz, ?_, hR, ?_, ?_, ?_, ?_, ?_, ?_, fun e => ?_, by simp only [World.size_setCell]; exact h.sb, fun q hq hne hr => (hk q (fun e => hr 0 (by decide) (by rw [hv, e]; rfl))).trans (h.oth q hq hne hr), fun i hi g e => ?_⟩
 ·rw [getD_set_ne _ _ _ _ (by decide), h5]; exact (hk L4 (by omega)).trans h.leg
 ·rw [upd_self, getD_set_self _ _ _ hl]; rfl
 ·rw [hu 1 (by decide)]; exact h.e1
 ·rw [hu 2 (by decide), getD_set_ne _ _ _ _ (by decide)]; exact h.e2
 ·rw [hu 3 (by decide)]; exact h.e3
 ·rw [hu 4 (by decide)]; exact h.e4
 ·rw [h5, getD_set_ne _ _ _ _ (by decide), ha]; exact h.e5
 ·rw [getD_set_ne _ _ _ _ (by decide)] at e
  rw [ha]
  obtain ⟨g, g1, g2, g3, g4⟩ := h.one e
  refine ⟨g, g1, g2, (hk g (fun e2 => g4 0 (by decide) (by rw [e2]; exact hlg))).trans g3, fun i hi => ?_⟩
  by_cases hi0 : i = 0
  ·subst hi0; rw [upd_self]; have := g4 0 (by decide); rw [h0'] at this; exact this
  ·rw [hu i hi0]; exact g4 i hi
 ·by_cases hi0 : i = 0
  ·subst hi0; rw [upd_self] at e; exact .inl e
  ·rw [hu i hi0] at e; exact h.org i hi g e
theorem C23.set18 (h : C23 w Z L4 v n xs rn ov p l b el base listed a E W) (hl : 18 < listed.size) (hL : L4 < Z) (hw : w.heap.size ≤ Z) (n18 : listed.getD 18 false = false) {ig nc ic : Nat} (hv : v 2 = .slice (some ⟨ig, 0, none⟩) nc ic) (hp : p < n 2) (a' : Act) (ha : a'.tmps = a.tmps) : ∃ E', C23 w Z L4 v n xs rn ov p l b el base (listed.setIfInBounds 18 true) a' E' (W.setCell ⟨ig, p, none⟩ (.bool b)) := by
 have h0 := h.e2
 rw [n18] at h0
 have h0' : E 2 = ⟨tlT 2, tlS 2, v 2, n 2, xs 2⟩ := h0
 have hR := h.rows.put (i := 2) (by decide) (by rw [h0']; rfl) (g := ig) (n := nc) (c := ic) (by rw [h0']; exact hv) (k := p) (by rw [h0']; exact hp) (.bool b)
 rw [h0'] at hR
 have hlg : (E 2).v.ownBlock = some ig := by rw [h0']; show (v 2).ownBlock = _; rw [hv]; rfl
 have hlz := h.rows.lt (show 2 < 6 by decide) hlg
 have hk : ∀ q, q ≠ ig → (W.setCell ⟨ig, p, none⟩ (.bool b)).heap[q]? = W.heap[q]? := fun q hq => Below.heap_setCell _ _ _ _ hq
 have hu : ∀ i, i ≠ 2 → upd E 2 ⟨tlT 2, tlS 2, v 2, n 2, (xs 2).set p (.bool b)⟩ i = E i := fun i hi => upd_ne hi
 have h5 := hu 5 (by decide)
 refine ⟨upd E 2 ⟨tlT 2, tlS 2, v 2, n 2, (xs 2).set p (.bool b)⟩, h.bel.setCell (p := ⟨ig, p, none⟩) (by show _ ≤ ig; omega) _, by simp only [World.size_setCell]; exact h.siz, ?_, hR, ?_, ?_, ?_, ?_, ?_, ?_, fun e => ?_, by simp only [World.size_setCell]; exact h.sb, fun q hq hne hr => (hk q (fun e => hr 2 (by decide) (by rw [hv, e]; rfl))).trans (h.oth q hq hne hr), fun i hi g e => ?_⟩
 ·rw [getD_set_ne _ _ _ _ (by decide), h5]; exact (hk L4 (by omega)).trans h.leg
 ·rw [hu 0 (by decide), getD_set_ne _ _ _ _ (by decide)]; exact h.e0
 ·rw [hu 1 (by decide)]; exact h.e1
 ·rw [upd_self, getD_set_self _ _ _ hl]; rfl
 ·rw [hu 3 (by decide)]; exact h.e3
 ·rw [hu 4 (by decide)]; exact h.e4
 ·rw [h5, getD_set_ne _ _ _ _ (by decide), ha]; exact h.e5
 ·rw [getD_set_ne _ _ _ _ (by decide)] at e
  rw [ha]
  obtain ⟨g, g1, g2, g3, g4⟩ := h.one e
  refine ⟨g, g1, g2, (hk g (fun e2 => g4 2 (by decide) (by rw [e2]; exact hlg))).trans g3, fun i hi => ?_⟩
  by_cases hi0 : i = 2
  ·subst hi0; rw [upd_self]; have := g4 2 (by decide); rw [h0'] at this; exact this
  ·rw [hu i hi0]; exact g4 i hi
 ·by_cases hi0 : i = 2
  ·subst hi0; rw [upd_self] at e; exact .inl e
  ·rw [hu i hi0] at e; exact h.org i hi g e
end
end
end Go.Proofs.Ytnhjoebdmmelaaa
