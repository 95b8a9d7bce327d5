/- Board, part Yi: each point of a box. -/
import Derived.Test.YtifabfbnjnjhlaaYh
import Derived.Test.YtifabfbnjnjhlaaYj
import Derived.Test.YtifabfbnjnjhlaaYk
import Derived.Test.YtifabfbnjnjhlaaUh
import Derived.Test.YtifabfbnjnjhlaaUg
set_option linter.unusedVariables false
set_option linter.unusedSimpArgs false
namespace Go.Proofs.Ytifabfbnjnjhlaa
open Go.RowKit Go.Shelf

set_option maxRecDepth 100000 in
set_option maxHeartbeats 16000000 in
theorem holds_law (vr vl : Value) (rings lines : List Int) (f wi a b s t ii jj : Int) (w : World) (sr : Sl w 1 eU vr rings) (sl : Sl w 1 eU vl lines) (hr : ∀ x ∈ rings, 0 ≤ x ∧ x ≤ 255) (hl : ∀ x ∈ lines, 0 ≤ x ∧ x ≤ 255) (f0 : 0 ≤ f) (f1 : f ≤ 255) (w0 : 0 ≤ wi) (w1 : wi ≤ 255)
    (a0 : 0 ≤ a) (a1 : a ≤ 65535) (b0 : 0 ≤ b) (b1 : b ≤ 65535) (s0 : 0 ≤ s) (s1 : s ≤ 255) (t0 : 0 ≤ t) (t1 : t ≤ 255) (i0 : 0 ≤ ii) (i1 : ii ≤ 255) (j0 : 0 ≤ jj) (j1 : jj ≤ 255) :
    Calls Try.prog 4 #[.agg #[vr, vl, .int .u8 f, .int .u8 wi, .int .u16 a, .int .u16 b, .int .u8 s, .int .u8 t, .int .u8 ii, .int .u8 jj]] w (Ret (.bool true) w) := by
  have HR : Aside (Sl w 1 eU vr rings) := sr
  have HL : Aside (Sl w 1 eU vl lines) := sl
  obtain ⟨ar, cr, rfl, lr0, _⟩ := sr
  obtain ⟨al, cl, rfl, ll0, _⟩ := sl
  have HM : Aside (∀ W, Below w.heap.size w W → Calls Try.prog 8 #[mdV (.slice ar rings.length cr) (.slice al lines.length cl) f wi] W (MadeOk rings lines f wi W)) := fun W hW => made_any _ _ rings lines f wi W (HR.out.below hW) (HL.out.below hW) hr hl f0 f1 w0 w1
  have HPT : Aside (∀ W, Calls Try.prog 9 #[.agg #[.int .u16 a, .int .u16 b]] W (Ret (pt (ptOf a b)) W)) := fun W => point_any a b W a0 a1 b0 b1
  have HPB : Aside ((-1250 ≤ (ptOf a b).1 ∧ (ptOf a b).1 ≤ 1250) ∧ -1250 ≤ (ptOf a b).2 ∧ (ptOf a b).2 ≤ 1250) := by
    unfold ptOf
    refine ⟨⟨?_, ?_⟩, ?_, ?_⟩ <;> (simp only []; omega)
  obtain ⟨P, hP⟩ : ∃ P, ptOf a b = P := ⟨_, rfl⟩
  rw [hP] at HPT HPB
  clear HR HL hP
  have HCK : Aside (∀ k, EndL lines k → chk (madeB rings lines f wi k) = 0) := fun k hk => made_chk rings lines f wi k hr f0 f1 w0 hk
  clear hr hl
  generalize rings.length = n at *
  generalize lines.length = m at *
  go_enter Try.func4, Try.ntmps4
  go_wp2_with fail
  obtain ⟨W0, hW0⟩ : ∃ W0, W0 = w.alloc (.cells #[.slice ar n cr, .slice al m cl, .int .u8 f, .int .u8 wi, .int .u16 a, .int .u16 b, .int .u8 s, .int .u8 t, .int .u8 ii, .int .u8 jj] 49) := ⟨_, rfl⟩
  rw [← hW0]
  have BWU : Aside (Below w.heap.size w W0) := by rw [hW0]; exact (Below.refl _ _).alloc (Nat.le_refl _) _
  have x0 : W0.cell? ⟨w.heap.size, 0, none⟩ = some (.slice ar n cr) := by rw [hW0]; clear hW0; go_simp
  have x1 : W0.cell? ⟨w.heap.size, 1, none⟩ = some (.slice al m cl) := by rw [hW0]; clear hW0; go_simp
  have x2 : W0.cell? ⟨w.heap.size, 2, none⟩ = some (.int .u8 f) := by rw [hW0]; clear hW0; go_simp
  have x3 : W0.cell? ⟨w.heap.size, 3, none⟩ = some (.int .u8 wi) := by rw [hW0]; clear hW0; go_simp
  have x4 : W0.cell? ⟨w.heap.size, 4, none⟩ = some (.int .u16 a) := by rw [hW0]; clear hW0; go_simp
  have x5 : W0.cell? ⟨w.heap.size, 5, none⟩ = some (.int .u16 b) := by rw [hW0]; clear hW0; go_simp
  have x6 : W0.cell? ⟨w.heap.size, 6, none⟩ = some (.int .u8 s) := by rw [hW0]; clear hW0; go_simp
  have x7 : W0.cell? ⟨w.heap.size, 7, none⟩ = some (.int .u8 t) := by rw [hW0]; clear hW0; go_simp
  have x8 : W0.cell? ⟨w.heap.size, 8, none⟩ = some (.int .u8 ii) := by rw [hW0]; clear hW0; go_simp
  have x9 : W0.cell? ⟨w.heap.size, 9, none⟩ = some (.int .u8 jj) := by rw [hW0]; clear hW0; go_simp
  have hs0 : W0.heap.size = w.heap.size + 1 := by rw [hW0]; simp
  clear hW0
  refine region_laidK (fun _ _ => True) (fl := 10) [true, true, true, true, true, true, true, true, true, true, true, true, true, true, true, true] 0 (fun (i : Nat) (x : Value) (ww : World) => (match i with | 0 => x = .pointer (some ⟨w.heap.size, 0, none⟩) | 1 => x = .agg #[.slice ar n cr, .slice al m cl, .int .u8 f, .int .u8 wi] | 2 => x = .pointer (some ⟨w.heap.size, 4, none⟩) | 3 => x = .agg #[.int .u16 a, .int .u16 b] | 4 => x = .pointer (some ⟨w.heap.size, 6, none⟩) | 5 => x = .agg #[.int .u8 s, .int .u8 t] | 6 => x = .pointer (some ⟨w.heap.size, 8, none⟩) | 7 => x = .agg #[.int .u8 ii, .int .u8 jj] | 8 => True | 9 => True | 10 => True | 11 => True | 12 => True | 13 => True | 14 => True | 15 => True | _ => True : Prop)) (Cl W0 [(⟨8, 12, 3, .cells #[.slice none 0 0, .slice none 0 0, .int .u8 0, .int .u8 0] 24 (0, 0), .cells #[.slice ar n cr, .slice al m cl, .int .u8 f, .int .u8 wi] 24 (0, 0)⟩ : AS), (⟨9, 13, 4, .cells #[.int .u16 0, .int .u16 0] 26 (0, 0), .cells #[.int .u16 a, .int .u16 b] 26 (0, 0)⟩ : AS), (⟨10, 14, 5, .cells #[.int .u8 0, .int .u8 0] 47 (0, 0), .cells #[.int .u8 s, .int .u8 t] 47 (0, 0)⟩ : AS), (⟨11, 15, 6, .cells #[.int .u8 0, .int .u8 0] 47 (0, 0), .cells #[.int .u8 ii, .int .u8 jj] 47 (0, 0)⟩ : AS)]) (by kernel_rfl) rfl (by show layableK _ 250 _ 10 = true; decide +kernel) rfl (Cl.start _ _ _ _) ?mono1 ?step1 ?rest1
  case mono1 =>
    intro i x ww ww' hB h
    match i, h with
    | 0, h => exact h
    | 1, h => exact h
    | 2, h => exact h
    | 3, h => exact h
    | 4, h => exact h
    | 5, h => exact h
    | 6, h => exact h
    | 7, h => exact h
    | 8, h => exact h
    | 9, h => exact h
    | 10, h => exact h
    | 11, h => exact h
    | 12, h => exact h
    | 13, h => exact h
    | 14, h => exact h
    | 15, h => exact h
    | n + 16, h => exact h
  case step1 =>
    intro i o_ listed ac W hA ho hL he hcl hli hsz
    have hk1 : ac.tmps.getD 1 undef = .pointer (some ⟨w.heap.size, 0, none⟩) := hL.kept 1 (by decide +kernel)
    have CL : ∀ W', Below W.heap.size W W' → Below W0.heap.size W0 W' := fun W' h => hL.cls.1.trans (h.mono hL.cls.1.size)
    have k_x0 := keepc hL.cls.1 x0
    have k_x1 := keepc hL.cls.1 x1
    have k_x2 := keepc hL.cls.1 x2
    have k_x3 := keepc hL.cls.1 x3
    have k_x4 := keepc hL.cls.1 x4
    have k_x5 := keepc hL.cls.1 x5
    have k_x6 := keepc hL.cls.1 x6
    have k_x7 := keepc hL.cls.1 x7
    have k_x8 := keepc hL.cls.1 x8
    have k_x9 := keepc hL.cls.1 x9
    match i, hA, ho with
    | 0, _, ho =>
      cases ho
      refine wpOp_plain rfl rfl ?_
      unfold Oper.wp
      go_simp
      exact Cl.other hL.cls rfl (Below.refl _ _)
    | 1, _, ho =>
      cases ho
      have d0 : ac.tmps.getD 29 undef = .pointer (some ⟨w.heap.size, 0, none⟩) := hL.new 0 _ 29 rfl (he ⟨0, .data⟩ (by simp) rfl) rfl
      refine wpOp_plain rfl rfl ?_
      unfold Oper.wp
      go_simp
      exact Cl.other hL.cls rfl (Below.refl _ _)
    | 2, _, ho =>
      cases ho
      refine wpOp_plain rfl rfl ?_
      unfold Oper.wp
      go_simp
      exact Cl.other hL.cls rfl (Below.refl _ _)
    | 3, _, ho =>
      cases ho
      have d2 : ac.tmps.getD 31 undef = .pointer (some ⟨w.heap.size, 4, none⟩) := hL.new 2 _ 31 rfl (he ⟨2, .data⟩ (by simp) rfl) rfl
      refine wpOp_plain rfl rfl ?_
      unfold Oper.wp
      go_simp
      exact Cl.other hL.cls rfl (Below.refl _ _)
    | 4, _, ho =>
      cases ho
      refine wpOp_plain rfl rfl ?_
      unfold Oper.wp
      go_simp
      exact Cl.other hL.cls rfl (Below.refl _ _)
    | 5, _, ho =>
      cases ho
      have d4 : ac.tmps.getD 33 undef = .pointer (some ⟨w.heap.size, 6, none⟩) := hL.new 4 _ 33 rfl (he ⟨4, .data⟩ (by simp) rfl) rfl
      refine wpOp_plain rfl rfl ?_
      unfold Oper.wp
      go_simp
      exact Cl.other hL.cls rfl (Below.refl _ _)
    | 6, _, ho =>
      cases ho
      refine wpOp_plain rfl rfl ?_
      unfold Oper.wp
      go_simp
      exact Cl.other hL.cls rfl (Below.refl _ _)
    | 7, _, ho =>
      cases ho
      have d6 : ac.tmps.getD 35 undef = .pointer (some ⟨w.heap.size, 8, none⟩) := hL.new 6 _ 35 rfl (he ⟨6, .data⟩ (by simp) rfl) rfl
      refine wpOp_plain rfl rfl ?_
      unfold Oper.wp
      go_simp
      exact Cl.other hL.cls rfl (Below.refl _ _)
    | 8, _, ho =>
      cases ho
      have hq : listed.getD 12 false = false := by
        cases hx : listed.getD 12 false with
        | false => rfl
        | true =>
          have h8 := hcl 12 _ rfl hx ⟨8, .data⟩ (by simp) rfl
          simp only [Array.getD_eq_getD_getElem?] at h8 hli
          rw [Array.getElem?_eq_getElem (show 8 < listed.size by rw [hsz]; decide)] at h8 hli
          rw [Option.getD_some] at h8 hli
          rw [h8] at hli; cases hli
      refine wpOp_plain rfl rfl ?_
      unfold Oper.wp
      go_simp
      exact ⟨_, rfl, Cl.alloc (⟨8, 12, 3, .cells #[.slice none 0 0, .slice none 0 0, .int .u8 0, .int .u8 0] 24 (0, 0), .cells #[.slice ar n cr, .slice al m cl, .int .u8 f, .int .u8 wi] 24 (0, 0)⟩ : AS) hL.cls (by simp) (by rw [hL.size]; exact (by decide : (3 : Nat) < 250)) hq (by simp) (by intro e' he hne; simp at he; rcases he with rfl | rfl | rfl | rfl <;> first | exact absurd rfl hne | simp)⟩
    | 9, _, ho =>
      cases ho
      have hq : listed.getD 13 false = false := by
        cases hx : listed.getD 13 false with
        | false => rfl
        | true =>
          have h8 := hcl 13 _ rfl hx ⟨9, .data⟩ (by simp) rfl
          simp only [Array.getD_eq_getD_getElem?] at h8 hli
          rw [Array.getElem?_eq_getElem (show 9 < listed.size by rw [hsz]; decide)] at h8 hli
          rw [Option.getD_some] at h8 hli
          rw [h8] at hli; cases hli
      refine wpOp_plain rfl rfl ?_
      unfold Oper.wp
      go_simp
      exact ⟨_, rfl, Cl.alloc (⟨9, 13, 4, .cells #[.int .u16 0, .int .u16 0] 26 (0, 0), .cells #[.int .u16 a, .int .u16 b] 26 (0, 0)⟩ : AS) hL.cls (by simp) (by rw [hL.size]; exact (by decide : (4 : Nat) < 250)) hq (by simp) (by intro e' he hne; simp at he; rcases he with rfl | rfl | rfl | rfl <;> first | exact absurd rfl hne | simp)⟩
    | 10, _, ho =>
      cases ho
      have hq : listed.getD 14 false = false := by
        cases hx : listed.getD 14 false with
        | false => rfl
        | true =>
          have h8 := hcl 14 _ rfl hx ⟨10, .data⟩ (by simp) rfl
          simp only [Array.getD_eq_getD_getElem?] at h8 hli
          rw [Array.getElem?_eq_getElem (show 10 < listed.size by rw [hsz]; decide)] at h8 hli
          rw [Option.getD_some] at h8 hli
          rw [h8] at hli; cases hli
      refine wpOp_plain rfl rfl ?_
      unfold Oper.wp
      go_simp
      exact ⟨_, rfl, Cl.alloc (⟨10, 14, 5, .cells #[.int .u8 0, .int .u8 0] 47 (0, 0), .cells #[.int .u8 s, .int .u8 t] 47 (0, 0)⟩ : AS) hL.cls (by simp) (by rw [hL.size]; exact (by decide : (5 : Nat) < 250)) hq (by simp) (by intro e' he hne; simp at he; rcases he with rfl | rfl | rfl | rfl <;> first | exact absurd rfl hne | simp)⟩
    | 11, _, ho =>
      cases ho
      have hq : listed.getD 15 false = false := by
        cases hx : listed.getD 15 false with
        | false => rfl
        | true =>
          have h8 := hcl 15 _ rfl hx ⟨11, .data⟩ (by simp) rfl
          simp only [Array.getD_eq_getD_getElem?] at h8 hli
          rw [Array.getElem?_eq_getElem (show 11 < listed.size by rw [hsz]; decide)] at h8 hli
          rw [Option.getD_some] at h8 hli
          rw [h8] at hli; cases hli
      refine wpOp_plain rfl rfl ?_
      unfold Oper.wp
      go_simp
      exact ⟨_, rfl, Cl.alloc (⟨11, 15, 6, .cells #[.int .u8 0, .int .u8 0] 47 (0, 0), .cells #[.int .u8 ii, .int .u8 jj] 47 (0, 0)⟩ : AS) hL.cls (by simp) (by rw [hL.size]; exact (by decide : (6 : Nat) < 250)) hq (by simp) (by intro e' he hne; simp at he; rcases he with rfl | rfl | rfl | rfl <;> first | exact absurd rfl hne | simp)⟩
    | 12, _, ho =>
      cases ho
      have d1 : ac.tmps.getD 30 undef = .agg #[.slice ar n cr, .slice al m cl, .int .u8 f, .int .u8 wi] := hL.new 1 _ 30 rfl (he ⟨1, .data⟩ (by simp) rfl) rfl
      have hpp : listed.getD 8 false = true := he ⟨8, .data⟩ (by simp) rfl
      obtain ⟨g, g1, g2, g3, g4⟩ := hL.cls.2.1 (⟨8, 12, 3, .cells #[.slice none 0 0, .slice none 0 0, .int .u8 0, .int .u8 0] 24 (0, 0), .cells #[.slice ar n cr, .slice al m cl, .int .u8 f, .int .u8 wi] 24 (0, 0)⟩ : AS) (by simp) hpp
      have hq : listed.getD 12 false = false := by
        simp only [Array.getD_eq_getD_getElem?] at hli ⊢
        rw [Array.getElem?_eq_getElem (show 12 < listed.size by rw [hsz]; decide)] at hli ⊢
        simpa using hli
      simp only [] at g1 g4
      rw [if_neg (by rw [hq]; simp)] at g4
      have HPU : Aside _ := Cl.store (⟨8, 12, 3, .cells #[.slice none 0 0, .slice none 0 0, .int .u8 0, .int .u8 0] 24 (0, 0), .cells #[.slice ar n cr, .slice al m cl, .int .u8 f, .int .u8 wi] 24 (0, 0)⟩ : AS) hL.cls (by simp) hpp (by rw [hsz]; exact (by decide : (12 : Nat) < 16)) g1 (put4 g4) (by simp) (by intro e' he hne; simp at he; rcases he with rfl | rfl | rfl | rfl <;> first | exact absurd rfl hne | simp)
      have zc0 : W.cell? ⟨g, 0, none⟩ = some (.slice none 0 0) := by rw [cell_of_row W g 0 _ _ _ g4]; rfl
      have zc1 : W.cell? ⟨g, 1, none⟩ = some (.slice none 0 0) := by rw [cell_of_row W g 1 _ _ _ g4]; rfl
      have zc2 : W.cell? ⟨g, 2, none⟩ = some (.int .u8 0) := by rw [cell_of_row W g 2 _ _ _ g4]; rfl
      have zc3 : W.cell? ⟨g, 3, none⟩ = some (.int .u8 0) := by rw [cell_of_row W g 3 _ _ _ g4]; rfl
      have zf : ∀ i, W.frozen? ⟨g, i, none⟩ = false := by intro i; simp [World.frozen?, g4]
      clear g4 k_x0 k_x1 k_x2 k_x3 k_x4 k_x5 k_x6 k_x7 k_x8 k_x9
      refine wpOp_plain rfl rfl ?_
      unfold Oper.wp
      go_simp
      exact HPU.out
    | 13, _, ho =>
      cases ho
      have d3 : ac.tmps.getD 32 undef = .agg #[.int .u16 a, .int .u16 b] := hL.new 3 _ 32 rfl (he ⟨3, .data⟩ (by simp) rfl) rfl
      have hpp : listed.getD 9 false = true := he ⟨9, .data⟩ (by simp) rfl
      obtain ⟨g, g1, g2, g3, g4⟩ := hL.cls.2.1 (⟨9, 13, 4, .cells #[.int .u16 0, .int .u16 0] 26 (0, 0), .cells #[.int .u16 a, .int .u16 b] 26 (0, 0)⟩ : AS) (by simp) hpp
      have hq : listed.getD 13 false = false := by
        simp only [Array.getD_eq_getD_getElem?] at hli ⊢
        rw [Array.getElem?_eq_getElem (show 13 < listed.size by rw [hsz]; decide)] at hli ⊢
        simpa using hli
      simp only [] at g1 g4
      rw [if_neg (by rw [hq]; simp)] at g4
      have HPU : Aside _ := Cl.store (⟨9, 13, 4, .cells #[.int .u16 0, .int .u16 0] 26 (0, 0), .cells #[.int .u16 a, .int .u16 b] 26 (0, 0)⟩ : AS) hL.cls (by simp) hpp (by rw [hsz]; exact (by decide : (13 : Nat) < 16)) g1 (put2 g4) (by simp) (by intro e' he hne; simp at he; rcases he with rfl | rfl | rfl | rfl <;> first | exact absurd rfl hne | simp)
      have zc0 : W.cell? ⟨g, 0, none⟩ = some (.int .u16 0) := by rw [cell_of_row W g 0 _ _ _ g4]; rfl
      have zc1 : W.cell? ⟨g, 1, none⟩ = some (.int .u16 0) := by rw [cell_of_row W g 1 _ _ _ g4]; rfl
      have zf : ∀ i, W.frozen? ⟨g, i, none⟩ = false := by intro i; simp [World.frozen?, g4]
      clear g4 k_x0 k_x1 k_x2 k_x3 k_x4 k_x5 k_x6 k_x7 k_x8 k_x9
      refine wpOp_plain rfl rfl ?_
      unfold Oper.wp
      go_simp
      exact HPU.out
    | 14, _, ho =>
      cases ho
      have d5 : ac.tmps.getD 34 undef = .agg #[.int .u8 s, .int .u8 t] := hL.new 5 _ 34 rfl (he ⟨5, .data⟩ (by simp) rfl) rfl
      have hpp : listed.getD 10 false = true := he ⟨10, .data⟩ (by simp) rfl
      obtain ⟨g, g1, g2, g3, g4⟩ := hL.cls.2.1 (⟨10, 14, 5, .cells #[.int .u8 0, .int .u8 0] 47 (0, 0), .cells #[.int .u8 s, .int .u8 t] 47 (0, 0)⟩ : AS) (by simp) hpp
      have hq : listed.getD 14 false = false := by
        simp only [Array.getD_eq_getD_getElem?] at hli ⊢
        rw [Array.getElem?_eq_getElem (show 14 < listed.size by rw [hsz]; decide)] at hli ⊢
        simpa using hli
      simp only [] at g1 g4
      rw [if_neg (by rw [hq]; simp)] at g4
      have HPU : Aside _ := Cl.store (⟨10, 14, 5, .cells #[.int .u8 0, .int .u8 0] 47 (0, 0), .cells #[.int .u8 s, .int .u8 t] 47 (0, 0)⟩ : AS) hL.cls (by simp) hpp (by rw [hsz]; exact (by decide : (14 : Nat) < 16)) g1 (put2 g4) (by simp) (by intro e' he hne; simp at he; rcases he with rfl | rfl | rfl | rfl <;> first | exact absurd rfl hne | simp)
      have zc0 : W.cell? ⟨g, 0, none⟩ = some (.int .u8 0) := by rw [cell_of_row W g 0 _ _ _ g4]; rfl
      have zc1 : W.cell? ⟨g, 1, none⟩ = some (.int .u8 0) := by rw [cell_of_row W g 1 _ _ _ g4]; rfl
      have zf : ∀ i, W.frozen? ⟨g, i, none⟩ = false := by intro i; simp [World.frozen?, g4]
      clear g4 k_x0 k_x1 k_x2 k_x3 k_x4 k_x5 k_x6 k_x7 k_x8 k_x9
      refine wpOp_plain rfl rfl ?_
      unfold Oper.wp
      go_simp
      exact HPU.out
    | 15, _, ho =>
      cases ho
      have d7 : ac.tmps.getD 36 undef = .agg #[.int .u8 ii, .int .u8 jj] := hL.new 7 _ 36 rfl (he ⟨7, .data⟩ (by simp) rfl) rfl
      have hpp : listed.getD 11 false = true := he ⟨11, .data⟩ (by simp) rfl
      obtain ⟨g, g1, g2, g3, g4⟩ := hL.cls.2.1 (⟨11, 15, 6, .cells #[.int .u8 0, .int .u8 0] 47 (0, 0), .cells #[.int .u8 ii, .int .u8 jj] 47 (0, 0)⟩ : AS) (by simp) hpp
      have hq : listed.getD 15 false = false := by
        simp only [Array.getD_eq_getD_getElem?] at hli ⊢
        rw [Array.getElem?_eq_getElem (show 15 < listed.size by rw [hsz]; decide)] at hli ⊢
        simpa using hli
      simp only [] at g1 g4
      rw [if_neg (by rw [hq]; simp)] at g4
      have HPU : Aside _ := Cl.store (⟨11, 15, 6, .cells #[.int .u8 0, .int .u8 0] 47 (0, 0), .cells #[.int .u8 ii, .int .u8 jj] 47 (0, 0)⟩ : AS) hL.cls (by simp) hpp (by rw [hsz]; exact (by decide : (15 : Nat) < 16)) g1 (put2 g4) (by simp) (by intro e' he hne; simp at he; rcases he with rfl | rfl | rfl | rfl <;> first | exact absurd rfl hne | simp)
      have zc0 : W.cell? ⟨g, 0, none⟩ = some (.int .u8 0) := by rw [cell_of_row W g 0 _ _ _ g4]; rfl
      have zc1 : W.cell? ⟨g, 1, none⟩ = some (.int .u8 0) := by rw [cell_of_row W g 1 _ _ _ g4]; rfl
      have zf : ∀ i, W.frozen? ⟨g, i, none⟩ = false := by intro i; simp [World.frozen?, g4]
      clear g4 k_x0 k_x1 k_x2 k_x3 k_x4 k_x5 k_x6 k_x7 k_x8 k_x9
      refine wpOp_plain rfl rfl ?_
      unfold Oper.wp
      go_simp
      exact HPU.out
    | n + 16, hA, _ => simp at hA
  case rest1 =>
    intro ac V hL
    have e29 : ac.tmps.getD 29 undef = .pointer (some ⟨w.heap.size, 0, none⟩) := hL.new 0 _ 29 rfl rfl rfl
    have e30 : ac.tmps.getD 30 undef = .agg #[.slice ar n cr, .slice al m cl, .int .u8 f, .int .u8 wi] := hL.new 1 _ 30 rfl rfl rfl
    have e31 : ac.tmps.getD 31 undef = .pointer (some ⟨w.heap.size, 4, none⟩) := hL.new 2 _ 31 rfl rfl rfl
    have e32 : ac.tmps.getD 32 undef = .agg #[.int .u16 a, .int .u16 b] := hL.new 3 _ 32 rfl rfl rfl
    have e33 : ac.tmps.getD 33 undef = .pointer (some ⟨w.heap.size, 6, none⟩) := hL.new 4 _ 33 rfl rfl rfl
    have e34 : ac.tmps.getD 34 undef = .agg #[.int .u8 s, .int .u8 t] := hL.new 5 _ 34 rfl rfl rfl
    have e35 : ac.tmps.getD 35 undef = .pointer (some ⟨w.heap.size, 8, none⟩) := hL.new 6 _ 35 rfl rfl rfl
    have e36 : ac.tmps.getD 36 undef = .agg #[.int .u8 ii, .int .u8 jj] := hL.new 7 _ 36 rfl rfl rfl
    obtain ⟨g3, e3, n3, l3, z3'⟩ := hL.cls.2.1 (⟨8, 12, 3, .cells #[.slice none 0 0, .slice none 0 0, .int .u8 0, .int .u8 0] 24 (0, 0), .cells #[.slice ar n cr, .slice al m cl, .int .u8 f, .int .u8 wi] 24 (0, 0)⟩ : AS) (by simp) rfl
    simp only [] at e3
    change V.heap[g3]? = some (.cells #[.slice ar n cr, .slice al m cl, .int .u8 f, .int .u8 wi] 24 (0, 0)) at z3'
    obtain ⟨g4, e4, n4, l4, z4'⟩ := hL.cls.2.1 (⟨9, 13, 4, .cells #[.int .u16 0, .int .u16 0] 26 (0, 0), .cells #[.int .u16 a, .int .u16 b] 26 (0, 0)⟩ : AS) (by simp) rfl
    simp only [] at e4
    change V.heap[g4]? = some (.cells #[.int .u16 a, .int .u16 b] 26 (0, 0)) at z4'
    obtain ⟨g5, e5, n5, l5, z5'⟩ := hL.cls.2.1 (⟨10, 14, 5, .cells #[.int .u8 0, .int .u8 0] 47 (0, 0), .cells #[.int .u8 s, .int .u8 t] 47 (0, 0)⟩ : AS) (by simp) rfl
    simp only [] at e5
    change V.heap[g5]? = some (.cells #[.int .u8 s, .int .u8 t] 47 (0, 0)) at z5'
    obtain ⟨g6, e6, n6, l6, z6'⟩ := hL.cls.2.1 (⟨11, 15, 6, .cells #[.int .u8 0, .int .u8 0] 47 (0, 0), .cells #[.int .u8 ii, .int .u8 jj] 47 (0, 0)⟩ : AS) (by simp) rfl
    simp only [] at e6
    change V.heap[g6]? = some (.cells #[.int .u8 ii, .int .u8 jj] 47 (0, 0)) at z6'
    have HCL : Aside (Cl W0 [(⟨8, 12, 3, .cells #[.slice none 0 0, .slice none 0 0, .int .u8 0, .int .u8 0] 24 (0, 0), .cells #[.slice ar n cr, .slice al m cl, .int .u8 f, .int .u8 wi] 24 (0, 0)⟩ : AS), (⟨9, 13, 4, .cells #[.int .u16 0, .int .u16 0] 26 (0, 0), .cells #[.int .u16 a, .int .u16 b] 26 (0, 0)⟩ : AS), (⟨10, 14, 5, .cells #[.int .u8 0, .int .u8 0] 47 (0, 0), .cells #[.int .u8 s, .int .u8 t] 47 (0, 0)⟩ : AS), (⟨11, 15, 6, .cells #[.int .u8 0, .int .u8 0] 47 (0, 0), .cells #[.int .u8 ii, .int .u8 jj] 47 (0, 0)⟩ : AS)] _ ac V) := hL.cls
    have es := hL.sets [29, 30, 31, 32, 33, 34, 35, 36, 3, 4, 5, 6] (by decide +kernel)
    rw [List.foldl_cons, List.foldl_cons, List.foldl_cons, List.foldl_cons, List.foldl_cons, List.foldl_cons, List.foldl_cons, List.foldl_cons, List.foldl_cons, List.foldl_cons, List.foldl_cons, List.foldl_cons, List.foldl_nil, e29, e30, e31, e32, e33, e34, e35, e36, e3, e4, e5, e6] at es
    have BN : Below W0.heap.size W0 V := hL.cls.1
    rw [es]
    clear es hL e29 e30 e31 e32 e33 e34 e35 e36 e3 e4 e5 e6
    refine wpAny_done (by decide +kernel) ?_ _
    simp only [List.setIfInBounds_toArray, List.set_cons_zero, List.set_cons_succ]
    have v30 : V.cell? ⟨g3, 0, none⟩ = some (.slice ar n cr) := by rw [cell_of_row V g3 0 _ _ _ z3']; rfl
    have v31 : V.cell? ⟨g3, 1, none⟩ = some (.slice al m cl) := by rw [cell_of_row V g3 1 _ _ _ z3']; rfl
    have v32 : V.cell? ⟨g3, 2, none⟩ = some (.int .u8 f) := by rw [cell_of_row V g3 2 _ _ _ z3']; rfl
    have v33 : V.cell? ⟨g3, 3, none⟩ = some (.int .u8 wi) := by rw [cell_of_row V g3 3 _ _ _ z3']; rfl
    have v40 : V.cell? ⟨g4, 0, none⟩ = some (.int .u16 a) := by rw [cell_of_row V g4 0 _ _ _ z4']; rfl
    have v41 : V.cell? ⟨g4, 1, none⟩ = some (.int .u16 b) := by rw [cell_of_row V g4 1 _ _ _ z4']; rfl
    have v50 : V.cell? ⟨g5, 0, none⟩ = some (.int .u8 s) := by rw [cell_of_row V g5 0 _ _ _ z5']; rfl
    have v51 : V.cell? ⟨g5, 1, none⟩ = some (.int .u8 t) := by rw [cell_of_row V g5 1 _ _ _ z5']; rfl
    have v60 : V.cell? ⟨g6, 0, none⟩ = some (.int .u8 ii) := by rw [cell_of_row V g6 0 _ _ _ z6']; rfl
    have v61 : V.cell? ⟨g6, 1, none⟩ = some (.int .u8 jj) := by rw [cell_of_row V g6 1 _ _ _ z6']; rfl
    replace BWU : Aside (Below w.heap.size w V) := BWU.out.trans (BN.mono BWU.out.size)
    clear BN HCL z3' z4' z5' z6' l3 l4 l5 l6 n3 n4 n5 n6 x0 x1 x2 x3 x4 x5 x6 x7 x8 x9 hs0
    go_upto_region 2 with (fail)
    refine region_laid (fl := 10) [true, true, true, true, true, true, false, false] 2 (fun (i : Nat) (x : Value) (ww : World) => (match i with | 0 => x = .agg #[.slice ar n cr, .slice al m cl, .int .u8 f, .int .u8 wi] | 1 => ∃ k, EndL lines k ∧ BrdAt ww x (madeB rings lines f wi k) | 2 => x = .agg #[.int .u16 a, .int .u16 b] | 3 => x = pt P | 4 => ∃ g, x = .pointer (some ⟨g, 0, none⟩) ∧ V.heap.size ≤ g ∧ ww.heap[g]? = some (.cells #[.int .i64 0, .int .i64 0, .slice none 0 0, .slice none 0 0, .slice none 0 0, .int .i64 0] 31 (0, 0)) | 5 => ∃ g, x = .pointer (some ⟨g, 0, none⟩) ∧ V.heap.size ≤ g ∧ ww.heap[g]? = some (.cells #[.int .i64 0, .int .i64 0] 34 (0, 0)) | _ => True : Prop)) (fun w' => Below V.heap.size V w') (by kernel_rfl) rfl (by show layable _ 250 _ 10 = true; decide +kernel) rfl ((Below.refl _ _).drew) ?mono2 ?step2 ?rest2
    case mono2 =>
      intro i x ww ww' hB h
      match i, h with
      | 0, h => exact h
      | 1, h => exact (by obtain ⟨k, h1, h2⟩ := h; exact ⟨k, h1, h2.below hB⟩)
      | 2, h => exact h
      | 3, h => exact h
      | 4, h => exact (by obtain ⟨g, e, hn, h⟩ := h; exact ⟨g, e, hn, (hB.block g (Array.getElem?_eq_some_iff.1 h).1).trans h⟩)
      | 5, h => exact (by obtain ⟨g, e, hn, h⟩ := h; exact ⟨g, e, hn, (hB.block g (Array.getElem?_eq_some_iff.1 h).1).trans h⟩)
      | n + 6, h => exact h
    case step2 =>
      intro i o_ listed ac W hA ho hL he
      have hk3 : ac.tmps.getD 3 undef = .pointer (some ⟨g3, 0, none⟩) := hL.kept 3 (by decide +kernel)
      have hk4 : ac.tmps.getD 4 undef = .pointer (some ⟨g4, 0, none⟩) := hL.kept 4 (by decide +kernel)
      have CL : ∀ W', Below W.heap.size W W' → Below V.heap.size V W' := fun W' h => hL.cls.trans (h.mono hL.cls.size)
      have k_v30 := keepc hL.cls v30
      have k_v31 := keepc hL.cls v31
      have k_v32 := keepc hL.cls v32
      have k_v33 := keepc hL.cls v33
      have k_v40 := keepc hL.cls v40
      have k_v41 := keepc hL.cls v41
      have k_v50 := keepc hL.cls v50
      have k_v51 := keepc hL.cls v51
      have k_v60 := keepc hL.cls v60
      have k_v61 := keepc hL.cls v61
      match i, hA, ho with
      | 0, _, ho =>
        cases ho
        refine wpOp_plain rfl rfl ?_
        unfold Oper.wp
        go_simp
        exact ⟨_, rfl, Below.refl _ _, CL _ (Below.refl _ _), rfl⟩
      | 1, _, ho =>
        cases ho
        have d0 : ac.tmps.getD 37 undef = .agg #[.slice ar n cr, .slice al m cl, .int .u8 f, .int .u8 wi] := hL.new 0 _ 37 rfl (he ⟨0, .data⟩ (by simp) rfl) rfl
        have x := HM.out W (BWU.out.trans (hL.cls.mono BWU.out.size))
        unfold MadeOk mdV at x
        refine wpOp_plain rfl rfl ?_
        unfold Oper.wp
        go_simp
        refine x.mono ?_
        rintro e w' ⟨k, v, hE, rfl, hbr, hBn⟩
        exact ⟨_, rfl, hBn, CL _ hBn, ⟨k, hE, hbr⟩⟩
      | 2, _, ho =>
        cases ho
        refine wpOp_plain rfl rfl ?_
        unfold Oper.wp
        go_simp
        exact ⟨_, rfl, Below.refl _ _, CL _ (Below.refl _ _), rfl⟩
      | 3, _, ho =>
        cases ho
        have d2 : ac.tmps.getD 39 undef = .agg #[.int .u16 a, .int .u16 b] := hL.new 2 _ 39 rfl (he ⟨2, .data⟩ (by simp) rfl) rfl
        have x := HPT.out W
        refine wpOp_plain rfl rfl ?_
        unfold Oper.wp
        go_simp
        refine x.mono ?_
        rintro e w' ⟨rfl, hBn⟩
        exact ⟨_, rfl, hBn, CL _ hBn, rfl⟩
      | 4, _, ho =>
        cases ho
        refine wpOp_plain rfl rfl ?_
        unfold Oper.wp
        go_simp
        exact ⟨_, rfl, (Below.refl _ _).alloc (Nat.le_refl _) _, CL _ ((Below.refl _ _).alloc (Nat.le_refl _) _), ⟨_, rfl, hL.cls.size, World.alloc_heap_new _ _⟩⟩
      | 5, _, ho =>
        cases ho
        refine wpOp_plain rfl rfl ?_
        unfold Oper.wp
        go_simp
        exact ⟨_, rfl, (Below.refl _ _).alloc (Nat.le_refl _) _, CL _ ((Below.refl _ _).alloc (Nat.le_refl _) _), ⟨_, rfl, hL.cls.size, World.alloc_heap_new _ _⟩⟩
      | 6, hA, _ => cases hA
      | 7, hA, _ => cases hA
      | n + 8, hA, _ => simp at hA
    case rest2 =>
      intro ac W2 hL
      have e37 : ac.tmps.getD 37 undef = .agg #[.slice ar n cr, .slice al m cl, .int .u8 f, .int .u8 wi] := hL.new 0 _ 37 rfl rfl rfl
      have hn38 := hL.new 1 _ 38 rfl rfl rfl
      obtain ⟨xb, e38⟩ : ∃ x, ac.tmps.getD 38 undef = x := ⟨_, rfl⟩
      rw [e38] at hn38
      have Hxb : Aside (∃ k, EndL lines k ∧ BrdAt W2 xb (madeB rings lines f wi k)) := hn38
      clear hn38
      have e39 : ac.tmps.getD 39 undef = .agg #[.int .u16 a, .int .u16 b] := hL.new 2 _ 39 rfl rfl rfl
      have e40 : ac.tmps.getD 40 undef = pt P := hL.new 3 _ 40 rfl rfl rfl
      have hn7 := hL.new 4 _ 7 rfl rfl rfl
      obtain ⟨z7, e7⟩ : ∃ x, ac.tmps.getD 7 undef = x := ⟨_, rfl⟩
      rw [e7] at hn7
      have Hz7 : Aside (∃ g, z7 = .pointer (some ⟨g, 0, none⟩) ∧ V.heap.size ≤ g ∧ W2.heap[g]? = some (.cells #[.int .i64 0, .int .i64 0, .slice none 0 0, .slice none 0 0, .slice none 0 0, .int .i64 0] 31 (0, 0))) := hn7
      clear hn7
      have hn8 := hL.new 5 _ 8 rfl rfl rfl
      obtain ⟨z8, e8⟩ : ∃ x, ac.tmps.getD 8 undef = x := ⟨_, rfl⟩
      rw [e8] at hn8
      have Hz8 : Aside (∃ g, z8 = .pointer (some ⟨g, 0, none⟩) ∧ V.heap.size ≤ g ∧ W2.heap[g]? = some (.cells #[.int .i64 0, .int .i64 0] 34 (0, 0))) := hn8
      clear hn8
      have es := hL.sets [37, 38, 39, 40, 7, 8] (by decide +kernel)
      rw [List.foldl_cons, List.foldl_cons, List.foldl_cons, List.foldl_cons, List.foldl_cons, List.foldl_cons, List.foldl_nil, e37, e38, e39, e40, e7, e8] at es
      have BN : Below V.heap.size V W2 := hL.cls
      rw [es]
      clear es hL e37 e38 e39 e40 e7 e8
      simp only [List.setIfInBounds_toArray, List.set_cons_zero, List.set_cons_succ]
      obtain ⟨g7, rfl, n7, z7'⟩ := Hz7.out
      obtain ⟨g8, rfl, n8, z8'⟩ := Hz8.out
      obtain ⟨k, hE, hbr⟩ := Hxb.out
      have hck := HCK.out k hE
      obtain ⟨B, hB⟩ : ∃ B, madeB rings lines f wi k = B := ⟨_, rfl⟩
      rw [hB] at hck hbr
      clear hB HCK hE Hxb Hz7 Hz8
      obtain ⟨xr, xl, xn, rfl, hxr, hxl, hxn⟩ := hbr
      have XR : Aside (Sl W2 2 encP xr B.rings) := hxr
      have XL : Aside (Sl W2 2 encP xl B.lines) := hxl
      have XN : Aside (Sl W2 1 (fun x => [Value.int .i64 x]) xn B.nums) := hxn
      obtain ⟨p1, q1, rfl, _, _⟩ := hxr
      obtain ⟨p2, q2, rfl, _, _⟩ := hxl
      obtain ⟨p3, q3, rfl, _, _⟩ := hxn
      have hne : g7 ≠ g8 := by intro e; rw [e] at z7'; rw [z7'] at z8'; simp at z8'
      obtain ⟨aw1, aw2, aw3⟩ := brd_away hck XR.out XL.out XN.out (zero_board z7')
      obtain ⟨aw4, aw5, aw6⟩ := brd_away hck XR.out XL.out XN.out (zero_point z8')
      have u0 : W2.cell? ⟨g7, 0, none⟩ = some (.int .i64 0) := by rw [cell_of_row W2 g7 0 _ _ _ z7']; rfl
      have u1 : W2.cell? ⟨g7, 1, none⟩ = some (.int .i64 0) := by rw [cell_of_row W2 g7 1 _ _ _ z7']; rfl
      have u2 : W2.cell? ⟨g7, 2, none⟩ = some (.slice none 0 0) := by rw [cell_of_row W2 g7 2 _ _ _ z7']; rfl
      have u3 : W2.cell? ⟨g7, 3, none⟩ = some (.slice none 0 0) := by rw [cell_of_row W2 g7 3 _ _ _ z7']; rfl
      have u4 : W2.cell? ⟨g7, 4, none⟩ = some (.slice none 0 0) := by rw [cell_of_row W2 g7 4 _ _ _ z7']; rfl
      have u5 : W2.cell? ⟨g7, 5, none⟩ = some (.int .i64 0) := by rw [cell_of_row W2 g7 5 _ _ _ z7']; rfl
      have u6 : W2.cell? ⟨g8, 0, none⟩ = some (.int .i64 0) := by rw [cell_of_row W2 g8 0 _ _ _ z8']; rfl
      have u7 : W2.cell? ⟨g8, 1, none⟩ = some (.int .i64 0) := by rw [cell_of_row W2 g8 1 _ _ _ z8']; rfl
      have uf7 : ∀ i, W2.frozen? ⟨g7, i, none⟩ = false := by intro i; simp [World.frozen?, z7']
      have uf8 : ∀ i, W2.frozen? ⟨g8, i, none⟩ = false := by intro i; simp [World.frozen?, z8']
      have hne2 : ¬ g7 = g8 := hne
      have hne3 : ¬ g8 = g7 := fun e => hne e.symm
      clear z7' z8' hne
      unfold pt
      have BN2 : Aside (Below V.heap.size V W2) := BN
      clear BN
      refine wpAny_one (i := 6) (by decide +kernel) rfl rfl ?_
      unfold Oper.wp
      go_simp
      refine wpAny_one (i := 7) (by decide +kernel) rfl rfl ?_
      unfold Oper.wp
      go_simp
      refine wpAny_done (by decide +kernel) ?_ _
      obtain ⟨U, hU⟩ : ∃ U, U = ((((((((W2.setCell ⟨g7, 0, none⟩ (.int .i64 B.eye)).setCell ⟨g7, 1, none⟩ (.int .i64 B.bull)).setCell ⟨g7, 2, none⟩ (.slice p1 B.rings.length q1)).setCell ⟨g7, 3, none⟩ (.slice p2 B.lines.length q2)).setCell ⟨g7, 4, none⟩ (.slice p3 B.nums.length q3)).setCell ⟨g7, 5, none⟩ (.int .i64 B.wire)).setCell ⟨g8, 0, none⟩ (.int .i64 P.1)).setCell ⟨g8, 1, none⟩ (.int .i64 P.2)) := ⟨_, rfl⟩
      have c0 : U.cell? ⟨g7, 0, none⟩ = some (.int .i64 B.eye) := by rw [hU]; clear hU; (first | (go_simp; done) | (go_simp; refine World.cell?_setCell_same' _ _ _ ?_; (repeat (with_reducible refine some_set ?_)); go_simp))
      have c1 : U.cell? ⟨g7, 1, none⟩ = some (.int .i64 B.bull) := by rw [hU]; clear hU; (first | (go_simp; done) | (go_simp; refine World.cell?_setCell_same' _ _ _ ?_; (repeat (with_reducible refine some_set ?_)); go_simp))
      have c2 : U.cell? ⟨g7, 2, none⟩ = some (.slice p1 B.rings.length q1) := by rw [hU]; clear hU; (first | (go_simp; done) | (go_simp; refine World.cell?_setCell_same' _ _ _ ?_; (repeat (with_reducible refine some_set ?_)); go_simp))
      have c3 : U.cell? ⟨g7, 3, none⟩ = some (.slice p2 B.lines.length q2) := by rw [hU]; clear hU; (first | (go_simp; done) | (go_simp; refine World.cell?_setCell_same' _ _ _ ?_; (repeat (with_reducible refine some_set ?_)); go_simp))
      have c4 : U.cell? ⟨g7, 4, none⟩ = some (.slice p3 B.nums.length q3) := by rw [hU]; clear hU; (first | (go_simp; done) | (go_simp; refine World.cell?_setCell_same' _ _ _ ?_; (repeat (with_reducible refine some_set ?_)); go_simp))
      have c5 : U.cell? ⟨g7, 5, none⟩ = some (.int .i64 B.wire) := by rw [hU]; clear hU; (first | (go_simp; done) | (go_simp; refine World.cell?_setCell_same' _ _ _ ?_; (repeat (with_reducible refine some_set ?_)); go_simp))
      have c6 : U.cell? ⟨g8, 0, none⟩ = some (.int .i64 P.1) := by rw [hU]; clear hU; (first | (go_simp; done) | (go_simp; refine World.cell?_setCell_same' _ _ _ ?_; (repeat (with_reducible refine some_set ?_)); go_simp))
      have c7 : U.cell? ⟨g8, 1, none⟩ = some (.int .i64 P.2) := by rw [hU]; clear hU; (first | (go_simp; done) | (go_simp; refine World.cell?_setCell_same' _ _ _ ?_; (repeat (with_reducible refine some_set ?_)); go_simp))
      have HB : Aside (BrdAt U (.agg #[.int .i64 B.eye, .int .i64 B.bull, .slice p1 B.rings.length q1, .slice p2 B.lines.length q2, .slice p3 B.nums.length q3, .int .i64 B.wire]) B) := by
        rw [hU]
        exact ⟨_, _, _, rfl, ((((((((XR.out.away (p := ⟨g7, 0, none⟩) (u := .int .i64 B.eye) aw1).away (p := ⟨g7, 1, none⟩) (u := .int .i64 B.bull) aw1).away (p := ⟨g7, 2, none⟩) (u := .slice p1 B.rings.length q1) aw1).away (p := ⟨g7, 3, none⟩) (u := .slice p2 B.lines.length q2) aw1).away (p := ⟨g7, 4, none⟩) (u := .slice p3 B.nums.length q3) aw1).away (p := ⟨g7, 5, none⟩) (u := .int .i64 B.wire) aw1).away (p := ⟨g8, 0, none⟩) (u := .int .i64 P.1) aw4).away (p := ⟨g8, 1, none⟩) (u := .int .i64 P.2) aw4), ((((((((XL.out.away (p := ⟨g7, 0, none⟩) (u := .int .i64 B.eye) aw2).away (p := ⟨g7, 1, none⟩) (u := .int .i64 B.bull) aw2).away (p := ⟨g7, 2, none⟩) (u := .slice p1 B.rings.length q1) aw2).away (p := ⟨g7, 3, none⟩) (u := .slice p2 B.lines.length q2) aw2).away (p := ⟨g7, 4, none⟩) (u := .slice p3 B.nums.length q3) aw2).away (p := ⟨g7, 5, none⟩) (u := .int .i64 B.wire) aw2).away (p := ⟨g8, 0, none⟩) (u := .int .i64 P.1) aw5).away (p := ⟨g8, 1, none⟩) (u := .int .i64 P.2) aw5), ((((((((XN.out.away (p := ⟨g7, 0, none⟩) (u := .int .i64 B.eye) aw3).away (p := ⟨g7, 1, none⟩) (u := .int .i64 B.bull) aw3).away (p := ⟨g7, 2, none⟩) (u := .slice p1 B.rings.length q1) aw3).away (p := ⟨g7, 3, none⟩) (u := .slice p2 B.lines.length q2) aw3).away (p := ⟨g7, 4, none⟩) (u := .slice p3 B.nums.length q3) aw3).away (p := ⟨g7, 5, none⟩) (u := .int .i64 B.wire) aw3).away (p := ⟨g8, 0, none⟩) (u := .int .i64 P.1) aw6).away (p := ⟨g8, 1, none⟩) (u := .int .i64 P.2) aw6)⟩
      have BU : Below V.heap.size V U := by rw [hU]; exact ((((((((BN2.out.setCell (p := ⟨g7, 0, none⟩) n7 _).setCell (p := ⟨g7, 1, none⟩) n7 _).setCell (p := ⟨g7, 2, none⟩) n7 _).setCell (p := ⟨g7, 3, none⟩) n7 _).setCell (p := ⟨g7, 4, none⟩) n7 _).setCell (p := ⟨g7, 5, none⟩) n7 _).setCell (p := ⟨g8, 0, none⟩) n8 _).setCell (p := ⟨g8, 1, none⟩) n8 _)
      rw [← hU]
      clear hU aw1 aw2 aw3 aw4 aw5 aw6 XR XL XN u0 u1 u2 u3 u4 u5 u6 u7 uf7 uf8 hne2 hne3 n7 n8 BN2
      have c8 := keepc BU v50
      have c9 := keepc BU v51
      have c10 := keepc BU v60
      have c11 := keepc BU v61
      replace BWU : Aside (Below w.heap.size w U) := BWU.out.trans (BU.mono BWU.out.size)
      clear BU v30 v31 v32 v33 v40 v41 v50 v51 v60 v61 HM HPT
      have HCB : Aside (chk B = 0) := hck
      have G := good_of_chk hck
      have HGL : Aside (B.rings ≠ [] ∧ B.lines ≠ [] ∧ B.nums ≠ [] ∧ B.rings.length ≤ 1000 ∧ B.lines.length ≤ 1000 ∧ B.nums.length ≤ 1000) := ⟨G.rings, G.lines, (by intro e; have h1 := G.same; rw [e] at h1; exact G.lines (List.eq_nil_of_length_eq_zero h1.symm)), by have := G.len.1; omega, by have := G.len.2.1; omega, by have := G.len.2.2; omega⟩
      clear G hck
      obtain ⟨X, hX⟩ : ∃ X, P.1 = X := ⟨_, rfl⟩
      obtain ⟨Y, hY⟩ : ∃ Y, P.2 = Y := ⟨_, rfl⟩
      rw [hX, hY] at HPB ⊢
      rw [hX] at c6
      rw [hY] at c7
      clear hX hY
      obtain ⟨⟨x0, x1⟩, y0, y1⟩ := HPB.out
      obtain ⟨S, hS⟩ : ∃ S : Nat, s % 30 = (S : Int) := ⟨(s % 30).toNat, by omega⟩
      obtain ⟨T, hT⟩ : ∃ T : Nat, t % 30 = (T : Int) := ⟨(t % 30).toNat, by omega⟩
      have hS29 : S ≤ 29 := by omega
      have hT29 : T ≤ 29 := by omega
      go_upto_region 4 with (fail)
      obtain ⟨UB, hUB⟩ : ∃ UB, UB = U.alloc (.cells #[.int .i64 X, .int .i64 (X + ↑S), .int .i64 Y, .int .i64 (Y + ↑T)] 53) := ⟨_, rfl⟩
      obtain ⟨g9, hg9⟩ : ∃ g9, U.heap.size = g9 := ⟨_, rfl⟩
      have BN : Below U.heap.size U UB := by rw [hUB]; exact (Below.refl _ _).alloc (Nat.le_refl _) _
      have d0 : UB.cell? ⟨g9, 0, none⟩ = some (.int .i64 X) := by rw [hUB, ← hg9]; clear hUB; go_simp
      have d1 : UB.cell? ⟨g9, 1, none⟩ = some (.int .i64 (X + ↑S)) := by rw [hUB, ← hg9]; clear hUB; go_simp
      have d2 : UB.cell? ⟨g9, 2, none⟩ = some (.int .i64 Y) := by rw [hUB, ← hg9]; clear hUB; go_simp
      have d3 : UB.cell? ⟨g9, 3, none⟩ = some (.int .i64 (Y + ↑T)) := by rw [hUB, ← hg9]; clear hUB; go_simp
      rw [← hUB, hg9]
      clear hUB hg9
      replace HB : Aside (BrdAt UB (.agg #[.int .i64 B.eye, .int .i64 B.bull, .slice p1 B.rings.length q1, .slice p2 B.lines.length q2, .slice p3 B.nums.length q3, .int .i64 B.wire]) B) := HB.out.below BN
      replace c0 := keepc BN c0
      replace c1 := keepc BN c1
      replace c2 := keepc BN c2
      replace c3 := keepc BN c3
      replace c4 := keepc BN c4
      replace c5 := keepc BN c5
      replace c6 := keepc BN c6
      replace c7 := keepc BN c7
      replace c8 := keepc BN c8
      replace c9 := keepc BN c9
      replace c10 := keepc BN c10
      replace c11 := keepc BN c11
      replace BWU : Aside (Below w.heap.size w UB) := BWU.out.trans (BN.mono BWU.out.size)
      clear BN
      obtain ⟨S1, hS1⟩ : ∃ S1 : Nat, S + 1 = S1 := ⟨_, rfl⟩
      obtain ⟨T1, hT1⟩ : ∃ T1 : Nat, T + 1 = T1 := ⟨_, rfl⟩
      have hST : S1 ≤ 30 ∧ T1 ≤ 30 ∧ 1 ≤ S1 ∧ 1 ≤ T1 := by omega
      have HOWN : Aside (∀ (W : World) (v : Value), BrdAt W v B → Calls Try.prog 11 #[v] W (fun e w' => ∃ v', e = .returned v' ∧ BrdAt w' v' B ∧ Below W.heap.size W w')) := by
        intro W v h
        obtain ⟨g1, g2, g3, g4, g5, g6⟩ := HGL.out
        have x := own_any v B W h g1 g2 g3 g4 g5 g6
        unfold OwnOk at x
        refine x.mono ?_
        rintro e w' ⟨_, _, _, _, _, _, rfl, hbr, hBn⟩
        exact ⟨_, rfl, hbr, hBn⟩
      have HBS : Aside (∀ (W : World) (v : Value) (z : Int) (q : Nat), -1300 ≤ z → z + q ≤ 1300 → 1 ≤ q → q ≤ 30 → BrdAt W v B → Calls Try.prog 15 #[v, .agg #[.int .i64 z, .int .i64 (z + q - 1), .int .i64 Y, .int .i64 (Y + T)]] W (BedsOk (bedsOf (valsOf B z Y T1 (q * T1))) W)) := by
        intro W v z q hz0 hz1 hq0 hq1 h
        refine Beds_ok v B z (z + q - 1) Y (Y + T) q T1 W h HCB.out ?_ ?_ (by omega) (by omega) ?_
        · unfold validS inb; simp; omega
        · unfold validS inb; simp; omega
        · have := Nat.mul_le_mul hq1 hST.2.1; omega
      have HB0 : Aside (∀ (W : World) (v : Value), BrdAt W v B → Calls Try.prog 15 #[v, .agg #[.int .i64 X, .int .i64 (X + ↑S), .int .i64 Y, .int .i64 (Y + ↑T)]] W (BedsOk (bedsOf (valsOf B X Y T1 (S1 * T1))) W)) := by
        intro W v h
        have x := HBS.out W v X S1 (by omega) (by omega) (by omega) (by omega) h
        rwa [show X + (S1 : Int) - 1 = X + (S : Int) by omega] at x
      obtain ⟨L0, hL0⟩ : ∃ L0, bedsOf (valsOf B X Y T1 (S1 * T1)) = L0 := ⟨_, rfl⟩
      have HL0 : Aside (bedsOf (valsOf B X Y T1 (S1 * T1)) = L0) := hL0
      rw [hL0] at HB0
      clear hL0
      go_upto_region 4 with (fail)
      refine region_laid (fl := 10) [true, true, true, true, true, true, true, true, true] 0 (fun (i : Nat) (x : Value) (ww : World) => (match i with | 0 => x = .agg #[.int .i64 B.eye, .int .i64 B.bull, .slice p1 B.rings.length q1, .slice p2 B.lines.length q2, .slice p3 B.nums.length q3, .int .i64 B.wire] | 1 => BrdAt ww x B | 2 => x = .agg #[.int .i64 X, .int .i64 (X + ↑S), .int .i64 Y, .int .i64 (Y + ↑T)] | 3 => ∃ v, x = .tuple #[v, .int .i64 0] ∧ Sl ww 1 eI v L0 | 4 => ∃ v, x = .tuple #[v, .int .i64 0] ∧ Sl ww 1 eI v L0 | 5 => Sl ww 1 eI x L0 | 6 => x = .int .i64 0 | 7 => Sl ww 1 eI x L0 | 8 => x = .int .i64 0 | _ => True : Prop)) (fun w' => Below UB.heap.size UB w') (by kernel_rfl) rfl (by show layable _ 250 _ 10 = true; decide +kernel) rfl ((Below.refl _ _).drew) ?mono4 ?step4 ?rest4
      case mono4 =>
        intro i x ww ww' hB h
        match i, h with
        | 0, h => exact h
        | 1, h => exact BrdAt.below h hB
        | 2, h => exact h
        | 3, h => exact (by obtain ⟨v, e, h⟩ := h; exact ⟨v, e, Sl.below h hB⟩)
        | 4, h => exact (by obtain ⟨v, e, h⟩ := h; exact ⟨v, e, Sl.below h hB⟩)
        | 5, h => exact Sl.below h hB
        | 6, h => exact h
        | 7, h => exact Sl.below h hB
        | 8, h => exact h
        | n + 9, h => exact h
      case step4 =>
        intro i o_ listed ac W hA ho hL he
        have hk7 : ac.tmps.getD 7 undef = .pointer (some ⟨g7, 0, none⟩) := hL.kept 7 (by decide +kernel)
        have hk9 : ac.tmps.getD 9 undef = .pointer (some ⟨g9, 0, none⟩) := hL.kept 9 (by decide +kernel)
        have CL : ∀ W', Below W.heap.size W W' → Below UB.heap.size UB W' := fun W' h => hL.cls.trans (h.mono hL.cls.size)
        have k_c0 := keepc hL.cls c0
        have k_c1 := keepc hL.cls c1
        have k_c2 := keepc hL.cls c2
        have k_c3 := keepc hL.cls c3
        have k_c4 := keepc hL.cls c4
        have k_c5 := keepc hL.cls c5
        have k_d0 := keepc hL.cls d0
        have k_d1 := keepc hL.cls d1
        have k_d2 := keepc hL.cls d2
        have k_d3 := keepc hL.cls d3
        match i, hA, ho with
        | 0, _, ho =>
          cases ho
          refine wpOp_plain rfl rfl ?_
          unfold Oper.wp
          go_simp
          exact ⟨_, rfl, Below.refl _ _, CL _ (Below.refl _ _), rfl⟩
        | 1, _, ho =>
          cases ho
          have d0 : ac.tmps.getD 63 undef = .agg #[.int .i64 B.eye, .int .i64 B.bull, .slice p1 B.rings.length q1, .slice p2 B.lines.length q2, .slice p3 B.nums.length q3, .int .i64 B.wire] := hL.new 0 _ 63 rfl (he ⟨0, .data⟩ (by simp) rfl) rfl
          have x := HOWN.out W _ (HB.out.below hL.cls)
          refine wpOp_plain rfl rfl ?_
          unfold Oper.wp
          go_simp
          refine x.mono ?_
          rintro e w' ⟨v', rfl, hbr, hBn⟩
          exact ⟨_, rfl, hBn, CL _ hBn, hbr⟩
        | 2, _, ho =>
          cases ho
          refine wpOp_plain rfl rfl ?_
          unfold Oper.wp
          go_simp
          exact ⟨_, rfl, Below.refl _ _, CL _ (Below.refl _ _), rfl⟩
        | 3, _, ho =>
          cases ho
          obtain ⟨x1, hx1⟩ : ∃ x, ac.tmps.getD 64 undef = x := ⟨_, rfl⟩
          have d1 := hL.new 1 _ 64 rfl (he ⟨1, .data⟩ (by simp) rfl) rfl
          rw [hx1] at d1
          have d2 : ac.tmps.getD 65 undef = .agg #[.int .i64 X, .int .i64 (X + ↑S), .int .i64 Y, .int .i64 (Y + ↑T)] := hL.new 2 _ 65 rfl (he ⟨2, .data⟩ (by simp) rfl) rfl
          have x := HB0.out W x1 d1
          unfold BedsOk at x
          refine wpOp_plain rfl rfl ?_
          unfold Oper.wp
          go_simp
          refine x.mono ?_
          rintro e w' ⟨v', rfl, hs, hBn⟩
          exact ⟨_, rfl, hBn, CL _ hBn, ⟨_, rfl, hs⟩⟩
        | 4, _, ho =>
          cases ho
          obtain ⟨x3, hx3⟩ : ∃ x, ac.tmps.getD 66 undef = x := ⟨_, rfl⟩
          have d3 := hL.new 3 _ 66 rfl (he ⟨3, .data⟩ (by simp) rfl) rfl
          rw [hx3] at d3
          obtain ⟨v', rfl, hs⟩ := d3
          refine wpOp_plain rfl rfl ?_
          unfold Oper.wp
          go_simp
          exact ⟨_, rfl, Below.refl _ _, CL _ (Below.refl _ _), ⟨_, rfl, hs⟩⟩
        | 5, _, ho =>
          cases ho
          obtain ⟨x4, hx4⟩ : ∃ x, ac.tmps.getD 62 undef = x := ⟨_, rfl⟩
          have d4 := hL.new 4 _ 62 rfl (he ⟨4, .data⟩ (by simp) rfl) rfl
          rw [hx4] at d4
          obtain ⟨v', rfl, hs⟩ := d4
          refine wpOp_plain rfl rfl ?_
          unfold Oper.wp
          go_simp
          exact ⟨_, rfl, Below.refl _ _, CL _ (Below.refl _ _), hs⟩
        | 6, _, ho =>
          cases ho
          obtain ⟨x4, hx4⟩ : ∃ x, ac.tmps.getD 62 undef = x := ⟨_, rfl⟩
          have d4 := hL.new 4 _ 62 rfl (he ⟨4, .data⟩ (by simp) rfl) rfl
          rw [hx4] at d4
          obtain ⟨v', rfl, hs⟩ := d4
          refine wpOp_plain rfl rfl ?_
          unfold Oper.wp
          go_simp
          exact ⟨_, rfl, Below.refl _ _, CL _ (Below.refl _ _), rfl⟩
        | 7, _, ho =>
          cases ho
          obtain ⟨x5, hx5⟩ : ∃ x, ac.tmps.getD 67 undef = x := ⟨_, rfl⟩
          have d5 := hL.new 5 _ 67 rfl (he ⟨5, .data⟩ (by simp) rfl) rfl
          rw [hx5] at d5
          refine wpOp_plain rfl rfl ?_
          unfold Oper.wp
          go_simp
          exact ⟨_, rfl, Below.refl _ _, CL _ (Below.refl _ _), d5⟩
        | 8, _, ho =>
          cases ho
          have d6 : ac.tmps.getD 68 undef = .int .i64 0 := hL.new 6 _ 68 rfl (he ⟨6, .data⟩ (by simp) rfl) rfl
          refine wpOp_plain rfl rfl ?_
          unfold Oper.wp
          go_simp
          exact ⟨_, rfl, Below.refl _ _, CL _ (Below.refl _ _), rfl⟩
        | n + 9, hA, _ => simp at hA
      case rest4 =>
        intro ac U4 hL
        have e63 : ac.tmps.getD 63 undef = .agg #[.int .i64 B.eye, .int .i64 B.bull, .slice p1 B.rings.length q1, .slice p2 B.lines.length q2, .slice p3 B.nums.length q3, .int .i64 B.wire] := hL.new 0 _ 63 rfl rfl rfl
        obtain ⟨y64, e64⟩ : ∃ x, ac.tmps.getD 64 undef = x := ⟨_, rfl⟩
        have e65 : ac.tmps.getD 65 undef = .agg #[.int .i64 X, .int .i64 (X + ↑S), .int .i64 Y, .int .i64 (Y + ↑T)] := hL.new 2 _ 65 rfl rfl rfl
        obtain ⟨y66, e66⟩ : ∃ x, ac.tmps.getD 66 undef = x := ⟨_, rfl⟩
        obtain ⟨y62, e62⟩ : ∃ x, ac.tmps.getD 62 undef = x := ⟨_, rfl⟩
        obtain ⟨y67, e67⟩ : ∃ x, ac.tmps.getD 67 undef = x := ⟨_, rfl⟩
        have e68 : ac.tmps.getD 68 undef = .int .i64 0 := hL.new 6 _ 68 rfl rfl rfl
        have hn10 := hL.new 7 _ 10 rfl rfl rfl
        obtain ⟨vl, e10⟩ : ∃ x, ac.tmps.getD 10 undef = x := ⟨_, rfl⟩
        rw [e10] at hn10
        have Hvl : Aside (Sl U4 1 eI vl L0) := hn10
        clear hn10
        have e11 : ac.tmps.getD 11 undef = .int .i64 0 := hL.new 8 _ 11 rfl rfl rfl
        have es := hL.sets [63, 64, 65, 66, 62, 67, 68, 10, 11] (by decide +kernel)
        rw [List.foldl_cons, List.foldl_cons, List.foldl_cons, List.foldl_cons, List.foldl_cons, List.foldl_cons, List.foldl_cons, List.foldl_cons, List.foldl_cons, List.foldl_nil, e63, e64, e65, e66, e62, e67, e68, e10, e11] at es
        have BN : Below UB.heap.size UB U4 := hL.cls
        rw [es]
        clear es hL e63 e64 e65 e66 e62 e67 e68 e10 e11
        refine wpAny_done (by decide +kernel) ?_ _
        simp only [List.setIfInBounds_toArray, List.set_cons_zero, List.set_cons_succ]
        replace HB : Aside (BrdAt U4 (.agg #[.int .i64 B.eye, .int .i64 B.bull, .slice p1 B.rings.length q1, .slice p2 B.lines.length q2, .slice p3 B.nums.length q3, .int .i64 B.wire]) B) := HB.out.below BN
        replace c0 := keepc BN c0
        replace c1 := keepc BN c1
        replace c2 := keepc BN c2
        replace c3 := keepc BN c3
        replace c4 := keepc BN c4
        replace c5 := keepc BN c5
        replace c6 := keepc BN c6
        replace c7 := keepc BN c7
        replace c8 := keepc BN c8
        replace c9 := keepc BN c9
        replace c10 := keepc BN c10
        replace c11 := keepc BN c11
        replace d0 := keepc BN d0
        replace d1 := keepc BN d1
        replace d2 := keepc BN d2
        replace d3 := keepc BN d3
        replace BWU : Aside (Below w.heap.size w U4) := BWU.out.trans (BN.mono BWU.out.size)
        clear BN
        obtain ⟨a_vl, c_vl, h_vl⟩ : ∃ a c, vl = .slice a L0.length c := by
          obtain ⟨a, c, e, _⟩ := Hvl.out
          exact ⟨a, c, e⟩
        subst h_vl
        obtain ⟨Iq, hIq⟩ : ∃ q : Nat, ii % (S1 : Int) = q := ⟨(ii % (S1 : Int)).toNat, by have := Int.emod_nonneg ii (show (S1 : Int) ≠ 0 by omega); omega⟩
        have hIq1 : Iq < S1 := by have := Int.emod_lt_of_pos ii (show (0 : Int) < (S1 : Int) by omega); omega
        obtain ⟨Jq, hJq⟩ : ∃ q : Nat, jj % (T1 : Int) = q := ⟨(jj % (T1 : Int)).toNat, by have := Int.emod_nonneg jj (show (T1 : Int) ≠ 0 by omega); omega⟩
        have hJq1 : Jq < T1 := by have := Int.emod_lt_of_pos jj (show (0 : Int) < (T1 : Int) by omega); omega
        have HF1 : Aside (IntKind.i64.wrap ii = ii ∧ IntKind.i64.wrap s = s ∧ s.tmod 30 = S ∧ IntKind.i64.wrap ((S : Int) + 1) = (S1 : Int) ∧ ii.tmod (S1 : Int) = Iq ∧ ¬ S1 = 0 ∧ IntKind.i64.wrap (X + (Iq : Int)) = X + (Iq : Int)) := ⟨IntWalk.i64_in _ (by omega), IntWalk.i64_in _ (by omega), by rw [Int.tmod_eq_emod_of_nonneg s0]; exact hS, by rw [IntWalk.i64_in _ (by omega)]; omega, by rw [Int.tmod_eq_emod_of_nonneg i0]; exact hIq, by omega, IntWalk.i64_in _ (by omega)⟩
        have HF2 : Aside (IntKind.i64.wrap jj = jj ∧ IntKind.i64.wrap t = t ∧ t.tmod 30 = T ∧ IntKind.i64.wrap ((T : Int) + 1) = (T1 : Int) ∧ jj.tmod (T1 : Int) = Jq ∧ ¬ T1 = 0 ∧ IntKind.i64.wrap (Y + (Jq : Int)) = Y + (Jq : Int)) := ⟨IntWalk.i64_in _ (by omega), IntWalk.i64_in _ (by omega), by rw [Int.tmod_eq_emod_of_nonneg t0]; exact hT, by rw [IntWalk.i64_in _ (by omega)]; omega, by rw [Int.tmod_eq_emod_of_nonneg j0]; exact hJq, by omega, IntWalk.i64_in _ (by omega)⟩
        clear hIq hJq
        go_upto_region 5 with (fail)
        refine region_laid (fl := 30) [true, true, true, true, true, true, true, true, true, true, true, true, true, true, true, true, true, true, true, true, true, true, true, true, true, true, false] 1 (fun (i : Nat) (x : Value) (ww : World) => (match i with | 0 => x = .pointer (some ⟨g8, 0, none⟩) | 1 => x = .int .i64 X | 2 => x = .pointer (some ⟨g6, 0, none⟩) | 3 => x = .int .u8 ii | 4 => x = .int .i64 ii | 5 => x = .pointer (some ⟨g5, 0, none⟩) | 6 => x = .int .u8 s | 7 => x = .int .i64 s | 8 => x = .int .i64 S | 9 => x = .int .i64 S1 | 10 => x = .int .i64 Iq | 11 => x = .int .i64 (X + Iq) | 12 => x = .pointer (some ⟨g8, 1, none⟩) | 13 => x = .int .i64 Y | 14 => x = .pointer (some ⟨g6, 1, none⟩) | 15 => x = .int .u8 jj | 16 => x = .int .i64 jj | 17 => x = .pointer (some ⟨g5, 1, none⟩) | 18 => x = .int .u8 t | 19 => x = .int .i64 t | 20 => x = .int .i64 T | 21 => x = .int .i64 T1 | 22 => x = .int .i64 Jq | 23 => x = .int .i64 (Y + Jq) | 24 => x = .agg #[.int .i64 (X + Iq), .int .i64 (Y + Jq)] | 25 => ∃ g, x = .pointer (some ⟨g, 0, none⟩) ∧ U4.heap.size ≤ g ∧ ww.heap[g]? = some (.cells #[.int .i64 0, .int .i64 0] 34 (0, 0)) | _ => True : Prop)) (fun w' => Below U4.heap.size U4 w') (by kernel_rfl) rfl (by show layable _ 250 _ 30 = true; decide +kernel) rfl ((Below.refl _ _).drew) ?mono5 ?step5 ?rest5
        case mono5 =>
          intro i x ww ww' hB h
          match i, h with
          | 0, h => exact h
          | 1, h => exact h
          | 2, h => exact h
          | 3, h => exact h
          | 4, h => exact h
          | 5, h => exact h
          | 6, h => exact h
          | 7, h => exact h
          | 8, h => exact h
          | 9, h => exact h
          | 10, h => exact h
          | 11, h => exact h
          | 12, h => exact h
          | 13, h => exact h
          | 14, h => exact h
          | 15, h => exact h
          | 16, h => exact h
          | 17, h => exact h
          | 18, h => exact h
          | 19, h => exact h
          | 20, h => exact h
          | 21, h => exact h
          | 22, h => exact h
          | 23, h => exact h
          | 24, h => exact h
          | 25, h => exact (by obtain ⟨g, e, hn, h⟩ := h; exact ⟨g, e, hn, (hB.block g (Array.getElem?_eq_some_iff.1 h).1).trans h⟩)
          | n + 26, h => exact h
        case step5 =>
          intro i o_ listed ac W hA ho hL he
          have hk8 : ac.tmps.getD 8 undef = .pointer (some ⟨g8, 0, none⟩) := hL.kept 8 (by decide +kernel)
          have hk5 : ac.tmps.getD 5 undef = .pointer (some ⟨g5, 0, none⟩) := hL.kept 5 (by decide +kernel)
          have hk6 : ac.tmps.getD 6 undef = .pointer (some ⟨g6, 0, none⟩) := hL.kept 6 (by decide +kernel)
          have CL : ∀ W', Below W.heap.size W W' → Below U4.heap.size U4 W' := fun W' h => hL.cls.trans (h.mono hL.cls.size)
          have k_c6 := keepc hL.cls c6
          have k_c7 := keepc hL.cls c7
          have k_c8 := keepc hL.cls c8
          have k_c9 := keepc hL.cls c9
          have k_c10 := keepc hL.cls c10
          have k_c11 := keepc hL.cls c11
          match i, hA, ho with
          | 0, _, ho =>
            cases ho
            refine wpOp_plain rfl rfl ?_
            unfold Oper.wp
            go_simp
            exact ⟨_, rfl, Below.refl _ _, CL _ (Below.refl _ _), rfl⟩
          | 1, _, ho =>
            cases ho
            have d0 : ac.tmps.getD 69 undef = .pointer (some ⟨g8, 0, none⟩) := hL.new 0 _ 69 rfl (he ⟨0, .data⟩ (by simp) rfl) rfl
            refine wpOp_plain rfl rfl ?_
            unfold Oper.wp
            go_simp
            exact ⟨_, rfl, Below.refl _ _, CL _ (Below.refl _ _), rfl⟩
          | 2, _, ho =>
            cases ho
            refine wpOp_plain rfl rfl ?_
            unfold Oper.wp
            go_simp
            exact ⟨_, rfl, Below.refl _ _, CL _ (Below.refl _ _), rfl⟩
          | 3, _, ho =>
            cases ho
            have d2 : ac.tmps.getD 71 undef = .pointer (some ⟨g6, 0, none⟩) := hL.new 2 _ 71 rfl (he ⟨2, .data⟩ (by simp) rfl) rfl
            refine wpOp_plain rfl rfl ?_
            unfold Oper.wp
            go_simp
            exact ⟨_, rfl, Below.refl _ _, CL _ (Below.refl _ _), rfl⟩
          | 4, _, ho =>
            cases ho
            have d3 : ac.tmps.getD 72 undef = .int .u8 ii := hL.new 3 _ 72 rfl (he ⟨3, .data⟩ (by simp) rfl) rfl
            obtain ⟨hz0, hz1, hz2, hz3, hz4, hz5, hz6⟩ := HF1.out
            refine wpOp_plain rfl rfl ?_
            unfold Oper.wp
            go_simp
            exact ⟨_, rfl, Below.refl _ _, CL _ (Below.refl _ _), rfl⟩
          | 5, _, ho =>
            cases ho
            refine wpOp_plain rfl rfl ?_
            unfold Oper.wp
            go_simp
            exact ⟨_, rfl, Below.refl _ _, CL _ (Below.refl _ _), rfl⟩
          | 6, _, ho =>
            cases ho
            have d5 : ac.tmps.getD 74 undef = .pointer (some ⟨g5, 0, none⟩) := hL.new 5 _ 74 rfl (he ⟨5, .data⟩ (by simp) rfl) rfl
            refine wpOp_plain rfl rfl ?_
            unfold Oper.wp
            go_simp
            exact ⟨_, rfl, Below.refl _ _, CL _ (Below.refl _ _), rfl⟩
          | 7, _, ho =>
            cases ho
            have d6 : ac.tmps.getD 75 undef = .int .u8 s := hL.new 6 _ 75 rfl (he ⟨6, .data⟩ (by simp) rfl) rfl
            obtain ⟨hz0, hz1, hz2, hz3, hz4, hz5, hz6⟩ := HF1.out
            refine wpOp_plain rfl rfl ?_
            unfold Oper.wp
            go_simp
            exact ⟨_, rfl, Below.refl _ _, CL _ (Below.refl _ _), rfl⟩
          | 8, _, ho =>
            cases ho
            have d7 : ac.tmps.getD 76 undef = .int .i64 s := hL.new 7 _ 76 rfl (he ⟨7, .data⟩ (by simp) rfl) rfl
            obtain ⟨hz0, hz1, hz2, hz3, hz4, hz5, hz6⟩ := HF1.out
            refine wpOp_plain rfl rfl ?_
            unfold Oper.wp
            go_simp
            exact ⟨_, rfl, Below.refl _ _, CL _ (Below.refl _ _), rfl⟩
          | 9, _, ho =>
            cases ho
            have d8 : ac.tmps.getD 77 undef = .int .i64 S := hL.new 8 _ 77 rfl (he ⟨8, .data⟩ (by simp) rfl) rfl
            obtain ⟨hz0, hz1, hz2, hz3, hz4, hz5, hz6⟩ := HF1.out
            refine wpOp_plain rfl rfl ?_
            unfold Oper.wp
            go_simp
            exact ⟨_, rfl, Below.refl _ _, CL _ (Below.refl _ _), rfl⟩
          | 10, _, ho =>
            cases ho
            have d4 : ac.tmps.getD 73 undef = .int .i64 ii := hL.new 4 _ 73 rfl (he ⟨4, .data⟩ (by simp) rfl) rfl
            have d9 : ac.tmps.getD 78 undef = .int .i64 S1 := hL.new 9 _ 78 rfl (he ⟨9, .data⟩ (by simp) rfl) rfl
            obtain ⟨hz0, hz1, hz2, hz3, hz4, hz5, hz6⟩ := HF1.out
            refine wpOp_plain rfl rfl ?_
            unfold Oper.wp
            go_simp
            exact ⟨_, rfl, Below.refl _ _, CL _ (Below.refl _ _), rfl⟩
          | 11, _, ho =>
            cases ho
            have d1 : ac.tmps.getD 70 undef = .int .i64 X := hL.new 1 _ 70 rfl (he ⟨1, .data⟩ (by simp) rfl) rfl
            have d10 : ac.tmps.getD 79 undef = .int .i64 Iq := hL.new 10 _ 79 rfl (he ⟨10, .data⟩ (by simp) rfl) rfl
            obtain ⟨hz0, hz1, hz2, hz3, hz4, hz5, hz6⟩ := HF1.out
            refine wpOp_plain rfl rfl ?_
            unfold Oper.wp
            go_simp
            exact ⟨_, rfl, Below.refl _ _, CL _ (Below.refl _ _), rfl⟩
          | 12, _, ho =>
            cases ho
            refine wpOp_plain rfl rfl ?_
            unfold Oper.wp
            go_simp
            exact ⟨_, rfl, Below.refl _ _, CL _ (Below.refl _ _), rfl⟩
          | 13, _, ho =>
            cases ho
            have d12 : ac.tmps.getD 81 undef = .pointer (some ⟨g8, 1, none⟩) := hL.new 12 _ 81 rfl (he ⟨12, .data⟩ (by simp) rfl) rfl
            refine wpOp_plain rfl rfl ?_
            unfold Oper.wp
            go_simp
            exact ⟨_, rfl, Below.refl _ _, CL _ (Below.refl _ _), rfl⟩
          | 14, _, ho =>
            cases ho
            refine wpOp_plain rfl rfl ?_
            unfold Oper.wp
            go_simp
            exact ⟨_, rfl, Below.refl _ _, CL _ (Below.refl _ _), rfl⟩
          | 15, _, ho =>
            cases ho
            have d14 : ac.tmps.getD 83 undef = .pointer (some ⟨g6, 1, none⟩) := hL.new 14 _ 83 rfl (he ⟨14, .data⟩ (by simp) rfl) rfl
            refine wpOp_plain rfl rfl ?_
            unfold Oper.wp
            go_simp
            exact ⟨_, rfl, Below.refl _ _, CL _ (Below.refl _ _), rfl⟩
          | 16, _, ho =>
            cases ho
            have d15 : ac.tmps.getD 84 undef = .int .u8 jj := hL.new 15 _ 84 rfl (he ⟨15, .data⟩ (by simp) rfl) rfl
            obtain ⟨hz0, hz1, hz2, hz3, hz4, hz5, hz6⟩ := HF2.out
            refine wpOp_plain rfl rfl ?_
            unfold Oper.wp
            go_simp
            exact ⟨_, rfl, Below.refl _ _, CL _ (Below.refl _ _), rfl⟩
          | 17, _, ho =>
            cases ho
            refine wpOp_plain rfl rfl ?_
            unfold Oper.wp
            go_simp
            exact ⟨_, rfl, Below.refl _ _, CL _ (Below.refl _ _), rfl⟩
          | 18, _, ho =>
            cases ho
            have d17 : ac.tmps.getD 86 undef = .pointer (some ⟨g5, 1, none⟩) := hL.new 17 _ 86 rfl (he ⟨17, .data⟩ (by simp) rfl) rfl
            refine wpOp_plain rfl rfl ?_
            unfold Oper.wp
            go_simp
            exact ⟨_, rfl, Below.refl _ _, CL _ (Below.refl _ _), rfl⟩
          | 19, _, ho =>
            cases ho
            have d18 : ac.tmps.getD 87 undef = .int .u8 t := hL.new 18 _ 87 rfl (he ⟨18, .data⟩ (by simp) rfl) rfl
            obtain ⟨hz0, hz1, hz2, hz3, hz4, hz5, hz6⟩ := HF2.out
            refine wpOp_plain rfl rfl ?_
            unfold Oper.wp
            go_simp
            exact ⟨_, rfl, Below.refl _ _, CL _ (Below.refl _ _), rfl⟩
          | 20, _, ho =>
            cases ho
            have d19 : ac.tmps.getD 88 undef = .int .i64 t := hL.new 19 _ 88 rfl (he ⟨19, .data⟩ (by simp) rfl) rfl
            obtain ⟨hz0, hz1, hz2, hz3, hz4, hz5, hz6⟩ := HF2.out
            refine wpOp_plain rfl rfl ?_
            unfold Oper.wp
            go_simp
            exact ⟨_, rfl, Below.refl _ _, CL _ (Below.refl _ _), rfl⟩
          | 21, _, ho =>
            cases ho
            have d20 : ac.tmps.getD 89 undef = .int .i64 T := hL.new 20 _ 89 rfl (he ⟨20, .data⟩ (by simp) rfl) rfl
            obtain ⟨hz0, hz1, hz2, hz3, hz4, hz5, hz6⟩ := HF2.out
            refine wpOp_plain rfl rfl ?_
            unfold Oper.wp
            go_simp
            exact ⟨_, rfl, Below.refl _ _, CL _ (Below.refl _ _), rfl⟩
          | 22, _, ho =>
            cases ho
            have d16 : ac.tmps.getD 85 undef = .int .i64 jj := hL.new 16 _ 85 rfl (he ⟨16, .data⟩ (by simp) rfl) rfl
            have d21 : ac.tmps.getD 90 undef = .int .i64 T1 := hL.new 21 _ 90 rfl (he ⟨21, .data⟩ (by simp) rfl) rfl
            obtain ⟨hz0, hz1, hz2, hz3, hz4, hz5, hz6⟩ := HF2.out
            refine wpOp_plain rfl rfl ?_
            unfold Oper.wp
            go_simp
            exact ⟨_, rfl, Below.refl _ _, CL _ (Below.refl _ _), rfl⟩
          | 23, _, ho =>
            cases ho
            have d13 : ac.tmps.getD 82 undef = .int .i64 Y := hL.new 13 _ 82 rfl (he ⟨13, .data⟩ (by simp) rfl) rfl
            have d22 : ac.tmps.getD 91 undef = .int .i64 Jq := hL.new 22 _ 91 rfl (he ⟨22, .data⟩ (by simp) rfl) rfl
            obtain ⟨hz0, hz1, hz2, hz3, hz4, hz5, hz6⟩ := HF2.out
            refine wpOp_plain rfl rfl ?_
            unfold Oper.wp
            go_simp
            exact ⟨_, rfl, Below.refl _ _, CL _ (Below.refl _ _), rfl⟩
          | 24, _, ho =>
            cases ho
            have d11 : ac.tmps.getD 80 undef = .int .i64 (X + Iq) := hL.new 11 _ 80 rfl (he ⟨11, .data⟩ (by simp) rfl) rfl
            have d23 : ac.tmps.getD 92 undef = .int .i64 (Y + Jq) := hL.new 23 _ 92 rfl (he ⟨23, .data⟩ (by simp) rfl) rfl
            have dz1 := d11
            have dz2 := d23
            rw [Array.getD_eq_getD_getElem?] at dz1 dz2
            refine wpOp_plain rfl rfl ?_
            unfold Oper.wp
            go_simp
            exact ⟨_, rfl, Below.refl _ _, CL _ (Below.refl _ _), rfl⟩
          | 25, _, ho =>
            cases ho
            refine wpOp_plain rfl rfl ?_
            unfold Oper.wp
            go_simp
            exact ⟨_, rfl, (Below.refl _ _).alloc (Nat.le_refl _) _, CL _ ((Below.refl _ _).alloc (Nat.le_refl _) _), ⟨_, rfl, hL.cls.size, World.alloc_heap_new _ _⟩⟩
          | 26, hA, _ => cases hA
          | n + 27, hA, _ => simp at hA
        case rest5 =>
          intro ac U5 hL
          have e69 : ac.tmps.getD 69 undef = .pointer (some ⟨g8, 0, none⟩) := hL.new 0 _ 69 rfl rfl rfl
          have e70 : ac.tmps.getD 70 undef = .int .i64 X := hL.new 1 _ 70 rfl rfl rfl
          have e71 : ac.tmps.getD 71 undef = .pointer (some ⟨g6, 0, none⟩) := hL.new 2 _ 71 rfl rfl rfl
          have e72 : ac.tmps.getD 72 undef = .int .u8 ii := hL.new 3 _ 72 rfl rfl rfl
          have e73 : ac.tmps.getD 73 undef = .int .i64 ii := hL.new 4 _ 73 rfl rfl rfl
          have e74 : ac.tmps.getD 74 undef = .pointer (some ⟨g5, 0, none⟩) := hL.new 5 _ 74 rfl rfl rfl
          have e75 : ac.tmps.getD 75 undef = .int .u8 s := hL.new 6 _ 75 rfl rfl rfl
          have e76 : ac.tmps.getD 76 undef = .int .i64 s := hL.new 7 _ 76 rfl rfl rfl
          have e77 : ac.tmps.getD 77 undef = .int .i64 S := hL.new 8 _ 77 rfl rfl rfl
          have e78 : ac.tmps.getD 78 undef = .int .i64 S1 := hL.new 9 _ 78 rfl rfl rfl
          have e79 : ac.tmps.getD 79 undef = .int .i64 Iq := hL.new 10 _ 79 rfl rfl rfl
          have e80 : ac.tmps.getD 80 undef = .int .i64 (X + Iq) := hL.new 11 _ 80 rfl rfl rfl
          have e81 : ac.tmps.getD 81 undef = .pointer (some ⟨g8, 1, none⟩) := hL.new 12 _ 81 rfl rfl rfl
          have e82 : ac.tmps.getD 82 undef = .int .i64 Y := hL.new 13 _ 82 rfl rfl rfl
          have e83 : ac.tmps.getD 83 undef = .pointer (some ⟨g6, 1, none⟩) := hL.new 14 _ 83 rfl rfl rfl
          have e84 : ac.tmps.getD 84 undef = .int .u8 jj := hL.new 15 _ 84 rfl rfl rfl
          have e85 : ac.tmps.getD 85 undef = .int .i64 jj := hL.new 16 _ 85 rfl rfl rfl
          have e86 : ac.tmps.getD 86 undef = .pointer (some ⟨g5, 1, none⟩) := hL.new 17 _ 86 rfl rfl rfl
          have e87 : ac.tmps.getD 87 undef = .int .u8 t := hL.new 18 _ 87 rfl rfl rfl
          have e88 : ac.tmps.getD 88 undef = .int .i64 t := hL.new 19 _ 88 rfl rfl rfl
          have e89 : ac.tmps.getD 89 undef = .int .i64 T := hL.new 20 _ 89 rfl rfl rfl
          have e90 : ac.tmps.getD 90 undef = .int .i64 T1 := hL.new 21 _ 90 rfl rfl rfl
          have e91 : ac.tmps.getD 91 undef = .int .i64 Jq := hL.new 22 _ 91 rfl rfl rfl
          have e92 : ac.tmps.getD 92 undef = .int .i64 (Y + Jq) := hL.new 23 _ 92 rfl rfl rfl
          have e93 : ac.tmps.getD 93 undef = .agg #[.int .i64 (X + Iq), .int .i64 (Y + Jq)] := hL.new 24 _ 93 rfl rfl rfl
          have hn12 := hL.new 25 _ 12 rfl rfl rfl
          obtain ⟨zq, e12⟩ : ∃ x, ac.tmps.getD 12 undef = x := ⟨_, rfl⟩
          rw [e12] at hn12
          have Hzq : Aside (∃ g, zq = .pointer (some ⟨g, 0, none⟩) ∧ U4.heap.size ≤ g ∧ U5.heap[g]? = some (.cells #[.int .i64 0, .int .i64 0] 34 (0, 0))) := hn12
          clear hn12
          have es := hL.sets [69, 70, 71, 72, 73, 74, 75, 76, 77, 78, 79, 80, 81, 82, 83, 84, 85, 86, 87, 88, 89, 90, 91, 92, 93, 12] (by decide +kernel)
          rw [List.foldl_cons, List.foldl_cons, List.foldl_cons, List.foldl_cons, List.foldl_cons, List.foldl_cons, List.foldl_cons, List.foldl_cons, List.foldl_cons, List.foldl_cons, List.foldl_cons, List.foldl_cons, List.foldl_cons, List.foldl_cons, List.foldl_cons, List.foldl_cons, List.foldl_cons, List.foldl_cons, List.foldl_cons, List.foldl_cons, List.foldl_cons, List.foldl_cons, List.foldl_cons, List.foldl_cons, List.foldl_cons, List.foldl_cons, List.foldl_nil, e69, e70, e71, e72, e73, e74, e75, e76, e77, e78, e79, e80, e81, e82, e83, e84, e85, e86, e87, e88, e89, e90, e91, e92, e93, e12] at es
          have BN : Below U4.heap.size U4 U5 := hL.cls
          rw [es]
          clear es hL e69 e70 e71 e72 e73 e74 e75 e76 e77 e78 e79 e80 e81 e82 e83 e84 e85 e86 e87 e88 e89 e90 e91 e92 e93 e12
          simp only [List.setIfInBounds_toArray, List.set_cons_zero, List.set_cons_succ]
          obtain ⟨g12, rfl, n12, z12'⟩ := Hzq.out
          have e0 : U5.cell? ⟨g12, 0, none⟩ = some (.int .i64 0) := by rw [cell_of_row U5 g12 0 _ _ _ z12']; rfl
          have e1 : U5.cell? ⟨g12, 1, none⟩ = some (.int .i64 0) := by rw [cell_of_row U5 g12 1 _ _ _ z12']; rfl
          have ef : ∀ i, U5.frozen? ⟨g12, i, none⟩ = false := by intro i; simp [World.frozen?, z12']
          have BN5 : Aside (Below U4.heap.size U4 U5) := BN
          clear BN Hzq z12'
          refine wpAny_one (i := 26) (by decide +kernel) rfl rfl ?_
          unfold Oper.wp
          go_simp
          refine wpAny_done (by decide +kernel) ?_ _
          obtain ⟨UQ, hUQ⟩ : ∃ UQ, UQ = (U5.setCell ⟨g12, 0, none⟩ (.int .i64 (X + Iq))).setCell ⟨g12, 1, none⟩ (.int .i64 (Y + Jq)) := ⟨_, rfl⟩
          have qa0 : UQ.cell? ⟨g12, 0, none⟩ = some (.int .i64 (X + Iq)) := by rw [hUQ]; clear hUQ; (first | (go_simp; done) | (go_simp; refine World.cell?_setCell_same' _ _ _ ?_; (repeat (with_reducible refine some_set ?_)); go_simp))
          have qa1 : UQ.cell? ⟨g12, 1, none⟩ = some (.int .i64 (Y + Jq)) := by rw [hUQ]; clear hUQ; (first | (go_simp; done) | (go_simp; refine World.cell?_setCell_same' _ _ _ ?_; (repeat (with_reducible refine some_set ?_)); go_simp))
          have BN : Below U4.heap.size U4 UQ := by rw [hUQ]; exact (BN5.out.setCell (p := ⟨g12, 0, none⟩) n12 _).setCell (p := ⟨g12, 1, none⟩) n12 _
          rw [← hUQ]
          clear hUQ e0 e1 ef BN5 n12
          replace HB : Aside (BrdAt UQ (.agg #[.int .i64 B.eye, .int .i64 B.bull, .slice p1 B.rings.length q1, .slice p2 B.lines.length q2, .slice p3 B.nums.length q3, .int .i64 B.wire]) B) := HB.out.below BN
          replace Hvl : Aside (Sl UQ 1 eI (.slice a_vl L0.length c_vl) L0) := Hvl.out.below BN
          replace c0 := keepc BN c0
          replace c1 := keepc BN c1
          replace c2 := keepc BN c2
          replace c3 := keepc BN c3
          replace c4 := keepc BN c4
          replace c5 := keepc BN c5
          replace c6 := keepc BN c6
          replace c7 := keepc BN c7
          replace c8 := keepc BN c8
          replace c9 := keepc BN c9
          replace c10 := keepc BN c10
          replace c11 := keepc BN c11
          replace d0 := keepc BN d0
          replace d1 := keepc BN d1
          replace d2 := keepc BN d2
          replace d3 := keepc BN d3
          replace BWU : Aside (Below w.heap.size w UQ) := BWU.out.trans (BN.mono BWU.out.size)
          clear BN
          obtain ⟨A, hA⟩ : ∃ A, bedW B (X + (Iq : Int), Y + (Jq : Int)) = A := ⟨_, rfl⟩
          obtain ⟨o, ho⟩ : ∃ o, onWire B (X + (Iq : Int), Y + (Jq : Int)) = o := ⟨_, rfl⟩
          have HBD : Aside (∀ (W : World) (v : Value), BrdAt W v B → Calls Try.prog 12 #[v, .agg #[.int .i64 (X + Iq), .int .i64 (Y + Jq)]] W (Ret (.tuple #[.int .i64 A, .bool o, .int .i64 0]) W)) := by
            intro W v h
            have x := Bed_any v B (X + (Iq : Int), Y + (Jq : Int)) W h
            have hr : bedR B (X + (Iq : Int), Y + (Jq : Int)) = .tuple #[.int .i64 A, .bool o, .int .i64 0] := by
              unfold bedR
              rw [if_pos HCB.out, if_pos (by unfold vpt inb; simp; omega), hA, ho]
            rw [hr] at x
            exact x
          have HIN : Aside (A ∈ L0) := by
            show _ ∈ _
            rw [← HL0.out, mem_bedsOf (valsOf_bd HCB.out _ _ _ _), mem_valsOf]
            exact ⟨Iq, Jq, hIq1, hJq1, hA.symm⟩
          clear hA ho
          go_upto_region 6 with (fail)
          refine region_laid (fl := 10) [true, true, true, true, true, true, true, true, true, true, true] 0 (fun (i : Nat) (x : Value) (ww : World) => (match i with | 0 => x = .agg #[.int .i64 B.eye, .int .i64 B.bull, .slice p1 B.rings.length q1, .slice p2 B.lines.length q2, .slice p3 B.nums.length q3, .int .i64 B.wire] | 1 => BrdAt ww x B | 2 => x = .agg #[.int .i64 (X + Iq), .int .i64 (Y + Jq)] | 3 => x = .tuple #[.int .i64 A, .bool o, .int .i64 0] | 4 => x = .tuple #[.int .i64 A, .bool o, .int .i64 0] | 5 => x = .int .i64 A | 6 => x = .bool o | 7 => x = .int .i64 0 | 8 => x = .int .i64 A | 9 => x = .bool o | 10 => x = .int .i64 0 | _ => True : Prop)) (fun w' => Below UQ.heap.size UQ w') (by kernel_rfl) rfl (by show layable _ 250 _ 10 = true; decide +kernel) rfl ((Below.refl _ _).drew) ?mono6 ?step6 ?rest6
          case mono6 =>
            intro i x ww ww' hB h
            match i, h with
            | 0, h => exact h
            | 1, h => exact BrdAt.below h hB
            | 2, h => exact h
            | 3, h => exact h
            | 4, h => exact h
            | 5, h => exact h
            | 6, h => exact h
            | 7, h => exact h
            | 8, h => exact h
            | 9, h => exact h
            | 10, h => exact h
            | n + 11, h => exact h
          case step6 =>
            intro i o_ listed ac W hA ho hL he
            have hk7 : ac.tmps.getD 7 undef = .pointer (some ⟨g7, 0, none⟩) := hL.kept 7 (by decide +kernel)
            have hk12 : ac.tmps.getD 12 undef = .pointer (some ⟨g12, 0, none⟩) := hL.kept 12 (by decide +kernel)
            have CL : ∀ W', Below W.heap.size W W' → Below UQ.heap.size UQ W' := fun W' h => hL.cls.trans (h.mono hL.cls.size)
            have k_c0 := keepc hL.cls c0
            have k_c1 := keepc hL.cls c1
            have k_c2 := keepc hL.cls c2
            have k_c3 := keepc hL.cls c3
            have k_c4 := keepc hL.cls c4
            have k_c5 := keepc hL.cls c5
            have k_qa0 := keepc hL.cls qa0
            have k_qa1 := keepc hL.cls qa1
            match i, hA, ho with
            | 0, _, ho =>
              cases ho
              refine wpOp_plain rfl rfl ?_
              unfold Oper.wp
              go_simp
              exact ⟨_, rfl, Below.refl _ _, CL _ (Below.refl _ _), rfl⟩
            | 1, _, ho =>
              cases ho
              have d0 : ac.tmps.getD 95 undef = .agg #[.int .i64 B.eye, .int .i64 B.bull, .slice p1 B.rings.length q1, .slice p2 B.lines.length q2, .slice p3 B.nums.length q3, .int .i64 B.wire] := hL.new 0 _ 95 rfl (he ⟨0, .data⟩ (by simp) rfl) rfl
              have x := HOWN.out W _ (HB.out.below hL.cls)
              refine wpOp_plain rfl rfl ?_
              unfold Oper.wp
              go_simp
              refine x.mono ?_
              rintro e w' ⟨v', rfl, hbr, hBn⟩
              exact ⟨_, rfl, hBn, CL _ hBn, hbr⟩
            | 2, _, ho =>
              cases ho
              refine wpOp_plain rfl rfl ?_
              unfold Oper.wp
              go_simp
              exact ⟨_, rfl, Below.refl _ _, CL _ (Below.refl _ _), rfl⟩
            | 3, _, ho =>
              cases ho
              obtain ⟨x1, hx1⟩ : ∃ x, ac.tmps.getD 96 undef = x := ⟨_, rfl⟩
              have d1 := hL.new 1 _ 96 rfl (he ⟨1, .data⟩ (by simp) rfl) rfl
              rw [hx1] at d1
              have d2 : ac.tmps.getD 97 undef = .agg #[.int .i64 (X + Iq), .int .i64 (Y + Jq)] := hL.new 2 _ 97 rfl (he ⟨2, .data⟩ (by simp) rfl) rfl
              have x := HBD.out W x1 d1
              refine wpOp_plain rfl rfl ?_
              unfold Oper.wp
              go_simp
              refine x.mono ?_
              rintro e w' ⟨rfl, hBn⟩
              exact ⟨_, rfl, hBn, CL _ hBn, rfl⟩
            | 4, _, ho =>
              cases ho
              have d3 : ac.tmps.getD 98 undef = .tuple #[.int .i64 A, .bool o, .int .i64 0] := hL.new 3 _ 98 rfl (he ⟨3, .data⟩ (by simp) rfl) rfl
              refine wpOp_plain rfl rfl ?_
              unfold Oper.wp
              go_simp
              exact ⟨_, rfl, Below.refl _ _, CL _ (Below.refl _ _), rfl⟩
            | 5, _, ho =>
              cases ho
              have d4 : ac.tmps.getD 94 undef = .tuple #[.int .i64 A, .bool o, .int .i64 0] := hL.new 4 _ 94 rfl (he ⟨4, .data⟩ (by simp) rfl) rfl
              refine wpOp_plain rfl rfl ?_
              unfold Oper.wp
              go_simp
              exact ⟨_, rfl, Below.refl _ _, CL _ (Below.refl _ _), rfl⟩
            | 6, _, ho =>
              cases ho
              have d4 : ac.tmps.getD 94 undef = .tuple #[.int .i64 A, .bool o, .int .i64 0] := hL.new 4 _ 94 rfl (he ⟨4, .data⟩ (by simp) rfl) rfl
              refine wpOp_plain rfl rfl ?_
              unfold Oper.wp
              go_simp
              exact ⟨_, rfl, Below.refl _ _, CL _ (Below.refl _ _), rfl⟩
            | 7, _, ho =>
              cases ho
              have d4 : ac.tmps.getD 94 undef = .tuple #[.int .i64 A, .bool o, .int .i64 0] := hL.new 4 _ 94 rfl (he ⟨4, .data⟩ (by simp) rfl) rfl
              refine wpOp_plain rfl rfl ?_
              unfold Oper.wp
              go_simp
              exact ⟨_, rfl, Below.refl _ _, CL _ (Below.refl _ _), rfl⟩
            | 8, _, ho =>
              cases ho
              have d5 : ac.tmps.getD 99 undef = .int .i64 A := hL.new 5 _ 99 rfl (he ⟨5, .data⟩ (by simp) rfl) rfl
              refine wpOp_plain rfl rfl ?_
              unfold Oper.wp
              go_simp
              exact ⟨_, rfl, Below.refl _ _, CL _ (Below.refl _ _), rfl⟩
            | 9, _, ho =>
              cases ho
              have d6 : ac.tmps.getD 100 undef = .bool o := hL.new 6 _ 100 rfl (he ⟨6, .data⟩ (by simp) rfl) rfl
              refine wpOp_plain rfl rfl ?_
              unfold Oper.wp
              go_simp
              exact ⟨_, rfl, Below.refl _ _, CL _ (Below.refl _ _), rfl⟩
            | 10, _, ho =>
              cases ho
              have d7 : ac.tmps.getD 101 undef = .int .i64 0 := hL.new 7 _ 101 rfl (he ⟨7, .data⟩ (by simp) rfl) rfl
              refine wpOp_plain rfl rfl ?_
              unfold Oper.wp
              go_simp
              exact ⟨_, rfl, Below.refl _ _, CL _ (Below.refl _ _), rfl⟩
            | n + 11, hA, _ => simp at hA
          case rest6 =>
            intro ac U6 hL
            have e95 : ac.tmps.getD 95 undef = .agg #[.int .i64 B.eye, .int .i64 B.bull, .slice p1 B.rings.length q1, .slice p2 B.lines.length q2, .slice p3 B.nums.length q3, .int .i64 B.wire] := hL.new 0 _ 95 rfl rfl rfl
            obtain ⟨y96, e96⟩ : ∃ x, ac.tmps.getD 96 undef = x := ⟨_, rfl⟩
            have e97 : ac.tmps.getD 97 undef = .agg #[.int .i64 (X + Iq), .int .i64 (Y + Jq)] := hL.new 2 _ 97 rfl rfl rfl
            have e98 : ac.tmps.getD 98 undef = .tuple #[.int .i64 A, .bool o, .int .i64 0] := hL.new 3 _ 98 rfl rfl rfl
            have e94 : ac.tmps.getD 94 undef = .tuple #[.int .i64 A, .bool o, .int .i64 0] := hL.new 4 _ 94 rfl rfl rfl
            have e99 : ac.tmps.getD 99 undef = .int .i64 A := hL.new 5 _ 99 rfl rfl rfl
            have e100 : ac.tmps.getD 100 undef = .bool o := hL.new 6 _ 100 rfl rfl rfl
            have e101 : ac.tmps.getD 101 undef = .int .i64 0 := hL.new 7 _ 101 rfl rfl rfl
            have e13 : ac.tmps.getD 13 undef = .int .i64 A := hL.new 8 _ 13 rfl rfl rfl
            have e14 : ac.tmps.getD 14 undef = .bool o := hL.new 9 _ 14 rfl rfl rfl
            have e15 : ac.tmps.getD 15 undef = .int .i64 0 := hL.new 10 _ 15 rfl rfl rfl
            have es := hL.sets [95, 96, 97, 98, 94, 99, 100, 101, 13, 14, 15] (by decide +kernel)
            rw [List.foldl_cons, List.foldl_cons, List.foldl_cons, List.foldl_cons, List.foldl_cons, List.foldl_cons, List.foldl_cons, List.foldl_cons, List.foldl_cons, List.foldl_cons, List.foldl_cons, List.foldl_nil, e95, e96, e97, e98, e94, e99, e100, e101, e13, e14, e15] at es
            have BN : Below UQ.heap.size UQ U6 := hL.cls
            rw [es]
            clear es hL e95 e96 e97 e98 e94 e99 e100 e101 e13 e14 e15
            refine wpAny_done (by decide +kernel) ?_ _
            simp only [List.setIfInBounds_toArray, List.set_cons_zero, List.set_cons_succ]
            replace HB : Aside (BrdAt U6 (.agg #[.int .i64 B.eye, .int .i64 B.bull, .slice p1 B.rings.length q1, .slice p2 B.lines.length q2, .slice p3 B.nums.length q3, .int .i64 B.wire]) B) := HB.out.below BN
            replace Hvl : Aside (Sl U6 1 eI (.slice a_vl L0.length c_vl) L0) := Hvl.out.below BN
            replace c0 := keepc BN c0
            replace c1 := keepc BN c1
            replace c2 := keepc BN c2
            replace c3 := keepc BN c3
            replace c4 := keepc BN c4
            replace c5 := keepc BN c5
            replace c6 := keepc BN c6
            replace c7 := keepc BN c7
            replace c8 := keepc BN c8
            replace c9 := keepc BN c9
            replace c10 := keepc BN c10
            replace c11 := keepc BN c11
            replace d0 := keepc BN d0
            replace d1 := keepc BN d1
            replace d2 := keepc BN d2
            replace d3 := keepc BN d3
            replace qa0 := keepc BN qa0
            replace qa1 := keepc BN qa1
            replace BWU : Aside (Below w.heap.size w U6) := BWU.out.trans (BN.mono BWU.out.size)
            clear BN
            have HCV : Aside (∀ k x, L0[k]? = some x → ∃ b off, a_vl = some ⟨b, off, none⟩ ∧ ∀ W, Below U6.heap.size U6 W → W.cell? ⟨b, off + k, none⟩ = some (.int .i64 x)) := by
              intro k x hx
              obtain ⟨a', c', e, _, hs⟩ := Hvl.out
              cases e
              obtain ⟨b, off, ha, _, hc⟩ := hs (by intro e; rw [e] at hx; simp at hx)
              exact ⟨b, off, ha, fun W hW => keepc hW (by have := hc k x hx 0 _ rfl; simpa using this)⟩
            obtain ⟨n0, hn0⟩ : ∃ n0, L0.length = n0 := ⟨_, rfl⟩
            have HN0 : Aside (L0.length = n0) := hn0
            have hn0b : n0 ≤ 500 := by rw [← hn0, ← HL0.out]; exact bedsOf_len _
            rw [hn0] at Hvl ⊢
            clear hn0
            go_wp2_with fail
            go_loopg [16, 17] n0 (fun gg s16 iv wr => ∃ k : Nat, k ≤ n0 ∧ n0 - k ≤ gg ∧ iv = .int .i64 k ∧ s16 = .bool ((L0.take k).contains A) ∧ U6 = wr)
            case atStart => exact ⟨0, by omega, by omega, rfl, rfl, rfl⟩
            case round =>
              obtain ⟨k, hk, hg, rfl, rfl, rfl⟩ := hrel
              by_cases hlt : k < n0
              · have hltz : (k : Int) < (n0 : Int) := by omega
                obtain ⟨x, hx⟩ : ∃ x, L0[k]? = some x := ⟨_, List.getElem?_eq_getElem (by rw [HN0.out]; exact hlt)⟩
                obtain ⟨b, off, rfl, kx'⟩ := HCV.out k x hx
                have kx := kx' _ (Below.refl _ _)
                obtain ⟨bb, hbb⟩ : ∃ bb, (L0.take k).contains A = bb := ⟨_, rfl⟩
                have HT : Aside ((L0.take (k + 1)).contains A = (bb || (x == A))) := by
                  show _ = _
                  obtain ⟨hk', e⟩ := List.getElem?_eq_some_iff.1 hx
                  rw [List.take_succ_eq_append_getElem hk', e, ← hbb]
                  rw [Bool.eq_iff_iff]
                  simp only [List.contains_eq_mem, List.mem_append, List.mem_singleton, decide_eq_true_eq, Bool.or_eq_true, beq_iff_eq]
                  constructor
                  · rintro (h | h)
                    · exact .inl h
                    · exact .inr h.symm
                  · rintro (h | h)
                    · exact .inl h
                    · exact .inr h.symm
                rw [hbb]
                clear hbb hx kx'
                cases bb with
                | true =>
                  go_wp2_with fail
                  go_roundg (n0 - (k + 1))
                  case measure => omega
                  case rel => exact ⟨k + 1, by omega, by omega, by go_num, by rw [HT.out]; rfl, rfl⟩
                | false =>
                  by_cases hxa : x = A
                  · have hxb : (x == A) = true := by simp [hxa]
                    clear hxa
                    go_wp2_with fail
                    go_roundg (n0 - (k + 1))
                    case measure => omega
                    case rel => exact ⟨k + 1, by omega, by omega, by go_num, by rw [HT.out, hxb]; rfl, rfl⟩
                  · have hxb : (x == A) = false := by simp [hxa]
                    clear hxa
                    go_wp2_with fail
                    go_roundg (n0 - (k + 1))
                    case measure => omega
                    case rel => exact ⟨k + 1, by omega, by omega, by go_num, by rw [HT.out, hxb]; rfl, rfl⟩
              · have hke : n0 = k := by omega
                subst hke
                have hltz : ¬ (n0 : Int) < (n0 : Int) := by omega
                have hin : (L0.take n0).contains A = true := by
                  rw [← HN0.out, List.take_length]
                  simp only [List.contains_eq_mem, decide_eq_true_eq]
                  exact HIN.out
                rw [hin]
                clear hin
                by_cases hS0 : S = 0
                · have hxs : (X == X + (S : Int)) = true := by simp [hS0]
                  have y7 := known_any
                  clear hS0
                  go_wp2_with (go_at_call 14; (with_reducible refine (y7 _).mono ?_); rintro e w6 ⟨rfl, hb6⟩)
                  go_ret
                  exact ⟨rfl, BWU.out.trans (hb6.mono BWU.out.size)⟩
                · have hxs : (X == X + (S : Int)) = false := by rw [beq_eq_false_iff_ne]; omega
                  go_upto_region 16 with (fail)
                  refine region_laidK (fun _ _ => True) (fl := 10) [true, true, true, true, true, true] 0 (fun (i : Nat) (x : Value) (ww : World) => (match i with | 0 => x = .agg #[.int .i64 X, .int .i64 (X + ↑S), .int .i64 Y, .int .i64 (Y + ↑T)] | 1 => x = .agg #[.int .i64 X, .int .i64 (X + ↑S), .int .i64 Y, .int .i64 (Y + ↑T)] | 2 => True | 3 => True | 4 => True | 5 => True | _ => True : Prop)) (Cl U6 [(⟨2, 4, 18, .cells #[.int .i64 0, .int .i64 0, .int .i64 0, .int .i64 0] 53 (0, 0), .cells #[.int .i64 X, .int .i64 (X + ↑S), .int .i64 Y, .int .i64 (Y + ↑T)] 53 (0, 0)⟩ : AS), (⟨3, 5, 19, .cells #[.int .i64 0, .int .i64 0, .int .i64 0, .int .i64 0] 53 (0, 0), .cells #[.int .i64 X, .int .i64 (X + ↑S), .int .i64 Y, .int .i64 (Y + ↑T)] 53 (0, 0)⟩ : AS)]) (by kernel_rfl) rfl (by show layableK _ 250 _ 10 = true; decide +kernel) rfl (Cl.start _ _ _ _) ?mono16 ?step16 ?rest16
                  case mono16 =>
                    intro i x ww ww' hB h
                    match i, h with
                    | 0, h => exact h
                    | 1, h => exact h
                    | 2, h => exact h
                    | 3, h => exact h
                    | 4, h => exact h
                    | 5, h => exact h
                    | n + 6, h => exact h
                  case step16 =>
                    intro i o_ listed ac W hA ho hL he hcl hli hsz
                    have hk9 : ac.tmps.getD 9 undef = .pointer (some ⟨g9, 0, none⟩) := hL.kept 9 (by decide +kernel)
                    have CL : ∀ W', Below W.heap.size W W' → Below U6.heap.size U6 W' := fun W' h => hL.cls.1.trans (h.mono hL.cls.1.size)
                    have k_d0 := keepc hL.cls.1 d0
                    have k_d1 := keepc hL.cls.1 d1
                    have k_d2 := keepc hL.cls.1 d2
                    have k_d3 := keepc hL.cls.1 d3
                    match i, hA, ho with
                    | 0, _, ho =>
                      cases ho
                      refine wpOp_plain rfl rfl ?_
                      unfold Oper.wp
                      go_simp
                      exact Cl.other hL.cls rfl (Below.refl _ _)
                    | 1, _, ho =>
                      cases ho
                      refine wpOp_plain rfl rfl ?_
                      unfold Oper.wp
                      go_simp
                      exact Cl.other hL.cls rfl (Below.refl _ _)
                    | 2, _, ho =>
                      cases ho
                      have hq : listed.getD 4 false = false := by
                        cases hx : listed.getD 4 false with
                        | false => rfl
                        | true =>
                          have h8 := hcl 4 _ rfl hx ⟨2, .data⟩ (by simp) rfl
                          simp only [Array.getD_eq_getD_getElem?] at h8 hli
                          rw [Array.getElem?_eq_getElem (show 2 < listed.size by rw [hsz]; decide)] at h8 hli
                          rw [Option.getD_some] at h8 hli
                          rw [h8] at hli; cases hli
                      refine wpOp_plain rfl rfl ?_
                      unfold Oper.wp
                      go_simp
                      exact ⟨_, rfl, Cl.alloc (⟨2, 4, 18, .cells #[.int .i64 0, .int .i64 0, .int .i64 0, .int .i64 0] 53 (0, 0), .cells #[.int .i64 X, .int .i64 (X + ↑S), .int .i64 Y, .int .i64 (Y + ↑T)] 53 (0, 0)⟩ : AS) hL.cls (by simp) (by rw [hL.size]; exact (by decide : (18 : Nat) < 250)) hq (by simp) (by intro e' he hne; simp at he; rcases he with rfl | rfl <;> first | exact absurd rfl hne | simp)⟩
                    | 3, _, ho =>
                      cases ho
                      have hq : listed.getD 5 false = false := by
                        cases hx : listed.getD 5 false with
                        | false => rfl
                        | true =>
                          have h8 := hcl 5 _ rfl hx ⟨3, .data⟩ (by simp) rfl
                          simp only [Array.getD_eq_getD_getElem?] at h8 hli
                          rw [Array.getElem?_eq_getElem (show 3 < listed.size by rw [hsz]; decide)] at h8 hli
                          rw [Option.getD_some] at h8 hli
                          rw [h8] at hli; cases hli
                      refine wpOp_plain rfl rfl ?_
                      unfold Oper.wp
                      go_simp
                      exact ⟨_, rfl, Cl.alloc (⟨3, 5, 19, .cells #[.int .i64 0, .int .i64 0, .int .i64 0, .int .i64 0] 53 (0, 0), .cells #[.int .i64 X, .int .i64 (X + ↑S), .int .i64 Y, .int .i64 (Y + ↑T)] 53 (0, 0)⟩ : AS) hL.cls (by simp) (by rw [hL.size]; exact (by decide : (19 : Nat) < 250)) hq (by simp) (by intro e' he hne; simp at he; rcases he with rfl | rfl <;> first | exact absurd rfl hne | simp)⟩
                    | 4, _, ho =>
                      cases ho
                      have d0 : ac.tmps.getD 134 undef = .agg #[.int .i64 X, .int .i64 (X + ↑S), .int .i64 Y, .int .i64 (Y + ↑T)] := hL.new 0 _ 134 rfl (he ⟨0, .data⟩ (by simp) rfl) rfl
                      have hpp : listed.getD 2 false = true := he ⟨2, .data⟩ (by simp) rfl
                      obtain ⟨g, g1, g2, g3, g4⟩ := hL.cls.2.1 (⟨2, 4, 18, .cells #[.int .i64 0, .int .i64 0, .int .i64 0, .int .i64 0] 53 (0, 0), .cells #[.int .i64 X, .int .i64 (X + ↑S), .int .i64 Y, .int .i64 (Y + ↑T)] 53 (0, 0)⟩ : AS) (by simp) hpp
                      have hq : listed.getD 4 false = false := by
                        simp only [Array.getD_eq_getD_getElem?] at hli ⊢
                        rw [Array.getElem?_eq_getElem (show 4 < listed.size by rw [hsz]; decide)] at hli ⊢
                        simpa using hli
                      simp only [] at g1 g4
                      rw [if_neg (by rw [hq]; simp)] at g4
                      have HPU : Aside _ := Cl.store (⟨2, 4, 18, .cells #[.int .i64 0, .int .i64 0, .int .i64 0, .int .i64 0] 53 (0, 0), .cells #[.int .i64 X, .int .i64 (X + ↑S), .int .i64 Y, .int .i64 (Y + ↑T)] 53 (0, 0)⟩ : AS) hL.cls (by simp) hpp (by rw [hsz]; exact (by decide : (4 : Nat) < 6)) g1 (put4 g4) (by simp) (by intro e' he hne; simp at he; rcases he with rfl | rfl <;> first | exact absurd rfl hne | simp)
                      have zc0 : W.cell? ⟨g, 0, none⟩ = some (.int .i64 0) := by rw [cell_of_row W g 0 _ _ _ g4]; rfl
                      have zc1 : W.cell? ⟨g, 1, none⟩ = some (.int .i64 0) := by rw [cell_of_row W g 1 _ _ _ g4]; rfl
                      have zc2 : W.cell? ⟨g, 2, none⟩ = some (.int .i64 0) := by rw [cell_of_row W g 2 _ _ _ g4]; rfl
                      have zc3 : W.cell? ⟨g, 3, none⟩ = some (.int .i64 0) := by rw [cell_of_row W g 3 _ _ _ g4]; rfl
                      have zf : ∀ i, W.frozen? ⟨g, i, none⟩ = false := by intro i; simp [World.frozen?, g4]
                      clear g4 k_d0 k_d1 k_d2 k_d3
                      refine wpOp_plain rfl rfl ?_
                      unfold Oper.wp
                      go_simp
                      exact HPU.out
                    | 5, _, ho =>
                      cases ho
                      have d1 : ac.tmps.getD 135 undef = .agg #[.int .i64 X, .int .i64 (X + ↑S), .int .i64 Y, .int .i64 (Y + ↑T)] := hL.new 1 _ 135 rfl (he ⟨1, .data⟩ (by simp) rfl) rfl
                      have hpp : listed.getD 3 false = true := he ⟨3, .data⟩ (by simp) rfl
                      obtain ⟨g, g1, g2, g3, g4⟩ := hL.cls.2.1 (⟨3, 5, 19, .cells #[.int .i64 0, .int .i64 0, .int .i64 0, .int .i64 0] 53 (0, 0), .cells #[.int .i64 X, .int .i64 (X + ↑S), .int .i64 Y, .int .i64 (Y + ↑T)] 53 (0, 0)⟩ : AS) (by simp) hpp
                      have hq : listed.getD 5 false = false := by
                        simp only [Array.getD_eq_getD_getElem?] at hli ⊢
                        rw [Array.getElem?_eq_getElem (show 5 < listed.size by rw [hsz]; decide)] at hli ⊢
                        simpa using hli
                      simp only [] at g1 g4
                      rw [if_neg (by rw [hq]; simp)] at g4
                      have HPU : Aside _ := Cl.store (⟨3, 5, 19, .cells #[.int .i64 0, .int .i64 0, .int .i64 0, .int .i64 0] 53 (0, 0), .cells #[.int .i64 X, .int .i64 (X + ↑S), .int .i64 Y, .int .i64 (Y + ↑T)] 53 (0, 0)⟩ : AS) hL.cls (by simp) hpp (by rw [hsz]; exact (by decide : (5 : Nat) < 6)) g1 (put4 g4) (by simp) (by intro e' he hne; simp at he; rcases he with rfl | rfl <;> first | exact absurd rfl hne | simp)
                      have zc0 : W.cell? ⟨g, 0, none⟩ = some (.int .i64 0) := by rw [cell_of_row W g 0 _ _ _ g4]; rfl
                      have zc1 : W.cell? ⟨g, 1, none⟩ = some (.int .i64 0) := by rw [cell_of_row W g 1 _ _ _ g4]; rfl
                      have zc2 : W.cell? ⟨g, 2, none⟩ = some (.int .i64 0) := by rw [cell_of_row W g 2 _ _ _ g4]; rfl
                      have zc3 : W.cell? ⟨g, 3, none⟩ = some (.int .i64 0) := by rw [cell_of_row W g 3 _ _ _ g4]; rfl
                      have zf : ∀ i, W.frozen? ⟨g, i, none⟩ = false := by intro i; simp [World.frozen?, g4]
                      clear g4 k_d0 k_d1 k_d2 k_d3
                      refine wpOp_plain rfl rfl ?_
                      unfold Oper.wp
                      go_simp
                      exact HPU.out
                    | n + 6, hA, _ => simp at hA
                  case rest16 =>
                    intro ac U16 hL
                    have e134 : ac.tmps.getD 134 undef = .agg #[.int .i64 X, .int .i64 (X + ↑S), .int .i64 Y, .int .i64 (Y + ↑T)] := hL.new 0 _ 134 rfl rfl rfl
                    have e135 : ac.tmps.getD 135 undef = .agg #[.int .i64 X, .int .i64 (X + ↑S), .int .i64 Y, .int .i64 (Y + ↑T)] := hL.new 1 _ 135 rfl rfl rfl
                    obtain ⟨g18, e18, n18, l18, z18'⟩ := hL.cls.2.1 (⟨2, 4, 18, .cells #[.int .i64 0, .int .i64 0, .int .i64 0, .int .i64 0] 53 (0, 0), .cells #[.int .i64 X, .int .i64 (X + ↑S), .int .i64 Y, .int .i64 (Y + ↑T)] 53 (0, 0)⟩ : AS) (by simp) rfl
                    simp only [] at e18
                    change U16.heap[g18]? = some (.cells #[.int .i64 X, .int .i64 (X + ↑S), .int .i64 Y, .int .i64 (Y + ↑T)] 53 (0, 0)) at z18'
                    obtain ⟨g19, e19, n19, l19, z19'⟩ := hL.cls.2.1 (⟨3, 5, 19, .cells #[.int .i64 0, .int .i64 0, .int .i64 0, .int .i64 0] 53 (0, 0), .cells #[.int .i64 X, .int .i64 (X + ↑S), .int .i64 Y, .int .i64 (Y + ↑T)] 53 (0, 0)⟩ : AS) (by simp) rfl
                    simp only [] at e19
                    change U16.heap[g19]? = some (.cells #[.int .i64 X, .int .i64 (X + ↑S), .int .i64 Y, .int .i64 (Y + ↑T)] 53 (0, 0)) at z19'
                    have HCL : Aside (Cl U6 [(⟨2, 4, 18, .cells #[.int .i64 0, .int .i64 0, .int .i64 0, .int .i64 0] 53 (0, 0), .cells #[.int .i64 X, .int .i64 (X + ↑S), .int .i64 Y, .int .i64 (Y + ↑T)] 53 (0, 0)⟩ : AS), (⟨3, 5, 19, .cells #[.int .i64 0, .int .i64 0, .int .i64 0, .int .i64 0] 53 (0, 0), .cells #[.int .i64 X, .int .i64 (X + ↑S), .int .i64 Y, .int .i64 (Y + ↑T)] 53 (0, 0)⟩ : AS)] _ ac U16) := hL.cls
                    have hdd : g18 ≠ g19 := by
                      intro e
                      have h1 := hL.cls.2.2 (⟨2, 4, 18, .cells #[.int .i64 0, .int .i64 0, .int .i64 0, .int .i64 0] 53 (0, 0), .cells #[.int .i64 X, .int .i64 (X + ↑S), .int .i64 Y, .int .i64 (Y + ↑T)] 53 (0, 0)⟩ : AS) (by simp) (⟨3, 5, 19, .cells #[.int .i64 0, .int .i64 0, .int .i64 0, .int .i64 0] 53 (0, 0), .cells #[.int .i64 X, .int .i64 (X + ↑S), .int .i64 Y, .int .i64 (Y + ↑T)] 53 (0, 0)⟩ : AS) (by simp) (by simp) rfl rfl
                      simp only [] at h1
                      rw [e18, e19, e] at h1
                      exact h1 rfl
                    have es := hL.sets [134, 135, 18, 19] (by decide +kernel)
                    rw [List.foldl_cons, List.foldl_cons, List.foldl_cons, List.foldl_cons, List.foldl_nil, e134, e135, e18, e19] at es
                    have BN : Below U6.heap.size U6 U16 := hL.cls.1
                    rw [es]
                    clear es hL e134 e135 e18 e19
                    refine wpAny_done (by decide +kernel) ?_ _
                    simp only [List.setIfInBounds_toArray, List.set_cons_zero, List.set_cons_succ]
                    have b180 : U16.cell? ⟨g18, 0, none⟩ = some (.int .i64 X) := by rw [cell_of_row U16 g18 0 _ _ _ z18']; rfl
                    have b181 : U16.cell? ⟨g18, 1, none⟩ = some (.int .i64 (X + ↑S)) := by rw [cell_of_row U16 g18 1 _ _ _ z18']; rfl
                    have b182 : U16.cell? ⟨g18, 2, none⟩ = some (.int .i64 Y) := by rw [cell_of_row U16 g18 2 _ _ _ z18']; rfl
                    have b183 : U16.cell? ⟨g18, 3, none⟩ = some (.int .i64 (Y + ↑T)) := by rw [cell_of_row U16 g18 3 _ _ _ z18']; rfl
                    have bf18 : ∀ i, U16.frozen? ⟨g18, i, none⟩ = false := by intro i; simp [World.frozen?, z18']
                    have b190 : U16.cell? ⟨g19, 0, none⟩ = some (.int .i64 X) := by rw [cell_of_row U16 g19 0 _ _ _ z19']; rfl
                    have b191 : U16.cell? ⟨g19, 1, none⟩ = some (.int .i64 (X + ↑S)) := by rw [cell_of_row U16 g19 1 _ _ _ z19']; rfl
                    have b192 : U16.cell? ⟨g19, 2, none⟩ = some (.int .i64 Y) := by rw [cell_of_row U16 g19 2 _ _ _ z19']; rfl
                    have b193 : U16.cell? ⟨g19, 3, none⟩ = some (.int .i64 (Y + ↑T)) := by rw [cell_of_row U16 g19 3 _ _ _ z19']; rfl
                    have bf19 : ∀ i, U16.frozen? ⟨g19, i, none⟩ = false := by intro i; simp [World.frozen?, z19']
                    have hd1 : ¬ g18 = g19 := hdd
                    have hd2 : ¬ g19 = g18 := fun e => hdd e.symm
                    clear hdd HCL z18' z19' l18 l19
                    have dd0 := keepc BN d0
                    have dd1 := keepc BN d1
                    have BN16 : Aside (Below U6.heap.size U6 U16) := BN
                    clear BN
                    obtain ⟨h, hh⟩ : ∃ h, S / 2 = h := ⟨_, rfl⟩
                    go_upto_region 19 with (fail)
                    have hM : (X + (X + (S : Int))) / 2 = X + (h : Int) := by omega
                    rw [hM]
                    clear hM
                    obtain ⟨U18, hU18⟩ : ∃ U18, U18 = (U16.setCell ⟨g18, 1, none⟩ (.int .i64 (X + (h : Int)))).setCell ⟨g19, 0, none⟩ (.int .i64 (X + (h : Int) + 1)) := ⟨_, rfl⟩
                    have m180 : U18.cell? ⟨g18, 0, none⟩ = some (.int .i64 X) := by rw [hU18]; clear hU18; (first | (go_simp; done) | (go_simp; refine World.cell?_setCell_same' _ _ _ ?_; (repeat (with_reducible refine some_set ?_)); go_simp))
                    have m181 : U18.cell? ⟨g18, 1, none⟩ = some (.int .i64 (X + (h : Int))) := by rw [hU18]; clear hU18; (first | (go_simp; done) | (go_simp; refine World.cell?_setCell_same' _ _ _ ?_; (repeat (with_reducible refine some_set ?_)); go_simp))
                    have m182 : U18.cell? ⟨g18, 2, none⟩ = some (.int .i64 Y) := by rw [hU18]; clear hU18; (first | (go_simp; done) | (go_simp; refine World.cell?_setCell_same' _ _ _ ?_; (repeat (with_reducible refine some_set ?_)); go_simp))
                    have m183 : U18.cell? ⟨g18, 3, none⟩ = some (.int .i64 (Y + ↑T)) := by rw [hU18]; clear hU18; (first | (go_simp; done) | (go_simp; refine World.cell?_setCell_same' _ _ _ ?_; (repeat (with_reducible refine some_set ?_)); go_simp))
                    have m190 : U18.cell? ⟨g19, 0, none⟩ = some (.int .i64 (X + (h : Int) + 1)) := by rw [hU18]; clear hU18; (first | (go_simp; done) | (go_simp; refine World.cell?_setCell_same' _ _ _ ?_; (repeat (with_reducible refine some_set ?_)); go_simp))
                    have m191 : U18.cell? ⟨g19, 1, none⟩ = some (.int .i64 (X + ↑S)) := by rw [hU18]; clear hU18; (first | (go_simp; done) | (go_simp; refine World.cell?_setCell_same' _ _ _ ?_; (repeat (with_reducible refine some_set ?_)); go_simp))
                    have m192 : U18.cell? ⟨g19, 2, none⟩ = some (.int .i64 Y) := by rw [hU18]; clear hU18; (first | (go_simp; done) | (go_simp; refine World.cell?_setCell_same' _ _ _ ?_; (repeat (with_reducible refine some_set ?_)); go_simp))
                    have m193 : U18.cell? ⟨g19, 3, none⟩ = some (.int .i64 (Y + ↑T)) := by rw [hU18]; clear hU18; (first | (go_simp; done) | (go_simp; refine World.cell?_setCell_same' _ _ _ ?_; (repeat (with_reducible refine some_set ?_)); go_simp))
                    have BN : Below U6.heap.size U6 U18 := by rw [hU18]; exact (BN16.out.setCell (p := ⟨g18, 1, none⟩) n18 _).setCell (p := ⟨g19, 0, none⟩) n19 _
                    rw [← hU18]
                    clear hU18 BN16 n18 n19 hd1 hd2 dd0 dd1 b180 b181 b182 b183 b190 b191 b192 b193 bf18 bf19
                    replace HB : Aside (BrdAt U18 (.agg #[.int .i64 B.eye, .int .i64 B.bull, .slice p1 B.rings.length q1, .slice p2 B.lines.length q2, .slice p3 B.nums.length q3, .int .i64 B.wire]) B) := HB.out.below BN
                    replace Hvl : Aside (Sl U18 1 eI (.slice a_vl n0 c_vl) L0) := Hvl.out.below BN
                    replace c0 := keepc BN c0
                    replace c1 := keepc BN c1
                    replace c2 := keepc BN c2
                    replace c3 := keepc BN c3
                    replace c4 := keepc BN c4
                    replace c5 := keepc BN c5
                    replace c6 := keepc BN c6
                    replace c7 := keepc BN c7
                    replace c8 := keepc BN c8
                    replace c9 := keepc BN c9
                    replace c10 := keepc BN c10
                    replace c11 := keepc BN c11
                    replace d0 := keepc BN d0
                    replace d1 := keepc BN d1
                    replace d2 := keepc BN d2
                    replace d3 := keepc BN d3
                    replace qa0 := keepc BN qa0
                    replace qa1 := keepc BN qa1
                    replace BWU : Aside (Below w.heap.size w U18) := BWU.out.trans (BN.mono BWU.out.size)
                    clear BN
                    clear c6 c7 c8 c9 c10 c11 d0 d1 d2 d3 qa0 qa1
                    obtain ⟨LA, hLA⟩ : ∃ LA, bedsOf (valsOf B X Y T1 ((h + 1) * T1)) = LA := ⟨_, rfl⟩
                    obtain ⟨LC, hLC⟩ : ∃ LC, bedsOf (valsOf B (X + ((h + 1 : Nat) : Int)) Y T1 ((S - h) * T1)) = LC := ⟨_, rfl⟩
                    have HB1 : Aside (∀ (W : World) (v : Value), BrdAt W v B → Calls Try.prog 15 #[v, .agg #[.int .i64 X, .int .i64 (X + (h : Int)), .int .i64 Y, .int .i64 (Y + ↑T)]] W (BedsOk LA W)) := by
                      intro W v h'
                      have x := HBS.out W v X (h + 1) (by omega) (by omega) (by omega) (by omega) h'
                      rw [hLA] at x
                      rwa [show X + ((h + 1 : Nat) : Int) - 1 = X + (h : Int) by omega] at x
                    have HB2 : Aside (∀ (W : World) (v : Value), BrdAt W v B → Calls Try.prog 15 #[v, .agg #[.int .i64 (X + (h : Int) + 1), .int .i64 (X + ↑S), .int .i64 Y, .int .i64 (Y + ↑T)]] W (BedsOk LC W)) := by
                      intro W v h'
                      have x := HBS.out W v (X + ((h + 1 : Nat) : Int)) (S - h) (by omega) (by omega) (by omega) (by omega) h'
                      rw [hLC] at x
                      rwa [show X + ((h + 1 : Nat) : Int) + ((S - h : Nat) : Int) - 1 = X + (S : Int) by omega, show X + ((h + 1 : Nat) : Int) = X + (h : Int) + 1 by omega] at x
                    have HBD2 : Aside ((∀ x ∈ LA, 0 ≤ x ∧ x < 500) ∧ ∀ x ∈ LC, 0 ≤ x ∧ x < 500) := by
                      refine ⟨fun x hx => ?_, fun x hx => ?_⟩
                      · rw [← hLA, mem_bedsOf (valsOf_bd HCB.out _ _ _ _)] at hx
                        exact valsOf_bd HCB.out _ _ _ _ x hx
                      · rw [← hLC, mem_bedsOf (valsOf_bd HCB.out _ _ _ _)] at hx
                        exact valsOf_bd HCB.out _ _ _ _ x hx
                    have HMEM : Aside (∀ x, x ∈ L0 ↔ (x ∈ LA ∨ x ∈ LC)) := by
                      intro x
                      have hv := valsOf_bd HCB.out
                      rw [← HL0.out, ← hLA, ← hLC, mem_bedsOf (hv _ _ _ _), mem_bedsOf (hv _ _ _ _), mem_bedsOf (hv _ _ _ _), ← hS1, show S + 1 = (h + 1) + (S - h) by omega, mem_valsOf, mem_valsOf, mem_valsOf]
                      constructor
                      · rintro ⟨i, j, hi, hj, rfl⟩
                        by_cases hi2 : i < h + 1
                        · exact .inl ⟨i, j, hi2, hj, rfl⟩
                        · refine .inr ⟨i - (h + 1), j, by omega, hj, ?_⟩
                          rw [show X + ((h + 1 : Nat) : Int) + ((i - (h + 1) : Nat) : Int) = X + (i : Int) by omega]
                      · rintro (⟨i, j, hi, hj, rfl⟩ | ⟨i, j, hi, hj, rfl⟩)
                        · exact ⟨i, j, by omega, hj, rfl⟩
                        · refine ⟨h + 1 + i, j, by omega, hj, ?_⟩
                          rw [show X + ((h + 1 + i : Nat) : Int) = X + ((h + 1 : Nat) : Int) + (i : Int) by omega]
                    clear hLA hLC
                    go_upto_region 19 with (fail)
                    refine region_laid (fl := 10) [true, true, true, true, true, true, true, true, true] 0 (fun (i : Nat) (x : Value) (ww : World) => (match i with | 0 => x = .agg #[.int .i64 B.eye, .int .i64 B.bull, .slice p1 B.rings.length q1, .slice p2 B.lines.length q2, .slice p3 B.nums.length q3, .int .i64 B.wire] | 1 => BrdAt ww x B | 2 => x = .agg #[.int .i64 X, .int .i64 (X + (h : Int)), .int .i64 Y, .int .i64 (Y + ↑T)] | 3 => ∃ v, x = .tuple #[v, .int .i64 0] ∧ Sl ww 1 eI v LA | 4 => ∃ v, x = .tuple #[v, .int .i64 0] ∧ Sl ww 1 eI v LA | 5 => Sl ww 1 eI x LA | 6 => x = .int .i64 0 | 7 => Sl ww 1 eI x LA | 8 => x = .int .i64 0 | _ => True : Prop)) (fun w' => Below U18.heap.size U18 w') (by kernel_rfl) rfl (by show layable _ 250 _ 10 = true; decide +kernel) rfl ((Below.refl _ _).drew) ?mono19 ?step19 ?rest19
                    case mono19 =>
                      intro i x ww ww' hB h
                      match i, h with
                      | 0, h => exact h
                      | 1, h => exact BrdAt.below h hB
                      | 2, h => exact h
                      | 3, h => exact (by obtain ⟨v, e, h⟩ := h; exact ⟨v, e, Sl.below h hB⟩)
                      | 4, h => exact (by obtain ⟨v, e, h⟩ := h; exact ⟨v, e, Sl.below h hB⟩)
                      | 5, h => exact Sl.below h hB
                      | 6, h => exact h
                      | 7, h => exact Sl.below h hB
                      | 8, h => exact h
                      | n + 9, h => exact h
                    case step19 =>
                      intro i o_ listed ac W hA ho hL he
                      have hk7 : ac.tmps.getD 7 undef = .pointer (some ⟨g7, 0, none⟩) := hL.kept 7 (by decide +kernel)
                      have hk18 : ac.tmps.getD 18 undef = .pointer (some ⟨g18, 0, none⟩) := hL.kept 18 (by decide +kernel)
                      have CL : ∀ W', Below W.heap.size W W' → Below U18.heap.size U18 W' := fun W' h => hL.cls.trans (h.mono hL.cls.size)
                      have k_c0 := keepc hL.cls c0
                      have k_c1 := keepc hL.cls c1
                      have k_c2 := keepc hL.cls c2
                      have k_c3 := keepc hL.cls c3
                      have k_c4 := keepc hL.cls c4
                      have k_c5 := keepc hL.cls c5
                      have k_m180 := keepc hL.cls m180
                      have k_m181 := keepc hL.cls m181
                      have k_m182 := keepc hL.cls m182
                      have k_m183 := keepc hL.cls m183
                      match i, hA, ho with
                      | 0, _, ho =>
                        cases ho
                        refine wpOp_plain rfl rfl ?_
                        unfold Oper.wp
                        go_simp
                        exact ⟨_, rfl, Below.refl _ _, CL _ (Below.refl _ _), rfl⟩
                      | 1, _, ho =>
                        cases ho
                        have d0 : ac.tmps.getD 153 undef = .agg #[.int .i64 B.eye, .int .i64 B.bull, .slice p1 B.rings.length q1, .slice p2 B.lines.length q2, .slice p3 B.nums.length q3, .int .i64 B.wire] := hL.new 0 _ 153 rfl (he ⟨0, .data⟩ (by simp) rfl) rfl
                        have x := HOWN.out W _ (HB.out.below hL.cls)
                        refine wpOp_plain rfl rfl ?_
                        unfold Oper.wp
                        go_simp
                        refine x.mono ?_
                        rintro e w' ⟨v', rfl, hbr, hBn⟩
                        exact ⟨_, rfl, hBn, CL _ hBn, hbr⟩
                      | 2, _, ho =>
                        cases ho
                        refine wpOp_plain rfl rfl ?_
                        unfold Oper.wp
                        go_simp
                        exact ⟨_, rfl, Below.refl _ _, CL _ (Below.refl _ _), rfl⟩
                      | 3, _, ho =>
                        cases ho
                        obtain ⟨x1, hx1⟩ : ∃ x, ac.tmps.getD 154 undef = x := ⟨_, rfl⟩
                        have d1 := hL.new 1 _ 154 rfl (he ⟨1, .data⟩ (by simp) rfl) rfl
                        rw [hx1] at d1
                        have d2 : ac.tmps.getD 155 undef = .agg #[.int .i64 X, .int .i64 (X + (h : Int)), .int .i64 Y, .int .i64 (Y + ↑T)] := hL.new 2 _ 155 rfl (he ⟨2, .data⟩ (by simp) rfl) rfl
                        have x := HB1.out W x1 d1
                        unfold BedsOk at x
                        refine wpOp_plain rfl rfl ?_
                        unfold Oper.wp
                        go_simp
                        refine x.mono ?_
                        rintro e w' ⟨v', rfl, hs, hBn⟩
                        exact ⟨_, rfl, hBn, CL _ hBn, ⟨_, rfl, hs⟩⟩
                      | 4, _, ho =>
                        cases ho
                        obtain ⟨x3, hx3⟩ : ∃ x, ac.tmps.getD 156 undef = x := ⟨_, rfl⟩
                        have d3 := hL.new 3 _ 156 rfl (he ⟨3, .data⟩ (by simp) rfl) rfl
                        rw [hx3] at d3
                        obtain ⟨v', rfl, hs⟩ := d3
                        refine wpOp_plain rfl rfl ?_
                        unfold Oper.wp
                        go_simp
                        exact ⟨_, rfl, Below.refl _ _, CL _ (Below.refl _ _), ⟨_, rfl, hs⟩⟩
                      | 5, _, ho =>
                        cases ho
                        obtain ⟨x4, hx4⟩ : ∃ x, ac.tmps.getD 152 undef = x := ⟨_, rfl⟩
                        have d4 := hL.new 4 _ 152 rfl (he ⟨4, .data⟩ (by simp) rfl) rfl
                        rw [hx4] at d4
                        obtain ⟨v', rfl, hs⟩ := d4
                        refine wpOp_plain rfl rfl ?_
                        unfold Oper.wp
                        go_simp
                        exact ⟨_, rfl, Below.refl _ _, CL _ (Below.refl _ _), hs⟩
                      | 6, _, ho =>
                        cases ho
                        obtain ⟨x4, hx4⟩ : ∃ x, ac.tmps.getD 152 undef = x := ⟨_, rfl⟩
                        have d4 := hL.new 4 _ 152 rfl (he ⟨4, .data⟩ (by simp) rfl) rfl
                        rw [hx4] at d4
                        obtain ⟨v', rfl, hs⟩ := d4
                        refine wpOp_plain rfl rfl ?_
                        unfold Oper.wp
                        go_simp
                        exact ⟨_, rfl, Below.refl _ _, CL _ (Below.refl _ _), rfl⟩
                      | 7, _, ho =>
                        cases ho
                        obtain ⟨x5, hx5⟩ : ∃ x, ac.tmps.getD 157 undef = x := ⟨_, rfl⟩
                        have d5 := hL.new 5 _ 157 rfl (he ⟨5, .data⟩ (by simp) rfl) rfl
                        rw [hx5] at d5
                        refine wpOp_plain rfl rfl ?_
                        unfold Oper.wp
                        go_simp
                        exact ⟨_, rfl, Below.refl _ _, CL _ (Below.refl _ _), d5⟩
                      | 8, _, ho =>
                        cases ho
                        have d6 : ac.tmps.getD 158 undef = .int .i64 0 := hL.new 6 _ 158 rfl (he ⟨6, .data⟩ (by simp) rfl) rfl
                        refine wpOp_plain rfl rfl ?_
                        unfold Oper.wp
                        go_simp
                        exact ⟨_, rfl, Below.refl _ _, CL _ (Below.refl _ _), rfl⟩
                      | n + 9, hA, _ => simp at hA
                    case rest19 =>
                      intro ac U19 hL
                      have e153 : ac.tmps.getD 153 undef = .agg #[.int .i64 B.eye, .int .i64 B.bull, .slice p1 B.rings.length q1, .slice p2 B.lines.length q2, .slice p3 B.nums.length q3, .int .i64 B.wire] := hL.new 0 _ 153 rfl rfl rfl
                      obtain ⟨y154, e154⟩ : ∃ x, ac.tmps.getD 154 undef = x := ⟨_, rfl⟩
                      have e155 : ac.tmps.getD 155 undef = .agg #[.int .i64 X, .int .i64 (X + (h : Int)), .int .i64 Y, .int .i64 (Y + ↑T)] := hL.new 2 _ 155 rfl rfl rfl
                      obtain ⟨y156, e156⟩ : ∃ x, ac.tmps.getD 156 undef = x := ⟨_, rfl⟩
                      obtain ⟨y152, e152⟩ : ∃ x, ac.tmps.getD 152 undef = x := ⟨_, rfl⟩
                      obtain ⟨y157, e157⟩ : ∃ x, ac.tmps.getD 157 undef = x := ⟨_, rfl⟩
                      have e158 : ac.tmps.getD 158 undef = .int .i64 0 := hL.new 6 _ 158 rfl rfl rfl
                      have hn20 := hL.new 7 _ 20 rfl rfl rfl
                      obtain ⟨va, e20⟩ : ∃ x, ac.tmps.getD 20 undef = x := ⟨_, rfl⟩
                      rw [e20] at hn20
                      have Hva : Aside (Sl U19 1 eI va LA) := hn20
                      clear hn20
                      have e21 : ac.tmps.getD 21 undef = .int .i64 0 := hL.new 8 _ 21 rfl rfl rfl
                      have es := hL.sets [153, 154, 155, 156, 152, 157, 158, 20, 21] (by decide +kernel)
                      rw [List.foldl_cons, List.foldl_cons, List.foldl_cons, List.foldl_cons, List.foldl_cons, List.foldl_cons, List.foldl_cons, List.foldl_cons, List.foldl_cons, List.foldl_nil, e153, e154, e155, e156, e152, e157, e158, e20, e21] at es
                      have BN : Below U18.heap.size U18 U19 := hL.cls
                      rw [es]
                      clear es hL e153 e154 e155 e156 e152 e157 e158 e20 e21
                      refine wpAny_done (by decide +kernel) ?_ _
                      simp only [List.setIfInBounds_toArray, List.set_cons_zero, List.set_cons_succ]
                      replace HB : Aside (BrdAt U19 (.agg #[.int .i64 B.eye, .int .i64 B.bull, .slice p1 B.rings.length q1, .slice p2 B.lines.length q2, .slice p3 B.nums.length q3, .int .i64 B.wire]) B) := HB.out.below BN
                      replace Hvl : Aside (Sl U19 1 eI (.slice a_vl n0 c_vl) L0) := Hvl.out.below BN
                      replace c0 := keepc BN c0
                      replace c1 := keepc BN c1
                      replace c2 := keepc BN c2
                      replace c3 := keepc BN c3
                      replace c4 := keepc BN c4
                      replace c5 := keepc BN c5
                      replace m180 := keepc BN m180
                      replace m181 := keepc BN m181
                      replace m182 := keepc BN m182
                      replace m183 := keepc BN m183
                      replace m190 := keepc BN m190
                      replace m191 := keepc BN m191
                      replace m192 := keepc BN m192
                      replace m193 := keepc BN m193
                      replace BWU : Aside (Below w.heap.size w U19) := BWU.out.trans (BN.mono BWU.out.size)
                      clear BN
                      obtain ⟨a_va, c_va, h_va⟩ : ∃ a c, va = .slice a LA.length c := by
                        obtain ⟨a, c, e, _⟩ := Hva.out
                        exact ⟨a, c, e⟩
                      subst h_va
                      go_upto_region 20 with (fail)
                      refine region_laid (fl := 10) [true, true, true, true, true, true, true, true, true] 0 (fun (i : Nat) (x : Value) (ww : World) => (match i with | 0 => x = .agg #[.int .i64 B.eye, .int .i64 B.bull, .slice p1 B.rings.length q1, .slice p2 B.lines.length q2, .slice p3 B.nums.length q3, .int .i64 B.wire] | 1 => BrdAt ww x B | 2 => x = .agg #[.int .i64 (X + (h : Int) + 1), .int .i64 (X + ↑S), .int .i64 Y, .int .i64 (Y + ↑T)] | 3 => ∃ v, x = .tuple #[v, .int .i64 0] ∧ Sl ww 1 eI v LC | 4 => ∃ v, x = .tuple #[v, .int .i64 0] ∧ Sl ww 1 eI v LC | 5 => Sl ww 1 eI x LC | 6 => x = .int .i64 0 | 7 => Sl ww 1 eI x LC | 8 => x = .int .i64 0 | _ => True : Prop)) (fun w' => Below U19.heap.size U19 w') (by kernel_rfl) rfl (by show layable _ 250 _ 10 = true; decide +kernel) rfl ((Below.refl _ _).drew) ?mono20 ?step20 ?rest20
                      case mono20 =>
                        intro i x ww ww' hB h
                        match i, h with
                        | 0, h => exact h
                        | 1, h => exact BrdAt.below h hB
                        | 2, h => exact h
                        | 3, h => exact (by obtain ⟨v, e, h⟩ := h; exact ⟨v, e, Sl.below h hB⟩)
                        | 4, h => exact (by obtain ⟨v, e, h⟩ := h; exact ⟨v, e, Sl.below h hB⟩)
                        | 5, h => exact Sl.below h hB
                        | 6, h => exact h
                        | 7, h => exact Sl.below h hB
                        | 8, h => exact h
                        | n + 9, h => exact h
                      case step20 =>
                        intro i o_ listed ac W hA ho hL he
                        have hk7 : ac.tmps.getD 7 undef = .pointer (some ⟨g7, 0, none⟩) := hL.kept 7 (by decide +kernel)
                        have hk19 : ac.tmps.getD 19 undef = .pointer (some ⟨g19, 0, none⟩) := hL.kept 19 (by decide +kernel)
                        have CL : ∀ W', Below W.heap.size W W' → Below U19.heap.size U19 W' := fun W' h => hL.cls.trans (h.mono hL.cls.size)
                        have k_c0 := keepc hL.cls c0
                        have k_c1 := keepc hL.cls c1
                        have k_c2 := keepc hL.cls c2
                        have k_c3 := keepc hL.cls c3
                        have k_c4 := keepc hL.cls c4
                        have k_c5 := keepc hL.cls c5
                        have k_m190 := keepc hL.cls m190
                        have k_m191 := keepc hL.cls m191
                        have k_m192 := keepc hL.cls m192
                        have k_m193 := keepc hL.cls m193
                        match i, hA, ho with
                        | 0, _, ho =>
                          cases ho
                          refine wpOp_plain rfl rfl ?_
                          unfold Oper.wp
                          go_simp
                          exact ⟨_, rfl, Below.refl _ _, CL _ (Below.refl _ _), rfl⟩
                        | 1, _, ho =>
                          cases ho
                          have d0 : ac.tmps.getD 160 undef = .agg #[.int .i64 B.eye, .int .i64 B.bull, .slice p1 B.rings.length q1, .slice p2 B.lines.length q2, .slice p3 B.nums.length q3, .int .i64 B.wire] := hL.new 0 _ 160 rfl (he ⟨0, .data⟩ (by simp) rfl) rfl
                          have x := HOWN.out W _ (HB.out.below hL.cls)
                          refine wpOp_plain rfl rfl ?_
                          unfold Oper.wp
                          go_simp
                          refine x.mono ?_
                          rintro e w' ⟨v', rfl, hbr, hBn⟩
                          exact ⟨_, rfl, hBn, CL _ hBn, hbr⟩
                        | 2, _, ho =>
                          cases ho
                          refine wpOp_plain rfl rfl ?_
                          unfold Oper.wp
                          go_simp
                          exact ⟨_, rfl, Below.refl _ _, CL _ (Below.refl _ _), rfl⟩
                        | 3, _, ho =>
                          cases ho
                          obtain ⟨x1, hx1⟩ : ∃ x, ac.tmps.getD 161 undef = x := ⟨_, rfl⟩
                          have d1 := hL.new 1 _ 161 rfl (he ⟨1, .data⟩ (by simp) rfl) rfl
                          rw [hx1] at d1
                          have d2 : ac.tmps.getD 162 undef = .agg #[.int .i64 (X + (h : Int) + 1), .int .i64 (X + ↑S), .int .i64 Y, .int .i64 (Y + ↑T)] := hL.new 2 _ 162 rfl (he ⟨2, .data⟩ (by simp) rfl) rfl
                          have x := HB2.out W x1 d1
                          unfold BedsOk at x
                          refine wpOp_plain rfl rfl ?_
                          unfold Oper.wp
                          go_simp
                          refine x.mono ?_
                          rintro e w' ⟨v', rfl, hs, hBn⟩
                          exact ⟨_, rfl, hBn, CL _ hBn, ⟨_, rfl, hs⟩⟩
                        | 4, _, ho =>
                          cases ho
                          obtain ⟨x3, hx3⟩ : ∃ x, ac.tmps.getD 163 undef = x := ⟨_, rfl⟩
                          have d3 := hL.new 3 _ 163 rfl (he ⟨3, .data⟩ (by simp) rfl) rfl
                          rw [hx3] at d3
                          obtain ⟨v', rfl, hs⟩ := d3
                          refine wpOp_plain rfl rfl ?_
                          unfold Oper.wp
                          go_simp
                          exact ⟨_, rfl, Below.refl _ _, CL _ (Below.refl _ _), ⟨_, rfl, hs⟩⟩
                        | 5, _, ho =>
                          cases ho
                          obtain ⟨x4, hx4⟩ : ∃ x, ac.tmps.getD 159 undef = x := ⟨_, rfl⟩
                          have d4 := hL.new 4 _ 159 rfl (he ⟨4, .data⟩ (by simp) rfl) rfl
                          rw [hx4] at d4
                          obtain ⟨v', rfl, hs⟩ := d4
                          refine wpOp_plain rfl rfl ?_
                          unfold Oper.wp
                          go_simp
                          exact ⟨_, rfl, Below.refl _ _, CL _ (Below.refl _ _), hs⟩
                        | 6, _, ho =>
                          cases ho
                          obtain ⟨x4, hx4⟩ : ∃ x, ac.tmps.getD 159 undef = x := ⟨_, rfl⟩
                          have d4 := hL.new 4 _ 159 rfl (he ⟨4, .data⟩ (by simp) rfl) rfl
                          rw [hx4] at d4
                          obtain ⟨v', rfl, hs⟩ := d4
                          refine wpOp_plain rfl rfl ?_
                          unfold Oper.wp
                          go_simp
                          exact ⟨_, rfl, Below.refl _ _, CL _ (Below.refl _ _), rfl⟩
                        | 7, _, ho =>
                          cases ho
                          obtain ⟨x5, hx5⟩ : ∃ x, ac.tmps.getD 164 undef = x := ⟨_, rfl⟩
                          have d5 := hL.new 5 _ 164 rfl (he ⟨5, .data⟩ (by simp) rfl) rfl
                          rw [hx5] at d5
                          refine wpOp_plain rfl rfl ?_
                          unfold Oper.wp
                          go_simp
                          exact ⟨_, rfl, Below.refl _ _, CL _ (Below.refl _ _), d5⟩
                        | 8, _, ho =>
                          cases ho
                          have d6 : ac.tmps.getD 165 undef = .int .i64 0 := hL.new 6 _ 165 rfl (he ⟨6, .data⟩ (by simp) rfl) rfl
                          refine wpOp_plain rfl rfl ?_
                          unfold Oper.wp
                          go_simp
                          exact ⟨_, rfl, Below.refl _ _, CL _ (Below.refl _ _), rfl⟩
                        | n + 9, hA, _ => simp at hA
                      case rest20 =>
                        intro ac U20 hL
                        have e160 : ac.tmps.getD 160 undef = .agg #[.int .i64 B.eye, .int .i64 B.bull, .slice p1 B.rings.length q1, .slice p2 B.lines.length q2, .slice p3 B.nums.length q3, .int .i64 B.wire] := hL.new 0 _ 160 rfl rfl rfl
                        obtain ⟨y161, e161⟩ : ∃ x, ac.tmps.getD 161 undef = x := ⟨_, rfl⟩
                        have e162 : ac.tmps.getD 162 undef = .agg #[.int .i64 (X + (h : Int) + 1), .int .i64 (X + ↑S), .int .i64 Y, .int .i64 (Y + ↑T)] := hL.new 2 _ 162 rfl rfl rfl
                        obtain ⟨y163, e163⟩ : ∃ x, ac.tmps.getD 163 undef = x := ⟨_, rfl⟩
                        obtain ⟨y159, e159⟩ : ∃ x, ac.tmps.getD 159 undef = x := ⟨_, rfl⟩
                        obtain ⟨y164, e164⟩ : ∃ x, ac.tmps.getD 164 undef = x := ⟨_, rfl⟩
                        have e165 : ac.tmps.getD 165 undef = .int .i64 0 := hL.new 6 _ 165 rfl rfl rfl
                        have hn22 := hL.new 7 _ 22 rfl rfl rfl
                        obtain ⟨vc, e22⟩ : ∃ x, ac.tmps.getD 22 undef = x := ⟨_, rfl⟩
                        rw [e22] at hn22
                        have Hvc : Aside (Sl U20 1 eI vc LC) := hn22
                        clear hn22
                        have e23 : ac.tmps.getD 23 undef = .int .i64 0 := hL.new 8 _ 23 rfl rfl rfl
                        have es := hL.sets [160, 161, 162, 163, 159, 164, 165, 22, 23] (by decide +kernel)
                        rw [List.foldl_cons, List.foldl_cons, List.foldl_cons, List.foldl_cons, List.foldl_cons, List.foldl_cons, List.foldl_cons, List.foldl_cons, List.foldl_cons, List.foldl_nil, e160, e161, e162, e163, e159, e164, e165, e22, e23] at es
                        have BN : Below U19.heap.size U19 U20 := hL.cls
                        rw [es]
                        clear es hL e160 e161 e162 e163 e159 e164 e165 e22 e23
                        refine wpAny_done (by decide +kernel) ?_ _
                        simp only [List.setIfInBounds_toArray, List.set_cons_zero, List.set_cons_succ]
                        replace HB : Aside (BrdAt U20 (.agg #[.int .i64 B.eye, .int .i64 B.bull, .slice p1 B.rings.length q1, .slice p2 B.lines.length q2, .slice p3 B.nums.length q3, .int .i64 B.wire]) B) := HB.out.below BN
                        replace Hvl : Aside (Sl U20 1 eI (.slice a_vl n0 c_vl) L0) := Hvl.out.below BN
                        replace Hva : Aside (Sl U20 1 eI (.slice a_va LA.length c_va) LA) := Hva.out.below BN
                        replace c0 := keepc BN c0
                        replace c1 := keepc BN c1
                        replace c2 := keepc BN c2
                        replace c3 := keepc BN c3
                        replace c4 := keepc BN c4
                        replace c5 := keepc BN c5
                        replace m180 := keepc BN m180
                        replace m181 := keepc BN m181
                        replace m182 := keepc BN m182
                        replace m183 := keepc BN m183
                        replace m190 := keepc BN m190
                        replace m191 := keepc BN m191
                        replace m192 := keepc BN m192
                        replace m193 := keepc BN m193
                        replace BWU : Aside (Below w.heap.size w U20) := BWU.out.trans (BN.mono BWU.out.size)
                        clear BN
                        obtain ⟨a_vc, c_vc, h_vc⟩ : ∃ a c, vc = .slice a LC.length c := by
                          obtain ⟨a, c, e, _⟩ := Hvc.out
                          exact ⟨a, c, e⟩
                        subst h_vc
                        clear HB c0 c1 c2 c3 c4 c5 m180 m181 m182 m183 m190 m191 m192 m193 HOWN HBS HB0 HB1 HB2 HBD HGL
                        have HCBX : Aside (chk B = 0) := HCB.out
                        clear HCB
                        have HCvl2 : Aside (∀ k x, L0[k]? = some x → ∃ b off, a_vl = some ⟨b, off, none⟩ ∧ ∀ W, Below U20.heap.size U20 W → W.cell? ⟨b, off + k, none⟩ = some (.int .i64 x)) := by
                          intro k x hx
                          obtain ⟨a', c', e, _, hs⟩ := Hvl.out
                          cases e
                          obtain ⟨b, off, ha, _, hc⟩ := hs (by intro e; rw [e] at hx; simp at hx)
                          exact ⟨b, off, ha, fun W hW => keepc hW (by have := hc k x hx 0 _ rfl; simpa using this)⟩
                        have HCva : Aside (∀ k x, LA[k]? = some x → ∃ b off, a_va = some ⟨b, off, none⟩ ∧ ∀ W, Below U20.heap.size U20 W → W.cell? ⟨b, off + k, none⟩ = some (.int .i64 x)) := by
                          intro k x hx
                          obtain ⟨a', c', e, _, hs⟩ := Hva.out
                          cases e
                          obtain ⟨b, off, ha, _, hc⟩ := hs (by intro e; rw [e] at hx; simp at hx)
                          exact ⟨b, off, ha, fun W hW => keepc hW (by have := hc k x hx 0 _ rfl; simpa using this)⟩
                        have HCvc : Aside (∀ k x, LC[k]? = some x → ∃ b off, a_vc = some ⟨b, off, none⟩ ∧ ∀ W, Below U20.heap.size U20 W → W.cell? ⟨b, off + k, none⟩ = some (.int .i64 x)) := by
                          intro k x hx
                          obtain ⟨a', c', e, _, hs⟩ := Hvc.out
                          cases e
                          obtain ⟨b, off, ha, _, hc⟩ := hs (by intro e; rw [e] at hx; simp at hx)
                          exact ⟨b, off, ha, fun W hW => keepc hW (by have := hc k x hx 0 _ rfl; simpa using this)⟩
                        obtain ⟨nA, hnA⟩ : ∃ n, LA.length = n := ⟨_, rfl⟩
                        have HnA : Aside (LA.length = nA) := hnA
                        have lnA : nA ≤ 9223372036854775807 := by obtain ⟨_, _, _, hl, _⟩ := Hva.out; omega
                        rw [hnA]
                        clear hnA
                        obtain ⟨nC, hnC⟩ : ∃ n, LC.length = n := ⟨_, rfl⟩
                        have HnC : Aside (LC.length = nC) := hnC
                        have lnC : nC ≤ 9223372036854775807 := by obtain ⟨_, _, _, hl, _⟩ := Hvc.out; omega
                        rw [hnC]
                        clear hnC
                        have HGX : Aside (∃ G : Nat → Bool, L0 = ((List.range 500).filter G).map Int.ofNat ∧ ∀ i : Nat, L0.contains (i : Int) = G i) := by
                          refine ⟨fun i => (valsOf B X Y T1 (S1 * T1)).contains (i : Int), ?_, fun i => ?_⟩
                          · rw [← HL0.out]; exact bedsOf_range _
                          · rw [Bool.eq_iff_iff]
                            simp only [List.contains_eq_mem, decide_eq_true_eq]
                            rw [← HL0.out]
                            exact mem_bedsOf (valsOf_bd HCBX.out _ _ _ _) _
                        clear Hvl Hva Hvc HIN HL0 HCBX
                        have hst := store_bools U20
                        go_upto_region 24 with (fail)
                        obtain ⟨gs, hgs⟩ : ∃ gs, U20.heap.size = gs := ⟨_, rfl⟩
                        have BS0 : Below U20.heap.size U20 (U20.alloc (.cells Try.zeroCells56 56)) := (Below.refl _ _).alloc (Nat.le_refl _) _
                        have SE0 := seen_new U20
                        obtain ⟨US, hUS⟩ : ∃ US, US = U20.alloc (.cells Try.zeroCells56 56) := ⟨_, rfl⟩
                        rw [← hUS, hgs] at SE0
                        rw [← hUS] at BS0
                        rw [← hUS, hgs]
                        have HGS : Aside (U20.heap.size ≤ gs) := by show _ ≤ _; omega
                        clear hst hUS hgs
                        go_wp2_with fail
                        go_loopg [25] nA (fun gg iv wr => ∃ k : Nat, k ≤ nA ∧ nA - k ≤ gg ∧ iv = .int .i64 k ∧ Aside (SeenAt gs wr (fun i => (LA.take k).contains (i : Int))) ∧ Aside (Below U20.heap.size U20 wr))
                        case atStart => exact ⟨0, by omega, by omega, rfl, SE0.ext (fun i _ => by simp), BS0⟩
                        case round =>
                          obtain ⟨k, hk, hg, rfl, SE, BK⟩ := hrel
                          by_cases hlt : k < nA
                          · have hltz : (k : Int) < (nA : Int) := by omega
                            obtain ⟨x, hx⟩ : ∃ x, LA[k]? = some x := ⟨_, List.getElem?_eq_getElem (by rw [HnA.out]; exact hlt)⟩
                            obtain ⟨b, off, rfl, kx'⟩ := HCva.out k x hx
                            have kx := kx' _ BK.out
                            obtain ⟨hx0, hx1⟩ := HBD2.out.1 x (List.mem_of_getElem? hx)
                            obtain ⟨xn, rfl⟩ : ∃ xn : Nat, x = (xn : Int) := ⟨x.toNat, by omega⟩
                            have hxn : xn < 500 := by omega
                            obtain ⟨se1, se2⟩ := SE.out xn hxn
                            have HSE : Aside (SeenAt gs (wr.setCell ⟨gs, xn, none⟩ (.bool true)) (fun i => (LA.take (k + 1)).contains (i : Int))) := (SE.out.set xn hxn).ext (fun i _ => by
                              obtain ⟨hk', e⟩ := List.getElem?_eq_some_iff.1 hx
                              rw [List.take_succ_eq_append_getElem hk', e, Bool.eq_iff_iff]
                              simp only [List.contains_eq_mem, List.mem_append, List.mem_singleton, decide_eq_true_eq, Bool.or_eq_true, beq_iff_eq]
                              constructor
                              · rintro (h | h)
                                · exact .inl h
                                · exact .inr (by omega)
                              · rintro (h | h)
                                · exact .inl h
                                · exact .inr (by omega))
                            have hz1 : ¬ (499 : Int) < (xn : Int) := by omega
                            have hz0 : ¬ (xn : Int) < 0 := by omega
                            clear hx kx'
                            go_wp2_with fail
                            go_roundg (nA - (k + 1))
                            case measure => omega
                            case rel => exact ⟨k + 1, by omega, by omega, by go_num, HSE.out, BK.out.setCell (p := ⟨gs, xn, none⟩) HGS.out _⟩
                          · have hke : nA = k := by omega
                            subst hke
                            have hltz : ¬ (nA : Int) < (nA : Int) := by omega
                            have SEA : Aside (SeenAt gs wr (fun i => LA.contains (i : Int) || (LC.take 0).contains (i : Int))) := SE.out.ext (fun i _ => by rw [← HnA.out, List.take_length]; simp)
                            clear SE
                            obtain ⟨wo, rfl⟩ : ∃ wo : World, wo = wr := ⟨_, rfl⟩
                            go_wp2_with fail
                            go_loopg [26] nC (fun gg iv wr => ∃ k : Nat, k ≤ nC ∧ nC - k ≤ gg ∧ iv = .int .i64 k ∧ Aside (SeenAt gs wr (fun i => LA.contains (i : Int) || (LC.take k).contains (i : Int))) ∧ Aside (Below U20.heap.size U20 wr))
                            case atStart => exact ⟨0, by omega, by omega, rfl, SEA, BK⟩
                            case round =>
                              obtain ⟨k, hk, hg, rfl, SE, BK⟩ := hrel
                              by_cases hlt : k < nC
                              · have hltz : (k : Int) < (nC : Int) := by omega
                                obtain ⟨x, hx⟩ : ∃ x, LC[k]? = some x := ⟨_, List.getElem?_eq_getElem (by rw [HnC.out]; exact hlt)⟩
                                obtain ⟨b, off, rfl, kx'⟩ := HCvc.out k x hx
                                have kx := kx' _ BK.out
                                obtain ⟨hx0, hx1⟩ := HBD2.out.2 x (List.mem_of_getElem? hx)
                                obtain ⟨xn, rfl⟩ : ∃ xn : Nat, x = (xn : Int) := ⟨x.toNat, by omega⟩
                                have hxn : xn < 500 := by omega
                                obtain ⟨se1, se2⟩ := SE.out xn hxn
                                have HSE : Aside (SeenAt gs (wr.setCell ⟨gs, xn, none⟩ (.bool true)) (fun i => LA.contains (i : Int) || (LC.take (k + 1)).contains (i : Int))) := (SE.out.set xn hxn).ext (fun i _ => by
                                  obtain ⟨hk', e⟩ := List.getElem?_eq_some_iff.1 hx
                                  rw [List.take_succ_eq_append_getElem hk', e, Bool.eq_iff_iff]
                                  simp only [List.contains_eq_mem, List.mem_append, List.mem_singleton, decide_eq_true_eq, Bool.or_eq_true, beq_iff_eq]
                                  constructor
                                  · rintro ((h | h) | h)
                                    · exact .inl h
                                    · exact .inr (.inl h)
                                    · exact .inr (.inr (by omega))
                                  · rintro (h | h | h)
                                    · exact .inl (.inl h)
                                    · exact .inl (.inr h)
                                    · exact .inr (by omega))
                                have hz1 : ¬ (499 : Int) < (xn : Int) := by omega
                                have hz0 : ¬ (xn : Int) < 0 := by omega
                                clear hx kx'
                                go_wp2_with fail
                                go_roundg (nC - (k + 1))
                                case measure => omega
                                case rel => exact ⟨k + 1, by omega, by omega, by go_num, HSE.out, BK.out.setCell (p := ⟨gs, xn, none⟩) HGS.out _⟩
                              · have hke : nC = k := by omega
                                subst hke
                                have hltz : ¬ (nC : Int) < (nC : Int) := by omega
                                have SEC : Aside (SeenAt gs wr (fun i => L0.contains (i : Int))) := SE.out.ext (fun i _ => by
                                  rw [← HnC.out, List.take_length, Bool.eq_iff_iff]
                                  simp only [List.contains_eq_mem, decide_eq_true_eq, Bool.or_eq_true]
                                  exact (HMEM.out _).symm)
                                clear SE
                                obtain ⟨we, rfl⟩ : ∃ we : World, we = wr := ⟨_, rfl⟩
                                obtain ⟨G, hLG, hGC⟩ := HGX.out
                                have HLG : Aside (L0 = ((List.range 500).filter G).map Int.ofNat) := hLG
                                have SEG : Aside (SeenAt gs we G) := SEC.out.ext (fun i _ => hGC i)
                                clear SEC hLG hGC HGX HMEM HBD2
                                have HCN : Aside (((List.range 500).filter G).length = n0) := by
                                  show _ = _
                                  rw [count_all, ← HLG.out]; exact HN0.out
                                go_wp2_with fail
                                go_loopg [27, 28] 500 (fun gg mv iv wr => ∃ q : Nat, q ≤ 500 ∧ 500 - q ≤ gg ∧ iv = .int .i64 q ∧ mv = .int .i64 ((((List.range q).filter G).length : Nat) : Int) ∧ we = wr)
                                case atStart => exact ⟨0, by omega, by omega, rfl, rfl, rfl⟩
                                case round =>
                                  obtain ⟨q, hq, hg, rfl, rfl, rfl⟩ := hrel
                                  by_cases hlt : q < 500
                                  · have hltz : (q : Int) < 500 := by omega
                                    obtain ⟨se1, _⟩ := SEG.out q hlt
                                    have HCS : Aside _ := count_succ (g := G) q
                                    cases hGq : G q with
                                    | false =>
                                      rw [hGq] at se1
                                      rw [hGq] at HCS
                                      clear hGq
                                      generalize ((List.range q).filter G).length = cq at *
                                      go_wp2_with fail
                                      go_roundg (500 - (q + 1))
                                      case measure => omega
                                      case rel => exact ⟨q + 1, by omega, by omega, by go_num, by rw [HCS.out]; simp, rfl⟩
                                    | true =>
                                      have hpl := place hlt hGq
                                      rw [← HLG.out] at hpl
                                      rw [hGq] at se1
                                      rw [hGq] at HCS
                                      clear hGq
                                      generalize ((List.range q).filter G).length = cq at *
                                      obtain ⟨b, off, rfl, kx'⟩ := HCvl2.out cq _ hpl
                                      have kx := kx' _ BK.out
                                      have hcn : cq < n0 := by have := (List.getElem?_eq_some_iff.1 hpl).1; rw [HN0.out] at this; exact this
                                      have hcz : (cq : Int) < (n0 : Int) := by omega
                                      have hcz2 : ¬ (n0 : Int) ≤ (cq : Int) := by omega
                                      clear hpl kx'
                                      go_wp2_with fail
                                      go_roundg (500 - (q + 1))
                                      case measure => omega
                                      case rel => exact ⟨q + 1, by omega, by omega, by go_num, by rw [HCS.out]; go_num, rfl⟩
                                  · have hqe : q = 500 := by omega
                                    subst hqe
                                    rw [HCN.out]
                                    have y7 := known_any
                                    go_wp2_with (go_at_call 14; (with_reducible refine (y7 _).mono ?_); rintro e w6 ⟨rfl, hb6⟩)
                                    go_ret
                                    exact ⟨rfl, BWU.out.trans ((BK.out.trans (hb6.mono BK.out.size)).mono BWU.out.size)⟩
end Go.Proofs.Ytifabfbnjnjhlaa
