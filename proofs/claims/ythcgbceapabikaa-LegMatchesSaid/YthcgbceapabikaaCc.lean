/- Leg, part Cc: the walk of LegMatches. -/
import Derived.Test.YthcgbceapabikaaBi
import Derived.Test.YthcgbceapabikaaCb
import Derived.Test.YthcgbceapabikaaAg
set_option linter.unusedVariables false
set_option linter.unusedSimpArgs false
namespace Go.Proofs.Ythcgbceapabikaa
open Go.RowKit Go.Maps Go.Sort Go.Shelf Go.Deep

theorem eqArr9 (a b c e : Int) (w : World) : (Op.equalIn 9999 69 (.agg #[.int .i64 a, .int .i64 b]) (.agg #[.int .i64 c, .int .i64 e])).run Try.prog w = .ok (a == c && b == e) w := eqArr 9997 a b c e w
theorem eI_oneC (bs : List Int) : ∀ y ∈ bs, ∀ u ∈ eI y, u.oneCell' = true := by
  intro y _ u hu
  simp [eI] at hu; subst hu; rfl

set_option maxRecDepth 100000 in
set_option maxHeartbeats 8000000 in
theorem matches_law (m : MtL) (v : Value) (ws : List Int) (w : World) (hs : Sl w 1 eI v ws) :
    Calls Try.prog 7 #[mtlV m, v] w (Ret (.bool true) w) := by
  obtain ⟨i0, hi, hz0, hz1, hz2⟩ := info_parts info_int
  have HK : Aside (∀ W, Calls Try.prog 13 #[] W (Ret (.bool true) W)) := fun W => known_any W
  have X1' : ws.length ≤ 2000 → ∀ W v', Sl W 1 eI v' ws → Calls Try.prog 31 #[mtlV m, v'] W (Ret (matchR (matchF m ws)) W) := fun h W v' hv => Match_any m v' ws W hv (by omega)
  have X2' : ws.length ≤ 2000 → ∀ W, Sl W 1 eI v ws → Calls Try.prog 32 #[mtlV m, v] W (Ret (matchR (matchF m ws)) W) := fun h W hv => rmatch_any m v ws W hv (by omega)
  generalize matchF m ws = res at *
  obtain ⟨⟨s0, s1, l0, l1, win⟩, nx, ix, er⟩ := res
  obtain ⟨a, b, c, d, f⟩ := m
  unfold matchR mtV mtlV at *
  simp only [] at *
  have HS : Aside (Sl w 1 eI v ws) := hs
  obtain ⟨a0, cp, rfl, hl, hs'⟩ := hs
  clear hs'
  obtain ⟨n, hn⟩ : ∃ n, ws.length = n := ⟨_, rfl⟩
  have HN : Aside (ws.length = n) := hn
  rw [hn] at HS X1' X2' hl ⊢
  clear hn
  by_cases h20 : 2000 < n
  · have h20z : (2000 : Int) < (n : Int) := by omega
    clear X1' X2'
    go_enter Try.func7, Try.ntmps7
    go_wp2_with fail
    refine (HK.out _).mono ?_
    rintro e w1 ⟨rfl, hb1⟩
    go_wp2
    go_ret
    exact ⟨rfl, by (repeat' (first | exact Below.refl _ _ | assumption | (with_reducible refine Below.drew ?_) | (with_reducible refine Below.setCell ?_ (by (first | (simp; done) | (simp; omega))) _) | (with_reducible refine below_drewN' ?_ _) | (refine Below.alloc ?_ (by (try simp only [World.size_alloc, World.size_drew, World.size_setCell]); omega) _) | (refine Below.trans ?_ (Below.mono (by assumption) (by (try simp only [World.size_alloc, World.size_drew, World.size_setCell]); omega)))))⟩
  · have h20z : ¬ (2000 : Int) < (n : Int) := by omega
    have X1 : Aside (∀ W v', Sl W 1 eI v' ws → Calls Try.prog 31 #[.agg #[.int .i64 a, .int .i64 b, .int .i64 c, .int .i64 d, .int .i64 f], v'] W (Ret (.tuple #[.agg #[.int .i64 s0, .int .i64 s1, .int .i64 l0, .int .i64 l1, .int .i64 nx, .int .i64 win], .int .i64 ix, .int .i64 er]) W)) := X1' (by omega)
    have X2 : Aside (∀ W, Sl W 1 eI (.slice a0 n cp) ws → Calls Try.prog 32 #[.agg #[.int .i64 a, .int .i64 b, .int .i64 c, .int .i64 d, .int .i64 f], .slice a0 n cp] W (Ret (.tuple #[.agg #[.int .i64 s0, .int .i64 s1, .int .i64 l0, .int .i64 l1, .int .i64 nx, .int .i64 win], .int .i64 ix, .int .i64 er]) W)) := X2' (by omega)
    clear X1' X2'
    go_enter Try.func7, Try.ntmps7
    go_wp2_with fail
    obtain ⟨wa, hwa⟩ : ∃ u, u = w.alloc (.cells #[.int .i64 a, .int .i64 b, .int .i64 c, .int .i64 d, .int .i64 f] 68) := ⟨_, rfl⟩
    have HA : Aside (wa.heap[w.heap.size]? = some (.cells #[.int .i64 a, .int .i64 b, .int .i64 c, .int .i64 d, .int .i64 f] 68 (0, 0))) := by rw [hwa]; exact World.alloc_heap_new _ _
    have BA : Aside (Below w.heap.size w wa) := by rw [hwa]; (repeat' (first | exact Below.refl _ _ | assumption | (with_reducible refine Below.drew ?_) | (with_reducible refine Below.setCell ?_ (by (first | (simp; done) | (simp; omega))) _) | (with_reducible refine below_drewN' ?_ _) | (refine Below.alloc ?_ (by (try simp only [World.size_alloc, World.size_drew, World.size_setCell]); omega) _) | (refine Below.trans ?_ (Below.mono (by assumption) (by (try simp only [World.size_alloc, World.size_drew, World.size_setCell]); omega)))))
    rw [← hwa]
    clear hwa
    have q0 : wa.cell? ⟨w.heap.size, 0, none⟩ = some (.int .i64 a) := blk_cell HA.out rfl
    have q1 : wa.cell? ⟨w.heap.size, 1, none⟩ = some (.int .i64 b) := blk_cell HA.out rfl
    have q2 : wa.cell? ⟨w.heap.size, 2, none⟩ = some (.int .i64 c) := blk_cell HA.out rfl
    have q3 : wa.cell? ⟨w.heap.size, 3, none⟩ = some (.int .i64 d) := blk_cell HA.out rfl
    have q4 : wa.cell? ⟨w.heap.size, 4, none⟩ = some (.int .i64 f) := blk_cell HA.out rfl
    refine region_laidK (RTy 71) (fl := 13) [true, true, true, true, true, true, true, true, true, true, true, true, true] 0 (fun (i : Nat) (x : Value) (ww : World) => (match i with | 0 => x = .agg #[.int .i64 a, .int .i64 b, .int .i64 c, .int .i64 d, .int .i64 f] | 1 => ∃ g, x = .slice (some ⟨g, 0, none⟩) 0 0 ∧ ww.heap[g]? = some (.cells #[] 3 (0, 0)) | 2 => x = .slice a0 n cp | 3 => RowB ww 1 eI 3 x ws | 4 => x = .tuple #[.agg #[.int .i64 s0, .int .i64 s1, .int .i64 l0, .int .i64 l1, .int .i64 nx, .int .i64 win], .int .i64 ix, .int .i64 er] | 5 => x = .tuple #[.agg #[.int .i64 s0, .int .i64 s1, .int .i64 l0, .int .i64 l1, .int .i64 nx, .int .i64 win], .int .i64 ix, .int .i64 er] | 6 => x = .agg #[.int .i64 s0, .int .i64 s1, .int .i64 l0, .int .i64 l1, .int .i64 nx, .int .i64 win] | 7 => x = .int .i64 ix | 8 => x = .int .i64 er | 9 => True | 10 => True | 11 => x = .int .i64 ix | 12 => x = .int .i64 er | _ => True : Prop)) (Cl wa [(⟨9, 10, 5, .cells #[.int .i64 0, .int .i64 0, .int .i64 0, .int .i64 0, .int .i64 0, .int .i64 0] 71 (0, 0), .cells #[.int .i64 s0, .int .i64 s1, .int .i64 l0, .int .i64 l1, .int .i64 nx, .int .i64 win] 71 (0, 0)⟩ : AS)]) (by kernel_rfl) rfl (by show layableK _ 47 _ 13 = true; decide +kernel) rfl (Cl.start _ _ _ _) ?mono3 ?step3 ?rest3
    case mono3 =>
      intro i x ww ww' hB h
      match i, h with
      | 0, h => exact h
      | 1, h => exact (by obtain ⟨g, hx, hg⟩ := h; exact ⟨g, hx, hB.keep (by decide) hg⟩)
      | 2, h => exact h
      | 3, h => exact (h.rt hB (by decide))
      | 4, h => exact h
      | 5, h => exact h
      | 6, h => exact h
      | 7, h => exact h
      | 8, h => exact h
      | 9, h => exact h
      | 10, h => exact h
      | 11, h => exact h
      | 12, h => exact h
      | n + 13, h => exact h
    case step3 =>
      intro i o_ listed ac W hA ho hL he hcl hli hsz
      have hk1 : ac.tmps.getD 1 undef = .slice a0 n cp := hL.kept 1 (by decide +kernel)
      have hk2 : ac.tmps.getD 2 undef = .pointer (some ⟨w.heap.size, 0, none⟩) := hL.kept 2 (by decide +kernel)
      have CL : ∀ W', Below W.heap.size W W' → Below wa.heap.size wa W' := fun W' h => hL.cls.1.trans (h.mono hL.cls.1.size)
      have k_q0 := keepc hL.cls.1 q0
      have k_q1 := keepc hL.cls.1 q1
      have k_q2 := keepc hL.cls.1 q2
      have k_q3 := keepc hL.cls.1 q3
      have k_q4 := keepc hL.cls.1 q4
      match i, hA, ho with
      | 0, _, ho =>
        cases ho
        refine wpOp_plain rfl rfl ?_
        unfold Oper.wp
        go_simp
        first | exact ⟨RTy.refl _ _, Cl.other hL.cls rfl (Below.refl _ _)⟩ | exact ⟨_, rfl, RTy.refl _ _, Cl.other hL.cls rfl (Below.refl _ _), rfl⟩
      | 1, _, ho =>
        cases ho
        refine wpOp_plain rfl rfl ?_
        unfold Oper.wp
        go_simp
        have hBn : Below W.heap.size W (W.alloc (.cells #[] 3)) := (Below.refl _ _).alloc (Nat.le_refl _) _
        exact ⟨_, rfl, RTy.of_below hBn, Cl.other (i := 1) (t := 17) hL.cls rfl hBn, _, rfl, World.alloc_heap_new _ _⟩
      | 2, _, ho =>
        cases ho
        refine wpOp_plain rfl rfl ?_
        unfold Oper.wp
        go_simp
        first | exact ⟨RTy.refl _ _, Cl.other hL.cls rfl (Below.refl _ _)⟩ | exact ⟨_, rfl, RTy.refl _ _, Cl.other hL.cls rfl (Below.refl _ _), rfl⟩
      | 3, _, ho =>
        cases ho
        obtain ⟨x1, hx1⟩ : ∃ x, ac.tmps.getD 17 undef = x := ⟨_, rfl⟩
        have d1 := hL.new 1 _ 17 rfl (he ⟨1, .data⟩ (by simp) rfl) rfl
        rw [hx1] at d1
        have d2 : ac.tmps.getD 18 undef = .slice a0 n cp := hL.new 2 _ 18 rfl (he ⟨2, .data⟩ (by simp) rfl) rfl
        obtain ⟨g, rfl, hg⟩ := d1
        refine wpOp_plain rfl rfl ?_
        refine wp_append_fresh W (.tmp 17) (.tmp 18) 48 rfl 3 i0 (.int .i64 0) 1 8 Try.underlying48 hi hz0 hz1 hz2 rfl (by decide) g hg (by rw [← hx1]; rfl) (vy := .slice a0 n cp) (ys := ws) (enc := eI) d2 (HS.out.below (BA.out.trans (hL.cls.1.mono BA.out.size))) (fun _ => rfl) (eI_oneC ws) (by rw [HN.out]; unfold maxLen; omega) (by rw [HN.out]; omega) ?_
        intro v' w' hsl hBn
        exact ⟨_, rfl, RTy.of_below hBn, Cl.other (i := 3) (t := 19) hL.cls rfl hBn, hsl⟩
      | 4, _, ho =>
        cases ho
        have d0 : ac.tmps.getD 16 undef = .agg #[.int .i64 a, .int .i64 b, .int .i64 c, .int .i64 d, .int .i64 f] := hL.new 0 _ 16 rfl (he ⟨0, .data⟩ (by simp) rfl) rfl
        obtain ⟨x3, hx3⟩ : ∃ x, ac.tmps.getD 19 undef = x := ⟨_, rfl⟩
        have d3 := hL.new 3 _ 19 rfl (he ⟨3, .data⟩ (by simp) rfl) rfl
        rw [hx3] at d3
        refine wpOp_plain rfl rfl ?_
        have xm := X1.out W _ d3.sl
        unfold Oper.wp
        go_simp
        refine xm.mono ?_
        rintro e w' ⟨rfl, hBn⟩
        exact ⟨_, rfl, RTy.of_below hBn, Cl.other (i := 4) (t := 20) hL.cls rfl hBn, rfl⟩
      | 5, _, ho =>
        cases ho
        have d4 : ac.tmps.getD 20 undef = .tuple #[.agg #[.int .i64 s0, .int .i64 s1, .int .i64 l0, .int .i64 l1, .int .i64 nx, .int .i64 win], .int .i64 ix, .int .i64 er] := hL.new 4 _ 20 rfl (he ⟨4, .data⟩ (by simp) rfl) rfl
        refine wpOp_plain rfl rfl ?_
        unfold Oper.wp
        go_simp
        first | exact ⟨RTy.refl _ _, Cl.other hL.cls rfl (Below.refl _ _)⟩ | exact ⟨_, rfl, RTy.refl _ _, Cl.other hL.cls rfl (Below.refl _ _), rfl⟩
      | 6, _, ho =>
        cases ho
        have d5 : ac.tmps.getD 15 undef = .tuple #[.agg #[.int .i64 s0, .int .i64 s1, .int .i64 l0, .int .i64 l1, .int .i64 nx, .int .i64 win], .int .i64 ix, .int .i64 er] := hL.new 5 _ 15 rfl (he ⟨5, .data⟩ (by simp) rfl) rfl
        refine wpOp_plain rfl rfl ?_
        unfold Oper.wp
        go_simp
        first | exact ⟨RTy.refl _ _, Cl.other hL.cls rfl (Below.refl _ _)⟩ | exact ⟨_, rfl, RTy.refl _ _, Cl.other hL.cls rfl (Below.refl _ _), rfl⟩
      | 7, _, ho =>
        cases ho
        have d5 : ac.tmps.getD 15 undef = .tuple #[.agg #[.int .i64 s0, .int .i64 s1, .int .i64 l0, .int .i64 l1, .int .i64 nx, .int .i64 win], .int .i64 ix, .int .i64 er] := hL.new 5 _ 15 rfl (he ⟨5, .data⟩ (by simp) rfl) rfl
        refine wpOp_plain rfl rfl ?_
        unfold Oper.wp
        go_simp
        first | exact ⟨RTy.refl _ _, Cl.other hL.cls rfl (Below.refl _ _)⟩ | exact ⟨_, rfl, RTy.refl _ _, Cl.other hL.cls rfl (Below.refl _ _), rfl⟩
      | 8, _, ho =>
        cases ho
        have d5 : ac.tmps.getD 15 undef = .tuple #[.agg #[.int .i64 s0, .int .i64 s1, .int .i64 l0, .int .i64 l1, .int .i64 nx, .int .i64 win], .int .i64 ix, .int .i64 er] := hL.new 5 _ 15 rfl (he ⟨5, .data⟩ (by simp) rfl) rfl
        refine wpOp_plain rfl rfl ?_
        unfold Oper.wp
        go_simp
        first | exact ⟨RTy.refl _ _, Cl.other hL.cls rfl (Below.refl _ _)⟩ | exact ⟨_, rfl, RTy.refl _ _, Cl.other hL.cls rfl (Below.refl _ _), rfl⟩
      | 9, _, ho =>
        cases ho
        have hq : listed.getD 10 false = false := by
          cases hx : listed.getD 10 false with
          | false => rfl
          | true =>
            have h8 := hcl 10 _ rfl hx ⟨9, .data⟩ (by simp) rfl
            simp only [Array.getD_eq_getD_getElem?] at h8 hli
            rw [Array.getElem?_eq_getElem (show 9 < listed.size by rw [hsz]; decide)] at h8 hli
            rw [Option.getD_some] at h8 hli
            rw [h8] at hli
            exact absurd hli (by simp)
        refine wpOp_plain rfl rfl ?_
        unfold Oper.wp
        go_simp
        exact ⟨_, rfl, RTy.of_below ((Below.refl _ _).alloc (Nat.le_refl _) _), Cl.alloc (⟨9, 10, 5, .cells #[.int .i64 0, .int .i64 0, .int .i64 0, .int .i64 0, .int .i64 0, .int .i64 0] 71 (0, 0), .cells #[.int .i64 s0, .int .i64 s1, .int .i64 l0, .int .i64 l1, .int .i64 nx, .int .i64 win] 71 (0, 0)⟩ : AS) hL.cls (by simp) (by rw [hL.size]; exact (by decide : (5 : Nat) < 47)) hq (by simp) (by intro e' he hne; simp at he; subst he; exact absurd rfl hne)⟩
      | 10, _, ho =>
        cases ho
        have d6 : ac.tmps.getD 21 undef = .agg #[.int .i64 s0, .int .i64 s1, .int .i64 l0, .int .i64 l1, .int .i64 nx, .int .i64 win] := hL.new 6 _ 21 rfl (he ⟨6, .data⟩ (by simp) rfl) rfl
        have hpp : listed.getD 9 false = true := he ⟨9, .data⟩ (by simp) rfl
        obtain ⟨g, g1, g2, g3, g4⟩ := hL.cls.2.1 (⟨9, 10, 5, .cells #[.int .i64 0, .int .i64 0, .int .i64 0, .int .i64 0, .int .i64 0, .int .i64 0] 71 (0, 0), .cells #[.int .i64 s0, .int .i64 s1, .int .i64 l0, .int .i64 l1, .int .i64 nx, .int .i64 win] 71 (0, 0)⟩ : AS) (by simp) hpp
        have hq : listed.getD 10 false = false := by
          simp only [Array.getD_eq_getD_getElem?] at hli ⊢
          rw [Array.getElem?_eq_getElem (show 10 < listed.size by rw [hsz]; decide)] at hli ⊢
          simpa using hli
        simp only [] at g1 g4
        rw [if_neg (by rw [hq]; simp)] at g4
        have HRT : Aside _ := RTy.put (put6 (x0 := .int .i64 s0) (x1 := .int .i64 s1) (x2 := .int .i64 l0) (x3 := .int .i64 l1) (x4 := .int .i64 nx) (x5 := .int .i64 win) g4) g4
        have HPU : Aside _ := Cl.store (⟨9, 10, 5, .cells #[.int .i64 0, .int .i64 0, .int .i64 0, .int .i64 0, .int .i64 0, .int .i64 0] 71 (0, 0), .cells #[.int .i64 s0, .int .i64 s1, .int .i64 l0, .int .i64 l1, .int .i64 nx, .int .i64 win] 71 (0, 0)⟩ : AS) hL.cls (by simp) hpp (by rw [hsz]; exact (by decide : (10 : Nat) < 13)) g1 (put6 g4) (by simp) (by intro e' he hne; simp at he; subst he; exact absurd rfl hne)
        have zc0 : W.cell? ⟨g, 0, none⟩ = some (.int .i64 0) := blk_cell g4 rfl
        have zc1 : W.cell? ⟨g, 1, none⟩ = some (.int .i64 0) := blk_cell g4 rfl
        have zc2 : W.cell? ⟨g, 2, none⟩ = some (.int .i64 0) := blk_cell g4 rfl
        have zc3 : W.cell? ⟨g, 3, none⟩ = some (.int .i64 0) := blk_cell g4 rfl
        have zc4 : W.cell? ⟨g, 4, none⟩ = some (.int .i64 0) := blk_cell g4 rfl
        have zc5 : W.cell? ⟨g, 5, none⟩ = some (.int .i64 0) := blk_cell g4 rfl
        have zf : ∀ i, W.frozen? ⟨g, i, none⟩ = false := fun i => blk_free g4 i
        clear g4
        refine wpOp_plain rfl rfl ?_
        unfold Oper.wp
        go_simp
        exact ⟨HRT.out, HPU.out⟩
      | 11, _, ho =>
        cases ho
        have d7 : ac.tmps.getD 22 undef = .int .i64 ix := hL.new 7 _ 22 rfl (he ⟨7, .data⟩ (by simp) rfl) rfl
        refine wpOp_plain rfl rfl ?_
        unfold Oper.wp
        go_simp
        first | exact ⟨RTy.refl _ _, Cl.other hL.cls rfl (Below.refl _ _)⟩ | exact ⟨_, rfl, RTy.refl _ _, Cl.other hL.cls rfl (Below.refl _ _), rfl⟩
      | 12, _, ho =>
        cases ho
        have d8 : ac.tmps.getD 23 undef = .int .i64 er := hL.new 8 _ 23 rfl (he ⟨8, .data⟩ (by simp) rfl) rfl
        refine wpOp_plain rfl rfl ?_
        unfold Oper.wp
        go_simp
        first | exact ⟨RTy.refl _ _, Cl.other hL.cls rfl (Below.refl _ _)⟩ | exact ⟨_, rfl, RTy.refl _ _, Cl.other hL.cls rfl (Below.refl _ _), rfl⟩
      | n + 13, hA, _ => simp at hA
    case rest3 =>
      intro ac wz hL
      have e16 : ac.tmps.getD 16 undef = .agg #[.int .i64 a, .int .i64 b, .int .i64 c, .int .i64 d, .int .i64 f] := hL.new 0 _ 16 rfl rfl rfl
      obtain ⟨y17, e17⟩ : ∃ x, ac.tmps.getD 17 undef = x := ⟨_, rfl⟩
      have e18 : ac.tmps.getD 18 undef = .slice a0 n cp := hL.new 2 _ 18 rfl rfl rfl
      obtain ⟨y19, e19⟩ : ∃ x, ac.tmps.getD 19 undef = x := ⟨_, rfl⟩
      have e20 : ac.tmps.getD 20 undef = .tuple #[.agg #[.int .i64 s0, .int .i64 s1, .int .i64 l0, .int .i64 l1, .int .i64 nx, .int .i64 win], .int .i64 ix, .int .i64 er] := hL.new 4 _ 20 rfl rfl rfl
      have e15 : ac.tmps.getD 15 undef = .tuple #[.agg #[.int .i64 s0, .int .i64 s1, .int .i64 l0, .int .i64 l1, .int .i64 nx, .int .i64 win], .int .i64 ix, .int .i64 er] := hL.new 5 _ 15 rfl rfl rfl
      have e21 : ac.tmps.getD 21 undef = .agg #[.int .i64 s0, .int .i64 s1, .int .i64 l0, .int .i64 l1, .int .i64 nx, .int .i64 win] := hL.new 6 _ 21 rfl rfl rfl
      have e22 : ac.tmps.getD 22 undef = .int .i64 ix := hL.new 7 _ 22 rfl rfl rfl
      have e23 : ac.tmps.getD 23 undef = .int .i64 er := hL.new 8 _ 23 rfl rfl rfl
      obtain ⟨S, e5, n5, l5, z5⟩ := hL.cls.2.1 (⟨9, 10, 5, .cells #[.int .i64 0, .int .i64 0, .int .i64 0, .int .i64 0, .int .i64 0, .int .i64 0] 71 (0, 0), .cells #[.int .i64 s0, .int .i64 s1, .int .i64 l0, .int .i64 l1, .int .i64 nx, .int .i64 win] 71 (0, 0)⟩ : AS) (by simp) rfl
      simp only [] at e5
      change wz.heap[S]? = some (.cells #[.int .i64 s0, .int .i64 s1, .int .i64 l0, .int .i64 l1, .int .i64 nx, .int .i64 win] 71 (0, 0)) at z5
      have e6 : ac.tmps.getD 6 undef = .int .i64 ix := hL.new 11 _ 6 rfl rfl rfl
      have e7 : ac.tmps.getD 7 undef = .int .i64 er := hL.new 12 _ 7 rfl rfl rfl
      have HCL : Aside (Cl wa [(⟨9, 10, 5, .cells #[.int .i64 0, .int .i64 0, .int .i64 0, .int .i64 0, .int .i64 0, .int .i64 0] 71 (0, 0), .cells #[.int .i64 s0, .int .i64 s1, .int .i64 l0, .int .i64 l1, .int .i64 nx, .int .i64 win] 71 (0, 0)⟩ : AS)] _ ac wz) := hL.cls
      have es := hL.sets [16, 17, 18, 19, 20, 15, 21, 22, 23, 5, 6, 7] (by decide +kernel)
      rw [List.foldl_cons, List.foldl_cons, List.foldl_cons, List.foldl_cons, List.foldl_cons, List.foldl_cons, List.foldl_cons, List.foldl_cons, List.foldl_cons, List.foldl_cons, List.foldl_cons, List.foldl_cons, List.foldl_nil, e16, e17, e18, e19, e20, e15, e21, e22, e23, e5, e6, e7] at es
      have BN : Below wa.heap.size wa wz := hL.cls.1
      rw [es]
      clear es hL e16 e17 e18 e19 e20 e15 e21 e22 e23 e5 e6 e7
      refine wpAny_done (by decide +kernel) ?_ _
      simp only [List.setIfInBounds_toArray, List.set_cons_zero, List.set_cons_succ]
      replace BA : Aside (Below w.heap.size w wz) := BA.out.trans (BN.mono BA.out.size)
      replace HA : Aside (wz.heap[w.heap.size]? = some (.cells #[.int .i64 a, .int .i64 b, .int .i64 c, .int .i64 d, .int .i64 f] 68 (0, 0))) := (BN.block _ (Array.getElem?_eq_some_iff.1 HA.out).1).trans HA.out
      have HZ : Aside (wz.heap[S]? = some (.cells #[.int .i64 s0, .int .i64 s1, .int .i64 l0, .int .i64 l1, .int .i64 nx, .int .i64 win] 71 (0, 0))) := z5
      clear BN HCL n5 l5 z5 q0 q1 q2 q3 q4 X1
      have q0 : wz.cell? ⟨w.heap.size, 0, none⟩ = some (.int .i64 a) := blk_cell HA.out rfl
      have q1 : wz.cell? ⟨w.heap.size, 1, none⟩ = some (.int .i64 b) := blk_cell HA.out rfl
      have q2 : wz.cell? ⟨w.heap.size, 2, none⟩ = some (.int .i64 c) := blk_cell HA.out rfl
      have q3 : wz.cell? ⟨w.heap.size, 3, none⟩ = some (.int .i64 d) := blk_cell HA.out rfl
      have q4 : wz.cell? ⟨w.heap.size, 4, none⟩ = some (.int .i64 f) := blk_cell HA.out rfl
      go_wp2_with fail
      refine (X2.out _ (HS.out.below BA.out)).mono ?_
      rintro e w2 ⟨rfl, hb2⟩
      replace BA : Aside (Below w.heap.size w w2) := BA.out.trans (hb2.mono BA.out.size)
      replace HZ : Aside (w2.heap[S]? = some (.cells #[.int .i64 s0, .int .i64 s1, .int .i64 l0, .int .i64 l1, .int .i64 nx, .int .i64 win] 71 (0, 0))) := (hb2.block _ (Array.getElem?_eq_some_iff.1 HZ.out).1).trans HZ.out
      clear hb2 q0 q1 q2 q3 q4 X2
      have r0 : w2.cell? ⟨S, 0, none⟩ = some (.int .i64 s0) := blk_cell HZ.out rfl
      have r1 : w2.cell? ⟨S, 1, none⟩ = some (.int .i64 s1) := blk_cell HZ.out rfl
      have r2 : w2.cell? ⟨S, 2, none⟩ = some (.int .i64 l0) := blk_cell HZ.out rfl
      have r3 : w2.cell? ⟨S, 3, none⟩ = some (.int .i64 l1) := blk_cell HZ.out rfl
      have r4 : w2.cell? ⟨S, 4, none⟩ = some (.int .i64 nx) := blk_cell HZ.out rfl
      have r5 : w2.cell? ⟨S, 5, none⟩ = some (.int .i64 win) := blk_cell HZ.out rfl
      have hq1 := fun W => eqArr9 s0 s1 s0 s1 W
      have hq2 := fun W => eqArr9 l0 l1 l0 l1 W
      have hSl : S < w2.heap.size := (Array.getElem?_eq_some_iff.1 HZ.out).1
      go_wp2_with fail
      refine (HK.out _).mono ?_
      rintro e w9 ⟨rfl, hb9⟩
      go_wp2
      go_ret
      exact ⟨rfl, BA.out.trans ((((Below.refl _ _).alloc (Nat.le_refl _) _).trans (hb9.mono (by simp))).mono BA.out.size)⟩
end Go.Proofs.Ythcgbceapabikaa
