/- Leg: parts Ke, Kh, Ae, Af, Ah. -/
import Derived.Test.YtpgamgbfjcmagaaMav
import Derived.Test.YtpgamgbfjcmagaaMay
import Derived.Test.YtpgamgbfjcmagaaMaw
import Derived.Test.YtpgamgbfjcmagaaMao
import Derived.Test.YtpgamgbfjcmagaaMax
set_option linter.unusedVariables false
set_option linter.unusedSimpArgs false
namespace Go.Proofs.Ytpgamgbfjcmagaa
section
open Go.RowKit Go.Maps Go.Sort Go.Shelf Go.Deep
section
variable {wr w5 : World} {g7 g8 b m cv : Nat} {vc : Value} {r : LegR} {lv : List (Int × Value × List Int)} {l : List (Int × List Int)} {gr : LegG} {Q1 Q2 : Value → Prop}
set_option maxRecDepth 100000 in
set_option maxHeartbeats 16000000 in
theorem nam26 {ops : List Oper} {Q : Exit → Act → World → Prop} {a0 : Act} (hru : wr.heap[g7]? = some (.cells #[vc, .int .i64 r.first, .int .i64 r.rounds, .bool r.equal] 42 (0, 0))) (k0 : wr.cell? ⟨g8, 0, none⟩ = some (.slice (some ⟨b, 0, none⟩) m cv)) (X1 : Aside (∀ W, Below wr.heap.size wr W → Calls Try.prog 19 #[.agg #[vc, .int .i64 r.first, .int .i64 r.rounds, .bool r.equal]] W (RulesOk r W))) (X2 : Aside (∀ W, Below wr.heap.size wr W → Calls Try.prog 20 #[.slice (some ⟨b, 0, none⟩) m cv] W (VisitsOk lv W))) (HLV : Aside (lv.map prV = l)) (X3 : Aside (∀ W vc' v', Below wr.heap.size wr W → Sl W 3 encC vc' r.counts → VisS l v' W → Calls Try.prog 27 #[.agg #[vc', .int .i64 r.first, .int .i64 r.rounds, .bool r.equal], v'] W (fun e w' => Below W.heap.size W w' ∧ ∃ v y z, e = .returned (.tuple #[v, y, z]) ∧ Q1 y ∧ Q2 z ∧ StAt w' v gr W.heap.size))) (hops : regOps 26 Try.f9 = some ops) (hsz0 : a0.tmps.size = 256) (hs7 : a0.tmps.getD 7 undef = .pointer (some ⟨g7, 0, none⟩)) (hs8 : a0.tmps.getD 8 undef = .pointer (some ⟨g8, 0, none⟩))
  (hrest : ∀ (ac : Act) (w5 : World), LaidG ops.toArray a0 (fun (i : Nat) (x : Value) (ww : World) => (match i with | 0 => x = .agg #[vc, .int .i64 r.first, .int .i64 r.rounds, .bool r.equal] | 1 => True | 2 => x = .pointer (some ⟨g8, 0, none⟩) | 3 => x = .slice (some ⟨b, 0, none⟩) m cv | 4 => True | 5 => True | 6 => True | 7 => True | 8 => Q1 x | 9 => Q2 x | 10 => True | 11 => True | 12 => Q1 x | 13 => Q2 x | _ => True : Prop)) (CR wr r l gr Q1 Q2 158 161 162 156 163 21) #[true, true, true, true, true, true, true, true, true, true, true, true, true, true] ac w5 → wpAny Try.prog .any ops.toArray Q 0 #[true, true, true, true, true, true, true, true, true, true, true, true, true, true] ac w5) : (Code.region 26 ops.toArray true).wp Try.prog Q a0 wr := by
 (conv at hops => lhs; whnf)
 obtain rfl := Option.some.inj hops
 clear hops
 refine region_laidK (fun _ _ => True) (fl := 16) [true, true, true, true, true, true, true, true, true, true, true, true, true, true] 0 (fun (i : Nat) (x : Value) (ww : World) => (match i with | 0 => x = .agg #[vc, .int .i64 r.first, .int .i64 r.rounds, .bool r.equal] | 1 => True | 2 => x = .pointer (some ⟨g8, 0, none⟩) | 3 => x = .slice (some ⟨b, 0, none⟩) m cv | 4 => True | 5 => True | 6 => True | 7 => True | 8 => Q1 x | 9 => Q2 x | 10 => True | 11 => True | 12 => Q1 x | 13 => Q2 x | _ => True : Prop)) (CR wr r l gr Q1 Q2 158 161 162 156 163 21) (by kernel_rfl) rfl (by rw [hsz0]; decide +kernel) rfl (CR.start _ _) ?mono ?step hrest
 case mono =>
  intro i x ww ww' hB h
  match i, h with
  | 0, h => exact h
  | 1, h => exact h
  | 2, h => exact h
  | 3, h => exact h
  | 4, h => exact h
  | 5, h => exact h
  | 6, h => exact h
  | 7, h => exact h
  | 8, h => exact h
  | 9, h => exact h
  | 10, h => exact h
  | 11, h => exact h
  | 12, h => exact h
  | 13, h => exact h
  | n + 14, h => exact h
 case step =>
  intro i o_ listed ac W hA ho hL he hcl hli hsz
  have hk7 : ac.tmps.getD 7 undef = .pointer (some ⟨g7, 0, none⟩) := (hL.kept 7 (by decide +kernel)).trans hs7
  have hk8 : ac.tmps.getD 8 undef = .pointer (some ⟨g8, 0, none⟩) := (hL.kept 8 (by decide +kernel)).trans hs8
  have y0 : W.cell? ⟨g7, 0, none⟩ = some (vc) := keepc hL.cls.bel (blk_cell hru (i := 0) rfl)
  have y1 : W.cell? ⟨g7, 1, none⟩ = some (.int .i64 r.first) := keepc hL.cls.bel (blk_cell hru (i := 1) rfl)
  have y2 : W.cell? ⟨g7, 2, none⟩ = some (.int .i64 r.rounds) := keepc hL.cls.bel (blk_cell hru (i := 2) rfl)
  have y3 : W.cell? ⟨g7, 3, none⟩ = some (.bool r.equal) := keepc hL.cls.bel (blk_cell hru (i := 3) rfl)
  have z0 := keepc hL.cls.bel k0
  match i, hA, ho with
  | 0, _, ho =>
   cases ho
   refine wpOp_plain rfl rfl ?_
   unfold Oper.wp
   go_simp
   first | exact ⟨_, rfl, trivial, (hL.cls.other rfl rfl (Below.refl _ _)), rfl⟩ | exact ⟨_, rfl, (hL.cls.other rfl rfl (Below.refl _ _)), rfl⟩ | exact ⟨(hL.cls.other rfl rfl (Below.refl _ _)), rfl⟩ | exact (hL.cls.other rfl rfl (Below.refl _ _))
  | 1, _, ho =>
   cases ho
   have d0 : ac.tmps.getD 157 undef = .agg #[vc, .int .i64 r.first, .int .i64 r.rounds, .bool r.equal] := hL.new 0 _ 157 rfl (he ⟨0, .data⟩ (by simp) rfl) rfl
   refine wpOp_plain rfl rfl ?_
   unfold Oper.wp
   go_simp
   refine (X1.out _ hL.cls.bel).mono ?_
   rintro e w' ⟨hBn, vc', rfl, h1⟩
   first | exact ⟨_, rfl, trivial, (hL.cls.rules (show CRd 158 161 162 156 163 21 by unfold CRd; decide) (by rw [hL.size, hsz0]; exact (by decide : (158 : Nat) < 256)) ⟨vc', rfl, h1⟩ hBn), trivial⟩ | exact ⟨_, rfl, trivial, (hL.cls.rules (show CRd 158 161 162 156 163 21 by unfold CRd; decide) (by rw [hL.size, hsz0]; exact (by decide : (158 : Nat) < 256)) ⟨vc', rfl, h1⟩ hBn)⟩ | exact ⟨_, rfl, (hL.cls.rules (show CRd 158 161 162 156 163 21 by unfold CRd; decide) (by rw [hL.size, hsz0]; exact (by decide : (158 : Nat) < 256)) ⟨vc', rfl, h1⟩ hBn)⟩ | exact (hL.cls.rules (show CRd 158 161 162 156 163 21 by unfold CRd; decide) (by rw [hL.size, hsz0]; exact (by decide : (158 : Nat) < 256)) ⟨vc', rfl, h1⟩ hBn)
  | 2, _, ho =>
   cases ho
   refine wpOp_plain rfl rfl ?_
   unfold Oper.wp
   go_simp
   first | exact ⟨_, rfl, trivial, (hL.cls.other rfl rfl (Below.refl _ _)), rfl⟩ | exact ⟨_, rfl, (hL.cls.other rfl rfl (Below.refl _ _)), rfl⟩ | exact ⟨(hL.cls.other rfl rfl (Below.refl _ _)), rfl⟩ | exact (hL.cls.other rfl rfl (Below.refl _ _))
  | 3, _, ho =>
   cases ho
   have d2 : ac.tmps.getD 159 undef = .pointer (some ⟨g8, 0, none⟩) := hL.new 2 _ 159 rfl (he ⟨2, .data⟩ (by simp) rfl) rfl
   refine wpOp_plain rfl rfl ?_
   unfold Oper.wp
   go_simp
   first | exact ⟨_, rfl, trivial, (hL.cls.other rfl rfl (Below.refl _ _)), rfl⟩ | exact ⟨_, rfl, (hL.cls.other rfl rfl (Below.refl _ _)), rfl⟩ | exact ⟨(hL.cls.other rfl rfl (Below.refl _ _)), rfl⟩ | exact (hL.cls.other rfl rfl (Below.refl _ _))
  | 4, _, ho =>
   cases ho
   have d3 : ac.tmps.getD 160 undef = .slice (some ⟨b, 0, none⟩) m cv := hL.new 3 _ 160 rfl (he ⟨3, .data⟩ (by simp) rfl) rfl
   refine wpOp_plain rfl rfl ?_
   unfold Oper.wp
   go_simp
   refine (X2.out _ hL.cls.bel).mono ?_
   rintro e w' ⟨hBn, v', lv', rfl, h1, h2, h3⟩
   first | exact ⟨_, rfl, trivial, (hL.cls.visits (show CRd 158 161 162 156 163 21 by unfold CRd; decide) (by rw [hL.size, hsz0]; exact (by decide : (161 : Nat) < 256)) ⟨lv', h1, h2, h3.trans HLV.out⟩ hBn), trivial⟩ | exact ⟨_, rfl, trivial, (hL.cls.visits (show CRd 158 161 162 156 163 21 by unfold CRd; decide) (by rw [hL.size, hsz0]; exact (by decide : (161 : Nat) < 256)) ⟨lv', h1, h2, h3.trans HLV.out⟩ hBn)⟩ | exact ⟨_, rfl, (hL.cls.visits (show CRd 158 161 162 156 163 21 by unfold CRd; decide) (by rw [hL.size, hsz0]; exact (by decide : (161 : Nat) < 256)) ⟨lv', h1, h2, h3.trans HLV.out⟩ hBn)⟩ | exact (hL.cls.visits (show CRd 158 161 162 156 163 21 by unfold CRd; decide) (by rw [hL.size, hsz0]; exact (by decide : (161 : Nat) < 256)) ⟨lv', h1, h2, h3.trans HLV.out⟩ hBn)
  | 5, _, ho =>
   cases ho
   have n5 : listed.getD 5 false = false := by
    simp only [Array.getD_eq_getD_getElem?] at hli ⊢
    rw [Array.getElem?_eq_getElem (show 5 < listed.size by rw [hsz]; decide)] at hli ⊢
    simpa using hli
   have l1 : listed.getD 1 false = true := he ⟨1, .data⟩ (by simp) rfl
   have l4 : listed.getD 4 false = true := he ⟨4, .data⟩ (by simp) rfl
   obtain ⟨vc', e1, h1⟩ := hL.cls.rul l1 n5
   have h2 := hL.cls.vis l4 n5
   obtain ⟨x4, hx4⟩ : ∃ x, ac.tmps.getD 161 undef = x := ⟨_, rfl⟩
   rw [hx4] at h2
   have e1b := e1
   simp only [Array.getD_eq_getD_getElem?] at e1b
   have e4b := hx4
   simp only [Array.getD_eq_getD_getElem?] at e4b
   have n6 : listed.getD 6 false = false := by
    cases hx : listed.getD 6 false with
    | false => rfl
    | true =>
     have h8 := hcl 6 _ rfl hx ⟨5, .data⟩ (by simp) rfl
     simp only [Array.getD_eq_getD_getElem?] at h8 hli
     rw [Array.getElem?_eq_getElem (show 5 < listed.size by rw [hsz]; decide)] at h8 hli
     rw [Option.getD_some] at h8 hli
     rw [h8] at hli
     exact absurd hli (by simp)
   have n7 : listed.getD 7 false = false := by
    cases hx : listed.getD 7 false with
    | false => rfl
    | true =>
     have h8 := hcl 7 _ rfl hx ⟨6, .data⟩ (by simp) rfl
     rw [n6] at h8; cases h8
   clear l1 l4
   refine wpOp_plain rfl rfl ?_
   unfold Oper.wp
   go_simp
   refine (X3.out _ _ _ hL.cls.bel h1 h2).mono ?_
   rintro e w' ⟨hBn, v, y, z, rfl, hy, hz, hst⟩
   first | exact ⟨_, rfl, trivial, (hL.cls.call (show CRd 158 161 162 156 163 21 by unfold CRd; decide) (by rw [hL.size, hsz0]; exact (by decide : (162 : Nat) < 256)) (by rw [hsz]; exact (by decide : (5 : Nat) < 14)) n6 n7 hy hz hst hBn), trivial⟩ | exact ⟨_, rfl, trivial, (hL.cls.call (show CRd 158 161 162 156 163 21 by unfold CRd; decide) (by rw [hL.size, hsz0]; exact (by decide : (162 : Nat) < 256)) (by rw [hsz]; exact (by decide : (5 : Nat) < 14)) n6 n7 hy hz hst hBn)⟩ | exact ⟨_, rfl, (hL.cls.call (show CRd 158 161 162 156 163 21 by unfold CRd; decide) (by rw [hL.size, hsz0]; exact (by decide : (162 : Nat) < 256)) (by rw [hsz]; exact (by decide : (5 : Nat) < 14)) n6 n7 hy hz hst hBn)⟩ | exact (hL.cls.call (show CRd 158 161 162 156 163 21 by unfold CRd; decide) (by rw [hL.size, hsz0]; exact (by decide : (162 : Nat) < 256)) (by rw [hsz]; exact (by decide : (5 : Nat) < 14)) n6 n7 hy hz hst hBn)
  | 6, _, ho =>
   cases ho
   have l5 : listed.getD 5 false = true := he ⟨5, .data⟩ (by simp) rfl
   obtain ⟨v, y, z, k1, k2, k3, k4⟩ := hL.cls.res l5
   have hm := hL.cls.move (show CRd 158 161 162 156 163 21 by unfold CRd; decide) (by rw [hL.size, hsz0]; exact (by decide : (156 : Nat) < 256))
   rw [k1] at hm
   have k1b := k1
   simp only [Array.getD_eq_getD_getElem?] at k1b
   have HM : Aside _ := hm
   clear hm
   refine wpOp_plain rfl rfl ?_
   unfold Oper.wp
   go_simp
   first | exact ⟨_, rfl, trivial, HM.out, trivial⟩ | exact ⟨_, rfl, trivial, HM.out⟩ | exact ⟨_, rfl, HM.out⟩ | exact HM.out
  | 7, _, ho =>
   cases ho
   have l6 : listed.getD 6 false = true := he ⟨6, .data⟩ (by simp) rfl
   have l5 : listed.getD 5 false = true := hcl 6 _ rfl l6 ⟨5, .data⟩ (by simp) rfl
   obtain ⟨v, y, z, k1, k2, k3, k4⟩ := hL.cls.res l5
   have km := (hL.cls.mv l6).trans k1
   have km2 := km
   simp only [Array.getD_eq_getD_getElem?] at km2
   have n11 : listed.getD 11 false = false := by
    cases hx : listed.getD 11 false with
    | false => rfl
    | true =>
     have h8 := hcl 11 _ rfl hx ⟨7, .data⟩ (by simp) rfl
     simp only [Array.getD_eq_getD_getElem?] at h8 hli
     rw [Array.getElem?_eq_getElem (show 7 < listed.size by rw [hsz]; decide)] at h8 hli
     rw [Option.getD_some] at h8 hli
     rw [h8] at hli
     exact absurd hli (by simp)
   have HM : Aside _ := hL.cls.first (show CRd 158 161 162 156 163 21 by unfold CRd; decide) (by rw [hL.size, hsz0]; exact (by decide : (163 : Nat) < 256)) n11 k1
   clear k4
   refine wpOp_plain rfl rfl ?_
   unfold Oper.wp
   go_simp
   first | exact ⟨_, rfl, trivial, HM.out, trivial⟩ | exact ⟨_, rfl, trivial, HM.out⟩ | exact ⟨_, rfl, HM.out⟩ | exact HM.out
  | 8, _, ho =>
   cases ho
   have l6 : listed.getD 6 false = true := he ⟨6, .data⟩ (by simp) rfl
   have l5 : listed.getD 5 false = true := hcl 6 _ rfl l6 ⟨5, .data⟩ (by simp) rfl
   obtain ⟨v, y, z, k1, k2, k3, k4⟩ := hL.cls.res l5
   have km := (hL.cls.mv l6).trans k1
   have km2 := km
   simp only [Array.getD_eq_getD_getElem?] at km2
   clear k4
   refine wpOp_plain rfl rfl ?_
   unfold Oper.wp
   go_simp
   first | exact ⟨_, rfl, trivial, (hL.cls.other rfl rfl (Below.refl _ _)), k2⟩ | exact ⟨_, rfl, (hL.cls.other rfl rfl (Below.refl _ _)), k2⟩ | exact ⟨(hL.cls.other rfl rfl (Below.refl _ _)), k2⟩
  | 9, _, ho =>
   cases ho
   have l6 : listed.getD 6 false = true := he ⟨6, .data⟩ (by simp) rfl
   have l5 : listed.getD 5 false = true := hcl 6 _ rfl l6 ⟨5, .data⟩ (by simp) rfl
   obtain ⟨v, y, z, k1, k2, k3, k4⟩ := hL.cls.res l5
   have km := (hL.cls.mv l6).trans k1
   have km2 := km
   simp only [Array.getD_eq_getD_getElem?] at km2
   clear k4
   refine wpOp_plain rfl rfl ?_
   unfold Oper.wp
   go_simp
   first | exact ⟨_, rfl, trivial, (hL.cls.other rfl rfl (Below.refl _ _)), k3⟩ | exact ⟨_, rfl, (hL.cls.other rfl rfl (Below.refl _ _)), k3⟩ | exact ⟨(hL.cls.other rfl rfl (Below.refl _ _)), k3⟩
  | 10, _, ho =>
   cases ho
   have n11 : listed.getD 11 false = false := by
    cases hx : listed.getD 11 false with
    | false => rfl
    | true =>
     have h8 := hcl 11 _ rfl hx ⟨10, .data⟩ (by simp) rfl
     simp only [Array.getD_eq_getD_getElem?] at h8 hli
     rw [Array.getElem?_eq_getElem (show 10 < listed.size by rw [hsz]; decide)] at h8 hli
     rw [Option.getD_some] at h8 hli
     rw [h8] at hli
     exact absurd hli (by simp)
   have HM : Aside _ := hL.cls.alloc (show CRd 158 161 162 156 163 21 by unfold CRd; decide) (by rw [hL.size, hsz0]; exact (by decide : (21 : Nat) < 256)) n11
   refine wpOp_plain rfl rfl ?_
   unfold Oper.wp
   go_simp
   first | exact ⟨_, rfl, trivial, HM.out, trivial⟩ | exact ⟨_, rfl, trivial, HM.out⟩ | exact ⟨_, rfl, HM.out⟩ | exact HM.out
  | 11, _, ho =>
   cases ho
   have l7 : listed.getD 7 false = true := he ⟨7, .data⟩ (by simp) rfl
   have l10 : listed.getD 10 false = true := he ⟨10, .data⟩ (by simp) rfl
   have l6 : listed.getD 6 false = true := hcl 7 _ rfl l7 ⟨6, .data⟩ (by simp) rfl
   have l5 : listed.getD 5 false = true := hcl 6 _ rfl l6 ⟨5, .data⟩ (by simp) rfl
   have n11 : listed.getD 11 false = false := by
    simp only [Array.getD_eq_getD_getElem?] at hli ⊢
    rw [Array.getElem?_eq_getElem (show 11 < listed.size by rw [hsz]; decide)] at hli ⊢
    simpa using hli
   obtain ⟨g, g1, g2, g3, g4, -⟩ := hL.cls.blk l10
   replace g4 := g4 n11
   obtain ⟨v, y, z, k1, -, -, k4⟩ := hL.cls.res l5
   obtain ⟨v', y', z', k1', k5⟩ := hL.cls.ex l7
   rw [k1] at k1'
   simp only [Value.tuple.injEq, Array.mk.injEq, List.cons.injEq, and_true] at k1'
   obtain ⟨rfl, rfl, rfl⟩ := k1'
   obtain ⟨vl, vd, vi, vw, rfl, ⟨s1, -⟩, ⟨s2, -⟩, ⟨s3, -⟩, ⟨s4, -⟩⟩ := k4
   obtain ⟨e1, f1, rfl, -⟩ := s1
   obtain ⟨e2, f2, rfl, -⟩ := s2
   obtain ⟨e3, f3, rfl, -⟩ := s3
   obtain ⟨e4, f4, rfl, -⟩ := s4
   have HM : Aside _ := hL.cls.store l10 l5 (by rw [hsz]; exact (by decide : (11 : Nat) < 14)) n11 g1 k5 ac rfl
   have g1b := g1
   simp only [Array.getD_eq_getD_getElem?] at g1b
   have k5b := k5
   simp only [Array.getD_eq_getD_getElem?] at k5b
   have zc0 : W.cell? ⟨g, 0, none⟩ = some (.slice none 0 0) := blk_cell g4 rfl
   have zc1 : W.cell? ⟨g, 1, none⟩ = some (.slice none 0 0) := blk_cell g4 rfl
   have zc2 : W.cell? ⟨g, 2, none⟩ = some (.slice none 0 0) := blk_cell g4 rfl
   have zc3 : W.cell? ⟨g, 3, none⟩ = some (.int .i64 0) := blk_cell g4 rfl
   have zc4 : W.cell? ⟨g, 4, none⟩ = some (.int .i64 0) := blk_cell g4 rfl
   have zc5 : W.cell? ⟨g, 5, none⟩ = some (.bool false) := blk_cell g4 rfl
   have zc6 : W.cell? ⟨g, 6, none⟩ = some (.slice none 0 0) := blk_cell g4 rfl
   have zf : ∀ i, W.frozen? ⟨g, i, none⟩ = false := fun i => blk_free g4 i
   clear g4 k1 k5 l7 l10 l6 l5
   refine wpOp_plain rfl rfl ?_
   unfold Oper.wp
   go_simp
   first | exact HM.out | exact ⟨trivial, HM.out⟩ | exact ⟨trivial, HM.out, trivial⟩ | exact ⟨HM.out, trivial⟩
  | 12, _, ho =>
   cases ho
   obtain ⟨x8, hx8⟩ : ∃ x, ac.tmps.getD 164 undef = x := ⟨_, rfl⟩
   have d8 := hL.new 8 _ 164 rfl (he ⟨8, .data⟩ (by simp) rfl) rfl
   rw [hx8] at d8
   have d8b := hx8
   simp only [Array.getD_eq_getD_getElem?] at d8b
   refine wpOp_plain rfl rfl ?_
   unfold Oper.wp
   go_simp
   first | exact ⟨_, rfl, trivial, (hL.cls.other rfl rfl (Below.refl _ _)), d8⟩ | exact ⟨_, rfl, (hL.cls.other rfl rfl (Below.refl _ _)), d8⟩ | exact ⟨(hL.cls.other rfl rfl (Below.refl _ _)), d8⟩
  | 13, _, ho =>
   cases ho
   obtain ⟨x9, hx9⟩ : ∃ x, ac.tmps.getD 165 undef = x := ⟨_, rfl⟩
   have d9 := hL.new 9 _ 165 rfl (he ⟨9, .data⟩ (by simp) rfl) rfl
   rw [hx9] at d9
   have d9b := hx9
   simp only [Array.getD_eq_getD_getElem?] at d9b
   refine wpOp_plain rfl rfl ?_
   unfold Oper.wp
   go_simp
   first | exact ⟨_, rfl, trivial, (hL.cls.other rfl rfl (Below.refl _ _)), d9⟩ | exact ⟨_, rfl, (hL.cls.other rfl rfl (Below.refl _ _)), d9⟩ | exact ⟨(hL.cls.other rfl rfl (Below.refl _ _)), d9⟩
  | n + 14, hA, _ => simp at hA
end
end
section
open Go.RowKit Go.Maps Go.Sort Go.Shelf Go.Deep
theorem cell_one_blk {w : World} {g : Nat} {x : Value} {T : TypeId} (h : w.heap[g]? = some (.cells #[x] T (0, 0))) : ∀ j u, [x][j]? = some u → w.cell? ((⟨g, 0, none⟩ : Addr).add j) = some u := by
 intro j u hu
 have hj : j = 0 := by
  rcases j with _ | j
  ·rfl
  ·simp at hu
 subst hj
 simp only [List.getElem?_cons_zero, Option.some.injEq] at hu
 subst hu
 have := blk_cell h (i := 0) rfl
 simpa [Addr.add] using this
section
variable {w wr w5 : World} {g10 g11 gu nu cu dl c3 B : Nat} {a3 : Option Addr} {xs : List Value} {p : Int}
set_option maxRecDepth 100000 in
set_option maxHeartbeats 16000000 in
theorem nam18 {ops : List Oper} {Q : Exit → Act → World → Prop} {a0 : Act} (HBW : Aside (Below w.heap.size w wr ∧ w.heap.size ≤ B ∧ gu < wr.heap.size ∧ nu ≤ 100 ∧ w.heap.size ≤ g11)) (HOU : Aside (wr.ownsRow B 34 1 (.slice (some ⟨gu, 0, none⟩) nu cu) nu xs)) (HG11 : Aside (wr.heap[g11]? = some (.cells #[.int .i64 p, .slice (some ⟨gu, 0, none⟩) nu cu] 84 (0, 0)))) (k10 : wr.cell? ⟨g10, 1, none⟩ = some (.slice a3 dl c3)) (hne : g10 ≠ gu ∧ g10 ≠ g11) (hops : regOps 18 Try.f9 = some ops) (hsz0 : a0.tmps.size = 256) (hs10 : a0.tmps.getD 10 undef = .pointer (some ⟨g10, 0, none⟩)) (hs11 : a0.tmps.getD 11 undef = .pointer (some ⟨g11, 0, none⟩))
  (hrest : ∀ (ac : Act) (w5 : World), LaidG ops.toArray a0 (fun (i : Nat) (x : Value) (ww : World) => (match i with | 0 => x = .pointer (some ⟨g11, 1, none⟩) | 1 => x = .slice (some ⟨gu, 0, none⟩) nu cu | 2 => True | 3 => True | 4 => x = .pointer (some ⟨g10, 1, none⟩) | 5 => x = .slice a3 dl c3 | 6 => x = .int .i64 (dl : Int) | 7 => x = .pointer (some ⟨g11, 1, none⟩) | 8 => True | 9 => x = .int .i64 32 | 10 => x = .int .i64 (dl : Int) | _ => True : Prop)) (CA w wr B gu nu cu g11 p xs) #[true, true, true, true, true, true, true, true, true, true, true] ac w5 → wpAny Try.prog .any ops.toArray Q 0 #[true, true, true, true, true, true, true, true, true, true, true] ac w5) : (Code.region 18 ops.toArray true).wp Try.prog Q a0 wr := by
 (conv at hops => lhs; whnf)
 obtain rfl := Option.some.inj hops
 clear hops
 obtain ⟨j0, hj0, jz0, jz1, jz2⟩ := info_parts info_bedD
 refine region_laidK (fun _ _ => True) (fl := 16) [true, true, true, true, true, true, true, true, true, true, true] 0 (fun (i : Nat) (x : Value) (ww : World) => (match i with | 0 => x = .pointer (some ⟨g11, 1, none⟩) | 1 => x = .slice (some ⟨gu, 0, none⟩) nu cu | 2 => True | 3 => True | 4 => x = .pointer (some ⟨g10, 1, none⟩) | 5 => x = .slice a3 dl c3 | 6 => x = .int .i64 (dl : Int) | 7 => x = .pointer (some ⟨g11, 1, none⟩) | 8 => True | 9 => x = .int .i64 32 | 10 => x = .int .i64 (dl : Int) | _ => True : Prop)) (CA w wr B gu nu cu g11 p xs) (by kernel_rfl) rfl (by rw [hsz0]; decide +kernel) rfl (CA.start HBW.out.1 HOU.out HG11.out _ _) ?mono ?step hrest
 case mono =>
  intro i x ww ww' hB h
  match i, h with
  | 0, h => exact h
  | 1, h => exact h
  | 2, h => exact h
  | 3, h => exact h
  | 4, h => exact h
  | 5, h => exact h
  | 6, h => exact h
  | 7, h => exact h
  | 8, h => exact h
  | 9, h => exact h
  | 10, h => exact h
  | n + 11, h => exact h
 case step =>
  intro i o_ listed ac W hA ho hL he hcl hli hsz
  have hk10 : ac.tmps.getD 10 undef = .pointer (some ⟨g10, 0, none⟩) := (hL.kept 10 (by decide +kernel)).trans hs10
  have hk11 : ac.tmps.getD 11 undef = .pointer (some ⟨g11, 0, none⟩) := (hL.kept 11 (by decide +kernel)).trans hs11
  have z1 := (cell_blk (hL.cls.oth g10 (cell_lt k10) hne.1 hne.2)).trans k10
  match i, hA, ho with
  | 0, _, ho =>
   cases ho
   refine wpOp_plain rfl rfl ?_
   unfold Oper.wp
   go_simp
   first | exact ⟨_, rfl, trivial, hL.cls.other rfl, rfl⟩ | exact ⟨_, rfl, hL.cls.other rfl, rfl⟩ | exact ⟨hL.cls.other rfl, rfl⟩ | exact hL.cls.other rfl
  | 1, _, ho =>
   cases ho
   have d0 : ac.tmps.getD 102 undef = .pointer (some ⟨g11, 1, none⟩) := hL.new 0 _ 102 rfl (he ⟨0, .data⟩ (by simp) rfl) rfl
   have n3 : listed.getD 3 false = false := by
    cases hx : listed.getD 3 false with
    | false => rfl
    | true =>
     have h8 := hcl 3 _ rfl hx ⟨1, .data⟩ (by simp) rfl
     simp only [Array.getD_eq_getD_getElem?] at h8 hli
     rw [Array.getElem?_eq_getElem (show 1 < listed.size by rw [hsz]; decide)] at h8 hli
     rw [Option.getD_some] at h8 hli
     rw [h8] at hli
     exact absurd hli (by simp)
   have n8 : listed.getD 8 false = false := by
    cases hx : listed.getD 8 false with
    | false => rfl
    | true =>
     have h8 := hcl 8 _ rfl hx ⟨3, .data⟩ (by simp) rfl
     rw [n3] at h8; cases h8
   have hb := hL.cls.bad
   rw [n8, if_neg (by decide)] at hb
   have zb := blk_cell hb (i := 1) rfl
   clear hb
   refine wpOp_plain rfl rfl ?_
   unfold Oper.wp
   go_simp
   first | exact ⟨_, rfl, trivial, hL.cls.other rfl, rfl⟩ | exact ⟨_, rfl, hL.cls.other rfl, rfl⟩ | exact ⟨hL.cls.other rfl, rfl⟩ | exact hL.cls.other rfl
  | 2, _, ho =>
   cases ho
   have HM : Aside _ := hL.cls.build (by rw [hL.size, hsz0]; exact (by decide : (104 : Nat) < 256)) (Array.getElem?_eq_some_iff.1 HG11.out).1
   refine wpOp_plain rfl rfl ?_
   unfold Oper.wp
   go_simp
   first | exact ⟨_, rfl, trivial, HM.out, trivial⟩ | exact ⟨_, rfl, HM.out⟩ | exact HM.out
  | 3, _, ho =>
   cases ho
   have d1 : ac.tmps.getD 103 undef = .slice (some ⟨gu, 0, none⟩) nu cu := hL.new 1 _ 103 rfl (he ⟨1, .data⟩ (by simp) rfl) rfl
   have n3 : listed.getD 3 false = false := by
    simp only [Array.getD_eq_getD_getElem?] at hli ⊢
    rw [Array.getElem?_eq_getElem (show 3 < listed.size by rw [hsz]; decide)] at hli ⊢
    simpa using hli
   have n8 : listed.getD 8 false = false := by
    cases hx : listed.getD 8 false with
    | false => rfl
    | true =>
     have h8 := hcl 8 _ rfl hx ⟨3, .data⟩ (by simp) rfl
     rw [n3] at h8; cases h8
   have l2 : listed.getD 2 false = true := he ⟨2, .data⟩ (by simp) rfl
   obtain ⟨g1, e1, h1, h2⟩ := hL.cls.one l2
   refine wpOp_plain rfl rfl ?_
   refine wp_append_own W (.tmp 103) (.tmp 104) 27 rfl B 34 j0 (.int .i64 0) 1 8 Try.underlying27 hj0 jz0 jz1 jz2 rfl (by decide) (.slice (some ⟨gu, 0, none⟩) nu cu) nu xs d1 (hL.cls.no n3) ⟨g1, 0, none⟩ 1 1 [.int .i64 0] e1 rfl (cell_one_blk h2) (ints_oneCell .i64 [0]) (by have := HBW.out.2.2.2; unfold maxLen; omega) (by have := HBW.out.2.2.2; omega) (by have := HBW.out; have := hL.cls.siz; have := ((hL.cls.no n3).lt gu rfl); omega) ?_
   intro v' w' hown hgr hnil
   have HM : Aside _ := hL.cls.app (by rw [hL.size, hsz0]; exact (by decide : (105 : Nat) < 256)) (by rw [hsz]; exact (by decide : (3 : Nat) < 11)) HBW.out.2.1 HBW.out.2.2.1 n3 n8 hown hgr
   exact ⟨_, rfl, trivial, HM.out, trivial⟩
  | 4, _, ho =>
   cases ho
   refine wpOp_plain rfl rfl ?_
   unfold Oper.wp
   go_simp
   first | exact ⟨_, rfl, trivial, hL.cls.other rfl, rfl⟩ | exact ⟨_, rfl, hL.cls.other rfl, rfl⟩ | exact ⟨hL.cls.other rfl, rfl⟩ | exact hL.cls.other rfl
  | 5, _, ho =>
   cases ho
   have d4 : ac.tmps.getD 106 undef = .pointer (some ⟨g10, 1, none⟩) := hL.new 4 _ 106 rfl (he ⟨4, .data⟩ (by simp) rfl) rfl
   refine wpOp_plain rfl rfl ?_
   unfold Oper.wp
   go_simp
   first | exact ⟨_, rfl, trivial, hL.cls.other rfl, rfl⟩ | exact ⟨_, rfl, hL.cls.other rfl, rfl⟩ | exact ⟨hL.cls.other rfl, rfl⟩ | exact hL.cls.other rfl
  | 6, _, ho =>
   cases ho
   have d5 : ac.tmps.getD 107 undef = .slice a3 dl c3 := hL.new 5 _ 107 rfl (he ⟨5, .data⟩ (by simp) rfl) rfl
   refine wpOp_plain rfl rfl ?_
   unfold Oper.wp
   go_simp
   first | exact ⟨_, rfl, trivial, hL.cls.other rfl, rfl⟩ | exact ⟨_, rfl, hL.cls.other rfl, rfl⟩ | exact ⟨hL.cls.other rfl, rfl⟩ | exact hL.cls.other rfl
  | 7, _, ho =>
   cases ho
   refine wpOp_plain rfl rfl ?_
   unfold Oper.wp
   go_simp
   first | exact ⟨_, rfl, trivial, hL.cls.other rfl, rfl⟩ | exact ⟨_, rfl, hL.cls.other rfl, rfl⟩ | exact ⟨hL.cls.other rfl, rfl⟩ | exact hL.cls.other rfl
  | 8, _, ho =>
   cases ho
   have d7 : ac.tmps.getD 109 undef = .pointer (some ⟨g11, 1, none⟩) := hL.new 7 _ 109 rfl (he ⟨7, .data⟩ (by simp) rfl) rfl
   have l3 : listed.getD 3 false = true := he ⟨3, .data⟩ (by simp) rfl
   have HM : Aside _ := hL.cls.store (by rw [hsz]; exact (by decide : (8 : Nat) < 11)) HBW.out.2.2.2.2 (Array.getElem?_eq_some_iff.1 HG11.out).1 l3 ac rfl
   obtain ⟨a9, c9, e9⟩ := owns_sl (hL.cls.yes l3)
   rw [e9] at HM
   simp only [Array.getD_eq_getD_getElem?] at e9
   have n8 : listed.getD 8 false = false := by
    simp only [Array.getD_eq_getD_getElem?] at hli ⊢
    rw [Array.getElem?_eq_getElem (show 8 < listed.size by rw [hsz]; decide)] at hli ⊢
    simpa using hli
   have hb := hL.cls.bad
   rw [n8, if_neg (by decide)] at hb
   have zb := blk_cell hb (i := 1) rfl
   have zf : ∀ i, W.frozen? ⟨g11, i, none⟩ = false := fun i => blk_free hb i
   clear hb l3
   refine wpOp_plain rfl rfl ?_
   unfold Oper.wp
   go_simp
   first | exact HM.out | exact ⟨trivial, HM.out⟩ | exact ⟨HM.out, trivial⟩
  | 9, _, ho =>
   cases ho
   refine wpOp_plain rfl rfl ?_
   unfold Oper.wp
   go_simp
   first | exact ⟨_, rfl, trivial, hL.cls.other rfl, rfl⟩ | exact ⟨_, rfl, hL.cls.other rfl, rfl⟩ | exact ⟨hL.cls.other rfl, rfl⟩ | exact hL.cls.other rfl
  | 10, _, ho =>
   cases ho
   have d6 : ac.tmps.getD 108 undef = .int .i64 (dl : Int) := hL.new 6 _ 108 rfl (he ⟨6, .data⟩ (by simp) rfl) rfl
   refine wpOp_plain rfl rfl ?_
   unfold Oper.wp
   go_simp
   first | exact ⟨_, rfl, trivial, hL.cls.other rfl, rfl⟩ | exact ⟨_, rfl, hL.cls.other rfl, rfl⟩ | exact ⟨hL.cls.other rfl, rfl⟩ | exact hL.cls.other rfl
  | n + 11, hA, _ => simp at hA
end
end
section
open Go.RowKit Go.Maps Go.Sort Go.Shelf Go.Deep
def twoR (eq : Bool) : LegR := ⟨[(101, 0, 1), (101, 0, 1)], 0, 0, eq⟩
def exP1 : List (Int × List Int) := [(0, [320, 101, 220]), (1, [320, 101, 220])]
theorem ex_visit1 : visitF (101, 0, 1) true 101 [320, 220] = (⟨101, 0, 2, true, true, false⟩, 0) := by decide +kernel
theorem ex_visit2 : visitF (101, 1, 0) false 101 [320, 210, 120] = (⟨61, 40, 3, true, false, false⟩, 0) := by decide +kernel
theorem least_sorted {ps : List (Int × Int)} {m : Int} {xs : List Int} (h : leastU (mn (ps.map (·.2))) ps = xs) (hs : xs.Pairwise (fun x y => decide (x ≤ y) = true)) : leastL ps = xs := by
 unfold leastL
 rw [h]
 exact List.mergeSort_of_pairwise hs
theorem ex_near1 : nearL [0, 1, 2] [(125, 0), (101, 300), (125, 0)] = [0, 2] := by
 unfold nearL
 exact least_sorted (m := 0) (by decide +kernel) (by decide)
theorem ex_near2 : nearL [0, 2] [(103, 250), (104, 240)] = [2] := by
 unfold nearL
 exact least_sorted (m := 0) (by decide +kernel) (by decide)
theorem ex_off : offF 3 [[(125, 0), (101, 300), (125, 0)], [(103, 250), (104, 240)]] = (2, 0) := by
 unfold offF
 rw [show evL (3 : Int).toNat = [0, 1, 2] from rfl]
 simp only [offL, ex_near1, ex_near2]
 decide +kernel
theorem ex_play1o : (judgeK (twoR true) exP1 2).1.over = true ∧ (judgeK (twoR true) exP1 2).1.round = 1 := by decide +kernel
theorem ex_play1w : (judgeK (twoR true) exP1 2).1.wins = leastL [(0, 3), (1, 3)] := by rfl
theorem ex_play1n : (judgeK (twoR true) exP1 2).1.wins.length = 2 := by
 rw [ex_play1w]
 unfold leastL
 rw [List.length_mergeSort]
 decide +kernel
def exJ : List (Int × List Int) := [(0, [101, 101, 101]), (0, [101, 101, 101]), (1, [120, 120]), (1, [120, 120, 120])]
def exP2 : List (Int × List Int) := [(0, [320, 101, 0]), (0, [0, 0, 0])]
theorem ex_play2 : playE (twoR false) exP2 = (1, 30) := by decide +kernel
theorem ex_play2g : playG (twoR false) exP2 = none := by decide +kernel
theorem ex_play1 : playE (twoR true) exP1 = (0, 0) := by decide +kernel
theorem ex_judge : judgeE (twoR false) exJ = 0 := by decide +kernel
theorem ex_judgeF : (judgeK (twoR false) exJ 4).2 = [(1, -1, 30), (2, -1, 31)] := by decide +kernel
theorem ex_judgeL : (judgeK (twoR false) exJ 4).1.left = [98, 41] ∧ (judgeK (twoR false) exJ 4).1.next = 0 := by decide +kernel
end
section
open Go.RowKit Go.Maps Go.Sort Go.Shelf Go.Deep
/-- The rules of the examples: their two counts lie in a block of their own. -/
def TwoAt (W : World) (eq : Bool) (x : Value) : Prop := ∃ b, x = .agg #[.slice (some ⟨b, 0, none⟩) 2 2, .int .i64 0, .int .i64 0, .bool eq] ∧ W.heap[b]? = some (.cells #[.int .i64 101, .int .i64 0, .int .i64 1, .int .i64 101, .int .i64 0, .int .i64 1] 24 (0, 0))
set_option maxRecDepth 100000 in
set_option maxHeartbeats 1000000 in
theorem two_any (eq : Bool) (w : World) : Calls Try.prog 37 #[.bool eq] w (fun e w' => Below w.heap.size w w' ∧ ∃ x, e = .returned x ∧ TwoAt w' eq x) := by
 go_enter Try.func37, Try.ntmps37
 go_wp2
 refine bodyPost_ret (v := .agg #[.slice (some ⟨w.heap.size + 1 + 1, 0, none⟩) 2 2, .int .i64 0, .int .i64 0, .bool eq]) (by simp [results, Try.results37, go_sem]) rfl ⟨by (repeat' (first | exact Below.refl _ _ | assumption | (with_reducible refine Below.drew ?_) | (with_reducible refine Below.setCell ?_ (by (first | (simp; done) | (simp; omega))) _) | (with_reducible refine below_drewN' ?_ _) | (refine Below.alloc ?_ (by (try simp only [World.size_alloc, World.size_drew, World.size_setCell]); omega) _) | (refine Below.trans ?_ (Below.mono (by assumption) (by (try simp only [World.size_alloc, World.size_drew, World.size_setCell]); omega))))), _, rfl, w.heap.size + 1 + 1, rfl, World.alloc_heap_new' _ _ _ (by simp)⟩
theorem beds_any (a : Option Addr) (n c : Nat) (w : World) : Calls Try.prog 38 #[.slice a n c] w (Ret (.slice a n c) w) := by
 go_enter Try.func38, Try.ntmps38
 go_wp2
 go_ret
 exact ⟨rfl, by (repeat' (first | exact Below.refl _ _ | assumption | (with_reducible refine Below.drew ?_) | (with_reducible refine Below.setCell ?_ (by (first | (simp; done) | (simp; omega))) _) | (with_reducible refine below_drewN' ?_ _) | (refine Below.alloc ?_ (by (try simp only [World.size_alloc, World.size_drew, World.size_setCell]); omega) _) | (refine Below.trans ?_ (Below.mono (by assumption) (by (try simp only [World.size_alloc, World.size_drew, World.size_setCell]); omega)))))⟩
/-- A literal slice lies in a block of its own. -/
theorem sl_blk {α : Type} {W : World} {g k : Nat} {T : TypeId} {enc : α → List Value} {xs : List α} (hk : ∀ x, (enc x).length = k) (hl : xs.length ≤ 1000) (hb : W.heap[g]? = some (.cells ((xs.map enc).flatten).toArray T (0, 0))) (c : Nat) : Sl W k enc (.slice (some ⟨g, 0, none⟩) xs.length c) xs :=
 sl_lit hk hl (Array.getElem?_eq_some_iff.1 hb).1 (fun j u h => blk_cell hb (by simpa using h)) c
/-- Blocks stay as they are, but for those that hold what a visit comes to. -/
def RT (W W' : World) : Prop := W.heap.size ≤ W'.heap.size ∧ ∀ k, k < W.heap.size → (∀ cs, W.heap[k]? ≠ some (.cells cs 30 (0, 0))) → W'.heap[k]? = W.heap[k]?
theorem RT.refl (W : World) : RT W W := ⟨Nat.le_refl _, fun _ _ _ => rfl⟩
theorem RT.of_below {W W' : World} (h : Below W.heap.size W W') : RT W W' := ⟨h.size, fun k hk _ => h.block k hk⟩
theorem RT.put {W W' : World} {g : Nat} {F : Obj} {cs : Array Value} (h : Put g F W W') (hg : W.heap[g]? = some (.cells cs 30 (0, 0))) : RT W W' := ⟨by rw [h.size]; exact Nat.le_refl _, fun k _ hno => h.block k (fun e => by subst e; exact hno _ hg)⟩
theorem RT.keep {W W' : World} {k : Nat} {cs : Array Value} {T : TypeId} (h : RT W W') (hT : T ≠ 30) (hk : W.heap[k]? = some (.cells cs T (0, 0))) : W'.heap[k]? = some (.cells cs T (0, 0)) :=
 (h.2 k (Array.getElem?_eq_some_iff.1 hk).1 (fun c e => by rw [hk] at e; simp only [Option.some.injEq, Obj.cells.injEq] at e; exact hT e.2.1)).trans hk
end
section
open Go.RowKit Go.Maps Go.Sort Go.Shelf Go.Deep
theorem ex_matchA : matchF ⟨2, 2, 2, 2, 0⟩ [0, 0, 1, 1, 0, 1, 0, 0] = (⟨2, 1, 3, 1, 0⟩, -1, 0, 0) := by decide +kernel
theorem ex_play1g : playG (twoR true) exP1 = some (judgeK (twoR true) exP1 2).1 := by
 unfold playG
 rw [if_pos (by decide +kernel)]
 have : (judgeK (twoR true) exP1 exP1.length).2 = [] := by decide +kernel
 rw [this]
 rfl
theorem play1_ok {w w' : World} {e : Ending} (h : PlayOk (twoR true) exP1 w e w') : Below w.heap.size w w' ∧ ∃ al ad ai aw cl cd ci cw nl nd ni nx, e = .returned (.tuple #[.agg #[.slice al nl cl, .slice ad nd cd, .slice ai ni ci, .int .i64 nx, .int .i64 1, .bool true, .slice aw 2 cw], .int .i64 0, .int .i64 0]) := by
 obtain ⟨hB, vs, rfl, hm⟩ := h
 rw [ex_play1g] at hm
 obtain ⟨vl, vd, vi, vw, rfl, h1, h2, h3, h4, _⟩ := hm
 obtain ⟨al, cl, rfl, _⟩ := h1
 obtain ⟨ad, cd, rfl, _⟩ := h2
 obtain ⟨ai, ci, rfl, _⟩ := h3
 obtain ⟨aw, cw, rfl, _⟩ := h4
 exact ⟨hB, al, ad, ai, aw, cl, cd, ci, cw, _, _, _, _, by rw [ex_play1, ex_play1o.1, ex_play1o.2, ex_play1n]⟩
theorem play2_ok {w w' : World} {e : Ending} (h : PlayOk (twoR false) exP2 w e w') : Below w.heap.size w w' ∧ e = .returned (.tuple #[zeroSt, .int .i64 1, .int .i64 30]) := by
 obtain ⟨hB, vs, rfl, hm⟩ := h
 rw [ex_play2g] at hm
 rw [ex_play2, hm]
 exact ⟨hB, rfl⟩
theorem judge_ok {w w' : World} {e : Ending} (h : JudgeOk (twoR false) exJ w e w') : Below w.heap.size w w' ∧ ∃ al ad ai aw af cl cd ci cw cf nd ni nw rd ov, e = .returned (.tuple #[.agg #[.slice al 2 cl, .slice ad nd cd, .slice ai ni ci, .int .i64 0, .int .i64 rd, .bool ov, .slice aw nw cw], .slice af 2 cf, .int .i64 0]) ∧
  Sl w' 1 eI (.slice al 2 cl) [98, 41] ∧ Sl w' 3 encF (.slice af 2 cf) [(1, -1, 30), (2, -1, 31)] := by
 obtain ⟨hB, vs, vf, rfl, hm, _⟩ := h
 obtain ⟨hm, hf, _⟩ := hm ex_judge
 rw [show exJ.length = 4 from rfl, ex_judgeF] at hf
 rw [show exJ.length = 4 from rfl] at hm
 obtain ⟨vl, vd, vi, vw, rfl, h1, h2, h3, h4, _⟩ := hm
 rw [ex_judgeL.1] at h1
 obtain ⟨al, cl, rfl, h1⟩ := h1
 obtain ⟨ad, cd, rfl, _⟩ := h2
 obtain ⟨ai, ci, rfl, _⟩ := h3
 obtain ⟨aw, cw, rfl, _⟩ := h4
 obtain ⟨af, cf, rfl, hf⟩ := hf
 exact ⟨hB, al, ad, ai, aw, af, cl, cd, ci, cw, cf, _, _, _, _, _, by rw [ex_judge, ex_judgeL.2]; rfl, ⟨al, cl, rfl, h1⟩, ⟨af, cf, rfl, hf⟩⟩
theorem two_sl {W : World} {b : Nat} (eq : Bool) (h : W.heap[b]? = some (.cells #[.int .i64 101, .int .i64 0, .int .i64 1, .int .i64 101, .int .i64 0, .int .i64 1] 24 (0, 0))) : Sl W 3 encC (.slice (some ⟨b, 0, none⟩) 2 2) (twoR eq).counts :=
 sl_blk (enc := encC) (xs := [(101, 0, 1), (101, 0, 1)]) (fun _ => rfl) (by decide) h 2
theorem bedsB {xs : List Int} (h : xs.all (fun x => decide (-9223372036854775808 ≤ x) && decide (x ≤ 9223372036854775807)) = true) : ∀ b ∈ xs, -9223372036854775808 ≤ b ∧ b ≤ 9223372036854775807 := by
 intro b hb
 have := List.all_eq_true.1 h b hb
 simpa using this
theorem beds3 {W : World} {k : Nat} {x y z : Int} (h : W.heap[k]? = some (.cells #[.int .i64 x, .int .i64 y, .int .i64 z] 34 (0, 0))) : Sl W 1 eI (.slice (some ⟨k, 0, none⟩) 3 3) [x, y, z] := sl_blk (enc := eI) (xs := [x, y, z]) (fun _ => rfl) (by simp) h 3
theorem beds2 {W : World} {k : Nat} {x y : Int} (h : W.heap[k]? = some (.cells #[.int .i64 x, .int .i64 y] 34 (0, 0))) : Sl W 1 eI (.slice (some ⟨k, 0, none⟩) 2 2) [x, y] := sl_blk (enc := eI) (xs := [x, y]) (fun _ => rfl) (by simp) h 2
end
end Go.Proofs.Ytpgamgbfjcmagaa
