/- Board, part Ug: the calls of the document's examples return what it says. -/
import Derived.Test.YtgceffpkhmjmkaaGreatUf
import Derived.Test.YtgceffpkhmjmkaaGreatUc
import Derived.Test.YtgceffpkhmjmkaaGreatW
import Derived.Test.YtgceffpkhmjmkaaGreatY
set_option linter.unusedVariables false
set_option linter.unusedSimpArgs false
namespace Go.Proofs.YtgceffpkhmjmkaaGreat
open Go.RowKit Go.Shelf

theorem four_chk0 : chk (fourB 0) = 0 := by decide +kernel
theorem four_bed0 : bedR (fourB 0) (500, 500) = .tuple #[.int .i64 106, .bool false, .int .i64 0] := by
  have h1 : chk (fourB 0) = 0 := by decide +kernel
  have h2 : vpt (500, 500) = true := by decide +kernel
  have h3 : bedW (fourB 0) (500, 500) = 106 := by decide +kernel
  have h4 : onWire (fourB 0) (500, 500) = false := by decide +kernel
  unfold bedR; rw [if_pos h1, if_pos h2, h3, h4]
theorem four_bed1 : bedR (fourB 10) (500, 490) = .tuple #[.int .i64 0, .bool true, .int .i64 0] := by
  have h1 : chk (fourB 10) = 0 := by decide +kernel
  have h2 : vpt (500, 490) = true := by decide +kernel
  have h3 : bedW (fourB 10) (500, 490) = 0 := by decide +kernel
  have h4 : onWire (fourB 10) (500, 490) = true := by decide +kernel
  unfold bedR; rw [if_pos h1, if_pos h2, h3, h4]
theorem four_bed2 : bedR (fourB 10) (500, 485) = .tuple #[.int .i64 106, .bool false, .int .i64 0] := by
  have h1 : chk (fourB 10) = 0 := by decide +kernel
  have h2 : vpt (500, 485) = true := by decide +kernel
  have h3 : bedW (fourB 10) (500, 485) = 106 := by decide +kernel
  have h4 : onWire (fourB 10) (500, 485) = false := by decide +kernel
  unfold bedR; rw [if_pos h1, if_pos h2, h3, h4]
theorem four_beds : bedsOf (valsOf (fourB 0) 59 0 1 (2 * 1)) = [125, 225] := by decide +kernel
theorem four_planM1 : planM [10, 0, 0, 0] [[9, 1, 1, 1]] = 11 := by decide +kernel
theorem four_bestK : bestK [10, 0, 0, 0] [9, 1, 1, 1] = 1 := by decide +kernel
theorem four_planM2 : planM [10, 0, 0, 0] [[9, 1, 1, 1], [9, 1, 1, 1]] = 12 := by decide +kernel
theorem four_plan2 : digI 4 2 (bestP [10, 0, 0, 0] [[9, 1, 1, 1], [9, 1, 1, 1]]) = [1, 2] := by decide +kernel
theorem four_err1 (v : Value) : wErr ((fourB 0).nums.length : Nat) [10, 0, 0, 0] [(v, [9, 1, 1, 1])] = 0 := by rfl
theorem four_err2 (v u : Value) : wErr ((fourB 0).nums.length : Nat) [10, 0, 0, 0] [(v, [9, 1, 1, 1]), (u, [9, 1, 1, 1])] = 0 := by rfl

theorem sl_four (W : World) (k : Nat) (hk : k = W.heap.size) (t : TypeId) (x y z u : Int) : Sl (W.alloc (.cells #[.int .i64 x, .int .i64 y, .int .i64 z, .int .i64 u] t)) 1 eI (.slice (some ⟨k, 0, none⟩) 4 4) [x, y, z, u] := by
  subst hk
  refine sl_lit (k := 1) (enc := eI) (xs := [x, y, z, u]) (fun _ => rfl) (by simp) (by simp) ?_ 4
  intro j v h
  go_simp
  simpa using h

set_option maxRecDepth 100000 in
set_option maxHeartbeats 4000000 in
theorem known_any (w : World) : Calls Tryz.prog 8 #[] w (Ret (.bool true) w) := by
  have y1 : ∀ v w, BrdAt w v (fourB 0) → Calls Tryz.prog 11 #[v, .agg #[.int .i64 500, .int .i64 500]] w (Ret (.tuple #[.int .i64 106, .bool false, .int .i64 0]) w) := fun v w h => by
    have := Bed_any v (fourB 0) (500, 500) w h; rw [four_bed0] at this; exact this
  have y2 : ∀ v w, BrdAt w v (fourB 10) → Calls Tryz.prog 11 #[v, .agg #[.int .i64 500, .int .i64 490]] w (Ret (.tuple #[.int .i64 0, .bool true, .int .i64 0]) w) := fun v w h => by
    have := Bed_any v (fourB 10) (500, 490) w h; rw [four_bed1] at this; exact this
  have y3 : ∀ v w, BrdAt w v (fourB 10) → Calls Tryz.prog 11 #[v, .agg #[.int .i64 500, .int .i64 485]] w (Ret (.tuple #[.int .i64 106, .bool false, .int .i64 0]) w) := fun v w h => by
    have := Bed_any v (fourB 10) (500, 485) w h; rw [four_bed2] at this; exact this
  have y4 : ∀ v w, BrdAt w v (fourB 0) → Calls Tryz.prog 21 #[v, .agg #[.int .i64 59, .int .i64 60, .int .i64 0, .int .i64 0]] w (BedsOk [125, 225] w) := fun v w h => by
    have := Beds_ok v (fourB 0) 59 60 0 0 2 1 w h four_chk0 (by decide +kernel) (by decide +kernel) rfl rfl (by decide); rw [four_beds] at this; exact this
  have y5 : ∀ v u1 u2 w, BrdAt w v (fourB 0) → Sl w 1 eI u1 [10, 0, 0, 0] → Sl w 1 eI u2 [9, 1, 1, 1] → Calls Tryz.prog 28 #[v, u1, u2] w (Ret (.tuple #[.int .i64 1, .int .i64 11, .int .i64 0]) w) := fun v u1 u2 w h h1 h2 => by
    have := Best_ok v u1 u2 (fourB 0) _ _ w h h1 h2 four_chk0 (four_err1 _) (by rw [four_planM1]; decide); rw [four_planM1, four_bestK] at this; exact this
  have y6 : ∀ v u1 u2 u3 vs w, BrdAt w v (fourB 0) → Sl w 1 eI u1 [10, 0, 0, 0] → Sl w 1 eI u2 [9, 1, 1, 1] → Sl w 1 eI u3 [9, 1, 1, 1] → Sl w 1 eR vs [(u2, [9, 1, 1, 1]), (u3, [9, 1, 1, 1])] → Calls Tryz.prog 35 #[v, u1, vs] w fun e w' => ∃ g c, e = .returned (.tuple #[.slice (some ⟨g, 0, none⟩) 2 c, .int .i64 12, .int .i64 0]) ∧ Sl w' 1 eI (.slice (some ⟨g, 0, none⟩) 2 c) [1, 2] ∧ Below w.heap.size w w' := fun v u1 u2 u3 vs w h h1 h2 h3 h4 => by
    have := Plan_ok v u1 vs (fourB 0) _ [(u2, [9, 1, 1, 1]), (u3, [9, 1, 1, 1])] w h h1 h4 (by intro x hx; simp at hx; rcases hx with rfl | rfl; exact h2; exact h3) four_chk0 (by simp) (by simp) (four_err2 _ _) (by show planM _ [[9, 1, 1, 1], [9, 1, 1, 1]] ≤ _; rw [four_planM2]; decide)
    unfold PlanOk at this
    simp only [List.map_cons, List.map_nil] at this
    rw [four_planM2] at this
    simp only [List.length_cons, List.length_nil, Nat.reduceAdd] at this
    rw [four_plan2] at this
    exact this
  go_enter Tryz.func8, Tryz.ntmps8
  go_wp2_with fail
  refine (four_any 0 _).mono ?_
  rintro e w1 ⟨g1, g2, g3, rfl, hr1, hb1⟩
  go_wp2_with fail
  refine (y1 _ _ hr1).mono ?_
  rintro e w2 ⟨rfl, hb2⟩
  have B2 : Aside (Below w.heap.size w w2) := hb1.trans (hb2.mono hb1.size)
  clear hr1 hb1 hb2
  go_wp2_with fail
  refine (four_any 10 _).mono ?_
  rintro e w3 ⟨g4, g5, g6, rfl, hr3, hb3⟩
  go_wp2_with fail
  refine (y2 _ _ hr3).mono ?_
  rintro e w4 ⟨rfl, hb4⟩
  have B4 : Aside (Below w.heap.size w w4) := (B2.out.trans (hb3.mono B2.out.size)).trans (hb4.mono (Nat.le_trans B2.out.size hb3.size))
  clear hr3 hb3 hb4
  go_wp2_with fail
  refine (four_any 10 _).mono ?_
  rintro e w5 ⟨g7, g8, g9, rfl, hr5, hb5⟩
  go_wp2_with fail
  refine (y3 _ _ hr5).mono ?_
  rintro e w6 ⟨rfl, hb6⟩
  have B6 : Aside (Below w.heap.size w w6) := (B4.out.trans (hb5.mono B4.out.size)).trans (hb6.mono (Nat.le_trans B4.out.size hb5.size))
  clear hr5 hb5 hb6
  go_wp2_with fail
  refine (four_any 0 _).mono ?_
  rintro e w7 ⟨g10, g11, g12, rfl, hr7, hb7⟩
  go_wp2_with fail
  refine (y4 _ _ hr7).mono ?_
  rintro e w8 ⟨vl, rfl, hs8, hb8⟩
  have B8 : Aside (Below w.heap.size w w8) := (B6.out.trans (hb7.mono B6.out.size)).trans (hb8.mono (Nat.le_trans B6.out.size hb7.size))
  have S8 : Aside (Sl w8 1 eI vl [125, 225]) := hs8
  clear hr7 hb7 hb8 hs8
  go_wp2_with fail
  refine (four_any 0 _).mono ?_
  rintro e w9 ⟨g13, g14, g15, rfl, hr9, hb9⟩
  have B9 : Aside (Below w.heap.size w w9) := B8.out.trans (hb9.mono B8.out.size)
  have S9 : Aside (Sl w9 1 eI vl [125, 225]) := S8.out.below hb9
  clear hb9
  go_wp2_with fail
  have A9 : Below w9.heap.size w9 ((w9.alloc (.cells #[.int .i64 10, .int .i64 0, .int .i64 0, .int .i64 0] 3)).alloc (.cells #[.int .i64 9, .int .i64 1, .int .i64 1, .int .i64 1] 3)) := by (repeat' (first | exact Below.refl _ _ | assumption | (with_reducible refine Below.drew ?_) | (with_reducible refine Below.setCell ?_ (by (first | (simp; done) | (simp; omega))) _) | (with_reducible refine below_drewN' ?_ _) | (refine Below.alloc ?_ (by (try simp only [World.size_alloc, World.size_drew, World.size_setCell]); omega) _) | (refine Below.trans ?_ (Below.mono (by assumption) (by (try simp only [World.size_alloc, World.size_drew, World.size_setCell]); omega)))))
  refine (y5 _ _ _ _ (hr9.below A9) ((sl_four w9 _ rfl _ 10 0 0 0).below (by (repeat' (first | exact Below.refl _ _ | assumption | (with_reducible refine Below.drew ?_) | (with_reducible refine Below.setCell ?_ (by (first | (simp; done) | (simp; omega))) _) | (with_reducible refine below_drewN' ?_ _) | (refine Below.alloc ?_ (by (try simp only [World.size_alloc, World.size_drew, World.size_setCell]); omega) _) | (refine Below.trans ?_ (Below.mono (by assumption) (by (try simp only [World.size_alloc, World.size_drew, World.size_setCell]); omega))))))) (sl_four _ _ (by simp) _ 9 1 1 1)).mono ?_
  rintro e w10 ⟨rfl, hb10⟩
  have B10 : Aside (Below w.heap.size w w10) := B9.out.trans ((A9.trans (hb10.mono A9.size)).mono B9.out.size)
  have S10 : Aside (Sl w10 1 eI vl [125, 225]) := (S9.out.below A9).below hb10
  clear hr9 A9 hb10 S9 S8 B8 B6 B4 B2
  go_wp2_with fail
  refine (four_any 0 _).mono ?_
  rintro e w11 ⟨g16, g17, g18, rfl, hr11, hb11⟩
  have B11 : Aside (Below w.heap.size w w11) := B10.out.trans (hb11.mono B10.out.size)
  have S11 : Aside (Sl w11 1 eI vl [125, 225]) := S10.out.below hb11
  clear hb11 S10 B10
  go_wp2_with fail
  have A11 : Below w11.heap.size w11 ((((w11.alloc (.cells #[.int .i64 10, .int .i64 0, .int .i64 0, .int .i64 0] 3)).alloc (.cells #[.int .i64 9, .int .i64 1, .int .i64 1, .int .i64 1] 3)).alloc (.cells #[.int .i64 9, .int .i64 1, .int .i64 1, .int .i64 1] 3)).alloc (.cells #[.slice (some ⟨w11.heap.size + 1, 0, none⟩) 4 4, .slice (some ⟨w11.heap.size + 1 + 1, 0, none⟩) 4 4] 24)) := by (repeat' (first | exact Below.refl _ _ | assumption | (with_reducible refine Below.drew ?_) | (with_reducible refine Below.setCell ?_ (by (first | (simp; done) | (simp; omega))) _) | (with_reducible refine below_drewN' ?_ _) | (refine Below.alloc ?_ (by (try simp only [World.size_alloc, World.size_drew, World.size_setCell]); omega) _) | (refine Below.trans ?_ (Below.mono (by assumption) (by (try simp only [World.size_alloc, World.size_drew, World.size_setCell]); omega)))))
  refine (y6 _ _ (.slice (some ⟨w11.heap.size + 1, 0, none⟩) 4 4) (.slice (some ⟨w11.heap.size + 1 + 1, 0, none⟩) 4 4) _ _ (hr11.below A11) ((sl_four w11 _ rfl _ 10 0 0 0).below (by (repeat' (first | exact Below.refl _ _ | assumption | (with_reducible refine Below.drew ?_) | (with_reducible refine Below.setCell ?_ (by (first | (simp; done) | (simp; omega))) _) | (with_reducible refine below_drewN' ?_ _) | (refine Below.alloc ?_ (by (try simp only [World.size_alloc, World.size_drew, World.size_setCell]); omega) _) | (refine Below.trans ?_ (Below.mono (by assumption) (by (try simp only [World.size_alloc, World.size_drew, World.size_setCell]); omega))))))) ((sl_four _ _ (by simp) _ 9 1 1 1).below (w := (w11.alloc (.cells #[.int .i64 10, .int .i64 0, .int .i64 0, .int .i64 0] 3)).alloc (.cells #[.int .i64 9, .int .i64 1, .int .i64 1, .int .i64 1] 3)) (by (repeat' (first | exact Below.refl _ _ | assumption | (with_reducible refine Below.drew ?_) | (with_reducible refine Below.setCell ?_ (by (first | (simp; done) | (simp; omega))) _) | (with_reducible refine below_drewN' ?_ _) | (refine Below.alloc ?_ (by (try simp only [World.size_alloc, World.size_drew, World.size_setCell]); omega) _) | (refine Below.trans ?_ (Below.mono (by assumption) (by (try simp only [World.size_alloc, World.size_drew, World.size_setCell]); omega))))))) ((sl_four _ _ (by simp) _ 9 1 1 1).below (w := ((w11.alloc (.cells #[.int .i64 10, .int .i64 0, .int .i64 0, .int .i64 0] 3)).alloc (.cells #[.int .i64 9, .int .i64 1, .int .i64 1, .int .i64 1] 3)).alloc (.cells #[.int .i64 9, .int .i64 1, .int .i64 1, .int .i64 1] 3)) (by (repeat' (first | exact Below.refl _ _ | assumption | (with_reducible refine Below.drew ?_) | (with_reducible refine Below.setCell ?_ (by (first | (simp; done) | (simp; omega))) _) | (with_reducible refine below_drewN' ?_ _) | (refine Below.alloc ?_ (by (try simp only [World.size_alloc, World.size_drew, World.size_setCell]); omega) _) | (refine Below.trans ?_ (Below.mono (by assumption) (by (try simp only [World.size_alloc, World.size_drew, World.size_setCell]); omega))))))) ?_).mono ?_
  · refine sl_lit (k := 1) (enc := eR) (xs := [((.slice (some ⟨w11.heap.size + 1, 0, none⟩) 4 4 : Value), ([9, 1, 1, 1] : List Int)), (.slice (some ⟨w11.heap.size + 1 + 1, 0, none⟩) 4 4, [9, 1, 1, 1])]) (fun _ => rfl) (by simp) (by simp) ?_ 2
    intro j v h
    go_simp
    simpa using h
  rintro e w12 ⟨gp, cp, rfl, hs12, hb12⟩
  have B12 : Aside (Below w.heap.size w w12) := B11.out.trans ((A11.trans (hb12.mono A11.size)).mono B11.out.size)
  have S12 : Aside (Sl w12 1 eI vl [125, 225]) := (S11.out.below A11).below hb12
  have P12 : Aside (Sl w12 1 eI (.slice (some ⟨gp, 0, none⟩) 2 cp) [1, 2]) := hs12
  clear hr11 A11 hb12 S11 B11 hs12 B9
  go_wp2_with fail
  have z7 : ∀ W, Sl W 1 eI vl [125, 225] → ∀ u, Sl W 1 eI u [125, 225] → Calls Tryz.prog 15 #[vl, u] W (Ret (.bool true) W) := fun W h1 u h2 => by
    have := equal_any vl u _ _ W h1 h2; rw [decide_eq_true rfl] at this; exact this
  have z8 : ∀ W v, Sl W 1 eI v [1, 2] → ∀ u, Sl W 1 eI u [1, 2] → Calls Tryz.prog 29 #[v, u] W (Ret (.bool true) W) := fun W v h1 u h2 => by
    have := alike_any v u _ _ W h1 h2; rw [decide_eq_true rfl] at this; exact this
  refine (z7 _ (S12.out.below (by (repeat' (first | exact Below.refl _ _ | assumption | (with_reducible refine Below.drew ?_) | (with_reducible refine Below.setCell ?_ (by (first | (simp; done) | (simp; omega))) _) | (with_reducible refine below_drewN' ?_ _) | (refine Below.alloc ?_ (by (try simp only [World.size_alloc, World.size_drew, World.size_setCell]); omega) _) | (refine Below.trans ?_ (Below.mono (by assumption) (by (try simp only [World.size_alloc, World.size_drew, World.size_setCell]); omega))))))) _ (sl_two w12 _ rfl _ 125 225)).mono ?_
  rintro e w13 ⟨rfl, hb13⟩
  have B13 : Aside (Below w.heap.size w w13) := B12.out.trans ((((Below.refl _ w12).alloc (Nat.le_refl _) _).trans (hb13.mono (by simp))).mono B12.out.size)
  have P13 : Aside (Sl w13 1 eI (.slice (some ⟨gp, 0, none⟩) 2 cp) [1, 2]) := (P12.out.below ((Below.refl _ w12).alloc (Nat.le_refl _) (.cells #[.int .i64 125, .int .i64 225] 34))).below hb13
  clear hb13 P12 S12 z7 B12
  go_wp2_with fail
  refine (z8 _ _ (P13.out.below (by (repeat' (first | exact Below.refl _ _ | assumption | (with_reducible refine Below.drew ?_) | (with_reducible refine Below.setCell ?_ (by (first | (simp; done) | (simp; omega))) _) | (with_reducible refine below_drewN' ?_ _) | (refine Below.alloc ?_ (by (try simp only [World.size_alloc, World.size_drew, World.size_setCell]); omega) _) | (refine Below.trans ?_ (Below.mono (by assumption) (by (try simp only [World.size_alloc, World.size_drew, World.size_setCell]); omega))))))) _ (sl_two w13 _ rfl _ 1 2)).mono ?_
  rintro e w14 ⟨rfl, hb14⟩
  have B14 : Below w.heap.size w w14 := B13.out.trans ((((Below.refl _ w13).alloc (Nat.le_refl _) _).trans (hb14.mono (by simp))).mono B13.out.size)
  clear hb14 P13 z8 B13
  go_wp2
  go_ret
  exact ⟨rfl, B14⟩
end Go.Proofs.YtgceffpkhmjmkaaGreat
