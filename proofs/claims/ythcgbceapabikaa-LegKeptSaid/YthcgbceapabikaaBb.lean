/- Leg, part Bb: the reference's functions on beds. -/
import Derived.Test.YthcgbceapabikaaBa
set_option linter.unusedVariables false
set_option linter.unusedSimpArgs false
namespace Go.Proofs.Ythcgbceapabikaa
open Go.RowKit Go.Shelf

set_option maxRecDepth 100000 in
set_option maxHeartbeats 1000000 in
theorem rscore_any (b : Int) (w : World) (h0 : 0 ≤ b) (h1 : b ≤ 420) : Calls Try.prog 45 #[.int .i64 b] w (Ret (.int .i64 (sc b)) w) := by
  obtain ⟨s0, s1⟩ := sc_bd h0 h1
  have d1 : Int.tdiv b 100 = b / 100 := Int.tdiv_eq_ediv_of_nonneg h0
  have d2 : Int.tmod b 100 = b % 100 := Int.tmod_eq_emod_of_nonneg h0
  unfold sc at *
  have e1 : IntKind.i64.wrap (b / 100) = b / 100 := IntWalk.i64_in _ (by omega)
  have e2 : IntKind.i64.wrap (b / 100 * (b % 100)) = b / 100 * (b % 100) := IntWalk.i64_in _ (by omega)
  generalize b / 100 = f at *
  generalize b % 100 = g at *
  go_enter Try.func45, Try.ntmps45
  go_wp2
  go_ret
  exact ⟨rfl, by (repeat' (first | exact Below.refl _ _ | assumption | (with_reducible refine Below.drew ?_) | (with_reducible refine Below.setCell ?_ (by (first | (simp; done) | (simp; omega))) _) | (with_reducible refine below_drewN' ?_ _) | (refine Below.alloc ?_ (by (try simp only [World.size_alloc, World.size_drew, World.size_setCell]); omega) _) | (refine Below.trans ?_ (Below.mono (by assumption) (by (try simp only [World.size_alloc, World.size_drew, World.size_setCell]); omega)))))⟩

set_option maxRecDepth 100000 in
set_option maxHeartbeats 1000000 in
theorem rbed_any (b : Int) (w : World) (h1 : -9223372036854775808 ≤ b) (h2 : b ≤ 9223372036854775807) :
    Calls Try.prog 43 #[.int .i64 b] w (Ret (.bool (vbed b)) w) := by
  unfold vbed
  have y1 := fun W => rin_any (fac b) 1 4 W
  have y2 := fun W => rin_any (num b) 1 20 W
  by_cases c0 : b = 0
  · subst c0
    simp only [decide_true, Bool.true_or]
    go_enter Try.func43, Try.ntmps43
    go_wp2
    go_ret
    exact ⟨rfl, by (repeat' (first | exact Below.refl _ _ | assumption | (with_reducible refine Below.drew ?_) | (with_reducible refine Below.setCell ?_ (by (first | (simp; done) | (simp; omega))) _) | (with_reducible refine below_drewN' ?_ _) | (refine Below.alloc ?_ (by (try simp only [World.size_alloc, World.size_drew, World.size_setCell]); omega) _) | (refine Below.trans ?_ (Below.mono (by assumption) (by (try simp only [World.size_alloc, World.size_drew, World.size_setCell]); omega)))))⟩
  by_cases c1 : b = 125
  · subst c1
    simp only [decide_true, Bool.true_or, Bool.or_true]
    go_enter Try.func43, Try.ntmps43
    go_wp2
    go_ret
    exact ⟨rfl, by (repeat' (first | exact Below.refl _ _ | assumption | (with_reducible refine Below.drew ?_) | (with_reducible refine Below.setCell ?_ (by (first | (simp; done) | (simp; omega))) _) | (with_reducible refine below_drewN' ?_ _) | (refine Below.alloc ?_ (by (try simp only [World.size_alloc, World.size_drew, World.size_setCell]); omega) _) | (refine Below.trans ?_ (Below.mono (by assumption) (by (try simp only [World.size_alloc, World.size_drew, World.size_setCell]); omega)))))⟩
  by_cases c2 : b = 225
  · subst c2
    simp only [decide_true, Bool.true_or, Bool.or_true]
    go_enter Try.func43, Try.ntmps43
    go_wp2
    go_ret
    exact ⟨rfl, by (repeat' (first | exact Below.refl _ _ | assumption | (with_reducible refine Below.drew ?_) | (with_reducible refine Below.setCell ?_ (by (first | (simp; done) | (simp; omega))) _) | (with_reducible refine below_drewN' ?_ _) | (refine Below.alloc ?_ (by (try simp only [World.size_alloc, World.size_drew, World.size_setCell]); omega) _) | (refine Below.trans ?_ (Below.mono (by assumption) (by (try simp only [World.size_alloc, World.size_drew, World.size_setCell]); omega)))))⟩
  simp only [c0, c1, c2, decide_false, Bool.false_or]
  have b0 : (b == 0) = false := by simpa using c0
  have b1 : (b == 125) = false := by simpa using c1
  have b2 : (b == 225) = false := by simpa using c2
  unfold fac num at *
  generalize inb 1 4 (b.tdiv 100) = r1 at *
  generalize inb 1 20 (b.tmod 100) = r2 at *
  cases r1 with
  | true =>
    rw [Bool.true_and]
    go_enter Try.func43, Try.ntmps43
    go_wp2_with (first | (go_at_call 42; (with_reducible refine (y1 _).mono ?_); rintro e w1 ⟨rfl, hb1⟩; (obtain ⟨hc1, hf1⟩ := bcell hb1; have z1 := hb1.size; (try simp only [World.size_alloc, World.size_drew, World.size_setCell] at z1); (try have q1a : w.heap.size < w1.heap.size := by omega); (try have q1b : w.heap.size + 1 < w1.heap.size := by omega); (try have q1c : w.heap.size + 1 + 1 < w1.heap.size := by omega); (try have q1d : w.heap.size + 1 + 1 + 1 < w1.heap.size := by omega); (try have q1e : wr.heap.size < w1.heap.size := by omega); (try have q1f : wr.heap.size + 1 < w1.heap.size := by omega))) | (go_at_call 42; (with_reducible refine (y2 _).mono ?_); rintro e w2 ⟨rfl, hb2⟩; (obtain ⟨hc2, hf2⟩ := bcell hb2; have z2 := hb2.size; (try simp only [World.size_alloc, World.size_drew, World.size_setCell] at z2); (try have q2a : w.heap.size < w2.heap.size := by omega); (try have q2b : w.heap.size + 1 < w2.heap.size := by omega); (try have q2c : w.heap.size + 1 + 1 < w2.heap.size := by omega); (try have q2d : w.heap.size + 1 + 1 + 1 < w2.heap.size := by omega); (try have q2e : wr.heap.size < w2.heap.size := by omega); (try have q2f : wr.heap.size + 1 < w2.heap.size := by omega); (try have q2g : w1.heap.size < w2.heap.size := by omega); (try have q2h : w1.heap.size + 1 < w2.heap.size := by omega))))
    go_ret
    exact ⟨rfl, by (repeat' (first | exact Below.refl _ _ | assumption | (with_reducible refine Below.drew ?_) | (with_reducible refine Below.setCell ?_ (by (first | (simp; done) | (simp; omega))) _) | (with_reducible refine below_drewN' ?_ _) | (refine Below.alloc ?_ (by (try simp only [World.size_alloc, World.size_drew, World.size_setCell]); omega) _) | (refine Below.trans ?_ (Below.mono (by assumption) (by (try simp only [World.size_alloc, World.size_drew, World.size_setCell]); omega)))))⟩
  | false =>
    rw [Bool.false_and]
    go_enter Try.func43, Try.ntmps43
    go_wp2_with (go_at_call 42; (with_reducible refine (y1 _).mono ?_); rintro e w1 ⟨rfl, hb1⟩; (obtain ⟨hc1, hf1⟩ := bcell hb1; have z1 := hb1.size; (try simp only [World.size_alloc, World.size_drew, World.size_setCell] at z1); (try have q1a : w.heap.size < w1.heap.size := by omega); (try have q1b : w.heap.size + 1 < w1.heap.size := by omega); (try have q1c : w.heap.size + 1 + 1 < w1.heap.size := by omega); (try have q1d : w.heap.size + 1 + 1 + 1 < w1.heap.size := by omega); (try have q1e : wr.heap.size < w1.heap.size := by omega); (try have q1f : wr.heap.size + 1 < w1.heap.size := by omega)))
    go_ret
    exact ⟨rfl, by (repeat' (first | exact Below.refl _ _ | assumption | (with_reducible refine Below.drew ?_) | (with_reducible refine Below.setCell ?_ (by (first | (simp; done) | (simp; omega))) _) | (with_reducible refine below_drewN' ?_ _) | (refine Below.alloc ?_ (by (try simp only [World.size_alloc, World.size_drew, World.size_setCell]); omega) _) | (refine Below.trans ?_ (Below.mono (by assumption) (by (try simp only [World.size_alloc, World.size_drew, World.size_setCell]); omega)))))⟩
end Go.Proofs.Ythcgbceapabikaa
