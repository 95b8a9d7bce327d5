/- Leg, part Bc: whether a bed opens a gate, by the reference. -/
import Derived.Test.YthcgbceapabikaaBb
set_option linter.unusedVariables false
set_option linter.unusedSimpArgs false
namespace Go.Proofs.Ythcgbceapabikaa
open Go.RowKit Go.Shelf

theorem vbed_zero {b : Int} (h : vbed b = true) : decide (b ≠ 0) = decide (1 ≤ b / 100) := by
  obtain ⟨h0, h1⟩ := vbed_bd h
  unfold vbed inb at h
  rw [show fac b = b / 100 from Int.tdiv_eq_ediv_of_nonneg h0] at h
  simp only [Bool.or_eq_true, Bool.and_eq_true, decide_eq_true_eq] at h
  rw [decide_eq_decide]
  constructor
  · intro hne; rcases h with ((h | h) | h) | h <;> omega
  · intro hh hz; subst hz; simp at hh
set_option maxRecDepth 100000 in
set_option maxHeartbeats 1000000 in
theorem ropens_any (g b : Int) (w : World) (hb : vbed b = true) (hg : inb 0 2 g = true) : Calls Try.prog 44 #[.int .i64 g, .int .i64 b] w (Ret (.bool (opn g b)) w) := by
  have hz := vbed_zero hb
  obtain ⟨h0, h1⟩ := vbed_bd hb
  have d1 : Int.tdiv b 100 = b / 100 := Int.tdiv_eq_ediv_of_nonneg h0
  have e1 : IntKind.i64.wrap (b / 100) = b / 100 := IntWalk.i64_in _ (by omega)
  unfold inb at hg
  simp only [decide_eq_true_eq] at hg
  unfold opn
  rw [hz]
  clear hz hb
  generalize b / 100 = f at *
  have h3 : g = 0 ∨ g = 1 ∨ g = 2 := by omega
  rcases h3 with rfl | rfl | rfl
  · rw [if_neg (by decide), if_neg (by decide)]
    by_cases hf : 1 ≤ f
    · rw [show decide (1 ≤ f) = true by simp [hf]]
      go_enter Try.func44, Try.ntmps44
      go_wp2
      go_ret
      exact ⟨rfl, by (repeat' (first | exact Below.refl _ _ | assumption | (with_reducible refine Below.drew ?_) | (with_reducible refine Below.setCell ?_ (by (first | (simp; done) | (simp; omega))) _) | (with_reducible refine below_drewN' ?_ _) | (refine Below.alloc ?_ (by (try simp only [World.size_alloc, World.size_drew, World.size_setCell]); omega) _) | (refine Below.trans ?_ (Below.mono (by assumption) (by (try simp only [World.size_alloc, World.size_drew, World.size_setCell]); omega)))))⟩
    · rw [show decide (1 ≤ f) = false by simp [hf]]
      go_enter Try.func44, Try.ntmps44
      go_wp2
      go_ret
      exact ⟨rfl, by (repeat' (first | exact Below.refl _ _ | assumption | (with_reducible refine Below.drew ?_) | (with_reducible refine Below.setCell ?_ (by (first | (simp; done) | (simp; omega))) _) | (with_reducible refine below_drewN' ?_ _) | (refine Below.alloc ?_ (by (try simp only [World.size_alloc, World.size_drew, World.size_setCell]); omega) _) | (refine Below.trans ?_ (Below.mono (by assumption) (by (try simp only [World.size_alloc, World.size_drew, World.size_setCell]); omega)))))⟩
  · rw [if_pos rfl]
    by_cases hf : f = 2
    · rw [show decide (f = 2) = true by simp [hf]]
      subst hf
      go_enter Try.func44, Try.ntmps44
      go_wp2
      go_ret
      exact ⟨rfl, by (repeat' (first | exact Below.refl _ _ | assumption | (with_reducible refine Below.drew ?_) | (with_reducible refine Below.setCell ?_ (by (first | (simp; done) | (simp; omega))) _) | (with_reducible refine below_drewN' ?_ _) | (refine Below.alloc ?_ (by (try simp only [World.size_alloc, World.size_drew, World.size_setCell]); omega) _) | (refine Below.trans ?_ (Below.mono (by assumption) (by (try simp only [World.size_alloc, World.size_drew, World.size_setCell]); omega)))))⟩
    · rw [show decide (f = 2) = false by simp [hf]]
      have hf2 : (f == 2) = false := by simpa using hf
      go_enter Try.func44, Try.ntmps44
      go_wp2
      go_ret
      exact ⟨rfl, by (repeat' (first | exact Below.refl _ _ | assumption | (with_reducible refine Below.drew ?_) | (with_reducible refine Below.setCell ?_ (by (first | (simp; done) | (simp; omega))) _) | (with_reducible refine below_drewN' ?_ _) | (refine Below.alloc ?_ (by (try simp only [World.size_alloc, World.size_drew, World.size_setCell]); omega) _) | (refine Below.trans ?_ (Below.mono (by assumption) (by (try simp only [World.size_alloc, World.size_drew, World.size_setCell]); omega)))))⟩
  · rw [if_neg (by decide), if_pos rfl]
    by_cases hf : 2 ≤ f
    · rw [show decide (2 ≤ f) = true by simp [hf]]
      go_enter Try.func44, Try.ntmps44
      go_wp2
      go_ret
      exact ⟨rfl, by (repeat' (first | exact Below.refl _ _ | assumption | (with_reducible refine Below.drew ?_) | (with_reducible refine Below.setCell ?_ (by (first | (simp; done) | (simp; omega))) _) | (with_reducible refine below_drewN' ?_ _) | (refine Below.alloc ?_ (by (try simp only [World.size_alloc, World.size_drew, World.size_setCell]); omega) _) | (refine Below.trans ?_ (Below.mono (by assumption) (by (try simp only [World.size_alloc, World.size_drew, World.size_setCell]); omega)))))⟩
    · rw [show decide (2 ≤ f) = false by simp [hf]]
      go_enter Try.func44, Try.ntmps44
      go_wp2
      go_ret
      exact ⟨rfl, by (repeat' (first | exact Below.refl _ _ | assumption | (with_reducible refine Below.drew ?_) | (with_reducible refine Below.setCell ?_ (by (first | (simp; done) | (simp; omega))) _) | (with_reducible refine below_drewN' ?_ _) | (refine Below.alloc ?_ (by (try simp only [World.size_alloc, World.size_drew, World.size_setCell]); omega) _) | (refine Below.trans ?_ (Below.mono (by assumption) (by (try simp only [World.size_alloc, World.size_drew, World.size_setCell]); omega)))))⟩
end Go.Proofs.Ythcgbceapabikaa
