/- Board, part B: the order of directions; that all of some numbers lie within bounds; whether a point is valid. -/
import Derived.Test.YtgceffpkhmjmkaaGreatA
import Derived.Deep.RegionHeld3
set_option linter.unusedVariables false
set_option linter.unusedSimpArgs false
namespace Go.Proofs.YtgceffpkhmjmkaaGreat
open Go.RowKit Go.Shelf

set_option maxRecDepth 100000 in
set_option maxHeartbeats 1000000 in
theorem sooner_any (d a b : Int × Int) (w : World) (hd : Near d) (ha : Near a) (hb : Near b) :
    Calls Tryz.prog 90 #[pt d, pt a, pt b] w (Ret (.bool (sooner d a b)) w) := by
  have p1 := fun W => partTo_any d a W hd ha
  have p2 := fun W => partTo_any d b W hd hb
  have p3 := fun W => partTo_any a b W ha hb
  unfold sooner
  unfold pt at *
  generalize partTo d a = x at p1 ⊢
  generalize partTo d b = y at p2 ⊢
  generalize partTo a b = z at p3 ⊢
  obtain ⟨dx, dy⟩ := d
  obtain ⟨ax, ay⟩ := a
  obtain ⟨bx, b_y⟩ := b
  simp only [] at *
  clear hd ha hb
  by_cases hxy : x = y
  · subst hxy
    rw [if_pos rfl]
    go_enter Tryz.func90, Tryz.ntmps90
    go_wp2_with fail
    go_region_held3 (fun w' => Below w.heap.size w w' ∧ w.heap.size + 3 ≤ w'.heap.size ∧ w'.cell? ⟨w.heap.size, 0, none⟩ = some (.int .i64 dx) ∧ w'.cell? ⟨w.heap.size, 1, none⟩ = some (.int .i64 dy) ∧ w'.cell? ⟨w.heap.size + 1, 0, none⟩ = some (.int .i64 ax) ∧ w'.cell? ⟨w.heap.size + 1, 1, none⟩ = some (.int .i64 ay) ∧ w'.cell? ⟨w.heap.size + 1 + 1, 0, none⟩ = some (.int .i64 bx) ∧ w'.cell? ⟨w.heap.size + 1 + 1, 1, none⟩ = some (.int .i64 b_y))
      (first | (refine ⟨by (repeat' (first | exact Below.refl _ _ | assumption | (with_reducible refine Below.drew ?_) | (with_reducible refine Below.setCell ?_ (by (first | (simp; done) | (simp; omega))) _) | (with_reducible refine below_drewN' ?_ _) | (refine Below.alloc ?_ (by (try simp only [World.size_alloc, World.size_drew, World.size_setCell]); omega) _) | (refine Below.trans ?_ (Below.mono (by assumption) (by (try simp only [World.size_alloc, World.size_drew, World.size_setCell]); omega))))), by simp, ?_, ?_, ?_, ?_, ?_, ?_⟩ <;> go_simp) | (go_split_ands; refine ⟨?_, ?_, ?_, ?_, ?_, ?_, ?_, ?_⟩ <;> (first | (exact Below.trans (by assumption) (hb1.mono (by omega))) | (have := hb1.size; omega) | (exact keepc hb1 (by assumption)))))
      (first | (go_at_call 89; (with_reducible refine (p1 _).mono ?_); rintro e w1 ⟨rfl, hb1⟩) | (go_at_call 89; refine (p2 _).mono ?_; rintro e w1 ⟨rfl, hb1⟩))
    go_split_ands
    go_wp2_with (go_at_call 89; (with_reducible refine (p3 _).mono ?_); rintro e w2 ⟨rfl, hb2⟩; (obtain ⟨hc2, hf2⟩ := bcell hb2; have z2 := hb2.size; (try simp only [World.size_alloc, World.size_drew, World.size_setCell] at z2); (try have q2a : w.heap.size < w2.heap.size := by omega); (try have q2b : w.heap.size + 1 < w2.heap.size := by omega); (try have q2c : w.heap.size + 1 + 1 < w2.heap.size := by omega); (try have q2d : w.heap.size + 1 + 1 + 1 < w2.heap.size := by omega); (try have q2e : wr.heap.size < w2.heap.size := by omega); (try have q2f : wr.heap.size + 1 < w2.heap.size := by omega); (try have q2g : w1.heap.size < w2.heap.size := by omega); (try have q2h : w1.heap.size + 1 < w2.heap.size := by omega)))
    go_ret
    exact ⟨rfl, by (repeat' (first | exact Below.refl _ _ | assumption | (with_reducible refine Below.drew ?_) | (with_reducible refine Below.setCell ?_ (by (first | (simp; done) | (simp; omega))) _) | (with_reducible refine below_drewN' ?_ _) | (refine Below.alloc ?_ (by (try simp only [World.size_alloc, World.size_drew, World.size_setCell]); omega) _) | (refine Below.trans ?_ (Below.mono (by assumption) (by (try simp only [World.size_alloc, World.size_drew, World.size_setCell]); omega)))))⟩
  · rw [if_neg hxy]
    go_enter Tryz.func90, Tryz.ntmps90
    go_wp2_with fail
    go_region_held3 (fun w' => Below w.heap.size w w' ∧ w.heap.size + 3 ≤ w'.heap.size ∧ w'.cell? ⟨w.heap.size, 0, none⟩ = some (.int .i64 dx) ∧ w'.cell? ⟨w.heap.size, 1, none⟩ = some (.int .i64 dy) ∧ w'.cell? ⟨w.heap.size + 1, 0, none⟩ = some (.int .i64 ax) ∧ w'.cell? ⟨w.heap.size + 1, 1, none⟩ = some (.int .i64 ay) ∧ w'.cell? ⟨w.heap.size + 1 + 1, 0, none⟩ = some (.int .i64 bx) ∧ w'.cell? ⟨w.heap.size + 1 + 1, 1, none⟩ = some (.int .i64 b_y))
      (first | (refine ⟨by (repeat' (first | exact Below.refl _ _ | assumption | (with_reducible refine Below.drew ?_) | (with_reducible refine Below.setCell ?_ (by (first | (simp; done) | (simp; omega))) _) | (with_reducible refine below_drewN' ?_ _) | (refine Below.alloc ?_ (by (try simp only [World.size_alloc, World.size_drew, World.size_setCell]); omega) _) | (refine Below.trans ?_ (Below.mono (by assumption) (by (try simp only [World.size_alloc, World.size_drew, World.size_setCell]); omega))))), by simp, ?_, ?_, ?_, ?_, ?_, ?_⟩ <;> go_simp) | (go_split_ands; refine ⟨?_, ?_, ?_, ?_, ?_, ?_, ?_, ?_⟩ <;> (first | (exact Below.trans (by assumption) (hb1.mono (by omega))) | (have := hb1.size; omega) | (exact keepc hb1 (by assumption)))))
      (first | (go_at_call 89; (with_reducible refine (p1 _).mono ?_); rintro e w1 ⟨rfl, hb1⟩) | (go_at_call 89; refine (p2 _).mono ?_; rintro e w1 ⟨rfl, hb1⟩))
    go_split_ands
    go_wp2_with (go_at_call 89; (with_reducible refine (p3 _).mono ?_); rintro e w2 ⟨rfl, hb2⟩; (obtain ⟨hc2, hf2⟩ := bcell hb2; have z2 := hb2.size; (try simp only [World.size_alloc, World.size_drew, World.size_setCell] at z2); (try have q2a : w.heap.size < w2.heap.size := by omega); (try have q2b : w.heap.size + 1 < w2.heap.size := by omega); (try have q2c : w.heap.size + 1 + 1 < w2.heap.size := by omega); (try have q2d : w.heap.size + 1 + 1 + 1 < w2.heap.size := by omega); (try have q2e : wr.heap.size < w2.heap.size := by omega); (try have q2f : wr.heap.size + 1 < w2.heap.size := by omega); (try have q2g : w1.heap.size < w2.heap.size := by omega); (try have q2h : w1.heap.size + 1 < w2.heap.size := by omega)))
    go_goals
    trace_state
    go_ret
    exact ⟨rfl, by (repeat' (first | exact Below.refl _ _ | assumption | (with_reducible refine Below.drew ?_) | (with_reducible refine Below.setCell ?_ (by (first | (simp; done) | (simp; omega))) _) | (with_reducible refine below_drewN' ?_ _) | (refine Below.alloc ?_ (by (try simp only [World.size_alloc, World.size_drew, World.size_setCell]); omega) _) | (refine Below.trans ?_ (Below.mono (by assumption) (by (try simp only [World.size_alloc, World.size_drew, World.size_setCell]); omega)))))⟩
end Go.Proofs.YtgceffpkhmjmkaaGreat
