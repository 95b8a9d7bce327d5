/- Board, part A: what every contract here says (the answer, and that nothing that lay has turned), and the contracts of the products and parts of directions. Conditions: coordinates of at most a million. -/
import Derived.Test.YtgceffpkhmjmkaaGreatProg
import Derived.WalkKit
import Derived.WalkSpells
import Derived.WalkLawsBesides
import Derived.Deep.LoopGhost
import Derived.Deep.QuietTactic
import Derived.Deep.RegionWith
import Derived.BigQuiet
import Derived.Lib.Hide
import Derived.Lib.SmallJoins
import Derived.Shelf.GgClosure.Gives
set_option linter.unusedVariables false
set_option linter.unusedSimpArgs false
namespace Go.Proofs.YtgceffpkhmjmkaaGreat
open Go.RowKit Go.Shelf

/-- A call that hands back v and turns nothing that lay. -/
def Ret (v : Value) (w : World) (e : Ending) (w' : World) : Prop := e = .returned v ∧ Below w.heap.size w w'

theorem bcell {W w1 : World} (hb : Below W.heap.size W w1) : (∀ b o, b < W.heap.size → w1.cell? ⟨b, o, none⟩ = W.cell? ⟨b, o, none⟩) ∧ (∀ b o, b < W.heap.size → w1.frozen? ⟨b, o, none⟩ = W.frozen? ⟨b, o, none⟩) :=
  ⟨fun b o h => hb.cell (p := ⟨b, o, none⟩) h, fun b o h => hb.frozen (p := ⟨b, o, none⟩) h⟩

/-- What a cell held it holds behind a call that turns nothing. -/
theorem keepc {W w1 : World} {a : Addr} {v : Value} (hb : Below W.heap.size W w1) (h : W.cell? a = some v) : w1.cell? a = some v := (hb.cell (World.block_lt_of_cell? W a h)).trans h

theorem mul_bd (a b M N : Int) (h1 : -M ≤ a) (h2 : a ≤ M) (h3 : -N ≤ b) (h4 : b ≤ N) : -(M * N) ≤ a * b ∧ a * b ≤ M * N := by
  have hM : 0 ≤ M := by omega
  have hN : 0 ≤ N := by omega
  constructor
  · rcases Int.le_total 0 a with h | h
    · have e1 : a * (-N) ≤ a * b := Int.mul_le_mul_of_nonneg_left (by omega) h
      have e2 : a * N ≤ M * N := Int.mul_le_mul_of_nonneg_right h2 hN
      rw [Int.mul_neg] at e1; omega
    · have e1 : a * N ≤ a * b := Int.mul_le_mul_of_nonpos_left h h4
      have e2 : (-M) * N ≤ a * N := Int.mul_le_mul_of_nonneg_right h1 hN
      rw [Int.neg_mul] at e2; omega
  · rcases Int.le_total 0 a with h | h
    · have e1 : a * b ≤ a * N := Int.mul_le_mul_of_nonneg_left h4 h
      have e2 : a * N ≤ M * N := Int.mul_le_mul_of_nonneg_right h2 hN
      omega
    · have e1 : a * b ≤ a * (-N) := Int.mul_le_mul_of_nonpos_left h (by omega)
      have e2 : (-M) * N ≤ a * N := Int.mul_le_mul_of_nonneg_right h1 hN
      rw [Int.mul_neg] at e1; rw [Int.neg_mul] at e2; omega

theorem mul_bd6 (a b : Int) (h1 : -1000000 ≤ a) (h2 : a ≤ 1000000) (h3 : -1000000 ≤ b) (h4 : b ≤ 1000000) : -1000000000000 ≤ a * b ∧ a * b ≤ 1000000000000 := by
  have := mul_bd a b 1000000 1000000 h1 h2 h3 h4
  omega

/-- A point whose coordinates are at most a million. -/
def Near (p : Int × Int) : Prop := -1000000 ≤ p.1 ∧ p.1 ≤ 1000000 ∧ -1000000 ≤ p.2 ∧ p.2 ≤ 1000000

/-- A direction, or a point, as a value. -/
def pt (p : Int × Int) : Value := .agg #[.int .i64 p.1, .int .i64 p.2]

def crs (a b : Int × Int) : Int := a.1 * b.2 - a.2 * b.1
def dt (a b : Int × Int) : Int := a.1 * b.1 + a.2 * b.2
def partTo (a b : Int × Int) : Int := if crs a b < 0 then 1 else if 0 < crs a b then 3 else if 0 < dt a b then 0 else 2
def sooner (d a b : Int × Int) : Bool := if partTo d a = partTo d b then decide (partTo a b = 1) else decide (partTo d a < partTo d b)

theorem crs_bd {a b : Int × Int} (ha : Near a) (hb : Near b) : -2000000000000 ≤ crs a b ∧ crs a b ≤ 2000000000000 := by
  obtain ⟨a1, a2, a3, a4⟩ := ha
  obtain ⟨b1, b2, b3, b4⟩ := hb
  have m1 := mul_bd6 a.1 b.2 a1 a2 b3 b4
  have m2 := mul_bd6 a.2 b.1 a3 a4 b1 b2
  unfold crs; omega
theorem dt_bd {a b : Int × Int} (ha : Near a) (hb : Near b) : -2000000000000 ≤ dt a b ∧ dt a b ≤ 2000000000000 := by
  obtain ⟨a1, a2, a3, a4⟩ := ha
  obtain ⟨b1, b2, b3, b4⟩ := hb
  have m1 := mul_bd6 a.1 b.1 a1 a2 b1 b2
  have m2 := mul_bd6 a.2 b.2 a3 a4 b3 b4
  unfold dt; omega

set_option maxHeartbeats 400000 in
theorem cross_any (a b : Int × Int) (w : World) (ha : Near a) (hb : Near b) :
    Calls Tryz.prog 93 #[pt a, pt b] w (Ret (.int .i64 (crs a b)) w) := by
  unfold crs pt
  obtain ⟨ax, ay⟩ := a
  obtain ⟨bx, b_y⟩ := b
  obtain ⟨h1, h2, h3, h4⟩ := ha
  obtain ⟨h5, h6, h7, h8⟩ := hb
  simp only [] at *
  obtain ⟨m1a, m1b⟩ := mul_bd6 ax b_y h1 h2 h7 h8
  obtain ⟨m2a, m2b⟩ := mul_bd6 ay bx h3 h4 h5 h6
  go_enter Tryz.func93, Tryz.ntmps93
  go_wp2
  go_ret
  exact ⟨rfl, by (repeat' (first | exact Below.refl _ _ | assumption | (with_reducible refine Below.drew ?_) | (with_reducible refine Below.setCell ?_ (by (first | (simp; done) | (simp; omega))) _) | (with_reducible refine below_drewN' ?_ _) | (refine Below.alloc ?_ (by (try simp only [World.size_alloc, World.size_drew, World.size_setCell]); omega) _) | (refine Below.trans ?_ (Below.mono (by assumption) (by (try simp only [World.size_alloc, World.size_drew, World.size_setCell]); omega)))))⟩

set_option maxHeartbeats 400000 in
theorem dot_any (a b : Int × Int) (w : World) (ha : Near a) (hb : Near b) :
    Calls Tryz.prog 94 #[pt a, pt b] w (Ret (.int .i64 (dt a b)) w) := by
  unfold dt pt
  obtain ⟨ax, ay⟩ := a
  obtain ⟨bx, b_y⟩ := b
  obtain ⟨h1, h2, h3, h4⟩ := ha
  obtain ⟨h5, h6, h7, h8⟩ := hb
  simp only [] at *
  obtain ⟨m1a, m1b⟩ := mul_bd6 ax bx h1 h2 h5 h6
  obtain ⟨m2a, m2b⟩ := mul_bd6 ay b_y h3 h4 h7 h8
  go_enter Tryz.func94, Tryz.ntmps94
  go_wp2
  go_ret
  exact ⟨rfl, by (repeat' (first | exact Below.refl _ _ | assumption | (with_reducible refine Below.drew ?_) | (with_reducible refine Below.setCell ?_ (by (first | (simp; done) | (simp; omega))) _) | (with_reducible refine below_drewN' ?_ _) | (refine Below.alloc ?_ (by (try simp only [World.size_alloc, World.size_drew, World.size_setCell]); omega) _) | (refine Below.trans ?_ (Below.mono (by assumption) (by (try simp only [World.size_alloc, World.size_drew, World.size_setCell]); omega)))))⟩

set_option maxHeartbeats 400000 in
theorem square_any (a : Int × Int) (w : World) (ha : Near a) :
    Calls Tryz.prog 68 #[pt a] w (Ret (.int .i64 (dt a a)) w) := by
  have hd := fun W => dot_any a a W ha ha
  unfold pt at *
  generalize dt a a = r at hd ⊢
  go_enter Tryz.func68, Tryz.ntmps68
  go_wp2_with (go_at_call 94; refine (hd _).mono ?_; rintro e w1 ⟨rfl, hb1⟩)
  go_ret
  exact ⟨rfl, by (repeat' (first | exact Below.refl _ _ | assumption | (with_reducible refine Below.drew ?_) | (with_reducible refine Below.setCell ?_ (by (first | (simp; done) | (simp; omega))) _) | (with_reducible refine below_drewN' ?_ _) | (refine Below.alloc ?_ (by (try simp only [World.size_alloc, World.size_drew, World.size_setCell]); omega) _) | (refine Below.trans ?_ (Below.mono (by assumption) (by (try simp only [World.size_alloc, World.size_drew, World.size_setCell]); omega)))))⟩

set_option maxHeartbeats 400000 in
theorem partTo_any (a b : Int × Int) (w : World) (ha : Near a) (hb : Near b) :
    Calls Tryz.prog 89 #[pt a, pt b] w (Ret (.int .i64 (partTo a b)) w) := by
  have hd := fun W => dot_any a b W ha hb
  have hx := fun W => cross_any a b W ha hb
  unfold partTo
  unfold pt at *
  generalize dt a b = r at hd ⊢
  generalize crs a b = s at hx ⊢
  by_cases c1 : s < 0
  · rw [if_pos c1]
    go_enter Tryz.func89, Tryz.ntmps89
    go_wp2_with (go_at_call 93; refine (hx _).mono ?_; rintro e w1 ⟨rfl, hb1⟩; (obtain ⟨hc1, hf1⟩ := bcell hb1; have z1 := hb1.size; (try simp only [World.size_alloc, World.size_drew, World.size_setCell] at z1); (try have q1a : w.heap.size < w1.heap.size := by omega); (try have q1b : w.heap.size + 1 < w1.heap.size := by omega); (try have q1c : w.heap.size + 1 + 1 < w1.heap.size := by omega); (try have q1d : w.heap.size + 1 + 1 + 1 < w1.heap.size := by omega); (try have q1e : wr.heap.size < w1.heap.size := by omega); (try have q1f : wr.heap.size + 1 < w1.heap.size := by omega)))
    go_ret
    exact ⟨rfl, by (repeat' (first | exact Below.refl _ _ | assumption | (with_reducible refine Below.drew ?_) | (with_reducible refine Below.setCell ?_ (by (first | (simp; done) | (simp; omega))) _) | (with_reducible refine below_drewN' ?_ _) | (refine Below.alloc ?_ (by (try simp only [World.size_alloc, World.size_drew, World.size_setCell]); omega) _) | (refine Below.trans ?_ (Below.mono (by assumption) (by (try simp only [World.size_alloc, World.size_drew, World.size_setCell]); omega)))))⟩
  · rw [if_neg c1]
    by_cases c2 : 0 < s
    · rw [if_pos c2]
      go_enter Tryz.func89, Tryz.ntmps89
      go_wp2_with (go_at_call 93; refine (hx _).mono ?_; rintro e w1 ⟨rfl, hb1⟩; (obtain ⟨hc1, hf1⟩ := bcell hb1; have z1 := hb1.size; (try simp only [World.size_alloc, World.size_drew, World.size_setCell] at z1); (try have q1a : w.heap.size < w1.heap.size := by omega); (try have q1b : w.heap.size + 1 < w1.heap.size := by omega); (try have q1c : w.heap.size + 1 + 1 < w1.heap.size := by omega); (try have q1d : w.heap.size + 1 + 1 + 1 < w1.heap.size := by omega); (try have q1e : wr.heap.size < w1.heap.size := by omega); (try have q1f : wr.heap.size + 1 < w1.heap.size := by omega)))
      go_ret
      exact ⟨rfl, by (repeat' (first | exact Below.refl _ _ | assumption | (with_reducible refine Below.drew ?_) | (with_reducible refine Below.setCell ?_ (by (first | (simp; done) | (simp; omega))) _) | (with_reducible refine below_drewN' ?_ _) | (refine Below.alloc ?_ (by (try simp only [World.size_alloc, World.size_drew, World.size_setCell]); omega) _) | (refine Below.trans ?_ (Below.mono (by assumption) (by (try simp only [World.size_alloc, World.size_drew, World.size_setCell]); omega)))))⟩
    · rw [if_neg c2]
      by_cases c3 : 0 < r
      · rw [if_pos c3]
        go_enter Tryz.func89, Tryz.ntmps89
        go_wp2_with (first | (go_at_call 93; refine (hx _).mono ?_; rintro e w1 ⟨rfl, hb1⟩; (obtain ⟨hc1, hf1⟩ := bcell hb1; have z1 := hb1.size; (try simp only [World.size_alloc, World.size_drew, World.size_setCell] at z1); (try have q1a : w.heap.size < w1.heap.size := by omega); (try have q1b : w.heap.size + 1 < w1.heap.size := by omega); (try have q1c : w.heap.size + 1 + 1 < w1.heap.size := by omega); (try have q1d : w.heap.size + 1 + 1 + 1 < w1.heap.size := by omega); (try have q1e : wr.heap.size < w1.heap.size := by omega); (try have q1f : wr.heap.size + 1 < w1.heap.size := by omega))) | (go_at_call 94; refine (hd _).mono ?_; rintro e w2 ⟨rfl, hb2⟩; (obtain ⟨hc2, hf2⟩ := bcell hb2; have z2 := hb2.size; (try simp only [World.size_alloc, World.size_drew, World.size_setCell] at z2); (try have q2a : w.heap.size < w2.heap.size := by omega); (try have q2b : w.heap.size + 1 < w2.heap.size := by omega); (try have q2c : w.heap.size + 1 + 1 < w2.heap.size := by omega); (try have q2d : w.heap.size + 1 + 1 + 1 < w2.heap.size := by omega); (try have q2e : wr.heap.size < w2.heap.size := by omega); (try have q2f : wr.heap.size + 1 < w2.heap.size := by omega); (try have q2g : w1.heap.size < w2.heap.size := by omega); (try have q2h : w1.heap.size + 1 < w2.heap.size := by omega))))
        go_ret
        exact ⟨rfl, by (repeat' (first | exact Below.refl _ _ | assumption | (with_reducible refine Below.drew ?_) | (with_reducible refine Below.setCell ?_ (by (first | (simp; done) | (simp; omega))) _) | (with_reducible refine below_drewN' ?_ _) | (refine Below.alloc ?_ (by (try simp only [World.size_alloc, World.size_drew, World.size_setCell]); omega) _) | (refine Below.trans ?_ (Below.mono (by assumption) (by (try simp only [World.size_alloc, World.size_drew, World.size_setCell]); omega)))))⟩
      · rw [if_neg c3]
        go_enter Tryz.func89, Tryz.ntmps89
        go_wp2_with (first | (go_at_call 93; refine (hx _).mono ?_; rintro e w1 ⟨rfl, hb1⟩; (obtain ⟨hc1, hf1⟩ := bcell hb1; have z1 := hb1.size; (try simp only [World.size_alloc, World.size_drew, World.size_setCell] at z1); (try have q1a : w.heap.size < w1.heap.size := by omega); (try have q1b : w.heap.size + 1 < w1.heap.size := by omega); (try have q1c : w.heap.size + 1 + 1 < w1.heap.size := by omega); (try have q1d : w.heap.size + 1 + 1 + 1 < w1.heap.size := by omega); (try have q1e : wr.heap.size < w1.heap.size := by omega); (try have q1f : wr.heap.size + 1 < w1.heap.size := by omega))) | (go_at_call 94; refine (hd _).mono ?_; rintro e w2 ⟨rfl, hb2⟩; (obtain ⟨hc2, hf2⟩ := bcell hb2; have z2 := hb2.size; (try simp only [World.size_alloc, World.size_drew, World.size_setCell] at z2); (try have q2a : w.heap.size < w2.heap.size := by omega); (try have q2b : w.heap.size + 1 < w2.heap.size := by omega); (try have q2c : w.heap.size + 1 + 1 < w2.heap.size := by omega); (try have q2d : w.heap.size + 1 + 1 + 1 < w2.heap.size := by omega); (try have q2e : wr.heap.size < w2.heap.size := by omega); (try have q2f : wr.heap.size + 1 < w2.heap.size := by omega); (try have q2g : w1.heap.size < w2.heap.size := by omega); (try have q2h : w1.heap.size + 1 < w2.heap.size := by omega))))
        go_ret
        exact ⟨rfl, by (repeat' (first | exact Below.refl _ _ | assumption | (with_reducible refine Below.drew ?_) | (with_reducible refine Below.setCell ?_ (by (first | (simp; done) | (simp; omega))) _) | (with_reducible refine below_drewN' ?_ _) | (refine Below.alloc ?_ (by (try simp only [World.size_alloc, World.size_drew, World.size_setCell]); omega) _) | (refine Below.trans ?_ (Below.mono (by assumption) (by (try simp only [World.size_alloc, World.size_drew, World.size_setCell]); omega)))))⟩

end Go.Proofs.YtgceffpkhmjmkaaGreat
