/- Leg, part C: that all of some numbers lie within bounds, that gates and counts are valid. -/
import Derived.Test.YthcgbceapabikaaB
set_option linter.unusedVariables false
set_option linter.unusedSimpArgs false
namespace Go.Proofs.Ythcgbceapabikaa
open Go.RowKit Go.Shelf

def inb (lo hi n : Int) : Bool := decide (lo ≤ n ∧ n ≤ hi)

theorem inb_out (lo hi n : Int) : (!inb lo hi n) = (decide (n < lo) || decide (hi < n)) := by
  unfold inb
  by_cases h1 : n < lo
  · simp [h1]
  · by_cases h2 : hi < n
    · simp [h2]
    · simp [h1, h2]; omega

set_option maxHeartbeats 400000 in
theorem outside_any (lo hi n : Int) (B C : Nat) (W : World) (hB : W.cell? ⟨B, 0, none⟩ = some (.int .i64 lo)) (hC : W.cell? ⟨C, 0, none⟩ = some (.int .i64 hi)) :
    Calls Try.prog 71 #[.int .i64 n, .pointer (some ⟨B, 0, none⟩), .pointer (some ⟨C, 0, none⟩)] W (Ret (.bool (!inb lo hi n)) W) := by
  rw [inb_out]
  by_cases h1 : n < lo
  · have e : (decide (n < lo) || decide (hi < n)) = true := by simp [h1]
    rw [e]; clear e
    go_enter Try.func71, Try.ntmps71
    go_wp2
    go_ret
    exact ⟨rfl, by (repeat' (first | exact Below.refl _ _ | assumption | (with_reducible refine Below.drew ?_) | (with_reducible refine Below.setCell ?_ (by (first | (simp; done) | (simp; omega))) _) | (with_reducible refine below_drewN' ?_ _) | (refine Below.alloc ?_ (by (try simp only [World.size_alloc, World.size_drew, World.size_setCell]); omega) _) | (refine Below.trans ?_ (Below.mono (by assumption) (by (try simp only [World.size_alloc, World.size_drew, World.size_setCell]); omega)))))⟩
  · by_cases h2 : hi < n
    · have e : (decide (n < lo) || decide (hi < n)) = true := by simp [h2]
      rw [e]; clear e
      go_enter Try.func71, Try.ntmps71
      go_wp2
      go_ret
      exact ⟨rfl, by (repeat' (first | exact Below.refl _ _ | assumption | (with_reducible refine Below.drew ?_) | (with_reducible refine Below.setCell ?_ (by (first | (simp; done) | (simp; omega))) _) | (with_reducible refine below_drewN' ?_ _) | (refine Below.alloc ?_ (by (try simp only [World.size_alloc, World.size_drew, World.size_setCell]); omega) _) | (refine Below.trans ?_ (Below.mono (by assumption) (by (try simp only [World.size_alloc, World.size_drew, World.size_setCell]); omega)))))⟩
    · have e : (decide (n < lo) || decide (hi < n)) = false := by simp [h1, h2]
      rw [e]; clear e
      go_enter Try.func71, Try.ntmps71
      go_wp2
      go_ret
      exact ⟨rfl, by (repeat' (first | exact Below.refl _ _ | assumption | (with_reducible refine Below.drew ?_) | (with_reducible refine Below.setCell ?_ (by (first | (simp; done) | (simp; omega))) _) | (with_reducible refine below_drewN' ?_ _) | (refine Below.alloc ?_ (by (try simp only [World.size_alloc, World.size_drew, World.size_setCell]); omega) _) | (refine Below.trans ?_ (Below.mono (by assumption) (by (try simp only [World.size_alloc, World.size_drew, World.size_setCell]); omega)))))⟩

set_option maxHeartbeats 400000 in
theorem within_any (lo hi : Int) (v : Value) (xs : List Int) (w : World) (hs : Sl w 1 (eI) v xs) :
    Calls Try.prog 47 #[.int .i64 lo, .int .i64 hi, v] w (Ret (.bool (xs.all (inb lo hi))) w) := by
  have hbb : Below w.heap.size w ((w.alloc (.cells #[.int .i64 lo] 3)).alloc (.cells #[.int .i64 hi] 3)) := by (repeat' (first | exact Below.refl _ _ | assumption | (with_reducible refine Below.drew ?_) | (with_reducible refine Below.setCell ?_ (by (first | (simp; done) | (simp; omega))) _) | (with_reducible refine below_drewN' ?_ _) | (refine Below.alloc ?_ (by (try simp only [World.size_alloc, World.size_drew, World.size_setCell]); omega) _) | (refine Below.trans ?_ (Below.mono (by assumption) (by (try simp only [World.size_alloc, World.size_drew, World.size_setCell]); omega)))))
  have hcall := ints_any (fun x => .int .i64 x) (fun x => !inb lo hi x) 71 #[.pointer (some ⟨w.heap.size, 0, none⟩), .pointer (some ⟨w.heap.size + 1, 0, none⟩)] (enters_of Try.func71 (by kernel_rfl) rfl) v xs
    ((w.alloc (.cells #[.int .i64 lo] 3)).alloc (.cells #[.int .i64 hi] 3)) (hs.below hbb)
    (fun W hW x _ => outside_any lo hi x _ _ W (keepc hW (by go_simp)) (keepc hW (by go_simp)))
  rw [← not_any_not]
  obtain ⟨a, c, rfl, hl, hs⟩ := hs
  clear hs hl hbb
  generalize (xs.any fun x => !inb lo hi x) = r at hcall ⊢
  go_enter Try.func47, Try.ntmps47
  go_wp2_with (go_at_call 72; refine hcall.mono ?_; rintro e w1 ⟨rfl, hb1⟩)
  go_ret
  exact ⟨rfl, by (repeat' (first | exact Below.refl _ _ | assumption | (with_reducible refine Below.drew ?_) | (with_reducible refine Below.setCell ?_ (by (first | (simp; done) | (simp; omega))) _) | (with_reducible refine below_drewN' ?_ _) | (refine Below.alloc ?_ (by (try simp only [World.size_alloc, World.size_drew, World.size_setCell]); omega) _) | (refine Below.trans ?_ (Below.mono (by assumption) (by (try simp only [World.size_alloc, World.size_drew, World.size_setCell]); omega)))))⟩


set_option maxHeartbeats 400000 in
theorem gateWrong_any (g : Int) (W : World) :
    Calls Try.prog 81 #[.int .i64 g] W (Ret (.bool (!inb 0 2 g)) W) := by
  by_cases h0 : g = 0
  · subst h0
    have e : (!inb 0 2 0) = false := by decide
    rw [e]; clear e
    go_enter Try.func81, Try.ntmps81
    go_wp2
    go_ret
    exact ⟨rfl, by (repeat' (first | exact Below.refl _ _ | assumption | (with_reducible refine Below.drew ?_) | (with_reducible refine Below.setCell ?_ (by (first | (simp; done) | (simp; omega))) _) | (with_reducible refine below_drewN' ?_ _) | (refine Below.alloc ?_ (by (try simp only [World.size_alloc, World.size_drew, World.size_setCell]); omega) _) | (refine Below.trans ?_ (Below.mono (by assumption) (by (try simp only [World.size_alloc, World.size_drew, World.size_setCell]); omega)))))⟩
  · by_cases h1 : g = 1
    · subst h1
      have e : (!inb 0 2 1) = false := by decide
      rw [e]; clear e
      go_enter Try.func81, Try.ntmps81
      go_wp2
      go_ret
      exact ⟨rfl, by (repeat' (first | exact Below.refl _ _ | assumption | (with_reducible refine Below.drew ?_) | (with_reducible refine Below.setCell ?_ (by (first | (simp; done) | (simp; omega))) _) | (with_reducible refine below_drewN' ?_ _) | (refine Below.alloc ?_ (by (try simp only [World.size_alloc, World.size_drew, World.size_setCell]); omega) _) | (refine Below.trans ?_ (Below.mono (by assumption) (by (try simp only [World.size_alloc, World.size_drew, World.size_setCell]); omega)))))⟩
    · by_cases h2 : g = 2
      · subst h2
        have e : (!inb 0 2 2) = false := by decide
        rw [e]; clear e
        go_enter Try.func81, Try.ntmps81
        go_wp2
        go_ret
        exact ⟨rfl, by (repeat' (first | exact Below.refl _ _ | assumption | (with_reducible refine Below.drew ?_) | (with_reducible refine Below.setCell ?_ (by (first | (simp; done) | (simp; omega))) _) | (with_reducible refine below_drewN' ?_ _) | (refine Below.alloc ?_ (by (try simp only [World.size_alloc, World.size_drew, World.size_setCell]); omega) _) | (refine Below.trans ?_ (Below.mono (by assumption) (by (try simp only [World.size_alloc, World.size_drew, World.size_setCell]); omega)))))⟩
      · have e : (!inb 0 2 g) = true := by unfold inb; simp; omega
        rw [e]; clear e
        have b0 : (g != 0) = true := by simpa using h0
        have b1 : (g != 1) = true := by simpa using h1
        have b2 : (g != 2) = true := by simpa using h2
        go_enter Try.func81, Try.ntmps81
        go_wp2
        go_ret
        exact ⟨rfl, by (repeat' (first | exact Below.refl _ _ | assumption | (with_reducible refine Below.drew ?_) | (with_reducible refine Below.setCell ?_ (by (first | (simp; done) | (simp; omega))) _) | (with_reducible refine below_drewN' ?_ _) | (refine Below.alloc ?_ (by (try simp only [World.size_alloc, World.size_drew, World.size_setCell]); omega) _) | (refine Below.trans ?_ (Below.mono (by assumption) (by (try simp only [World.size_alloc, World.size_drew, World.size_setCell]); omega)))))⟩

set_option maxHeartbeats 400000 in
theorem validGates_any (v : Value) (xs : List Int) (w : World) (hs : Sl w 1 eI v xs) :
    Calls Try.prog 66 #[v] w (Ret (.bool (xs.all (inb 0 2))) w) := by
  have hcall := gates_any (fun x => .int .i64 x) (fun x => !inb 0 2 x) 81 #[] (enters_of Try.func81 (by kernel_rfl) rfl) v xs w hs
    (fun W hW x _ => gateWrong_any x W)
  rw [← not_any_not]
  obtain ⟨a, c, rfl, hl, hs⟩ := hs
  clear hs hl
  generalize (xs.any fun x => !inb 0 2 x) = r at hcall ⊢
  go_enter Try.func66, Try.ntmps66
  go_wp2_with (go_at_call 82; refine hcall.mono ?_; rintro e w1 ⟨rfl, hb1⟩)
  go_ret
  exact ⟨rfl, by (repeat' (first | exact Below.refl _ _ | assumption | (with_reducible refine Below.drew ?_) | (with_reducible refine Below.setCell ?_ (by (first | (simp; done) | (simp; omega))) _) | (with_reducible refine below_drewN' ?_ _) | (refine Below.alloc ?_ (by (try simp only [World.size_alloc, World.size_drew, World.size_setCell]); omega) _) | (refine Below.trans ?_ (Below.mono (by assumption) (by (try simp only [World.size_alloc, World.size_drew, World.size_setCell]); omega)))))⟩

/-- Whether the laws of a player are valid. -/
def vcnt (c : Cnt) : Bool := inb 2 1001 c.1 && (inb 0 2 c.2.1 && inb 0 2 c.2.2)

set_option maxHeartbeats 400000 in
theorem validCount_any (c : Cnt) (w : World) :
    Calls Try.prog 39 #[cntV c] w (Ret (.bool (vcnt c)) w) := by
  obtain ⟨s, i, o⟩ := c
  have h1 := fun W k hk t => within_any 2 1001 _ [s] _ (sl_one W k hk t s)
  have h2 := fun W k hk t => validGates_any _ [i, o] _ (sl_two W k hk t i o)
  have e1 : ([s].all (inb 2 1001)) = inb 2 1001 s := by simp
  have e2 : ([i, o].all (inb 0 2)) = (inb 0 2 i && inb 0 2 o) := by simp
  rw [e1] at h1
  rw [e2] at h2
  unfold vcnt cntV
  simp only []
  clear e1 e2
  generalize (inb 0 2 i && inb 0 2 o) = r2 at h2 ⊢
  generalize (inb 2 1001 s) = r1 at h1 ⊢
  cases r1 with
  | true =>
    rw [Bool.true_and]
    go_enter Try.func39, Try.ntmps39
    go_wp2_with (first | (go_at_call 47; (with_reducible refine (h1 _ _ (by simp) _).mono ?_); rintro e w1 ⟨rfl, hb1⟩; (obtain ⟨hc1, hf1⟩ := bcell hb1; have z1 := hb1.size; (try simp only [World.size_alloc, World.size_drew, World.size_setCell] at z1); (try have q1a : w.heap.size < w1.heap.size := by omega); (try have q1b : w.heap.size + 1 < w1.heap.size := by omega); (try have q1c : w.heap.size + 1 + 1 < w1.heap.size := by omega); (try have q1d : w.heap.size + 1 + 1 + 1 < w1.heap.size := by omega); (try have q1e : wr.heap.size < w1.heap.size := by omega); (try have q1f : wr.heap.size + 1 < w1.heap.size := by omega))) | (go_at_call 66; (with_reducible refine (h2 _ _ (by simp) _).mono ?_); rintro e w2 ⟨rfl, hb2⟩; (obtain ⟨hc2, hf2⟩ := bcell hb2; have z2 := hb2.size; (try simp only [World.size_alloc, World.size_drew, World.size_setCell] at z2); (try have q2a : w.heap.size < w2.heap.size := by omega); (try have q2b : w.heap.size + 1 < w2.heap.size := by omega); (try have q2c : w.heap.size + 1 + 1 < w2.heap.size := by omega); (try have q2d : w.heap.size + 1 + 1 + 1 < w2.heap.size := by omega); (try have q2e : wr.heap.size < w2.heap.size := by omega); (try have q2f : wr.heap.size + 1 < w2.heap.size := by omega); (try have q2g : w1.heap.size < w2.heap.size := by omega); (try have q2h : w1.heap.size + 1 < w2.heap.size := by omega))))
    go_ret
    exact ⟨rfl, by (repeat' (first | exact Below.refl _ _ | assumption | (with_reducible refine Below.drew ?_) | (with_reducible refine Below.setCell ?_ (by (first | (simp; done) | (simp; omega))) _) | (with_reducible refine below_drewN' ?_ _) | (refine Below.alloc ?_ (by (try simp only [World.size_alloc, World.size_drew, World.size_setCell]); omega) _) | (refine Below.trans ?_ (Below.mono (by assumption) (by (try simp only [World.size_alloc, World.size_drew, World.size_setCell]); omega)))))⟩
  | false =>
    rw [Bool.false_and]
    go_enter Try.func39, Try.ntmps39
    go_wp2_with (go_at_call 47; (with_reducible refine (h1 _ _ (by simp) _).mono ?_); rintro e w1 ⟨rfl, hb1⟩; (obtain ⟨hc1, hf1⟩ := bcell hb1; have z1 := hb1.size; (try simp only [World.size_alloc, World.size_drew, World.size_setCell] at z1); (try have q1a : w.heap.size < w1.heap.size := by omega); (try have q1b : w.heap.size + 1 < w1.heap.size := by omega); (try have q1c : w.heap.size + 1 + 1 < w1.heap.size := by omega); (try have q1d : w.heap.size + 1 + 1 + 1 < w1.heap.size := by omega); (try have q1e : wr.heap.size < w1.heap.size := by omega); (try have q1f : wr.heap.size + 1 < w1.heap.size := by omega)))
    go_ret
    exact ⟨rfl, by (repeat' (first | exact Below.refl _ _ | assumption | (with_reducible refine Below.drew ?_) | (with_reducible refine Below.setCell ?_ (by (first | (simp; done) | (simp; omega))) _) | (with_reducible refine below_drewN' ?_ _) | (refine Below.alloc ?_ (by (try simp only [World.size_alloc, World.size_drew, World.size_setCell]); omega) _) | (refine Below.trans ?_ (Below.mono (by assumption) (by (try simp only [World.size_alloc, World.size_drew, World.size_setCell]); omega)))))⟩

set_option maxHeartbeats 400000 in
/-- wrong in Check. -/
theorem countWrong_any (c : Cnt) (w : World) :
    Calls Try.prog 46 #[cntV c] w (Ret (.bool (!vcnt c)) w) := by
  have hcall := fun W => validCount_any c W
  unfold cntV at *
  generalize vcnt c = r at hcall ⊢
  obtain ⟨s, i, o⟩ := c
  simp only [] at *
  go_enter Try.func46, Try.ntmps46
  go_wp2_with (go_at_call 39; (with_reducible refine (hcall _).mono ?_); rintro e w1 ⟨rfl, hb1⟩)
  go_ret
  exact ⟨rfl, by (repeat' (first | exact Below.refl _ _ | assumption | (with_reducible refine Below.drew ?_) | (with_reducible refine Below.setCell ?_ (by (first | (simp; done) | (simp; omega))) _) | (with_reducible refine below_drewN' ?_ _) | (refine Below.alloc ?_ (by (try simp only [World.size_alloc, World.size_drew, World.size_setCell]); omega) _) | (refine Below.trans ?_ (Below.mono (by assumption) (by (try simp only [World.size_alloc, World.size_drew, World.size_setCell]); omega)))))⟩
end Go.Proofs.Ythcgbceapabikaa
