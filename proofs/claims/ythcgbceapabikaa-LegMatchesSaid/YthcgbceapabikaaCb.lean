/- Leg, part Cb: the reference's match. -/
import Derived.Test.YthcgbceapabikaaK
import Derived.Test.YthcgbceapabikaaBa
import Derived.BigQuiet
set_option linter.unusedVariables false
set_option linter.unusedSimpArgs false
namespace Go.Proofs.Ythcgbceapabikaa
open Go.RowKit Go.Shelf

set_option maxHeartbeats 1000000 in
theorem rvalid_any (m : MtL) (w : World) : Calls Try.prog 62 #[mtlV m] w (Ret (.bool (vmt m)) w) := by
  obtain ⟨a, b, c, d, e⟩ := m
  have y1 := fun W => rin_any a 1 25 W
  have y2 := fun W => rin_any b 1 25 W
  have y3 := fun W => rin_any c 1 2 W
  have y4 := fun W => rin_any d 0 25 W
  have y5 := fun W => rin_any e 0 1 W
  unfold vmt mtlV
  simp only []
  generalize inb 1 25 a = r1 at *
  generalize inb 1 25 b = r2 at *
  generalize inb 1 2 c = r3 at *
  generalize inb 0 25 d = r4 at *
  generalize inb 0 1 e = r5 at *
  cases r1 with
  | false =>
    rw [Bool.false_and]
    go_enter Try.func62, Try.ntmps62
    go_wp2_with (first | (go_at_call 42; (with_reducible refine (y1 _).mono ?_); rintro e w1 ⟨rfl, hb1⟩; (obtain ⟨hc1, hf1⟩ := bcell hb1; have z1 := hb1.size; (try simp only [World.size_alloc, World.size_drew, World.size_setCell] at z1); (try have q1a : w.heap.size < w1.heap.size := by omega); (try have q1b : w.heap.size + 1 < w1.heap.size := by omega); (try have q1c : w.heap.size + 1 + 1 < w1.heap.size := by omega); (try have q1d : w.heap.size + 1 + 1 + 1 < w1.heap.size := by omega); (try have q1e : wr.heap.size < w1.heap.size := by omega); (try have q1f : wr.heap.size + 1 < w1.heap.size := by omega))))
    go_ret
    exact ⟨rfl, by (repeat' (first | exact Below.refl _ _ | assumption | (with_reducible refine Below.drew ?_) | (with_reducible refine Below.setCell ?_ (by (first | (simp; done) | (simp; omega))) _) | (with_reducible refine below_drewN' ?_ _) | (refine Below.alloc ?_ (by (try simp only [World.size_alloc, World.size_drew, World.size_setCell]); omega) _) | (refine Below.trans ?_ (Below.mono (by assumption) (by (try simp only [World.size_alloc, World.size_drew, World.size_setCell]); omega)))))⟩
  | true =>
    rw [Bool.true_and]
    cases r2 with
    | false =>
      rw [Bool.false_and]
      go_enter Try.func62, Try.ntmps62
      go_wp2_with (first | (go_at_call 42; (with_reducible refine (y1 _).mono ?_); rintro e w1 ⟨rfl, hb1⟩; (obtain ⟨hc1, hf1⟩ := bcell hb1; have z1 := hb1.size; (try simp only [World.size_alloc, World.size_drew, World.size_setCell] at z1); (try have q1a : w.heap.size < w1.heap.size := by omega); (try have q1b : w.heap.size + 1 < w1.heap.size := by omega); (try have q1c : w.heap.size + 1 + 1 < w1.heap.size := by omega); (try have q1d : w.heap.size + 1 + 1 + 1 < w1.heap.size := by omega); (try have q1e : wr.heap.size < w1.heap.size := by omega); (try have q1f : wr.heap.size + 1 < w1.heap.size := by omega))) | (go_at_call 42; (with_reducible refine (y2 _).mono ?_); rintro e w2 ⟨rfl, hb2⟩; (obtain ⟨hc2, hf2⟩ := bcell hb2; have z2 := hb2.size; (try simp only [World.size_alloc, World.size_drew, World.size_setCell] at z2); (try have q2a : w.heap.size < w2.heap.size := by omega); (try have q2b : w.heap.size + 1 < w2.heap.size := by omega); (try have q2c : w.heap.size + 1 + 1 < w2.heap.size := by omega); (try have q2d : w.heap.size + 1 + 1 + 1 < w2.heap.size := by omega); (try have q2e : wr.heap.size < w2.heap.size := by omega); (try have q2f : wr.heap.size + 1 < w2.heap.size := by omega); (try have q2g : w1.heap.size < w2.heap.size := by omega); (try have q2h : w1.heap.size + 1 < w2.heap.size := by omega))))
      go_ret
      exact ⟨rfl, by (repeat' (first | exact Below.refl _ _ | assumption | (with_reducible refine Below.drew ?_) | (with_reducible refine Below.setCell ?_ (by (first | (simp; done) | (simp; omega))) _) | (with_reducible refine below_drewN' ?_ _) | (refine Below.alloc ?_ (by (try simp only [World.size_alloc, World.size_drew, World.size_setCell]); omega) _) | (refine Below.trans ?_ (Below.mono (by assumption) (by (try simp only [World.size_alloc, World.size_drew, World.size_setCell]); omega)))))⟩
    | true =>
      rw [Bool.true_and]
      cases r3 with
      | false =>
        rw [Bool.false_and]
        go_enter Try.func62, Try.ntmps62
        go_wp2_with (first | (go_at_call 42; (with_reducible refine (y1 _).mono ?_); rintro e w1 ⟨rfl, hb1⟩; (obtain ⟨hc1, hf1⟩ := bcell hb1; have z1 := hb1.size; (try simp only [World.size_alloc, World.size_drew, World.size_setCell] at z1); (try have q1a : w.heap.size < w1.heap.size := by omega); (try have q1b : w.heap.size + 1 < w1.heap.size := by omega); (try have q1c : w.heap.size + 1 + 1 < w1.heap.size := by omega); (try have q1d : w.heap.size + 1 + 1 + 1 < w1.heap.size := by omega); (try have q1e : wr.heap.size < w1.heap.size := by omega); (try have q1f : wr.heap.size + 1 < w1.heap.size := by omega))) | (go_at_call 42; (with_reducible refine (y2 _).mono ?_); rintro e w2 ⟨rfl, hb2⟩; (obtain ⟨hc2, hf2⟩ := bcell hb2; have z2 := hb2.size; (try simp only [World.size_alloc, World.size_drew, World.size_setCell] at z2); (try have q2a : w.heap.size < w2.heap.size := by omega); (try have q2b : w.heap.size + 1 < w2.heap.size := by omega); (try have q2c : w.heap.size + 1 + 1 < w2.heap.size := by omega); (try have q2d : w.heap.size + 1 + 1 + 1 < w2.heap.size := by omega); (try have q2e : wr.heap.size < w2.heap.size := by omega); (try have q2f : wr.heap.size + 1 < w2.heap.size := by omega); (try have q2g : w1.heap.size < w2.heap.size := by omega); (try have q2h : w1.heap.size + 1 < w2.heap.size := by omega))) | (go_at_call 42; (with_reducible refine (y3 _).mono ?_); rintro e w3 ⟨rfl, hb3⟩; (obtain ⟨hc3, hf3⟩ := bcell hb3; have z3 := hb3.size; (try simp only [World.size_alloc, World.size_drew, World.size_setCell] at z3); (try have q3a : w.heap.size < w3.heap.size := by omega); (try have q3b : w.heap.size + 1 < w3.heap.size := by omega); (try have q3c : w.heap.size + 1 + 1 < w3.heap.size := by omega); (try have q3d : w.heap.size + 1 + 1 + 1 < w3.heap.size := by omega); (try have q3e : wr.heap.size < w3.heap.size := by omega); (try have q3f : wr.heap.size + 1 < w3.heap.size := by omega); (try have q3g : w2.heap.size < w3.heap.size := by omega); (try have q3h : w2.heap.size + 1 < w3.heap.size := by omega))))
        go_ret
        exact ⟨rfl, by (repeat' (first | exact Below.refl _ _ | assumption | (with_reducible refine Below.drew ?_) | (with_reducible refine Below.setCell ?_ (by (first | (simp; done) | (simp; omega))) _) | (with_reducible refine below_drewN' ?_ _) | (refine Below.alloc ?_ (by (try simp only [World.size_alloc, World.size_drew, World.size_setCell]); omega) _) | (refine Below.trans ?_ (Below.mono (by assumption) (by (try simp only [World.size_alloc, World.size_drew, World.size_setCell]); omega)))))⟩
      | true =>
        rw [Bool.true_and]
        cases r4 with
        | false =>
          rw [Bool.false_and]
          go_enter Try.func62, Try.ntmps62
          go_wp2_with (first | (go_at_call 42; (with_reducible refine (y1 _).mono ?_); rintro e w1 ⟨rfl, hb1⟩; (obtain ⟨hc1, hf1⟩ := bcell hb1; have z1 := hb1.size; (try simp only [World.size_alloc, World.size_drew, World.size_setCell] at z1); (try have q1a : w.heap.size < w1.heap.size := by omega); (try have q1b : w.heap.size + 1 < w1.heap.size := by omega); (try have q1c : w.heap.size + 1 + 1 < w1.heap.size := by omega); (try have q1d : w.heap.size + 1 + 1 + 1 < w1.heap.size := by omega); (try have q1e : wr.heap.size < w1.heap.size := by omega); (try have q1f : wr.heap.size + 1 < w1.heap.size := by omega))) | (go_at_call 42; (with_reducible refine (y2 _).mono ?_); rintro e w2 ⟨rfl, hb2⟩; (obtain ⟨hc2, hf2⟩ := bcell hb2; have z2 := hb2.size; (try simp only [World.size_alloc, World.size_drew, World.size_setCell] at z2); (try have q2a : w.heap.size < w2.heap.size := by omega); (try have q2b : w.heap.size + 1 < w2.heap.size := by omega); (try have q2c : w.heap.size + 1 + 1 < w2.heap.size := by omega); (try have q2d : w.heap.size + 1 + 1 + 1 < w2.heap.size := by omega); (try have q2e : wr.heap.size < w2.heap.size := by omega); (try have q2f : wr.heap.size + 1 < w2.heap.size := by omega); (try have q2g : w1.heap.size < w2.heap.size := by omega); (try have q2h : w1.heap.size + 1 < w2.heap.size := by omega))) | (go_at_call 42; (with_reducible refine (y3 _).mono ?_); rintro e w3 ⟨rfl, hb3⟩; (obtain ⟨hc3, hf3⟩ := bcell hb3; have z3 := hb3.size; (try simp only [World.size_alloc, World.size_drew, World.size_setCell] at z3); (try have q3a : w.heap.size < w3.heap.size := by omega); (try have q3b : w.heap.size + 1 < w3.heap.size := by omega); (try have q3c : w.heap.size + 1 + 1 < w3.heap.size := by omega); (try have q3d : w.heap.size + 1 + 1 + 1 < w3.heap.size := by omega); (try have q3e : wr.heap.size < w3.heap.size := by omega); (try have q3f : wr.heap.size + 1 < w3.heap.size := by omega); (try have q3g : w2.heap.size < w3.heap.size := by omega); (try have q3h : w2.heap.size + 1 < w3.heap.size := by omega))) | (go_at_call 42; (with_reducible refine (y4 _).mono ?_); rintro e w4 ⟨rfl, hb4⟩; (obtain ⟨hc4, hf4⟩ := bcell hb4; have z4 := hb4.size; (try simp only [World.size_alloc, World.size_drew, World.size_setCell] at z4); (try have q4a : w.heap.size < w4.heap.size := by omega); (try have q4b : w.heap.size + 1 < w4.heap.size := by omega); (try have q4c : w.heap.size + 1 + 1 < w4.heap.size := by omega); (try have q4d : w.heap.size + 1 + 1 + 1 < w4.heap.size := by omega); (try have q4e : wr.heap.size < w4.heap.size := by omega); (try have q4f : wr.heap.size + 1 < w4.heap.size := by omega); (try have q4g : w3.heap.size < w4.heap.size := by omega); (try have q4h : w3.heap.size + 1 < w4.heap.size := by omega))))
          go_ret
          exact ⟨rfl, by (repeat' (first | exact Below.refl _ _ | assumption | (with_reducible refine Below.drew ?_) | (with_reducible refine Below.setCell ?_ (by (first | (simp; done) | (simp; omega))) _) | (with_reducible refine below_drewN' ?_ _) | (refine Below.alloc ?_ (by (try simp only [World.size_alloc, World.size_drew, World.size_setCell]); omega) _) | (refine Below.trans ?_ (Below.mono (by assumption) (by (try simp only [World.size_alloc, World.size_drew, World.size_setCell]); omega)))))⟩
        | true =>
          rw [Bool.true_and]
          go_enter Try.func62, Try.ntmps62
          go_wp2_with (first | (go_at_call 42; (with_reducible refine (y1 _).mono ?_); rintro e w1 ⟨rfl, hb1⟩; (obtain ⟨hc1, hf1⟩ := bcell hb1; have z1 := hb1.size; (try simp only [World.size_alloc, World.size_drew, World.size_setCell] at z1); (try have q1a : w.heap.size < w1.heap.size := by omega); (try have q1b : w.heap.size + 1 < w1.heap.size := by omega); (try have q1c : w.heap.size + 1 + 1 < w1.heap.size := by omega); (try have q1d : w.heap.size + 1 + 1 + 1 < w1.heap.size := by omega); (try have q1e : wr.heap.size < w1.heap.size := by omega); (try have q1f : wr.heap.size + 1 < w1.heap.size := by omega))) | (go_at_call 42; (with_reducible refine (y2 _).mono ?_); rintro e w2 ⟨rfl, hb2⟩; (obtain ⟨hc2, hf2⟩ := bcell hb2; have z2 := hb2.size; (try simp only [World.size_alloc, World.size_drew, World.size_setCell] at z2); (try have q2a : w.heap.size < w2.heap.size := by omega); (try have q2b : w.heap.size + 1 < w2.heap.size := by omega); (try have q2c : w.heap.size + 1 + 1 < w2.heap.size := by omega); (try have q2d : w.heap.size + 1 + 1 + 1 < w2.heap.size := by omega); (try have q2e : wr.heap.size < w2.heap.size := by omega); (try have q2f : wr.heap.size + 1 < w2.heap.size := by omega); (try have q2g : w1.heap.size < w2.heap.size := by omega); (try have q2h : w1.heap.size + 1 < w2.heap.size := by omega))) | (go_at_call 42; (with_reducible refine (y3 _).mono ?_); rintro e w3 ⟨rfl, hb3⟩; (obtain ⟨hc3, hf3⟩ := bcell hb3; have z3 := hb3.size; (try simp only [World.size_alloc, World.size_drew, World.size_setCell] at z3); (try have q3a : w.heap.size < w3.heap.size := by omega); (try have q3b : w.heap.size + 1 < w3.heap.size := by omega); (try have q3c : w.heap.size + 1 + 1 < w3.heap.size := by omega); (try have q3d : w.heap.size + 1 + 1 + 1 < w3.heap.size := by omega); (try have q3e : wr.heap.size < w3.heap.size := by omega); (try have q3f : wr.heap.size + 1 < w3.heap.size := by omega); (try have q3g : w2.heap.size < w3.heap.size := by omega); (try have q3h : w2.heap.size + 1 < w3.heap.size := by omega))) | (go_at_call 42; (with_reducible refine (y4 _).mono ?_); rintro e w4 ⟨rfl, hb4⟩; (obtain ⟨hc4, hf4⟩ := bcell hb4; have z4 := hb4.size; (try simp only [World.size_alloc, World.size_drew, World.size_setCell] at z4); (try have q4a : w.heap.size < w4.heap.size := by omega); (try have q4b : w.heap.size + 1 < w4.heap.size := by omega); (try have q4c : w.heap.size + 1 + 1 < w4.heap.size := by omega); (try have q4d : w.heap.size + 1 + 1 + 1 < w4.heap.size := by omega); (try have q4e : wr.heap.size < w4.heap.size := by omega); (try have q4f : wr.heap.size + 1 < w4.heap.size := by omega); (try have q4g : w3.heap.size < w4.heap.size := by omega); (try have q4h : w3.heap.size + 1 < w4.heap.size := by omega))) | (go_at_call 42; (with_reducible refine (y5 _).mono ?_); rintro e w5 ⟨rfl, hb5⟩; (obtain ⟨hc5, hf5⟩ := bcell hb5; have z5 := hb5.size; (try simp only [World.size_alloc, World.size_drew, World.size_setCell] at z5); (try have q5a : w.heap.size < w5.heap.size := by omega); (try have q5b : w.heap.size + 1 < w5.heap.size := by omega); (try have q5c : w.heap.size + 1 + 1 < w5.heap.size := by omega); (try have q5d : w.heap.size + 1 + 1 + 1 < w5.heap.size := by omega); (try have q5e : wr.heap.size < w5.heap.size := by omega); (try have q5f : wr.heap.size + 1 < w5.heap.size := by omega); (try have q5g : w4.heap.size < w5.heap.size := by omega); (try have q5h : w4.heap.size + 1 < w5.heap.size := by omega))))
          go_ret
          exact ⟨rfl, by (repeat' (first | exact Below.refl _ _ | assumption | (with_reducible refine Below.drew ?_) | (with_reducible refine Below.setCell ?_ (by (first | (simp; done) | (simp; omega))) _) | (with_reducible refine below_drewN' ?_ _) | (refine Below.alloc ?_ (by (try simp only [World.size_alloc, World.size_drew, World.size_setCell]); omega) _) | (refine Below.trans ?_ (Below.mono (by assumption) (by (try simp only [World.size_alloc, World.size_drew, World.size_setCell]); omega)))))⟩

theorem sw_no (m : MtL) (s0 s1 a b : Int) (h : ¬ m.legs ≤ a) (he : 0 ≤ m.extra) : setWon m s0 s1 a b = false := by
  unfold setWon; split
  · simp; omega
  · simp; omega
theorem sw_yes (m : MtL) (s0 s1 a b : Int) (h : m.legs ≤ a) (h2 : a ≤ m.legs) (hn : ¬ (s0 = m.sets - 1 ∧ s1 = m.sets - 1)) : setWon m s0 s1 a b = true := by
  unfold setWon; rw [if_neg hn]; simp; omega
theorem sw_clear (m : MtL) (s0 s1 a b : Int) (h : m.legs ≤ a) (hc : b + m.clear ≤ a) (hl : s0 = m.sets - 1 ∧ s1 = m.sets - 1) : setWon m s0 s1 a b = true := by
  unfold setWon; rw [if_pos hl]; simp; left; omega
theorem sw_extra (m : MtL) (s0 s1 a b : Int) (h : a = m.legs + m.extra) (hl : s0 = m.sets - 1 ∧ s1 = m.sets - 1) : setWon m s0 s1 a b = true := by
  unfold setWon; rw [if_pos hl]; simp; right; omega
theorem sw_last (m : MtL) (s0 s1 a b : Int) (hc : ¬ b + m.clear ≤ a) (h : ¬ a = m.legs + m.extra) (hl : s0 = m.sets - 1 ∧ s1 = m.sets - 1) : setWon m s0 s1 a b = false := by
  unfold setWon; rw [if_pos hl]; simp; omega
/-- What the reference's match has beside ours: who throws first in the leg, and in the set. -/
def FS (m : MtL) (g : Mt) (f set : Int) : Prop :=
  (g.win = -1 → f = (set + g.l0 + g.l1) % 2 ∧ set = (m.first + g.s0 + g.s1) % 2 ∧ (¬ (g.s0 = m.sets - 1 ∧ g.s1 = m.sets - 1) → g.l0 < m.legs ∧ g.l1 < m.legs)) ∧ (g.win ≠ -1 → f = -1 ∧ 0 ≤ g.win)
structure RmInv (m : MtL) (ws : List Int) (res : Mt × Int × Int) (w : World) (X k : Nat) (g : Mt) (f set : Int) (wr : World) : Prop where
  blk : wr.heap[X]? = some (.cells #[.int .i64 g.s0, .int .i64 g.s1, .int .i64 g.l0, .int .i64 g.l1, .int .i64 f, .int .i64 g.win] 71 (0, 0))
  ok : g.Ok k
  fs : FS m g f set
  res : mtL m g k (ws.drop k) = res
  bel : Below w.heap.size w wr
  zero : ScAt wr (w.heap.size + 1)
  box : wr.heap[w.heap.size]? = some (.cells #[.int .i64 m.legs, .int .i64 m.sets, .int .i64 m.clear, .int .i64 m.extra, .int .i64 m.first] 68 (0, 0))

set_option maxRecDepth 100000 in
set_option maxHeartbeats 8000000 in
theorem rmatch_any (m : MtL) (v : Value) (ws : List Int) (w : World) (hs : Sl w 1 eI v ws) (hn : ws.length ≤ 1000000) :
    Calls Try.prog 32 #[mtlV m, v] w (Ret (matchR (matchF m ws)) w) := by
  have x1 := fun W => rvalid_any m W
  have HR : Aside (matchF m ws = if vmt m = true then (let r := mtL m ⟨0, 0, 0, 0, -1⟩ 0 ws; (r.1, (if r.2.2 = 0 then r.1.next m else 0), r.2.1, r.2.2)) else (⟨0, 0, 0, 0, 0⟩, 0, 0, 2)) := rfl
  obtain ⟨a, cp, rfl, hl, hs⟩ := hs
  obtain ⟨n, hnn⟩ : ∃ n, ws.length = n := ⟨_, rfl⟩
  have HN : Aside (ws.length = n) := hnn
  have HS : Aside (ws ≠ [] → ∃ b off, a = some ⟨b, off, none⟩ ∧ b < w.heap.size ∧ ∀ j x, ws[j]? = some x → ∀ i y, (eI x)[i]? = some y → w.cell? ⟨b, off + j * 1 + i, none⟩ = some y) := hs
  rw [hnn] at hl hn ⊢
  clear hnn hs
  obtain ⟨fin, hfin⟩ : ∃ fin, matchF m ws = fin := ⟨_, rfl⟩
  rw [hfin] at HR ⊢
  clear hfin
  obtain ⟨legs, sets, clear, extra, first⟩ := m
  unfold mtlV at *
  simp only [] at *
  cases hv : vmt ⟨legs, sets, clear, extra, first⟩ with
  | false =>
    rw [hv] at x1
    have HR2 : Aside (fin = (⟨0, 0, 0, 0, 0⟩, 0, 0, 2)) := by
      show _ = _
      rw [HR.out, if_neg (by rw [hv]; simp)]
    clear HR hv
    go_enter Try.func32, Try.ntmps32
    go_wp2_with fail
    refine (x1 _).mono ?_
    rintro e w1 ⟨rfl, hb1⟩
    have BZ : Aside (ScAt w1 (w.heap.size + 1)) := (hb1.block _ (by simp)).trans (World.alloc_heap_new' _ _ _ (by simp))
    have BB : Aside (Below w.heap.size w w1) := by (repeat' (first | exact Below.refl _ _ | assumption | (with_reducible refine Below.drew ?_) | (with_reducible refine Below.setCell ?_ (by (first | (simp; done) | (simp; omega))) _) | (with_reducible refine below_drewN' ?_ _) | (refine Below.alloc ?_ (by (try simp only [World.size_alloc, World.size_drew, World.size_setCell]); omega) _) | (refine Below.trans ?_ (Below.mono (by assumption) (by (try simp only [World.size_alloc, World.size_drew, World.size_setCell]); omega)))))
    clear hb1
    have r0 := blk_cell BZ.out (i := 0) rfl
    have r1 := blk_cell BZ.out (i := 1) rfl
    have r2 := blk_cell BZ.out (i := 2) rfl
    have r3 := blk_cell BZ.out (i := 3) rfl
    have r4 := blk_cell BZ.out (i := 4) rfl
    have r5 := blk_cell BZ.out (i := 5) rfl
    have rf := blk_free BZ.out
    go_wp2
    refine bodyPost_ret (v := .tuple #[.agg #[.int .i64 0, .int .i64 0, .int .i64 0, .int .i64 0, .int .i64 0, .int .i64 0], .int .i64 0, .int .i64 2]) (by simp [results, Try.results32, go_sem, r0, r1, r2, r3, r4, r5]) rfl ⟨by rw [HR2.out]; rfl, ?_⟩
    exact below_set6 BB.out (by omega) _ _ _ _ _ _
  | true =>
    rw [hv] at x1
    obtain ⟨res, hres⟩ : ∃ res, mtL ⟨legs, sets, clear, extra, first⟩ ⟨0, 0, 0, 0, -1⟩ 0 ws = res := ⟨_, rfl⟩
    have HRES : Aside (mtL ⟨legs, sets, clear, extra, first⟩ ⟨0, 0, 0, 0, -1⟩ 0 ws = res) := hres
    have HF : Aside (fin = (res.1, (if res.2.2 = 0 then res.1.next ⟨legs, sets, clear, extra, first⟩ else 0), res.2.1, res.2.2)) := by
      show _ = _
      rw [HR.out, if_pos hv, hres]
    have hbd : (1 ≤ legs ∧ legs ≤ 25) ∧ (1 ≤ sets ∧ sets ≤ 25) ∧ (1 ≤ clear ∧ clear ≤ 2) ∧ (0 ≤ extra ∧ extra ≤ 25) ∧ 0 ≤ first ∧ first ≤ 1 := by
      unfold vmt inb at hv
      simp only [Bool.and_eq_true, decide_eq_true_eq] at hv
      exact hv
    obtain ⟨⟨hlg0, hlg1⟩, ⟨hst0, hst1⟩, ⟨hcl0, hcl1⟩, ⟨hex0, hex1⟩, hfi0, hfi1⟩ := hbd
    clear HR hv hres
    go_enter Try.func32, Try.ntmps32
    go_wp2_with fail
    refine (x1 _).mono ?_
    rintro e w1 ⟨rfl, hb1⟩
    have BZ0 : ScAt w1 (w.heap.size + 1) := (hb1.block _ (by simp)).trans (World.alloc_heap_new' _ _ _ (by simp))
    have BX0 : w1.heap[w.heap.size]? = some (.cells #[.int .i64 legs, .int .i64 sets, .int .i64 clear, .int .i64 extra, .int .i64 first] 68 (0, 0)) := (hb1.block _ (by simp; omega)).trans ((Below.heap_alloc _ _ _ (by simp)).trans (World.alloc_heap_new' _ _ _ rfl))
    have BB0 : Below w.heap.size w w1 := by (repeat' (first | exact Below.refl _ _ | assumption | (with_reducible refine Below.drew ?_) | (with_reducible refine Below.setCell ?_ (by (first | (simp; done) | (simp; omega))) _) | (with_reducible refine below_drewN' ?_ _) | (refine Below.alloc ?_ (by (try simp only [World.size_alloc, World.size_drew, World.size_setCell]); omega) _) | (refine Below.trans ?_ (Below.mono (by assumption) (by (try simp only [World.size_alloc, World.size_drew, World.size_setCell]); omega)))))
    have hz1 : w.heap.size + 1 < w1.heap.size := (Array.getElem?_eq_some_iff.1 BZ0).1
    have hz0 : w.heap.size < w1.heap.size := (Array.getElem?_eq_some_iff.1 BX0).1
    have BZ : Aside (ScAt w1 (w.heap.size + 1)) := BZ0
    have BX : Aside (w1.heap[w.heap.size]? = some (.cells #[.int .i64 legs, .int .i64 sets, .int .i64 clear, .int .i64 extra, .int .i64 first] 68 (0, 0))) := BX0
    have BB : Aside (Below w.heap.size w w1) := BB0
    have o4 := blk_cell BX0 (i := 4) (x := .int .i64 first) rfl
    clear hb1 BZ0 BX0 BB0 x1
    go_wp2_with fail
    obtain ⟨X, hX⟩ : ∃ X, X = w1.heap.size := ⟨_, rfl⟩
    obtain ⟨wa, hwa⟩ : ∃ u, u = w1.alloc (.cells #[.int .i64 0, .int .i64 0, .int .i64 0, .int .i64 0, .int .i64 first, .int .i64 (-1)] 71) := ⟨_, rfl⟩
    have HI : Aside (RmInv ⟨legs, sets, clear, extra, first⟩ ws res w X 0 ⟨0, 0, 0, 0, -1⟩ first first wa) := by
      refine ⟨?_, ⟨by decide, by decide, by decide, by decide, by decide, by decide, by decide, by decide⟩, ⟨fun _ => ⟨?_, ?_, fun _ => ⟨?_, ?_⟩⟩, fun h => absurd rfl h⟩, HRES.out, BB.out.trans (by rw [hwa]; exact ((Below.refl _ _).alloc (Nat.le_refl _) _).mono BB.out.size), ?_, ?_⟩
      · rw [hwa, hX]; exact World.alloc_heap_new _ _
      · show first = (first + 0 + 0) % 2; omega
      · show first = (first + 0 + 0) % 2; omega
      · show (0 : Int) < legs; omega
      · show (0 : Int) < legs; omega
      · rw [hwa]; exact (Below.heap_alloc _ _ _ hz1).trans BZ.out
      · rw [hwa]; exact (Below.heap_alloc _ _ _ (Array.getElem?_eq_some_iff.1 BX.out).1).trans BX.out
    have hXw : w.heap.size + 1 < X := by rw [hX]; exact hz1
    rw [← hwa, ← hX]
    clear hwa hX hz1 hz0 o4 BZ BX BB HRES
    go_loopg [8, 9] n (fun gg ss i wr => ∃ (k : Nat) (g : Mt) (f set : Int), k ≤ n ∧ n - k ≤ gg ∧ i = .int .i64 k ∧ ss = .int .i64 set ∧ Aside (RmInv ⟨legs, sets, clear, extra, first⟩ ws res w X k g f set wr))
    case atStart => exact ⟨0, _, _, _, Nat.zero_le _, by omega, rfl, rfl, HI.out⟩
    case round =>
      clear HI
      obtain ⟨k, g, f, set, hk, hg, rfl, rfl, HI⟩ := hrel
      obtain ⟨s0, s1, l0, l1, win⟩ := g
      have BK : Aside (wr.heap[X]? = some (.cells #[.int .i64 s0, .int .i64 s1, .int .i64 l0, .int .i64 l1, .int .i64 f, .int .i64 win] 71 (0, 0))) := HI.out.blk
      have BZ : Aside (ScAt wr (w.heap.size + 1)) := HI.out.zero
      have BX : Aside (wr.heap[w.heap.size]? = some (.cells #[.int .i64 legs, .int .i64 sets, .int .i64 clear, .int .i64 extra, .int .i64 first] 68 (0, 0))) := HI.out.box
      have BB : Aside (Below w.heap.size w wr) := HI.out.bel
      have HOK : Aside (Mt.Ok ⟨s0, s1, l0, l1, win⟩ k) := HI.out.ok
      have HFS : Aside (FS ⟨legs, sets, clear, extra, first⟩ ⟨s0, s1, l0, l1, win⟩ f set) := HI.out.fs
      have HR0 : Aside (mtL ⟨legs, sets, clear, extra, first⟩ ⟨s0, s1, l0, l1, win⟩ k (ws.drop k) = res) := HI.out.res
      clear HI
      have hb8 : (0 ≤ s0 ∧ s0 ≤ (k : Int)) ∧ (0 ≤ s1 ∧ s1 ≤ (k : Int)) ∧ (0 ≤ l0 ∧ l0 ≤ (k : Int)) ∧ 0 ≤ l1 ∧ l1 ≤ (k : Int) := ⟨⟨HOK.out.a0, HOK.out.a1⟩, ⟨HOK.out.b0, HOK.out.b1⟩, ⟨HOK.out.c0, HOK.out.c1⟩, HOK.out.d0, HOK.out.d1⟩
      obtain ⟨⟨hs00, hs01⟩, ⟨hs10, hs11⟩, ⟨hl00, hl01⟩, hl10, hl11⟩ := hb8
      by_cases hlt : k < n
      · have hltz : (k : Int) < (n : Int) := by omega
        obtain ⟨x, hb⟩ : ∃ x, ws[k]? = some x := ⟨_, List.getElem?_eq_getElem (by rw [HN.out]; exact hlt)⟩
        obtain ⟨B, off, rfl, hBlt, hcl⟩ := HS.out (by intro e; rw [e] at hb; simp at hb)
        have kb : wr.cell? ⟨B, off + k, none⟩ = some (.int .i64 x) := keepc BB.out (by have := hcl k x hb 0 (.int .i64 x) rfl; simpa using this)
        have HR2 : Aside (mtL ⟨legs, sets, clear, extra, first⟩ ⟨s0, s1, l0, l1, win⟩ k (x :: ws.drop (k + 1)) = res) := by
          show _ = _
          obtain ⟨h1, h2⟩ := List.getElem?_eq_some_iff.1 hb
          rw [← HR0.out, List.drop_eq_getElem_cons h1, h2]
        clear hcl hb HR0
        by_cases hwin : win = -1
        · have HW : Aside (win = -1) := hwin
          subst hwin
          obtain ⟨hf, hset, hnl⟩ : f = (set + l0 + l1) % 2 ∧ set = (first + s0 + s1) % 2 ∧ (¬ (s0 = sets - 1 ∧ s1 = sets - 1) → l0 < legs ∧ l1 < legs) := HFS.out.1 rfl
          have HNL : Aside (f = (set + l0 + l1) % 2 ∧ set = (first + s0 + s1) % 2 ∧ (¬ (s0 = sets - 1 ∧ s1 = sets - 1) → l0 < legs ∧ l1 < legs)) := ⟨hf, hset, hnl⟩
          have hf01 : 0 ≤ f ∧ f ≤ 1 := by omega
          have hset01 : 0 ≤ set ∧ set ≤ 1 := by omega
          obtain ⟨hf0, hf1⟩ := hf01
          obtain ⟨hse0, hse1⟩ := hset01
          clear hf hset hnl HFS
          by_cases hx01 : x = 0 ∨ x = 1
          · have hmt : inb 0 1 x = true := by unfold inb; simp; omega
            have HR : Aside (mtL ⟨legs, sets, clear, extra, first⟩ (Mt.step ⟨legs, sets, clear, extra, first⟩ ⟨s0, s1, l0, l1, -1⟩ x) (k + 1) (ws.drop (k + 1)) = res) := by
              show _ = _
              rw [← HR2.out, mtL, if_pos rfl, if_pos hmt]
            have HOK2 : Aside (Mt.Ok (Mt.step ⟨legs, sets, clear, extra, first⟩ ⟨s0, s1, l0, l1, -1⟩ x) (k + 1)) := HOK.out.step _ x
            clear HR2 hmt HOK HW
            have ea : IntKind.i64.wrap (1 - f) = 1 - f := IntWalk.i64_in _ (by omega)
            have eb : IntKind.i64.wrap (1 - set) = 1 - set := IntWalk.i64_in _ (by omega)
            have ec : IntKind.i64.wrap (sets - 1) = sets - 1 := IntWalk.i64_in _ (by omega)
            have ed : IntKind.i64.wrap (legs + extra) = legs + extra := IntWalk.i64_in _ (by omega)
            rcases hx01 with rfl | rfl
            · skip
              -- @@a
              have eg : IntKind.i64.wrap (l0 + 1) = l0 + 1 := IntWalk.i64_in _ (by omega)
              have eh : IntKind.i64.wrap (s0 + 1) = s0 + 1 := IntWalk.i64_in _ (by omega)
              have ei : IntKind.i64.wrap (l1 + clear) = l1 + clear := IntWalk.i64_in _ (by omega)
              have x0 := blk_cell BK.out (i := 0) rfl
              have x1 := blk_cell BK.out (i := 1) rfl
              have x2 := blk_cell BK.out (i := 2) rfl
              have x3 := blk_cell BK.out (i := 3) rfl
              have x4 := blk_cell BK.out (i := 4) rfl
              have x5 := blk_cell BK.out (i := 5) rfl
              have xf := blk_free BK.out
              have o0 := blk_cell BX.out (i := 0) rfl
              have o1 := blk_cell BX.out (i := 1) rfl
              have o2 := blk_cell BX.out (i := 2) rfl
              have o3 := blk_cell BX.out (i := 3) rfl
              have o4 := blk_cell BX.out (i := 4) rfl
              have hXl : X < _ := (Array.getElem?_eq_some_iff.1 BK.out).1
              go_wp2_with fail
              obtain ⟨wp, hwp⟩ : ∃ u, u = (wr.setCell ⟨X, 2, none⟩ (.int .i64 (l0 + 1))).setCell ⟨X, 4, none⟩ (.int .i64 (1 - f)) := ⟨_, rfl⟩
              replace BZ : Aside (ScAt wp (w.heap.size + 1)) := by rw [hwp]; exact ((Below.heap_setCell _ _ _ _ (by show _ ≠ X; omega)).trans ((Below.heap_setCell _ _ _ _ (by show _ ≠ X; omega)).trans BZ.out))
              replace BX : Aside (wp.heap[w.heap.size]? = some (.cells #[.int .i64 legs, .int .i64 sets, .int .i64 clear, .int .i64 extra, .int .i64 first] 68 (0, 0))) := by rw [hwp]; exact ((Below.heap_setCell _ _ _ _ (by show _ ≠ X; omega)).trans ((Below.heap_setCell _ _ _ _ (by show _ ≠ X; omega)).trans BX.out))
              replace BB : Aside (Below w.heap.size w wp) := by rw [hwp]; exact ((BB.out.setCell (p := ⟨X, 2, none⟩) (by show w.heap.size ≤ X; omega) _).setCell (p := ⟨X, 4, none⟩) (by show w.heap.size ≤ X; omega) _)
              replace BK : Aside (wp.heap[X]? = some (.cells #[.int .i64 s0, .int .i64 s1, .int .i64 (l0 + 1), .int .i64 l1, .int .i64 (1 - f), .int .i64 (-1)] 71 (0, 0))) := by rw [hwp]; exact (Go.Joins.block_setCell (i := 4) (Go.Joins.block_setCell (i := 2) BK.out (.int .i64 (l0 + 1))) (.int .i64 (1 - f)))
              rw [← hwp]
              clear hwp
              clear x0 x1 x2 x3 x4 x5 xf o0 o1 o2 o3 o4 hXl
              clear kb
              have x0 := blk_cell BK.out (i := 0) rfl
              have x1 := blk_cell BK.out (i := 1) rfl
              have x2 := blk_cell BK.out (i := 2) rfl
              have x3 := blk_cell BK.out (i := 3) rfl
              have x4 := blk_cell BK.out (i := 4) rfl
              have x5 := blk_cell BK.out (i := 5) rfl
              have xf := blk_free BK.out
              have o0 := blk_cell BX.out (i := 0) rfl
              have o1 := blk_cell BX.out (i := 1) rfl
              have o2 := blk_cell BX.out (i := 2) rfl
              have o3 := blk_cell BX.out (i := 3) rfl
              have o4 := blk_cell BX.out (i := 4) rfl
              have hXl : X < _ := (Array.getElem?_eq_some_iff.1 BK.out).1
              by_cases h1 : legs ≤ l0 + 1
              · have h1b : decide (legs ≤ l0 + 1) = true := by simpa using h1
                have H1 : Aside (legs ≤ l0 + 1) := h1
                clear h1
                go_quiet (fail)
                by_cases h2 : s0 = sets - 1
                · have h2b : (s0 == sets - 1) = true := by simpa using h2
                  have H2 : Aside (s0 = sets - 1) := h2
                  clear h2
                  by_cases h3 : s1 = sets - 1
                  · have h3b : (s1 == sets - 1) = true := by simpa using h3
                    have H3 : Aside (s1 = sets - 1) := h3
                    clear h3
                    go_wp2_with fail
                    by_cases h4 : l1 + clear ≤ l0 + 1
                    · have h4b : decide (l1 + clear ≤ l0 + 1) = true := by simpa using h4
                      have H4 : Aside (l1 + clear ≤ l0 + 1) := h4
                      clear h4
                      go_quiet (fail)
                      go_wp2_with fail
                      have HSW : Aside (setWon ⟨legs, sets, clear, extra, first⟩ s0 s1 (l0 + 1) l1 = true) := sw_clear ⟨legs, sets, clear, extra, first⟩ s0 s1 _ _ H1.out H4.out ⟨H2.out, H3.out⟩
                      generalize hdr : World.drewN wp _ = wr2
                      replace BK : Aside (wr2.heap[X]? = some (.cells #[.int .i64 s0, .int .i64 s1, .int .i64 (l0 + 1), .int .i64 l1, .int .i64 (1 - f), .int .i64 (-1)] 71 (0, 0))) := by rw [← hdr]; exact BK.out
                      replace BZ : Aside (ScAt wr2 (w.heap.size + 1)) := by rw [← hdr]; exact BZ.out
                      replace BX : Aside (wr2.heap[w.heap.size]? = some (.cells #[.int .i64 legs, .int .i64 sets, .int .i64 clear, .int .i64 extra, .int .i64 first] 68 (0, 0))) := by rw [← hdr]; exact BX.out
                      replace BB : Aside (Below w.heap.size w wr2) := by rw [← hdr]; exact below_drewN' BB.out _
                      clear hdr x0 x1 x2 x3 x4 x5 xf o0 o1 o2 o3 o4 hXl
                      have x0 := blk_cell BK.out (i := 0) rfl
                      have x1 := blk_cell BK.out (i := 1) rfl
                      have x2 := blk_cell BK.out (i := 2) rfl
                      have x3 := blk_cell BK.out (i := 3) rfl
                      have x4 := blk_cell BK.out (i := 4) rfl
                      have x5 := blk_cell BK.out (i := 5) rfl
                      have xf := blk_free BK.out
                      have o0 := blk_cell BX.out (i := 0) rfl
                      have o1 := blk_cell BX.out (i := 1) rfl
                      have o2 := blk_cell BX.out (i := 2) rfl
                      have o3 := blk_cell BX.out (i := 3) rfl
                      have o4 := blk_cell BX.out (i := 4) rfl
                      have hXl : X < _ := (Array.getElem?_eq_some_iff.1 BK.out).1
                      go_wp2_with fail
                      obtain ⟨wq, hwq⟩ : ∃ u, u = wr2.setCell ⟨X, 0, none⟩ (.int .i64 (s0 + 1)) := ⟨_, rfl⟩
                      replace BZ : Aside (ScAt wq (w.heap.size + 1)) := by rw [hwq]; exact ((Below.heap_setCell _ _ _ _ (by show _ ≠ X; omega)).trans BZ.out)
                      replace BX : Aside (wq.heap[w.heap.size]? = some (.cells #[.int .i64 legs, .int .i64 sets, .int .i64 clear, .int .i64 extra, .int .i64 first] 68 (0, 0))) := by rw [hwq]; exact ((Below.heap_setCell _ _ _ _ (by show _ ≠ X; omega)).trans BX.out)
                      replace BB : Aside (Below w.heap.size w wq) := by rw [hwq]; exact (BB.out.setCell (p := ⟨X, 0, none⟩) (by show w.heap.size ≤ X; omega) _)
                      replace BK : Aside (wq.heap[X]? = some (.cells #[.int .i64 (s0 + 1), .int .i64 s1, .int .i64 (l0 + 1), .int .i64 l1, .int .i64 (1 - f), .int .i64 (-1)] 71 (0, 0))) := by rw [hwq]; exact (Go.Joins.block_setCell (i := 0) BK.out (.int .i64 (s0 + 1)))
                      rw [← hwq]
                      clear hwq
                      clear x0 x1 x2 x3 x4 x5 xf o0 o1 o2 o3 o4 hXl
                      have x0 := blk_cell BK.out (i := 0) rfl
                      have x1 := blk_cell BK.out (i := 1) rfl
                      have x2 := blk_cell BK.out (i := 2) rfl
                      have x3 := blk_cell BK.out (i := 3) rfl
                      have x4 := blk_cell BK.out (i := 4) rfl
                      have x5 := blk_cell BK.out (i := 5) rfl
                      have xf := blk_free BK.out
                      have o0 := blk_cell BX.out (i := 0) rfl
                      have o1 := blk_cell BX.out (i := 1) rfl
                      have o2 := blk_cell BX.out (i := 2) rfl
                      have o3 := blk_cell BX.out (i := 3) rfl
                      have o4 := blk_cell BX.out (i := 4) rfl
                      have hXl : X < _ := (Array.getElem?_eq_some_iff.1 BK.out).1
                      by_cases h9 : s0 + 1 = sets
                      · have h9b : (s0 + 1 == sets) = true := by simpa using h9
                        have H9 : Aside (s0 + 1 = sets) := h9
                        clear h9
                        go_quiet (fail)
                        generalize hdr : World.drewN wq _ = wy
                        replace BK : Aside (wy.heap[X]? = some (.cells #[.int .i64 (s0 + 1), .int .i64 s1, .int .i64 (l0 + 1), .int .i64 l1, .int .i64 (1 - f), .int .i64 (-1)] 71 (0, 0))) := by rw [← hdr]; exact BK.out
                        replace BZ : Aside (ScAt wy (w.heap.size + 1)) := by rw [← hdr]; exact BZ.out
                        replace BX : Aside (wy.heap[w.heap.size]? = some (.cells #[.int .i64 legs, .int .i64 sets, .int .i64 clear, .int .i64 extra, .int .i64 first] 68 (0, 0))) := by rw [← hdr]; exact BX.out
                        replace BB : Aside (Below w.heap.size w wy) := by rw [← hdr]; exact below_drewN' BB.out _
                        clear hdr x0 x1 x2 x3 x4 x5 xf o0 o1 o2 o3 o4 hXl
                        have x0 := blk_cell BK.out (i := 0) rfl
                        have x1 := blk_cell BK.out (i := 1) rfl
                        have x2 := blk_cell BK.out (i := 2) rfl
                        have x3 := blk_cell BK.out (i := 3) rfl
                        have x4 := blk_cell BK.out (i := 4) rfl
                        have x5 := blk_cell BK.out (i := 5) rfl
                        have xf := blk_free BK.out
                        have o0 := blk_cell BX.out (i := 0) rfl
                        have o1 := blk_cell BX.out (i := 1) rfl
                        have o2 := blk_cell BX.out (i := 2) rfl
                        have o3 := blk_cell BX.out (i := 3) rfl
                        have o4 := blk_cell BX.out (i := 4) rfl
                        have hXl : X < _ := (Array.getElem?_eq_some_iff.1 BK.out).1
                        go_wp2_with fail
                        obtain ⟨wu, hwu⟩ : ∃ u, u = (wy.setCell ⟨X, 4, none⟩ (.int .i64 (-1))).setCell ⟨X, 5, none⟩ (.int .i64 0) := ⟨_, rfl⟩
                        replace BZ : Aside (ScAt wu (w.heap.size + 1)) := by rw [hwu]; exact ((Below.heap_setCell _ _ _ _ (by show _ ≠ X; omega)).trans ((Below.heap_setCell _ _ _ _ (by show _ ≠ X; omega)).trans BZ.out))
                        replace BX : Aside (wu.heap[w.heap.size]? = some (.cells #[.int .i64 legs, .int .i64 sets, .int .i64 clear, .int .i64 extra, .int .i64 first] 68 (0, 0))) := by rw [hwu]; exact ((Below.heap_setCell _ _ _ _ (by show _ ≠ X; omega)).trans ((Below.heap_setCell _ _ _ _ (by show _ ≠ X; omega)).trans BX.out))
                        replace BB : Aside (Below w.heap.size w wu) := by rw [hwu]; exact ((BB.out.setCell (p := ⟨X, 4, none⟩) (by show w.heap.size ≤ X; omega) _).setCell (p := ⟨X, 5, none⟩) (by show w.heap.size ≤ X; omega) _)
                        replace BK : Aside (wu.heap[X]? = some (.cells #[.int .i64 (s0 + 1), .int .i64 s1, .int .i64 (l0 + 1), .int .i64 l1, .int .i64 (-1), .int .i64 0] 71 (0, 0))) := by rw [hwu]; exact (Go.Joins.block_setCell (i := 5) (Go.Joins.block_setCell (i := 4) BK.out (.int .i64 (-1))) (.int .i64 0))
                        rw [← hwu]
                        clear hwu
                        have HI3 : Aside (RmInv ⟨legs, sets, clear, extra, first⟩ ws res w X (k + 1) ⟨(s0 + 1), s1, (l0 + 1), l1, 0⟩ (-1) (1 - set) wu) := by
                          have hst : Mt.step ⟨legs, sets, clear, extra, first⟩ ⟨s0, s1, l0, l1, -1⟩ 0 = ⟨(s0 + 1), s1, (l0 + 1), l1, 0⟩ := by unfold Mt.step; simp only []; simp [HSW.out, H9.out]
                          have hrs := HR.out
                          have hok := HOK2.out
                          rw [hst] at hrs hok
                          exact ⟨BK.out, hok, ⟨fun h => absurd (show (0 : Int) = -1 from h) (by decide), fun _ => ⟨rfl, show (0 : Int) ≤ 0 by decide⟩⟩, hrs, BB.out, BZ.out, BX.out⟩
                        go_wp2_with fail
                        go_roundg (n - (k + 1))
                        case measure => omega
                        case rel => exact ⟨k + 1, _, _, _, by omega, by omega, by go_num, rfl, HI3.out⟩
                      · have h9b : (s0 + 1 == sets) = false := by simpa using h9
                        have H9 : Aside (¬ s0 + 1 = sets) := h9
                        clear h9
                        go_quiet (fail)
                        generalize hdr : World.drewN wq _ = wy
                        replace BK : Aside (wy.heap[X]? = some (.cells #[.int .i64 (s0 + 1), .int .i64 s1, .int .i64 (l0 + 1), .int .i64 l1, .int .i64 (1 - f), .int .i64 (-1)] 71 (0, 0))) := by rw [← hdr]; exact BK.out
                        replace BZ : Aside (ScAt wy (w.heap.size + 1)) := by rw [← hdr]; exact BZ.out
                        replace BX : Aside (wy.heap[w.heap.size]? = some (.cells #[.int .i64 legs, .int .i64 sets, .int .i64 clear, .int .i64 extra, .int .i64 first] 68 (0, 0))) := by rw [← hdr]; exact BX.out
                        replace BB : Aside (Below w.heap.size w wy) := by rw [← hdr]; exact below_drewN' BB.out _
                        clear hdr x0 x1 x2 x3 x4 x5 xf o0 o1 o2 o3 o4 hXl
                        have x0 := blk_cell BK.out (i := 0) rfl
                        have x1 := blk_cell BK.out (i := 1) rfl
                        have x2 := blk_cell BK.out (i := 2) rfl
                        have x3 := blk_cell BK.out (i := 3) rfl
                        have x4 := blk_cell BK.out (i := 4) rfl
                        have x5 := blk_cell BK.out (i := 5) rfl
                        have xf := blk_free BK.out
                        have o0 := blk_cell BX.out (i := 0) rfl
                        have o1 := blk_cell BX.out (i := 1) rfl
                        have o2 := blk_cell BX.out (i := 2) rfl
                        have o3 := blk_cell BX.out (i := 3) rfl
                        have o4 := blk_cell BX.out (i := 4) rfl
                        have hXl : X < _ := (Array.getElem?_eq_some_iff.1 BK.out).1
                        go_wp2_with fail
                        obtain ⟨wu, hwu⟩ : ∃ u, u = ((wy.setCell ⟨X, 2, none⟩ (.int .i64 0)).setCell ⟨X, 3, none⟩ (.int .i64 0)).setCell ⟨X, 4, none⟩ (.int .i64 (1 - set)) := ⟨_, rfl⟩
                        replace BZ : Aside (ScAt wu (w.heap.size + 1)) := by rw [hwu]; exact ((Below.heap_setCell _ _ _ _ (by show _ ≠ X; omega)).trans ((Below.heap_setCell _ _ _ _ (by show _ ≠ X; omega)).trans ((Below.heap_setCell _ _ _ _ (by show _ ≠ X; omega)).trans BZ.out)))
                        replace BX : Aside (wu.heap[w.heap.size]? = some (.cells #[.int .i64 legs, .int .i64 sets, .int .i64 clear, .int .i64 extra, .int .i64 first] 68 (0, 0))) := by rw [hwu]; exact ((Below.heap_setCell _ _ _ _ (by show _ ≠ X; omega)).trans ((Below.heap_setCell _ _ _ _ (by show _ ≠ X; omega)).trans ((Below.heap_setCell _ _ _ _ (by show _ ≠ X; omega)).trans BX.out)))
                        replace BB : Aside (Below w.heap.size w wu) := by rw [hwu]; exact (((BB.out.setCell (p := ⟨X, 2, none⟩) (by show w.heap.size ≤ X; omega) _).setCell (p := ⟨X, 3, none⟩) (by show w.heap.size ≤ X; omega) _).setCell (p := ⟨X, 4, none⟩) (by show w.heap.size ≤ X; omega) _)
                        replace BK : Aside (wu.heap[X]? = some (.cells #[.int .i64 (s0 + 1), .int .i64 s1, .int .i64 0, .int .i64 0, .int .i64 (1 - set), .int .i64 (-1)] 71 (0, 0))) := by rw [hwu]; exact (Go.Joins.block_setCell (i := 4) (Go.Joins.block_setCell (i := 3) (Go.Joins.block_setCell (i := 2) BK.out (.int .i64 0)) (.int .i64 0)) (.int .i64 (1 - set)))
                        rw [← hwu]
                        clear hwu
                        have HI3 : Aside (RmInv ⟨legs, sets, clear, extra, first⟩ ws res w X (k + 1) ⟨(s0 + 1), s1, 0, 0, -1⟩ (1 - set) (1 - set) wu) := by
                          have hst : Mt.step ⟨legs, sets, clear, extra, first⟩ ⟨s0, s1, l0, l1, -1⟩ 0 = ⟨(s0 + 1), s1, 0, 0, -1⟩ := by unfold Mt.step; simp only []; simp [HSW.out, H9.out]
                          have hrs := HR.out
                          have hok := HOK2.out
                          rw [hst] at hrs hok
                          refine ⟨BK.out, hok, ⟨fun _ => ⟨?_, ?_, fun _ => ⟨?_, ?_⟩⟩, fun h => absurd rfl h⟩, hrs, BB.out, BZ.out, BX.out⟩
                          · show 1 - set = (1 - set + 0 + 0) % 2; omega
                          · have := HNL.out.2.1; show 1 - set = (first + (s0 + 1) + s1) % 2; omega
                          · show (0 : Int) < legs; omega
                          · show (0 : Int) < legs; omega
                        go_wp2_with fail
                        go_roundg (n - (k + 1))
                        case measure => omega
                        case rel => exact ⟨k + 1, _, _, _, by omega, by omega, by go_num, rfl, HI3.out⟩
                    · have h4b : decide (l1 + clear ≤ l0 + 1) = false := by simpa using h4
                      have H4 : Aside (¬ l1 + clear ≤ l0 + 1) := h4
                      clear h4
                      by_cases h5 : l0 + 1 = legs + extra
                      · have h5b : (l0 + 1 == legs + extra) = true := by simpa using h5
                        have H5 : Aside (l0 + 1 = legs + extra) := h5
                        clear h5
                        go_quiet (fail)
                        go_wp2_with fail
                        have HSW : Aside (setWon ⟨legs, sets, clear, extra, first⟩ s0 s1 (l0 + 1) l1 = true) := sw_extra ⟨legs, sets, clear, extra, first⟩ s0 s1 _ _ H5.out ⟨H2.out, H3.out⟩
                        generalize hdr : World.drewN wp _ = wr2
                        replace BK : Aside (wr2.heap[X]? = some (.cells #[.int .i64 s0, .int .i64 s1, .int .i64 (l0 + 1), .int .i64 l1, .int .i64 (1 - f), .int .i64 (-1)] 71 (0, 0))) := by rw [← hdr]; exact BK.out
                        replace BZ : Aside (ScAt wr2 (w.heap.size + 1)) := by rw [← hdr]; exact BZ.out
                        replace BX : Aside (wr2.heap[w.heap.size]? = some (.cells #[.int .i64 legs, .int .i64 sets, .int .i64 clear, .int .i64 extra, .int .i64 first] 68 (0, 0))) := by rw [← hdr]; exact BX.out
                        replace BB : Aside (Below w.heap.size w wr2) := by rw [← hdr]; exact below_drewN' BB.out _
                        clear hdr x0 x1 x2 x3 x4 x5 xf o0 o1 o2 o3 o4 hXl
                        have x0 := blk_cell BK.out (i := 0) rfl
                        have x1 := blk_cell BK.out (i := 1) rfl
                        have x2 := blk_cell BK.out (i := 2) rfl
                        have x3 := blk_cell BK.out (i := 3) rfl
                        have x4 := blk_cell BK.out (i := 4) rfl
                        have x5 := blk_cell BK.out (i := 5) rfl
                        have xf := blk_free BK.out
                        have o0 := blk_cell BX.out (i := 0) rfl
                        have o1 := blk_cell BX.out (i := 1) rfl
                        have o2 := blk_cell BX.out (i := 2) rfl
                        have o3 := blk_cell BX.out (i := 3) rfl
                        have o4 := blk_cell BX.out (i := 4) rfl
                        have hXl : X < _ := (Array.getElem?_eq_some_iff.1 BK.out).1
                        go_wp2_with fail
                        obtain ⟨wq, hwq⟩ : ∃ u, u = wr2.setCell ⟨X, 0, none⟩ (.int .i64 (s0 + 1)) := ⟨_, rfl⟩
                        replace BZ : Aside (ScAt wq (w.heap.size + 1)) := by rw [hwq]; exact ((Below.heap_setCell _ _ _ _ (by show _ ≠ X; omega)).trans BZ.out)
                        replace BX : Aside (wq.heap[w.heap.size]? = some (.cells #[.int .i64 legs, .int .i64 sets, .int .i64 clear, .int .i64 extra, .int .i64 first] 68 (0, 0))) := by rw [hwq]; exact ((Below.heap_setCell _ _ _ _ (by show _ ≠ X; omega)).trans BX.out)
                        replace BB : Aside (Below w.heap.size w wq) := by rw [hwq]; exact (BB.out.setCell (p := ⟨X, 0, none⟩) (by show w.heap.size ≤ X; omega) _)
                        replace BK : Aside (wq.heap[X]? = some (.cells #[.int .i64 (s0 + 1), .int .i64 s1, .int .i64 (l0 + 1), .int .i64 l1, .int .i64 (1 - f), .int .i64 (-1)] 71 (0, 0))) := by rw [hwq]; exact (Go.Joins.block_setCell (i := 0) BK.out (.int .i64 (s0 + 1)))
                        rw [← hwq]
                        clear hwq
                        clear x0 x1 x2 x3 x4 x5 xf o0 o1 o2 o3 o4 hXl
                        have x0 := blk_cell BK.out (i := 0) rfl
                        have x1 := blk_cell BK.out (i := 1) rfl
                        have x2 := blk_cell BK.out (i := 2) rfl
                        have x3 := blk_cell BK.out (i := 3) rfl
                        have x4 := blk_cell BK.out (i := 4) rfl
                        have x5 := blk_cell BK.out (i := 5) rfl
                        have xf := blk_free BK.out
                        have o0 := blk_cell BX.out (i := 0) rfl
                        have o1 := blk_cell BX.out (i := 1) rfl
                        have o2 := blk_cell BX.out (i := 2) rfl
                        have o3 := blk_cell BX.out (i := 3) rfl
                        have o4 := blk_cell BX.out (i := 4) rfl
                        have hXl : X < _ := (Array.getElem?_eq_some_iff.1 BK.out).1
                        by_cases h9 : s0 + 1 = sets
                        · have h9b : (s0 + 1 == sets) = true := by simpa using h9
                          have H9 : Aside (s0 + 1 = sets) := h9
                          clear h9
                          go_quiet (fail)
                          generalize hdr : World.drewN wq _ = wy
                          replace BK : Aside (wy.heap[X]? = some (.cells #[.int .i64 (s0 + 1), .int .i64 s1, .int .i64 (l0 + 1), .int .i64 l1, .int .i64 (1 - f), .int .i64 (-1)] 71 (0, 0))) := by rw [← hdr]; exact BK.out
                          replace BZ : Aside (ScAt wy (w.heap.size + 1)) := by rw [← hdr]; exact BZ.out
                          replace BX : Aside (wy.heap[w.heap.size]? = some (.cells #[.int .i64 legs, .int .i64 sets, .int .i64 clear, .int .i64 extra, .int .i64 first] 68 (0, 0))) := by rw [← hdr]; exact BX.out
                          replace BB : Aside (Below w.heap.size w wy) := by rw [← hdr]; exact below_drewN' BB.out _
                          clear hdr x0 x1 x2 x3 x4 x5 xf o0 o1 o2 o3 o4 hXl
                          have x0 := blk_cell BK.out (i := 0) rfl
                          have x1 := blk_cell BK.out (i := 1) rfl
                          have x2 := blk_cell BK.out (i := 2) rfl
                          have x3 := blk_cell BK.out (i := 3) rfl
                          have x4 := blk_cell BK.out (i := 4) rfl
                          have x5 := blk_cell BK.out (i := 5) rfl
                          have xf := blk_free BK.out
                          have o0 := blk_cell BX.out (i := 0) rfl
                          have o1 := blk_cell BX.out (i := 1) rfl
                          have o2 := blk_cell BX.out (i := 2) rfl
                          have o3 := blk_cell BX.out (i := 3) rfl
                          have o4 := blk_cell BX.out (i := 4) rfl
                          have hXl : X < _ := (Array.getElem?_eq_some_iff.1 BK.out).1
                          go_wp2_with fail
                          obtain ⟨wu, hwu⟩ : ∃ u, u = (wy.setCell ⟨X, 4, none⟩ (.int .i64 (-1))).setCell ⟨X, 5, none⟩ (.int .i64 0) := ⟨_, rfl⟩
                          replace BZ : Aside (ScAt wu (w.heap.size + 1)) := by rw [hwu]; exact ((Below.heap_setCell _ _ _ _ (by show _ ≠ X; omega)).trans ((Below.heap_setCell _ _ _ _ (by show _ ≠ X; omega)).trans BZ.out))
                          replace BX : Aside (wu.heap[w.heap.size]? = some (.cells #[.int .i64 legs, .int .i64 sets, .int .i64 clear, .int .i64 extra, .int .i64 first] 68 (0, 0))) := by rw [hwu]; exact ((Below.heap_setCell _ _ _ _ (by show _ ≠ X; omega)).trans ((Below.heap_setCell _ _ _ _ (by show _ ≠ X; omega)).trans BX.out))
                          replace BB : Aside (Below w.heap.size w wu) := by rw [hwu]; exact ((BB.out.setCell (p := ⟨X, 4, none⟩) (by show w.heap.size ≤ X; omega) _).setCell (p := ⟨X, 5, none⟩) (by show w.heap.size ≤ X; omega) _)
                          replace BK : Aside (wu.heap[X]? = some (.cells #[.int .i64 (s0 + 1), .int .i64 s1, .int .i64 (l0 + 1), .int .i64 l1, .int .i64 (-1), .int .i64 0] 71 (0, 0))) := by rw [hwu]; exact (Go.Joins.block_setCell (i := 5) (Go.Joins.block_setCell (i := 4) BK.out (.int .i64 (-1))) (.int .i64 0))
                          rw [← hwu]
                          clear hwu
                          have HI3 : Aside (RmInv ⟨legs, sets, clear, extra, first⟩ ws res w X (k + 1) ⟨(s0 + 1), s1, (l0 + 1), l1, 0⟩ (-1) (1 - set) wu) := by
                            have hst : Mt.step ⟨legs, sets, clear, extra, first⟩ ⟨s0, s1, l0, l1, -1⟩ 0 = ⟨(s0 + 1), s1, (l0 + 1), l1, 0⟩ := by unfold Mt.step; simp only []; simp [HSW.out, H9.out]
                            have hrs := HR.out
                            have hok := HOK2.out
                            rw [hst] at hrs hok
                            exact ⟨BK.out, hok, ⟨fun h => absurd (show (0 : Int) = -1 from h) (by decide), fun _ => ⟨rfl, show (0 : Int) ≤ 0 by decide⟩⟩, hrs, BB.out, BZ.out, BX.out⟩
                          go_wp2_with fail
                          go_roundg (n - (k + 1))
                          case measure => omega
                          case rel => exact ⟨k + 1, _, _, _, by omega, by omega, by go_num, rfl, HI3.out⟩
                        · have h9b : (s0 + 1 == sets) = false := by simpa using h9
                          have H9 : Aside (¬ s0 + 1 = sets) := h9
                          clear h9
                          go_quiet (fail)
                          generalize hdr : World.drewN wq _ = wy
                          replace BK : Aside (wy.heap[X]? = some (.cells #[.int .i64 (s0 + 1), .int .i64 s1, .int .i64 (l0 + 1), .int .i64 l1, .int .i64 (1 - f), .int .i64 (-1)] 71 (0, 0))) := by rw [← hdr]; exact BK.out
                          replace BZ : Aside (ScAt wy (w.heap.size + 1)) := by rw [← hdr]; exact BZ.out
                          replace BX : Aside (wy.heap[w.heap.size]? = some (.cells #[.int .i64 legs, .int .i64 sets, .int .i64 clear, .int .i64 extra, .int .i64 first] 68 (0, 0))) := by rw [← hdr]; exact BX.out
                          replace BB : Aside (Below w.heap.size w wy) := by rw [← hdr]; exact below_drewN' BB.out _
                          clear hdr x0 x1 x2 x3 x4 x5 xf o0 o1 o2 o3 o4 hXl
                          have x0 := blk_cell BK.out (i := 0) rfl
                          have x1 := blk_cell BK.out (i := 1) rfl
                          have x2 := blk_cell BK.out (i := 2) rfl
                          have x3 := blk_cell BK.out (i := 3) rfl
                          have x4 := blk_cell BK.out (i := 4) rfl
                          have x5 := blk_cell BK.out (i := 5) rfl
                          have xf := blk_free BK.out
                          have o0 := blk_cell BX.out (i := 0) rfl
                          have o1 := blk_cell BX.out (i := 1) rfl
                          have o2 := blk_cell BX.out (i := 2) rfl
                          have o3 := blk_cell BX.out (i := 3) rfl
                          have o4 := blk_cell BX.out (i := 4) rfl
                          have hXl : X < _ := (Array.getElem?_eq_some_iff.1 BK.out).1
                          go_wp2_with fail
                          obtain ⟨wu, hwu⟩ : ∃ u, u = ((wy.setCell ⟨X, 2, none⟩ (.int .i64 0)).setCell ⟨X, 3, none⟩ (.int .i64 0)).setCell ⟨X, 4, none⟩ (.int .i64 (1 - set)) := ⟨_, rfl⟩
                          replace BZ : Aside (ScAt wu (w.heap.size + 1)) := by rw [hwu]; exact ((Below.heap_setCell _ _ _ _ (by show _ ≠ X; omega)).trans ((Below.heap_setCell _ _ _ _ (by show _ ≠ X; omega)).trans ((Below.heap_setCell _ _ _ _ (by show _ ≠ X; omega)).trans BZ.out)))
                          replace BX : Aside (wu.heap[w.heap.size]? = some (.cells #[.int .i64 legs, .int .i64 sets, .int .i64 clear, .int .i64 extra, .int .i64 first] 68 (0, 0))) := by rw [hwu]; exact ((Below.heap_setCell _ _ _ _ (by show _ ≠ X; omega)).trans ((Below.heap_setCell _ _ _ _ (by show _ ≠ X; omega)).trans ((Below.heap_setCell _ _ _ _ (by show _ ≠ X; omega)).trans BX.out)))
                          replace BB : Aside (Below w.heap.size w wu) := by rw [hwu]; exact (((BB.out.setCell (p := ⟨X, 2, none⟩) (by show w.heap.size ≤ X; omega) _).setCell (p := ⟨X, 3, none⟩) (by show w.heap.size ≤ X; omega) _).setCell (p := ⟨X, 4, none⟩) (by show w.heap.size ≤ X; omega) _)
                          replace BK : Aside (wu.heap[X]? = some (.cells #[.int .i64 (s0 + 1), .int .i64 s1, .int .i64 0, .int .i64 0, .int .i64 (1 - set), .int .i64 (-1)] 71 (0, 0))) := by rw [hwu]; exact (Go.Joins.block_setCell (i := 4) (Go.Joins.block_setCell (i := 3) (Go.Joins.block_setCell (i := 2) BK.out (.int .i64 0)) (.int .i64 0)) (.int .i64 (1 - set)))
                          rw [← hwu]
                          clear hwu
                          have HI3 : Aside (RmInv ⟨legs, sets, clear, extra, first⟩ ws res w X (k + 1) ⟨(s0 + 1), s1, 0, 0, -1⟩ (1 - set) (1 - set) wu) := by
                            have hst : Mt.step ⟨legs, sets, clear, extra, first⟩ ⟨s0, s1, l0, l1, -1⟩ 0 = ⟨(s0 + 1), s1, 0, 0, -1⟩ := by unfold Mt.step; simp only []; simp [HSW.out, H9.out]
                            have hrs := HR.out
                            have hok := HOK2.out
                            rw [hst] at hrs hok
                            refine ⟨BK.out, hok, ⟨fun _ => ⟨?_, ?_, fun _ => ⟨?_, ?_⟩⟩, fun h => absurd rfl h⟩, hrs, BB.out, BZ.out, BX.out⟩
                            · show 1 - set = (1 - set + 0 + 0) % 2; omega
                            · have := HNL.out.2.1; show 1 - set = (first + (s0 + 1) + s1) % 2; omega
                            · show (0 : Int) < legs; omega
                            · show (0 : Int) < legs; omega
                          go_wp2_with fail
                          go_roundg (n - (k + 1))
                          case measure => omega
                          case rel => exact ⟨k + 1, _, _, _, by omega, by omega, by go_num, rfl, HI3.out⟩
                      · have h5b : (l0 + 1 == legs + extra) = false := by simpa using h5
                        have H5 : Aside (¬ l0 + 1 = legs + extra) := h5
                        clear h5
                        go_quiet (fail)
                        go_wp2_with fail
                        generalize hdr : World.drewN wp _ = wr2
                        replace BK : Aside (wr2.heap[X]? = some (.cells #[.int .i64 s0, .int .i64 s1, .int .i64 (l0 + 1), .int .i64 l1, .int .i64 (1 - f), .int .i64 (-1)] 71 (0, 0))) := by rw [← hdr]; exact BK.out
                        replace BZ : Aside (ScAt wr2 (w.heap.size + 1)) := by rw [← hdr]; exact BZ.out
                        replace BX : Aside (wr2.heap[w.heap.size]? = some (.cells #[.int .i64 legs, .int .i64 sets, .int .i64 clear, .int .i64 extra, .int .i64 first] 68 (0, 0))) := by rw [← hdr]; exact BX.out
                        replace BB : Aside (Below w.heap.size w wr2) := by rw [← hdr]; exact below_drewN' BB.out _
                        clear hdr x0 x1 x2 x3 x4 x5 xf o0 o1 o2 o3 o4 hXl
                        have x0 := blk_cell BK.out (i := 0) rfl
                        have x1 := blk_cell BK.out (i := 1) rfl
                        have x2 := blk_cell BK.out (i := 2) rfl
                        have x3 := blk_cell BK.out (i := 3) rfl
                        have x4 := blk_cell BK.out (i := 4) rfl
                        have x5 := blk_cell BK.out (i := 5) rfl
                        have xf := blk_free BK.out
                        have o0 := blk_cell BX.out (i := 0) rfl
                        have o1 := blk_cell BX.out (i := 1) rfl
                        have o2 := blk_cell BX.out (i := 2) rfl
                        have o3 := blk_cell BX.out (i := 3) rfl
                        have o4 := blk_cell BX.out (i := 4) rfl
                        have hXl : X < _ := (Array.getElem?_eq_some_iff.1 BK.out).1
                        go_wp2_with fail
                        have HSW : Aside (setWon ⟨legs, sets, clear, extra, first⟩ s0 s1 (l0 + 1) l1 = false) := sw_last ⟨legs, sets, clear, extra, first⟩ s0 s1 _ _ (by have h9 := H4.out; show ¬ l1 + clear ≤ l0 + 1; omega) H5.out ⟨H2.out, H3.out⟩
                        have HI3 : Aside (RmInv ⟨legs, sets, clear, extra, first⟩ ws res w X (k + 1) ⟨s0, s1, l0 + 1, l1, -1⟩ (1 - f) set wr2) := by
                          have hst : Mt.step ⟨legs, sets, clear, extra, first⟩ ⟨s0, s1, l0, l1, -1⟩ 0 = ⟨s0, s1, l0 + 1, l1, -1⟩ := by unfold Mt.step; simp only []; simp [HSW.out]
                          have hrs := HR.out
                          have hok := HOK2.out
                          rw [hst] at hrs hok
                          refine ⟨BK.out, hok, ⟨fun _ => ⟨?_, HNL.out.2.1, fun hnn => ?_⟩, fun h => absurd rfl h⟩, hrs, BB.out, BZ.out, BX.out⟩
                          · have := HNL.out.1; show 1 - f = (set + (l0 + 1) + l1) % 2; omega
                          · have h7 := HNL.out.2.2 hnn; have h8 := HSW.out; unfold setWon at h8; rw [if_neg hnn] at h8; simp at h8; show (l0 + 1) < legs ∧ l1 < legs; omega
                        go_wp2_with fail
                        go_roundg (n - (k + 1))
                        case measure => omega
                        case rel => exact ⟨k + 1, _, _, _, by omega, by omega, by go_num, rfl, HI3.out⟩
                  · have h3b : (s1 == sets - 1) = false := by simpa using h3
                    have H3 : Aside (¬ s1 = sets - 1) := h3
                    clear h3
                    go_wp2_with fail
                    have HSW : Aside (setWon ⟨legs, sets, clear, extra, first⟩ s0 s1 (l0 + 1) l1 = true) := sw_yes ⟨legs, sets, clear, extra, first⟩ s0 s1 _ _ H1.out (by have := (HNL.out.2.2 (fun h => H3.out h.2)).1; show l0 + 1 ≤ legs; omega) (fun h => H3.out h.2)
                    generalize hdr : World.drewN wp _ = wr2
                    replace BK : Aside (wr2.heap[X]? = some (.cells #[.int .i64 s0, .int .i64 s1, .int .i64 (l0 + 1), .int .i64 l1, .int .i64 (1 - f), .int .i64 (-1)] 71 (0, 0))) := by rw [← hdr]; exact BK.out
                    replace BZ : Aside (ScAt wr2 (w.heap.size + 1)) := by rw [← hdr]; exact BZ.out
                    replace BX : Aside (wr2.heap[w.heap.size]? = some (.cells #[.int .i64 legs, .int .i64 sets, .int .i64 clear, .int .i64 extra, .int .i64 first] 68 (0, 0))) := by rw [← hdr]; exact BX.out
                    replace BB : Aside (Below w.heap.size w wr2) := by rw [← hdr]; exact below_drewN' BB.out _
                    clear hdr x0 x1 x2 x3 x4 x5 xf o0 o1 o2 o3 o4 hXl
                    have x0 := blk_cell BK.out (i := 0) rfl
                    have x1 := blk_cell BK.out (i := 1) rfl
                    have x2 := blk_cell BK.out (i := 2) rfl
                    have x3 := blk_cell BK.out (i := 3) rfl
                    have x4 := blk_cell BK.out (i := 4) rfl
                    have x5 := blk_cell BK.out (i := 5) rfl
                    have xf := blk_free BK.out
                    have o0 := blk_cell BX.out (i := 0) rfl
                    have o1 := blk_cell BX.out (i := 1) rfl
                    have o2 := blk_cell BX.out (i := 2) rfl
                    have o3 := blk_cell BX.out (i := 3) rfl
                    have o4 := blk_cell BX.out (i := 4) rfl
                    have hXl : X < _ := (Array.getElem?_eq_some_iff.1 BK.out).1
                    go_wp2_with fail
                    obtain ⟨wq, hwq⟩ : ∃ u, u = wr2.setCell ⟨X, 0, none⟩ (.int .i64 (s0 + 1)) := ⟨_, rfl⟩
                    replace BZ : Aside (ScAt wq (w.heap.size + 1)) := by rw [hwq]; exact ((Below.heap_setCell _ _ _ _ (by show _ ≠ X; omega)).trans BZ.out)
                    replace BX : Aside (wq.heap[w.heap.size]? = some (.cells #[.int .i64 legs, .int .i64 sets, .int .i64 clear, .int .i64 extra, .int .i64 first] 68 (0, 0))) := by rw [hwq]; exact ((Below.heap_setCell _ _ _ _ (by show _ ≠ X; omega)).trans BX.out)
                    replace BB : Aside (Below w.heap.size w wq) := by rw [hwq]; exact (BB.out.setCell (p := ⟨X, 0, none⟩) (by show w.heap.size ≤ X; omega) _)
                    replace BK : Aside (wq.heap[X]? = some (.cells #[.int .i64 (s0 + 1), .int .i64 s1, .int .i64 (l0 + 1), .int .i64 l1, .int .i64 (1 - f), .int .i64 (-1)] 71 (0, 0))) := by rw [hwq]; exact (Go.Joins.block_setCell (i := 0) BK.out (.int .i64 (s0 + 1)))
                    rw [← hwq]
                    clear hwq
                    clear x0 x1 x2 x3 x4 x5 xf o0 o1 o2 o3 o4 hXl
                    have x0 := blk_cell BK.out (i := 0) rfl
                    have x1 := blk_cell BK.out (i := 1) rfl
                    have x2 := blk_cell BK.out (i := 2) rfl
                    have x3 := blk_cell BK.out (i := 3) rfl
                    have x4 := blk_cell BK.out (i := 4) rfl
                    have x5 := blk_cell BK.out (i := 5) rfl
                    have xf := blk_free BK.out
                    have o0 := blk_cell BX.out (i := 0) rfl
                    have o1 := blk_cell BX.out (i := 1) rfl
                    have o2 := blk_cell BX.out (i := 2) rfl
                    have o3 := blk_cell BX.out (i := 3) rfl
                    have o4 := blk_cell BX.out (i := 4) rfl
                    have hXl : X < _ := (Array.getElem?_eq_some_iff.1 BK.out).1
                    by_cases h9 : s0 + 1 = sets
                    · have h9b : (s0 + 1 == sets) = true := by simpa using h9
                      have H9 : Aside (s0 + 1 = sets) := h9
                      clear h9
                      go_quiet (fail)
                      generalize hdr : World.drewN wq _ = wy
                      replace BK : Aside (wy.heap[X]? = some (.cells #[.int .i64 (s0 + 1), .int .i64 s1, .int .i64 (l0 + 1), .int .i64 l1, .int .i64 (1 - f), .int .i64 (-1)] 71 (0, 0))) := by rw [← hdr]; exact BK.out
                      replace BZ : Aside (ScAt wy (w.heap.size + 1)) := by rw [← hdr]; exact BZ.out
                      replace BX : Aside (wy.heap[w.heap.size]? = some (.cells #[.int .i64 legs, .int .i64 sets, .int .i64 clear, .int .i64 extra, .int .i64 first] 68 (0, 0))) := by rw [← hdr]; exact BX.out
                      replace BB : Aside (Below w.heap.size w wy) := by rw [← hdr]; exact below_drewN' BB.out _
                      clear hdr x0 x1 x2 x3 x4 x5 xf o0 o1 o2 o3 o4 hXl
                      have x0 := blk_cell BK.out (i := 0) rfl
                      have x1 := blk_cell BK.out (i := 1) rfl
                      have x2 := blk_cell BK.out (i := 2) rfl
                      have x3 := blk_cell BK.out (i := 3) rfl
                      have x4 := blk_cell BK.out (i := 4) rfl
                      have x5 := blk_cell BK.out (i := 5) rfl
                      have xf := blk_free BK.out
                      have o0 := blk_cell BX.out (i := 0) rfl
                      have o1 := blk_cell BX.out (i := 1) rfl
                      have o2 := blk_cell BX.out (i := 2) rfl
                      have o3 := blk_cell BX.out (i := 3) rfl
                      have o4 := blk_cell BX.out (i := 4) rfl
                      have hXl : X < _ := (Array.getElem?_eq_some_iff.1 BK.out).1
                      go_wp2_with fail
                      obtain ⟨wu, hwu⟩ : ∃ u, u = (wy.setCell ⟨X, 4, none⟩ (.int .i64 (-1))).setCell ⟨X, 5, none⟩ (.int .i64 0) := ⟨_, rfl⟩
                      replace BZ : Aside (ScAt wu (w.heap.size + 1)) := by rw [hwu]; exact ((Below.heap_setCell _ _ _ _ (by show _ ≠ X; omega)).trans ((Below.heap_setCell _ _ _ _ (by show _ ≠ X; omega)).trans BZ.out))
                      replace BX : Aside (wu.heap[w.heap.size]? = some (.cells #[.int .i64 legs, .int .i64 sets, .int .i64 clear, .int .i64 extra, .int .i64 first] 68 (0, 0))) := by rw [hwu]; exact ((Below.heap_setCell _ _ _ _ (by show _ ≠ X; omega)).trans ((Below.heap_setCell _ _ _ _ (by show _ ≠ X; omega)).trans BX.out))
                      replace BB : Aside (Below w.heap.size w wu) := by rw [hwu]; exact ((BB.out.setCell (p := ⟨X, 4, none⟩) (by show w.heap.size ≤ X; omega) _).setCell (p := ⟨X, 5, none⟩) (by show w.heap.size ≤ X; omega) _)
                      replace BK : Aside (wu.heap[X]? = some (.cells #[.int .i64 (s0 + 1), .int .i64 s1, .int .i64 (l0 + 1), .int .i64 l1, .int .i64 (-1), .int .i64 0] 71 (0, 0))) := by rw [hwu]; exact (Go.Joins.block_setCell (i := 5) (Go.Joins.block_setCell (i := 4) BK.out (.int .i64 (-1))) (.int .i64 0))
                      rw [← hwu]
                      clear hwu
                      have HI3 : Aside (RmInv ⟨legs, sets, clear, extra, first⟩ ws res w X (k + 1) ⟨(s0 + 1), s1, (l0 + 1), l1, 0⟩ (-1) (1 - set) wu) := by
                        have hst : Mt.step ⟨legs, sets, clear, extra, first⟩ ⟨s0, s1, l0, l1, -1⟩ 0 = ⟨(s0 + 1), s1, (l0 + 1), l1, 0⟩ := by unfold Mt.step; simp only []; simp [HSW.out, H9.out]
                        have hrs := HR.out
                        have hok := HOK2.out
                        rw [hst] at hrs hok
                        exact ⟨BK.out, hok, ⟨fun h => absurd (show (0 : Int) = -1 from h) (by decide), fun _ => ⟨rfl, show (0 : Int) ≤ 0 by decide⟩⟩, hrs, BB.out, BZ.out, BX.out⟩
                      go_wp2_with fail
                      go_roundg (n - (k + 1))
                      case measure => omega
                      case rel => exact ⟨k + 1, _, _, _, by omega, by omega, by go_num, rfl, HI3.out⟩
                    · have h9b : (s0 + 1 == sets) = false := by simpa using h9
                      have H9 : Aside (¬ s0 + 1 = sets) := h9
                      clear h9
                      go_quiet (fail)
                      generalize hdr : World.drewN wq _ = wy
                      replace BK : Aside (wy.heap[X]? = some (.cells #[.int .i64 (s0 + 1), .int .i64 s1, .int .i64 (l0 + 1), .int .i64 l1, .int .i64 (1 - f), .int .i64 (-1)] 71 (0, 0))) := by rw [← hdr]; exact BK.out
                      replace BZ : Aside (ScAt wy (w.heap.size + 1)) := by rw [← hdr]; exact BZ.out
                      replace BX : Aside (wy.heap[w.heap.size]? = some (.cells #[.int .i64 legs, .int .i64 sets, .int .i64 clear, .int .i64 extra, .int .i64 first] 68 (0, 0))) := by rw [← hdr]; exact BX.out
                      replace BB : Aside (Below w.heap.size w wy) := by rw [← hdr]; exact below_drewN' BB.out _
                      clear hdr x0 x1 x2 x3 x4 x5 xf o0 o1 o2 o3 o4 hXl
                      have x0 := blk_cell BK.out (i := 0) rfl
                      have x1 := blk_cell BK.out (i := 1) rfl
                      have x2 := blk_cell BK.out (i := 2) rfl
                      have x3 := blk_cell BK.out (i := 3) rfl
                      have x4 := blk_cell BK.out (i := 4) rfl
                      have x5 := blk_cell BK.out (i := 5) rfl
                      have xf := blk_free BK.out
                      have o0 := blk_cell BX.out (i := 0) rfl
                      have o1 := blk_cell BX.out (i := 1) rfl
                      have o2 := blk_cell BX.out (i := 2) rfl
                      have o3 := blk_cell BX.out (i := 3) rfl
                      have o4 := blk_cell BX.out (i := 4) rfl
                      have hXl : X < _ := (Array.getElem?_eq_some_iff.1 BK.out).1
                      go_wp2_with fail
                      obtain ⟨wu, hwu⟩ : ∃ u, u = ((wy.setCell ⟨X, 2, none⟩ (.int .i64 0)).setCell ⟨X, 3, none⟩ (.int .i64 0)).setCell ⟨X, 4, none⟩ (.int .i64 (1 - set)) := ⟨_, rfl⟩
                      replace BZ : Aside (ScAt wu (w.heap.size + 1)) := by rw [hwu]; exact ((Below.heap_setCell _ _ _ _ (by show _ ≠ X; omega)).trans ((Below.heap_setCell _ _ _ _ (by show _ ≠ X; omega)).trans ((Below.heap_setCell _ _ _ _ (by show _ ≠ X; omega)).trans BZ.out)))
                      replace BX : Aside (wu.heap[w.heap.size]? = some (.cells #[.int .i64 legs, .int .i64 sets, .int .i64 clear, .int .i64 extra, .int .i64 first] 68 (0, 0))) := by rw [hwu]; exact ((Below.heap_setCell _ _ _ _ (by show _ ≠ X; omega)).trans ((Below.heap_setCell _ _ _ _ (by show _ ≠ X; omega)).trans ((Below.heap_setCell _ _ _ _ (by show _ ≠ X; omega)).trans BX.out)))
                      replace BB : Aside (Below w.heap.size w wu) := by rw [hwu]; exact (((BB.out.setCell (p := ⟨X, 2, none⟩) (by show w.heap.size ≤ X; omega) _).setCell (p := ⟨X, 3, none⟩) (by show w.heap.size ≤ X; omega) _).setCell (p := ⟨X, 4, none⟩) (by show w.heap.size ≤ X; omega) _)
                      replace BK : Aside (wu.heap[X]? = some (.cells #[.int .i64 (s0 + 1), .int .i64 s1, .int .i64 0, .int .i64 0, .int .i64 (1 - set), .int .i64 (-1)] 71 (0, 0))) := by rw [hwu]; exact (Go.Joins.block_setCell (i := 4) (Go.Joins.block_setCell (i := 3) (Go.Joins.block_setCell (i := 2) BK.out (.int .i64 0)) (.int .i64 0)) (.int .i64 (1 - set)))
                      rw [← hwu]
                      clear hwu
                      have HI3 : Aside (RmInv ⟨legs, sets, clear, extra, first⟩ ws res w X (k + 1) ⟨(s0 + 1), s1, 0, 0, -1⟩ (1 - set) (1 - set) wu) := by
                        have hst : Mt.step ⟨legs, sets, clear, extra, first⟩ ⟨s0, s1, l0, l1, -1⟩ 0 = ⟨(s0 + 1), s1, 0, 0, -1⟩ := by unfold Mt.step; simp only []; simp [HSW.out, H9.out]
                        have hrs := HR.out
                        have hok := HOK2.out
                        rw [hst] at hrs hok
                        refine ⟨BK.out, hok, ⟨fun _ => ⟨?_, ?_, fun _ => ⟨?_, ?_⟩⟩, fun h => absurd rfl h⟩, hrs, BB.out, BZ.out, BX.out⟩
                        · show 1 - set = (1 - set + 0 + 0) % 2; omega
                        · have := HNL.out.2.1; show 1 - set = (first + (s0 + 1) + s1) % 2; omega
                        · show (0 : Int) < legs; omega
                        · show (0 : Int) < legs; omega
                      go_wp2_with fail
                      go_roundg (n - (k + 1))
                      case measure => omega
                      case rel => exact ⟨k + 1, _, _, _, by omega, by omega, by go_num, rfl, HI3.out⟩
                · have h2b : (s0 == sets - 1) = false := by simpa using h2
                  have H2 : Aside (¬ s0 = sets - 1) := h2
                  clear h2
                  go_wp2_with fail
                  have HSW : Aside (setWon ⟨legs, sets, clear, extra, first⟩ s0 s1 (l0 + 1) l1 = true) := sw_yes ⟨legs, sets, clear, extra, first⟩ s0 s1 _ _ H1.out (by have := (HNL.out.2.2 (fun h => H2.out h.1)).1; show l0 + 1 ≤ legs; omega) (fun h => H2.out h.1)
                  generalize hdr : World.drewN wp _ = wr2
                  replace BK : Aside (wr2.heap[X]? = some (.cells #[.int .i64 s0, .int .i64 s1, .int .i64 (l0 + 1), .int .i64 l1, .int .i64 (1 - f), .int .i64 (-1)] 71 (0, 0))) := by rw [← hdr]; exact BK.out
                  replace BZ : Aside (ScAt wr2 (w.heap.size + 1)) := by rw [← hdr]; exact BZ.out
                  replace BX : Aside (wr2.heap[w.heap.size]? = some (.cells #[.int .i64 legs, .int .i64 sets, .int .i64 clear, .int .i64 extra, .int .i64 first] 68 (0, 0))) := by rw [← hdr]; exact BX.out
                  replace BB : Aside (Below w.heap.size w wr2) := by rw [← hdr]; exact below_drewN' BB.out _
                  clear hdr x0 x1 x2 x3 x4 x5 xf o0 o1 o2 o3 o4 hXl
                  have x0 := blk_cell BK.out (i := 0) rfl
                  have x1 := blk_cell BK.out (i := 1) rfl
                  have x2 := blk_cell BK.out (i := 2) rfl
                  have x3 := blk_cell BK.out (i := 3) rfl
                  have x4 := blk_cell BK.out (i := 4) rfl
                  have x5 := blk_cell BK.out (i := 5) rfl
                  have xf := blk_free BK.out
                  have o0 := blk_cell BX.out (i := 0) rfl
                  have o1 := blk_cell BX.out (i := 1) rfl
                  have o2 := blk_cell BX.out (i := 2) rfl
                  have o3 := blk_cell BX.out (i := 3) rfl
                  have o4 := blk_cell BX.out (i := 4) rfl
                  have hXl : X < _ := (Array.getElem?_eq_some_iff.1 BK.out).1
                  go_wp2_with fail
                  obtain ⟨wq, hwq⟩ : ∃ u, u = wr2.setCell ⟨X, 0, none⟩ (.int .i64 (s0 + 1)) := ⟨_, rfl⟩
                  replace BZ : Aside (ScAt wq (w.heap.size + 1)) := by rw [hwq]; exact ((Below.heap_setCell _ _ _ _ (by show _ ≠ X; omega)).trans BZ.out)
                  replace BX : Aside (wq.heap[w.heap.size]? = some (.cells #[.int .i64 legs, .int .i64 sets, .int .i64 clear, .int .i64 extra, .int .i64 first] 68 (0, 0))) := by rw [hwq]; exact ((Below.heap_setCell _ _ _ _ (by show _ ≠ X; omega)).trans BX.out)
                  replace BB : Aside (Below w.heap.size w wq) := by rw [hwq]; exact (BB.out.setCell (p := ⟨X, 0, none⟩) (by show w.heap.size ≤ X; omega) _)
                  replace BK : Aside (wq.heap[X]? = some (.cells #[.int .i64 (s0 + 1), .int .i64 s1, .int .i64 (l0 + 1), .int .i64 l1, .int .i64 (1 - f), .int .i64 (-1)] 71 (0, 0))) := by rw [hwq]; exact (Go.Joins.block_setCell (i := 0) BK.out (.int .i64 (s0 + 1)))
                  rw [← hwq]
                  clear hwq
                  clear x0 x1 x2 x3 x4 x5 xf o0 o1 o2 o3 o4 hXl
                  have x0 := blk_cell BK.out (i := 0) rfl
                  have x1 := blk_cell BK.out (i := 1) rfl
                  have x2 := blk_cell BK.out (i := 2) rfl
                  have x3 := blk_cell BK.out (i := 3) rfl
                  have x4 := blk_cell BK.out (i := 4) rfl
                  have x5 := blk_cell BK.out (i := 5) rfl
                  have xf := blk_free BK.out
                  have o0 := blk_cell BX.out (i := 0) rfl
                  have o1 := blk_cell BX.out (i := 1) rfl
                  have o2 := blk_cell BX.out (i := 2) rfl
                  have o3 := blk_cell BX.out (i := 3) rfl
                  have o4 := blk_cell BX.out (i := 4) rfl
                  have hXl : X < _ := (Array.getElem?_eq_some_iff.1 BK.out).1
                  by_cases h9 : s0 + 1 = sets
                  · have h9b : (s0 + 1 == sets) = true := by simpa using h9
                    have H9 : Aside (s0 + 1 = sets) := h9
                    clear h9
                    go_quiet (fail)
                    generalize hdr : World.drewN wq _ = wy
                    replace BK : Aside (wy.heap[X]? = some (.cells #[.int .i64 (s0 + 1), .int .i64 s1, .int .i64 (l0 + 1), .int .i64 l1, .int .i64 (1 - f), .int .i64 (-1)] 71 (0, 0))) := by rw [← hdr]; exact BK.out
                    replace BZ : Aside (ScAt wy (w.heap.size + 1)) := by rw [← hdr]; exact BZ.out
                    replace BX : Aside (wy.heap[w.heap.size]? = some (.cells #[.int .i64 legs, .int .i64 sets, .int .i64 clear, .int .i64 extra, .int .i64 first] 68 (0, 0))) := by rw [← hdr]; exact BX.out
                    replace BB : Aside (Below w.heap.size w wy) := by rw [← hdr]; exact below_drewN' BB.out _
                    clear hdr x0 x1 x2 x3 x4 x5 xf o0 o1 o2 o3 o4 hXl
                    have x0 := blk_cell BK.out (i := 0) rfl
                    have x1 := blk_cell BK.out (i := 1) rfl
                    have x2 := blk_cell BK.out (i := 2) rfl
                    have x3 := blk_cell BK.out (i := 3) rfl
                    have x4 := blk_cell BK.out (i := 4) rfl
                    have x5 := blk_cell BK.out (i := 5) rfl
                    have xf := blk_free BK.out
                    have o0 := blk_cell BX.out (i := 0) rfl
                    have o1 := blk_cell BX.out (i := 1) rfl
                    have o2 := blk_cell BX.out (i := 2) rfl
                    have o3 := blk_cell BX.out (i := 3) rfl
                    have o4 := blk_cell BX.out (i := 4) rfl
                    have hXl : X < _ := (Array.getElem?_eq_some_iff.1 BK.out).1
                    go_wp2_with fail
                    obtain ⟨wu, hwu⟩ : ∃ u, u = (wy.setCell ⟨X, 4, none⟩ (.int .i64 (-1))).setCell ⟨X, 5, none⟩ (.int .i64 0) := ⟨_, rfl⟩
                    replace BZ : Aside (ScAt wu (w.heap.size + 1)) := by rw [hwu]; exact ((Below.heap_setCell _ _ _ _ (by show _ ≠ X; omega)).trans ((Below.heap_setCell _ _ _ _ (by show _ ≠ X; omega)).trans BZ.out))
                    replace BX : Aside (wu.heap[w.heap.size]? = some (.cells #[.int .i64 legs, .int .i64 sets, .int .i64 clear, .int .i64 extra, .int .i64 first] 68 (0, 0))) := by rw [hwu]; exact ((Below.heap_setCell _ _ _ _ (by show _ ≠ X; omega)).trans ((Below.heap_setCell _ _ _ _ (by show _ ≠ X; omega)).trans BX.out))
                    replace BB : Aside (Below w.heap.size w wu) := by rw [hwu]; exact ((BB.out.setCell (p := ⟨X, 4, none⟩) (by show w.heap.size ≤ X; omega) _).setCell (p := ⟨X, 5, none⟩) (by show w.heap.size ≤ X; omega) _)
                    replace BK : Aside (wu.heap[X]? = some (.cells #[.int .i64 (s0 + 1), .int .i64 s1, .int .i64 (l0 + 1), .int .i64 l1, .int .i64 (-1), .int .i64 0] 71 (0, 0))) := by rw [hwu]; exact (Go.Joins.block_setCell (i := 5) (Go.Joins.block_setCell (i := 4) BK.out (.int .i64 (-1))) (.int .i64 0))
                    rw [← hwu]
                    clear hwu
                    have HI3 : Aside (RmInv ⟨legs, sets, clear, extra, first⟩ ws res w X (k + 1) ⟨(s0 + 1), s1, (l0 + 1), l1, 0⟩ (-1) (1 - set) wu) := by
                      have hst : Mt.step ⟨legs, sets, clear, extra, first⟩ ⟨s0, s1, l0, l1, -1⟩ 0 = ⟨(s0 + 1), s1, (l0 + 1), l1, 0⟩ := by unfold Mt.step; simp only []; simp [HSW.out, H9.out]
                      have hrs := HR.out
                      have hok := HOK2.out
                      rw [hst] at hrs hok
                      exact ⟨BK.out, hok, ⟨fun h => absurd (show (0 : Int) = -1 from h) (by decide), fun _ => ⟨rfl, show (0 : Int) ≤ 0 by decide⟩⟩, hrs, BB.out, BZ.out, BX.out⟩
                    go_wp2_with fail
                    go_roundg (n - (k + 1))
                    case measure => omega
                    case rel => exact ⟨k + 1, _, _, _, by omega, by omega, by go_num, rfl, HI3.out⟩
                  · have h9b : (s0 + 1 == sets) = false := by simpa using h9
                    have H9 : Aside (¬ s0 + 1 = sets) := h9
                    clear h9
                    go_quiet (fail)
                    generalize hdr : World.drewN wq _ = wy
                    replace BK : Aside (wy.heap[X]? = some (.cells #[.int .i64 (s0 + 1), .int .i64 s1, .int .i64 (l0 + 1), .int .i64 l1, .int .i64 (1 - f), .int .i64 (-1)] 71 (0, 0))) := by rw [← hdr]; exact BK.out
                    replace BZ : Aside (ScAt wy (w.heap.size + 1)) := by rw [← hdr]; exact BZ.out
                    replace BX : Aside (wy.heap[w.heap.size]? = some (.cells #[.int .i64 legs, .int .i64 sets, .int .i64 clear, .int .i64 extra, .int .i64 first] 68 (0, 0))) := by rw [← hdr]; exact BX.out
                    replace BB : Aside (Below w.heap.size w wy) := by rw [← hdr]; exact below_drewN' BB.out _
                    clear hdr x0 x1 x2 x3 x4 x5 xf o0 o1 o2 o3 o4 hXl
                    have x0 := blk_cell BK.out (i := 0) rfl
                    have x1 := blk_cell BK.out (i := 1) rfl
                    have x2 := blk_cell BK.out (i := 2) rfl
                    have x3 := blk_cell BK.out (i := 3) rfl
                    have x4 := blk_cell BK.out (i := 4) rfl
                    have x5 := blk_cell BK.out (i := 5) rfl
                    have xf := blk_free BK.out
                    have o0 := blk_cell BX.out (i := 0) rfl
                    have o1 := blk_cell BX.out (i := 1) rfl
                    have o2 := blk_cell BX.out (i := 2) rfl
                    have o3 := blk_cell BX.out (i := 3) rfl
                    have o4 := blk_cell BX.out (i := 4) rfl
                    have hXl : X < _ := (Array.getElem?_eq_some_iff.1 BK.out).1
                    go_wp2_with fail
                    obtain ⟨wu, hwu⟩ : ∃ u, u = ((wy.setCell ⟨X, 2, none⟩ (.int .i64 0)).setCell ⟨X, 3, none⟩ (.int .i64 0)).setCell ⟨X, 4, none⟩ (.int .i64 (1 - set)) := ⟨_, rfl⟩
                    replace BZ : Aside (ScAt wu (w.heap.size + 1)) := by rw [hwu]; exact ((Below.heap_setCell _ _ _ _ (by show _ ≠ X; omega)).trans ((Below.heap_setCell _ _ _ _ (by show _ ≠ X; omega)).trans ((Below.heap_setCell _ _ _ _ (by show _ ≠ X; omega)).trans BZ.out)))
                    replace BX : Aside (wu.heap[w.heap.size]? = some (.cells #[.int .i64 legs, .int .i64 sets, .int .i64 clear, .int .i64 extra, .int .i64 first] 68 (0, 0))) := by rw [hwu]; exact ((Below.heap_setCell _ _ _ _ (by show _ ≠ X; omega)).trans ((Below.heap_setCell _ _ _ _ (by show _ ≠ X; omega)).trans ((Below.heap_setCell _ _ _ _ (by show _ ≠ X; omega)).trans BX.out)))
                    replace BB : Aside (Below w.heap.size w wu) := by rw [hwu]; exact (((BB.out.setCell (p := ⟨X, 2, none⟩) (by show w.heap.size ≤ X; omega) _).setCell (p := ⟨X, 3, none⟩) (by show w.heap.size ≤ X; omega) _).setCell (p := ⟨X, 4, none⟩) (by show w.heap.size ≤ X; omega) _)
                    replace BK : Aside (wu.heap[X]? = some (.cells #[.int .i64 (s0 + 1), .int .i64 s1, .int .i64 0, .int .i64 0, .int .i64 (1 - set), .int .i64 (-1)] 71 (0, 0))) := by rw [hwu]; exact (Go.Joins.block_setCell (i := 4) (Go.Joins.block_setCell (i := 3) (Go.Joins.block_setCell (i := 2) BK.out (.int .i64 0)) (.int .i64 0)) (.int .i64 (1 - set)))
                    rw [← hwu]
                    clear hwu
                    have HI3 : Aside (RmInv ⟨legs, sets, clear, extra, first⟩ ws res w X (k + 1) ⟨(s0 + 1), s1, 0, 0, -1⟩ (1 - set) (1 - set) wu) := by
                      have hst : Mt.step ⟨legs, sets, clear, extra, first⟩ ⟨s0, s1, l0, l1, -1⟩ 0 = ⟨(s0 + 1), s1, 0, 0, -1⟩ := by unfold Mt.step; simp only []; simp [HSW.out, H9.out]
                      have hrs := HR.out
                      have hok := HOK2.out
                      rw [hst] at hrs hok
                      refine ⟨BK.out, hok, ⟨fun _ => ⟨?_, ?_, fun _ => ⟨?_, ?_⟩⟩, fun h => absurd rfl h⟩, hrs, BB.out, BZ.out, BX.out⟩
                      · show 1 - set = (1 - set + 0 + 0) % 2; omega
                      · have := HNL.out.2.1; show 1 - set = (first + (s0 + 1) + s1) % 2; omega
                      · show (0 : Int) < legs; omega
                      · show (0 : Int) < legs; omega
                    go_wp2_with fail
                    go_roundg (n - (k + 1))
                    case measure => omega
                    case rel => exact ⟨k + 1, _, _, _, by omega, by omega, by go_num, rfl, HI3.out⟩
              · have h1b : decide (legs ≤ l0 + 1) = false := by simpa using h1
                have H1 : Aside (¬ legs ≤ l0 + 1) := h1
                clear h1
                go_quiet (fail)
                by_cases h2 : s0 = sets - 1
                · have h2b : (s0 == sets - 1) = true := by simpa using h2
                  have H2 : Aside (s0 = sets - 1) := h2
                  clear h2
                  by_cases h3 : s1 = sets - 1
                  · have h3b : (s1 == sets - 1) = true := by simpa using h3
                    have H3 : Aside (s1 = sets - 1) := h3
                    clear h3
                    go_wp2_with fail
                    go_quiet (fail)
                    go_wp2_with fail
                    generalize hdr : World.drewN wp _ = wr2
                    replace BK : Aside (wr2.heap[X]? = some (.cells #[.int .i64 s0, .int .i64 s1, .int .i64 (l0 + 1), .int .i64 l1, .int .i64 (1 - f), .int .i64 (-1)] 71 (0, 0))) := by rw [← hdr]; exact BK.out
                    replace BZ : Aside (ScAt wr2 (w.heap.size + 1)) := by rw [← hdr]; exact BZ.out
                    replace BX : Aside (wr2.heap[w.heap.size]? = some (.cells #[.int .i64 legs, .int .i64 sets, .int .i64 clear, .int .i64 extra, .int .i64 first] 68 (0, 0))) := by rw [← hdr]; exact BX.out
                    replace BB : Aside (Below w.heap.size w wr2) := by rw [← hdr]; exact below_drewN' BB.out _
                    clear hdr x0 x1 x2 x3 x4 x5 xf o0 o1 o2 o3 o4 hXl
                    have x0 := blk_cell BK.out (i := 0) rfl
                    have x1 := blk_cell BK.out (i := 1) rfl
                    have x2 := blk_cell BK.out (i := 2) rfl
                    have x3 := blk_cell BK.out (i := 3) rfl
                    have x4 := blk_cell BK.out (i := 4) rfl
                    have x5 := blk_cell BK.out (i := 5) rfl
                    have xf := blk_free BK.out
                    have o0 := blk_cell BX.out (i := 0) rfl
                    have o1 := blk_cell BX.out (i := 1) rfl
                    have o2 := blk_cell BX.out (i := 2) rfl
                    have o3 := blk_cell BX.out (i := 3) rfl
                    have o4 := blk_cell BX.out (i := 4) rfl
                    have hXl : X < _ := (Array.getElem?_eq_some_iff.1 BK.out).1
                    go_wp2_with fail
                    have HSW : Aside (setWon ⟨legs, sets, clear, extra, first⟩ s0 s1 (l0 + 1) l1 = false) := sw_no ⟨legs, sets, clear, extra, first⟩ s0 s1 _ _ (by have h9 := H1.out; show ¬ legs ≤ l0 + 1; omega) hex0
                    have HI3 : Aside (RmInv ⟨legs, sets, clear, extra, first⟩ ws res w X (k + 1) ⟨s0, s1, l0 + 1, l1, -1⟩ (1 - f) set wr2) := by
                      have hst : Mt.step ⟨legs, sets, clear, extra, first⟩ ⟨s0, s1, l0, l1, -1⟩ 0 = ⟨s0, s1, l0 + 1, l1, -1⟩ := by unfold Mt.step; simp only []; simp [HSW.out]
                      have hrs := HR.out
                      have hok := HOK2.out
                      rw [hst] at hrs hok
                      refine ⟨BK.out, hok, ⟨fun _ => ⟨?_, HNL.out.2.1, fun hnn => ?_⟩, fun h => absurd rfl h⟩, hrs, BB.out, BZ.out, BX.out⟩
                      · have := HNL.out.1; show 1 - f = (set + (l0 + 1) + l1) % 2; omega
                      · have h7 := HNL.out.2.2 hnn; have h8 := HSW.out; unfold setWon at h8; rw [if_neg hnn] at h8; simp at h8; show (l0 + 1) < legs ∧ l1 < legs; omega
                    go_wp2_with fail
                    go_roundg (n - (k + 1))
                    case measure => omega
                    case rel => exact ⟨k + 1, _, _, _, by omega, by omega, by go_num, rfl, HI3.out⟩
                  · have h3b : (s1 == sets - 1) = false := by simpa using h3
                    have H3 : Aside (¬ s1 = sets - 1) := h3
                    clear h3
                    go_wp2_with fail
                    generalize hdr : World.drewN wp _ = wr2
                    replace BK : Aside (wr2.heap[X]? = some (.cells #[.int .i64 s0, .int .i64 s1, .int .i64 (l0 + 1), .int .i64 l1, .int .i64 (1 - f), .int .i64 (-1)] 71 (0, 0))) := by rw [← hdr]; exact BK.out
                    replace BZ : Aside (ScAt wr2 (w.heap.size + 1)) := by rw [← hdr]; exact BZ.out
                    replace BX : Aside (wr2.heap[w.heap.size]? = some (.cells #[.int .i64 legs, .int .i64 sets, .int .i64 clear, .int .i64 extra, .int .i64 first] 68 (0, 0))) := by rw [← hdr]; exact BX.out
                    replace BB : Aside (Below w.heap.size w wr2) := by rw [← hdr]; exact below_drewN' BB.out _
                    clear hdr x0 x1 x2 x3 x4 x5 xf o0 o1 o2 o3 o4 hXl
                    have x0 := blk_cell BK.out (i := 0) rfl
                    have x1 := blk_cell BK.out (i := 1) rfl
                    have x2 := blk_cell BK.out (i := 2) rfl
                    have x3 := blk_cell BK.out (i := 3) rfl
                    have x4 := blk_cell BK.out (i := 4) rfl
                    have x5 := blk_cell BK.out (i := 5) rfl
                    have xf := blk_free BK.out
                    have o0 := blk_cell BX.out (i := 0) rfl
                    have o1 := blk_cell BX.out (i := 1) rfl
                    have o2 := blk_cell BX.out (i := 2) rfl
                    have o3 := blk_cell BX.out (i := 3) rfl
                    have o4 := blk_cell BX.out (i := 4) rfl
                    have hXl : X < _ := (Array.getElem?_eq_some_iff.1 BK.out).1
                    go_wp2_with fail
                    have HSW : Aside (setWon ⟨legs, sets, clear, extra, first⟩ s0 s1 (l0 + 1) l1 = false) := sw_no ⟨legs, sets, clear, extra, first⟩ s0 s1 _ _ (by have h9 := H1.out; show ¬ legs ≤ l0 + 1; omega) hex0
                    have HI3 : Aside (RmInv ⟨legs, sets, clear, extra, first⟩ ws res w X (k + 1) ⟨s0, s1, l0 + 1, l1, -1⟩ (1 - f) set wr2) := by
                      have hst : Mt.step ⟨legs, sets, clear, extra, first⟩ ⟨s0, s1, l0, l1, -1⟩ 0 = ⟨s0, s1, l0 + 1, l1, -1⟩ := by unfold Mt.step; simp only []; simp [HSW.out]
                      have hrs := HR.out
                      have hok := HOK2.out
                      rw [hst] at hrs hok
                      refine ⟨BK.out, hok, ⟨fun _ => ⟨?_, HNL.out.2.1, fun hnn => ?_⟩, fun h => absurd rfl h⟩, hrs, BB.out, BZ.out, BX.out⟩
                      · have := HNL.out.1; show 1 - f = (set + (l0 + 1) + l1) % 2; omega
                      · have h7 := HNL.out.2.2 hnn; have h8 := HSW.out; unfold setWon at h8; rw [if_neg hnn] at h8; simp at h8; show (l0 + 1) < legs ∧ l1 < legs; omega
                    go_wp2_with fail
                    go_roundg (n - (k + 1))
                    case measure => omega
                    case rel => exact ⟨k + 1, _, _, _, by omega, by omega, by go_num, rfl, HI3.out⟩
                · have h2b : (s0 == sets - 1) = false := by simpa using h2
                  have H2 : Aside (¬ s0 = sets - 1) := h2
                  clear h2
                  go_wp2_with fail
                  generalize hdr : World.drewN wp _ = wr2
                  replace BK : Aside (wr2.heap[X]? = some (.cells #[.int .i64 s0, .int .i64 s1, .int .i64 (l0 + 1), .int .i64 l1, .int .i64 (1 - f), .int .i64 (-1)] 71 (0, 0))) := by rw [← hdr]; exact BK.out
                  replace BZ : Aside (ScAt wr2 (w.heap.size + 1)) := by rw [← hdr]; exact BZ.out
                  replace BX : Aside (wr2.heap[w.heap.size]? = some (.cells #[.int .i64 legs, .int .i64 sets, .int .i64 clear, .int .i64 extra, .int .i64 first] 68 (0, 0))) := by rw [← hdr]; exact BX.out
                  replace BB : Aside (Below w.heap.size w wr2) := by rw [← hdr]; exact below_drewN' BB.out _
                  clear hdr x0 x1 x2 x3 x4 x5 xf o0 o1 o2 o3 o4 hXl
                  have x0 := blk_cell BK.out (i := 0) rfl
                  have x1 := blk_cell BK.out (i := 1) rfl
                  have x2 := blk_cell BK.out (i := 2) rfl
                  have x3 := blk_cell BK.out (i := 3) rfl
                  have x4 := blk_cell BK.out (i := 4) rfl
                  have x5 := blk_cell BK.out (i := 5) rfl
                  have xf := blk_free BK.out
                  have o0 := blk_cell BX.out (i := 0) rfl
                  have o1 := blk_cell BX.out (i := 1) rfl
                  have o2 := blk_cell BX.out (i := 2) rfl
                  have o3 := blk_cell BX.out (i := 3) rfl
                  have o4 := blk_cell BX.out (i := 4) rfl
                  have hXl : X < _ := (Array.getElem?_eq_some_iff.1 BK.out).1
                  go_wp2_with fail
                  have HSW : Aside (setWon ⟨legs, sets, clear, extra, first⟩ s0 s1 (l0 + 1) l1 = false) := sw_no ⟨legs, sets, clear, extra, first⟩ s0 s1 _ _ (by have h9 := H1.out; show ¬ legs ≤ l0 + 1; omega) hex0
                  have HI3 : Aside (RmInv ⟨legs, sets, clear, extra, first⟩ ws res w X (k + 1) ⟨s0, s1, l0 + 1, l1, -1⟩ (1 - f) set wr2) := by
                    have hst : Mt.step ⟨legs, sets, clear, extra, first⟩ ⟨s0, s1, l0, l1, -1⟩ 0 = ⟨s0, s1, l0 + 1, l1, -1⟩ := by unfold Mt.step; simp only []; simp [HSW.out]
                    have hrs := HR.out
                    have hok := HOK2.out
                    rw [hst] at hrs hok
                    refine ⟨BK.out, hok, ⟨fun _ => ⟨?_, HNL.out.2.1, fun hnn => ?_⟩, fun h => absurd rfl h⟩, hrs, BB.out, BZ.out, BX.out⟩
                    · have := HNL.out.1; show 1 - f = (set + (l0 + 1) + l1) % 2; omega
                    · have h7 := HNL.out.2.2 hnn; have h8 := HSW.out; unfold setWon at h8; rw [if_neg hnn] at h8; simp at h8; show (l0 + 1) < legs ∧ l1 < legs; omega
                  go_wp2_with fail
                  go_roundg (n - (k + 1))
                  case measure => omega
                  case rel => exact ⟨k + 1, _, _, _, by omega, by omega, by go_num, rfl, HI3.out⟩
            · skip
              -- @@b
              have eg : IntKind.i64.wrap (l1 + 1) = l1 + 1 := IntWalk.i64_in _ (by omega)
              have eh : IntKind.i64.wrap (s1 + 1) = s1 + 1 := IntWalk.i64_in _ (by omega)
              have ei : IntKind.i64.wrap (l0 + clear) = l0 + clear := IntWalk.i64_in _ (by omega)
              have x0 := blk_cell BK.out (i := 0) rfl
              have x1 := blk_cell BK.out (i := 1) rfl
              have x2 := blk_cell BK.out (i := 2) rfl
              have x3 := blk_cell BK.out (i := 3) rfl
              have x4 := blk_cell BK.out (i := 4) rfl
              have x5 := blk_cell BK.out (i := 5) rfl
              have xf := blk_free BK.out
              have o0 := blk_cell BX.out (i := 0) rfl
              have o1 := blk_cell BX.out (i := 1) rfl
              have o2 := blk_cell BX.out (i := 2) rfl
              have o3 := blk_cell BX.out (i := 3) rfl
              have o4 := blk_cell BX.out (i := 4) rfl
              have hXl : X < _ := (Array.getElem?_eq_some_iff.1 BK.out).1
              go_wp2_with fail
              obtain ⟨wp, hwp⟩ : ∃ u, u = (wr.setCell ⟨X, 3, none⟩ (.int .i64 (l1 + 1))).setCell ⟨X, 4, none⟩ (.int .i64 (1 - f)) := ⟨_, rfl⟩
              replace BZ : Aside (ScAt wp (w.heap.size + 1)) := by rw [hwp]; exact ((Below.heap_setCell _ _ _ _ (by show _ ≠ X; omega)).trans ((Below.heap_setCell _ _ _ _ (by show _ ≠ X; omega)).trans BZ.out))
              replace BX : Aside (wp.heap[w.heap.size]? = some (.cells #[.int .i64 legs, .int .i64 sets, .int .i64 clear, .int .i64 extra, .int .i64 first] 68 (0, 0))) := by rw [hwp]; exact ((Below.heap_setCell _ _ _ _ (by show _ ≠ X; omega)).trans ((Below.heap_setCell _ _ _ _ (by show _ ≠ X; omega)).trans BX.out))
              replace BB : Aside (Below w.heap.size w wp) := by rw [hwp]; exact ((BB.out.setCell (p := ⟨X, 3, none⟩) (by show w.heap.size ≤ X; omega) _).setCell (p := ⟨X, 4, none⟩) (by show w.heap.size ≤ X; omega) _)
              replace BK : Aside (wp.heap[X]? = some (.cells #[.int .i64 s0, .int .i64 s1, .int .i64 l0, .int .i64 (l1 + 1), .int .i64 (1 - f), .int .i64 (-1)] 71 (0, 0))) := by rw [hwp]; exact (Go.Joins.block_setCell (i := 4) (Go.Joins.block_setCell (i := 3) BK.out (.int .i64 (l1 + 1))) (.int .i64 (1 - f)))
              rw [← hwp]
              clear hwp
              clear x0 x1 x2 x3 x4 x5 xf o0 o1 o2 o3 o4 hXl
              clear kb
              have x0 := blk_cell BK.out (i := 0) rfl
              have x1 := blk_cell BK.out (i := 1) rfl
              have x2 := blk_cell BK.out (i := 2) rfl
              have x3 := blk_cell BK.out (i := 3) rfl
              have x4 := blk_cell BK.out (i := 4) rfl
              have x5 := blk_cell BK.out (i := 5) rfl
              have xf := blk_free BK.out
              have o0 := blk_cell BX.out (i := 0) rfl
              have o1 := blk_cell BX.out (i := 1) rfl
              have o2 := blk_cell BX.out (i := 2) rfl
              have o3 := blk_cell BX.out (i := 3) rfl
              have o4 := blk_cell BX.out (i := 4) rfl
              have hXl : X < _ := (Array.getElem?_eq_some_iff.1 BK.out).1
              by_cases h1 : legs ≤ l1 + 1
              · have h1b : decide (legs ≤ l1 + 1) = true := by simpa using h1
                have H1 : Aside (legs ≤ l1 + 1) := h1
                clear h1
                go_quiet (fail)
                by_cases h2 : s0 = sets - 1
                · have h2b : (s0 == sets - 1) = true := by simpa using h2
                  have H2 : Aside (s0 = sets - 1) := h2
                  clear h2
                  by_cases h3 : s1 = sets - 1
                  · have h3b : (s1 == sets - 1) = true := by simpa using h3
                    have H3 : Aside (s1 = sets - 1) := h3
                    clear h3
                    go_wp2_with fail
                    by_cases h4 : l0 + clear ≤ l1 + 1
                    · have h4b : decide (l0 + clear ≤ l1 + 1) = true := by simpa using h4
                      have H4 : Aside (l0 + clear ≤ l1 + 1) := h4
                      clear h4
                      go_quiet (fail)
                      go_wp2_with fail
                      have HSW : Aside (setWon ⟨legs, sets, clear, extra, first⟩ s0 s1 (l1 + 1) l0 = true) := sw_clear ⟨legs, sets, clear, extra, first⟩ s0 s1 _ _ H1.out H4.out ⟨H2.out, H3.out⟩
                      generalize hdr : World.drewN wp _ = wr2
                      replace BK : Aside (wr2.heap[X]? = some (.cells #[.int .i64 s0, .int .i64 s1, .int .i64 l0, .int .i64 (l1 + 1), .int .i64 (1 - f), .int .i64 (-1)] 71 (0, 0))) := by rw [← hdr]; exact BK.out
                      replace BZ : Aside (ScAt wr2 (w.heap.size + 1)) := by rw [← hdr]; exact BZ.out
                      replace BX : Aside (wr2.heap[w.heap.size]? = some (.cells #[.int .i64 legs, .int .i64 sets, .int .i64 clear, .int .i64 extra, .int .i64 first] 68 (0, 0))) := by rw [← hdr]; exact BX.out
                      replace BB : Aside (Below w.heap.size w wr2) := by rw [← hdr]; exact below_drewN' BB.out _
                      clear hdr x0 x1 x2 x3 x4 x5 xf o0 o1 o2 o3 o4 hXl
                      have x0 := blk_cell BK.out (i := 0) rfl
                      have x1 := blk_cell BK.out (i := 1) rfl
                      have x2 := blk_cell BK.out (i := 2) rfl
                      have x3 := blk_cell BK.out (i := 3) rfl
                      have x4 := blk_cell BK.out (i := 4) rfl
                      have x5 := blk_cell BK.out (i := 5) rfl
                      have xf := blk_free BK.out
                      have o0 := blk_cell BX.out (i := 0) rfl
                      have o1 := blk_cell BX.out (i := 1) rfl
                      have o2 := blk_cell BX.out (i := 2) rfl
                      have o3 := blk_cell BX.out (i := 3) rfl
                      have o4 := blk_cell BX.out (i := 4) rfl
                      have hXl : X < _ := (Array.getElem?_eq_some_iff.1 BK.out).1
                      go_wp2_with fail
                      obtain ⟨wq, hwq⟩ : ∃ u, u = wr2.setCell ⟨X, 1, none⟩ (.int .i64 (s1 + 1)) := ⟨_, rfl⟩
                      replace BZ : Aside (ScAt wq (w.heap.size + 1)) := by rw [hwq]; exact ((Below.heap_setCell _ _ _ _ (by show _ ≠ X; omega)).trans BZ.out)
                      replace BX : Aside (wq.heap[w.heap.size]? = some (.cells #[.int .i64 legs, .int .i64 sets, .int .i64 clear, .int .i64 extra, .int .i64 first] 68 (0, 0))) := by rw [hwq]; exact ((Below.heap_setCell _ _ _ _ (by show _ ≠ X; omega)).trans BX.out)
                      replace BB : Aside (Below w.heap.size w wq) := by rw [hwq]; exact (BB.out.setCell (p := ⟨X, 1, none⟩) (by show w.heap.size ≤ X; omega) _)
                      replace BK : Aside (wq.heap[X]? = some (.cells #[.int .i64 s0, .int .i64 (s1 + 1), .int .i64 l0, .int .i64 (l1 + 1), .int .i64 (1 - f), .int .i64 (-1)] 71 (0, 0))) := by rw [hwq]; exact (Go.Joins.block_setCell (i := 1) BK.out (.int .i64 (s1 + 1)))
                      rw [← hwq]
                      clear hwq
                      clear x0 x1 x2 x3 x4 x5 xf o0 o1 o2 o3 o4 hXl
                      have x0 := blk_cell BK.out (i := 0) rfl
                      have x1 := blk_cell BK.out (i := 1) rfl
                      have x2 := blk_cell BK.out (i := 2) rfl
                      have x3 := blk_cell BK.out (i := 3) rfl
                      have x4 := blk_cell BK.out (i := 4) rfl
                      have x5 := blk_cell BK.out (i := 5) rfl
                      have xf := blk_free BK.out
                      have o0 := blk_cell BX.out (i := 0) rfl
                      have o1 := blk_cell BX.out (i := 1) rfl
                      have o2 := blk_cell BX.out (i := 2) rfl
                      have o3 := blk_cell BX.out (i := 3) rfl
                      have o4 := blk_cell BX.out (i := 4) rfl
                      have hXl : X < _ := (Array.getElem?_eq_some_iff.1 BK.out).1
                      by_cases h9 : s1 + 1 = sets
                      · have h9b : (s1 + 1 == sets) = true := by simpa using h9
                        have H9 : Aside (s1 + 1 = sets) := h9
                        clear h9
                        go_quiet (fail)
                        generalize hdr : World.drewN wq _ = wy
                        replace BK : Aside (wy.heap[X]? = some (.cells #[.int .i64 s0, .int .i64 (s1 + 1), .int .i64 l0, .int .i64 (l1 + 1), .int .i64 (1 - f), .int .i64 (-1)] 71 (0, 0))) := by rw [← hdr]; exact BK.out
                        replace BZ : Aside (ScAt wy (w.heap.size + 1)) := by rw [← hdr]; exact BZ.out
                        replace BX : Aside (wy.heap[w.heap.size]? = some (.cells #[.int .i64 legs, .int .i64 sets, .int .i64 clear, .int .i64 extra, .int .i64 first] 68 (0, 0))) := by rw [← hdr]; exact BX.out
                        replace BB : Aside (Below w.heap.size w wy) := by rw [← hdr]; exact below_drewN' BB.out _
                        clear hdr x0 x1 x2 x3 x4 x5 xf o0 o1 o2 o3 o4 hXl
                        have x0 := blk_cell BK.out (i := 0) rfl
                        have x1 := blk_cell BK.out (i := 1) rfl
                        have x2 := blk_cell BK.out (i := 2) rfl
                        have x3 := blk_cell BK.out (i := 3) rfl
                        have x4 := blk_cell BK.out (i := 4) rfl
                        have x5 := blk_cell BK.out (i := 5) rfl
                        have xf := blk_free BK.out
                        have o0 := blk_cell BX.out (i := 0) rfl
                        have o1 := blk_cell BX.out (i := 1) rfl
                        have o2 := blk_cell BX.out (i := 2) rfl
                        have o3 := blk_cell BX.out (i := 3) rfl
                        have o4 := blk_cell BX.out (i := 4) rfl
                        have hXl : X < _ := (Array.getElem?_eq_some_iff.1 BK.out).1
                        go_wp2_with fail
                        obtain ⟨wu, hwu⟩ : ∃ u, u = (wy.setCell ⟨X, 4, none⟩ (.int .i64 (-1))).setCell ⟨X, 5, none⟩ (.int .i64 1) := ⟨_, rfl⟩
                        replace BZ : Aside (ScAt wu (w.heap.size + 1)) := by rw [hwu]; exact ((Below.heap_setCell _ _ _ _ (by show _ ≠ X; omega)).trans ((Below.heap_setCell _ _ _ _ (by show _ ≠ X; omega)).trans BZ.out))
                        replace BX : Aside (wu.heap[w.heap.size]? = some (.cells #[.int .i64 legs, .int .i64 sets, .int .i64 clear, .int .i64 extra, .int .i64 first] 68 (0, 0))) := by rw [hwu]; exact ((Below.heap_setCell _ _ _ _ (by show _ ≠ X; omega)).trans ((Below.heap_setCell _ _ _ _ (by show _ ≠ X; omega)).trans BX.out))
                        replace BB : Aside (Below w.heap.size w wu) := by rw [hwu]; exact ((BB.out.setCell (p := ⟨X, 4, none⟩) (by show w.heap.size ≤ X; omega) _).setCell (p := ⟨X, 5, none⟩) (by show w.heap.size ≤ X; omega) _)
                        replace BK : Aside (wu.heap[X]? = some (.cells #[.int .i64 s0, .int .i64 (s1 + 1), .int .i64 l0, .int .i64 (l1 + 1), .int .i64 (-1), .int .i64 1] 71 (0, 0))) := by rw [hwu]; exact (Go.Joins.block_setCell (i := 5) (Go.Joins.block_setCell (i := 4) BK.out (.int .i64 (-1))) (.int .i64 1))
                        rw [← hwu]
                        clear hwu
                        have HI3 : Aside (RmInv ⟨legs, sets, clear, extra, first⟩ ws res w X (k + 1) ⟨s0, (s1 + 1), l0, (l1 + 1), 1⟩ (-1) (1 - set) wu) := by
                          have hst : Mt.step ⟨legs, sets, clear, extra, first⟩ ⟨s0, s1, l0, l1, -1⟩ 1 = ⟨s0, (s1 + 1), l0, (l1 + 1), 1⟩ := by unfold Mt.step; simp only []; simp [HSW.out, H9.out]
                          have hrs := HR.out
                          have hok := HOK2.out
                          rw [hst] at hrs hok
                          exact ⟨BK.out, hok, ⟨fun h => absurd (show (1 : Int) = -1 from h) (by decide), fun _ => ⟨rfl, show (0 : Int) ≤ 1 by decide⟩⟩, hrs, BB.out, BZ.out, BX.out⟩
                        go_wp2_with fail
                        go_roundg (n - (k + 1))
                        case measure => omega
                        case rel => exact ⟨k + 1, _, _, _, by omega, by omega, by go_num, rfl, HI3.out⟩
                      · have h9b : (s1 + 1 == sets) = false := by simpa using h9
                        have H9 : Aside (¬ s1 + 1 = sets) := h9
                        clear h9
                        go_quiet (fail)
                        generalize hdr : World.drewN wq _ = wy
                        replace BK : Aside (wy.heap[X]? = some (.cells #[.int .i64 s0, .int .i64 (s1 + 1), .int .i64 l0, .int .i64 (l1 + 1), .int .i64 (1 - f), .int .i64 (-1)] 71 (0, 0))) := by rw [← hdr]; exact BK.out
                        replace BZ : Aside (ScAt wy (w.heap.size + 1)) := by rw [← hdr]; exact BZ.out
                        replace BX : Aside (wy.heap[w.heap.size]? = some (.cells #[.int .i64 legs, .int .i64 sets, .int .i64 clear, .int .i64 extra, .int .i64 first] 68 (0, 0))) := by rw [← hdr]; exact BX.out
                        replace BB : Aside (Below w.heap.size w wy) := by rw [← hdr]; exact below_drewN' BB.out _
                        clear hdr x0 x1 x2 x3 x4 x5 xf o0 o1 o2 o3 o4 hXl
                        have x0 := blk_cell BK.out (i := 0) rfl
                        have x1 := blk_cell BK.out (i := 1) rfl
                        have x2 := blk_cell BK.out (i := 2) rfl
                        have x3 := blk_cell BK.out (i := 3) rfl
                        have x4 := blk_cell BK.out (i := 4) rfl
                        have x5 := blk_cell BK.out (i := 5) rfl
                        have xf := blk_free BK.out
                        have o0 := blk_cell BX.out (i := 0) rfl
                        have o1 := blk_cell BX.out (i := 1) rfl
                        have o2 := blk_cell BX.out (i := 2) rfl
                        have o3 := blk_cell BX.out (i := 3) rfl
                        have o4 := blk_cell BX.out (i := 4) rfl
                        have hXl : X < _ := (Array.getElem?_eq_some_iff.1 BK.out).1
                        go_wp2_with fail
                        obtain ⟨wu, hwu⟩ : ∃ u, u = ((wy.setCell ⟨X, 2, none⟩ (.int .i64 0)).setCell ⟨X, 3, none⟩ (.int .i64 0)).setCell ⟨X, 4, none⟩ (.int .i64 (1 - set)) := ⟨_, rfl⟩
                        replace BZ : Aside (ScAt wu (w.heap.size + 1)) := by rw [hwu]; exact ((Below.heap_setCell _ _ _ _ (by show _ ≠ X; omega)).trans ((Below.heap_setCell _ _ _ _ (by show _ ≠ X; omega)).trans ((Below.heap_setCell _ _ _ _ (by show _ ≠ X; omega)).trans BZ.out)))
                        replace BX : Aside (wu.heap[w.heap.size]? = some (.cells #[.int .i64 legs, .int .i64 sets, .int .i64 clear, .int .i64 extra, .int .i64 first] 68 (0, 0))) := by rw [hwu]; exact ((Below.heap_setCell _ _ _ _ (by show _ ≠ X; omega)).trans ((Below.heap_setCell _ _ _ _ (by show _ ≠ X; omega)).trans ((Below.heap_setCell _ _ _ _ (by show _ ≠ X; omega)).trans BX.out)))
                        replace BB : Aside (Below w.heap.size w wu) := by rw [hwu]; exact (((BB.out.setCell (p := ⟨X, 2, none⟩) (by show w.heap.size ≤ X; omega) _).setCell (p := ⟨X, 3, none⟩) (by show w.heap.size ≤ X; omega) _).setCell (p := ⟨X, 4, none⟩) (by show w.heap.size ≤ X; omega) _)
                        replace BK : Aside (wu.heap[X]? = some (.cells #[.int .i64 s0, .int .i64 (s1 + 1), .int .i64 0, .int .i64 0, .int .i64 (1 - set), .int .i64 (-1)] 71 (0, 0))) := by rw [hwu]; exact (Go.Joins.block_setCell (i := 4) (Go.Joins.block_setCell (i := 3) (Go.Joins.block_setCell (i := 2) BK.out (.int .i64 0)) (.int .i64 0)) (.int .i64 (1 - set)))
                        rw [← hwu]
                        clear hwu
                        have HI3 : Aside (RmInv ⟨legs, sets, clear, extra, first⟩ ws res w X (k + 1) ⟨s0, (s1 + 1), 0, 0, -1⟩ (1 - set) (1 - set) wu) := by
                          have hst : Mt.step ⟨legs, sets, clear, extra, first⟩ ⟨s0, s1, l0, l1, -1⟩ 1 = ⟨s0, (s1 + 1), 0, 0, -1⟩ := by unfold Mt.step; simp only []; simp [HSW.out, H9.out]
                          have hrs := HR.out
                          have hok := HOK2.out
                          rw [hst] at hrs hok
                          refine ⟨BK.out, hok, ⟨fun _ => ⟨?_, ?_, fun _ => ⟨?_, ?_⟩⟩, fun h => absurd rfl h⟩, hrs, BB.out, BZ.out, BX.out⟩
                          · show 1 - set = (1 - set + 0 + 0) % 2; omega
                          · have := HNL.out.2.1; show 1 - set = (first + s0 + (s1 + 1)) % 2; omega
                          · show (0 : Int) < legs; omega
                          · show (0 : Int) < legs; omega
                        go_wp2_with fail
                        go_roundg (n - (k + 1))
                        case measure => omega
                        case rel => exact ⟨k + 1, _, _, _, by omega, by omega, by go_num, rfl, HI3.out⟩
                    · have h4b : decide (l0 + clear ≤ l1 + 1) = false := by simpa using h4
                      have H4 : Aside (¬ l0 + clear ≤ l1 + 1) := h4
                      clear h4
                      by_cases h5 : l1 + 1 = legs + extra
                      · have h5b : (l1 + 1 == legs + extra) = true := by simpa using h5
                        have H5 : Aside (l1 + 1 = legs + extra) := h5
                        clear h5
                        go_quiet (fail)
                        go_wp2_with fail
                        have HSW : Aside (setWon ⟨legs, sets, clear, extra, first⟩ s0 s1 (l1 + 1) l0 = true) := sw_extra ⟨legs, sets, clear, extra, first⟩ s0 s1 _ _ H5.out ⟨H2.out, H3.out⟩
                        generalize hdr : World.drewN wp _ = wr2
                        replace BK : Aside (wr2.heap[X]? = some (.cells #[.int .i64 s0, .int .i64 s1, .int .i64 l0, .int .i64 (l1 + 1), .int .i64 (1 - f), .int .i64 (-1)] 71 (0, 0))) := by rw [← hdr]; exact BK.out
                        replace BZ : Aside (ScAt wr2 (w.heap.size + 1)) := by rw [← hdr]; exact BZ.out
                        replace BX : Aside (wr2.heap[w.heap.size]? = some (.cells #[.int .i64 legs, .int .i64 sets, .int .i64 clear, .int .i64 extra, .int .i64 first] 68 (0, 0))) := by rw [← hdr]; exact BX.out
                        replace BB : Aside (Below w.heap.size w wr2) := by rw [← hdr]; exact below_drewN' BB.out _
                        clear hdr x0 x1 x2 x3 x4 x5 xf o0 o1 o2 o3 o4 hXl
                        have x0 := blk_cell BK.out (i := 0) rfl
                        have x1 := blk_cell BK.out (i := 1) rfl
                        have x2 := blk_cell BK.out (i := 2) rfl
                        have x3 := blk_cell BK.out (i := 3) rfl
                        have x4 := blk_cell BK.out (i := 4) rfl
                        have x5 := blk_cell BK.out (i := 5) rfl
                        have xf := blk_free BK.out
                        have o0 := blk_cell BX.out (i := 0) rfl
                        have o1 := blk_cell BX.out (i := 1) rfl
                        have o2 := blk_cell BX.out (i := 2) rfl
                        have o3 := blk_cell BX.out (i := 3) rfl
                        have o4 := blk_cell BX.out (i := 4) rfl
                        have hXl : X < _ := (Array.getElem?_eq_some_iff.1 BK.out).1
                        go_wp2_with fail
                        obtain ⟨wq, hwq⟩ : ∃ u, u = wr2.setCell ⟨X, 1, none⟩ (.int .i64 (s1 + 1)) := ⟨_, rfl⟩
                        replace BZ : Aside (ScAt wq (w.heap.size + 1)) := by rw [hwq]; exact ((Below.heap_setCell _ _ _ _ (by show _ ≠ X; omega)).trans BZ.out)
                        replace BX : Aside (wq.heap[w.heap.size]? = some (.cells #[.int .i64 legs, .int .i64 sets, .int .i64 clear, .int .i64 extra, .int .i64 first] 68 (0, 0))) := by rw [hwq]; exact ((Below.heap_setCell _ _ _ _ (by show _ ≠ X; omega)).trans BX.out)
                        replace BB : Aside (Below w.heap.size w wq) := by rw [hwq]; exact (BB.out.setCell (p := ⟨X, 1, none⟩) (by show w.heap.size ≤ X; omega) _)
                        replace BK : Aside (wq.heap[X]? = some (.cells #[.int .i64 s0, .int .i64 (s1 + 1), .int .i64 l0, .int .i64 (l1 + 1), .int .i64 (1 - f), .int .i64 (-1)] 71 (0, 0))) := by rw [hwq]; exact (Go.Joins.block_setCell (i := 1) BK.out (.int .i64 (s1 + 1)))
                        rw [← hwq]
                        clear hwq
                        clear x0 x1 x2 x3 x4 x5 xf o0 o1 o2 o3 o4 hXl
                        have x0 := blk_cell BK.out (i := 0) rfl
                        have x1 := blk_cell BK.out (i := 1) rfl
                        have x2 := blk_cell BK.out (i := 2) rfl
                        have x3 := blk_cell BK.out (i := 3) rfl
                        have x4 := blk_cell BK.out (i := 4) rfl
                        have x5 := blk_cell BK.out (i := 5) rfl
                        have xf := blk_free BK.out
                        have o0 := blk_cell BX.out (i := 0) rfl
                        have o1 := blk_cell BX.out (i := 1) rfl
                        have o2 := blk_cell BX.out (i := 2) rfl
                        have o3 := blk_cell BX.out (i := 3) rfl
                        have o4 := blk_cell BX.out (i := 4) rfl
                        have hXl : X < _ := (Array.getElem?_eq_some_iff.1 BK.out).1
                        by_cases h9 : s1 + 1 = sets
                        · have h9b : (s1 + 1 == sets) = true := by simpa using h9
                          have H9 : Aside (s1 + 1 = sets) := h9
                          clear h9
                          go_quiet (fail)
                          generalize hdr : World.drewN wq _ = wy
                          replace BK : Aside (wy.heap[X]? = some (.cells #[.int .i64 s0, .int .i64 (s1 + 1), .int .i64 l0, .int .i64 (l1 + 1), .int .i64 (1 - f), .int .i64 (-1)] 71 (0, 0))) := by rw [← hdr]; exact BK.out
                          replace BZ : Aside (ScAt wy (w.heap.size + 1)) := by rw [← hdr]; exact BZ.out
                          replace BX : Aside (wy.heap[w.heap.size]? = some (.cells #[.int .i64 legs, .int .i64 sets, .int .i64 clear, .int .i64 extra, .int .i64 first] 68 (0, 0))) := by rw [← hdr]; exact BX.out
                          replace BB : Aside (Below w.heap.size w wy) := by rw [← hdr]; exact below_drewN' BB.out _
                          clear hdr x0 x1 x2 x3 x4 x5 xf o0 o1 o2 o3 o4 hXl
                          have x0 := blk_cell BK.out (i := 0) rfl
                          have x1 := blk_cell BK.out (i := 1) rfl
                          have x2 := blk_cell BK.out (i := 2) rfl
                          have x3 := blk_cell BK.out (i := 3) rfl
                          have x4 := blk_cell BK.out (i := 4) rfl
                          have x5 := blk_cell BK.out (i := 5) rfl
                          have xf := blk_free BK.out
                          have o0 := blk_cell BX.out (i := 0) rfl
                          have o1 := blk_cell BX.out (i := 1) rfl
                          have o2 := blk_cell BX.out (i := 2) rfl
                          have o3 := blk_cell BX.out (i := 3) rfl
                          have o4 := blk_cell BX.out (i := 4) rfl
                          have hXl : X < _ := (Array.getElem?_eq_some_iff.1 BK.out).1
                          go_wp2_with fail
                          obtain ⟨wu, hwu⟩ : ∃ u, u = (wy.setCell ⟨X, 4, none⟩ (.int .i64 (-1))).setCell ⟨X, 5, none⟩ (.int .i64 1) := ⟨_, rfl⟩
                          replace BZ : Aside (ScAt wu (w.heap.size + 1)) := by rw [hwu]; exact ((Below.heap_setCell _ _ _ _ (by show _ ≠ X; omega)).trans ((Below.heap_setCell _ _ _ _ (by show _ ≠ X; omega)).trans BZ.out))
                          replace BX : Aside (wu.heap[w.heap.size]? = some (.cells #[.int .i64 legs, .int .i64 sets, .int .i64 clear, .int .i64 extra, .int .i64 first] 68 (0, 0))) := by rw [hwu]; exact ((Below.heap_setCell _ _ _ _ (by show _ ≠ X; omega)).trans ((Below.heap_setCell _ _ _ _ (by show _ ≠ X; omega)).trans BX.out))
                          replace BB : Aside (Below w.heap.size w wu) := by rw [hwu]; exact ((BB.out.setCell (p := ⟨X, 4, none⟩) (by show w.heap.size ≤ X; omega) _).setCell (p := ⟨X, 5, none⟩) (by show w.heap.size ≤ X; omega) _)
                          replace BK : Aside (wu.heap[X]? = some (.cells #[.int .i64 s0, .int .i64 (s1 + 1), .int .i64 l0, .int .i64 (l1 + 1), .int .i64 (-1), .int .i64 1] 71 (0, 0))) := by rw [hwu]; exact (Go.Joins.block_setCell (i := 5) (Go.Joins.block_setCell (i := 4) BK.out (.int .i64 (-1))) (.int .i64 1))
                          rw [← hwu]
                          clear hwu
                          have HI3 : Aside (RmInv ⟨legs, sets, clear, extra, first⟩ ws res w X (k + 1) ⟨s0, (s1 + 1), l0, (l1 + 1), 1⟩ (-1) (1 - set) wu) := by
                            have hst : Mt.step ⟨legs, sets, clear, extra, first⟩ ⟨s0, s1, l0, l1, -1⟩ 1 = ⟨s0, (s1 + 1), l0, (l1 + 1), 1⟩ := by unfold Mt.step; simp only []; simp [HSW.out, H9.out]
                            have hrs := HR.out
                            have hok := HOK2.out
                            rw [hst] at hrs hok
                            exact ⟨BK.out, hok, ⟨fun h => absurd (show (1 : Int) = -1 from h) (by decide), fun _ => ⟨rfl, show (0 : Int) ≤ 1 by decide⟩⟩, hrs, BB.out, BZ.out, BX.out⟩
                          go_wp2_with fail
                          go_roundg (n - (k + 1))
                          case measure => omega
                          case rel => exact ⟨k + 1, _, _, _, by omega, by omega, by go_num, rfl, HI3.out⟩
                        · have h9b : (s1 + 1 == sets) = false := by simpa using h9
                          have H9 : Aside (¬ s1 + 1 = sets) := h9
                          clear h9
                          go_quiet (fail)
                          generalize hdr : World.drewN wq _ = wy
                          replace BK : Aside (wy.heap[X]? = some (.cells #[.int .i64 s0, .int .i64 (s1 + 1), .int .i64 l0, .int .i64 (l1 + 1), .int .i64 (1 - f), .int .i64 (-1)] 71 (0, 0))) := by rw [← hdr]; exact BK.out
                          replace BZ : Aside (ScAt wy (w.heap.size + 1)) := by rw [← hdr]; exact BZ.out
                          replace BX : Aside (wy.heap[w.heap.size]? = some (.cells #[.int .i64 legs, .int .i64 sets, .int .i64 clear, .int .i64 extra, .int .i64 first] 68 (0, 0))) := by rw [← hdr]; exact BX.out
                          replace BB : Aside (Below w.heap.size w wy) := by rw [← hdr]; exact below_drewN' BB.out _
                          clear hdr x0 x1 x2 x3 x4 x5 xf o0 o1 o2 o3 o4 hXl
                          have x0 := blk_cell BK.out (i := 0) rfl
                          have x1 := blk_cell BK.out (i := 1) rfl
                          have x2 := blk_cell BK.out (i := 2) rfl
                          have x3 := blk_cell BK.out (i := 3) rfl
                          have x4 := blk_cell BK.out (i := 4) rfl
                          have x5 := blk_cell BK.out (i := 5) rfl
                          have xf := blk_free BK.out
                          have o0 := blk_cell BX.out (i := 0) rfl
                          have o1 := blk_cell BX.out (i := 1) rfl
                          have o2 := blk_cell BX.out (i := 2) rfl
                          have o3 := blk_cell BX.out (i := 3) rfl
                          have o4 := blk_cell BX.out (i := 4) rfl
                          have hXl : X < _ := (Array.getElem?_eq_some_iff.1 BK.out).1
                          go_wp2_with fail
                          obtain ⟨wu, hwu⟩ : ∃ u, u = ((wy.setCell ⟨X, 2, none⟩ (.int .i64 0)).setCell ⟨X, 3, none⟩ (.int .i64 0)).setCell ⟨X, 4, none⟩ (.int .i64 (1 - set)) := ⟨_, rfl⟩
                          replace BZ : Aside (ScAt wu (w.heap.size + 1)) := by rw [hwu]; exact ((Below.heap_setCell _ _ _ _ (by show _ ≠ X; omega)).trans ((Below.heap_setCell _ _ _ _ (by show _ ≠ X; omega)).trans ((Below.heap_setCell _ _ _ _ (by show _ ≠ X; omega)).trans BZ.out)))
                          replace BX : Aside (wu.heap[w.heap.size]? = some (.cells #[.int .i64 legs, .int .i64 sets, .int .i64 clear, .int .i64 extra, .int .i64 first] 68 (0, 0))) := by rw [hwu]; exact ((Below.heap_setCell _ _ _ _ (by show _ ≠ X; omega)).trans ((Below.heap_setCell _ _ _ _ (by show _ ≠ X; omega)).trans ((Below.heap_setCell _ _ _ _ (by show _ ≠ X; omega)).trans BX.out)))
                          replace BB : Aside (Below w.heap.size w wu) := by rw [hwu]; exact (((BB.out.setCell (p := ⟨X, 2, none⟩) (by show w.heap.size ≤ X; omega) _).setCell (p := ⟨X, 3, none⟩) (by show w.heap.size ≤ X; omega) _).setCell (p := ⟨X, 4, none⟩) (by show w.heap.size ≤ X; omega) _)
                          replace BK : Aside (wu.heap[X]? = some (.cells #[.int .i64 s0, .int .i64 (s1 + 1), .int .i64 0, .int .i64 0, .int .i64 (1 - set), .int .i64 (-1)] 71 (0, 0))) := by rw [hwu]; exact (Go.Joins.block_setCell (i := 4) (Go.Joins.block_setCell (i := 3) (Go.Joins.block_setCell (i := 2) BK.out (.int .i64 0)) (.int .i64 0)) (.int .i64 (1 - set)))
                          rw [← hwu]
                          clear hwu
                          have HI3 : Aside (RmInv ⟨legs, sets, clear, extra, first⟩ ws res w X (k + 1) ⟨s0, (s1 + 1), 0, 0, -1⟩ (1 - set) (1 - set) wu) := by
                            have hst : Mt.step ⟨legs, sets, clear, extra, first⟩ ⟨s0, s1, l0, l1, -1⟩ 1 = ⟨s0, (s1 + 1), 0, 0, -1⟩ := by unfold Mt.step; simp only []; simp [HSW.out, H9.out]
                            have hrs := HR.out
                            have hok := HOK2.out
                            rw [hst] at hrs hok
                            refine ⟨BK.out, hok, ⟨fun _ => ⟨?_, ?_, fun _ => ⟨?_, ?_⟩⟩, fun h => absurd rfl h⟩, hrs, BB.out, BZ.out, BX.out⟩
                            · show 1 - set = (1 - set + 0 + 0) % 2; omega
                            · have := HNL.out.2.1; show 1 - set = (first + s0 + (s1 + 1)) % 2; omega
                            · show (0 : Int) < legs; omega
                            · show (0 : Int) < legs; omega
                          go_wp2_with fail
                          go_roundg (n - (k + 1))
                          case measure => omega
                          case rel => exact ⟨k + 1, _, _, _, by omega, by omega, by go_num, rfl, HI3.out⟩
                      · have h5b : (l1 + 1 == legs + extra) = false := by simpa using h5
                        have H5 : Aside (¬ l1 + 1 = legs + extra) := h5
                        clear h5
                        go_quiet (fail)
                        go_wp2_with fail
                        generalize hdr : World.drewN wp _ = wr2
                        replace BK : Aside (wr2.heap[X]? = some (.cells #[.int .i64 s0, .int .i64 s1, .int .i64 l0, .int .i64 (l1 + 1), .int .i64 (1 - f), .int .i64 (-1)] 71 (0, 0))) := by rw [← hdr]; exact BK.out
                        replace BZ : Aside (ScAt wr2 (w.heap.size + 1)) := by rw [← hdr]; exact BZ.out
                        replace BX : Aside (wr2.heap[w.heap.size]? = some (.cells #[.int .i64 legs, .int .i64 sets, .int .i64 clear, .int .i64 extra, .int .i64 first] 68 (0, 0))) := by rw [← hdr]; exact BX.out
                        replace BB : Aside (Below w.heap.size w wr2) := by rw [← hdr]; exact below_drewN' BB.out _
                        clear hdr x0 x1 x2 x3 x4 x5 xf o0 o1 o2 o3 o4 hXl
                        have x0 := blk_cell BK.out (i := 0) rfl
                        have x1 := blk_cell BK.out (i := 1) rfl
                        have x2 := blk_cell BK.out (i := 2) rfl
                        have x3 := blk_cell BK.out (i := 3) rfl
                        have x4 := blk_cell BK.out (i := 4) rfl
                        have x5 := blk_cell BK.out (i := 5) rfl
                        have xf := blk_free BK.out
                        have o0 := blk_cell BX.out (i := 0) rfl
                        have o1 := blk_cell BX.out (i := 1) rfl
                        have o2 := blk_cell BX.out (i := 2) rfl
                        have o3 := blk_cell BX.out (i := 3) rfl
                        have o4 := blk_cell BX.out (i := 4) rfl
                        have hXl : X < _ := (Array.getElem?_eq_some_iff.1 BK.out).1
                        go_wp2_with fail
                        have HSW : Aside (setWon ⟨legs, sets, clear, extra, first⟩ s0 s1 (l1 + 1) l0 = false) := sw_last ⟨legs, sets, clear, extra, first⟩ s0 s1 _ _ (by have h9 := H4.out; show ¬ l0 + clear ≤ l1 + 1; omega) H5.out ⟨H2.out, H3.out⟩
                        have HI3 : Aside (RmInv ⟨legs, sets, clear, extra, first⟩ ws res w X (k + 1) ⟨s0, s1, l0, l1 + 1, -1⟩ (1 - f) set wr2) := by
                          have hst : Mt.step ⟨legs, sets, clear, extra, first⟩ ⟨s0, s1, l0, l1, -1⟩ 1 = ⟨s0, s1, l0, l1 + 1, -1⟩ := by unfold Mt.step; simp only []; simp [HSW.out]
                          have hrs := HR.out
                          have hok := HOK2.out
                          rw [hst] at hrs hok
                          refine ⟨BK.out, hok, ⟨fun _ => ⟨?_, HNL.out.2.1, fun hnn => ?_⟩, fun h => absurd rfl h⟩, hrs, BB.out, BZ.out, BX.out⟩
                          · have := HNL.out.1; show 1 - f = (set + l0 + (l1 + 1)) % 2; omega
                          · have h7 := HNL.out.2.2 hnn; have h8 := HSW.out; unfold setWon at h8; rw [if_neg hnn] at h8; simp at h8; show l0 < legs ∧ (l1 + 1) < legs; omega
                        go_wp2_with fail
                        go_roundg (n - (k + 1))
                        case measure => omega
                        case rel => exact ⟨k + 1, _, _, _, by omega, by omega, by go_num, rfl, HI3.out⟩
                  · have h3b : (s1 == sets - 1) = false := by simpa using h3
                    have H3 : Aside (¬ s1 = sets - 1) := h3
                    clear h3
                    go_wp2_with fail
                    have HSW : Aside (setWon ⟨legs, sets, clear, extra, first⟩ s0 s1 (l1 + 1) l0 = true) := sw_yes ⟨legs, sets, clear, extra, first⟩ s0 s1 _ _ H1.out (by have := (HNL.out.2.2 (fun h => H3.out h.2)).2; show l1 + 1 ≤ legs; omega) (fun h => H3.out h.2)
                    generalize hdr : World.drewN wp _ = wr2
                    replace BK : Aside (wr2.heap[X]? = some (.cells #[.int .i64 s0, .int .i64 s1, .int .i64 l0, .int .i64 (l1 + 1), .int .i64 (1 - f), .int .i64 (-1)] 71 (0, 0))) := by rw [← hdr]; exact BK.out
                    replace BZ : Aside (ScAt wr2 (w.heap.size + 1)) := by rw [← hdr]; exact BZ.out
                    replace BX : Aside (wr2.heap[w.heap.size]? = some (.cells #[.int .i64 legs, .int .i64 sets, .int .i64 clear, .int .i64 extra, .int .i64 first] 68 (0, 0))) := by rw [← hdr]; exact BX.out
                    replace BB : Aside (Below w.heap.size w wr2) := by rw [← hdr]; exact below_drewN' BB.out _
                    clear hdr x0 x1 x2 x3 x4 x5 xf o0 o1 o2 o3 o4 hXl
                    have x0 := blk_cell BK.out (i := 0) rfl
                    have x1 := blk_cell BK.out (i := 1) rfl
                    have x2 := blk_cell BK.out (i := 2) rfl
                    have x3 := blk_cell BK.out (i := 3) rfl
                    have x4 := blk_cell BK.out (i := 4) rfl
                    have x5 := blk_cell BK.out (i := 5) rfl
                    have xf := blk_free BK.out
                    have o0 := blk_cell BX.out (i := 0) rfl
                    have o1 := blk_cell BX.out (i := 1) rfl
                    have o2 := blk_cell BX.out (i := 2) rfl
                    have o3 := blk_cell BX.out (i := 3) rfl
                    have o4 := blk_cell BX.out (i := 4) rfl
                    have hXl : X < _ := (Array.getElem?_eq_some_iff.1 BK.out).1
                    go_wp2_with fail
                    obtain ⟨wq, hwq⟩ : ∃ u, u = wr2.setCell ⟨X, 1, none⟩ (.int .i64 (s1 + 1)) := ⟨_, rfl⟩
                    replace BZ : Aside (ScAt wq (w.heap.size + 1)) := by rw [hwq]; exact ((Below.heap_setCell _ _ _ _ (by show _ ≠ X; omega)).trans BZ.out)
                    replace BX : Aside (wq.heap[w.heap.size]? = some (.cells #[.int .i64 legs, .int .i64 sets, .int .i64 clear, .int .i64 extra, .int .i64 first] 68 (0, 0))) := by rw [hwq]; exact ((Below.heap_setCell _ _ _ _ (by show _ ≠ X; omega)).trans BX.out)
                    replace BB : Aside (Below w.heap.size w wq) := by rw [hwq]; exact (BB.out.setCell (p := ⟨X, 1, none⟩) (by show w.heap.size ≤ X; omega) _)
                    replace BK : Aside (wq.heap[X]? = some (.cells #[.int .i64 s0, .int .i64 (s1 + 1), .int .i64 l0, .int .i64 (l1 + 1), .int .i64 (1 - f), .int .i64 (-1)] 71 (0, 0))) := by rw [hwq]; exact (Go.Joins.block_setCell (i := 1) BK.out (.int .i64 (s1 + 1)))
                    rw [← hwq]
                    clear hwq
                    clear x0 x1 x2 x3 x4 x5 xf o0 o1 o2 o3 o4 hXl
                    have x0 := blk_cell BK.out (i := 0) rfl
                    have x1 := blk_cell BK.out (i := 1) rfl
                    have x2 := blk_cell BK.out (i := 2) rfl
                    have x3 := blk_cell BK.out (i := 3) rfl
                    have x4 := blk_cell BK.out (i := 4) rfl
                    have x5 := blk_cell BK.out (i := 5) rfl
                    have xf := blk_free BK.out
                    have o0 := blk_cell BX.out (i := 0) rfl
                    have o1 := blk_cell BX.out (i := 1) rfl
                    have o2 := blk_cell BX.out (i := 2) rfl
                    have o3 := blk_cell BX.out (i := 3) rfl
                    have o4 := blk_cell BX.out (i := 4) rfl
                    have hXl : X < _ := (Array.getElem?_eq_some_iff.1 BK.out).1
                    by_cases h9 : s1 + 1 = sets
                    · have h9b : (s1 + 1 == sets) = true := by simpa using h9
                      have H9 : Aside (s1 + 1 = sets) := h9
                      clear h9
                      go_quiet (fail)
                      generalize hdr : World.drewN wq _ = wy
                      replace BK : Aside (wy.heap[X]? = some (.cells #[.int .i64 s0, .int .i64 (s1 + 1), .int .i64 l0, .int .i64 (l1 + 1), .int .i64 (1 - f), .int .i64 (-1)] 71 (0, 0))) := by rw [← hdr]; exact BK.out
                      replace BZ : Aside (ScAt wy (w.heap.size + 1)) := by rw [← hdr]; exact BZ.out
                      replace BX : Aside (wy.heap[w.heap.size]? = some (.cells #[.int .i64 legs, .int .i64 sets, .int .i64 clear, .int .i64 extra, .int .i64 first] 68 (0, 0))) := by rw [← hdr]; exact BX.out
                      replace BB : Aside (Below w.heap.size w wy) := by rw [← hdr]; exact below_drewN' BB.out _
                      clear hdr x0 x1 x2 x3 x4 x5 xf o0 o1 o2 o3 o4 hXl
                      have x0 := blk_cell BK.out (i := 0) rfl
                      have x1 := blk_cell BK.out (i := 1) rfl
                      have x2 := blk_cell BK.out (i := 2) rfl
                      have x3 := blk_cell BK.out (i := 3) rfl
                      have x4 := blk_cell BK.out (i := 4) rfl
                      have x5 := blk_cell BK.out (i := 5) rfl
                      have xf := blk_free BK.out
                      have o0 := blk_cell BX.out (i := 0) rfl
                      have o1 := blk_cell BX.out (i := 1) rfl
                      have o2 := blk_cell BX.out (i := 2) rfl
                      have o3 := blk_cell BX.out (i := 3) rfl
                      have o4 := blk_cell BX.out (i := 4) rfl
                      have hXl : X < _ := (Array.getElem?_eq_some_iff.1 BK.out).1
                      go_wp2_with fail
                      obtain ⟨wu, hwu⟩ : ∃ u, u = (wy.setCell ⟨X, 4, none⟩ (.int .i64 (-1))).setCell ⟨X, 5, none⟩ (.int .i64 1) := ⟨_, rfl⟩
                      replace BZ : Aside (ScAt wu (w.heap.size + 1)) := by rw [hwu]; exact ((Below.heap_setCell _ _ _ _ (by show _ ≠ X; omega)).trans ((Below.heap_setCell _ _ _ _ (by show _ ≠ X; omega)).trans BZ.out))
                      replace BX : Aside (wu.heap[w.heap.size]? = some (.cells #[.int .i64 legs, .int .i64 sets, .int .i64 clear, .int .i64 extra, .int .i64 first] 68 (0, 0))) := by rw [hwu]; exact ((Below.heap_setCell _ _ _ _ (by show _ ≠ X; omega)).trans ((Below.heap_setCell _ _ _ _ (by show _ ≠ X; omega)).trans BX.out))
                      replace BB : Aside (Below w.heap.size w wu) := by rw [hwu]; exact ((BB.out.setCell (p := ⟨X, 4, none⟩) (by show w.heap.size ≤ X; omega) _).setCell (p := ⟨X, 5, none⟩) (by show w.heap.size ≤ X; omega) _)
                      replace BK : Aside (wu.heap[X]? = some (.cells #[.int .i64 s0, .int .i64 (s1 + 1), .int .i64 l0, .int .i64 (l1 + 1), .int .i64 (-1), .int .i64 1] 71 (0, 0))) := by rw [hwu]; exact (Go.Joins.block_setCell (i := 5) (Go.Joins.block_setCell (i := 4) BK.out (.int .i64 (-1))) (.int .i64 1))
                      rw [← hwu]
                      clear hwu
                      have HI3 : Aside (RmInv ⟨legs, sets, clear, extra, first⟩ ws res w X (k + 1) ⟨s0, (s1 + 1), l0, (l1 + 1), 1⟩ (-1) (1 - set) wu) := by
                        have hst : Mt.step ⟨legs, sets, clear, extra, first⟩ ⟨s0, s1, l0, l1, -1⟩ 1 = ⟨s0, (s1 + 1), l0, (l1 + 1), 1⟩ := by unfold Mt.step; simp only []; simp [HSW.out, H9.out]
                        have hrs := HR.out
                        have hok := HOK2.out
                        rw [hst] at hrs hok
                        exact ⟨BK.out, hok, ⟨fun h => absurd (show (1 : Int) = -1 from h) (by decide), fun _ => ⟨rfl, show (0 : Int) ≤ 1 by decide⟩⟩, hrs, BB.out, BZ.out, BX.out⟩
                      go_wp2_with fail
                      go_roundg (n - (k + 1))
                      case measure => omega
                      case rel => exact ⟨k + 1, _, _, _, by omega, by omega, by go_num, rfl, HI3.out⟩
                    · have h9b : (s1 + 1 == sets) = false := by simpa using h9
                      have H9 : Aside (¬ s1 + 1 = sets) := h9
                      clear h9
                      go_quiet (fail)
                      generalize hdr : World.drewN wq _ = wy
                      replace BK : Aside (wy.heap[X]? = some (.cells #[.int .i64 s0, .int .i64 (s1 + 1), .int .i64 l0, .int .i64 (l1 + 1), .int .i64 (1 - f), .int .i64 (-1)] 71 (0, 0))) := by rw [← hdr]; exact BK.out
                      replace BZ : Aside (ScAt wy (w.heap.size + 1)) := by rw [← hdr]; exact BZ.out
                      replace BX : Aside (wy.heap[w.heap.size]? = some (.cells #[.int .i64 legs, .int .i64 sets, .int .i64 clear, .int .i64 extra, .int .i64 first] 68 (0, 0))) := by rw [← hdr]; exact BX.out
                      replace BB : Aside (Below w.heap.size w wy) := by rw [← hdr]; exact below_drewN' BB.out _
                      clear hdr x0 x1 x2 x3 x4 x5 xf o0 o1 o2 o3 o4 hXl
                      have x0 := blk_cell BK.out (i := 0) rfl
                      have x1 := blk_cell BK.out (i := 1) rfl
                      have x2 := blk_cell BK.out (i := 2) rfl
                      have x3 := blk_cell BK.out (i := 3) rfl
                      have x4 := blk_cell BK.out (i := 4) rfl
                      have x5 := blk_cell BK.out (i := 5) rfl
                      have xf := blk_free BK.out
                      have o0 := blk_cell BX.out (i := 0) rfl
                      have o1 := blk_cell BX.out (i := 1) rfl
                      have o2 := blk_cell BX.out (i := 2) rfl
                      have o3 := blk_cell BX.out (i := 3) rfl
                      have o4 := blk_cell BX.out (i := 4) rfl
                      have hXl : X < _ := (Array.getElem?_eq_some_iff.1 BK.out).1
                      go_wp2_with fail
                      obtain ⟨wu, hwu⟩ : ∃ u, u = ((wy.setCell ⟨X, 2, none⟩ (.int .i64 0)).setCell ⟨X, 3, none⟩ (.int .i64 0)).setCell ⟨X, 4, none⟩ (.int .i64 (1 - set)) := ⟨_, rfl⟩
                      replace BZ : Aside (ScAt wu (w.heap.size + 1)) := by rw [hwu]; exact ((Below.heap_setCell _ _ _ _ (by show _ ≠ X; omega)).trans ((Below.heap_setCell _ _ _ _ (by show _ ≠ X; omega)).trans ((Below.heap_setCell _ _ _ _ (by show _ ≠ X; omega)).trans BZ.out)))
                      replace BX : Aside (wu.heap[w.heap.size]? = some (.cells #[.int .i64 legs, .int .i64 sets, .int .i64 clear, .int .i64 extra, .int .i64 first] 68 (0, 0))) := by rw [hwu]; exact ((Below.heap_setCell _ _ _ _ (by show _ ≠ X; omega)).trans ((Below.heap_setCell _ _ _ _ (by show _ ≠ X; omega)).trans ((Below.heap_setCell _ _ _ _ (by show _ ≠ X; omega)).trans BX.out)))
                      replace BB : Aside (Below w.heap.size w wu) := by rw [hwu]; exact (((BB.out.setCell (p := ⟨X, 2, none⟩) (by show w.heap.size ≤ X; omega) _).setCell (p := ⟨X, 3, none⟩) (by show w.heap.size ≤ X; omega) _).setCell (p := ⟨X, 4, none⟩) (by show w.heap.size ≤ X; omega) _)
                      replace BK : Aside (wu.heap[X]? = some (.cells #[.int .i64 s0, .int .i64 (s1 + 1), .int .i64 0, .int .i64 0, .int .i64 (1 - set), .int .i64 (-1)] 71 (0, 0))) := by rw [hwu]; exact (Go.Joins.block_setCell (i := 4) (Go.Joins.block_setCell (i := 3) (Go.Joins.block_setCell (i := 2) BK.out (.int .i64 0)) (.int .i64 0)) (.int .i64 (1 - set)))
                      rw [← hwu]
                      clear hwu
                      have HI3 : Aside (RmInv ⟨legs, sets, clear, extra, first⟩ ws res w X (k + 1) ⟨s0, (s1 + 1), 0, 0, -1⟩ (1 - set) (1 - set) wu) := by
                        have hst : Mt.step ⟨legs, sets, clear, extra, first⟩ ⟨s0, s1, l0, l1, -1⟩ 1 = ⟨s0, (s1 + 1), 0, 0, -1⟩ := by unfold Mt.step; simp only []; simp [HSW.out, H9.out]
                        have hrs := HR.out
                        have hok := HOK2.out
                        rw [hst] at hrs hok
                        refine ⟨BK.out, hok, ⟨fun _ => ⟨?_, ?_, fun _ => ⟨?_, ?_⟩⟩, fun h => absurd rfl h⟩, hrs, BB.out, BZ.out, BX.out⟩
                        · show 1 - set = (1 - set + 0 + 0) % 2; omega
                        · have := HNL.out.2.1; show 1 - set = (first + s0 + (s1 + 1)) % 2; omega
                        · show (0 : Int) < legs; omega
                        · show (0 : Int) < legs; omega
                      go_wp2_with fail
                      go_roundg (n - (k + 1))
                      case measure => omega
                      case rel => exact ⟨k + 1, _, _, _, by omega, by omega, by go_num, rfl, HI3.out⟩
                · have h2b : (s0 == sets - 1) = false := by simpa using h2
                  have H2 : Aside (¬ s0 = sets - 1) := h2
                  clear h2
                  go_wp2_with fail
                  have HSW : Aside (setWon ⟨legs, sets, clear, extra, first⟩ s0 s1 (l1 + 1) l0 = true) := sw_yes ⟨legs, sets, clear, extra, first⟩ s0 s1 _ _ H1.out (by have := (HNL.out.2.2 (fun h => H2.out h.1)).2; show l1 + 1 ≤ legs; omega) (fun h => H2.out h.1)
                  generalize hdr : World.drewN wp _ = wr2
                  replace BK : Aside (wr2.heap[X]? = some (.cells #[.int .i64 s0, .int .i64 s1, .int .i64 l0, .int .i64 (l1 + 1), .int .i64 (1 - f), .int .i64 (-1)] 71 (0, 0))) := by rw [← hdr]; exact BK.out
                  replace BZ : Aside (ScAt wr2 (w.heap.size + 1)) := by rw [← hdr]; exact BZ.out
                  replace BX : Aside (wr2.heap[w.heap.size]? = some (.cells #[.int .i64 legs, .int .i64 sets, .int .i64 clear, .int .i64 extra, .int .i64 first] 68 (0, 0))) := by rw [← hdr]; exact BX.out
                  replace BB : Aside (Below w.heap.size w wr2) := by rw [← hdr]; exact below_drewN' BB.out _
                  clear hdr x0 x1 x2 x3 x4 x5 xf o0 o1 o2 o3 o4 hXl
                  have x0 := blk_cell BK.out (i := 0) rfl
                  have x1 := blk_cell BK.out (i := 1) rfl
                  have x2 := blk_cell BK.out (i := 2) rfl
                  have x3 := blk_cell BK.out (i := 3) rfl
                  have x4 := blk_cell BK.out (i := 4) rfl
                  have x5 := blk_cell BK.out (i := 5) rfl
                  have xf := blk_free BK.out
                  have o0 := blk_cell BX.out (i := 0) rfl
                  have o1 := blk_cell BX.out (i := 1) rfl
                  have o2 := blk_cell BX.out (i := 2) rfl
                  have o3 := blk_cell BX.out (i := 3) rfl
                  have o4 := blk_cell BX.out (i := 4) rfl
                  have hXl : X < _ := (Array.getElem?_eq_some_iff.1 BK.out).1
                  go_wp2_with fail
                  obtain ⟨wq, hwq⟩ : ∃ u, u = wr2.setCell ⟨X, 1, none⟩ (.int .i64 (s1 + 1)) := ⟨_, rfl⟩
                  replace BZ : Aside (ScAt wq (w.heap.size + 1)) := by rw [hwq]; exact ((Below.heap_setCell _ _ _ _ (by show _ ≠ X; omega)).trans BZ.out)
                  replace BX : Aside (wq.heap[w.heap.size]? = some (.cells #[.int .i64 legs, .int .i64 sets, .int .i64 clear, .int .i64 extra, .int .i64 first] 68 (0, 0))) := by rw [hwq]; exact ((Below.heap_setCell _ _ _ _ (by show _ ≠ X; omega)).trans BX.out)
                  replace BB : Aside (Below w.heap.size w wq) := by rw [hwq]; exact (BB.out.setCell (p := ⟨X, 1, none⟩) (by show w.heap.size ≤ X; omega) _)
                  replace BK : Aside (wq.heap[X]? = some (.cells #[.int .i64 s0, .int .i64 (s1 + 1), .int .i64 l0, .int .i64 (l1 + 1), .int .i64 (1 - f), .int .i64 (-1)] 71 (0, 0))) := by rw [hwq]; exact (Go.Joins.block_setCell (i := 1) BK.out (.int .i64 (s1 + 1)))
                  rw [← hwq]
                  clear hwq
                  clear x0 x1 x2 x3 x4 x5 xf o0 o1 o2 o3 o4 hXl
                  have x0 := blk_cell BK.out (i := 0) rfl
                  have x1 := blk_cell BK.out (i := 1) rfl
                  have x2 := blk_cell BK.out (i := 2) rfl
                  have x3 := blk_cell BK.out (i := 3) rfl
                  have x4 := blk_cell BK.out (i := 4) rfl
                  have x5 := blk_cell BK.out (i := 5) rfl
                  have xf := blk_free BK.out
                  have o0 := blk_cell BX.out (i := 0) rfl
                  have o1 := blk_cell BX.out (i := 1) rfl
                  have o2 := blk_cell BX.out (i := 2) rfl
                  have o3 := blk_cell BX.out (i := 3) rfl
                  have o4 := blk_cell BX.out (i := 4) rfl
                  have hXl : X < _ := (Array.getElem?_eq_some_iff.1 BK.out).1
                  by_cases h9 : s1 + 1 = sets
                  · have h9b : (s1 + 1 == sets) = true := by simpa using h9
                    have H9 : Aside (s1 + 1 = sets) := h9
                    clear h9
                    go_quiet (fail)
                    generalize hdr : World.drewN wq _ = wy
                    replace BK : Aside (wy.heap[X]? = some (.cells #[.int .i64 s0, .int .i64 (s1 + 1), .int .i64 l0, .int .i64 (l1 + 1), .int .i64 (1 - f), .int .i64 (-1)] 71 (0, 0))) := by rw [← hdr]; exact BK.out
                    replace BZ : Aside (ScAt wy (w.heap.size + 1)) := by rw [← hdr]; exact BZ.out
                    replace BX : Aside (wy.heap[w.heap.size]? = some (.cells #[.int .i64 legs, .int .i64 sets, .int .i64 clear, .int .i64 extra, .int .i64 first] 68 (0, 0))) := by rw [← hdr]; exact BX.out
                    replace BB : Aside (Below w.heap.size w wy) := by rw [← hdr]; exact below_drewN' BB.out _
                    clear hdr x0 x1 x2 x3 x4 x5 xf o0 o1 o2 o3 o4 hXl
                    have x0 := blk_cell BK.out (i := 0) rfl
                    have x1 := blk_cell BK.out (i := 1) rfl
                    have x2 := blk_cell BK.out (i := 2) rfl
                    have x3 := blk_cell BK.out (i := 3) rfl
                    have x4 := blk_cell BK.out (i := 4) rfl
                    have x5 := blk_cell BK.out (i := 5) rfl
                    have xf := blk_free BK.out
                    have o0 := blk_cell BX.out (i := 0) rfl
                    have o1 := blk_cell BX.out (i := 1) rfl
                    have o2 := blk_cell BX.out (i := 2) rfl
                    have o3 := blk_cell BX.out (i := 3) rfl
                    have o4 := blk_cell BX.out (i := 4) rfl
                    have hXl : X < _ := (Array.getElem?_eq_some_iff.1 BK.out).1
                    go_wp2_with fail
                    obtain ⟨wu, hwu⟩ : ∃ u, u = (wy.setCell ⟨X, 4, none⟩ (.int .i64 (-1))).setCell ⟨X, 5, none⟩ (.int .i64 1) := ⟨_, rfl⟩
                    replace BZ : Aside (ScAt wu (w.heap.size + 1)) := by rw [hwu]; exact ((Below.heap_setCell _ _ _ _ (by show _ ≠ X; omega)).trans ((Below.heap_setCell _ _ _ _ (by show _ ≠ X; omega)).trans BZ.out))
                    replace BX : Aside (wu.heap[w.heap.size]? = some (.cells #[.int .i64 legs, .int .i64 sets, .int .i64 clear, .int .i64 extra, .int .i64 first] 68 (0, 0))) := by rw [hwu]; exact ((Below.heap_setCell _ _ _ _ (by show _ ≠ X; omega)).trans ((Below.heap_setCell _ _ _ _ (by show _ ≠ X; omega)).trans BX.out))
                    replace BB : Aside (Below w.heap.size w wu) := by rw [hwu]; exact ((BB.out.setCell (p := ⟨X, 4, none⟩) (by show w.heap.size ≤ X; omega) _).setCell (p := ⟨X, 5, none⟩) (by show w.heap.size ≤ X; omega) _)
                    replace BK : Aside (wu.heap[X]? = some (.cells #[.int .i64 s0, .int .i64 (s1 + 1), .int .i64 l0, .int .i64 (l1 + 1), .int .i64 (-1), .int .i64 1] 71 (0, 0))) := by rw [hwu]; exact (Go.Joins.block_setCell (i := 5) (Go.Joins.block_setCell (i := 4) BK.out (.int .i64 (-1))) (.int .i64 1))
                    rw [← hwu]
                    clear hwu
                    have HI3 : Aside (RmInv ⟨legs, sets, clear, extra, first⟩ ws res w X (k + 1) ⟨s0, (s1 + 1), l0, (l1 + 1), 1⟩ (-1) (1 - set) wu) := by
                      have hst : Mt.step ⟨legs, sets, clear, extra, first⟩ ⟨s0, s1, l0, l1, -1⟩ 1 = ⟨s0, (s1 + 1), l0, (l1 + 1), 1⟩ := by unfold Mt.step; simp only []; simp [HSW.out, H9.out]
                      have hrs := HR.out
                      have hok := HOK2.out
                      rw [hst] at hrs hok
                      exact ⟨BK.out, hok, ⟨fun h => absurd (show (1 : Int) = -1 from h) (by decide), fun _ => ⟨rfl, show (0 : Int) ≤ 1 by decide⟩⟩, hrs, BB.out, BZ.out, BX.out⟩
                    go_wp2_with fail
                    go_roundg (n - (k + 1))
                    case measure => omega
                    case rel => exact ⟨k + 1, _, _, _, by omega, by omega, by go_num, rfl, HI3.out⟩
                  · have h9b : (s1 + 1 == sets) = false := by simpa using h9
                    have H9 : Aside (¬ s1 + 1 = sets) := h9
                    clear h9
                    go_quiet (fail)
                    generalize hdr : World.drewN wq _ = wy
                    replace BK : Aside (wy.heap[X]? = some (.cells #[.int .i64 s0, .int .i64 (s1 + 1), .int .i64 l0, .int .i64 (l1 + 1), .int .i64 (1 - f), .int .i64 (-1)] 71 (0, 0))) := by rw [← hdr]; exact BK.out
                    replace BZ : Aside (ScAt wy (w.heap.size + 1)) := by rw [← hdr]; exact BZ.out
                    replace BX : Aside (wy.heap[w.heap.size]? = some (.cells #[.int .i64 legs, .int .i64 sets, .int .i64 clear, .int .i64 extra, .int .i64 first] 68 (0, 0))) := by rw [← hdr]; exact BX.out
                    replace BB : Aside (Below w.heap.size w wy) := by rw [← hdr]; exact below_drewN' BB.out _
                    clear hdr x0 x1 x2 x3 x4 x5 xf o0 o1 o2 o3 o4 hXl
                    have x0 := blk_cell BK.out (i := 0) rfl
                    have x1 := blk_cell BK.out (i := 1) rfl
                    have x2 := blk_cell BK.out (i := 2) rfl
                    have x3 := blk_cell BK.out (i := 3) rfl
                    have x4 := blk_cell BK.out (i := 4) rfl
                    have x5 := blk_cell BK.out (i := 5) rfl
                    have xf := blk_free BK.out
                    have o0 := blk_cell BX.out (i := 0) rfl
                    have o1 := blk_cell BX.out (i := 1) rfl
                    have o2 := blk_cell BX.out (i := 2) rfl
                    have o3 := blk_cell BX.out (i := 3) rfl
                    have o4 := blk_cell BX.out (i := 4) rfl
                    have hXl : X < _ := (Array.getElem?_eq_some_iff.1 BK.out).1
                    go_wp2_with fail
                    obtain ⟨wu, hwu⟩ : ∃ u, u = ((wy.setCell ⟨X, 2, none⟩ (.int .i64 0)).setCell ⟨X, 3, none⟩ (.int .i64 0)).setCell ⟨X, 4, none⟩ (.int .i64 (1 - set)) := ⟨_, rfl⟩
                    replace BZ : Aside (ScAt wu (w.heap.size + 1)) := by rw [hwu]; exact ((Below.heap_setCell _ _ _ _ (by show _ ≠ X; omega)).trans ((Below.heap_setCell _ _ _ _ (by show _ ≠ X; omega)).trans ((Below.heap_setCell _ _ _ _ (by show _ ≠ X; omega)).trans BZ.out)))
                    replace BX : Aside (wu.heap[w.heap.size]? = some (.cells #[.int .i64 legs, .int .i64 sets, .int .i64 clear, .int .i64 extra, .int .i64 first] 68 (0, 0))) := by rw [hwu]; exact ((Below.heap_setCell _ _ _ _ (by show _ ≠ X; omega)).trans ((Below.heap_setCell _ _ _ _ (by show _ ≠ X; omega)).trans ((Below.heap_setCell _ _ _ _ (by show _ ≠ X; omega)).trans BX.out)))
                    replace BB : Aside (Below w.heap.size w wu) := by rw [hwu]; exact (((BB.out.setCell (p := ⟨X, 2, none⟩) (by show w.heap.size ≤ X; omega) _).setCell (p := ⟨X, 3, none⟩) (by show w.heap.size ≤ X; omega) _).setCell (p := ⟨X, 4, none⟩) (by show w.heap.size ≤ X; omega) _)
                    replace BK : Aside (wu.heap[X]? = some (.cells #[.int .i64 s0, .int .i64 (s1 + 1), .int .i64 0, .int .i64 0, .int .i64 (1 - set), .int .i64 (-1)] 71 (0, 0))) := by rw [hwu]; exact (Go.Joins.block_setCell (i := 4) (Go.Joins.block_setCell (i := 3) (Go.Joins.block_setCell (i := 2) BK.out (.int .i64 0)) (.int .i64 0)) (.int .i64 (1 - set)))
                    rw [← hwu]
                    clear hwu
                    have HI3 : Aside (RmInv ⟨legs, sets, clear, extra, first⟩ ws res w X (k + 1) ⟨s0, (s1 + 1), 0, 0, -1⟩ (1 - set) (1 - set) wu) := by
                      have hst : Mt.step ⟨legs, sets, clear, extra, first⟩ ⟨s0, s1, l0, l1, -1⟩ 1 = ⟨s0, (s1 + 1), 0, 0, -1⟩ := by unfold Mt.step; simp only []; simp [HSW.out, H9.out]
                      have hrs := HR.out
                      have hok := HOK2.out
                      rw [hst] at hrs hok
                      refine ⟨BK.out, hok, ⟨fun _ => ⟨?_, ?_, fun _ => ⟨?_, ?_⟩⟩, fun h => absurd rfl h⟩, hrs, BB.out, BZ.out, BX.out⟩
                      · show 1 - set = (1 - set + 0 + 0) % 2; omega
                      · have := HNL.out.2.1; show 1 - set = (first + s0 + (s1 + 1)) % 2; omega
                      · show (0 : Int) < legs; omega
                      · show (0 : Int) < legs; omega
                    go_wp2_with fail
                    go_roundg (n - (k + 1))
                    case measure => omega
                    case rel => exact ⟨k + 1, _, _, _, by omega, by omega, by go_num, rfl, HI3.out⟩
              · have h1b : decide (legs ≤ l1 + 1) = false := by simpa using h1
                have H1 : Aside (¬ legs ≤ l1 + 1) := h1
                clear h1
                go_quiet (fail)
                by_cases h2 : s0 = sets - 1
                · have h2b : (s0 == sets - 1) = true := by simpa using h2
                  have H2 : Aside (s0 = sets - 1) := h2
                  clear h2
                  by_cases h3 : s1 = sets - 1
                  · have h3b : (s1 == sets - 1) = true := by simpa using h3
                    have H3 : Aside (s1 = sets - 1) := h3
                    clear h3
                    go_wp2_with fail
                    go_quiet (fail)
                    go_wp2_with fail
                    generalize hdr : World.drewN wp _ = wr2
                    replace BK : Aside (wr2.heap[X]? = some (.cells #[.int .i64 s0, .int .i64 s1, .int .i64 l0, .int .i64 (l1 + 1), .int .i64 (1 - f), .int .i64 (-1)] 71 (0, 0))) := by rw [← hdr]; exact BK.out
                    replace BZ : Aside (ScAt wr2 (w.heap.size + 1)) := by rw [← hdr]; exact BZ.out
                    replace BX : Aside (wr2.heap[w.heap.size]? = some (.cells #[.int .i64 legs, .int .i64 sets, .int .i64 clear, .int .i64 extra, .int .i64 first] 68 (0, 0))) := by rw [← hdr]; exact BX.out
                    replace BB : Aside (Below w.heap.size w wr2) := by rw [← hdr]; exact below_drewN' BB.out _
                    clear hdr x0 x1 x2 x3 x4 x5 xf o0 o1 o2 o3 o4 hXl
                    have x0 := blk_cell BK.out (i := 0) rfl
                    have x1 := blk_cell BK.out (i := 1) rfl
                    have x2 := blk_cell BK.out (i := 2) rfl
                    have x3 := blk_cell BK.out (i := 3) rfl
                    have x4 := blk_cell BK.out (i := 4) rfl
                    have x5 := blk_cell BK.out (i := 5) rfl
                    have xf := blk_free BK.out
                    have o0 := blk_cell BX.out (i := 0) rfl
                    have o1 := blk_cell BX.out (i := 1) rfl
                    have o2 := blk_cell BX.out (i := 2) rfl
                    have o3 := blk_cell BX.out (i := 3) rfl
                    have o4 := blk_cell BX.out (i := 4) rfl
                    have hXl : X < _ := (Array.getElem?_eq_some_iff.1 BK.out).1
                    go_wp2_with fail
                    have HSW : Aside (setWon ⟨legs, sets, clear, extra, first⟩ s0 s1 (l1 + 1) l0 = false) := sw_no ⟨legs, sets, clear, extra, first⟩ s0 s1 _ _ (by have h9 := H1.out; show ¬ legs ≤ l1 + 1; omega) hex0
                    have HI3 : Aside (RmInv ⟨legs, sets, clear, extra, first⟩ ws res w X (k + 1) ⟨s0, s1, l0, l1 + 1, -1⟩ (1 - f) set wr2) := by
                      have hst : Mt.step ⟨legs, sets, clear, extra, first⟩ ⟨s0, s1, l0, l1, -1⟩ 1 = ⟨s0, s1, l0, l1 + 1, -1⟩ := by unfold Mt.step; simp only []; simp [HSW.out]
                      have hrs := HR.out
                      have hok := HOK2.out
                      rw [hst] at hrs hok
                      refine ⟨BK.out, hok, ⟨fun _ => ⟨?_, HNL.out.2.1, fun hnn => ?_⟩, fun h => absurd rfl h⟩, hrs, BB.out, BZ.out, BX.out⟩
                      · have := HNL.out.1; show 1 - f = (set + l0 + (l1 + 1)) % 2; omega
                      · have h7 := HNL.out.2.2 hnn; have h8 := HSW.out; unfold setWon at h8; rw [if_neg hnn] at h8; simp at h8; show l0 < legs ∧ (l1 + 1) < legs; omega
                    go_wp2_with fail
                    go_roundg (n - (k + 1))
                    case measure => omega
                    case rel => exact ⟨k + 1, _, _, _, by omega, by omega, by go_num, rfl, HI3.out⟩
                  · have h3b : (s1 == sets - 1) = false := by simpa using h3
                    have H3 : Aside (¬ s1 = sets - 1) := h3
                    clear h3
                    go_wp2_with fail
                    generalize hdr : World.drewN wp _ = wr2
                    replace BK : Aside (wr2.heap[X]? = some (.cells #[.int .i64 s0, .int .i64 s1, .int .i64 l0, .int .i64 (l1 + 1), .int .i64 (1 - f), .int .i64 (-1)] 71 (0, 0))) := by rw [← hdr]; exact BK.out
                    replace BZ : Aside (ScAt wr2 (w.heap.size + 1)) := by rw [← hdr]; exact BZ.out
                    replace BX : Aside (wr2.heap[w.heap.size]? = some (.cells #[.int .i64 legs, .int .i64 sets, .int .i64 clear, .int .i64 extra, .int .i64 first] 68 (0, 0))) := by rw [← hdr]; exact BX.out
                    replace BB : Aside (Below w.heap.size w wr2) := by rw [← hdr]; exact below_drewN' BB.out _
                    clear hdr x0 x1 x2 x3 x4 x5 xf o0 o1 o2 o3 o4 hXl
                    have x0 := blk_cell BK.out (i := 0) rfl
                    have x1 := blk_cell BK.out (i := 1) rfl
                    have x2 := blk_cell BK.out (i := 2) rfl
                    have x3 := blk_cell BK.out (i := 3) rfl
                    have x4 := blk_cell BK.out (i := 4) rfl
                    have x5 := blk_cell BK.out (i := 5) rfl
                    have xf := blk_free BK.out
                    have o0 := blk_cell BX.out (i := 0) rfl
                    have o1 := blk_cell BX.out (i := 1) rfl
                    have o2 := blk_cell BX.out (i := 2) rfl
                    have o3 := blk_cell BX.out (i := 3) rfl
                    have o4 := blk_cell BX.out (i := 4) rfl
                    have hXl : X < _ := (Array.getElem?_eq_some_iff.1 BK.out).1
                    go_wp2_with fail
                    have HSW : Aside (setWon ⟨legs, sets, clear, extra, first⟩ s0 s1 (l1 + 1) l0 = false) := sw_no ⟨legs, sets, clear, extra, first⟩ s0 s1 _ _ (by have h9 := H1.out; show ¬ legs ≤ l1 + 1; omega) hex0
                    have HI3 : Aside (RmInv ⟨legs, sets, clear, extra, first⟩ ws res w X (k + 1) ⟨s0, s1, l0, l1 + 1, -1⟩ (1 - f) set wr2) := by
                      have hst : Mt.step ⟨legs, sets, clear, extra, first⟩ ⟨s0, s1, l0, l1, -1⟩ 1 = ⟨s0, s1, l0, l1 + 1, -1⟩ := by unfold Mt.step; simp only []; simp [HSW.out]
                      have hrs := HR.out
                      have hok := HOK2.out
                      rw [hst] at hrs hok
                      refine ⟨BK.out, hok, ⟨fun _ => ⟨?_, HNL.out.2.1, fun hnn => ?_⟩, fun h => absurd rfl h⟩, hrs, BB.out, BZ.out, BX.out⟩
                      · have := HNL.out.1; show 1 - f = (set + l0 + (l1 + 1)) % 2; omega
                      · have h7 := HNL.out.2.2 hnn; have h8 := HSW.out; unfold setWon at h8; rw [if_neg hnn] at h8; simp at h8; show l0 < legs ∧ (l1 + 1) < legs; omega
                    go_wp2_with fail
                    go_roundg (n - (k + 1))
                    case measure => omega
                    case rel => exact ⟨k + 1, _, _, _, by omega, by omega, by go_num, rfl, HI3.out⟩
                · have h2b : (s0 == sets - 1) = false := by simpa using h2
                  have H2 : Aside (¬ s0 = sets - 1) := h2
                  clear h2
                  go_wp2_with fail
                  generalize hdr : World.drewN wp _ = wr2
                  replace BK : Aside (wr2.heap[X]? = some (.cells #[.int .i64 s0, .int .i64 s1, .int .i64 l0, .int .i64 (l1 + 1), .int .i64 (1 - f), .int .i64 (-1)] 71 (0, 0))) := by rw [← hdr]; exact BK.out
                  replace BZ : Aside (ScAt wr2 (w.heap.size + 1)) := by rw [← hdr]; exact BZ.out
                  replace BX : Aside (wr2.heap[w.heap.size]? = some (.cells #[.int .i64 legs, .int .i64 sets, .int .i64 clear, .int .i64 extra, .int .i64 first] 68 (0, 0))) := by rw [← hdr]; exact BX.out
                  replace BB : Aside (Below w.heap.size w wr2) := by rw [← hdr]; exact below_drewN' BB.out _
                  clear hdr x0 x1 x2 x3 x4 x5 xf o0 o1 o2 o3 o4 hXl
                  have x0 := blk_cell BK.out (i := 0) rfl
                  have x1 := blk_cell BK.out (i := 1) rfl
                  have x2 := blk_cell BK.out (i := 2) rfl
                  have x3 := blk_cell BK.out (i := 3) rfl
                  have x4 := blk_cell BK.out (i := 4) rfl
                  have x5 := blk_cell BK.out (i := 5) rfl
                  have xf := blk_free BK.out
                  have o0 := blk_cell BX.out (i := 0) rfl
                  have o1 := blk_cell BX.out (i := 1) rfl
                  have o2 := blk_cell BX.out (i := 2) rfl
                  have o3 := blk_cell BX.out (i := 3) rfl
                  have o4 := blk_cell BX.out (i := 4) rfl
                  have hXl : X < _ := (Array.getElem?_eq_some_iff.1 BK.out).1
                  go_wp2_with fail
                  have HSW : Aside (setWon ⟨legs, sets, clear, extra, first⟩ s0 s1 (l1 + 1) l0 = false) := sw_no ⟨legs, sets, clear, extra, first⟩ s0 s1 _ _ (by have h9 := H1.out; show ¬ legs ≤ l1 + 1; omega) hex0
                  have HI3 : Aside (RmInv ⟨legs, sets, clear, extra, first⟩ ws res w X (k + 1) ⟨s0, s1, l0, l1 + 1, -1⟩ (1 - f) set wr2) := by
                    have hst : Mt.step ⟨legs, sets, clear, extra, first⟩ ⟨s0, s1, l0, l1, -1⟩ 1 = ⟨s0, s1, l0, l1 + 1, -1⟩ := by unfold Mt.step; simp only []; simp [HSW.out]
                    have hrs := HR.out
                    have hok := HOK2.out
                    rw [hst] at hrs hok
                    refine ⟨BK.out, hok, ⟨fun _ => ⟨?_, HNL.out.2.1, fun hnn => ?_⟩, fun h => absurd rfl h⟩, hrs, BB.out, BZ.out, BX.out⟩
                    · have := HNL.out.1; show 1 - f = (set + l0 + (l1 + 1)) % 2; omega
                    · have h7 := HNL.out.2.2 hnn; have h8 := HSW.out; unfold setWon at h8; rw [if_neg hnn] at h8; simp at h8; show l0 < legs ∧ (l1 + 1) < legs; omega
                  go_wp2_with fail
                  go_roundg (n - (k + 1))
                  case measure => omega
                  case rel => exact ⟨k + 1, _, _, _, by omega, by omega, by go_num, rfl, HI3.out⟩
          · skip
            -- @@c
            have hxn : ¬ x = 0 ∧ ¬ x = 1 := by omega
            have hx0b : (x == 0) = false := by simpa using hxn.1
            have hx1b : (x == 1) = false := by simpa using hxn.2
            have hx0n : (x != 0) = true := by simpa using hxn.1
            have hx1n : (x != 1) = true := by simpa using hxn.2
            have HR3 : Aside (fin = (⟨0, 0, 0, 0, 0⟩, 0, (k : Int), 2)) := by
              have hmt : inb 0 1 x = false := by unfold inb; simp; omega
              have h9 : res = (⟨0, 0, 0, 0, 0⟩, (k : Int), 2) := by rw [← HR2.out, mtL, if_pos rfl, if_neg (by rw [hmt]; simp)]
              show _ = _
              rw [HF.out, h9]; rfl
            clear HR2 hx01 hxn HW
            have x0 := blk_cell BK.out (i := 0) rfl
            have x1 := blk_cell BK.out (i := 1) rfl
            have x2 := blk_cell BK.out (i := 2) rfl
            have x3 := blk_cell BK.out (i := 3) rfl
            have x4 := blk_cell BK.out (i := 4) rfl
            have x5 := blk_cell BK.out (i := 5) rfl
            have xf := blk_free BK.out
            have o0 := blk_cell BX.out (i := 0) rfl
            have o1 := blk_cell BX.out (i := 1) rfl
            have o2 := blk_cell BX.out (i := 2) rfl
            have o3 := blk_cell BX.out (i := 3) rfl
            have o4 := blk_cell BX.out (i := 4) rfl
            have hXl : X < _ := (Array.getElem?_eq_some_iff.1 BK.out).1
            have r0 := blk_cell BZ.out (i := 0) rfl
            have r1 := blk_cell BZ.out (i := 1) rfl
            have r2 := blk_cell BZ.out (i := 2) rfl
            have r3 := blk_cell BZ.out (i := 3) rfl
            have r4 := blk_cell BZ.out (i := 4) rfl
            have r5 := blk_cell BZ.out (i := 5) rfl
            have rf := blk_free BZ.out
            go_wp2
            refine bodyPost_ret (v := .tuple #[.agg #[.int .i64 0, .int .i64 0, .int .i64 0, .int .i64 0, .int .i64 0, .int .i64 0], .int .i64 (k : Int), .int .i64 2]) (by simp [results, Try.results32, go_sem, r0, r1, r2, r3, r4, r5]) rfl ⟨by rw [HR3.out]; rfl, ?_⟩
            exact below_set6 BB.out (by omega) _ _ _ _ _ _
        · skip
          -- @@d
          have hw0 : 0 ≤ win := (HFS.out.2 hwin).2
          have HR3 : Aside (fin = (⟨0, 0, 0, 0, 0⟩, 0, (k : Int), 33)) := by
            have h9 : res = (⟨0, 0, 0, 0, 0⟩, (k : Int), 33) := by rw [← HR2.out, mtL, if_neg hwin]
            show _ = _
            rw [HF.out, h9]; rfl
          clear HR2 hwin HFS
          have x0 := blk_cell BK.out (i := 0) rfl
          have x1 := blk_cell BK.out (i := 1) rfl
          have x2 := blk_cell BK.out (i := 2) rfl
          have x3 := blk_cell BK.out (i := 3) rfl
          have x4 := blk_cell BK.out (i := 4) rfl
          have x5 := blk_cell BK.out (i := 5) rfl
          have xf := blk_free BK.out
          have o0 := blk_cell BX.out (i := 0) rfl
          have o1 := blk_cell BX.out (i := 1) rfl
          have o2 := blk_cell BX.out (i := 2) rfl
          have o3 := blk_cell BX.out (i := 3) rfl
          have o4 := blk_cell BX.out (i := 4) rfl
          have hXl : X < _ := (Array.getElem?_eq_some_iff.1 BK.out).1
          have r0 := blk_cell BZ.out (i := 0) rfl
          have r1 := blk_cell BZ.out (i := 1) rfl
          have r2 := blk_cell BZ.out (i := 2) rfl
          have r3 := blk_cell BZ.out (i := 3) rfl
          have r4 := blk_cell BZ.out (i := 4) rfl
          have r5 := blk_cell BZ.out (i := 5) rfl
          have rf := blk_free BZ.out
          go_wp2
          refine bodyPost_ret (v := .tuple #[.agg #[.int .i64 0, .int .i64 0, .int .i64 0, .int .i64 0, .int .i64 0, .int .i64 0], .int .i64 (k : Int), .int .i64 33]) (by simp [results, Try.results32, go_sem, r0, r1, r2, r3, r4, r5]) rfl ⟨by rw [HR3.out]; rfl, ?_⟩
          exact below_set6 BB.out (by omega) _ _ _ _ _ _
      · skip
        -- @@e
        have hltz : ¬ (k : Int) < (n : Int) := by omega
        have : k = n := by omega
        subst this
        have HR1 : Aside (fin = (⟨s0, s1, l0, l1, win⟩, f, 0, 0)) := by
          have h9 := HR0.out
          rw [List.drop_of_length_le (by rw [HN.out]; exact Nat.le_refl _)] at h9
          have hfs := HFS.out
          have hnx : Mt.next ⟨legs, sets, clear, extra, first⟩ ⟨s0, s1, l0, l1, win⟩ = f := by
            unfold Mt.next
            simp only []
            by_cases h : win = -1
            · obtain ⟨h1, h2, _⟩ := hfs.1 h
              simp only [] at h1 h2
              rw [if_pos h]; omega
            · rw [if_neg h]; exact (hfs.2 h).1.symm
          show _ = _
          rw [HF.out, ← h9, show mtL ⟨legs, sets, clear, extra, first⟩ ⟨s0, s1, l0, l1, win⟩ k [] = (⟨s0, s1, l0, l1, win⟩, 0, 0) from by rw [mtL]]
          simp only []
          rw [if_pos trivial, hnx]
        clear HR0 HFS
        have x0 := blk_cell BK.out (i := 0) rfl
        have x1 := blk_cell BK.out (i := 1) rfl
        have x2 := blk_cell BK.out (i := 2) rfl
        have x3 := blk_cell BK.out (i := 3) rfl
        have x4 := blk_cell BK.out (i := 4) rfl
        have x5 := blk_cell BK.out (i := 5) rfl
        have xf := blk_free BK.out
        have o0 := blk_cell BX.out (i := 0) rfl
        have o1 := blk_cell BX.out (i := 1) rfl
        have o2 := blk_cell BX.out (i := 2) rfl
        have o3 := blk_cell BX.out (i := 3) rfl
        have o4 := blk_cell BX.out (i := 4) rfl
        have hXl : X < _ := (Array.getElem?_eq_some_iff.1 BK.out).1
        have r0 := blk_cell BZ.out (i := 0) rfl
        have r1 := blk_cell BZ.out (i := 1) rfl
        have r2 := blk_cell BZ.out (i := 2) rfl
        have r3 := blk_cell BZ.out (i := 3) rfl
        have r4 := blk_cell BZ.out (i := 4) rfl
        have r5 := blk_cell BZ.out (i := 5) rfl
        have rf := blk_free BZ.out
        have zs : w.heap.size + 1 < wr.heap.size := (Array.getElem?_eq_some_iff.1 BZ.out).1
        go_wp2
        refine bodyPost_ret (v := .tuple #[.agg #[.int .i64 s0, .int .i64 s1, .int .i64 l0, .int .i64 l1, .int .i64 f, .int .i64 win], .int .i64 0, .int .i64 0]) (by simp [results, Try.results32, go_sem, r0, r1, r2, r3, r4, r5, zs]) rfl ⟨by rw [HR1.out]; rfl, ?_⟩
        exact below_set6 BB.out (by omega) _ _ _ _ _ _
end Go.Proofs.Ythcgbceapabikaa
