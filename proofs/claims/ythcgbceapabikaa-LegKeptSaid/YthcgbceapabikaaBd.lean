/- Leg, part Bd: the reference's visit, dart by dart. -/
import Derived.Test.YthcgbceapabikaaBc
set_option linter.unusedVariables false
set_option linter.unusedSimpArgs false
namespace Go.Proofs.Ythcgbceapabikaa
open Go.RowKit Go.Shelf

/-- What is left at least. -/
def lo (c : Cnt) : Int := if c.2.2 = 0 then 1 else 2
/-- The reference's visit: In may be behind at a bust. -/
def RvAt (w : World) (X : Nat) (t : Thr) (ui : Bool) : Prop := w.heap[X]? = some (.cells #[.int .i64 t.left, .int .i64 0, .int .i64 t.darts, .bool ui, .bool t.bust, .bool t.won] 30 (0, 0))
structure RvInv (c : Cnt) (in0 : Bool) (left : Int) (bs : List Int) (res : Thr × Int × Int) (w : World) (k : Nat) (t : Thr) (ui : Bool) (wr : World) : Prop where
  blk : RvAt wr (w.heap.size + 1 + 1) t ui
  inn : t.bust = false → ui = t.inn
  ok : t.Ok k
  low : t.won = false → lo c ≤ t.left
  res : thrL c in0 left t k (bs.drop k) = res
  bel : Below w.heap.size w wr
  zero : ZeroAt wr (w.heap.size + 1)
  box : wr.heap[w.heap.size]? = some (.cells #[.int .i64 c.1, .int .i64 c.2.1, .int .i64 c.2.2] 24 (0, 0))
theorem lo_pos (c : Cnt) : 0 < lo c := by unfold lo; split <;> omega
/-- The dart, case by case. -/
theorem step_wait {c : Cnt} {t : Thr} {b : Int} (h : (t.inn || opn c.2.1 b) = false) (hl : lo c ≤ t.left) : t.step c b = ⟨t.left, t.score, t.darts + 1, false, false, false⟩ := by
  have hp := lo_pos c
  unfold Thr.step; rw [if_neg (by rw [h]; simp)]
  have : decide (t.left = 0) = false := by simp; omega
  rw [this]
theorem step_miss {c : Cnt} {t : Thr} (h : (t.inn || opn c.2.1 0) = true) (hl : lo c ≤ t.left) : t.step c 0 = ⟨t.left, t.score, t.darts + 1, true, false, false⟩ := by
  unfold lo at hl
  have h1 : bst t.left c.2.2 0 = false := by
    unfold bst
    rw [show sc 0 = 0 from rfl]
    split at hl
    · rename_i h0
      rw [if_neg (by omega)]
      split
      · simp [h0]
      · simp; omega
    · rw [if_neg (by omega), if_neg (by omega)]
      simp; omega
  unfold Thr.step
  rw [if_pos h, if_neg (by rw [h1]; simp), show sc 0 = 0 from rfl, Int.sub_zero]
  have : decide (t.left = 0) = false := by simp; split at hl <;> omega
  rw [this]
theorem step_out {c : Cnt} {t : Thr} {b : Int} (h : (t.inn || opn c.2.1 b) = true) (hn : t.left - sc b = 0) (ho : opn c.2.2 b = true) : t.step c b = ⟨0, t.score, t.darts + 1, true, false, true⟩ := by
  unfold Thr.step bst
  rw [if_pos h, if_pos hn, ho, hn]
  simp
theorem step_on {c : Cnt} {t : Thr} {b : Int} (h : (t.inn || opn c.2.1 b) = true) (hn : 2 ≤ t.left - sc b ∨ (t.left - sc b = 1 ∧ c.2.2 = 0)) : t.step c b = ⟨t.left - sc b, t.score, t.darts + 1, true, false, false⟩ := by
  unfold Thr.step bst
  rw [if_pos h, if_neg (show ¬ t.left - sc b = 0 by omega)]
  by_cases h1 : t.left - sc b = 1
  · have h0 : c.2.2 = 0 := by omega
    rw [if_pos h1, h0]
    simp [h1]
  · rw [if_neg h1, if_neg (by simp; omega)]
    have : decide (t.left - sc b = 0) = false := by simp; omega
    rw [this]
theorem step_bust {c : Cnt} {t : Thr} {b : Int} (h : (t.inn || opn c.2.1 b) = true) (hl : lo c ≤ t.left) (hn : ¬ (t.left - sc b = 0 ∧ opn c.2.2 b = true)) (h2 : ¬ (2 ≤ t.left - sc b ∨ (t.left - sc b = 1 ∧ c.2.2 = 0))) : t.step c b = ⟨t.left, t.score, t.darts + 1, t.inn, true, false⟩ := by
  have hp := lo_pos c
  have hb : bst t.left c.2.2 b = true := by
    unfold bst
    split
    · rename_i h0
      cases ho : opn c.2.2 b with
      | true => exact absurd ⟨h0, ho⟩ hn
      | false => rfl
    · split
      · simp; omega
      · simp; omega
  unfold Thr.step
  rw [if_pos h, if_pos hb]
  have : decide (t.left = 0) = false := by simp; omega
  rw [this]
end Go.Proofs.Ythcgbceapabikaa
