/- Board, part Zm: a point farther out in the same direction. -/
import Derived.Test.YtilgchkndfhdhaaGreatN
set_option linter.unusedVariables false
set_option linter.unusedSimpArgs false
namespace Go.Proofs.YtilgchkndfhdhaaGreat

/-- The point k times as far out. -/
def sc (k : Int) (d : Int × Int) : Int × Int := (d.1 * k, d.2 * k)
theorem crs_sc_r (k : Int) (a d : Int × Int) : crs a (sc k d) = crs a d * k := by
  unfold crs sc
  simp only []
  rw [Int.sub_mul, Int.mul_assoc, Int.mul_assoc]
theorem crs_sc_l (k : Int) (a d : Int × Int) : crs (sc k d) a = crs d a * k := by
  unfold crs sc
  simp only []
  rw [Int.sub_mul, Int.mul_right_comm, Int.mul_right_comm d.2]
theorem dt_sc_r (k : Int) (a d : Int × Int) : dt a (sc k d) = dt a d * k := by
  unfold dt sc
  simp only []
  rw [Int.add_mul, Int.mul_assoc, Int.mul_assoc]
theorem dt_sc_l (k : Int) (a d : Int × Int) : dt (sc k d) a = dt d a * k := by
  unfold dt sc
  simp only []
  rw [Int.add_mul, Int.mul_right_comm, Int.mul_right_comm d.2]
theorem mul_neg_iff {x k : Int} (hk : 0 < k) : x * k < 0 ↔ x < 0 := by
  constructor
  · intro h
    rcases Int.lt_or_le x 0 with h1 | h1
    · exact h1
    · have := Int.mul_nonneg h1 (Int.le_of_lt hk); omega
  · intro h; exact Int.mul_neg_of_neg_of_pos h hk
theorem mul_pos_iff' {x k : Int} (hk : 0 < k) : 0 < x * k ↔ 0 < x := by
  constructor
  · intro h
    rcases Int.lt_or_le 0 x with h1 | h1
    · exact h1
    · have := Int.mul_nonpos_of_nonpos_of_nonneg h1 (Int.le_of_lt hk); omega
  · intro h; exact Int.mul_pos h hk
theorem part_sc_r {k : Int} (hk : 0 < k) (a d : Int × Int) : partTo a (sc k d) = partTo a d := by
  unfold partTo
  simp only [crs_sc_r, dt_sc_r, mul_neg_iff hk, mul_pos_iff' hk]
theorem part_sc_l {k : Int} (hk : 0 < k) (a d : Int × Int) : partTo (sc k d) a = partTo d a := by
  unfold partTo
  simp only [crs_sc_l, dt_sc_l, mul_neg_iff hk, mul_pos_iff' hk]
theorem sooner_sc {k : Int} (hk : 0 < k) (f d l : Int × Int) : sooner f (sc k d) l = sooner f d l := by
  unfold sooner
  rw [part_sc_r hk, part_sc_l hk]
theorem sector_sc {k : Int} (hk : 0 < k) (b : Brd) (d : Int × Int) : sector b (sc k d) = sector b d := by
  unfold sector
  have key : ∀ n, sec b.lines (sc k d) n = sec b.lines d n := by
    intro n
    induction n with
    | zero => rfl
    | succ n ih =>
      unfold sec
      simp only [sooner_sc hk, ih]
  exact key _

/-- In a sector the bed's last two digits are its number. -/
theorem landed_mod {b : Brd} (g : Good b) (p : Int × Int) (h0 : landed b p ≠ 0) (h25 : landed b p % 100 ≠ 25) : landed b p % 100 = (b.nums[sector b p]?.getD 0) % 100 := by
  unfold landed at *
  split at h0
  · rename_i h; rw [if_pos h] at h25; omega
  · rename_i h
    rw [if_neg h] at h25 ⊢
    split at h0
    · rename_i h2; rw [if_pos h2] at h25; omega
    · rename_i h2
      rw [if_neg h2] at h25 ⊢
      split
      · rename_i i hi
        rw [hi] at h0
        simp only [] at h0
        unfold bedOf at *
        split
        · rename_i hz; rw [if_pos hz] at h0; exact absurd rfl h0
        · omega
      · rename_i hi
        rw [hi] at h0
        exact absurd rfl h0
theorem far_same {b : Brd} (g : Good b) {k : Int} (hk : 0 < k) (p : Int × Int) (h1 : bedW b p ≠ 0) (h2 : bedW b (sc k p) ≠ 0) (h3 : bedW b p % 100 ≠ 25) (h4 : bedW b (sc k p) % 100 ≠ 25) : bedW b (sc k p) % 100 = bedW b p % 100 := by
  have e : ∀ q, bedW b q ≠ 0 → bedW b q = landed b q := by
    intro q hq
    unfold bedW at hq ⊢
    split
    · rename_i h; rw [if_pos h] at hq; exact absurd rfl hq
    · rfl
  have e1 := e _ h1
  have e2 := e _ h2
  rw [e1] at h1 h3 ⊢
  rw [e2] at h2 h4 ⊢
  rw [landed_mod g _ h1 h3, landed_mod g _ h2 h4, sector_sc hk]
end Go.Proofs.YtilgchkndfhdhaaGreat
