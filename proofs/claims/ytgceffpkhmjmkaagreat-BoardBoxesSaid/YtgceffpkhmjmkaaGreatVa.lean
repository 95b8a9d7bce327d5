/- Board, part Va: plain mathematics: between two lines; lines that go round once; the sector in which a direction is. -/
import Derived.Test.YtgceffpkhmjmkaaGreatZo
set_option linter.unusedVariables false
set_option linter.unusedSimpArgs false
namespace Go.Proofs.YtgceffpkhmjmkaaGreat

/-- From one line on, and before the next one. -/
def btw (l n p : Int × Int) : Bool := if crs l p = 0 then decide (0 < dt l p) else decide (crs l p < 0) && decide (crs p n < 0)
theorem crs_anti (a b : Int × Int) : crs b a = -crs a b := by unfold crs; grind
theorem dt_comm (a b : Int × Int) : dt b a = dt a b := by unfold dt; grind
theorem dt_dt (f a b : Int × Int) : dt a b * dt f f = dt f a * dt f b + crs f a * crs f b := by unfold dt crs; grind
theorem crs_in (f a b : Int × Int) : crs f a * dt a b = crs f b * dt a a - crs a b * dt f a := by unfold dt crs; grind
theorem dt_in (f a b : Int × Int) : dt f a * dt a b = dt f b * dt a a + crs a b * crs f a := by unfold dt crs; grind
theorem crs_plu (l p m f : Int × Int) : crs l f * crs p m = crs l p * crs f m + crs l m * crs p f := by unfold crs; grind
theorem pos_of_mul {x y : Int} (h : 0 < x * y) (hy : 0 < y) : 0 < x := by
  rcases Int.lt_or_le 0 x with h1 | h1
  · exact h1
  · have := Int.mul_nonpos_of_nonpos_of_nonneg h1 (Int.le_of_lt hy); omega
theorem pos_of_mul_neg {x y : Int} (h : x * y < 0) (hy : y < 0) : 0 < x := by
  rcases Int.lt_or_le 0 x with h1 | h1
  · exact h1
  · have := Int.mul_nonneg_of_nonpos_of_nonpos h1 (Int.le_of_lt hy); omega
theorem zero_of_mul {x y : Int} (h : x * y = 0) (hy : y ≠ 0) : x = 0 := by
  rcases Int.mul_eq_zero.1 h with h | h
  · exact h
  · exact absurd h hy
theorem sooner_iff {f a c : Int × Int} : sooner f a c = true ↔ (partTo f a = partTo f c ∧ crs a c < 0) ∨ partTo f a < partTo f c := by
  unfold sooner
  split
  · rename_i h
    rw [decide_eq_true_eq, part_one]
    omega
  · rename_i h
    rw [decide_eq_true_eq]
    omega
theorem not_sooner {f a c : Int × Int} : sooner f a c = false ↔ (partTo f a = partTo f c ∧ 0 ≤ crs a c) ∨ partTo f c < partTo f a := by
  rw [← Bool.not_eq_true, sooner_iff]
  omega
/-- A step to the right comes over the first direction, or to it. -/
theorem sooner_step {f a c : Int × Int} (hf : 0 < dt f f) (h : crs a c < 0) : sooner f a c = false ↔ (crs a f < 0 ∧ crs f c < 0) ∨ (crs f c = 0 ∧ 0 < dt f c) := by
  have k := crs_dt f a c
  have k2 := Int.mul_neg_of_neg_of_pos h hf
  have ca := part_cases f a
  have cc := part_cases f c
  have an := crs_anti f a
  rw [not_sooner]
  constructor
  · rintro (⟨e, h2⟩ | e)
    · omega
    · rcases cc with ⟨hc, pc⟩ | ⟨hc, pc⟩ | ⟨hc, hd, pc⟩ | ⟨hc, hd, pc⟩
      · rcases ca with ⟨ha, pa⟩ | ⟨ha, pa⟩ | ⟨ha, hd, pa⟩ | ⟨ha, hd, pa⟩
        · omega
        · left; omega
        · omega
        · have := Int.mul_nonneg_of_nonpos_of_nonpos (Int.le_of_lt hc) hd
          rw [ha, Int.zero_mul] at k
          omega
      · omega
      · right; exact ⟨hc, hd⟩
      · rcases ca with ⟨ha, pa⟩ | ⟨ha, pa⟩ | ⟨ha, hd2, pa⟩ | ⟨ha, hd2, pa⟩
        · omega
        · have := Int.mul_nonpos_of_nonneg_of_nonpos (Int.le_of_lt ha) hd
          rw [hc, Int.zero_mul] at k
          omega
        · omega
        · omega
  · rintro (⟨h1, h2⟩ | ⟨h1, h2⟩)
    · right; omega
    · right
      by_cases ha : crs f a = 0
      · have := crs_par hf ha h1
        omega
      · omega
theorem sooner_self {f p : Int × Int} (hf : 0 < dt f f) : sooner f p f = false := by
  rw [not_sooner]
  have c1 := part_cases f p
  have c2 := part_cases f f
  have := crs_self f
  have := crs_anti f p
  omega
/-- What lies from a line on, and before the next one, by the turn from the first one. -/
theorem btw_of {f l m p : Int × Int} (hf : 0 < dt f f) (hl : 0 < dt l l) (hm : 0 < dt m m) (hp0 : 0 < dt p p) (h : crs l m < 0) (h1 : sooner f p l = false) (h2 : sooner f p m = true) : btw l m p = true := by
  have i1 := crs4 f l p m
  have ilp := crs_dt f l p
  have ipm := crs_dt f p m
  have ilm := crs_dt f l m
  have dlp := dt_dt f l p
  have dmm := dt_dt f m m
  have inn := crs_in f l p
  have slm := Int.mul_neg_of_neg_of_pos h hf
  have smm := Int.mul_pos hm hf
  have an := crs_anti l p
  rw [not_sooner] at h1
  rw [sooner_iff] at h2
  have cl := part_cases f l
  have cp := part_cases f p
  have cm := part_cases f m
  -- what is to be shown, in two halves
  have fin : ∀ (q : crs l p < 0 ∨ (crs l p = 0 ∧ 0 < dt l p)) (r : crs l p = 0 ∨ crs p m < 0), btw l m p = true := by
    intro q r
    unfold btw
    by_cases e : crs l p = 0
    · rw [if_pos e, decide_eq_true_eq]; omega
    · rw [if_neg e, Bool.and_eq_true, decide_eq_true_eq, decide_eq_true_eq]; omega
  have half : ∀ (q : crs l p ≤ 0) (s : 0 < crs f l * crs f p), crs l p < 0 ∨ (crs l p = 0 ∧ 0 < dt l p) := by
    intro q s
    by_cases e : crs l p = 0
    · right
      refine ⟨e, ?_⟩
      rw [e, Int.zero_mul, Int.sub_zero] at inn
      rcases Int.lt_trichotomy (crs f l) 0 with g | g | g
      · have g2 : crs f p < 0 := by rw [Int.mul_comm] at s; exact neg_of_mul_pos s g
        have g3 := Int.mul_neg_of_neg_of_pos g2 hl
        rw [← inn, Int.mul_comm] at g3
        exact pos_of_mul_neg g3 g
      · rw [g, Int.zero_mul] at s; omega
      · have g2 : 0 < crs f p := by rw [Int.mul_comm] at s; exact pos_of_mul s g
        have g3 := Int.mul_pos g2 hl
        rw [← inn, Int.mul_comm] at g3
        exact pos_of_mul g3 g
    · left; omega
  rcases cp with ⟨hp, pp⟩ | ⟨hp, pp⟩ | ⟨hp, hpd, pp⟩ | ⟨hp, hpd, pp⟩
  · -- to the right of the first one
    have hmr : crs p m < 0 := by
      rcases cm with ⟨hm', pm⟩ | ⟨hm', pm⟩ | ⟨hm', hmd, pm⟩ | ⟨hm', hmd, pm⟩
      · omega
      · rcases cl with ⟨hl', pl⟩ | ⟨hl', pl⟩ | ⟨hl', hld, pl⟩ | ⟨hl', hld, pl⟩
        · have g1 := Int.mul_pos_of_neg_of_neg h hp
          have g2 : crs l p ≤ 0 := by omega
          have g3 := Int.mul_nonpos_of_nonpos_of_nonneg g2 (Int.le_of_lt hm')
          exact neg_of_mul_pos (y := crs f l) (by omega) hl'
        · omega
        · have g1 := Int.mul_pos hm' hld
          rw [hl', Int.zero_mul] at ilm
          omega
        · omega
      · omega
      · have g1 : dt f m < 0 := by
          rw [hm', Int.zero_mul] at dmm
          rcases Int.lt_or_le (dt f m) 0 with g | g
          · exact g
          · have : dt f m = 0 := by omega
            rw [this, Int.zero_mul] at dmm
            omega
        have g2 := Int.mul_pos_of_neg_of_neg hp g1
        rw [hm', Int.zero_mul] at ipm
        exact neg_of_mul_neg (y := dt f f) (by omega) hf
    rcases cl with ⟨hl', pl⟩ | ⟨hl', pl⟩ | ⟨hl', hld, pl⟩ | ⟨hl', hld, pl⟩
    · exact fin (half (by omega) (Int.mul_pos_of_neg_of_neg hl' hp)) (.inr hmr)
    · omega
    · have g1 := Int.mul_neg_of_neg_of_pos hp hld
      rw [hl', Int.zero_mul] at ilp
      exact fin (.inl (neg_of_mul_neg (y := dt f f) (by omega) hf)) (.inr hmr)
    · omega
  · -- to its left
    have hmr : crs p m < 0 := by omega
    rcases cl with ⟨hl', pl⟩ | ⟨hl', pl⟩ | ⟨hl', hld, pl⟩ | ⟨hl', hld, pl⟩
    · have hm' : 0 < crs f m := by omega
      have g1 := Int.mul_neg_of_neg_of_pos h hp
      have g2 := Int.mul_pos_of_neg_of_neg hmr hl'
      exact fin (.inl (neg_of_mul_neg (y := crs f m) (by omega) hm')) (.inr hmr)
    · exact fin (half (by omega) (Int.mul_pos hl' hp)) (.inr hmr)
    · have hm' : 0 < crs f m := by omega
      have g1 := Int.mul_pos hm' hld
      rw [hl', Int.zero_mul] at ilm
      omega
    · have g1 : dt f l < 0 := by
        have := dt_dt f l l
        have s2 := Int.mul_pos hl hf
        rw [hl', Int.zero_mul] at this
        rcases Int.lt_or_le (dt f l) 0 with g | g
        · exact g
        · have e : dt f l = 0 := by omega
          rw [e, Int.zero_mul] at this
          omega
      have g2 := Int.mul_neg_of_pos_of_neg hp g1
      rw [hl', Int.zero_mul] at ilp
      exact fin (.inl (neg_of_mul_neg (y := dt f f) (by omega) hf)) (.inr hmr)
  · -- on it
    rcases cl with ⟨hl', pl⟩ | ⟨hl', pl⟩ | ⟨hl', hld, pl⟩ | ⟨hl', hld, pl⟩
    · omega
    · omega
    · have g1 := Int.mul_pos hld hpd
      rw [hl', Int.zero_mul] at dlp
      have g2 := crs_par hf hl' hp
      exact fin (.inr ⟨g2, pos_of_mul (y := dt f f) (by omega) hf⟩) (.inl g2)
    · omega
  · -- behind it
    have hm3 : 0 < crs f m := by
      rcases cm with ⟨hm', pm⟩ | ⟨hm', pm⟩ | ⟨hm', hmd, pm⟩ | ⟨hm', hmd, pm⟩
      · omega
      · exact hm'
      · omega
      · have := crs_par hf hp hm'
        omega
    have neg : ∀ x : Int × Int, 0 < dt x x → crs f x = 0 → dt f x ≤ 0 → dt f x < 0 := by
      intro x hx e1 e2
      have := dt_dt f x x
      have s2 := Int.mul_pos hx hf
      rw [e1, Int.zero_mul] at this
      rcases Int.lt_or_le (dt f x) 0 with g | g
      · exact g
      · have e : dt f x = 0 := by omega
        rw [e, Int.zero_mul] at this
        omega
    have g0 := neg p hp0 hp hpd
    rcases cl with ⟨hl', pl⟩ | ⟨hl', pl⟩ | ⟨hl', hld, pl⟩ | ⟨hl', hld, pl⟩
    · have g1 := Int.mul_pos_of_neg_of_neg hl' g0
      rw [hp, Int.zero_mul] at ilp ipm
      have g2 := Int.mul_neg_of_pos_of_neg hm3 g0
      exact fin (.inl (neg_of_mul_neg (y := dt f f) (by omega) hf)) (.inr (neg_of_mul_neg (y := dt f f) (by omega) hf))
    · omega
    · have g1 := Int.mul_pos hm3 hld
      rw [hl', Int.zero_mul] at ilm
      omega
    · have g1 := neg l hl hl' hld
      have g2 := Int.mul_pos_of_neg_of_neg g1 g0
      rw [hl', Int.zero_mul] at dlp
      have g3 := crs_par hf hl' hp
      exact fin (.inr ⟨g3, pos_of_mul (y := dt f f) (by omega) hf⟩) (.inl g3)
/-- The same for the last line, behind which the first one comes. -/
theorem btw_last {f l p : Int × Int} (hf : 0 < dt f f) (hl : 0 < dt l l) (h : crs l f < 0) (h1 : sooner f p l = false) : btw l f p = true := by
  have an := crs_anti f l
  have an2 := crs_anti l p
  have an3 := crs_anti f p
  have inn := crs_in f l p
  rw [not_sooner] at h1
  have cl := part_cases f l
  have cp := part_cases f p
  have hp : 0 < crs f p := by omega
  have hq : crs l p ≤ 0 := by omega
  unfold btw
  by_cases e : crs l p = 0
  · rw [if_pos e, decide_eq_true_eq]
    rw [e, Int.zero_mul, Int.sub_zero] at inn
    have g3 := Int.mul_pos hp hl
    rw [← inn, Int.mul_comm] at g3
    exact pos_of_mul g3 (by omega)
  · rw [if_neg e, Bool.and_eq_true, decide_eq_true_eq, decide_eq_true_eq]; omega
/-- What lies between two lines is come to before the next one. -/
theorem soon_of_btw {f l m p : Int × Int} (hf : 0 < dt f f) (hl : 0 < dt l l) (h : crs l m < 0) (hlm : sooner f l m = true) (hb : btw l m p = true) : sooner f p m = true := by
  have hn : ¬ sooner f l m = false := by rw [hlm]; simp
  rw [sooner_step hf h] at hn
  unfold btw at hb
  by_cases e : crs l p = 0
  · rw [if_pos e, decide_eq_true_eq] at hb
    have i1 := crs_in f l p
    have i2 := dt_in f l p
    rw [e, Int.zero_mul, Int.sub_zero] at i1
    rw [e, Int.zero_mul, Int.add_zero] at i2
    have i3 := crs_in m l p
    rw [e, Int.zero_mul, Int.sub_zero, crs_anti l m, crs_anti p m] at i3
    have c1 := part_cases f l
    have c2 := part_cases f p
    have hpm : crs p m < 0 := by
      rw [Int.neg_mul, Int.neg_mul] at i3
      have := Int.mul_neg_of_neg_of_pos h hb
      exact neg_of_mul_neg (y := dt l l) (by omega) hl
    have hcp : (crs f l < 0 → crs f p < 0) ∧ (crs f l = 0 → crs f p = 0) ∧ (0 < crs f l → 0 < crs f p) := by
      refine ⟨fun g => ?_, fun g => ?_, fun g => ?_⟩
      · have := Int.mul_neg_of_neg_of_pos g hb
        exact neg_of_mul_neg (y := dt l l) (by omega) hl
      · rw [g, Int.zero_mul] at i1
        exact zero_of_mul i1.symm (by omega)
      · have := Int.mul_pos g hb
        exact pos_of_mul (y := dt l l) (by omega) hl
    have hdp : (0 < dt f l → 0 < dt f p) ∧ (dt f l ≤ 0 → dt f p ≤ 0) := by
      refine ⟨fun g => ?_, fun g => ?_⟩
      · have := Int.mul_pos g hb
        exact pos_of_mul (y := dt l l) (by omega) hl
      · have := Int.mul_nonpos_of_nonpos_of_nonneg g (Int.le_of_lt hb)
        rcases Int.lt_or_le 0 (dt f p) with g2 | g2
        · have := Int.mul_pos g2 hl; omega
        · exact g2
    have hpp : partTo f p = partTo f l := by omega
    rw [sooner_iff] at hlm ⊢
    rw [hpp]
    omega
  · rw [if_neg e, Bool.and_eq_true, decide_eq_true_eq, decide_eq_true_eq] at hb
    cases hs : sooner f p m with
    | true => rfl
    | false =>
      exfalso
      rw [sooner_step hf hb.2] at hs
      rcases hs with ⟨g1, g2⟩ | g
      · apply hn
        left
        refine ⟨?_, g2⟩
        have i := crs_plu l p m f
        have m1 := Int.mul_pos_of_neg_of_neg hb.1 g2
        have m2 := Int.mul_pos_of_neg_of_neg h g1
        exact neg_of_mul_pos (y := crs p m) (by omega) hb.2
      · exact hn (.inr g)
end Go.Proofs.YtgceffpkhmjmkaaGreat
