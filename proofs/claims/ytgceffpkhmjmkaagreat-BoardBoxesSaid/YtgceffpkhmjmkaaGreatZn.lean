/- Board, part Zn: a board in a mirror. -/
import Derived.Test.YtgceffpkhmjmkaaGreatN
import Derived.Test.YtgceffpkhmjmkaaGreatI
set_option linter.unusedVariables false
set_option linter.unusedSimpArgs false
namespace Go.Proofs.YtgceffpkhmjmkaaGreat

/-- The point k times as far out. -/
def sc (k : Int) (d : Int × Int) : Int × Int := (d.1 * k, d.2 * k)
theorem crs_sc_r (k : Int) (a d : Int × Int) : crs a (sc k d) = crs a d * k := by
  unfold crs sc
  simp only []
  rw [Int.sub_mul, Int.mul_assoc, Int.mul_assoc]
theorem crs_sc_l (k : Int) (a d : Int × Int) : crs (sc k d) a = crs d a * k := by
  unfold crs sc
  simp only []
  rw [Int.sub_mul, Int.mul_right_comm, Int.mul_right_comm d.2]
theorem dt_sc_r (k : Int) (a d : Int × Int) : dt a (sc k d) = dt a d * k := by
  unfold dt sc
  simp only []
  rw [Int.add_mul, Int.mul_assoc, Int.mul_assoc]
theorem dt_sc_l (k : Int) (a d : Int × Int) : dt (sc k d) a = dt d a * k := by
  unfold dt sc
  simp only []
  rw [Int.add_mul, Int.mul_right_comm, Int.mul_right_comm d.2]
theorem mul_neg_iff {x k : Int} (hk : 0 < k) : x * k < 0 ↔ x < 0 := by
  constructor
  · intro h
    rcases Int.lt_or_le x 0 with h1 | h1
    · exact h1
    · have := Int.mul_nonneg h1 (Int.le_of_lt hk); omega
  · intro h; exact Int.mul_neg_of_neg_of_pos h hk
theorem mul_pos_iff' {x k : Int} (hk : 0 < k) : 0 < x * k ↔ 0 < x := by
  constructor
  · intro h
    rcases Int.lt_or_le 0 x with h1 | h1
    · exact h1
    · have := Int.mul_nonpos_of_nonpos_of_nonneg h1 (Int.le_of_lt hk); omega
  · intro h; exact Int.mul_pos h hk
theorem part_sc_r {k : Int} (hk : 0 < k) (a d : Int × Int) : partTo a (sc k d) = partTo a d := by
  unfold partTo
  simp only [crs_sc_r, dt_sc_r, mul_neg_iff hk, mul_pos_iff' hk]
theorem part_sc_l {k : Int} (hk : 0 < k) (a d : Int × Int) : partTo (sc k d) a = partTo d a := by
  unfold partTo
  simp only [crs_sc_l, dt_sc_l, mul_neg_iff hk, mul_pos_iff' hk]
theorem sooner_sc {k : Int} (hk : 0 < k) (f d l : Int × Int) : sooner f (sc k d) l = sooner f d l := by
  unfold sooner
  rw [part_sc_r hk, part_sc_l hk]
theorem sector_sc {k : Int} (hk : 0 < k) (b : Brd) (d : Int × Int) : sector b (sc k d) = sector b d := by
  unfold sector
  have key : ∀ n, sec b.lines (sc k d) n = sec b.lines d n := by
    intro n
    induction n with
    | zero => rfl
    | succ n ih =>
      unfold sec
      simp only [sooner_sc hk, ih]
  exact key _

/-- In a sector the bed's last two digits are its number. -/
theorem landed_mod {b : Brd} (g : Good b) (p : Int × Int) (h0 : landed b p ≠ 0) (h25 : landed b p % 100 ≠ 25) : landed b p % 100 = (b.nums[sector b p]?.getD 0) % 100 := by
  unfold landed at *
  split at h0
  · rename_i h; rw [if_pos h] at h25; omega
  · rename_i h
    rw [if_neg h] at h25 ⊢
    split at h0
    · rename_i h2; rw [if_pos h2] at h25; omega
    · rename_i h2
      rw [if_neg h2] at h25 ⊢
      split
      · rename_i i hi
        rw [hi] at h0
        simp only [] at h0
        unfold bedOf at *
        split
        · rename_i hz; rw [if_pos hz] at h0; exact absurd rfl h0
        · omega
      · rename_i hi
        rw [hi] at h0
        exact absurd rfl h0
theorem far_same {b : Brd} (g : Good b) {k : Int} (hk : 0 < k) (p : Int × Int) (h1 : bedW b p ≠ 0) (h2 : bedW b (sc k p) ≠ 0) (h3 : bedW b p % 100 ≠ 25) (h4 : bedW b (sc k p) % 100 ≠ 25) : bedW b (sc k p) % 100 = bedW b p % 100 := by
  have e : ∀ q, bedW b q ≠ 0 → bedW b q = landed b q := by
    intro q hq
    unfold bedW at hq ⊢
    split
    · rename_i h; rw [if_pos h] at hq; exact absurd rfl hq
    · rfl
  have e1 := e _ h1
  have e2 := e _ h2
  rw [e1] at h1 h3 ⊢
  rw [e2] at h2 h4 ⊢
  rw [landed_mod g _ h1 h3, landed_mod g _ h2 h4, sector_sc hk]

def mir (p : Int × Int) : Int × Int := (-p.1, p.2)
theorem crs_mir (a b : Int × Int) : crs (mir a) (mir b) = -crs a b := by
  unfold crs mir
  simp only [Int.neg_mul, Int.mul_neg]
  omega
theorem dt_mir (a b : Int × Int) : dt (mir a) (mir b) = dt a b := by
  unfold dt mir
  simp only [Int.neg_mul, Int.mul_neg, Int.neg_neg]
theorem crs_self (a : Int × Int) : crs a a = 0 := by
  unfold crs; rw [Int.mul_comm]; omega
theorem part_self (a : Int × Int) : partTo a a = 0 ∨ partTo a a = 2 := by
  unfold partTo
  rw [crs_self]
  simp only [Int.lt_irrefl, if_false]
  split <;> simp
theorem part_cases (a b : Int × Int) : (crs a b < 0 ∧ partTo a b = 1) ∨ (0 < crs a b ∧ partTo a b = 3) ∨ (crs a b = 0 ∧ 0 < dt a b ∧ partTo a b = 0) ∨ (crs a b = 0 ∧ dt a b ≤ 0 ∧ partTo a b = 2) := by
  unfold partTo
  split
  · left; omega
  · split
    · right; left; omega
    · split
      · right; right; left; omega
      · right; right; right; omega
theorem sooner_mir {f d l : Int × Int} (h : crs d l ≠ 0) (hd : crs f d ≠ 0) (hl : partTo f l ≠ 0) : sooner (mir f) (mir d) (mir l) = !sooner f d l := by
  have c1 := part_cases f d
  have c2 := part_cases f l
  have c3 := part_cases d l
  have m1 := part_cases (mir f) (mir d)
  have m2 := part_cases (mir f) (mir l)
  have m3 := part_cases (mir d) (mir l)
  rw [crs_mir, dt_mir] at m1 m2 m3
  rw [Bool.eq_iff_iff]
  unfold sooner
  simp only [Bool.not_eq_true']
  generalize partTo f d = x1 at *
  generalize partTo f l = x2 at *
  generalize partTo d l = x3 at *
  generalize partTo (mir f) (mir d) = y1 at *
  generalize partTo (mir f) (mir l) = y2 at *
  generalize partTo (mir d) (mir l) = y3 at *
  split <;> split <;> simp only [decide_eq_true_eq, decide_eq_false_iff_not] <;> omega
/-- The identity of four directions. -/
theorem crs4 (f a b c : Int × Int) : crs a c * crs f b = crs a b * crs f c + crs b c * crs f a := by
  unfold crs
  grind
theorem part_one {a b : Int × Int} : partTo a b = 1 ↔ crs a b < 0 := by
  have := part_cases a b
  omega
theorem part_three {a b : Int × Int} : partTo a b = 3 ↔ 0 < crs a b := by
  have := part_cases a b
  omega
theorem neg_of_mul_pos {x y : Int} (h : 0 < x * y) (hy : y < 0) : x < 0 := by
  rcases Int.lt_or_le x 0 with h1 | h1
  · exact h1
  · have := Int.mul_nonpos_of_nonneg_of_nonpos h1 (Int.le_of_lt hy); omega
theorem neg_of_mul_neg {x y : Int} (h : x * y < 0) (hy : 0 < y) : x < 0 := by
  rcases Int.lt_or_le x 0 with h1 | h1
  · exact h1
  · have := Int.mul_nonneg h1 (Int.le_of_lt hy); omega
/-- What comes before something comes before what comes behind that. -/
theorem crs_dt (f a b : Int × Int) : crs a b * dt f f = crs f b * dt f a - crs f a * dt f b := by
  unfold crs dt
  grind
theorem crs_par {f a b : Int × Int} (hf : 0 < dt f f) (ha : crs f a = 0) (hb : crs f b = 0) : crs a b = 0 := by
  have h := crs_dt f a b
  rw [ha, hb] at h
  simp only [Int.zero_mul, Int.sub_self] at h
  rcases Int.mul_eq_zero.1 h with h | h
  · exact h
  · omega
theorem sooner_trans {f a b c : Int × Int} (hf : 0 < dt f f) (h1 : sooner f a b = true) (h2 : sooner f b c = true) : sooner f a c = true := by
  unfold sooner at *
  by_cases e1 : partTo f a = partTo f b
  · rw [if_pos e1] at h1
    by_cases e2 : partTo f b = partTo f c
    · rw [if_pos e2] at h2
      rw [if_pos (e1.trans e2)]
      simp only [decide_eq_true_eq, part_one] at h1 h2 ⊢
      have h4 := crs4 f a b c
      have ca := part_cases f a
      have cb := part_cases f b
      have cc := part_cases f c
      rcases cb with ⟨hb, pb⟩ | ⟨hb, pb⟩ | ⟨hb, hd, pb⟩ | ⟨hb, hd, pb⟩
      · have hc : crs f c < 0 := by omega
        have ha : crs f a < 0 := by omega
        have m1 := Int.mul_pos_of_neg_of_neg h1 hc
        have m2 := Int.mul_pos_of_neg_of_neg h2 ha
        exact neg_of_mul_pos (y := crs f b) (by omega) hb
      · have hc : 0 < crs f c := by omega
        have ha : 0 < crs f a := by omega
        have m1 := Int.mul_neg_of_neg_of_pos h1 hc
        have m2 := Int.mul_neg_of_neg_of_pos h2 ha
        exact neg_of_mul_neg (y := crs f b) (by omega) hb
      · have ha : crs f a = 0 := by omega
        have := crs_par hf ha hb
        omega
      · have ha : crs f a = 0 := by omega
        have := crs_par hf ha hb
        omega
    · rw [if_neg e2] at h2
      rw [if_neg (by omega)]
      simp only [decide_eq_true_eq] at h2 ⊢
      omega
  · rw [if_neg e1] at h1
    simp only [decide_eq_true_eq] at h1
    by_cases e2 : partTo f b = partTo f c
    · rw [if_neg (by omega)]
      simp only [decide_eq_true_eq]
      omega
    · rw [if_neg e2] at h2
      simp only [decide_eq_true_eq] at h2
      rw [if_neg (by omega)]
      simp only [decide_eq_true_eq]
      omega

/-- The sector is the last line that a turn from the first one doesn't come to behind the point. -/
theorem sec_spec (ls : List (Int × Int)) (d f : Int × Int) (hf : ls[0]? = some f) (h0 : sooner f d f = false) : ∀ n, 1 ≤ n → n ≤ ls.length → ∃ l, ls[sec ls d n]? = some l ∧ sec ls d n < n ∧ sooner f d l = false ∧ ∀ k m, sec ls d n < k → k < n → ls[k]? = some m → sooner f d m = true := by
  intro n
  induction n with
  | zero => omega
  | succ n ih =>
    intro _ hn
    have hln : ls[n]? = some ls[n] := List.getElem?_eq_getElem (by omega)
    have e : sec ls d (n + 1) = if sooner f d ls[n] then sec ls d n else n := by
      show (match ls[0]?, ls[n]? with | some f, some l => if sooner f d l then sec ls d n else n | _, _ => sec ls d n) = _
      rw [hf, hln]
    rw [e]
    cases hs : sooner f d ls[n] with
    | false => exact ⟨_, hln, by simp, hs, fun k m h1 h2 => by simp at h1; omega⟩
    | true =>
      simp only [if_true]
      by_cases hz : n = 0
      · subst hz
        have : ls[0] = f := by rw [List.getElem?_eq_getElem (by omega)] at hf; simpa using hf
        rw [this, h0] at hs; cases hs
      · obtain ⟨l, i1, i2, i3, i4⟩ := ih (by omega) (by omega)
        refine ⟨l, i1, by omega, i3, fun k m h1 h2 hm => ?_⟩
        by_cases hk : k = n
        · subst hk
          rw [hln] at hm
          simp at hm
          rw [← hm]; exact hs
        · exact i4 k m h1 (by omega) hm
theorem sec_uniq {ls : List (Int × Int)} {d f : Int × Int} {n s : Nat} {l : Int × Int} (hf : ls[0]? = some f) (h0 : sooner f d f = false) (hn1 : 1 ≤ n) (hn : n ≤ ls.length) (hs : s < n) (hl : ls[s]? = some l) (h1 : sooner f d l = false) (h2 : ∀ k m, s < k → k < n → ls[k]? = some m → sooner f d m = true) : sec ls d n = s := by
  obtain ⟨l', e1, e2, e3, e4⟩ := sec_spec ls d f hf h0 n hn1 hn
  rcases Nat.lt_trichotomy (sec ls d n) s with h | h | h
  · have := e4 s l h hs hl
    rw [h1] at this; cases this
  · exact h
  · have := h2 _ l' h e2 e1
    rw [e3] at this; cases this
end Go.Proofs.YtgceffpkhmjmkaaGreat
