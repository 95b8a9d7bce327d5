/- Board, part Vb: plain mathematics: the reference's lines are the program's; the sector. -/
import Derived.Test.YtgceffpkhmjmkaaGreatVa
set_option linter.unusedVariables false
set_option linter.unusedSimpArgs false
namespace Go.Proofs.YtgceffpkhmjmkaaGreat

theorem mod_next {i n : Nat} (h : i + 1 < n) : (i + 1) % n = i + 1 := Nat.mod_eq_of_lt h
theorem mod_last {i n : Nat} (h : i + 1 = n) : (i + 1) % n = 0 := by rw [h, Nat.mod_self]
theorem once_core (g : Nat → Int × Int) (n : Nat) (h3 : 3 ≤ n) (hnz : ∀ i, i < n → 0 < dt (g i) (g i)) (hs : ∀ i, i < n → crs (g i) (g ((i + 1) % n)) < 0) :
    (∀ i, 1 ≤ i → i < n → btw (g i) (g ((i + 1) % n)) (g 0) = false) ↔ (∀ i, 2 ≤ i → i < n → sooner (g 0) (g (i - 1)) (g i) = true) := by
  have hf := hnz 0 (by omega)
  constructor
  · intro h i h2 hi
    cases hq : sooner (g 0) (g (i - 1)) (g i) with
    | true => rfl
    | false =>
      exfalso
      have s := hs (i - 1) (by omega)
      rw [mod_next (by omega), show i - 1 + 1 = i by omega] at s
      rw [sooner_step hf s] at hq
      rcases hq with ⟨q1, q2⟩ | ⟨q1, q2⟩
      · have := h (i - 1) (by omega) (by omega)
        rw [mod_next (by omega), show i - 1 + 1 = i by omega] at this
        unfold btw at this
        rw [if_neg (by omega), Bool.and_eq_false_iff, decide_eq_false_iff_not, decide_eq_false_iff_not] at this
        omega
      · have := h i (by omega) hi
        unfold btw at this
        rw [if_pos (by rw [crs_anti]; omega), decide_eq_false_iff_not, dt_comm] at this
        exact this q2
  · intro h i h1 hi
    cases hq : btw (g i) (g ((i + 1) % n)) (g 0) with
    | false => rfl
    | true =>
      exfalso
      unfold btw at hq
      by_cases e : crs (g i) (g 0) = 0
      · rw [if_pos e, decide_eq_true_eq] at hq
        have e2 : crs (g 0) (g i) = 0 := by rw [crs_anti]; omega
        by_cases i1 : i = 1
        · have s := hs 0 (by omega)
          rw [mod_next (by omega)] at s
          subst i1
          rw [Nat.zero_add] at s
          omega
        · have s := hs (i - 1) (by omega)
          rw [mod_next (by omega), show i - 1 + 1 = i by omega] at s
          have := h i (by omega) hi
          have f : sooner (g 0) (g (i - 1)) (g i) = false := (sooner_step hf s).2 (.inr ⟨e2, by rw [dt_comm]; exact hq⟩)
          rw [f] at this; cases this
      · rw [if_neg e, Bool.and_eq_true, decide_eq_true_eq, decide_eq_true_eq] at hq
        by_cases il : i + 1 < n
        · rw [mod_next il] at hq
          have s := hs i hi
          rw [mod_next il] at s
          have := h (i + 1) (by omega) il
          rw [show i + 1 - 1 = i by omega] at this
          have f : sooner (g 0) (g i) (g (i + 1)) = false := (sooner_step hf s).2 (.inl hq)
          rw [f] at this; cases this
        · rw [mod_last (by omega), crs_self] at hq
          omega

/-- A line of a list, and the next one. -/
def gl (ls : List (Int × Int)) (i : Nat) : Int × Int := ls[i]?.getD (0, 0)
theorem gl_get {ls : List (Int × Int)} {i : Nat} (h : i < ls.length) : ls[i]? = some (gl ls i) := by unfold gl; rw [List.getElem?_eq_getElem h]; rfl
theorem gl_mem {ls : List (Int × Int)} {i : Nat} (h : i < ls.length) : gl ls i ∈ ls := List.mem_of_getElem? (gl_get h)
def btwAt (ls : List (Int × Int)) (p : Int × Int) (i : Nat) : Bool := btw (gl ls i) (gl ls ((i + 1) % ls.length)) p
/-- How many of the first sectors a direction is in. -/
def inCnt (ls : List (Int × Int)) (p : Int × Int) (k : Nat) : Nat := ((List.range k).filter (btwAt ls p)).length
theorem inCnt_succ (ls : List (Int × Int)) (p : Int × Int) (k : Nat) : inCnt ls p (k + 1) = inCnt ls p k + (if btwAt ls p k then 1 else 0) := by
  unfold inCnt
  rw [List.range_succ, List.filter_append, List.length_append]
  congr 1
  cases h : btwAt ls p k with
  | true => rw [List.filter_cons_of_pos h]; rfl
  | false => rw [List.filter_cons_of_neg (by rw [h]; simp)]; rfl
theorem inCnt_le (ls : List (Int × Int)) (p : Int × Int) (k : Nat) : inCnt ls p k ≤ k := by
  unfold inCnt
  have := List.length_filter_le (btwAt ls p) (List.range k)
  rwa [List.length_range] at this
def nzv (p : Int × Int) : Bool := vpt p && !decide (p = (0, 0))
def stepAt (ls : List (Int × Int)) (i : Nat) : Bool := decide (crs (gl ls i) (gl ls ((i + 1) % ls.length)) < 0)
def linesR (ls : List (Int × Int)) : Bool := decide (3 ≤ ls.length) && ls.all nzv && (List.range ls.length).all (stepAt ls) && decide (inCnt ls (gl ls 0) ls.length = 1)

theorem dt_pos {l : Int × Int} (hne : l ≠ (0, 0)) : 0 < dt l l := by
  have sq : ∀ x : Int, 0 ≤ x * x ∧ (x ≠ 0 → 0 < x * x) := by
    intro x
    rcases Int.lt_trichotomy x 0 with q | q | q
    · have := Int.mul_pos_of_neg_of_neg q q; omega
    · subst q; simp
    · have := Int.mul_pos q q; omega
  have h1 := sq l.1
  have h2 := sq l.2
  unfold dt
  by_cases a : l.1 = 0
  · have b : l.2 ≠ 0 := fun b => hne (Prod.ext a b)
    have := h2.2 b
    omega
  · have := h1.2 a
    omega
theorem filter_one {p : Nat → Bool} {n : Nat} (hn : 1 ≤ n) (h0 : p 0 = true) : ((List.range n).filter p).length = 1 ↔ ∀ i, 1 ≤ i → i < n → p i = false := by
  obtain ⟨m, rfl⟩ : ∃ m, n = m + 1 := ⟨n - 1, by omega⟩
  rw [List.range_succ_eq_map, List.filter_cons, if_pos h0, List.length_cons]
  constructor
  · intro h i h1 hi
    have e : (List.filter p (List.map Nat.succ (List.range m))) = [] := List.eq_nil_of_length_eq_zero (by omega)
    rw [List.filter_eq_nil_iff] at e
    have := e i (List.mem_map.2 ⟨i - 1, List.mem_range.2 (by omega), by omega⟩)
    simpa using this
  · intro h
    have e : (List.filter p (List.map Nat.succ (List.range m))) = [] := by
      rw [List.filter_eq_nil_iff]
      intro a ha
      obtain ⟨q, hq, rfl⟩ := List.mem_map.1 ha
      have := h (q + 1) (by omega) (by have := List.mem_range.1 hq; omega)
      rw [show q.succ = q + 1 from rfl, this]; simp
    rw [e]; rfl
theorem btw_self {f m : Int × Int} (hf : 0 < dt f f) : btw f m f = true := by
  unfold btw
  rw [if_pos (crs_self f), decide_eq_true_eq]
  exact hf
/-- The two ways of saying that lines go round once are one. -/
theorem linesR_eq (b : Brd) : linesR b.lines = linesOk b := by
  generalize hls : b.lines = ls
  unfold linesOk linesR
  rw [hls]
  by_cases h3 : 3 ≤ ls.length
  · by_cases hz : ls.all nzv = true
    · have hz2 : (ls.any fun p => decide (p = (0, 0)) || !vpt p) = false := by
        rw [List.any_eq_false]
        intro p hp
        have := List.all_eq_true.1 hz p hp
        unfold nzv at this
        simp only [Bool.and_eq_true, Bool.not_eq_true'] at this
        rw [this.1, this.2]; simp
      have hnz : ∀ i, i < ls.length → 0 < dt (gl ls i) (gl ls i) := by
        intro i hi
        have := List.all_eq_true.1 hz _ (gl_mem hi)
        unfold nzv at this
        simp only [Bool.and_eq_true, Bool.not_eq_true', decide_eq_false_iff_not] at this
        exact dt_pos this.2
      have hfl : ∀ i, i < ls.length → lineOk ls i = (stepAt ls i && (decide (i = 0) || sooner (gl ls 0) (gl ls (i - 1)) (gl ls i))) := by
        intro i hi
        unfold lineOk stepAt
        rw [gl_get (show 0 < ls.length by omega), gl_get hi, gl_get (Nat.mod_lt _ (by omega)), gl_get (show i - 1 < ls.length by omega)]
        simp only []
        congr 1
        rw [Bool.eq_iff_iff, decide_eq_true_eq, decide_eq_true_eq]
        exact part_one
      rw [hz, hz2, decide_eq_true h3]
      simp only [Bool.true_and, Bool.not_false]
      by_cases hs : (List.range ls.length).all (stepAt ls) = true
      · rw [hs, Bool.true_and]
        have hs2 : ∀ i, i < ls.length → crs (gl ls i) (gl ls ((i + 1) % ls.length)) < 0 := by
          intro i hi
          have := List.all_eq_true.1 hs i (List.mem_range.2 hi)
          unfold stepAt at this
          simpa using this
        have core := once_core (gl ls) ls.length h3 hnz hs2
        have hf := hnz 0 (by omega)
        have c1 : inCnt ls (gl ls 0) ls.length = 1 ↔ ∀ i, 1 ≤ i → i < ls.length → btwAt ls (gl ls 0) i = false := filter_one (by omega) (btw_self hf)
        rw [Bool.eq_iff_iff, decide_eq_true_eq, c1, List.all_eq_true]
        unfold btwAt
        rw [core]
        constructor
        · intro h i hi
          have hi := List.mem_range.1 hi
          rw [hfl i hi, List.all_eq_true.1 hs i (List.mem_range.2 hi), Bool.true_and, Bool.or_eq_true, decide_eq_true_eq]
          by_cases i0 : i = 0
          · exact .inl i0
          · right
            by_cases i1 : i = 1
            · subst i1
              have s := hs2 0 (by omega)
              rw [mod_next (by omega)] at s
              rw [sooner_iff]
              right
              have p1 : partTo (gl ls 0) (gl ls 1) = 1 := part_one.2 s
              have p0 := part_cases (gl ls 0) (gl ls 0)
              rw [crs_self] at p0
              show partTo (gl ls 0) (gl ls 0) < _
              omega
            · exact h i (by omega) hi
        · intro h i h2 hi
          have := h i (List.mem_range.2 hi)
          rw [hfl i hi, Bool.and_eq_true, Bool.or_eq_true, decide_eq_true_eq] at this
          rcases this.2 with e | e
          · omega
          · exact e
      · have : (List.range ls.length).all (lineOk ls) = false := by
          rw [← Bool.not_eq_true]
          intro h
          apply hs
          rw [List.all_eq_true] at h ⊢
          intro i hi
          have := h i hi
          rw [hfl i (List.mem_range.1 hi), Bool.and_eq_true] at this
          exact this.1
        rw [this, Bool.eq_false_iff.2 hs]; rfl
    · have hz2 : (ls.any fun p => decide (p = (0, 0)) || !vpt p) = true := by
        rw [List.all_eq_true] at hz
        simp only [Classical.not_forall] at hz
        obtain ⟨p, hp, h⟩ := hz
        rw [List.any_eq_true]
        refine ⟨p, hp, ?_⟩
        unfold nzv at h
        simp only [Bool.and_eq_true, Bool.not_eq_true', not_and, Bool.not_eq_false] at h
        cases hv : vpt p with
        | false => simp
        | true => rw [h hv]; rfl
      rw [hz2, Bool.eq_false_iff.2 hz]; simp
  · rw [decide_eq_false h3]; simp

/-- The sector in which a direction is: the first one, and the only one. -/
theorem sector_btw {b : Brd} (hc : chk b = 0) {p : Int × Int} (hp : 0 < dt p p) : sector b p < b.lines.length ∧ btwAt b.lines p (sector b p) = true ∧ ∀ i, i < sector b p → btwAt b.lines p i = false := by
  obtain ⟨f, hf, hff, hso⟩ := lines_sorted hc
  have hR : linesR b.lines = true := by
    rw [linesR_eq]
    unfold chk at hc
    split at hc
    · omega
    · split at hc
      · rename_i h
        unfold valid at h
        simp only [Bool.and_eq_true] at h
        exact h.2
      · omega
  unfold linesR at hR
  simp only [Bool.and_eq_true, decide_eq_true_eq, List.all_eq_true, List.mem_range] at hR
  obtain ⟨⟨⟨h3, hz⟩, hs⟩, _⟩ := hR
  have hnz : ∀ i, i < b.lines.length → 0 < dt (gl b.lines i) (gl b.lines i) := by
    intro i hi
    have := hz _ (gl_mem hi)
    unfold nzv at this
    simp only [Bool.and_eq_true, Bool.not_eq_true', decide_eq_false_iff_not] at this
    exact dt_pos this.2
  have hs2 : ∀ i, i < b.lines.length → crs (gl b.lines i) (gl b.lines ((i + 1) % b.lines.length)) < 0 := by
    intro i hi
    have := hs i hi
    unfold stepAt at this
    simpa using this
  have h0 : gl b.lines 0 = f := by unfold gl; rw [hf]; rfl
  have hso2 : ∀ i, i + 1 < b.lines.length → sooner f (gl b.lines i) (gl b.lines (i + 1)) = true := by
    intro i hi
    obtain ⟨a, c, e1, e2, e3⟩ := hso (i + 1) (by omega) hi
    rw [gl_get (by omega)] at e1
    rw [gl_get hi] at e2
    simp only [Option.some.injEq] at e1 e2
    rw [show i + 1 - 1 = i by omega] at e1
    rw [e1, e2]; exact e3
  obtain ⟨l, e1, e2, e3, e4⟩ := sec_spec b.lines p f hf (sooner_self hff) b.lines.length (by omega) (Nat.le_refl _)
  have es : sector b p = sec b.lines p b.lines.length := rfl
  rw [← es] at e1 e2 e4
  generalize sector b p = s at *
  rw [gl_get e2] at e1
  simp only [Option.some.injEq] at e1
  subst e1
  refine ⟨e2, ?_, ?_⟩
  · unfold btwAt
    by_cases hl : s + 1 < b.lines.length
    · have := hs2 s e2
      rw [mod_next hl] at this ⊢
      exact btw_of hff (hnz s e2) (hnz _ hl) hp this e3 (e4 (s + 1) _ (by omega) hl (gl_get hl))
    · have := hs2 s e2
      rw [mod_last (by omega), h0] at this ⊢
      exact btw_last hff (hnz s e2) this e3
  · intro i hi
    cases hq : btwAt b.lines p i with
    | false => rfl
    | true =>
      exfalso
      unfold btwAt at hq
      have hi1 : i + 1 < b.lines.length := by omega
      have s1 := hs2 i (by omega)
      rw [mod_next hi1] at hq s1
      have k1 := soon_of_btw hff (hnz i (by omega)) s1 (hso2 i hi1) hq
      -- what comes before a line comes before all that are behind it
      have k2 : ∀ j, i + 1 ≤ j → j < b.lines.length → sooner f p (gl b.lines j) = true := by
        intro j hj
        induction j with
        | zero => omega
        | succ j ih =>
          intro hjn
          by_cases e : i = j
          · subst e; exact k1
          · exact sooner_trans hff (ih (by omega) (by omega)) (hso2 j hjn)
      have := k2 s (by omega) e2
      rw [e3] at this; cases this
end Go.Proofs.YtgceffpkhmjmkaaGreat
