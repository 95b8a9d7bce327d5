/- Board, part Vf: plain mathematics: the reference's error of a board is the program's. -/
import Derived.Test.YtgceffpkhmjmkaaGreatVb
import Derived.Test.YtgceffpkhmjmkaaGreatZq
set_option linter.unusedVariables false
set_option linter.unusedSimpArgs false
namespace Go.Proofs.YtgceffpkhmjmkaaGreat

/-- An element of a list. -/
def gi (xs : List Int) (i : Nat) : Int := xs[i]?.getD 0
theorem gi_get {xs : List Int} {i : Nat} (h : i < xs.length) : xs[i]? = some (gi xs i) := by unfold gi; rw [List.getElem?_eq_getElem h]; rfl
theorem gi_mem {xs : List Int} {i : Nat} (h : i < xs.length) : gi xs i ∈ xs := List.mem_of_getElem? (gi_get h)
theorem gi_cons (x : Int) (xs : List Int) (i : Nat) : gi (x :: xs) (i + 1) = gi xs i := by unfold gi; rw [List.getElem?_cons_succ]
theorem gi_zero (x : Int) (xs : List Int) : gi (x :: xs) 0 = x := rfl
theorem radOk_at (wi : Int) : ∀ (xs : List Int) (a : Int), radOk wi a xs = true ↔ (∀ x, xs[0]? = some x → a < x) ∧ ∀ j, j < xs.length → gi xs j ≤ 5000 ∧ (j = 0 ∨ 2 * wi < gi xs j - gi xs (j - 1)) := by
  intro xs
  induction xs with
  | nil => intro a; simp [radOk]
  | cons x xs ih =>
    intro a
    simp only [radOk, Bool.and_eq_true, decide_eq_true_eq, ih]
    constructor
    · rintro ⟨⟨h1, h2⟩, h3, h4⟩
      refine ⟨fun y hy => by simp at hy; omega, fun j hj => ?_⟩
      match j, hj with
      | 0, _ => exact ⟨h2, .inl rfl⟩
      | j + 1, hj =>
        rw [gi_cons]
        have hj2 : j < xs.length := by simpa using hj
        obtain ⟨q1, q2⟩ := h4 j hj2
        refine ⟨q1, .inr ?_⟩
        match j, hj2, q2 with
        | 0, hj2, _ =>
          have := h3 (gi xs 0) (gi_get hj2)
          show 2 * wi < gi xs 0 - gi (x :: xs) 0
          rw [gi_zero]; omega
        | j + 1, _, q2 =>
          show 2 * wi < gi xs (j + 1) - gi (x :: xs) (j + 1)
          rw [gi_cons]
          rcases q2 with q2 | q2
          · omega
          · exact q2
    · rintro ⟨h1, h2⟩
      have h0 := h2 0 (by simp)
      rw [gi_zero] at h0
      refine ⟨⟨h1 x rfl, h0.1⟩, fun y hy => ?_, fun j hj => ?_⟩
      · have hl : 0 < xs.length := (List.getElem?_eq_some_iff.1 hy).1
        have := (h2 1 (by simpa using hl)).2
        rw [gi_cons] at this
        have e : gi xs 0 = y := by unfold gi; rw [hy]; rfl
        rcases this with this | this
        · omega
        · simp only [Nat.sub_self] at this
          rw [gi_zero, e] at this
          omega
      · have := h2 (j + 1) (by simpa using hj)
        rw [gi_cons] at this
        refine ⟨this.1, ?_⟩
        match j, this with
        | 0, _ => exact .inl rfl
        | j + 1, this =>
          right
          rcases this.2 with q | q
          · omega
          · rw [show j + 1 + 1 - 1 = j + 1 from rfl, gi_cons] at q
            exact q
def radAt (b : Brd) (j : Nat) : Bool := decide (gi (radii b) j ≤ 5000) && (decide (j = 0) || decide (2 * b.wire < gi (radii b) j - gi (radii b) (j - 1)))
def numAt (xs : List Int) (j : Nat) : Bool := inb 1 20 (gi xs j) && !(xs.take j).contains (gi xs j)
theorem nodup_at (xs : List Int) : xs.Nodup ↔ ∀ j, j < xs.length → gi xs j ∉ xs.take j := by
  unfold List.Nodup
  rw [List.pairwise_iff_getElem]
  constructor
  · intro h j hj hm
    obtain ⟨i, hi, e⟩ := List.getElem_of_mem hm
    rw [List.length_take] at hi
    rw [List.getElem_take] at e
    have hg : gi xs j = xs[j] := by unfold gi; rw [List.getElem?_eq_getElem hj]; rfl
    exact h i j (by omega) hj (by omega) (by rw [e, hg])
  · intro h i j hi hj hij e
    have hg : gi xs j = xs[j] := by unfold gi; rw [List.getElem?_eq_getElem hj]; rfl
    apply h j hj
    rw [hg, ← e]
    exact List.mem_of_getElem? (i := i) (by rw [List.getElem?_take, if_pos hij]; exact List.getElem?_eq_getElem hi)
def headOk (b : Brd) : Bool := decide (b.rings.length ≠ 0) && decide (0 ≤ b.wire) && decide (b.wire ≤ 20) && decide (b.nums.length = b.lines.length) && linesR b.lines && decide (b.wire < b.eye)
def facAt (r : Int × Int) : Bool := inb 0 4 r.2
theorem chk_ref (b : Brd) (hl : long b = false) : chk b = if (headOk b && (List.range (radii b).length).all (radAt b) && b.rings.all facAt && (List.range b.nums.length).all (numAt b.nums)) = true then 0 else 2 := by
  unfold chk
  rw [hl]
  have : valid b = (headOk b && (List.range (radii b).length).all (radAt b) && b.rings.all facAt && (List.range b.nums.length).all (numAt b.nums)) := by
    have r1 := radOk_at b.wire (radii b) b.wire
    have r2 : (∀ x, (radii b)[0]? = some x → b.wire < x) ↔ b.wire < b.eye := by
      unfold radii
      constructor
      · intro h; exact h _ rfl
      · intro h x hx; simp at hx; omega
    rw [r2] at r1
    have r3 : (∀ j, j < (radii b).length → gi (radii b) j ≤ 5000 ∧ (j = 0 ∨ 2 * b.wire < gi (radii b) j - gi (radii b) (j - 1))) ↔ (List.range (radii b).length).all (radAt b) = true := by
      rw [List.all_eq_true]
      unfold radAt
      simp only [List.mem_range, Bool.and_eq_true, Bool.or_eq_true, decide_eq_true_eq]
    rw [r3] at r1
    have n1 : (b.nums.all (inb 1 20) = true ∧ dist b.nums = true) ↔ (List.range b.nums.length).all (numAt b.nums) = true := by
      unfold dist
      rw [decide_eq_true_eq, nodup_at, List.all_eq_true, List.all_eq_true]
      unfold numAt
      simp only [List.mem_range, Bool.and_eq_true, Bool.not_eq_true', List.contains_eq_mem, decide_eq_false_iff_not]
      constructor
      · rintro ⟨h1, h2⟩ j hj
        exact ⟨h1 _ (gi_mem hj), h2 j hj⟩
      · intro h
        refine ⟨fun x hx => ?_, fun j hj => (h j hj).2⟩
        obtain ⟨i, hi, rfl⟩ := List.getElem_of_mem hx
        have := (h i hi).1
        unfold gi at this
        rw [List.getElem?_eq_getElem hi] at this
        exact this
    rw [Bool.eq_iff_iff]
    unfold valid ringsOk numsOk headOk
    rw [linesR_eq]
    have e1 : (b.rings.isEmpty = false) ↔ b.rings.length ≠ 0 := by
      rw [List.isEmpty_eq_false_iff]
      constructor
      · intro h e; exact h (List.eq_nil_of_length_eq_zero e)
      · intro h e; rw [e] at h; exact h rfl
    have e2 : (b.rings.all fun r => inb 0 4 r.2) = b.rings.all facAt := rfl
    have e3 : (inb 0 20 b.wire = true) ↔ 0 ≤ b.wire ∧ b.wire ≤ 20 := by unfold inb; simp
    simp only [Bool.and_eq_true, Bool.not_eq_true', decide_eq_true_eq, e1, e2, e3, r1, ← n1]
    constructor
    · rintro ⟨⟨⟨⟨a1, a2⟩, ⟨a3, a4⟩, a5, a6⟩, ⟨a7, a8⟩, a9⟩, a10⟩
      exact ⟨⟨⟨⟨⟨⟨⟨⟨a3, a1⟩, a2⟩, a7⟩, a10⟩, a5⟩, a6⟩, a4⟩, a8, a9⟩
    · rintro ⟨⟨⟨⟨⟨⟨⟨⟨a3, a1⟩, a2⟩, a7⟩, a10⟩, a5⟩, a6⟩, a4⟩, a8, a9⟩
      exact ⟨⟨⟨⟨a1, a2⟩, ⟨a3, a4⟩, a5, a6⟩, ⟨a7, a8⟩, a9⟩, a10⟩
  rw [this]
  rfl
/-- A board that isn't great. -/
structure Small (b : Brd) : Prop where
  rl : b.rings.length ≤ 10
  ll : b.lines.length ≤ 25
  nl : b.nums.length ≤ 25
  eye : -1000000 ≤ b.eye ∧ b.eye ≤ 1000000
  bull : -1000000 ≤ b.bull ∧ b.bull ≤ 1000000
  wire : -1000000 ≤ b.wire ∧ b.wire ≤ 1000000
  rings : ∀ r ∈ b.rings, -1000000 ≤ r.1 ∧ r.1 ≤ 1000000
  lines : ∀ l ∈ b.lines, Near l
theorem Small.rad {b : Brd} (s : Small b) : ∀ r ∈ radii b, -1000000 ≤ r ∧ r ≤ 1000000 := by
  intro r hr
  unfold radii at hr
  simp only [List.mem_cons, List.mem_map] at hr
  rcases hr with rfl | rfl | ⟨x, hx, rfl⟩
  · exact s.eye
  · exact s.bull
  · exact s.rings x hx
theorem radii_len (b : Brd) : (radii b).length = 2 + b.rings.length := by unfold radii; rw [List.length_cons, List.length_cons, List.length_map]; omega
end Go.Proofs.YtgceffpkhmjmkaaGreat
