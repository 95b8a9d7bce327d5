/- Board, part Yh: two blocks that one region makes; the halves of a box. -/
import Derived.Test.YtifabfbnjnjhlaaUr
import Derived.Test.YtifabfbnjnjhlaaRj
import Derived.Test.YtifabfbnjnjhlaaUf
set_option linter.unusedVariables false
set_option linter.unusedSimpArgs false
namespace Go.Proofs.Ytifabfbnjnjhlaa
open Go.RowKit Go.Shelf

/-- Two slots that hold new blocks hold two. -/
def Fr2 (B : World) (p q u v : Nat) (listed : Array Bool) (a : Act) (w : World) : Prop :=
  Below B.heap.size B w ∧ (listed.getD p false = true → ∃ g, a.tmps.getD u undef = .pointer (some ⟨g, 0, none⟩) ∧ g < w.heap.size) ∧ (listed.getD q false = true → ∃ g, a.tmps.getD v undef = .pointer (some ⟨g, 0, none⟩) ∧ g < w.heap.size) ∧
    (listed.getD p false = true → listed.getD q false = true → a.tmps.getD u undef ≠ a.tmps.getD v undef)
theorem Fr2.start (B : World) (p q u v n : Nat) (a : Act) : Fr2 B p q u v (Array.replicate n false) a B.drew := by
  have h : ∀ i, (Array.replicate n false).getD i false = false := by
    intro i
    simp only [Array.getD_eq_getD_getElem?, Array.getElem?_replicate]
    split <;> rfl
  refine ⟨(Below.refl _ _).drew, fun e => ?_, fun e => ?_, fun e => ?_⟩ <;> (rw [h] at e; cases e)
theorem Fr2.other {B w w' : World} {p q u v i t : Nat} {listed : Array Bool} {a : Act} {x : Value} (h : Fr2 B p q u v listed a w) (hi : i ≠ p ∧ i ≠ q) (ht : t ≠ u ∧ t ≠ v) (hB : Below w.heap.size w w') : Fr2 B p q u v (listed.setIfInBounds i true) (a.put (some t) x) w' := by
  obtain ⟨h1, h2, h3, h4⟩ := h
  have e1 : (a.put (some t) x).tmps.getD u undef = a.tmps.getD u undef := getDV_set_ne _ _ _ _ _ (Ne.symm ht.1)
  have e2 : (a.put (some t) x).tmps.getD v undef = a.tmps.getD v undef := getDV_set_ne _ _ _ _ _ (Ne.symm ht.2)
  unfold Fr2
  rw [e1, e2, getD_set_ne _ _ _ _ (Ne.symm hi.1), getD_set_ne _ _ _ _ (Ne.symm hi.2)]
  refine ⟨h1.trans (hB.mono h1.size), fun e => ?_, fun e => ?_, h4⟩
  · obtain ⟨g, hg, hl⟩ := h2 e
    exact ⟨g, hg, Nat.lt_of_lt_of_le hl hB.size⟩
  · obtain ⟨g, hg, hl⟩ := h3 e
    exact ⟨g, hg, Nat.lt_of_lt_of_le hl hB.size⟩
theorem Fr2.left {B w : World} {p q u v : Nat} {listed : Array Bool} {a : Act} {o : Obj} (h : Fr2 B p q u v listed a w) (hpq : p ≠ q) (huv : u ≠ v) (hu : u < a.tmps.size) : Fr2 B p q u v (listed.setIfInBounds p true) (a.put (some u) (.pointer (some ⟨w.heap.size, 0, none⟩))) (w.alloc o) := by
  obtain ⟨h1, h2, h3, h4⟩ := h
  have e1 : (a.put (some u) (.pointer (some ⟨w.heap.size, 0, none⟩))).tmps.getD u undef = .pointer (some ⟨w.heap.size, 0, none⟩) := getDV_set_self _ _ _ _ hu
  have e2 : (a.put (some u) (.pointer (some ⟨w.heap.size, 0, none⟩))).tmps.getD v undef = a.tmps.getD v undef := getDV_set_ne _ _ _ _ _ (Ne.symm huv)
  unfold Fr2
  rw [e1, e2, getD_set_ne _ _ _ _ (Ne.symm hpq)]
  refine ⟨h1.alloc h1.size _, fun _ => ⟨_, rfl, by simp⟩, fun e => ?_, fun _ e => ?_⟩
  · obtain ⟨g, hg, hl⟩ := h3 e
    exact ⟨g, hg, by simp; omega⟩
  · obtain ⟨g, hg, hl⟩ := h3 e
    rw [hg]
    intro e3
    simp at e3 <;> omega
theorem Fr2.right {B w : World} {p q u v : Nat} {listed : Array Bool} {a : Act} {o : Obj} (h : Fr2 B p q u v listed a w) (hpq : p ≠ q) (huv : u ≠ v) (hv : v < a.tmps.size) : Fr2 B p q u v (listed.setIfInBounds q true) (a.put (some v) (.pointer (some ⟨w.heap.size, 0, none⟩))) (w.alloc o) := by
  obtain ⟨h1, h2, h3, h4⟩ := h
  have e1 : (a.put (some v) (.pointer (some ⟨w.heap.size, 0, none⟩))).tmps.getD v undef = .pointer (some ⟨w.heap.size, 0, none⟩) := getDV_set_self _ _ _ _ hv
  have e2 : (a.put (some v) (.pointer (some ⟨w.heap.size, 0, none⟩))).tmps.getD u undef = a.tmps.getD u undef := getDV_set_ne _ _ _ _ _ huv
  unfold Fr2
  rw [e1, e2, getD_set_ne _ _ _ _ hpq]
  refine ⟨h1.alloc h1.size _, fun e => ?_, fun _ => ⟨_, rfl, by simp⟩, fun e _ => ?_⟩
  · obtain ⟨g, hg, hl⟩ := h2 e
    exact ⟨g, hg, by simp; omega⟩
  · obtain ⟨g, hg, hl⟩ := h2 e
    rw [hg]
    intro e3
    simp at e3 <;> omega

/-- The beds of a box, point by point. -/
theorem mem_valsOf (b : Brd) (x y : Int) (sx sy : Nat) (v : Int) : v ∈ valsOf b x y sy (sx * sy) ↔ ∃ i j : Nat, i < sx ∧ j < sy ∧ v = bedW b (x + i, y + j) := by
  unfold valsOf
  rw [List.mem_map]
  constructor
  · rintro ⟨q, hq, rfl⟩
    rw [List.mem_range] at hq
    have hsy : 0 < sy := by
      rcases Nat.eq_zero_or_pos sy with h | h
      · rw [h] at hq; simp at hq
      · exact h
    exact ⟨q / sy, q % sy, Nat.div_lt_of_lt_mul (by rw [Nat.mul_comm]; exact hq), Nat.mod_lt _ hsy, rfl⟩
  · rintro ⟨i, j, hi, hj, rfl⟩
    have e1 : (i + 1) * sy ≤ sx * sy := Nat.mul_le_mul_right _ (by omega)
    rw [Nat.add_mul, Nat.one_mul] at e1
    refine ⟨i * sy + j, List.mem_range.2 (by omega), ?_⟩
    unfold ptAt
    rw [Nat.add_comm, Nat.add_mul_div_right _ _ (by omega), Nat.div_eq_of_lt hj, Nat.add_mul_mod_self_right, Nat.mod_eq_of_lt hj, Nat.zero_add]
theorem bedsOf_eq {vs us : List Int} (h : ∀ x, x ∈ vs ↔ x ∈ us) : bedsOf vs = bedsOf us := by
  unfold bedsOf
  congr 1
  funext n
  rw [Bool.eq_iff_iff]
  simp only [List.contains_eq_mem, decide_eq_true_eq]
  exact h n
/-- Both halves together have the beds of the box. -/
theorem halves (b : Brd) (x y : Int) (s1 s2 sy : Nat) : bedsOf (valsOf b x y sy ((s1 + s2) * sy)) = bedsOf (valsOf b x y sy (s1 * sy) ++ valsOf b (x + s1) y sy (s2 * sy)) := by
  refine bedsOf_eq fun v => ?_
  rw [List.mem_append, mem_valsOf, mem_valsOf, mem_valsOf]
  constructor
  · rintro ⟨i, j, hi, hj, rfl⟩
    by_cases h : i < s1
    · exact .inl ⟨i, j, h, hj, rfl⟩
    · refine .inr ⟨i - s1, j, by omega, hj, ?_⟩
      rw [show x + (s1 : Int) + ((i - s1 : Nat) : Int) = x + (i : Int) by omega]
  · rintro (⟨i, j, hi, hj, rfl⟩ | ⟨i, j, hi, hj, rfl⟩)
    · exact ⟨i, j, by omega, hj, rfl⟩
    · refine ⟨s1 + i, j, by omega, hj, ?_⟩
      rw [show x + (((s1 + i : Nat)) : Int) = x + (s1 : Int) + (i : Int) by omega]
end Go.Proofs.Ytifabfbnjnjhlaa
