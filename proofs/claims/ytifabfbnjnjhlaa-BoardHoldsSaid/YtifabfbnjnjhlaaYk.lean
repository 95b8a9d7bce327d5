/- Board, part Yk: what was seen, in an array of bools. -/
import Derived.Test.YtifabfbnjnjhlaaYh
import Derived.Deep.WholeRow
set_option linter.unusedVariables false
set_option linter.unusedSimpArgs false
namespace Go.Proofs.Ytifabfbnjnjhlaa
open Go.RowKit Go.Shelf

theorem zc_bools : Try.zeroCells56 = Array.replicate 500 (.bool false) := by kernel_rfl
theorem store_bools (w : World) : Sem.run Try.prog (storeCells ⟨w.heap.size, 0, none⟩ Try.zeroCells56.toList) (w.alloc (.cells Try.zeroCells56 56)) = .ok () (w.alloc (.cells Try.zeroCells56 56)) :=
  run_storeCells_new w 56 _ _ (by kernel_rfl) rfl (by kernel_rfl)

/-- The bools that an array of memory holds. -/
def SeenAt (g : Nat) (W : World) (f : Nat → Bool) : Prop := ∀ i, i < 500 → W.cell? ⟨g, i, none⟩ = some (.bool (f i)) ∧ W.frozen? ⟨g, i, none⟩ = false
theorem seen_new (w : World) : SeenAt w.heap.size (w.alloc (.cells Try.zeroCells56 56)) (fun _ => false) := by
  intro i hi
  have hz : (w.alloc (.cells Try.zeroCells56 56)).heap[w.heap.size]? = some (.cells Try.zeroCells56 56 (0, 0)) := World.alloc_heap_new _ _
  refine ⟨?_, by unfold World.frozen?; simp only [hz]; simp⟩
  rw [cell_of_row _ _ i _ _ _ hz, zc_bools, Array.getElem?_replicate, if_pos hi]
theorem SeenAt.set {g : Nat} {W : World} {f : Nat → Bool} (h : SeenAt g W f) (x : Nat) (hx : x < 500) : SeenAt g (W.setCell ⟨g, x, none⟩ (.bool true)) (fun i => f i || i == x) := by
  intro i hi
  obtain ⟨h1, h2⟩ := h i hi
  obtain ⟨h3, h4⟩ := h x hx
  refine ⟨?_, ?_⟩
  · show _ = some (Value.bool (f i || i == x))
    by_cases hix : i = x
    · subst hix
      rw [World.cell?_setCell_same' _ _ _ (by rw [h1]; rfl)]
      simp
    · have : (i == x) = false := by simp [hix]
      rw [this, Bool.or_false]
      have hab : (⟨g, x, none⟩ : Addr) ≠ ⟨g, i, none⟩ := by
        intro e
        injection e with _ e2 _
        exact hix e2.symm
      rw [World.cell?_setCell_other (h := hab)]
      exact h1
  · rw [World.frozen?_setCell]; exact h2
theorem SeenAt.ext {g : Nat} {W : World} {f f' : Nat → Bool} (h : SeenAt g W f) (e : ∀ i, i < 500 → f i = f' i) : SeenAt g W f' := fun i hi => by rw [← e i hi]; exact h i hi

/-- A bed has its place in the list. -/
theorem bedsOf_range (vs : List Int) : bedsOf vs = ((List.range 500).filter fun (i : Nat) => vs.contains (i : Int)).map Int.ofNat := by
  unfold bedsOf
  rw [List.filter_map]
  rfl
theorem place {g : Nat → Bool} {n i : Nat} (hi : i < n) (hg : g i = true) : (((List.range n).filter g).map Int.ofNat)[((List.range i).filter g).length]? = some (i : Int) := by
  have e : List.range n = List.range i ++ i :: (List.range (n - i - 1)).map (· + (i + 1)) := by
    apply List.ext_getElem
    · simp; omega
    · intro j h1 h2
      simp only [List.getElem_range]
      by_cases c : j < i
      · rw [List.getElem_append_left (by simpa using c)]; simp
      · rw [List.getElem_append_right (by simp; omega)]
        simp only [List.length_range]
        by_cases c2 : j = i
        · subst c2; simp
        · rw [List.getElem_cons]
          rw [dif_neg (by omega)]
          simp; omega
  rw [e, List.filter_append, List.map_append, List.getElem?_append_right (by simp), List.filter_cons, if_pos hg]
  simp
theorem count_all {g : Nat → Bool} : ((List.range 500).filter g).length = (((List.range 500).filter g).map Int.ofNat).length := by simp
theorem count_succ {g : Nat → Bool} (i : Nat) : ((List.range (i + 1)).filter g).length = ((List.range i).filter g).length + (if g i then 1 else 0) := by
  rw [List.range_succ, List.filter_append, List.length_append]
  congr 1
  cases h : g i <;> simp [h]
end Go.Proofs.Ytifabfbnjnjhlaa
