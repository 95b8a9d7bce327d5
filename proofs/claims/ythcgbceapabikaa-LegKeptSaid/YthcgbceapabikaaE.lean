/- Leg, part E: a dart of a visit (a struct behind a pointer): whether the visit is at its end, and the dart. -/
import Derived.Test.YthcgbceapabikaaD
import Derived.Lib.SmallJoins
set_option linter.unusedVariables false
set_option linter.unusedSimpArgs false
namespace Go.Proofs.Ythcgbceapabikaa
open Go.RowKit Go.Shelf

/-- All blocks but one are as they were. -/
structure Only (V : Nat) (w w' : World) : Prop where
  os : w'.os = w.os
  tape : w'.tape = w.tape
  output : w'.output = w.output
  size : w.heap.size ≤ w'.heap.size
  block : ∀ k, k ≠ V → k < w.heap.size → w'.heap[k]? = w.heap[k]?
theorem Only.refl (V : Nat) (w : World) : Only V w w := ⟨rfl, rfl, rfl, Nat.le_refl _, fun _ _ _ => rfl⟩
theorem Only.trans {V : Nat} {a b c : World} (h : Only V a b) (k : Only V b c) : Only V a c :=
  ⟨k.os.trans h.os, k.tape.trans h.tape, k.output.trans h.output, Nat.le_trans h.size k.size, fun i h1 h2 => (k.block i h1 (Nat.lt_of_lt_of_le h2 h.size)).trans (h.block i h1 h2)⟩
theorem Only.of_below {V : Nat} {w w' : World} (h : Below w.heap.size w w') : Only V w w' := ⟨h.os, h.tape, h.output, h.size, fun k _ hk => h.block k hk⟩
theorem Only.set (V i : Nat) (w : World) (x : Value) : Only V w (w.setCell ⟨V, i, none⟩ x) := ⟨rfl, rfl, rfl, by simp [World.setCell], fun k hk _ => Below.heap_setCell _ _ _ _ hk⟩
theorem Only.below {V : Nat} {w w' : World} (h : Only V w w') (hV : V ≤ w.heap.size) : Below V w w' := ⟨h.os, h.tape, h.output, h.size, fun k hk => h.block k (by omega) (by omega)⟩
theorem Only.cell {V : Nat} {w w' : World} (h : Only V w w') {k i : Nat} {x : Value} (hk : k ≠ V) (hx : w.cell? ⟨k, i, none⟩ = some x) : w'.cell? ⟨k, i, none⟩ = some x :=
  (World.cell?_of_block (w := w) (a := ⟨k, i, none⟩) (h.block k hk (World.block_lt_of_cell? w _ hx))).trans hx
theorem Only.cells {V : Nat} {w w' : World} (h : Only V w w') {k : Nat} {o : Obj} (hk : k ≠ V) (hx : w.heap[k]? = some o) : w'.heap[k]? = some o :=
  (h.block k hk (Array.getElem?_eq_some_iff.1 hx).1).trans hx
theorem Only.sl {α : Type} {V : Nat} {w w' : World} {k : Nat} {enc : α → List Value} {a : Option Addr} {n c : Nat} {xs : List α} (h : Only V w w') (hV : ∀ g o, a = some ⟨g, o, none⟩ → g ≠ V) (hs : Sl w k enc (.slice a n c) xs) : Sl w' k enc (.slice a n c) xs := by
  obtain ⟨a', c', e, hl, hs⟩ := hs
  simp only [Value.slice.injEq] at e
  obtain ⟨rfl, rfl, rfl⟩ := e
  refine ⟨a, c, rfl, hl, fun hne => ?_⟩
  obtain ⟨b, off, rfl, hb, hc⟩ := hs hne
  exact ⟨b, off, rfl, Nat.lt_of_lt_of_le hb h.size, fun j x hx i y hy => h.cell (hV b off rfl) (hc j x hx i y hy)⟩

/-- The cells of a block known whole. -/
theorem blk_cell {w : World} {V : Nat} {cs : Array Value} {T : TypeId} (h : w.heap[V]? = some (.cells cs T (0, 0))) {i : Nat} {x : Value} (hx : cs[i]? = some x) : w.cell? ⟨V, i, none⟩ = some x := by
  simp [World.cell?, h, hx]
theorem blk_free {w : World} {V : Nat} {cs : Array Value} {T : TypeId} (h : w.heap[V]? = some (.cells cs T (0, 0))) (i : Nat) : w.frozen? ⟨V, i, none⟩ = false := by
  simp [World.frozen?, h]

/-- A visit and the laws by which it counts, in block V. -/
def VisAt (w : World) (V : Nat) (t : Thr) (c : Cnt) : Prop :=
  w.heap[V]? = some (.cells #[.int .i64 t.left, .int .i64 t.score, .int .i64 t.darts, .bool t.inn, .bool t.bust, .bool t.won, .int .i64 c.1, .int .i64 c.2.1, .int .i64 c.2.2] 132 (0, 0))

set_option maxRecDepth 100000 in
set_option maxHeartbeats 1000000 in
theorem ended_any (V : Nat) (t : Thr) (c : Cnt) (w : World) (hV : VisAt w V t c) :
    Calls Try.prog 68 #[.pointer (some ⟨V, 0, none⟩)] w (Ret (.bool t.ended) w) := by
  unfold VisAt at hV
  have k2 := blk_cell hV (i := 2) rfl
  have k4 := blk_cell hV (i := 4) rfl
  have k5 := blk_cell hV (i := 5) rfl
  clear hV
  unfold Thr.ended
  generalize t.won = wn at *
  generalize t.bust = bs at *
  generalize t.darts = d at *
  cases wn with
  | true =>
    rw [Bool.true_or]
    go_enter Try.func68, Try.ntmps68
    go_wp2
    go_ret
    exact ⟨rfl, by (repeat' (first | exact Below.refl _ _ | assumption | (with_reducible refine Below.drew ?_) | (with_reducible refine Below.setCell ?_ (by (first | (simp; done) | (simp; omega))) _) | (with_reducible refine below_drewN' ?_ _) | (refine Below.alloc ?_ (by (try simp only [World.size_alloc, World.size_drew, World.size_setCell]); omega) _) | (refine Below.trans ?_ (Below.mono (by assumption) (by (try simp only [World.size_alloc, World.size_drew, World.size_setCell]); omega)))))⟩
  | false =>
    rw [Bool.false_or]
    cases bs with
    | true =>
      rw [Bool.true_or]
      go_enter Try.func68, Try.ntmps68
      go_wp2
      go_ret
      exact ⟨rfl, by (repeat' (first | exact Below.refl _ _ | assumption | (with_reducible refine Below.drew ?_) | (with_reducible refine Below.setCell ?_ (by (first | (simp; done) | (simp; omega))) _) | (with_reducible refine below_drewN' ?_ _) | (refine Below.alloc ?_ (by (try simp only [World.size_alloc, World.size_drew, World.size_setCell]); omega) _) | (refine Below.trans ?_ (Below.mono (by assumption) (by (try simp only [World.size_alloc, World.size_drew, World.size_setCell]); omega)))))⟩
    | false =>
      rw [Bool.false_or]
      have e : decide (d = 3) = (d == 3) := by rw [Bool.eq_iff_iff]; simp
      rw [e]
      clear e
      go_enter Try.func68, Try.ntmps68
      go_wp2
      go_ret
      exact ⟨rfl, by (repeat' (first | exact Below.refl _ _ | assumption | (with_reducible refine Below.drew ?_) | (with_reducible refine Below.setCell ?_ (by (first | (simp; done) | (simp; omega))) _) | (with_reducible refine below_drewN' ?_ _) | (refine Below.alloc ?_ (by (try simp only [World.size_alloc, World.size_drew, World.size_setCell]); omega) _) | (refine Below.trans ?_ (Below.mono (by assumption) (by (try simp only [World.size_alloc, World.size_drew, World.size_setCell]); omega)))))⟩
end Go.Proofs.Ythcgbceapabikaa
