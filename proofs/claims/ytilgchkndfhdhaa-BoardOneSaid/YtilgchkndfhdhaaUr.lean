/- Board, part Ur: a region that fills a board's block of its own. -/
import Derived.Test.YtilgchkndfhdhaaUo
import Derived.Test.YtilgchkndfhdhaaRh
import Derived.Lib.SmallJoins
set_option linter.unusedVariables false
set_option linter.unusedSimpArgs false
namespace Go.Proofs.Ytilgchkndfhdhaa
open Go.RowKit Go.Shelf

def zB : Obj := .cells #[.int .i64 0, .int .i64 0, .slice none 0 0, .slice none 0 0, .slice none 0 0, .int .i64 0] 31 (0, 0)
def fB (b : Brd) (vr vl vn : Value) : Obj := .cells #[.int .i64 b.eye, .int .i64 b.bull, vr, vl, vn, .int .i64 b.wire] 31 (0, 0)
/-- Block g holds the board b. -/
def FilledB (b : Brd) (w : World) (g : Nat) : Prop := ∃ vr vl vn, BrdAt w (.agg #[.int .i64 b.eye, .int .i64 b.bull, vr, vl, vn, .int .i64 b.wire]) b ∧ w.heap[g]? = some (fB b vr vl vn)
/-- All that was there is as it was, but that empty blocks from N on may have been filled. -/
structure FillR (N : Nat) (b : Brd) (w w' : World) : Prop where
  os : w'.os = w.os
  tape : w'.tape = w.tape
  output : w'.output = w.output
  size : w.heap.size ≤ w'.heap.size
  block : ∀ k, k < w.heap.size → w'.heap[k]? = w.heap[k]? ∨ (N ≤ k ∧ w.heap[k]? = some zB ∧ FilledB b w' k)

theorem FillR.of_below {N : Nat} {b : Brd} {w w' : World} (h : Below w.heap.size w w') : FillR N b w w' := ⟨h.os, h.tape, h.output, h.size, fun k hk => .inl (h.block k hk)⟩
theorem Sl.fill {α : Type} {N : Nat} {b : Brd} {w w' : World} {k : Nat} {enc : α → List Value} {v : Value} {xs : List α} (h : Sl w k enc v xs) (r : FillR N b w w') (hz : ∀ g, w.heap[g]? = some zB → ∀ b off n c, v = .slice (some ⟨b, off, none⟩) n c → b ≠ g) : Sl w' k enc v xs := by
  obtain ⟨a, c, e, hl, hs⟩ := h
  refine ⟨a, c, e, hl, fun hne => ?_⟩
  obtain ⟨b0, off, ha, hb, hc⟩ := hs hne
  subst ha
  refine ⟨b0, off, rfl, Nat.lt_of_lt_of_le hb r.size, fun j x hx i y hy => ?_⟩
  rcases r.block b0 hb with h1 | ⟨_, h2, _⟩
  · exact (World.cell?_of_block h1).trans (hc j x hx i y hy)
  · exact absurd rfl (hz b0 h2 b0 off _ _ e)
theorem BrdAt.fill {N : Nat} {b c : Brd} {w w' : World} {v : Value} (h : BrdAt w v c) (hc : chk c = 0) (r : FillR N b w w') : BrdAt w' v c := by
  obtain ⟨vr, vl, vn, e, h1, h2, h3⟩ := h
  have key := fun g (hg : w.heap[g]? = some zB) => brd_away hc h1 h2 h3 (zero_board (t := 31) hg)
  exact ⟨vr, vl, vn, e, h1.fill r (fun g hg => (key g hg).1), h2.fill r (fun g hg => (key g hg).2.1), h3.fill r (fun g hg => (key g hg).2.2)⟩
theorem filled_ne {b : Brd} {w : World} {g : Nat} (hb : chk b = 0) (h : FilledB b w g) : w.heap[g]? ≠ some zB := by
  obtain ⟨vr, vl, vn, ⟨_, _, _, e, h1, _, _⟩, h4⟩ := h
  intro hz
  rw [hz] at h4
  simp only [Value.agg.injEq, Array.mk.injEq, List.cons.injEq, and_true, true_and] at e
  obtain ⟨rfl, rfl, rfl⟩ := e
  unfold zB fB at h4
  simp only [Option.some.injEq, Obj.cells.injEq, Array.mk.injEq, List.cons.injEq, and_true, true_and] at h4
  obtain ⟨_, _, e2, _⟩ := h4
  obtain ⟨a, c, e3, _, hs⟩ := h1
  obtain ⟨_, _, ha, _⟩ := hs (good_of_chk hb).rings
  rw [← e2, ha] at e3
  simp at e3
theorem FilledB.fill {N : Nat} {b : Brd} {w w' : World} {g : Nat} (h : FilledB b w g) (hb : chk b = 0) (r : FillR N b w w') : FilledB b w' g := by
  have hne := filled_ne hb h
  obtain ⟨vr, vl, vn, h1, h2⟩ := h
  refine ⟨vr, vl, vn, h1.fill hb r, ?_⟩
  rcases r.block g (Array.getElem?_eq_some_iff.1 h2).1 with h3 | ⟨_, h3, _⟩
  · exact h3.trans h2
  · exact absurd h3 hne
/-- A board's block of the region's own: empty yet, or filled. -/
def PtrB (N : Nat) (b : Brd) (x : Value) (w : World) : Prop := ∃ g, x = .pointer (some ⟨g, 0, none⟩) ∧ N ≤ g ∧ (w.heap[g]? = some zB ∨ FilledB b w g)
theorem PtrB.fill {N : Nat} {b : Brd} {w w' : World} {x : Value} (h : PtrB N b x w) (hb : chk b = 0) (r : FillR N b w w') : PtrB N b x w' := by
  obtain ⟨g, e, hN, h1 | h1⟩ := h
  · refine ⟨g, e, hN, ?_⟩
    rcases r.block g (Array.getElem?_eq_some_iff.1 h1).1 with h3 | ⟨_, _, h3⟩
    · exact .inl (h3.trans h1)
    · exact .inr h3
  · exact ⟨g, e, hN, .inr (h1.fill hb r)⟩
/-- The store of a board into its block. -/
theorem fill_store {N : Nat} {b : Brd} {w w' : World} {g : Nat} {vr vl vn : Value} (hb : chk b = 0) (h : BrdAt w (.agg #[.int .i64 b.eye, .int .i64 b.bull, vr, vl, vn, .int .i64 b.wire]) b) (hz : w.heap[g]? = some zB) (hN : N ≤ g)
    (hw : w' = ((((((w.setCell ⟨g, 0, none⟩ (.int .i64 b.eye)).setCell ⟨g, 1, none⟩ (.int .i64 b.bull)).setCell ⟨g, 2, none⟩ vr).setCell ⟨g, 3, none⟩ vl).setCell ⟨g, 4, none⟩ vn).setCell ⟨g, 5, none⟩ (.int .i64 b.wire))) :
    FillR N b w w' ∧ FilledB b w' g := by
  have h' := h
  obtain ⟨_, _, _, e, h1, h2, h3⟩ := h
  simp only [Value.agg.injEq, Array.mk.injEq, List.cons.injEq, and_true, true_and] at e
  obtain ⟨rfl, rfl, rfl⟩ := e
  obtain ⟨a1, a2, a3⟩ := brd_away hb h1 h2 h3 (zero_board (t := 31) hz)
  have hB : BrdAt w' (.agg #[.int .i64 b.eye, .int .i64 b.bull, vr, vl, vn, .int .i64 b.wire]) b := by
    rw [hw]
    exact ⟨_, _, _, rfl, ((((((h1.away (p := ⟨g, 0, none⟩) (u := .int .i64 b.eye) a1).away (p := ⟨g, 1, none⟩) (u := .int .i64 b.bull) a1).away (p := ⟨g, 2, none⟩) (u := vr) a1).away (p := ⟨g, 3, none⟩) (u := vl) a1).away (p := ⟨g, 4, none⟩) (u := vn) a1).away (p := ⟨g, 5, none⟩) (u := .int .i64 b.wire) a1),
      ((((((h2.away (p := ⟨g, 0, none⟩) (u := .int .i64 b.eye) a2).away (p := ⟨g, 1, none⟩) (u := .int .i64 b.bull) a2).away (p := ⟨g, 2, none⟩) (u := vr) a2).away (p := ⟨g, 3, none⟩) (u := vl) a2).away (p := ⟨g, 4, none⟩) (u := vn) a2).away (p := ⟨g, 5, none⟩) (u := .int .i64 b.wire) a2),
      ((((((h3.away (p := ⟨g, 0, none⟩) (u := .int .i64 b.eye) a3).away (p := ⟨g, 1, none⟩) (u := .int .i64 b.bull) a3).away (p := ⟨g, 2, none⟩) (u := vr) a3).away (p := ⟨g, 3, none⟩) (u := vl) a3).away (p := ⟨g, 4, none⟩) (u := vn) a3).away (p := ⟨g, 5, none⟩) (u := .int .i64 b.wire) a3)⟩
  have hcell : w'.heap[g]? = some (fB b vr vl vn) := by
    rw [hw]
    have z0 := Go.Joins.block_setCell (i := 0) hz (.int .i64 b.eye)
    have z1 := Go.Joins.block_setCell (i := 1) z0 (.int .i64 b.bull)
    have z2 := Go.Joins.block_setCell (i := 2) z1 vr
    have z3 := Go.Joins.block_setCell (i := 3) z2 vl
    have z4 := Go.Joins.block_setCell (i := 4) z3 vn
    have z5 := Go.Joins.block_setCell (i := 5) z4 (.int .i64 b.wire)
    exact z5
  have hF : FilledB b w' g := ⟨vr, vl, vn, hB, hcell⟩
  have hBe : Below g w w' := by
    rw [hw]
    exact ((((((Below.refl g w).setCell (p := ⟨g, 0, none⟩) (Nat.le_refl _) _).setCell (p := ⟨g, 1, none⟩) (Nat.le_refl _) _).setCell (p := ⟨g, 2, none⟩) (Nat.le_refl _) _).setCell (p := ⟨g, 3, none⟩) (Nat.le_refl _) _).setCell (p := ⟨g, 4, none⟩) (Nat.le_refl _) _).setCell (p := ⟨g, 5, none⟩) (Nat.le_refl _) _
  refine ⟨⟨hBe.os, hBe.tape, hBe.output, hBe.size, fun k hk => ?_⟩, hF⟩
  · by_cases hkg : k = g
    · subst hkg
      exact .inr ⟨hN, hz, hF⟩
    · left
      rw [hw]
      have e1 : ∀ (W : World) (i : Nat) (u : Value), (W.setCell ⟨g, i, none⟩ u).heap[k]? = W.heap[k]? := fun W i u => Below.heap_setCell W ⟨g, i, none⟩ u k hkg
      rw [e1, e1, e1, e1, e1, e1]
def ZeroP (N : Nat) (x : Value) (w : World) : Prop := ∃ g, x = .pointer (some ⟨g, 0, none⟩) ∧ N ≤ g ∧ w.heap[g]? = some zB
def FullP (N : Nat) (b : Brd) (x : Value) (w : World) : Prop := ∃ g, x = .pointer (some ⟨g, 0, none⟩) ∧ N ≤ g ∧ FilledB b w g
def StepR (s N : Nat) (b : Brd) (j : Nat) (w w' : World) : Prop := if j = s then FillR N b w w' else Below w.heap.size w w'
theorem StepR.fill {s N j : Nat} {b : Brd} {w w' : World} (h : StepR s N b j w w') : FillR N b w w' := by
  unfold StepR at h
  split at h
  · exact h
  · exact .of_below h
theorem ZeroP.below {N : Nat} {x : Value} {w w' : World} (h : ZeroP N x w) (hB : Below w.heap.size w w') : ZeroP N x w' := by
  obtain ⟨g, e, hN, h1⟩ := h
  exact ⟨g, e, hN, (hB.block g (Array.getElem?_eq_some_iff.1 h1).1).trans h1⟩
theorem FullP.fill {N : Nat} {b : Brd} {x : Value} {w w' : World} (h : FullP N b x w) (hb : chk b = 0) (r : FillR N b w w') : FullP N b x w' := by
  obtain ⟨g, e, hN, h1⟩ := h
  exact ⟨g, e, hN, h1.fill hb r⟩
theorem flag_self (l : Array Bool) (i : Nat) : (l.setIfInBounds i true).getD i true = true := by
  by_cases h : i < l.size
  · exact getD_set_self _ _ _ h
  · simp [Array.getD_eq_getD_getElem?, show l.size ≤ i by omega]

/-- What 'back, e = Turn(own(t), (n-k)%n)' lays down. -/
def backD (N : Nat) (AG : Value) (B T : Brd) (n K K2 : Int) (f : Bool) : Nat → Value → World → Prop
  | 0, x, _ => x = AG
  | 1, x, w => BrdAt w x T
  | 2, x, _ => x = .int .i64 n
  | 3, x, _ => x = .int .i64 K
  | 4, x, _ => x = .int .i64 (n - K)
  | 5, x, _ => x = .int .i64 n
  | 6, x, _ => x = .int .i64 K2
  | 7, x, w => ∃ v, x = .tuple #[v, .int .i64 0] ∧ BrdAt w v B
  | 8, x, w => ∃ v, x = .tuple #[v, .int .i64 0] ∧ BrdAt w v B
  | 9, x, w => BrdAt w x B
  | 10, x, _ => x = .int .i64 0
  | 11, x, w => (f = false → ZeroP N x w) ∧ PtrB N B x w
  | 12, x, w => FullP N B x w
  | 13, x, _ => x = .int .i64 0
  | _, _, _ => True
theorem backD_mono (N : Nat) (AG : Value) (B T : Brd) (n K K2 : Int) (hB : chk B = 0) (hT : chk T = 0) : ∀ (j : Nat) (listed : Array Bool) (i : Nat) (x : Value) (w w' : World), StepR 12 N B j w w' → backD N AG B T n K K2 (listed.getD 12 true) i x w → backD N AG B T n K K2 ((listed.setIfInBounds j true).getD 12 true) i x w' := by
  intro j listed i x w w' hR h
  have r := hR.fill
  unfold backD at h ⊢
  split <;> simp only [] at h
  all_goals
    first
      | exact h
      | exact h.fill hT r
      | exact h.fill hB r
      | (obtain ⟨v, e, h⟩ := h; exact ⟨v, e, h.fill hB r⟩)
      | skip
  refine ⟨fun hf => ?_, h.2.fill hB r⟩
  by_cases hj : j = 12
  · subst hj; rw [flag_self] at hf; cases hf
  · rw [getD_set_ne _ _ _ _ (Ne.symm hj)] at hf
    unfold StepR at hR
    rw [if_neg hj] at hR
    exact (h.1 hf).below hR
end Go.Proofs.Ytilgchkndfhdhaa
