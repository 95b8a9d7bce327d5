/- Board, part Uo: what the statements' first assignments lay down. -/
import Derived.Test.YtilgchkndfhdhaaUk
import Derived.Test.YtilgchkndfhdhaaUi
set_option linter.unusedVariables false
set_option linter.unusedSimpArgs false
namespace Go.Proofs.Ytilgchkndfhdhaa
open Go.RowKit Go.Shelf

theorem Sl.away {α : Type} {w : World} {k : Nat} {enc : α → List Value} {v : Value} {xs : List α} {p : Addr} {u : Value} (h : Sl w k enc v xs) (hp : ∀ b off n c, v = .slice (some ⟨b, off, none⟩) n c → b ≠ p.block) : Sl (w.setCell p u) k enc v xs := by
  obtain ⟨a, c, e, hl, hs⟩ := h
  refine ⟨a, c, e, hl, fun hne => ?_⟩
  obtain ⟨b, off, ha, hb, hc⟩ := hs hne
  subst ha
  exact ⟨b, off, rfl, by simpa using hb, fun j x hx i y hy => (World.cell?_of_block (Below.heap_setCell w p u b (hp b off _ _ e))).trans (hc j x hx i y hy)⟩
theorem Sl.nz {α : Type} {w : World} {k g : Nat} {enc : α → List Value} {v : Value} {xs : List α} (h : Sl w k enc v xs) {j i : Nat} {x : α} {z : Int} (hx : xs[j]? = some x) (hi : (enc x)[i]? = some (.int .i64 z)) (hz : z ≠ 0)
    (hg : ∀ o z, w.cell? ⟨g, o, none⟩ = some (.int .i64 z) → z = 0) : ∀ b off n c, v = .slice (some ⟨b, off, none⟩) n c → b ≠ g := by
  intro b off n c e hb
  subst hb
  obtain ⟨a, c', e', hl, hs⟩ := h
  obtain ⟨b', off', ha, _, hc⟩ := hs (by intro e; rw [e] at hx; simp at hx)
  rw [e] at e'
  subst ha
  simp only [Value.slice.injEq, Option.some.injEq, Addr.mk.injEq, and_true] at e'
  obtain ⟨⟨rfl, rfl⟩, _⟩ := e'
  exact hz (hg _ _ (hc j x hx i _ hi))
theorem zero_board {w : World} {g : Nat} {t : TypeId} (h : w.heap[g]? = some (.cells #[.int .i64 0, .int .i64 0, .slice none 0 0, .slice none 0 0, .slice none 0 0, .int .i64 0] t (0, 0))) : ∀ o z, w.cell? ⟨g, o, none⟩ = some (.int .i64 z) → z = 0 := by
  intro o z hc
  rw [cell_of_row w g o _ _ _ h] at hc
  match o, hc with
  | 0, hc | 1, hc | 5, hc => simp at hc; exact hc.symm
  | 2, hc | 3, hc | 4, hc => simp at hc
  | o + 6, hc => simp at hc
theorem zero_point {w : World} {g : Nat} {t : TypeId} (h : w.heap[g]? = some (.cells #[.int .i64 0, .int .i64 0] t (0, 0))) : ∀ o z, w.cell? ⟨g, o, none⟩ = some (.int .i64 z) → z = 0 := by
  intro o z hc
  rw [cell_of_row w g o _ _ _ h] at hc
  match o, hc with
  | 0, hc | 1, hc => simp at hc; exact hc.symm
  | o + 2, hc => simp at hc
/-- The lists of a valid board lie in no block of zeros. -/
theorem brd_away {w : World} {vr vl vn : Value} {b : Brd} {g : Nat} (hc : chk b = 0) (h1 : Sl w 2 encP vr b.rings) (h2 : Sl w 2 encP vl b.lines) (h3 : Sl w 1 (fun x => [Value.int .i64 x]) vn b.nums) (hg : ∀ o z, w.cell? ⟨g, o, none⟩ = some (.int .i64 z) → z = 0) :
    (∀ b off n c, vr = .slice (some ⟨b, off, none⟩) n c → b ≠ g) ∧ (∀ b off n c, vl = .slice (some ⟨b, off, none⟩) n c → b ≠ g) ∧ (∀ b off n c, vn = .slice (some ⟨b, off, none⟩) n c → b ≠ g) := by
  have G := good_of_chk hc
  obtain ⟨r, rs, hrs⟩ := List.exists_cons_of_ne_nil G.rings
  obtain ⟨l, ls, hls⟩ := List.exists_cons_of_ne_nil G.lines
  have hnn : b.nums ≠ [] := by intro e; have := G.same; rw [e, hls] at this; simp at this
  obtain ⟨n, ns, hns⟩ := List.exists_cons_of_ne_nil hnn
  have hr := G.rad r.1 (by simp [radii, hrs])
  have hn := G.num n (by rw [hns]; simp)
  have hl : l ≠ (0, 0) := by
    unfold chk at hc
    split at hc
    · omega
    · split at hc
      · rename_i hv
        unfold valid linesOk at hv
        simp only [Bool.and_eq_true, Bool.not_eq_true', List.any_eq_false] at hv
        have := hv.2.1.2 l (by rw [hls]; simp)
        intro e
        simp [e] at this
      · omega
  refine ⟨h1.nz (j := 0) (i := 0) (x := r) (z := r.1) (by rw [hrs]; rfl) rfl (by omega) hg, ?_, h3.nz (j := 0) (i := 0) (x := n) (z := n) (by rw [hns]; rfl) rfl (by omega) hg⟩
  by_cases hx : l.1 = 0
  · exact h2.nz (j := 0) (i := 1) (x := l) (z := l.2) (by rw [hls]; rfl) rfl (fun e => hl (Prod.ext hx e)) hg
  · exact h2.nz (j := 0) (i := 0) (x := l) (z := l.1) (by rw [hls]; rfl) rfl hx hg

/-- What the first assignment of the law lays down. -/
def tuD1 (N0 : Nat) (lines rings : List Int) (f wi : Int) (P : Int × Int) (vr vl : Value) (a b : Int) : Nat → Value → World → Prop
  | 0, x, _ => x = mdV vr vl f wi
  | 1, x, w => ∃ k, EndL lines k ∧ BrdAt w x (madeB rings lines f wi k)
  | 2, x, _ => x = .agg #[.int .u16 a, .int .u16 b]
  | 3, x, _ => x = pt P
  | 4, x, w => ∃ g, x = .pointer (some ⟨g, 0, none⟩) ∧ N0 ≤ g ∧ w.heap[g]? = some (.cells #[.int .i64 0, .int .i64 0, .slice none 0 0, .slice none 0 0, .slice none 0 0, .int .i64 0] 31 (0, 0))
  | 5, x, w => ∃ g, x = .pointer (some ⟨g, 0, none⟩) ∧ N0 ≤ g ∧ w.heap[g]? = some (.cells #[.int .i64 0, .int .i64 0] 34 (0, 0))
  | _, _, _ => True
theorem tuD1_mono (N0 : Nat) (lines rings : List Int) (f wi : Int) (P : Int × Int) (vr vl : Value) (a b : Int) : ∀ i x w w', Below w.heap.size w w' → tuD1 N0 lines rings f wi P vr vl a b i x w → tuD1 N0 lines rings f wi P vr vl a b i x w' := by
  intro i x w w' hB h
  unfold tuD1 at *
  split <;> try exact h
  all_goals
    simp only [] at h
    first
      | exact h
      | (obtain ⟨k, h1, h2⟩ := h; exact ⟨k, h1, h2.below hB⟩)
      | (obtain ⟨g, h1, h3, h2⟩ := h; exact ⟨g, h1, h3, (hB.block g (Array.getElem?_eq_some_iff.1 h2).1).trans h2⟩)

/-- What 'bed, wire, error := Bed(own(board), point)' lays down. -/
def bedD (AG : Value) (C : Brd) (P : Int × Int) (A : Int) (o : Bool) : Nat → Value → World → Prop
  | 0, x, _ => x = AG
  | 1, x, w => BrdAt w x C
  | 2, x, _ => x = pt P
  | 3, x, _ | 4, x, _ => x = .tuple #[.int .i64 A, .bool o, .int .i64 0]
  | 5, x, _ | 8, x, _ => x = .int .i64 A
  | 6, x, _ | 9, x, _ => x = .bool o
  | 7, x, _ | 10, x, _ => x = .int .i64 0
  | _, _, _ => True
theorem bedD_mono (AG : Value) (C : Brd) (P : Int × Int) (A : Int) (o : Bool) : ∀ i x w w', Below w.heap.size w w' → bedD AG C P A o i x w → bedD AG C P A o i x w' := by
  intro i x w w' hB h
  unfold bedD at *
  split <;> try exact h
  all_goals
    simp only [] at h
    first
      | exact h
      | exact h.below hB

end Go.Proofs.Ytilgchkndfhdhaa
