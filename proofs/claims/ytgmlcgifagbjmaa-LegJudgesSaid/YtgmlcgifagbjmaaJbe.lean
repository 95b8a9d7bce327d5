/- Leg: parts Bj, Bk. -/
import Derived.Deep.Slices
import Derived.Test.YtgmlcgifagbjmaaJbd
import Derived.Test.YtgmlcgifagbjmaaJai
import Derived.Test.YtgmlcgifagbjmaaJao
set_option linter.unusedVariables false
set_option linter.unusedSimpArgs false
namespace Go.Proofs.Ytgmlcgifagbjmaa
section
open Go.ChangeShapes Go.WideShapes Go.ChangeAt Go.RowKit Go.Joins
theorem add_flat (b off i : Nat) : (⟨b, off, none⟩ : Addr).add i = ⟨b, off + i, none⟩ := by
 unfold Addr.add
 split
 ·rename_i h; subst h; rfl
 ·rfl
section
variable {H : Type} {enc : TypeId × Value → H} {w : World} {base : Nat} {spare : Nat → Bool} {held : Bool} {fuel : Nat} {cs : List Value} {y : DataW H × List MemPlace}
/-- A slice, its elements opened by a word of their own. -/
theorem slice_open {α : Type} [Inhabited α] {t e : TypeId} {k : Nat} {encA : α → List Value} (Good : α → Prop) (ht : Try.prog.underlying t = some (.slice e)) (ce : Try.prog.cellsOf e = k) (hk : 0 < k)
  (hel : ∀ fuel cs y, DataW.trod enc Try.prog w base spare held fuel e cs = some y → ∃ x, cs = encA x ∧ Good x) (h : DataW.trod enc Try.prog w base spare held fuel t cs = some y) :
  ∃ v xs, cs = [v] ∧ Sl w k encA v xs ∧ ∀ x ∈ xs, Good x := by
 rcases Go.Deep.open_slice ht h with ⟨hcs, _⟩ | ⟨a, len, cap, m, n, D, Pl, hcs, _, hl, hm, hmm, _, hc⟩
 ·exact ⟨_, [], hcs, ⟨none, 0, rfl, by simp, fun h => absurd rfl h⟩, by simp⟩
 ·have hll : len ≤ m := by rw [hmm]; split <;> omega
  rw [ce] at hc
  have each : ∀ i, i < len → ∃ x : α, (∀ j u, (encA x)[j]? = some u → j < k ∧ w.cell? ((a.add (i * k)).add j) = some u) ∧ (encA x).length = k ∧ Good x := by
   intro i hi
   obtain ⟨cs', h1, h2⟩ := hc i (by omega)
   obtain ⟨x, rfl, hg⟩ := hel _ _ _ h2
   obtain ⟨_, hlen, hcell⟩ := World.cells?_some h1
   refine ⟨x, fun j u hu => ?_, hlen, hg⟩
   have hj := (List.getElem?_eq_some_iff.1 hu).1
   exact ⟨by omega, by rw [hcell j (by omega)]; exact hu⟩
  obtain ⟨f, hf⟩ := Go.Deep.choose_lt each
  refine ⟨_, (List.range len).map f, hcs, ⟨some a, cap, by simp, ?_, ?_⟩, ?_⟩
  ·simp; unfold maxLen at hm; omega
  ·intro hne
   have hp : 0 < len := by
    rcases Nat.eq_zero_or_pos len with h0 | h0
    ·subst h0; simp at hne
    ·exact h0
   obtain ⟨u0, hu0⟩ : ∃ u, (encA (f 0))[0]? = some u := ⟨_, List.getElem?_eq_getElem (by have := (hf 0 hp).2.1; omega)⟩
   have h00 := ((hf 0 hp).1 0 u0 hu0).2
   obtain ⟨b, off, spot⟩ := a
   have hspot : spot = none := by simpa [Addr.add] using World.cell?_spot h00
   subst hspot
   refine ⟨b, off, rfl, ?_, ?_⟩
   ·have := World.block_lt_of_cell? w _ h00
    rw [add_flat, add_flat] at this
    exact this
   ·intro j x hx i u hu
    rw [List.getElem?_map] at hx
    have hj : j < len := by
     rcases Nat.lt_or_ge j len with h | h
     ·exact h
     ·rw [List.getElem?_eq_none (by simpa using h)] at hx; cases hx
    rw [List.getElem?_range hj] at hx
    simp at hx; subst hx
    have g0 := ((hf j hj).1 i u hu).2
    rw [add_flat, add_flat] at g0
    exact g0
  ·intro x hx
   obtain ⟨i, hi, rfl⟩ := List.mem_map.1 hx
   exact (hf i (List.mem_range.1 hi)).2.2
end
end
section
open Go.ChangeShapes Go.WideShapes Go.ChangeAt Go.RowKit Go.Joins
theorem fs_list4 {α : Type} {cs : List α} (h : cs.length = 4) : ∃ a b c d, cs = [a, b, c, d] := by
 match cs, h with
 | [a, b, c, d], _ => exact ⟨a, b, c, d, rfl⟩
section
variable {H : Type} {enc : TypeId × Value → H} {w : World} {base : Nat} {spare : Nat → Bool} {held : Bool} {fuel : Nat} {cs : List Value} {y : DataW H × List MemPlace}
theorem counts_open (h : DataW.trod enc Try.prog w base spare held fuel 40 cs = some y) : ∃ v, ∃ xs : List Cnt, cs = [v] ∧ Sl w 3 encC v xs ∧ ∀ x ∈ xs, True :=
 slice_open (fun x : Cnt => True) Try.underlying40 (by kernel_rfl) (by omega) (fun _ _ _ h => by obtain ⟨a, b, c, rfl, _⟩ := count_open h; exact ⟨(a, b, c), rfl, trivial⟩) h
/-- oche/api.LegRules -/
theorem rules_open (h : DataW.trod enc Try.prog w base spare held fuel 42 cs = some y) : ∃ v xs a b d, cs = [v, .int .i64 a, .int .i64 b, .bool d] ∧ (Sl w 3 encC v xs ∧ ∀ x ∈ xs, True) ∧ (I64 a) ∧ (I64 b) := by
 obtain ⟨xs, m, rfl, _, hl, hx, hf⟩ := DataW.trod_struct Try.underlying42 h
 obtain ⟨c0, c1, c2, c3, rfl⟩ := fs_list4 (hl.trans (by kernel_rfl))
 have e0 : Try.prog.cellsOf 40 = 1 := by kernel_rfl
 have e1 : Try.prog.cellsOf 4 = 1 := by kernel_rfl
 have e2 : Try.prog.cellsOf 3 = 1 := by kernel_rfl
 have f0 := hf 0 _ rfl
 have f1 := hf 1 _ rfl
 have f2 := hf 2 _ rfl
 have f3 := hf 3 _ rfl
 have hxm : xs.length = 4 := hx
 obtain ⟨y0, g0⟩ := fs_get hxm (show 0 < 4 by omega)
 rw [g0] at f0
 obtain ⟨y1, g1⟩ := fs_get hxm (show 1 < 4 by omega)
 rw [g1] at f1
 obtain ⟨y2, g2⟩ := fs_get hxm (show 2 < 4 by omega)
 rw [g2] at f2
 obtain ⟨y3, g3⟩ := fs_get hxm (show 3 < 4 by omega)
 rw [g3] at f3
 simp [e0, e1, e2] at f0 f1 f2 f3
 obtain ⟨v, xs, h0, b0⟩ := counts_open f0
 obtain ⟨a, h1, b1⟩ := z_open f1
 obtain ⟨b, h2, b2⟩ := z_open f2
 obtain ⟨d, h3⟩ := b_open f3
 simp at h0
 subst h0
 simp at h1
 subst h1
 simp at h2
 subst h2
 simp at h3
 subst h3
 exact ⟨_, _, _, _, _, rfl, b0, b1, b2⟩
/-- oche/api.LegVisit -/
theorem visit_open (h : DataW.trod enc Try.prog w base spare held fuel 84 cs = some y) : ∃ p v xs, cs = [.int .i64 p, v] ∧ (I64 p) ∧ (Sl w 1 (fun x => [Value.int .i64 x]) v xs ∧ ∀ x ∈ xs, I64 x) := by
 obtain ⟨xs, m, rfl, _, hl, hx, hf⟩ := DataW.trod_struct Try.underlying84 h
 obtain ⟨c0, c1, rfl⟩ := fs_list2 (hl.trans (by kernel_rfl))
 have e0 : Try.prog.cellsOf 27 = 1 := by kernel_rfl
 have e1 : Try.prog.cellsOf 3 = 1 := by kernel_rfl
 have f0 := hf 0 _ rfl
 have f1 := hf 1 _ rfl
 have hxm : xs.length = 2 := hx
 obtain ⟨y0, g0⟩ := fs_get hxm (show 0 < 2 by omega)
 rw [g0] at f0
 obtain ⟨y1, g1⟩ := fs_get hxm (show 1 < 2 by omega)
 rw [g1] at f1
 simp [e0, e1] at f0 f1
 obtain ⟨p, h0, b0⟩ := z_open f0
 obtain ⟨v, xs, h1, b1⟩ := beds_open f1
 simp at h0
 subst h0
 simp at h1
 subst h1
 exact ⟨_, _, _, rfl, b0, b1⟩
theorem visits_open (h : DataW.trod enc Try.prog w base spare held fuel 43 cs = some y) :
  ∃ v, ∃ lv : List (Int × Value × List Int), cs = [v] ∧ Sl w 2 encV v lv ∧ ∀ x ∈ lv, Sl w 1 eI x.2.1 x.2.2 ∧ ∀ b ∈ x.2.2, I64 b :=
 slice_open (fun x : Int × Value × List Int => Sl w 1 eI x.2.1 x.2.2 ∧ ∀ b ∈ x.2.2, I64 b) Try.underlying43 (by kernel_rfl) (by omega)
  (fun _ _ _ h => by obtain ⟨p, v, xs, rfl, _, h1⟩ := visit_open h; exact ⟨(p, v, xs), rfl, h1⟩) h
end
end
end Go.Proofs.Ytgmlcgifagbjmaa
