/- Leg, part Bk: rules and visits, opened. -/
import Derived.Test.YthcgbceapabikaaBj
import Derived.Test.YthcgbceapabikaaAb
set_option linter.unusedVariables false
set_option linter.unusedSimpArgs false
namespace Go.Proofs.Ythcgbceapabikaa
open Go.ChangeShapes Go.WideShapes Go.ChangeAt Go.RowKit Go.Joins

theorem fs_list4 {α : Type} {cs : List α} (h : cs.length = 4) : ∃ a b c d, cs = [a, b, c, d] := by
  match cs, h with
  | [a, b, c, d], _ => exact ⟨a, b, c, d, rfl⟩
section
variable {H : Type} {enc : TypeId × Value → H} {w : World} {base : Nat} {spare : Nat → Bool} {held : Bool} {fuel : Nat} {cs : List Value} {y : DataW H × List MemPlace}

theorem counts_open (h : DataW.trod enc Try.prog w base spare held fuel 40 cs = some y) : ∃ v, ∃ xs : List Cnt, cs = [v] ∧ Sl w 3 encC v xs ∧ ∀ x ∈ xs, True :=
  slice_open (fun x : Cnt => True) Try.underlying40 (by kernel_rfl) (by omega) (fun _ _ _ h => by obtain ⟨a, b, c, rfl, _⟩ := count_open h; exact ⟨(a, b, c), rfl, trivial⟩) h
/-- oche/api.LegRules -/
theorem rules_open (h : DataW.trod enc Try.prog w base spare held fuel 42 cs = some y) : ∃ v xs a b d, cs = [v, .int .i64 a, .int .i64 b, .bool d] ∧ (Sl w 3 encC v xs ∧ ∀ x ∈ xs, True) ∧ (I64 a) ∧ (I64 b) := by
  obtain ⟨xs, m, rfl, _, hl, hx, hf⟩ := DataW.trod_struct Try.underlying42 h
  obtain ⟨c0, c1, c2, c3, rfl⟩ := fs_list4 (hl.trans (by kernel_rfl))
  have e0 : Try.prog.cellsOf 40 = 1 := by kernel_rfl
  have e1 : Try.prog.cellsOf 4 = 1 := by kernel_rfl
  have e2 : Try.prog.cellsOf 3 = 1 := by kernel_rfl
  have f0 := hf 0 _ rfl
  have f1 := hf 1 _ rfl
  have f2 := hf 2 _ rfl
  have f3 := hf 3 _ rfl
  have hxm : xs.length = 4 := hx
  obtain ⟨y0, g0⟩ := fs_get hxm (show 0 < 4 by omega)
  rw [g0] at f0
  obtain ⟨y1, g1⟩ := fs_get hxm (show 1 < 4 by omega)
  rw [g1] at f1
  obtain ⟨y2, g2⟩ := fs_get hxm (show 2 < 4 by omega)
  rw [g2] at f2
  obtain ⟨y3, g3⟩ := fs_get hxm (show 3 < 4 by omega)
  rw [g3] at f3
  simp [e0, e1, e2] at f0 f1 f2 f3
  obtain ⟨v, xs, h0, b0⟩ := counts_open f0
  obtain ⟨a, h1, b1⟩ := z_open f1
  obtain ⟨b, h2, b2⟩ := z_open f2
  obtain ⟨d, h3⟩ := b_open f3
  simp at h0
  subst h0
  simp at h1
  subst h1
  simp at h2
  subst h2
  simp at h3
  subst h3
  exact ⟨_, _, _, _, _, rfl, b0, b1, b2⟩
/-- oche/api.LegVisit -/
theorem visit_open (h : DataW.trod enc Try.prog w base spare held fuel 84 cs = some y) : ∃ p v xs, cs = [.int .i64 p, v] ∧ (I64 p) ∧ (Sl w 1 (fun x => [Value.int .i64 x]) v xs ∧ ∀ x ∈ xs, I64 x) := by
  obtain ⟨xs, m, rfl, _, hl, hx, hf⟩ := DataW.trod_struct Try.underlying84 h
  obtain ⟨c0, c1, rfl⟩ := fs_list2 (hl.trans (by kernel_rfl))
  have e0 : Try.prog.cellsOf 27 = 1 := by kernel_rfl
  have e1 : Try.prog.cellsOf 3 = 1 := by kernel_rfl
  have f0 := hf 0 _ rfl
  have f1 := hf 1 _ rfl
  have hxm : xs.length = 2 := hx
  obtain ⟨y0, g0⟩ := fs_get hxm (show 0 < 2 by omega)
  rw [g0] at f0
  obtain ⟨y1, g1⟩ := fs_get hxm (show 1 < 2 by omega)
  rw [g1] at f1
  simp [e0, e1] at f0 f1
  obtain ⟨p, h0, b0⟩ := z_open f0
  obtain ⟨v, xs, h1, b1⟩ := beds_open f1
  simp at h0
  subst h0
  simp at h1
  subst h1
  exact ⟨_, _, _, rfl, b0, b1⟩
theorem visits_open (h : DataW.trod enc Try.prog w base spare held fuel 43 cs = some y) :
    ∃ v, ∃ lv : List (Int × Value × List Int), cs = [v] ∧ Sl w 2 encV v lv ∧ ∀ x ∈ lv, Sl w 1 eI x.2.1 x.2.2 ∧ ∀ b ∈ x.2.2, I64 b :=
  slice_open (fun x : Int × Value × List Int => Sl w 1 eI x.2.1 x.2.2 ∧ ∀ b ∈ x.2.2, I64 b) Try.underlying43 (by kernel_rfl) (by omega)
    (fun _ _ _ h => by obtain ⟨p, v, xs, rfl, _, h1⟩ := visit_open h; exact ⟨(p, v, xs), rfl, h1⟩) h
end
end Go.Proofs.Ythcgbceapabikaa
