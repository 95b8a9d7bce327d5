/- Leg, part Bj: slices of structs and of slices, opened. -/
import Derived.Test.YthcgbceapabikaaBh
import Derived.Test.YthcgbceapabikaaQ
import Derived.Deep.Slices
set_option linter.unusedVariables false
set_option linter.unusedSimpArgs false
namespace Go.Proofs.Ythcgbceapabikaa
open Go.ChangeShapes Go.WideShapes Go.ChangeAt Go.RowKit Go.Joins

theorem add_flat (b off i : Nat) : (⟨b, off, none⟩ : Addr).add i = ⟨b, off + i, none⟩ := by
  unfold Addr.add
  split
  · rename_i h; subst h; rfl
  · rfl
section
variable {H : Type} {enc : TypeId × Value → H} {w : World} {base : Nat} {spare : Nat → Bool} {held : Bool} {fuel : Nat} {cs : List Value} {y : DataW H × List MemPlace}

/-- A slice, its elements opened by a word of their own. -/
theorem slice_open {α : Type} [Inhabited α] {t e : TypeId} {k : Nat} {encA : α → List Value} (Good : α → Prop) (ht : Try.prog.underlying t = some (.slice e)) (ce : Try.prog.cellsOf e = k) (hk : 0 < k)
    (hel : ∀ fuel cs y, DataW.trod enc Try.prog w base spare held fuel e cs = some y → ∃ x, cs = encA x ∧ Good x) (h : DataW.trod enc Try.prog w base spare held fuel t cs = some y) :
    ∃ v xs, cs = [v] ∧ Sl w k encA v xs ∧ ∀ x ∈ xs, Good x := by
  rcases Go.Deep.open_slice ht h with ⟨hcs, _⟩ | ⟨a, len, cap, m, n, D, Pl, hcs, _, hl, hm, hmm, _, hc⟩
  · exact ⟨_, [], hcs, ⟨none, 0, rfl, by simp, fun h => absurd rfl h⟩, by simp⟩
  · have hll : len ≤ m := by rw [hmm]; split <;> omega
    rw [ce] at hc
    have each : ∀ i, i < len → ∃ x : α, (∀ j u, (encA x)[j]? = some u → j < k ∧ w.cell? ((a.add (i * k)).add j) = some u) ∧ (encA x).length = k ∧ Good x := by
      intro i hi
      obtain ⟨cs', h1, h2⟩ := hc i (by omega)
      obtain ⟨x, rfl, hg⟩ := hel _ _ _ h2
      obtain ⟨_, hlen, hcell⟩ := World.cells?_some h1
      refine ⟨x, fun j u hu => ?_, hlen, hg⟩
      have hj := (List.getElem?_eq_some_iff.1 hu).1
      exact ⟨by omega, by rw [hcell j (by omega)]; exact hu⟩
    obtain ⟨f, hf⟩ := Go.Deep.choose_lt each
    refine ⟨_, (List.range len).map f, hcs, ⟨some a, cap, by simp, ?_, ?_⟩, ?_⟩
    · simp; unfold maxLen at hm; omega
    · intro hne
      have hp : 0 < len := by
        rcases Nat.eq_zero_or_pos len with h0 | h0
        · subst h0; simp at hne
        · exact h0
      obtain ⟨u0, hu0⟩ : ∃ u, (encA (f 0))[0]? = some u := ⟨_, List.getElem?_eq_getElem (by have := (hf 0 hp).2.1; omega)⟩
      have h00 := ((hf 0 hp).1 0 u0 hu0).2
      obtain ⟨b, off, spot⟩ := a
      have hspot : spot = none := by simpa [Addr.add] using World.cell?_spot h00
      subst hspot
      refine ⟨b, off, rfl, ?_, ?_⟩
      · have := World.block_lt_of_cell? w _ h00
        rw [add_flat, add_flat] at this
        exact this
      · intro j x hx i u hu
        rw [List.getElem?_map] at hx
        have hj : j < len := by
          rcases Nat.lt_or_ge j len with h | h
          · exact h
          · rw [List.getElem?_eq_none (by simpa using h)] at hx; cases hx
        rw [List.getElem?_range hj] at hx
        simp at hx; subst hx
        have g0 := ((hf j hj).1 i u hu).2
        rw [add_flat, add_flat] at g0
        exact g0
    · intro x hx
      obtain ⟨i, hi, rfl⟩ := List.mem_map.1 hx
      exact (hf i (List.mem_range.1 hi)).2.2

theorem legoff_open (h : DataW.trod enc Try.prog w base spare held fuel 91 cs = some y) : ∃ x : Int × Int, cs = encP x ∧ I64 x.1 ∧ I64 x.2 := by
  obtain ⟨xs, m, rfl, _, hl, hx, hf⟩ := DataW.trod_struct Try.underlying91 h
  obtain ⟨c0, c1, rfl⟩ := fs_list2 (hl.trans (by kernel_rfl))
  have e1 : Try.prog.cellsOf 3 = 1 := by kernel_rfl
  have e2 : Try.prog.cellsOf 34 = 1 := by kernel_rfl
  have f0 := hf 0 _ rfl
  have f1 := hf 1 _ rfl
  have hx2 : xs.length = 2 := hx
  obtain ⟨y0, g0⟩ := fs_get hx2 (show 0 < 2 by omega)
  obtain ⟨y1, g1⟩ := fs_get hx2 (show 1 < 2 by omega)
  rw [g0] at f0
  rw [g1] at f1
  simp [e1, e2] at f0 f1
  obtain ⟨a, h1, h2⟩ := bed_open f0
  obtain ⟨b, h3, h4⟩ := z_open f1
  simp at h1 h3
  subst h1 h3
  exact ⟨(a, b), rfl, h2, h4⟩
theorem offrow_open (h : DataW.trod enc Try.prog w base spare held fuel 63 cs = some y) : ∃ v xs, cs = [v] ∧ Sl w 2 encP v xs ∧ ∀ x ∈ xs, I64 x.1 ∧ I64 x.2 :=
  slice_open (fun x : Int × Int => I64 x.1 ∧ I64 x.2) Try.underlying63 (by kernel_rfl) (by omega) (fun _ _ _ h => legoff_open h) h
theorem offrows_open (h : DataW.trod enc Try.prog w base spare held fuel 62 cs = some y) :
    ∃ v, ∃ rows : List (Value × List (Int × Int)), cs = [v] ∧ Sl w 1 eRow v rows ∧ ∀ x ∈ rows, Sl w 2 encP x.1 x.2 ∧ ∀ d ∈ x.2, I64 d.1 ∧ I64 d.2 :=
  slice_open (fun x : Value × List (Int × Int) => Sl w 2 encP x.1 x.2 ∧ ∀ d ∈ x.2, I64 d.1 ∧ I64 d.2) Try.underlying62 (by kernel_rfl) (by omega)
    (fun _ _ _ h => by obtain ⟨v, xs, rfl, h1, h2⟩ := offrow_open h; exact ⟨(v, xs), rfl, h1, h2⟩) h
end
end Go.Proofs.Ythcgbceapabikaa
