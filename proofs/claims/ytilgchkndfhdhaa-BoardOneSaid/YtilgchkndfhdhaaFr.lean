/- Board, part Fr: the arguments of the statements, opened. -/
import Derived.Test.YtilgchkndfhdhaaUk
import Derived.Test.YtilgchkndfhdhaaRows
import Derived.WalkKit
import Derived.ProofKit
import Derived.OpenShut
import Derived.ShutString
import Derived.ChangeOld
import Derived.Below
import Derived.Lib.SmallJoins
set_option linter.unusedVariables false
set_option linter.unusedSimpArgs false
namespace Go.Proofs.Ytilgchkndfhdhaa
open Go.ChangeShapes Go.WideShapes Go.ChangeAt Go.RowKit Go.Joins

theorem fr_own : ownKnob Try.prog.godebug = none := by kernel_rfl
theorem fr_laid : laidOutB Try.prog = true := by kernel_rfl

theorem okWide_array {P : Program} {w : World} {r : Reach} {base n : Nat} {t e : TypeId} {v : Value} (ht : P.underlying t = some (.array n e)) (h : Value.okWide P w r base t v) : ∃ cs, v = .agg cs ∧ cs.size = P.cellsOf t := by
  simp only [Value.okWide, ht] at h
  obtain ⟨cs, h1, h2, _⟩ := h
  exact ⟨cs, h1, h2⟩

section
variable {H : Type} {enc : TypeId × Value → H} {w : World} {base : Nat} {spare : Nat → Bool} {held : Bool} {fuel : Nat} {cs : List Value} {y : DataW H × List MemPlace}

/-- A slice of bytes, read. -/
theorem bytes_open (h : DataW.trod enc Try.prog w base spare held fuel 22 cs = some y) : ∃ v xs, cs = [v] ∧ Sl w 1 eU v xs ∧ ∀ x ∈ xs, 0 ≤ x ∧ x ≤ 255 := by
  rcases open_ints Try.underlying22 Try.underlying5 (by kernel_rfl) h with ⟨hcs, _⟩ | ⟨a, len, cap, zs, hcs, _, hl, hm, hz, _, hcell, hwz⟩
  · exact ⟨_, [], hcs, ⟨none, 0, rfl, by simp, fun h => absurd rfl h⟩, by simp⟩
  · have hll : len ≤ zs.length := by rw [hz]; split <;> omega
    have hle : (zs.take len).length = len := by rw [List.length_take]; omega
    refine ⟨_, zs.take len, hcs, ⟨some a, cap, by rw [hle], ?_, ?_⟩, fun x hx => bounds_u8 (hwz x (List.mem_of_mem_take hx))⟩
    · rw [hle]; unfold maxLen at hm; omega
    · intro hne
      have hp : 0 < zs.length := by
        rcases Nat.eq_zero_or_pos zs.length with h0 | h0
        · rw [List.eq_nil_of_length_eq_zero h0] at hne; simp at hne
        · exact h0
      obtain ⟨b, off, rfl, hc⟩ := ints_at hcell hp
      refine ⟨b, off, rfl, World.block_lt_of_cell? w _ (hc 0 hp), ?_⟩
      intro j x hx i u hu
      match i, hu with
      | 0, hu =>
        simp at hu; subst hu
        have hj : j < zs.length := by
          have := (List.getElem?_eq_some_iff.1 hx).1
          rw [hle] at this; omega
        have hjl : j < len := by have := (List.getElem?_eq_some_iff.1 hx).1; rwa [hle] at this
        rw [Nat.mul_one, Nat.add_zero, hc j hj, List.getD_eq_getElem?_getD]
        rw [List.getElem?_take_of_lt hjl] at hx
        rw [hx]; rfl
      | i + 1, hu => simp at hu

theorem u8_open (h : DataW.trod enc Try.prog w base spare held fuel 5 cs = some y) : ∃ a, cs = [.int .u8 a] ∧ 0 ≤ a ∧ a ≤ 255 := by
  obtain ⟨a, e0, _, wa⟩ := DataW.trod_int Try.underlying5 h
  exact ⟨a, e0, bounds_u8 wa⟩
theorem u16_open (h : DataW.trod enc Try.prog w base spare held fuel 25 cs = some y) : ∃ a, cs = [.int .u16 a] ∧ 0 ≤ a ∧ a ≤ 65535 := by
  obtain ⟨a, e0, _, wa⟩ := DataW.trod_int Try.underlying25 h
  exact ⟨a, e0, bounds_u16 wa⟩

theorem list2 {α : Type} {cs : List α} (h : cs.length = 2) : ∃ a b, cs = [a, b] := by
  match cs, h with
  | [a, b], _ => exact ⟨a, b, rfl⟩
theorem list4 {α : Type} {cs : List α} (h : cs.length = 4) : ∃ a b c d, cs = [a, b, c, d] := by
  match cs, h with
  | [a, b, c, d], _ => exact ⟨a, b, c, d, rfl⟩
theorem list10 {α : Type} {cs : List α} (h : cs.length = 10) : ∃ a b c d e f g i j k, cs = [a, b, c, d, e, f, g, i, j, k] := by
  match cs, h with
  | [a, b, c, d, e, f, g, i, j, k], _ => exact ⟨a, b, c, d, e, f, g, i, j, k, rfl⟩
theorem get_some {α : Type} {xs : List α} {n i : Nat} (h : xs.length = n) (hi : i < n) : ∃ y, xs[i]? = some y := ⟨_, List.getElem?_eq_getElem (by omega)⟩

theorem a16_open (h : DataW.trod enc Try.prog w base spare held fuel 26 cs = some y) : ∃ a b, cs = [.int .u16 a, .int .u16 b] ∧ (0 ≤ a ∧ a ≤ 65535) ∧ 0 ≤ b ∧ b ≤ 65535 := by
  obtain ⟨xs, m, rfl, _, hl, hx, hf⟩ := DataW.trod_array Try.underlying26 h
  obtain ⟨c0, c1, rfl⟩ := list2 (hl.trans (by kernel_rfl))
  have e1 : Try.prog.cellsOf 25 = 1 := by kernel_rfl
  have f0 := hf 0 (by omega)
  have f1 := hf 1 (by omega)
  obtain ⟨y0, g0⟩ := get_some hx (show 0 < 2 by omega)
  obtain ⟨y1, g1⟩ := get_some hx (show 1 < 2 by omega)
  rw [g0] at f0
  rw [g1] at f1
  simp [e1] at f0 f1
  obtain ⟨a, h1, h2⟩ := u16_open f0
  obtain ⟨b, h3, h4⟩ := u16_open f1
  simp at h1 h3
  subst h1 h3
  exact ⟨a, b, rfl, h2, h4⟩
theorem a8_open (h : DataW.trod enc Try.prog w base spare held fuel 47 cs = some y) : ∃ a b, cs = [.int .u8 a, .int .u8 b] ∧ (0 ≤ a ∧ a ≤ 255) ∧ 0 ≤ b ∧ b ≤ 255 := by
  obtain ⟨xs, m, rfl, _, hl, hx, hf⟩ := DataW.trod_array Try.underlying47 h
  obtain ⟨c0, c1, rfl⟩ := list2 (hl.trans (by kernel_rfl))
  have e1 : Try.prog.cellsOf 5 = 1 := by kernel_rfl
  have f0 := hf 0 (by omega)
  have f1 := hf 1 (by omega)
  obtain ⟨y0, g0⟩ := get_some hx (show 0 < 2 by omega)
  obtain ⟨y1, g1⟩ := get_some hx (show 1 < 2 by omega)
  rw [g0] at f0
  rw [g1] at f1
  simp [e1] at f0 f1
  obtain ⟨a, h1, h2⟩ := u8_open f0
  obtain ⟨b, h3, h4⟩ := u8_open f1
  simp at h1 h3
  subst h1 h3
  exact ⟨a, b, rfl, h2, h4⟩

/-- A board in bytes, read. -/
theorem made_open (h : DataW.trod enc Try.prog w base spare held fuel 24 cs = some y) :
    ∃ vr vl f wi rings lines, cs = [vr, vl, .int .u8 f, .int .u8 wi] ∧ Sl w 1 eU vr rings ∧ Sl w 1 eU vl lines ∧ (∀ x ∈ rings, 0 ≤ x ∧ x ≤ 255) ∧ (∀ x ∈ lines, 0 ≤ x ∧ x ≤ 255) ∧ (0 ≤ f ∧ f ≤ 255) ∧ 0 ≤ wi ∧ wi ≤ 255 := by
  obtain ⟨xs, m, rfl, _, hl, hx, hf⟩ := DataW.trod_struct Try.underlying24 h
  obtain ⟨c0, c1, c2, c3, rfl⟩ := list4 (hl.trans (by kernel_rfl))
  have e1 : Try.prog.cellsOf 5 = 1 := by kernel_rfl
  have e2 : Try.prog.cellsOf 22 = 1 := by kernel_rfl
  have f0 := hf 0 _ rfl
  have f1 := hf 1 _ rfl
  have f2 := hf 2 _ rfl
  have f3 := hf 3 _ rfl
  have hx4 : xs.length = 4 := hx
  obtain ⟨y0, g0⟩ := get_some hx4 (show 0 < 4 by omega)
  obtain ⟨y1, g1⟩ := get_some hx4 (show 1 < 4 by omega)
  obtain ⟨y2, g2⟩ := get_some hx4 (show 2 < 4 by omega)
  obtain ⟨y3, g3⟩ := get_some hx4 (show 3 < 4 by omega)
  rw [g0] at f0
  rw [g1] at f1
  rw [g2] at f2
  rw [g3] at f3
  simp [e1, e2] at f0 f1 f2 f3
  obtain ⟨vr, rings, h1, s1, b1⟩ := bytes_open f0
  obtain ⟨vl, lines, h2, s2, b2⟩ := bytes_open f1
  obtain ⟨f, h3, b3⟩ := u8_open f2
  obtain ⟨wi, h4, b4⟩ := u8_open f3
  simp at h1 h2 h3 h4
  subst h1 h2 h3 h4
  exact ⟨_, _, f, wi, rings, lines, rfl, s1, s2, b1, b2, b3, b4⟩

/-- A board in bytes with a box, read. -/
theorem boxed_open (h : DataW.trod enc Try.prog w base spare held fuel 49 cs = some y) :
    ∃ vr vl f wi rings lines a b s t i j, cs = [vr, vl, .int .u8 f, .int .u8 wi, .int .u16 a, .int .u16 b, .int .u8 s, .int .u8 t, .int .u8 i, .int .u8 j] ∧ Sl w 1 eU vr rings ∧ Sl w 1 eU vl lines ∧ (∀ x ∈ rings, 0 ≤ x ∧ x ≤ 255) ∧ (∀ x ∈ lines, 0 ≤ x ∧ x ≤ 255) ∧ (0 ≤ f ∧ f ≤ 255) ∧ (0 ≤ wi ∧ wi ≤ 255) ∧
      ((0 ≤ a ∧ a ≤ 65535) ∧ 0 ≤ b ∧ b ≤ 65535) ∧ ((0 ≤ s ∧ s ≤ 255) ∧ 0 ≤ t ∧ t ≤ 255) ∧ (0 ≤ i ∧ i ≤ 255) ∧ 0 ≤ j ∧ j ≤ 255 := by
  obtain ⟨xs, m, rfl, _, hl, hx, hf⟩ := DataW.trod_struct Try.underlying49 h
  obtain ⟨c0, c1, c2, c3, c4, c5, c6, c7, c8, c9, rfl⟩ := list10 (hl.trans (by kernel_rfl))
  have e1 : Try.prog.cellsOf 24 = 4 := by kernel_rfl
  have e2 : Try.prog.cellsOf 26 = 2 := by kernel_rfl
  have e3 : Try.prog.cellsOf 47 = 2 := by kernel_rfl
  have f0 := hf 0 _ rfl
  have f1 := hf 1 _ rfl
  have f2 := hf 2 _ rfl
  have f3 := hf 3 _ rfl
  have hx4 : xs.length = 4 := hx
  obtain ⟨y0, g0⟩ := get_some hx4 (show 0 < 4 by omega)
  obtain ⟨y1, g1⟩ := get_some hx4 (show 1 < 4 by omega)
  obtain ⟨y2, g2⟩ := get_some hx4 (show 2 < 4 by omega)
  obtain ⟨y3, g3⟩ := get_some hx4 (show 3 < 4 by omega)
  rw [g0] at f0
  rw [g1] at f1
  rw [g2] at f2
  rw [g3] at f3
  simp [e1, e2, e3] at f0 f1 f2 f3
  obtain ⟨vr, vl, f, wi, rings, lines, h1, s1, s2, b1, b2, b3, b4⟩ := made_open f0
  obtain ⟨a, b, h2, b5⟩ := a16_open f1
  obtain ⟨s, t, h3, b6⟩ := a8_open f2
  obtain ⟨i, j, h4, b7⟩ := a8_open f3
  simp at h1 h2 h3 h4
  obtain ⟨rfl, rfl, rfl, rfl⟩ := h1
  obtain ⟨rfl, rfl⟩ := h2
  obtain ⟨rfl, rfl⟩ := h3
  obtain ⟨rfl, rfl⟩ := h4
  exact ⟨_, _, f, wi, rings, lines, a, b, s, t, i, j, rfl, s1, s2, b1, b2, b3, b4, b5, b6, b7⟩
end
end Go.Proofs.Ytilgchkndfhdhaa
