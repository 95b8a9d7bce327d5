/- Leg, part Bh: the arguments of the statements, opened. -/
import Derived.Test.YthcgbceapabikaaA
import Derived.Test.YthcgbceapabikaaRows
import Derived.WalkKit
import Derived.ProofKit
import Derived.OpenShut
import Derived.ShutString
import Derived.ChangeOld
import Derived.Below
import Derived.Lib.SmallJoins
import Derived.Deep.SlicePairs
set_option linter.unusedVariables false
set_option linter.unusedSimpArgs false
namespace Go.Proofs.Ythcgbceapabikaa
open Go.ChangeShapes Go.WideShapes Go.ChangeAt Go.RowKit Go.Joins

theorem fr_own : ownKnob Try.prog.godebug = none := by kernel_rfl
theorem fr_laid : laidOutB Try.prog = true := by kernel_rfl
theorem fs_get {α : Type} {xs : List α} {n i : Nat} (h : xs.length = n) (hi : i < n) : ∃ y, xs[i]? = some y := ⟨_, List.getElem?_eq_getElem (by omega)⟩
theorem fs_list2 {α : Type} {cs : List α} (h : cs.length = 2) : ∃ a b, cs = [a, b] := by
  match cs, h with
  | [a, b], _ => exact ⟨a, b, rfl⟩
theorem fs_list3 {α : Type} {cs : List α} (h : cs.length = 3) : ∃ a b c, cs = [a, b, c] := by
  match cs, h with
  | [a, b, c], _ => exact ⟨a, b, c, rfl⟩
theorem fs_list5 {α : Type} {cs : List α} (h : cs.length = 5) : ∃ a b c d e, cs = [a, b, c, d, e] := by
  match cs, h with
  | [a, b, c, d, e], _ => exact ⟨a, b, c, d, e, rfl⟩

/-- What an int can be. -/
def I64 (n : Int) : Prop := -9223372036854775808 ≤ n ∧ n ≤ 9223372036854775807

section
variable {H : Type} {enc : TypeId × Value → H} {w : World} {base : Nat} {spare : Nat → Bool} {held : Bool} {fuel : Nat} {cs : List Value} {y : DataW H × List MemPlace}

theorem b_open (h : DataW.trod enc Try.prog w base spare held fuel 4 cs = some y) : ∃ b, cs = [.bool b] := by
  obtain ⟨b, e0, _⟩ := DataW.trod_bool Try.underlying4 h
  exact ⟨b, e0⟩
theorem z_open (h : DataW.trod enc Try.prog w base spare held fuel 3 cs = some y) : ∃ a, cs = [.int .i64 a] ∧ I64 a := by
  obtain ⟨a, e0, _, wa⟩ := DataW.trod_int Try.underlying3 h
  exact ⟨a, e0, bounds_i64 wa⟩
theorem bed_open (h : DataW.trod enc Try.prog w base spare held fuel 34 cs = some y) : ∃ a, cs = [.int .i64 a] ∧ I64 a := by
  obtain ⟨a, e0, _, wa⟩ := DataW.trod_int Try.underlying34 h
  exact ⟨a, e0, bounds_i64 wa⟩
theorem gate_open (h : DataW.trod enc Try.prog w base spare held fuel 22 cs = some y) : ∃ a, cs = [.int .i64 a] ∧ I64 a := by
  obtain ⟨a, e0, _, wa⟩ := DataW.trod_int Try.underlying22 h
  exact ⟨a, e0, bounds_i64 wa⟩
theorem u8_open (h : DataW.trod enc Try.prog w base spare held fuel 5 cs = some y) : ∃ a, cs = [.int .u8 a] ∧ 0 ≤ a ∧ a ≤ 255 := by
  obtain ⟨a, e0, _, wa⟩ := DataW.trod_int Try.underlying5 h
  exact ⟨a, e0, bounds_u8 wa⟩
theorem u16_open (h : DataW.trod enc Try.prog w base spare held fuel 89 cs = some y) : ∃ a, cs = [.int .u16 a] ∧ 0 ≤ a ∧ a ≤ 65535 := by
  obtain ⟨a, e0, _, wa⟩ := DataW.trod_int Try.underlying89 h
  exact ⟨a, e0, bounds_u16 wa⟩
theorem beds_open (h : DataW.trod enc Try.prog w base spare held fuel 27 cs = some y) : ∃ v xs, cs = [v] ∧ Sl w 1 (fun x => [Value.int .i64 x]) v xs ∧ ∀ x ∈ xs, I64 x := by
  rcases open_ints Try.underlying27 Try.underlying34 (by kernel_rfl) h with ⟨hcs, _⟩ | ⟨a, len, cap, zs, hcs, _, hl, hm, hz, _, hcell, hwz⟩
  · exact ⟨_, [], hcs, ⟨none, 0, rfl, by simp, fun h => absurd rfl h⟩, by simp⟩
  · have hll : len ≤ zs.length := by rw [hz]; split <;> omega
    have hle : (zs.take len).length = len := by rw [List.length_take]; omega
    refine ⟨_, zs.take len, hcs, ⟨some a, cap, by rw [hle], ?_, ?_⟩, fun x hx => bounds_i64 (hwz x (List.mem_of_mem_take hx))⟩
    · rw [hle]; unfold maxLen at hm; omega
    · intro hne
      have hp : 0 < zs.length := by
        rcases Nat.eq_zero_or_pos zs.length with h0 | h0
        · rw [List.eq_nil_of_length_eq_zero h0] at hne; simp at hne
        · exact h0
      obtain ⟨b, off, rfl, hc⟩ := ints_at hcell hp
      refine ⟨b, off, rfl, World.block_lt_of_cell? w _ (hc 0 hp), ?_⟩
      intro j x hx i u hu
      match i, hu with
      | 0, hu =>
        simp at hu; subst hu
        have hj : j < zs.length := by
          have := (List.getElem?_eq_some_iff.1 hx).1
          rw [hle] at this; omega
        have hjl : j < len := by have := (List.getElem?_eq_some_iff.1 hx).1; rwa [hle] at this
        rw [Nat.mul_one, Nat.add_zero, hc j hj, List.getD_eq_getElem?_getD]
        rw [List.getElem?_take_of_lt hjl] at hx
        rw [hx]; rfl
      | i + 1, hu => simp at hu
theorem ints_open (h : DataW.trod enc Try.prog w base spare held fuel 48 cs = some y) : ∃ v xs, cs = [v] ∧ Sl w 1 (fun x => [Value.int .i64 x]) v xs ∧ ∀ x ∈ xs, I64 x := by
  rcases open_ints Try.underlying48 Try.underlying3 (by kernel_rfl) h with ⟨hcs, _⟩ | ⟨a, len, cap, zs, hcs, _, hl, hm, hz, _, hcell, hwz⟩
  · exact ⟨_, [], hcs, ⟨none, 0, rfl, by simp, fun h => absurd rfl h⟩, by simp⟩
  · have hll : len ≤ zs.length := by rw [hz]; split <;> omega
    have hle : (zs.take len).length = len := by rw [List.length_take]; omega
    refine ⟨_, zs.take len, hcs, ⟨some a, cap, by rw [hle], ?_, ?_⟩, fun x hx => bounds_i64 (hwz x (List.mem_of_mem_take hx))⟩
    · rw [hle]; unfold maxLen at hm; omega
    · intro hne
      have hp : 0 < zs.length := by
        rcases Nat.eq_zero_or_pos zs.length with h0 | h0
        · rw [List.eq_nil_of_length_eq_zero h0] at hne; simp at hne
        · exact h0
      obtain ⟨b, off, rfl, hc⟩ := ints_at hcell hp
      refine ⟨b, off, rfl, World.block_lt_of_cell? w _ (hc 0 hp), ?_⟩
      intro j x hx i u hu
      match i, hu with
      | 0, hu =>
        simp at hu; subst hu
        have hj : j < zs.length := by
          have := (List.getElem?_eq_some_iff.1 hx).1
          rw [hle] at this; omega
        have hjl : j < len := by have := (List.getElem?_eq_some_iff.1 hx).1; rwa [hle] at this
        rw [Nat.mul_one, Nat.add_zero, hc j hj, List.getD_eq_getElem?_getD]
        rw [List.getElem?_take_of_lt hjl] at hx
        rw [hx]; rfl
      | i + 1, hu => simp at hu
theorem u16s_open (h : DataW.trod enc Try.prog w base spare held fuel 75 cs = some y) : ∃ v xs, cs = [v] ∧ Sl w 1 (fun x => [Value.int .u16 x]) v xs ∧ ∀ x ∈ xs, 0 ≤ x ∧ x ≤ 65535 := by
  rcases open_ints Try.underlying75 Try.underlying89 (by kernel_rfl) h with ⟨hcs, _⟩ | ⟨a, len, cap, zs, hcs, _, hl, hm, hz, _, hcell, hwz⟩
  · exact ⟨_, [], hcs, ⟨none, 0, rfl, by simp, fun h => absurd rfl h⟩, by simp⟩
  · have hll : len ≤ zs.length := by rw [hz]; split <;> omega
    have hle : (zs.take len).length = len := by rw [List.length_take]; omega
    refine ⟨_, zs.take len, hcs, ⟨some a, cap, by rw [hle], ?_, ?_⟩, fun x hx => bounds_u16 (hwz x (List.mem_of_mem_take hx))⟩
    · rw [hle]; unfold maxLen at hm; omega
    · intro hne
      have hp : 0 < zs.length := by
        rcases Nat.eq_zero_or_pos zs.length with h0 | h0
        · rw [List.eq_nil_of_length_eq_zero h0] at hne; simp at hne
        · exact h0
      obtain ⟨b, off, rfl, hc⟩ := ints_at hcell hp
      refine ⟨b, off, rfl, World.block_lt_of_cell? w _ (hc 0 hp), ?_⟩
      intro j x hx i u hu
      match i, hu with
      | 0, hu =>
        simp at hu; subst hu
        have hj : j < zs.length := by
          have := (List.getElem?_eq_some_iff.1 hx).1
          rw [hle] at this; omega
        have hjl : j < len := by have := (List.getElem?_eq_some_iff.1 hx).1; rwa [hle] at this
        rw [Nat.mul_one, Nat.add_zero, hc j hj, List.getD_eq_getElem?_getD]
        rw [List.getElem?_take_of_lt hjl] at hx
        rw [hx]; rfl
      | i + 1, hu => simp at hu
theorem u8s_open (h : DataW.trod enc Try.prog w base spare held fuel 76 cs = some y) : ∃ v xs, cs = [v] ∧ Sl w 1 (fun x => [Value.int .u8 x]) v xs ∧ ∀ x ∈ xs, 0 ≤ x ∧ x ≤ 255 := by
  rcases open_ints Try.underlying76 Try.underlying5 (by kernel_rfl) h with ⟨hcs, _⟩ | ⟨a, len, cap, zs, hcs, _, hl, hm, hz, _, hcell, hwz⟩
  · exact ⟨_, [], hcs, ⟨none, 0, rfl, by simp, fun h => absurd rfl h⟩, by simp⟩
  · have hll : len ≤ zs.length := by rw [hz]; split <;> omega
    have hle : (zs.take len).length = len := by rw [List.length_take]; omega
    refine ⟨_, zs.take len, hcs, ⟨some a, cap, by rw [hle], ?_, ?_⟩, fun x hx => bounds_u8 (hwz x (List.mem_of_mem_take hx))⟩
    · rw [hle]; unfold maxLen at hm; omega
    · intro hne
      have hp : 0 < zs.length := by
        rcases Nat.eq_zero_or_pos zs.length with h0 | h0
        · rw [List.eq_nil_of_length_eq_zero h0] at hne; simp at hne
        · exact h0
      obtain ⟨b, off, rfl, hc⟩ := ints_at hcell hp
      refine ⟨b, off, rfl, World.block_lt_of_cell? w _ (hc 0 hp), ?_⟩
      intro j x hx i u hu
      match i, hu with
      | 0, hu =>
        simp at hu; subst hu
        have hj : j < zs.length := by
          have := (List.getElem?_eq_some_iff.1 hx).1
          rw [hle] at this; omega
        have hjl : j < len := by have := (List.getElem?_eq_some_iff.1 hx).1; rwa [hle] at this
        rw [Nat.mul_one, Nat.add_zero, hc j hj, List.getD_eq_getElem?_getD]
        rw [List.getElem?_take_of_lt hjl] at hx
        rw [hx]; rfl
      | i + 1, hu => simp at hu
/-- oche/api.Count -/
theorem count_open (h : DataW.trod enc Try.prog w base spare held fuel 24 cs = some y) : ∃ a b c, cs = [.int .i64 a, .int .i64 b, .int .i64 c] ∧ (I64 a) ∧ (I64 b) ∧ (I64 c) := by
  obtain ⟨xs, m, rfl, _, hl, hx, hf⟩ := DataW.trod_struct Try.underlying24 h
  obtain ⟨c0, c1, c2, rfl⟩ := fs_list3 (hl.trans (by kernel_rfl))
  have e0 : Try.prog.cellsOf 3 = 1 := by kernel_rfl
  have e1 : Try.prog.cellsOf 22 = 1 := by kernel_rfl
  have f0 := hf 0 _ rfl
  have f1 := hf 1 _ rfl
  have f2 := hf 2 _ rfl
  have hxm : xs.length = 3 := hx
  obtain ⟨y0, g0⟩ := fs_get hxm (show 0 < 3 by omega)
  rw [g0] at f0
  obtain ⟨y1, g1⟩ := fs_get hxm (show 1 < 3 by omega)
  rw [g1] at f1
  obtain ⟨y2, g2⟩ := fs_get hxm (show 2 < 3 by omega)
  rw [g2] at f2
  simp [e0, e1] at f0 f1 f2
  obtain ⟨a, h0, b0⟩ := z_open f0
  obtain ⟨b, h1, b1⟩ := gate_open f1
  obtain ⟨c, h2, b2⟩ := gate_open f2
  simp at h0
  subst h0
  simp at h1
  subst h1
  simp at h2
  subst h2
  exact ⟨_, _, _, rfl, b0, b1, b2⟩
/-- oche/ochelaw03.Aim -/
theorem aim_open (h : DataW.trod enc Try.prog w base spare held fuel 26 cs = some y) : ∃ a b c d e, cs = [.int .i64 a, .int .i64 b, .int .i64 c, .bool d, .int .i64 e] ∧ (I64 a ∧ I64 b ∧ I64 c) ∧ (I64 e) := by
  obtain ⟨xs, m, rfl, _, hl, hx, hf⟩ := DataW.trod_struct Try.underlying26 h
  obtain ⟨c0, c1, c2, c3, c4, rfl⟩ := fs_list5 (hl.trans (by kernel_rfl))
  have e0 : Try.prog.cellsOf 4 = 1 := by kernel_rfl
  have e1 : Try.prog.cellsOf 3 = 1 := by kernel_rfl
  have e2 : Try.prog.cellsOf 24 = 3 := by kernel_rfl
  have f0 := hf 0 _ rfl
  have f1 := hf 1 _ rfl
  have f2 := hf 2 _ rfl
  have hxm : xs.length = 3 := hx
  obtain ⟨y0, g0⟩ := fs_get hxm (show 0 < 3 by omega)
  rw [g0] at f0
  obtain ⟨y1, g1⟩ := fs_get hxm (show 1 < 3 by omega)
  rw [g1] at f1
  obtain ⟨y2, g2⟩ := fs_get hxm (show 2 < 3 by omega)
  rw [g2] at f2
  simp [e0, e1, e2] at f0 f1 f2
  obtain ⟨a, b, c, h0, b0⟩ := count_open f0
  obtain ⟨d, h1⟩ := b_open f1
  obtain ⟨e, h2, b2⟩ := z_open f2
  simp at h0
  obtain ⟨rfl, rfl, rfl⟩ := h0
  simp at h1
  subst h1
  simp at h2
  subst h2
  exact ⟨_, _, _, _, _, rfl, b0, b2⟩
/-- oche/api.LegMatch -/
theorem match_open (h : DataW.trod enc Try.prog w base spare held fuel 68 cs = some y) : ∃ a b c d e, cs = [.int .i64 a, .int .i64 b, .int .i64 c, .int .i64 d, .int .i64 e] ∧ (I64 a) ∧ (I64 b) ∧ (I64 c) ∧ (I64 d) ∧ (I64 e) := by
  obtain ⟨xs, m, rfl, _, hl, hx, hf⟩ := DataW.trod_struct Try.underlying68 h
  obtain ⟨c0, c1, c2, c3, c4, rfl⟩ := fs_list5 (hl.trans (by kernel_rfl))
  have e0 : Try.prog.cellsOf 3 = 1 := by kernel_rfl
  have f0 := hf 0 _ rfl
  have f1 := hf 1 _ rfl
  have f2 := hf 2 _ rfl
  have f3 := hf 3 _ rfl
  have f4 := hf 4 _ rfl
  have hxm : xs.length = 5 := hx
  obtain ⟨y0, g0⟩ := fs_get hxm (show 0 < 5 by omega)
  rw [g0] at f0
  obtain ⟨y1, g1⟩ := fs_get hxm (show 1 < 5 by omega)
  rw [g1] at f1
  obtain ⟨y2, g2⟩ := fs_get hxm (show 2 < 5 by omega)
  rw [g2] at f2
  obtain ⟨y3, g3⟩ := fs_get hxm (show 3 < 5 by omega)
  rw [g3] at f3
  obtain ⟨y4, g4⟩ := fs_get hxm (show 4 < 5 by omega)
  rw [g4] at f4
  simp [e0] at f0 f1 f2 f3 f4
  obtain ⟨a, h0, b0⟩ := z_open f0
  obtain ⟨b, h1, b1⟩ := z_open f1
  obtain ⟨c, h2, b2⟩ := z_open f2
  obtain ⟨d, h3, b3⟩ := z_open f3
  obtain ⟨e, h4, b4⟩ := z_open f4
  simp at h0
  subst h0
  simp at h1
  subst h1
  simp at h2
  subst h2
  simp at h3
  subst h3
  simp at h4
  subst h4
  exact ⟨_, _, _, _, _, rfl, b0, b1, b2, b3, b4⟩
end
end Go.Proofs.Ythcgbceapabikaa
