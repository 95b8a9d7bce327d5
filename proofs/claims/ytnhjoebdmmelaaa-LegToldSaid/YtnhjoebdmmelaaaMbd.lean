/- Leg: parts Bh. -/
import Derived.Test.YtnhjoebdmmelaaaRows
import Derived.WalkKit
import Derived.ProofKit
import Derived.OpenShut
import Derived.ShutString
import Derived.ChangeOld
import Derived.Below
import Derived.Lib.SmallJoins
import Derived.Deep.SlicePairs
import Derived.Test.YtnhjoebdmmelaaaMaa
set_option linter.unusedVariables false
set_option linter.unusedSimpArgs false
namespace Go.Proofs.Ytnhjoebdmmelaaa
section
open Go.ChangeShapes Go.WideShapes Go.ChangeAt Go.RowKit Go.Joins
theorem fr_own : ownKnob Try.prog.godebug = none := by kernel_rfl
theorem fr_laid : laidOutB Try.prog = true := by kernel_rfl
theorem fs_get {α : Type} {xs : List α} {n i : Nat} (h : xs.length = n) (hi : i < n) : ∃ y, xs[i]? = some y := ⟨_, List.getElem?_eq_getElem (by omega)⟩
section
variable {H : Type} {enc : TypeId × Value → H} {w : World} {base : Nat} {spare : Nat → Bool} {held : Bool} {fuel : Nat} {cs : List Value} {y : DataW H × List MemPlace}
theorem b_open (h : DataW.trod enc Try.prog w base spare held fuel 4 cs = some y) : ∃ b, cs = [.bool b] := by
 obtain ⟨b, e0, _⟩ := DataW.trod_bool Try.underlying4 h
 exact ⟨b, e0⟩
theorem u8_open (h : DataW.trod enc Try.prog w base spare held fuel 5 cs = some y) : ∃ a, cs = [.int .u8 a] ∧ 0 ≤ a ∧ a ≤ 255 := by
 obtain ⟨a, e0, _, wa⟩ := DataW.trod_int Try.underlying5 h
 exact ⟨a, e0, bounds_u8 wa⟩
theorem u16s_open (h : DataW.trod enc Try.prog w base spare held fuel 75 cs = some y) : ∃ v xs, cs = [v] ∧ Sl w 1 (fun x => [Value.int .u16 x]) v xs ∧ ∀ x ∈ xs, 0 ≤ x ∧ x ≤ 65535 := by
 rcases open_ints Try.underlying75 Try.underlying89 (by kernel_rfl) h with ⟨hcs, _⟩ | ⟨a, len, cap, zs, hcs, _, hl, hm, hz, _, hcell, hwz⟩
 ·exact ⟨_, [], hcs, ⟨none, 0, rfl, by simp, fun h => absurd rfl h⟩, by simp⟩
 ·have hll : len ≤ zs.length := by rw [hz]; split <;> omega
  have hle : (zs.take len).length = len := by rw [List.length_take]; omega
  refine ⟨_, zs.take len, hcs, ⟨some a, cap, by rw [hle], ?_, ?_⟩, fun x hx => bounds_u16 (hwz x (List.mem_of_mem_take hx))⟩
  ·rw [hle]; unfold maxLen at hm; omega
  ·intro hne
   have hp : 0 < zs.length := by
    rcases Nat.eq_zero_or_pos zs.length with h0 | h0
    ·rw [List.eq_nil_of_length_eq_zero h0] at hne; simp at hne
    ·exact h0
   obtain ⟨b, off, rfl, hc⟩ := ints_at hcell hp
   refine ⟨b, off, rfl, World.block_lt_of_cell? w _ (hc 0 hp), ?_⟩
   intro j x hx i u hu
   match i, hu with
   | 0, hu =>
    simp at hu; subst hu
    have hj : j < zs.length := by
     have := (List.getElem?_eq_some_iff.1 hx).1
     rw [hle] at this; omega
    have hjl : j < len := by have := (List.getElem?_eq_some_iff.1 hx).1; rwa [hle] at this
    rw [Nat.mul_one, Nat.add_zero, hc j hj, List.getD_eq_getElem?_getD]
    rw [List.getElem?_take_of_lt hjl] at hx
    rw [hx]; rfl
   | i + 1, hu => simp at hu
theorem u8s_open (h : DataW.trod enc Try.prog w base spare held fuel 76 cs = some y) : ∃ v xs, cs = [v] ∧ Sl w 1 (fun x => [Value.int .u8 x]) v xs ∧ ∀ x ∈ xs, 0 ≤ x ∧ x ≤ 255 := by
 rcases open_ints Try.underlying76 Try.underlying5 (by kernel_rfl) h with ⟨hcs, _⟩ | ⟨a, len, cap, zs, hcs, _, hl, hm, hz, _, hcell, hwz⟩
 ·exact ⟨_, [], hcs, ⟨none, 0, rfl, by simp, fun h => absurd rfl h⟩, by simp⟩
 ·have hll : len ≤ zs.length := by rw [hz]; split <;> omega
  have hle : (zs.take len).length = len := by rw [List.length_take]; omega
  refine ⟨_, zs.take len, hcs, ⟨some a, cap, by rw [hle], ?_, ?_⟩, fun x hx => bounds_u8 (hwz x (List.mem_of_mem_take hx))⟩
  ·rw [hle]; unfold maxLen at hm; omega
  ·intro hne
   have hp : 0 < zs.length := by
    rcases Nat.eq_zero_or_pos zs.length with h0 | h0
    ·rw [List.eq_nil_of_length_eq_zero h0] at hne; simp at hne
    ·exact h0
   obtain ⟨b, off, rfl, hc⟩ := ints_at hcell hp
   refine ⟨b, off, rfl, World.block_lt_of_cell? w _ (hc 0 hp), ?_⟩
   intro j x hx i u hu
   match i, hu with
   | 0, hu =>
    simp at hu; subst hu
    have hj : j < zs.length := by
     have := (List.getElem?_eq_some_iff.1 hx).1
     rw [hle] at this; omega
    have hjl : j < len := by have := (List.getElem?_eq_some_iff.1 hx).1; rwa [hle] at this
    rw [Nat.mul_one, Nat.add_zero, hc j hj, List.getD_eq_getElem?_getD]
    rw [List.getElem?_take_of_lt hjl] at hx
    rw [hx]; rfl
   | i + 1, hu => simp at hu
end
end
end Go.Proofs.Ytnhjoebdmmelaaa
