/- BoardBoxes: for every board and every box the call returns true, and the arguments read as they did. No condition. -/
import Derived.Test.YtgceffpkhmjmkaaGreatD
import Derived.Test.YtgceffpkhmjmkaaGreatRows
import Derived.WalkKit
import Derived.ProofKit
import Derived.OpenShut
import Derived.ShutString
import Derived.ChangeOld
import Derived.Below
import Derived.Lib.SmallJoins
import Derived.Deep.SlicePairs
import Derived.Test.YtgceffpkhmjmkaaGreatVm
import Derived.Test.YtgceffpkhmjmkaaGreatVg
import Derived.Test.YtgceffpkhmjmkaaGreatRg
import Derived.Test.YtgceffpkhmjmkaaGreatVl
import Derived.Test.YtgceffpkhmjmkaaGreatVr
import Derived.Test.YtgceffpkhmjmkaaGreatVi
import Derived.Test.YtgceffpkhmjmkaaGreatVh
import Derived.Test.YtgceffpkhmjmkaaGreatUg
set_option linter.unusedVariables false
set_option linter.unusedSimpArgs false
namespace Go.Proofs.YtgceffpkhmjmkaaGreat
open Go.ChangeShapes Go.WideShapes Go.ChangeAt Go.RowKit Go.Joins

theorem fr_own : ownKnob Tryz.prog.godebug = none := by kernel_rfl
theorem fr_laid : laidOutB Tryz.prog = true := by kernel_rfl
theorem fs_get {α : Type} {xs : List α} {n i : Nat} (h : xs.length = n) (hi : i < n) : ∃ y, xs[i]? = some y := ⟨_, List.getElem?_eq_getElem (by omega)⟩
theorem fs_list2 {α : Type} {cs : List α} (h : cs.length = 2) : ∃ a b, cs = [a, b] := by
  match cs, h with
  | [a, b], _ => exact ⟨a, b, rfl⟩
theorem fs_list4 {α : Type} {cs : List α} (h : cs.length = 4) : ∃ a b c d, cs = [a, b, c, d] := by
  match cs, h with
  | [a, b, c, d], _ => exact ⟨a, b, c, d, rfl⟩
theorem fs_list6 {α : Type} {cs : List α} (h : cs.length = 6) : ∃ a b c d e f, cs = [a, b, c, d, e, f] := by
  match cs, h with
  | [a, b, c, d, e, f], _ => exact ⟨a, b, c, d, e, f, rfl⟩

/-- What an int can be. -/
def I64 (n : Int) : Prop := -9223372036854775808 ≤ n ∧ n ≤ 9223372036854775807

section
variable {H : Type} {enc : TypeId × Value → H} {w : World} {base : Nat} {spare : Nat → Bool} {held : Bool} {fuel : Nat} {cs : List Value} {y : DataW H × List MemPlace}

theorem z_open (h : DataW.trod enc Tryz.prog w base spare held fuel 3 cs = some y) : ∃ a, cs = [.int .i64 a] ∧ I64 a := by
  obtain ⟨a, e0, _, wa⟩ := DataW.trod_int Tryz.underlying3 h
  exact ⟨a, e0, bounds_i64 wa⟩

/-- A slice of ints, read. -/
theorem ints_open (h : DataW.trod enc Tryz.prog w base spare held fuel 24 cs = some y) : ∃ v xs, cs = [v] ∧ Sl w 1 (fun x => [Value.int .i64 x]) v xs ∧ ∀ x ∈ xs, I64 x := by
  rcases open_ints Tryz.underlying24 Tryz.underlying3 (by kernel_rfl) h with ⟨hcs, _⟩ | ⟨a, len, cap, zs, hcs, _, hl, hm, hz, _, hcell, hwz⟩
  · exact ⟨_, [], hcs, ⟨none, 0, rfl, by simp, fun h => absurd rfl h⟩, by simp⟩
  · have hll : len ≤ zs.length := by rw [hz]; split <;> omega
    have hle : (zs.take len).length = len := by rw [List.length_take]; omega
    refine ⟨_, zs.take len, hcs, ⟨some a, cap, by rw [hle], ?_, ?_⟩, fun x hx => bounds_i64 (hwz x (List.mem_of_mem_take hx))⟩
    · rw [hle]; unfold maxLen at hm; omega
    · intro hne
      have hp : 0 < zs.length := by
        rcases Nat.eq_zero_or_pos zs.length with h0 | h0
        · rw [List.eq_nil_of_length_eq_zero h0] at hne; simp at hne
        · exact h0
      obtain ⟨b, off, rfl, hc⟩ := ints_at hcell hp
      refine ⟨b, off, rfl, World.block_lt_of_cell? w _ (hc 0 hp), ?_⟩
      intro j x hx i u hu
      match i, hu with
      | 0, hu =>
        simp at hu; subst hu
        have hj : j < zs.length := by
          have := (List.getElem?_eq_some_iff.1 hx).1
          rw [hle] at this; omega
        have hjl : j < len := by have := (List.getElem?_eq_some_iff.1 hx).1; rwa [hle] at this
        rw [Nat.mul_one, Nat.add_zero, hc j hj, List.getD_eq_getElem?_getD]
        rw [List.getElem?_take_of_lt hjl] at hx
        rw [hx]; rfl
      | i + 1, hu => simp at hu

/-- A slice of pairs of ints, read. -/
theorem pairs_open {t e : TypeId} {f0 f1 : Field} (ht : Tryz.prog.underlying t = some (.slice e)) (he : Tryz.prog.underlying e = some (.struct #[f0, f1])) (ce : Tryz.prog.cellsOf e = 2) (o0 : f0.offset = 0) (o1 : f1.offset = 1)
    (c0 : Tryz.prog.cellsOf f0.type = 1) (c1 : Tryz.prog.cellsOf f1.type = 1) (u0 : Tryz.prog.underlying f0.type = some (.int .i64)) (u1 : Tryz.prog.underlying f1.type = some (.int .i64))
    (h : DataW.trod enc Tryz.prog w base spare held fuel t cs = some y) : ∃ v xs, cs = [v] ∧ Sl w 2 encP v xs ∧ ∀ x ∈ xs, I64 x.1 ∧ I64 x.2 := by
  rcases Go.Deep.open_slice_pairs ht he ce o0 o1 c0 c1 h with ⟨hcs, _⟩ | ⟨a, len, cap, m, n, V0, V1, D0, D1, P0, P1, hcs, _, hl, hm, hmm, _, hc⟩
  · exact ⟨_, [], hcs, ⟨none, 0, rfl, by simp, fun h => absurd rfl h⟩, by simp⟩
  · have hll : len ≤ m := by rw [hmm]; split <;> omega
    have each : ∀ i, i < len → ∃ x : Int × Int, (w.cell? (a.add (i * 2)) = some (.int .i64 x.1) ∧ w.cell? (a.add (i * 2 + 1)) = some (.int .i64 x.2)) ∧ I64 x.1 ∧ I64 x.2 := by
      intro i hi
      obtain ⟨h1, h2, h3, h4⟩ := hc i (by omega)
      obtain ⟨x, e0, _, w0⟩ := DataW.trod_int u0 h3
      obtain ⟨z, e1, _, w1⟩ := DataW.trod_int u1 h4
      simp at e0 e1
      exact ⟨(x, z), ⟨by rw [h1, e0], by rw [h2, e1]⟩, bounds_i64 w0, bounds_i64 w1⟩
    obtain ⟨f, hf⟩ := Go.Deep.choose_lt each
    refine ⟨_, (List.range len).map f, hcs, ⟨some a, cap, by simp, ?_, ?_⟩, ?_⟩
    · simp; unfold maxLen at hm; omega
    · intro hne
      have hp : 0 < len := by
        rcases Nat.eq_zero_or_pos len with h0 | h0
        · subst h0; simp at hne
        · exact h0
      obtain ⟨b, off, spot⟩ := a
      have hspot : spot = none := by simpa [Addr.add] using World.cell?_spot (hf 0 hp).1.1
      subst hspot
      refine ⟨b, off, rfl, World.block_lt_of_cell? w _ (hf 0 hp).1.1, ?_⟩
      intro j x hx i u hu
      rw [List.getElem?_map] at hx
      have hj : j < len := by
        rcases Nat.lt_or_ge j len with h | h
        · exact h
        · rw [List.getElem?_eq_none (by simpa using h)] at hx; cases hx
      rw [List.getElem?_range hj] at hx
      simp at hx; subst hx
      obtain ⟨⟨g0, g1⟩, _⟩ := hf j hj
      rw [add_plain] at g0 g1
      match i, hu with
      | 0, hu => simp [encP] at hu; subst hu; rw [Nat.add_zero]; exact g0
      | 1, hu => simp [encP] at hu; subst hu; rw [Nat.add_assoc]; exact g1
      | i + 2, hu => simp [encP] at hu
    · intro x hx
      obtain ⟨i, hi, rfl⟩ := List.mem_map.1 hx
      exact (hf i (List.mem_range.1 hi)).2

theorem rings_open (h : DataW.trod enc Tryz.prog w base spare held fuel 22 cs = some y) : ∃ v xs, cs = [v] ∧ Sl w 2 encP v xs ∧ ∀ x ∈ xs, I64 x.1 ∧ I64 x.2 :=
  pairs_open Tryz.underlying22 Tryz.underlying79 (by kernel_rfl) rfl rfl (by kernel_rfl) (by kernel_rfl) Tryz.underlying3 Tryz.underlying3 h
theorem lines_open (h : DataW.trod enc Tryz.prog w base spare held fuel 23 cs = some y) : ∃ v xs, cs = [v] ∧ Sl w 2 encP v xs ∧ ∀ x ∈ xs, I64 x.1 ∧ I64 x.2 :=
  pairs_open Tryz.underlying23 Tryz.underlying28 (by kernel_rfl) rfl rfl (by kernel_rfl) (by kernel_rfl) Tryz.underlying3 Tryz.underlying3 h

/-- A point, read. -/
theorem point_open (h : DataW.trod enc Tryz.prog w base spare held fuel 28 cs = some y) : ∃ a b, cs = [.int .i64 a, .int .i64 b] ∧ I64 a ∧ I64 b := by
  obtain ⟨xs, m, rfl, _, hl, hx, hf⟩ := DataW.trod_struct Tryz.underlying28 h
  obtain ⟨c0, c1, rfl⟩ := fs_list2 (hl.trans (by kernel_rfl))
  have e1 : Tryz.prog.cellsOf 3 = 1 := by kernel_rfl
  have f0 := hf 0 _ rfl
  have f1 := hf 1 _ rfl
  have hx2 : xs.length = 2 := hx
  obtain ⟨y0, g0⟩ := fs_get hx2 (show 0 < 2 by omega)
  obtain ⟨y1, g1⟩ := fs_get hx2 (show 1 < 2 by omega)
  rw [g0] at f0
  rw [g1] at f1
  simp [e1] at f0 f1
  obtain ⟨a, h1, h2⟩ := z_open f0
  obtain ⟨b, h3, h4⟩ := z_open f1
  simp at h1 h3
  subst h1 h3
  exact ⟨a, b, rfl, h2, h4⟩
theorem span_open (h : DataW.trod enc Tryz.prog w base spare held fuel 47 cs = some y) : ∃ a b, cs = [.int .i64 a, .int .i64 b] ∧ I64 a ∧ I64 b := by
  obtain ⟨xs, m, rfl, _, hl, hx, hf⟩ := DataW.trod_struct Tryz.underlying47 h
  obtain ⟨c0, c1, rfl⟩ := fs_list2 (hl.trans (by kernel_rfl))
  have e1 : Tryz.prog.cellsOf 3 = 1 := by kernel_rfl
  have f0 := hf 0 _ rfl
  have f1 := hf 1 _ rfl
  have hx2 : xs.length = 2 := hx
  obtain ⟨y0, g0⟩ := fs_get hx2 (show 0 < 2 by omega)
  obtain ⟨y1, g1⟩ := fs_get hx2 (show 1 < 2 by omega)
  rw [g0] at f0
  rw [g1] at f1
  simp [e1] at f0 f1
  obtain ⟨a, h1, h2⟩ := z_open f0
  obtain ⟨b, h3, h4⟩ := z_open f1
  simp at h1 h3
  subst h1 h3
  exact ⟨a, b, rfl, h2, h4⟩
/-- A box, read. -/
theorem box_open (h : DataW.trod enc Tryz.prog w base spare held fuel 49 cs = some y) : ∃ a b c d, cs = [.int .i64 a, .int .i64 b, .int .i64 c, .int .i64 d] ∧ I64 a ∧ I64 b ∧ I64 c ∧ I64 d := by
  obtain ⟨xs, m, rfl, _, hl, hx, hf⟩ := DataW.trod_struct Tryz.underlying49 h
  obtain ⟨c0, c1, c2, c3, rfl⟩ := fs_list4 (hl.trans (by kernel_rfl))
  have e1 : Tryz.prog.cellsOf 47 = 2 := by kernel_rfl
  have f0 := hf 0 _ rfl
  have f1 := hf 1 _ rfl
  have hx2 : xs.length = 2 := hx
  obtain ⟨y0, g0⟩ := fs_get hx2 (show 0 < 2 by omega)
  obtain ⟨y1, g1⟩ := fs_get hx2 (show 1 < 2 by omega)
  rw [g0] at f0
  rw [g1] at f1
  simp [e1] at f0 f1
  obtain ⟨a, b, h1, h2, h3⟩ := span_open f0
  obtain ⟨c, d, h4, h5, h6⟩ := span_open f1
  simp at h1 h4
  obtain ⟨rfl, rfl⟩ := h1
  obtain ⟨rfl, rfl⟩ := h4
  exact ⟨a, b, c, d, rfl, h2, h3, h5, h6⟩

/-- A board, read. -/
theorem board_open (h : DataW.trod enc Tryz.prog w base spare held fuel 26 cs = some y) :
    ∃ (vs : Array Value) (b : Brd), cs = vs.toList ∧ BrdAt w (.agg vs) b := by
  obtain ⟨xs, m, rfl, _, hl, hx, hf⟩ := DataW.trod_struct Tryz.underlying26 h
  obtain ⟨c0, c1, c2, c3, c4, c5, rfl⟩ := fs_list6 (hl.trans (by kernel_rfl))
  have e1 : Tryz.prog.cellsOf 3 = 1 := by kernel_rfl
  have e2 : Tryz.prog.cellsOf 24 = 1 := by kernel_rfl
  have e3 : Tryz.prog.cellsOf 22 = 1 := by kernel_rfl
  have e4 : Tryz.prog.cellsOf 23 = 1 := by kernel_rfl
  have f0 := hf 0 _ rfl
  have f1 := hf 1 _ rfl
  have f2 := hf 2 _ rfl
  have f3 := hf 3 _ rfl
  have f4 := hf 4 _ rfl
  have f5 := hf 5 _ rfl
  have hx6 : xs.length = 6 := hx
  obtain ⟨y0, g0⟩ := fs_get hx6 (show 0 < 6 by omega)
  obtain ⟨y1, g1⟩ := fs_get hx6 (show 1 < 6 by omega)
  obtain ⟨y2, g2⟩ := fs_get hx6 (show 2 < 6 by omega)
  obtain ⟨y3, g3⟩ := fs_get hx6 (show 3 < 6 by omega)
  obtain ⟨y4, g4⟩ := fs_get hx6 (show 4 < 6 by omega)
  obtain ⟨y5, g5⟩ := fs_get hx6 (show 5 < 6 by omega)
  rw [g0] at f0
  rw [g1] at f1
  rw [g2] at f2
  rw [g3] at f3
  rw [g4] at f4
  rw [g5] at f5
  simp [e1, e2, e3, e4] at f0 f1 f2 f3 f4 f5
  obtain ⟨ey, h0, _⟩ := z_open f0
  obtain ⟨bu, h1, _⟩ := z_open f1
  obtain ⟨vr, rings, h2, s2, _⟩ := rings_open f2
  obtain ⟨vl, lines, h3, s3, _⟩ := lines_open f3
  obtain ⟨vn, nums, h4, s4, _⟩ := ints_open f4
  obtain ⟨wi, h5, _⟩ := z_open f5
  simp at h0 h1 h2 h3 h4 h5
  subst h0 h1 h2 h3 h4 h5
  exact ⟨#[.int .i64 ey, .int .i64 bu, c2, c3, c4, .int .i64 wi], ⟨ey, bu, rings, lines, nums, wi⟩, rfl, c2, c3, c4, rfl, s2, s3, s4⟩
end
end Go.Proofs.YtgceffpkhmjmkaaGreat

namespace Go.Proofs.YtgceffpkhmjmkaaGreat
open Go.RowKit Go.Shelf

theorem zcB_eq : Tryz.zeroCells97 = Array.replicate 500 (.bool false) := by kernel_rfl
theorem store_none (w : World) : Sem.run Tryz.prog (storeCells ⟨w.heap.size, 0, none⟩ Tryz.zeroCells97.toList) (w.alloc (.cells Tryz.zeroCells97 97)) = .ok () (w.alloc (.cells Tryz.zeroCells97 97)) :=
  run_storeCells_new w 97 _ _ (by kernel_rfl) rfl (by kernel_rfl)
noncomputable def two : Array Value := (Tryz.zeroCells97.setIfInBounds 125 (.bool true)).setIfInBounds 225 (.bool true)
theorem store_two (w : World) : Sem.run Tryz.prog (storeCells ⟨w.heap.size, 0, none⟩ ((Tryz.zeroCells97.toList.set 125 (.bool true)).set 225 (.bool true))) (w.alloc (.cells Tryz.zeroCells97 97)) = .ok () (w.alloc (.cells two 97)) := by
  have h := run_storeCells_new (P := Tryz.prog) w 97 Tryz.zeroCells97 two (by kernel_rfl) (by unfold two; simp) (by kernel_rfl)
  have e : two.toList = (Tryz.zeroCells97.toList.set 125 (.bool true)).set 225 (.bool true) := by unfold two; simp
  rw [e] at h
  exact h

/-- The bools that an array of memory holds. -/
def SeenB (g : Nat) (W : World) (f : Nat → Bool) : Prop := ∀ i, i < 500 → W.cell? ⟨g, i, none⟩ = some (.bool (f i)) ∧ W.frozen? ⟨g, i, none⟩ = false
theorem seenB_none (w : World) : SeenB w.heap.size (w.alloc (.cells Tryz.zeroCells97 97)) (fun _ => false) := by
  intro i hi
  have hz : (w.alloc (.cells Tryz.zeroCells97 97)).heap[w.heap.size]? = some (.cells Tryz.zeroCells97 97 (0, 0)) := World.alloc_heap_new _ _
  refine ⟨?_, by unfold World.frozen?; simp only [hz]; simp⟩
  rw [cell_of_row _ _ i _ _ _ hz, zcB_eq, Array.getElem?_replicate, if_pos hi]
theorem seenB_two (w : World) : SeenB w.heap.size (w.alloc (.cells two 97)) (fun i => decide (i = 125) || decide (i = 225)) := by
  intro i hi
  have hz : (w.alloc (.cells two 97)).heap[w.heap.size]? = some (.cells two 97 (0, 0)) := World.alloc_heap_new _ _
  refine ⟨?_, by unfold World.frozen?; simp only [hz]; simp⟩
  rw [cell_of_row _ _ i _ _ _ hz]
  unfold two
  rw [zcB_eq, Array.getElem?_setIfInBounds, Array.getElem?_setIfInBounds, Array.getElem?_replicate]
  show _ = some (Value.bool (decide (i = 125) || decide (i = 225)))
  simp only [Array.size_setIfInBounds, Array.size_replicate]
  by_cases a : i = 225
  · subst a
    rw [if_pos rfl, if_pos (by omega)]; simp
  · by_cases b : i = 125
    · subst b
      rw [if_neg (fun e => a e.symm), if_pos rfl, if_pos (by omega)]; simp
    · rw [if_neg (fun e => a e.symm), if_neg (fun e => b e.symm), if_pos hi, decide_eq_false a, decide_eq_false b]; rfl
theorem SeenB.set {g : Nat} {W : World} {f : Nat → Bool} (h : SeenB g W f) (x : Nat) (hx : x < 500) : SeenB g (W.setCell ⟨g, x, none⟩ (.bool true)) (fun i => f i || i == x) := by
  intro i hi
  obtain ⟨h1, h2⟩ := h i hi
  refine ⟨?_, ?_⟩
  · show _ = some (Value.bool (f i || i == x))
    by_cases hix : i = x
    · subst hix
      rw [World.cell?_setCell_same' _ _ _ (by rw [h1]; rfl)]
      simp
    · have : (i == x) = false := by simp [hix]
      rw [this, Bool.or_false]
      have hab : (⟨g, x, none⟩ : Addr) ≠ ⟨g, i, none⟩ := by
        intro e
        injection e with _ e2 _
        exact hix e2.symm
      rw [World.cell?_setCell_other (h := hab)]
      exact h1
  · rw [World.frozen?_setCell]; exact h2
theorem SeenB.ext {g : Nat} {W : World} {f f' : Nat → Bool} (h : SeenB g W f) (e : ∀ i, i < 500 → f i = f' i) : SeenB g W f' := fun i hi => by rw [← e i hi]; exact h i hi
theorem SeenB.below {g : Nat} {W W' : World} {f : Nat → Bool} (h : SeenB g W f) (hb : Below W.heap.size W W') : SeenB g W' f := fun i hi => by
  obtain ⟨h1, h2⟩ := h i hi
  exact ⟨keepc hb h1, (hb.frozen (World.block_lt_of_cell? W _ h1)).trans h2⟩
theorem SeenB.load {g : Nat} {W : World} {f : Nat → Bool} (h : SeenB g W f) : Sem.run Tryz.prog (loadCellsFrom ⟨g, 0, none⟩ 0 500 #[]) W = .ok (boolsV f) W := by
  have := run_loadCells_list (P := Tryz.prog) W ⟨g, 0, none⟩ (boolsV f).toList (fun j v hv => by
    have hj : j < 500 := by
      have := (List.getElem?_eq_some_iff.1 hv).1
      rw [Array.length_toList, boolsV_size] at this; exact this
    rw [Addr.add_lit, Nat.zero_add, (h j hj).1]
    have := boolsV_get f j hj
    rw [← Array.getElem?_toList] at this
    rw [this] at hv
    simpa using hv)
  rw [Array.length_toList, boolsV_size] at this
  simpa [loadCells] using this
theorem SeenB.loadAt {g : Nat} {W : World} {f : Nat → Bool} (h : SeenB g W f) : Sem.run Tryz.prog (Instr.loadAt 97 (.pointer (some ⟨g, 0, none⟩))) W = .ok (.agg (boolsV f)) W := by
  simp only [Instr.loadAt, Instr.sureAddr, Sem.run_bind, Sem.run_pure, Result.andThen]
  have hl : (loadCells ⟨g, 0, none⟩ 500).run Tryz.prog W = .ok (boolsV f) W := by
    have := h.load
    simpa [loadCells] using this
  have hu : Tryz.prog.underlying 97 = some (.array 500 4) := Tryz.underlying97
  have hi : (Tryz.prog.info? 97).map (·.size) = some 500 := by kernel_rfl
  cases hq : Tryz.prog.info? 97 with
  | none => simp [hq] at hi
  | some i =>
    have hs : i.size = 500 := by simpa [hq] using hi
    have hagg : (isAgg 97).run Tryz.prog W = .ok true W := by
      unfold isAgg
      rw [Sem.run_bind, run_underlying hu W]
      rfl
    simp [loadVar, Sem.run_bind, hagg, sizeOf, typeInfo, hq, hs, hl]
theorem wp_load_bools {g : Nat} {W : World} {f : Nat → Bool} (h : SeenB g W f) {o : Oper} {a : Act} {K : Act → World → Prop} {Q : Exit → Act → World → Prop} (x : Operand) (ho : o.op = .load 97 x) (hx : a.eval x = .pointer (some ⟨g, 0, none⟩))
    (hK : K (a.put o.dst (.agg (boolsV f))) W) : o.wp Tryz.prog a W K Q := by
  unfold Oper.wp execOp
  simp only [ho, hx, Sem.run_bind, h.loadAt, Sem.run_pure, Result.andThen_ok]
  exact hK
theorem wpList_load_bools {g : Nat} {W : World} {f : Nat → Bool} (h : SeenB g W f) {ops : Array Oper} {rest : List Oper} {o : Oper} {a : Act} {Q : Exit → Act → World → Prop} (hgd : o.guard = none) (x : Operand) (ho : o.op = .load 97 x) (hx : a.eval x = .pointer (some ⟨g, 0, none⟩))
    (hK : wpList Tryz.prog ops Q rest (a.put o.dst (.agg (boolsV f))) W) : wpList Tryz.prog ops Q (o :: rest) a W :=
  wpList_plain hgd fun _ hK' => wp_load_bools h x ho hx (hK' _ _ hK)
theorem bedsOf_bedL (vs : List Int) : bedsOf vs = bedL (fun i => vs.contains (i : Int)) 500 := by
  unfold bedsOf bedL
  rw [List.filter_map]
  rfl
/-- What has been seen of a board's beds. -/
def seenT (b : Brd) (k j : Nat) (f : Int) (i : Nat) : Bool := (allT b k j f).contains (i : Int) && decide (i ≠ 0)
theorem allOf_bedL (b : Brd) (f : Int) : allOf b = bedL (seenT b b.rings.length 0 f) 500 := by
  unfold allOf
  rw [bedsOf_bedL]
  unfold bedL seenT
  rw [List.filter_map, List.filter_filter, allT_end]
  congr 1
  apply List.filter_congr
  intro i _
  rw [Bool.and_comm]
  congr 1
  rw [Bool.eq_iff_iff]
  simp
theorem seenT_start (b : Brd) (f : Int) (i : Nat) : (decide (i = 125) || decide (i = 225)) = seenT b 0 0 f i := by
  unfold seenT allT
  rw [Bool.eq_iff_iff]
  simp
  omega
theorem seenT_num {b : Brd} {k j : Nat} {f x : Int} (h : b.nums[j]? = some x) (i : Nat) : seenT b k (j + 1) f i = (seenT b k j f i || (decide ((i : Int) = bedOf f x) && decide (i ≠ 0))) := by
  unfold seenT
  rw [allT_num b k j f x h, Bool.eq_iff_iff]
  simp only [List.contains_eq_mem, List.mem_append, List.mem_singleton, Bool.and_eq_true, Bool.or_eq_true, decide_eq_true_eq]
  constructor
  · rintro ⟨h1 | h1, h2⟩
    · exact .inl ⟨h1, h2⟩
    · exact .inr ⟨h1, h2⟩
  · rintro (⟨h1, h2⟩ | ⟨h1, h2⟩)
    · exact ⟨.inl h1, h2⟩
    · exact ⟨.inr h1, h2⟩
theorem seenT_ring {b : Brd} {k : Nat} {r : Int × Int} (h : b.rings[k]? = some r) (f : Int) (i : Nat) : seenT b k b.nums.length r.2 i = seenT b (k + 1) 0 f i := by
  unfold seenT; rw [allT_ring b k r h f]

set_option maxRecDepth 100000 in
set_option maxHeartbeats 8000000 in
theorem rAll_any (v : Value) (b : Brd) (w : World) (h : BrdAt w v b) (hc : chk b = 0) :
    Calls Tryz.prog 16 #[v] w (SlV (allOf b) w) := by
  obtain ⟨vr, vl, vn, rfl, sr, ⟨al, cl, rfl, ll, _⟩, sn⟩ := h
  have hCR := sr
  have hCN := sn
  obtain ⟨ar, cr, rfl, lr, _⟩ := sr
  obtain ⟨an, cn, rfl, ln, _⟩ := sn
  have HCR : Aside (∀ j p, b.rings[j]? = some p → ∃ g off, ar = some ⟨g, off, none⟩ ∧ w.cell? ⟨g, off + j * 2, none⟩ = some (.int .i64 p.1) ∧ w.cell? ⟨g, off + j * 2 + 1, none⟩ = some (.int .i64 p.2)) := cells_of hCR
  have HCN : Aside (∀ j, j < b.nums.length → ∃ g off, an = some ⟨g, off, none⟩ ∧ w.cell? ⟨g, off + j, none⟩ = some (.int .i64 (gi b.nums j))) := cells_one hCN
  have gd := good_of_chk hc
  have HG : Aside (Good b) := gd
  have hr10 := gd.len.1
  have hn10 := gd.len.2.2
  clear hCR hCN gd hc
  obtain ⟨nr, hnr⟩ : ∃ n, b.rings.length = n := ⟨_, rfl⟩
  obtain ⟨nn, hnn⟩ : ∃ n, b.nums.length = n := ⟨_, rfl⟩
  have HN : Aside (b.rings.length = nr ∧ b.nums.length = nn) := ⟨hnr, hnn⟩
  have HR : Aside (∀ f, allOf b = bedL (seenT b nr 0 f) 500) := by intro f; rw [← hnr]; exact allOf_bedL b f
  rw [hnr] at lr hr10 ⊢
  rw [hnn] at HCN ln hn10 ⊢
  clear hnr hnn
  generalize b.lines.length = nl at *
  obtain ⟨res, hres⟩ : ∃ x, allOf b = x := ⟨_, rfl⟩
  rw [hres] at HR ⊢
  clear hres
  go_enter Tryz.func16, Tryz.ntmps16
  go_upto_region 1 with (fail)
  obtain ⟨W0, hW0⟩ : ∃ W0, W0 = w.alloc (.cells #[.int .i64 b.eye, .int .i64 b.bull, .slice ar nr cr, .slice al nl cl, .slice an nn cn, .int .i64 b.wire] 26) := ⟨_, rfl⟩
  have B0 : Aside (Below w.heap.size w W0) := by rw [hW0]; clear hW0; show Below _ _ _; (repeat' (first | exact Below.refl _ _ | assumption | (with_reducible refine Below.drew ?_) | (with_reducible refine Below.setCell ?_ (by (first | (simp; done) | (simp; omega))) _) | (with_reducible refine below_drewN' ?_ _) | (refine Below.alloc ?_ (by (try simp only [World.size_alloc, World.size_drew, World.size_setCell]); omega) _) | (refine Below.trans ?_ (Below.mono (by assumption) (by (try simp only [World.size_alloc, World.size_drew, World.size_setCell]); omega)))))
  have x2 : W0.cell? ⟨w.heap.size, 2, none⟩ = some (.slice ar nr cr) := by rw [hW0]; clear hW0; go_simp
  have x4 : W0.cell? ⟨w.heap.size, 4, none⟩ = some (.slice an nn cn) := by rw [hW0]; clear hW0; go_simp
  rw [← hW0]
  clear hW0
  have hst := store_two W0
  go_upto_region 2 with (fail)
  obtain ⟨gs, hgs⟩ : ∃ gs, W0.heap.size = gs := ⟨_, rfl⟩
  have BS0 : Below W0.heap.size W0 (W0.alloc (.cells two 97)) := (Below.refl _ _).alloc (Nat.le_refl _) _
  have SE0 := seenB_two W0
  obtain ⟨US, hUS⟩ : ∃ US, US = W0.alloc (.cells two 97) := ⟨_, rfl⟩
  rw [← hUS, hgs] at SE0
  rw [← hUS] at BS0
  rw [← hUS, hgs]
  have HGS : Aside (W0.heap.size ≤ gs) := by show _ ≤ _; omega
  clear hst hUS hgs
  go_wp2_with fail
  go_loopg [4] nr (fun gg iv wr => ∃ k : Nat, k ≤ nr ∧ nr - k ≤ gg ∧ iv = .int .i64 k ∧ Aside (SeenB gs wr (seenT b k 0 0)) ∧ Aside (Below W0.heap.size W0 wr))
  case atStart => exact ⟨0, by omega, by omega, rfl, SE0.ext (fun i _ => seenT_start b 0 i), BS0⟩
  case round =>
    clear SE0 BS0
    obtain ⟨k, hk, hg, rfl, SE, BK⟩ := hrel
    have y2 := keepc BK.out x2
    by_cases hlt : k < nr
    · have hltz : (k : Int) < (nr : Int) := by omega
      obtain ⟨r, hr⟩ : ∃ r, b.rings[k]? = some r := ⟨_, List.getElem?_eq_getElem (by rw [HN.out.1]; exact hlt)⟩
      obtain ⟨g', off, rfl, _, c1⟩ := HCR.out k r hr
      have hfb := HG.out.fac r (List.mem_of_getElem? hr)
      have HE : Aside (∀ i, seenT b k nn r.2 i = seenT b (k + 1) 0 0 i) := by intro i; rw [← HN.out.2]; exact seenT_ring hr 0 i
      obtain ⟨ro, f⟩ := r
      simp only [] at c1 hfb HE
      clear hr
      have SE1 : Aside (SeenB gs wr (seenT b k 0 f)) := SE.out.ext (fun i _ => by unfold seenT; rw [allT_zero b k 0 f])
      have c1 := keepc B0.out c1
      clear SE
      obtain ⟨Wk, rfl⟩ : ∃ W' : World, W' = wr := ⟨_, rfl⟩
      go_wp2_with fail
      go_loopg [5] nn (fun gg iv wr => ∃ j : Nat, j ≤ nn ∧ nn - j ≤ gg ∧ iv = .int .i64 j ∧ Aside (SeenB gs wr (seenT b k j f)) ∧ Aside (Below W0.heap.size W0 wr))
      case atStart => exact ⟨0, by omega, by omega, rfl, SE1, BK⟩
      case round =>
        clear SE1
        obtain ⟨j, hj, hg2, rfl, SE, BJ⟩ := hrel
        have y4 := keepc BJ.out x4
        by_cases hlj : j < nn
        · have hljz : (j : Int) < (nn : Int) := by omega
          obtain ⟨gn, on, rfl, n0⟩ := HCN.out j hlj
          have n0 := keepc BJ.out (keepc B0.out n0)
          have y2 := keepc BJ.out x2
          have d1 := keepc BJ.out c1
          have hjl : j < b.nums.length := by rw [HN.out.2]; exact hlj
          have hnb := HG.out.num _ (gi_mem hjl)
          have HS : Aside (∀ i, seenT b k (j + 1) f i = (seenT b k j f i || (decide ((i : Int) = bedOf f (gi b.nums j)) && decide (i ≠ 0)))) := fun i => seenT_num (gi_get hjl) i
          obtain ⟨nu, hx⟩ : ∃ x, gi b.nums j = x := ⟨_, rfl⟩
          rw [hx] at n0 hnb HS
          clear hx
          by_cases hf : f = 0
          · subst hf
            have SE2 : Aside (SeenB gs wr (seenT b k (j + 1) 0)) := SE.out.ext (fun i _ => by
              rw [HS.out]
              unfold bedOf
              rw [if_pos rfl]
              have : (decide ((i : Int) = 0) && decide (i ≠ 0)) = false := by
                by_cases e : i = 0
                · subst e; rfl
                · rw [decide_eq_false (show ¬ (i : Int) = 0 by omega)]; rfl
              rw [this, Bool.or_false])
            go_wp2_with fail
            go_roundg (nn - (j + 1))
            case measure => omega
            case rel => exact ⟨j + 1, by omega, by omega, by go_num, SE2, BJ⟩
          · have hfz : (f != 0) = true := by rw [bne_iff_ne]; exact hf
            obtain ⟨xn, hxn⟩ : ∃ xn : Nat, 100 * f + nu = (xn : Int) := ⟨(100 * f + nu).toNat, by omega⟩
            have hx5 : xn < 500 := by omega
            have HSI : Aside (∀ i, i < 500 → (seenT b k j f i || i == xn) = seenT b k (j + 1) f i) := by
              intro i _
              rw [HS.out]
              unfold bedOf
              rw [if_neg hf, hxn]
              congr 1
              rw [Bool.eq_iff_iff]
              simp only [beq_iff_eq, Bool.and_eq_true, decide_eq_true_eq]
              omega
            have w1 : IntKind.i64.wrap (100 * f) = 100 * f := IntWalk.i64_in _ (by omega)
            have w2 : IntKind.i64.wrap (100 * f + nu) = (xn : Int) := by rw [IntWalk.i64_in _ (by omega)]; exact hxn
            have hz1 : ¬ (499 : Int) < (xn : Int) := by omega
            have hz0 : ¬ (xn : Int) < 0 := by omega
            clear hxn HS hf
            have HWW : Aside (IntKind.i64.wrap (100 * f) = 100 * f ∧ IntKind.i64.wrap (100 * f + nu) = (xn : Int)) := ⟨w1, w2⟩
            have HZZ : Aside ((xn : Int) < 500 ∧ ¬ (xn : Int) < 0) := ⟨by omega, hz0⟩
            clear w1 w2 hz1 hz0
            go_upto_region 9 with (fail)
            refine region_laid (fl := 18) [true, true, true, true, true, true, true, true, true, true, true, true, true, true, false] 1 (fun (i : Nat) (x : Value) (ww : World) => (match i with | 0 => x = .pointer (some ⟨w.heap.size, 2, none⟩) | 1 => x = .slice (some ⟨g', off, none⟩) nr cr | 2 => x = .int .i64 k | 3 => x = .pointer (some ⟨g', off + k * 2, none⟩) | 4 => x = .pointer (some ⟨g', off + k * 2 + 1, none⟩) | 5 => x = .int .i64 f | 6 => x = .int .i64 (100 * f) | 7 => x = .pointer (some ⟨w.heap.size, 4, none⟩) | 8 => x = .slice (some ⟨gn, on, none⟩) nn cn | 9 => x = .int .i64 j | 10 => x = .pointer (some ⟨gn, on + j, none⟩) | 11 => x = .int .i64 nu | 12 => x = .int .i64 xn | 13 => x = .pointer (some ⟨gs, xn, none⟩) | _ => True : Prop)) (fun w' => Below wr.heap.size wr w') (by kernel_rfl) rfl (by show layable _ 44 _ 18 = true; decide +kernel) rfl ((Below.refl _ _).drew) ?mono9 ?step9 ?rest9
            case mono9 =>
              intro i x ww ww' hB h
              match i, h with
              | 0, h => exact h
              | 1, h => exact h
              | 2, h => exact h
              | 3, h => exact h
              | 4, h => exact h
              | 5, h => exact h
              | 6, h => exact h
              | 7, h => exact h
              | 8, h => exact h
              | 9, h => exact h
              | 10, h => exact h
              | 11, h => exact h
              | 12, h => exact h
              | 13, h => exact h
              | n + 14, h => exact h
            case step9 =>
              intro i o_ listed ac W hA ho hL he
              have hk1 : ac.tmps.getD 1 undef = .pointer (some ⟨w.heap.size, 0, none⟩) := hL.kept 1 (by decide +kernel)
              have hk3 : ac.tmps.getD 3 undef = .pointer (some ⟨gs, 0, none⟩) := hL.kept 3 (by decide +kernel)
              have hk4 : ac.tmps.getD 4 undef = .int .i64 k := hL.kept 4 (by decide +kernel)
              have hk5 : ac.tmps.getD 5 undef = .int .i64 j := hL.kept 5 (by decide +kernel)
              have CL : ∀ W', Below W.heap.size W W' → Below wr.heap.size wr W' := fun W' h => hL.cls.trans (h.mono hL.cls.size)
              have k_d1 := keepc hL.cls d1
              have k_n0 := keepc hL.cls n0
              have k_y2 := keepc hL.cls y2
              have k_y4 := keepc hL.cls y4
              match i, hA, ho with
              | 0, _, ho =>
                cases ho
                refine wpOp_plain rfl rfl ?_
                unfold Oper.wp
                go_simp
                exact ⟨_, rfl, Below.refl _ _, CL _ (Below.refl _ _), rfl⟩
              | 1, _, ho =>
                cases ho
                have d0 : ac.tmps.getD 28 undef = .pointer (some ⟨w.heap.size, 2, none⟩) := hL.new 0 _ 28 rfl (he ⟨0, .data⟩ (by simp) rfl) rfl
                refine wpOp_plain rfl rfl ?_
                unfold Oper.wp
                go_simp
                exact ⟨_, rfl, Below.refl _ _, CL _ (Below.refl _ _), rfl⟩
              | 2, _, ho =>
                cases ho
                refine wpOp_plain rfl rfl ?_
                unfold Oper.wp
                go_simp
                exact ⟨_, rfl, Below.refl _ _, CL _ (Below.refl _ _), rfl⟩
              | 3, _, ho =>
                cases ho
                have d1 : ac.tmps.getD 29 undef = .slice (some ⟨g', off, none⟩) nr cr := hL.new 1 _ 29 rfl (he ⟨1, .data⟩ (by simp) rfl) rfl
                have d2 : ac.tmps.getD 30 undef = .int .i64 k := hL.new 2 _ 30 rfl (he ⟨2, .data⟩ (by simp) rfl) rfl
                refine wpOp_plain rfl rfl ?_
                unfold Oper.wp
                go_simp
                exact ⟨_, rfl, Below.refl _ _, CL _ (Below.refl _ _), rfl⟩
              | 4, _, ho =>
                cases ho
                have d3 : ac.tmps.getD 31 undef = .pointer (some ⟨g', off + k * 2, none⟩) := hL.new 3 _ 31 rfl (he ⟨3, .data⟩ (by simp) rfl) rfl
                refine wpOp_plain rfl rfl ?_
                unfold Oper.wp
                go_simp
                exact ⟨_, rfl, Below.refl _ _, CL _ (Below.refl _ _), rfl⟩
              | 5, _, ho =>
                cases ho
                have d4 : ac.tmps.getD 32 undef = .pointer (some ⟨g', off + k * 2 + 1, none⟩) := hL.new 4 _ 32 rfl (he ⟨4, .data⟩ (by simp) rfl) rfl
                refine wpOp_plain rfl rfl ?_
                unfold Oper.wp
                go_simp
                exact ⟨_, rfl, Below.refl _ _, CL _ (Below.refl _ _), rfl⟩
              | 6, _, ho =>
                cases ho
                have d5 : ac.tmps.getD 33 undef = .int .i64 f := hL.new 5 _ 33 rfl (he ⟨5, .data⟩ (by simp) rfl) rfl
                obtain ⟨hw0, hw1⟩ := HWW.out
                refine wpOp_plain rfl rfl ?_
                unfold Oper.wp
                go_simp
                exact ⟨_, rfl, Below.refl _ _, CL _ (Below.refl _ _), rfl⟩
              | 7, _, ho =>
                cases ho
                refine wpOp_plain rfl rfl ?_
                unfold Oper.wp
                go_simp
                exact ⟨_, rfl, Below.refl _ _, CL _ (Below.refl _ _), rfl⟩
              | 8, _, ho =>
                cases ho
                have d7 : ac.tmps.getD 35 undef = .pointer (some ⟨w.heap.size, 4, none⟩) := hL.new 7 _ 35 rfl (he ⟨7, .data⟩ (by simp) rfl) rfl
                refine wpOp_plain rfl rfl ?_
                unfold Oper.wp
                go_simp
                exact ⟨_, rfl, Below.refl _ _, CL _ (Below.refl _ _), rfl⟩
              | 9, _, ho =>
                cases ho
                refine wpOp_plain rfl rfl ?_
                unfold Oper.wp
                go_simp
                exact ⟨_, rfl, Below.refl _ _, CL _ (Below.refl _ _), rfl⟩
              | 10, _, ho =>
                cases ho
                have d8 : ac.tmps.getD 36 undef = .slice (some ⟨gn, on, none⟩) nn cn := hL.new 8 _ 36 rfl (he ⟨8, .data⟩ (by simp) rfl) rfl
                have d9 : ac.tmps.getD 37 undef = .int .i64 j := hL.new 9 _ 37 rfl (he ⟨9, .data⟩ (by simp) rfl) rfl
                refine wpOp_plain rfl rfl ?_
                unfold Oper.wp
                go_simp
                exact ⟨_, rfl, Below.refl _ _, CL _ (Below.refl _ _), rfl⟩
              | 11, _, ho =>
                cases ho
                have d10 : ac.tmps.getD 38 undef = .pointer (some ⟨gn, on + j, none⟩) := hL.new 10 _ 38 rfl (he ⟨10, .data⟩ (by simp) rfl) rfl
                refine wpOp_plain rfl rfl ?_
                unfold Oper.wp
                go_simp
                exact ⟨_, rfl, Below.refl _ _, CL _ (Below.refl _ _), rfl⟩
              | 12, _, ho =>
                cases ho
                have d6 : ac.tmps.getD 34 undef = .int .i64 (100 * f) := hL.new 6 _ 34 rfl (he ⟨6, .data⟩ (by simp) rfl) rfl
                have d11 : ac.tmps.getD 39 undef = .int .i64 nu := hL.new 11 _ 39 rfl (he ⟨11, .data⟩ (by simp) rfl) rfl
                obtain ⟨hw0, hw1⟩ := HWW.out
                refine wpOp_plain rfl rfl ?_
                unfold Oper.wp
                go_simp
                exact ⟨_, rfl, Below.refl _ _, CL _ (Below.refl _ _), rfl⟩
              | 13, _, ho =>
                cases ho
                have d12 : ac.tmps.getD 40 undef = .int .i64 xn := hL.new 12 _ 40 rfl (he ⟨12, .data⟩ (by simp) rfl) rfl
                obtain ⟨hz1, hz0⟩ := HZZ.out
                refine wpOp_plain rfl rfl ?_
                unfold Oper.wp
                go_simp
                exact ⟨_, rfl, Below.refl _ _, CL _ (Below.refl _ _), rfl⟩
              | 14, hA, _ => cases hA
              | n + 15, hA, _ => simp at hA
            case rest9 =>
              intro ac W9 hL
              have e28 : ac.tmps.getD 28 undef = .pointer (some ⟨w.heap.size, 2, none⟩) := hL.new 0 _ 28 rfl rfl rfl
              have e29 : ac.tmps.getD 29 undef = .slice (some ⟨g', off, none⟩) nr cr := hL.new 1 _ 29 rfl rfl rfl
              have e30 : ac.tmps.getD 30 undef = .int .i64 k := hL.new 2 _ 30 rfl rfl rfl
              have e31 : ac.tmps.getD 31 undef = .pointer (some ⟨g', off + k * 2, none⟩) := hL.new 3 _ 31 rfl rfl rfl
              have e32 : ac.tmps.getD 32 undef = .pointer (some ⟨g', off + k * 2 + 1, none⟩) := hL.new 4 _ 32 rfl rfl rfl
              have e33 : ac.tmps.getD 33 undef = .int .i64 f := hL.new 5 _ 33 rfl rfl rfl
              have e34 : ac.tmps.getD 34 undef = .int .i64 (100 * f) := hL.new 6 _ 34 rfl rfl rfl
              have e35 : ac.tmps.getD 35 undef = .pointer (some ⟨w.heap.size, 4, none⟩) := hL.new 7 _ 35 rfl rfl rfl
              have e36 : ac.tmps.getD 36 undef = .slice (some ⟨gn, on, none⟩) nn cn := hL.new 8 _ 36 rfl rfl rfl
              have e37 : ac.tmps.getD 37 undef = .int .i64 j := hL.new 9 _ 37 rfl rfl rfl
              have e38 : ac.tmps.getD 38 undef = .pointer (some ⟨gn, on + j, none⟩) := hL.new 10 _ 38 rfl rfl rfl
              have e39 : ac.tmps.getD 39 undef = .int .i64 nu := hL.new 11 _ 39 rfl rfl rfl
              have e40 : ac.tmps.getD 40 undef = .int .i64 xn := hL.new 12 _ 40 rfl rfl rfl
              have e41 : ac.tmps.getD 41 undef = .pointer (some ⟨gs, xn, none⟩) := hL.new 13 _ 41 rfl rfl rfl
              have es := hL.sets [28, 29, 30, 31, 32, 33, 34, 35, 36, 37, 38, 39, 40, 41] (by decide +kernel)
              rw [List.foldl_cons, List.foldl_cons, List.foldl_cons, List.foldl_cons, List.foldl_cons, List.foldl_cons, List.foldl_cons, List.foldl_cons, List.foldl_cons, List.foldl_cons, List.foldl_cons, List.foldl_cons, List.foldl_cons, List.foldl_cons, List.foldl_nil, e28, e29, e30, e31, e32, e33, e34, e35, e36, e37, e38, e39, e40, e41] at es
              have BN : Below wr.heap.size wr W9 := hL.cls
              rw [es]
              clear es hL e28 e29 e30 e31 e32 e33 e34 e35 e36 e37 e38 e39 e40 e41
              simp only [List.setIfInBounds_toArray, List.set_cons_zero, List.set_cons_succ]
              obtain ⟨se1, se2⟩ := (SE.out.below BN) xn hx5
              have HSE : Aside (SeenB gs (W9.setCell ⟨gs, xn, none⟩ (.bool true)) (seenT b k (j + 1) f)) := ((SE.out.below BN).set xn hx5).ext HSI.out
              have B9 := BJ.out.trans (BN.mono BJ.out.size)
              refine wpAny_one (i := 14) (by decide +kernel) rfl rfl ?_
              unfold Oper.wp
              go_simp
              refine wpAny_done (by decide +kernel) ?_ _
              go_wp2_with fail
              go_roundg (nn - (j + 1))
              case measure => omega
              case rel => exact ⟨j + 1, by omega, by omega, by go_num, HSE, B9.setCell (p := ⟨gs, xn, none⟩) HGS.out _⟩
        · have hje : nn = j := by omega
          subst hje
          have hljz : ¬ (nn : Int) < (nn : Int) := by omega
          have SE2 : Aside (SeenB gs wr (seenT b (k + 1) 0 0)) := SE.out.ext (fun i _ => HE.out i)
          go_wp2_with fail
          go_roundg (nr - (k + 1))
          case measure => omega
          case rel => exact ⟨k + 1, by omega, by omega, by go_num, SE2, BJ⟩
    · have hke : nr = k := by omega
      subst hke
      have hltz : ¬ (nr : Int) < (nr : Int) := by omega
      have hse := SE.out
      have hx := rSorted_any (boolsV (seenT b nr 0 0)) (seenT b nr 0 0) wr (boolsV_size _) (boolsV_get _)
      rw [← HR.out 0] at hx
      unfold SlV at hx
      go_wp2_with (first | (refine wpList_load_bools hse rfl _ rfl rfl ?_) | (go_at_call 48; (with_reducible refine hx.mono ?_); rintro e w1 ⟨u, rfl, hsl, hb1⟩))
      go_ret
      exact ⟨_, rfl, hsl, B0.out.trans ((BK.out.trans (hb1.mono BK.out.size)).mono B0.out.size)⟩
end Go.Proofs.YtgceffpkhmjmkaaGreat

namespace Go.Proofs.YtgceffpkhmjmkaaGreat
open Go.RowKit Go.Shelf

/-- Which beds the first i points are in. -/
def seenQ (b : Brd) (x y : Int) (sy i : Nat) (n : Nat) : Bool := (valsOf b x y sy i).contains (n : Int)
theorem seenQ_zero (b : Brd) (x y : Int) (sy : Nat) (n : Nat) : false = seenQ b x y sy 0 n := rfl
theorem seenQ_succ (b : Brd) (x y : Int) (sy i k : Nat) (h : bedW b (ptAt x y sy i) = (k : Int)) (n : Nat) : (seenQ b x y sy i n || n == k) = seenQ b x y sy (i + 1) n := by
  unfold seenQ
  rw [valsOf_succ, h, Bool.eq_iff_iff]
  simp only [List.contains_iff_mem, Bool.or_eq_true, beq_iff_eq, List.mem_append, List.mem_singleton]
  rw [Int.ofNat_inj]
theorem ptAt_at (x y : Int) (sy a c : Nat) (h : c < sy) : ptAt x y sy (a * sy + c) = (x + a, y + c) := by
  unfold ptAt
  have h1 : (a * sy + c) / sy = a := by rw [Nat.mul_comm, Nat.mul_add_div (by omega), Nat.div_eq_of_lt h, Nat.add_zero]
  have h2 : (a * sy + c) % sy = c := by rw [Nat.mul_comm, Nat.mul_add_mod, Nat.mod_eq_of_lt h]
  rw [h1, h2]

set_option maxRecDepth 100000 in
set_option maxHeartbeats 8000000 in
theorem rBeds_any (v : Value) (b : Brd) (x1 x2 y1 y2 : Int) (sx sy : Nat) (w : World) (h : BrdAt w v b) (hc : chk b = 0) (hx : validS (x1, x2) = true) (hy : validS (y1, y2) = true) (hsx : x2 - x1 + 1 = sx) (hsy : y2 - y1 + 1 = sy) :
    Calls Tryz.prog 22 #[v, .agg #[.int .i64 x1, .int .i64 x2, .int .i64 y1, .int .i64 y2]] w (SlV (bedsOf (valsOf b x1 y1 sy (sx * sy))) w) := by
  have HB : Aside (BrdAt w v b) := h
  have HC : Aside (chk b = 0) := hc
  rw [validS_eq] at hx hy
  simp only [Bool.and_eq_true, decide_eq_true_eq] at hx hy
  obtain ⟨⟨a1, a2⟩, a3⟩ := hx
  obtain ⟨⟨e1, e2⟩, e3⟩ := hy
  obtain ⟨vr, vl, vn, rfl, hr, hl, hn⟩ := h
  obtain ⟨ar, cr, rfl, lr, _⟩ := hr
  obtain ⟨al, cl, rfl, ll, _⟩ := hl
  obtain ⟨an, cn, rfl, ln, _⟩ := hn
  have HBED : Aside (∀ p, Pt5 p → ∀ W, Below w.heap.size w W → Calls Tryz.prog 18 #[.agg #[.int .i64 b.eye, .int .i64 b.bull, .slice ar b.rings.length cr, .slice al b.lines.length cl, .slice an b.nums.length cn, .int .i64 b.wire], pt p] W (Ret (.int .i64 (bedW b p)) W)) := fun p hp W hW => rBed_any _ b p W (HB.out.below hW) HC.out hp
  have HR : Aside (∀ W (cs : Array Value), cs = boolsV (seenQ b x1 y1 sy (sx * sy)) → Calls Tryz.prog 48 #[.agg cs] W (SlV (bedsOf (valsOf b x1 y1 sy (sx * sy))) W)) := fun W cs e => by
    subst e
    rw [bedsOf_bedL]
    exact rSorted_any _ (seenQ b x1 y1 sy (sx * sy)) W (boolsV_size _) (boolsV_get _)
  have HBW : Aside (∀ p, 0 ≤ bedW b p ∧ bedW b p < 500) := fun p => by have := bedW_bd HC.out p; exact this
  clear HB hc
  generalize b.rings.length = nr at *
  generalize b.lines.length = nl at *
  generalize b.nums.length = nn at *
  obtain ⟨res, hres⟩ : ∃ x, bedsOf (valsOf b x1 y1 sy (sx * sy)) = x := ⟨_, rfl⟩
  rw [hres] at HR ⊢
  clear hres
  go_enter Tryz.func22, Tryz.ntmps22
  go_upto_region 1 with (fail)
  obtain ⟨W0, hW0⟩ : ∃ W0, W0 = (w.alloc (.cells #[.int .i64 b.eye, .int .i64 b.bull, .slice ar nr cr, .slice al nl cl, .slice an nn cn, .int .i64 b.wire] 26)).alloc (.cells #[.int .i64 x1, .int .i64 x2, .int .i64 y1, .int .i64 y2] 49) := ⟨_, rfl⟩
  have B0 : Aside (Below w.heap.size w W0) := by rw [hW0]; clear hW0; show Below _ _ _; (repeat' (first | exact Below.refl _ _ | assumption | (with_reducible refine Below.drew ?_) | (with_reducible refine Below.setCell ?_ (by (first | (simp; done) | (simp; omega))) _) | (with_reducible refine below_drewN' ?_ _) | (refine Below.alloc ?_ (by (try simp only [World.size_alloc, World.size_drew, World.size_setCell]); omega) _) | (refine Below.trans ?_ (Below.mono (by assumption) (by (try simp only [World.size_alloc, World.size_drew, World.size_setCell]); omega)))))
  have x_0 : W0.cell? ⟨w.heap.size, 0, none⟩ = some (.int .i64 b.eye) := by rw [hW0]; clear hW0; go_simp
  have x_1 : W0.cell? ⟨w.heap.size, 1, none⟩ = some (.int .i64 b.bull) := by rw [hW0]; clear hW0; go_simp
  have x_2 : W0.cell? ⟨w.heap.size, 2, none⟩ = some (.slice ar nr cr) := by rw [hW0]; clear hW0; go_simp
  have x_3 : W0.cell? ⟨w.heap.size, 3, none⟩ = some (.slice al nl cl) := by rw [hW0]; clear hW0; go_simp
  have x_4 : W0.cell? ⟨w.heap.size, 4, none⟩ = some (.slice an nn cn) := by rw [hW0]; clear hW0; go_simp
  have x_5 : W0.cell? ⟨w.heap.size, 5, none⟩ = some (.int .i64 b.wire) := by rw [hW0]; clear hW0; go_simp
  have q_0 : W0.cell? ⟨w.heap.size + 1, 0, none⟩ = some (.int .i64 x1) := by rw [hW0]; clear hW0; go_simp
  have q_1 : W0.cell? ⟨w.heap.size + 1, 1, none⟩ = some (.int .i64 x2) := by rw [hW0]; clear hW0; go_simp
  have q_2 : W0.cell? ⟨w.heap.size + 1, 2, none⟩ = some (.int .i64 y1) := by rw [hW0]; clear hW0; go_simp
  have q_3 : W0.cell? ⟨w.heap.size + 1, 3, none⟩ = some (.int .i64 y2) := by rw [hW0]; clear hW0; go_simp
  rw [← hW0]
  clear hW0
  have hst := store_none W0
  go_upto_region 2 with (fail)
  obtain ⟨gs, hgs⟩ : ∃ gs, W0.heap.size = gs := ⟨_, rfl⟩
  have BS0 : Below W0.heap.size W0 (W0.alloc (.cells Tryz.zeroCells97 97)) := (Below.refl _ _).alloc (Nat.le_refl _) _
  have SE0 := seenB_none W0
  obtain ⟨US, hUS⟩ : ∃ US, US = W0.alloc (.cells Tryz.zeroCells97 97) := ⟨_, rfl⟩
  rw [← hUS, hgs] at SE0
  rw [← hUS] at BS0
  rw [← hUS, hgs]
  have HGS : Aside (W0.heap.size ≤ gs) := by show _ ≤ _; omega
  clear hst hUS hgs
  have u_0 := keepc BS0 q_0
  go_wp2_with fail
  clear u_0
  go_loopg [6] sx (fun gg iv wr => ∃ a : Nat, a ≤ sx ∧ sx - a ≤ gg ∧ iv = .int .i64 (x1 + a) ∧ Aside (SeenB gs wr (seenQ b x1 y1 sy (a * sy))) ∧ Aside (Below W0.heap.size W0 wr))
  case atStart => exact ⟨0, by omega, by omega, by simp, SE0.ext (fun i _ => by rw [Nat.zero_mul]; exact seenQ_zero b x1 y1 sy i), BS0⟩
  case round =>
    clear SE0 BS0
    obtain ⟨a, ha, hg, rfl, SE, BK⟩ := hrel
    have z_1 := keepc BK.out q_1
    have z_2 := keepc BK.out q_2
    obtain ⟨Wk, rfl⟩ : ∃ W' : World, W' = wr := ⟨_, rfl⟩
    by_cases hlt : a < sx
    · have hc1 : x1 + (a : Int) ≤ x2 := by omega
      go_wp2_with fail
      go_loopg [7] sy (fun gg iv wr => ∃ c : Nat, c ≤ sy ∧ sy - c ≤ gg ∧ iv = .int .i64 (y1 + c) ∧ Aside (SeenB gs wr (seenQ b x1 y1 sy (a * sy + c))) ∧ Aside (Below W0.heap.size W0 wr))
      case atStart => exact ⟨0, by omega, by omega, by simp, SE, BK⟩
      case round =>
        clear SE z_1 z_2
        obtain ⟨c, hcc, hg2, rfl, SE, BJ⟩ := hrel
        have z_3 := keepc BJ.out q_3
        by_cases hlj : c < sy
        · have hc2 : y1 + (c : Int) ≤ y2 := by omega
          have HP : Aside (ptAt x1 y1 sy (a * sy + c) = (x1 + (a : Int), y1 + (c : Int))) := ptAt_at x1 y1 sy a c hlj
          have hcb := fun W (hW : Below w.heap.size w W) => HBED.out (x1 + (a : Int), y1 + (c : Int)) (by unfold Pt5; simp only []; omega) W hW
          unfold pt at hcb
          simp only [] at hcb
          have hbw := HBW.out (x1 + (a : Int), y1 + (c : Int))
          obtain ⟨xn, hxn⟩ : ∃ xn : Nat, bedW b (x1 + (a : Int), y1 + (c : Int)) = (xn : Int) := ⟨(bedW b (x1 + (a : Int), y1 + (c : Int))).toNat, by omega⟩
          have HS : Aside (∀ n, (seenQ b x1 y1 sy (a * sy + c) n || n == xn) = seenQ b x1 y1 sy (a * sy + c + 1) n) := fun n => seenQ_succ b x1 y1 sy (a * sy + c) xn (by rw [HP.out]; exact hxn) n
          rw [hxn] at hcb hbw
          have hx5 : xn < 500 := by omega
          clear hxn HP hbw
          have z_x0 := keepc BJ.out x_0
          have z_x1 := keepc BJ.out x_1
          have z_x2 := keepc BJ.out x_2
          have z_x3 := keepc BJ.out x_3
          have z_x4 := keepc BJ.out x_4
          have z_x5 := keepc BJ.out x_5
          have BWr : Aside (Below w.heap.size w wr) := B0.out.trans (BJ.out.mono B0.out.size)
          have hcb2 : Aside _ := hcb
          clear hcb
          go_wp2_with fail
          refine (hcb2.out _ BWr.out).mono ?_
          rintro e w1 ⟨rfl, hb1⟩
          have HSE : Aside (SeenB gs (w1.setCell ⟨gs, xn, none⟩ (.bool true)) (seenQ b x1 y1 sy (a * sy + c + 1))) := ((SE.out.below hb1).set xn hx5).ext (fun n _ => HS.out n)
          obtain ⟨se1, se2⟩ := (SE.out.below hb1) xn hx5
          have BW1 : Aside (Below W0.heap.size W0 (w1.setCell ⟨gs, xn, none⟩ (.bool true))) := (BJ.out.trans (hb1.mono BJ.out.size)).setCell (p := ⟨gs, xn, none⟩) HGS.out _
          have hz1 : ¬ (499 : Int) < (xn : Int) := by omega
          have hz0 : ¬ (xn : Int) < 0 := by omega
          clear z_3 z_x0 z_x1 z_x2 z_x3 z_x4 z_x5
          have w_1 : IntKind.i64.wrap (y1 + (c : Int) + 1) = y1 + ((c + 1 : Nat) : Int) := by rw [IntWalk.i64_in _ (by omega)]; omega
          go_wp2_with fail
          go_roundg (sy - (c + 1))
          case measure => omega
          case rel => exact ⟨c + 1, by omega, by omega, by first | rfl | (congr 1; omega), HSE, BW1⟩
        · have hc2 : ¬ y1 + (c : Int) ≤ y2 := by omega
          have hce : c = sy := by omega
          have SE2 : Aside (SeenB gs wr (seenQ b x1 y1 sy ((a + 1) * sy))) := by have := SE.out; rw [hce] at this; rw [Nat.add_mul, Nat.one_mul]; exact this
          have w_1 : IntKind.i64.wrap (x1 + (a : Int) + 1) = x1 + ((a + 1 : Nat) : Int) := by rw [IntWalk.i64_in _ (by omega)]; omega
          clear hce SE
          go_wp2_with fail
          go_roundg (sx - (a + 1))
          case measure => omega
          case rel => exact ⟨a + 1, by omega, by omega, by first | rfl | (congr 1; omega), SE2, BJ⟩
    · have hc1 : ¬ x1 + (a : Int) ≤ x2 := by omega
      have hae : a = sx := by omega
      have SE2 : SeenB gs Wk (seenQ b x1 y1 sy (sx * sy)) := by have := SE.out; rw [hae] at this; exact this
      clear hae SE
      go_wp2_with (refine wpList_load_bools SE2 rfl _ rfl rfl ?_)
      refine (HR.out _ _ rfl).mono ?_
      rintro e w1 ⟨vv, rfl, hs1, hb1⟩
      go_wp2_with fail
      go_ret
      exact ⟨vv, rfl, hs1, B0.out.trans ((BK.out.trans (hb1.mono BK.out.size)).mono B0.out.size)⟩
end Go.Proofs.YtgceffpkhmjmkaaGreat

namespace Go.Proofs.YtgceffpkhmjmkaaGreat
open Go.RowKit Go.Shelf

set_option maxRecDepth 100000 in
set_option maxHeartbeats 16000000 in
theorem boxes_law (v : Value) (b : Brd) (xa xb ya yb : Int) (w : World) (h : BrdAt w v b) :
    Calls Tryz.prog 4 #[v, .agg #[.int .i64 xa, .int .i64 xb, .int .i64 ya, .int .i64 yb]] w (Ret (.bool true) w) := by
  have HB : Aside (BrdAt w v b) := h
  obtain ⟨vr, vl, vn, rfl, hr, hl, hn⟩ := h
  obtain ⟨ar, cr, rfl, lr, _⟩ := hr
  obtain ⟨al, cl, rfl, ll, _⟩ := hl
  obtain ⟨an, cn, rfl, ln, _⟩ := hn
  have HGR : Aside (∀ W, Below w.heap.size w W → Calls Tryz.prog 7 #[.agg #[.int .i64 b.eye, .int .i64 b.bull, .slice ar b.rings.length cr, .slice al b.lines.length cl, .slice an b.nums.length cn, .int .i64 b.wire]] W (Ret (.bool (greatB b)) W)) := fun W hW => great_any _ b W (HB.out.below hW)
  have HKN : Aside (∀ W, Calls Tryz.prog 8 #[] W (Ret (.bool true) W)) := fun W => known_any W
  have HOW : Aside (greatB b = false → ∀ W, Below w.heap.size w W → Calls Tryz.prog 9 #[.agg #[.int .i64 b.eye, .int .i64 b.bull, .slice ar b.rings.length cr, .slice al b.lines.length cl, .slice an b.nums.length cn, .int .i64 b.wire]] W (fun e w' => ∃ v', e = .returned v' ∧ BrdAt w' v' b ∧ Below W.heap.size W w')) := fun hg W hW => by
    have hs := small_of hg
    refine (own_all _ b W (HB.out.below hW) (by have := hs.rl; omega) (by have := hs.ll; omega) (by have := hs.nl; omega)).mono ?_
    rintro e w' ⟨g1, c1, g2, c2, g3, c3, rfl, h1, h2⟩
    exact ⟨_, rfl, h1, h2⟩
  have HRC : Aside (greatB b = false → ∀ W, Below w.heap.size w W → Calls Tryz.prog 13 #[.agg #[.int .i64 b.eye, .int .i64 b.bull, .slice ar b.rings.length cr, .slice al b.lines.length cl, .slice an b.nums.length cn, .int .i64 b.wire]] W (Ret (.int .i64 (chk b)) W)) := fun hg W hW => rCheck_any _ b W (HB.out.below hW) (small_of hg)
  have HBX : Aside (∀ W, Calls Tryz.prog 20 #[.agg #[.int .i64 xa, .int .i64 xb, .int .i64 ya, .int .i64 yb]] W (Ret (.int .i64 (boxE xa xb ya yb)) W)) := fun W => rBox_any xa xb ya yb W
  have HBE : Aside (∀ E, (if chk b = 0 then boxE xa xb ya yb else chk b) = E → E ≠ 0 → ∀ u W, BrdAt W u b → Calls Tryz.prog 21 #[u, .agg #[.int .i64 xa, .int .i64 xb, .int .i64 ya, .int .i64 yb]] W (Ret (.tuple #[.slice none 0 0, .int .i64 E]) W)) := fun E h1 h2 u W h => Beds_err u b xa xb ya yb W h E h1 h2
  have HBO : Aside (chk b = 0 → ∀ (sx sy : Nat), validS (xa, xb) = true → validS (ya, yb) = true → xb - xa + 1 = sx → yb - ya + 1 = sy → sx * sy ≤ 2500 → ∀ u W, BrdAt W u b → Calls Tryz.prog 21 #[u, .agg #[.int .i64 xa, .int .i64 xb, .int .i64 ya, .int .i64 yb]] W (BedsOk (bedsOf (valsOf b xa ya sy (sx * sy))) W)) := fun hc sx sy h1 h2 h3 h4 h5 u W h => Beds_ok u b xa xb ya yb sx sy W h hc h1 h2 h3 h4 h5
  have HRB : Aside (chk b = 0 → ∀ (sx sy : Nat), validS (xa, xb) = true → validS (ya, yb) = true → xb - xa + 1 = sx → yb - ya + 1 = sy → ∀ W, Below w.heap.size w W → Calls Tryz.prog 22 #[.agg #[.int .i64 b.eye, .int .i64 b.bull, .slice ar b.rings.length cr, .slice al b.lines.length cl, .slice an b.nums.length cn, .int .i64 b.wire], .agg #[.int .i64 xa, .int .i64 xb, .int .i64 ya, .int .i64 yb]] W (SlV (bedsOf (valsOf b xa ya sy (sx * sy))) W)) := fun hc sx sy h1 h2 h3 h4 W hW => rBeds_any _ b xa xb ya yb sx sy W (HB.out.below hW) hc h1 h2 h3 h4
  have HXE : Aside (boxE xa xb ya yb = if (validS (xa, xb) && validS (ya, yb)) = true then (if 2500 < (xb - xa + 1) * (yb - ya + 1) then 8 else 0) else 2) := rfl
  clear HB
  obtain ⟨gb, hgb⟩ : ∃ x, greatB b = x := ⟨_, rfl⟩
  obtain ⟨ck, hck⟩ : ∃ x, chk b = x := ⟨_, rfl⟩
  obtain ⟨bx, hbx⟩ : ∃ x, boxE xa xb ya yb = x := ⟨_, rfl⟩
  rw [hgb] at HGR HOW HRC
  rw [hck] at HRC HBE HBO HRB
  rw [hbx] at HBX HBE HXE
  clear hgb hck hbx
  generalize b.rings.length = nr at *
  generalize b.lines.length = nl at *
  generalize b.nums.length = nn at *
  generalize b.eye = ey at *
  generalize b.bull = bu at *
  generalize b.wire = wi at *
  go_enter Tryz.func4, Tryz.ntmps4
  go_upto_region 1 with (fail)
  obtain ⟨W0, hW0⟩ : ∃ W0, W0 = (w.alloc (.cells #[.int .i64 ey, .int .i64 bu, .slice ar nr cr, .slice al nl cl, .slice an nn cn, .int .i64 wi] 26)).alloc (.cells #[.int .i64 xa, .int .i64 xb, .int .i64 ya, .int .i64 yb] 49) := ⟨_, rfl⟩
  have B0 : Aside (Below w.heap.size w W0) := by rw [hW0]; clear hW0; show Below _ _ _; (repeat' (first | exact Below.refl _ _ | assumption | (with_reducible refine Below.drew ?_) | (with_reducible refine Below.setCell ?_ (by (first | (simp; done) | (simp; omega))) _) | (with_reducible refine below_drewN' ?_ _) | (refine Below.alloc ?_ (by (try simp only [World.size_alloc, World.size_drew, World.size_setCell]); omega) _) | (refine Below.trans ?_ (Below.mono (by assumption) (by (try simp only [World.size_alloc, World.size_drew, World.size_setCell]); omega)))))
  have x_0 : W0.cell? ⟨w.heap.size, 0, none⟩ = some (.int .i64 ey) := by rw [hW0]; clear hW0; go_simp
  have x_1 : W0.cell? ⟨w.heap.size, 1, none⟩ = some (.int .i64 bu) := by rw [hW0]; clear hW0; go_simp
  have x_2 : W0.cell? ⟨w.heap.size, 2, none⟩ = some (.slice ar nr cr) := by rw [hW0]; clear hW0; go_simp
  have x_3 : W0.cell? ⟨w.heap.size, 3, none⟩ = some (.slice al nl cl) := by rw [hW0]; clear hW0; go_simp
  have x_4 : W0.cell? ⟨w.heap.size, 4, none⟩ = some (.slice an nn cn) := by rw [hW0]; clear hW0; go_simp
  have x_5 : W0.cell? ⟨w.heap.size, 5, none⟩ = some (.int .i64 wi) := by rw [hW0]; clear hW0; go_simp
  have x_6 : W0.cell? ⟨w.heap.size + 1, 0, none⟩ = some (.int .i64 xa) := by rw [hW0]; clear hW0; go_simp
  have x_7 : W0.cell? ⟨w.heap.size + 1, 1, none⟩ = some (.int .i64 xb) := by rw [hW0]; clear hW0; go_simp
  have x_8 : W0.cell? ⟨w.heap.size + 1, 2, none⟩ = some (.int .i64 ya) := by rw [hW0]; clear hW0; go_simp
  have x_9 : W0.cell? ⟨w.heap.size + 1, 3, none⟩ = some (.int .i64 yb) := by rw [hW0]; clear hW0; go_simp
  rw [← hW0]
  clear hW0
  cases gb with
  | true =>
    go_wp2_with fail
    refine (HGR.out _ B0.out).mono ?_
    rintro e w1 ⟨rfl, hb1⟩
    go_wp2_with fail
    refine (HKN.out _).mono ?_
    rintro e w2 ⟨rfl, hb2⟩
    go_wp2_with fail
    go_ret
    exact ⟨rfl, (B0.out.trans (hb1.mono B0.out.size)).trans (hb2.mono (Nat.le_trans B0.out.size hb1.size))⟩
  | false =>
    have HOW2 : Aside _ := HOW.out rfl
    have HRC2 : Aside _ := HRC.out rfl
    clear HOW HRC
    go_wp2_with fail
    refine (HGR.out _ B0.out).mono ?_
    rintro e w1 ⟨rfl, hb1⟩
    replace x_0 := keepc hb1 x_0
    replace x_1 := keepc hb1 x_1
    replace x_2 := keepc hb1 x_2
    replace x_3 := keepc hb1 x_3
    replace x_4 := keepc hb1 x_4
    replace x_5 := keepc hb1 x_5
    replace x_6 := keepc hb1 x_6
    replace x_7 := keepc hb1 x_7
    replace x_8 := keepc hb1 x_8
    replace x_9 := keepc hb1 x_9
    have B1 : Aside (Below w.heap.size w w1) := B0.out.trans (hb1.mono B0.out.size)
    clear hb1 B0
    go_wp2_with fail
    refine (HRC2.out _ B1.out).mono ?_
    rintro e w2 ⟨rfl, hb2⟩
    replace x_0 := keepc hb2 x_0
    replace x_1 := keepc hb2 x_1
    replace x_2 := keepc hb2 x_2
    replace x_3 := keepc hb2 x_3
    replace x_4 := keepc hb2 x_4
    replace x_5 := keepc hb2 x_5
    replace x_6 := keepc hb2 x_6
    replace x_7 := keepc hb2 x_7
    replace x_8 := keepc hb2 x_8
    replace x_9 := keepc hb2 x_9
    have B2 : Aside (Below w.heap.size w w2) := B1.out.trans (hb2.mono B1.out.size)
    clear hb2 B1
    by_cases hc : ck = 0
    · subst hc
      go_wp2_with fail
      refine (HBX.out _).mono ?_
      rintro e w3 ⟨rfl, hb3⟩
      replace x_0 := keepc hb3 x_0
      replace x_1 := keepc hb3 x_1
      replace x_2 := keepc hb3 x_2
      replace x_3 := keepc hb3 x_3
      replace x_4 := keepc hb3 x_4
      replace x_5 := keepc hb3 x_5
      replace x_6 := keepc hb3 x_6
      replace x_7 := keepc hb3 x_7
      replace x_8 := keepc hb3 x_8
      replace x_9 := keepc hb3 x_9
      have B3 : Aside (Below w.heap.size w w3) := B2.out.trans (hb3.mono B2.out.size)
      clear hb3 B2
      by_cases hx : bx = 0
      · subst hx
        have e := HXE.out
        obtain ⟨vx, vy, hle⟩ : validS (xa, xb) = true ∧ validS (ya, yb) = true ∧ (xb - xa + 1) * (yb - ya + 1) ≤ 2500 := by
          cases h1 : validS (xa, xb) with
          | false => rw [h1] at e; simp at e
          | true =>
            cases h2 : validS (ya, yb) with
            | false => rw [h1, h2] at e; simp at e
            | true =>
              refine ⟨rfl, rfl, ?_⟩
              rw [h1, h2, Bool.and_self, if_pos rfl] at e
              by_cases h3 : 2500 < (xb - xa + 1) * (yb - ya + 1)
              · rw [if_pos h3] at e; simp at e
              · omega
        have vx2 := vx
        have vy2 := vy
        rw [validS_eq] at vx2 vy2
        simp only [Bool.and_eq_true, decide_eq_true_eq] at vx2 vy2
        obtain ⟨⟨a1, a2⟩, a3⟩ := vx2
        obtain ⟨⟨e1, e2⟩, e3⟩ := vy2
        obtain ⟨sx, hsx⟩ : ∃ n : Nat, xb - xa + 1 = n := ⟨(xb - xa + 1).toNat, by omega⟩
        obtain ⟨sy, hsy⟩ : ∃ n : Nat, yb - ya + 1 = n := ⟨(yb - ya + 1).toNat, by omega⟩
        have u1 : IntKind.i64.wrap (xb - xa) = xb - xa := IntWalk.i64_in _ (by omega)
        have u2 : IntKind.i64.wrap (xb - xa + 1) = (sx : Int) := by rw [← hsx]; exact IntWalk.i64_in _ (by omega)
        have u3 : IntKind.i64.wrap (yb - ya) = yb - ya := IntWalk.i64_in _ (by omega)
        have u4 : IntKind.i64.wrap (yb - ya + 1) = (sy : Int) := by rw [← hsy]; exact IntWalk.i64_in _ (by omega)
        rw [hsx, hsy] at hle
        have hln : sx * sy ≤ 2500 := by have : ((sx * sy : Nat) : Int) ≤ 2500 := by simpa using hle
                                        omega
        obtain ⟨pr, hpr⟩ : ∃ n : Nat, sx * sy = n := ⟨_, rfl⟩
        have u5 : IntKind.i64.wrap ((sx : Int) * (sy : Int)) = (pr : Int) := by rw [← hpr, IntWalk.i64_in _ (by have : (0 : Int) ≤ (sx : Int) * sy := Int.mul_nonneg (by omega) (by omega)
                                                                                                                omega)]; simp
        have HBO2 : Aside _ := HBO.out (by simp) sx sy vx vy hsx hsy hln
        have HRB2 : Aside _ := HRB.out (by simp) sx sy vx vy hsx hsy
        clear HBO HRB HXE HBE e hle hln vx vy a1 a2 a3 e1 e2 e3 hsx hsy
        by_cases hb : 400 < pr
        · have hbz : (400 : Int) < (pr : Int) := by omega
          clear hpr
          go_wp2_with fail
          refine (HKN.out _).mono ?_
          rintro e w4 ⟨rfl, hb4⟩
          go_wp2_with fail
          go_ret
          exact ⟨rfl, B3.out.trans (hb4.mono B3.out.size)⟩
        · have hbz : ¬ (400 : Int) < (pr : Int) := by omega
          obtain ⟨L, hL0⟩ : ∃ L, bedsOf (valsOf b xa ya sy (sx * sy)) = L := ⟨_, rfl⟩
          rw [hL0] at HBO2 HRB2
          clear hL0 hpr
          go_upto_region 8 with (fail)
          refine region_laid (fl := 8) [true, true, true, true, true, true, true, true, true] 0 (fun (i : Nat) (x : Value) (ww : World) => (match i with | 0 => x = .agg #[.int .i64 ey, .int .i64 bu, .slice ar nr cr, .slice al nl cl, .slice an nn cn, .int .i64 wi] | 1 => BrdAt ww x b | 2 => x = .agg #[.int .i64 xa, .int .i64 xb, .int .i64 ya, .int .i64 yb] | 3 => ∃ v, x = .tuple #[v, .int .i64 0] ∧ Sl ww 1 eI v L | 4 => ∃ v, x = .tuple #[v, .int .i64 0] ∧ Sl ww 1 eI v L | 5 => Sl ww 1 eI x L | 6 => x = .int .i64 0 | 7 => Sl ww 1 eI x L | 8 => x = .int .i64 0 | _ => True : Prop)) (fun w' => Below w3.heap.size w3 w') (by kernel_rfl) rfl (by show layable _ 72 _ 8 = true; decide +kernel) rfl ((Below.refl _ _).drew) ?mono8V ?step8V ?rest8V
          case mono8V =>
            intro i x ww ww' hB h
            match i, h with
            | 0, h => exact h
            | 1, h => exact BrdAt.below h hB
            | 2, h => exact h
            | 3, h => exact (by obtain ⟨v, e, h⟩ := h; exact ⟨v, e, Sl.below h hB⟩)
            | 4, h => exact (by obtain ⟨v, e, h⟩ := h; exact ⟨v, e, Sl.below h hB⟩)
            | 5, h => exact Sl.below h hB
            | 6, h => exact h
            | 7, h => exact Sl.below h hB
            | 8, h => exact h
            | n + 9, h => exact h
          case step8V =>
            intro i o_ listed ac W hA ho hL he
            have hk2 : ac.tmps.getD 2 undef = .pointer (some ⟨w.heap.size, 0, none⟩) := hL.kept 2 (by decide +kernel)
            have hk3 : ac.tmps.getD 3 undef = .pointer (some ⟨w.heap.size + 1, 0, none⟩) := hL.kept 3 (by decide +kernel)
            have CL : ∀ W', Below W.heap.size W W' → Below w3.heap.size w3 W' := fun W' h => hL.cls.trans (h.mono hL.cls.size)
            have k_x_0 := keepc hL.cls x_0
            have k_x_1 := keepc hL.cls x_1
            have k_x_2 := keepc hL.cls x_2
            have k_x_3 := keepc hL.cls x_3
            have k_x_4 := keepc hL.cls x_4
            have k_x_5 := keepc hL.cls x_5
            have k_x_6 := keepc hL.cls x_6
            have k_x_7 := keepc hL.cls x_7
            have k_x_8 := keepc hL.cls x_8
            have k_x_9 := keepc hL.cls x_9
            match i, hA, ho with
            | 0, _, ho =>
              cases ho
              refine wpOp_plain rfl rfl ?_
              unfold Oper.wp
              go_simp
              exact ⟨_, rfl, Below.refl _ _, CL _ (Below.refl _ _), rfl⟩
            | 1, _, ho =>
              cases ho
              have d0 : ac.tmps.getD 41 undef = .agg #[.int .i64 ey, .int .i64 bu, .slice ar nr cr, .slice al nl cl, .slice an nn cn, .int .i64 wi] := hL.new 0 _ 41 rfl (he ⟨0, .data⟩ (by simp) rfl) rfl
              have x := HOW2.out W (B3.out.trans (hL.cls.mono B3.out.size))
              refine wpOp_plain rfl rfl ?_
              unfold Oper.wp
              go_simp
              refine x.mono ?_
              rintro e w' ⟨v', rfl, hbr, hBn⟩
              exact ⟨_, rfl, hBn, CL _ hBn, hbr⟩
            | 2, _, ho =>
              cases ho
              refine wpOp_plain rfl rfl ?_
              unfold Oper.wp
              go_simp
              exact ⟨_, rfl, Below.refl _ _, CL _ (Below.refl _ _), rfl⟩
            | 3, _, ho =>
              cases ho
              obtain ⟨x1, hx1⟩ : ∃ x, ac.tmps.getD 42 undef = x := ⟨_, rfl⟩
              have d1 := hL.new 1 _ 42 rfl (he ⟨1, .data⟩ (by simp) rfl) rfl
              rw [hx1] at d1
              have d2 : ac.tmps.getD 43 undef = .agg #[.int .i64 xa, .int .i64 xb, .int .i64 ya, .int .i64 yb] := hL.new 2 _ 43 rfl (he ⟨2, .data⟩ (by simp) rfl) rfl
              have x := HBO2.out x1 W d1
              unfold BedsOk at x
              refine wpOp_plain rfl rfl ?_
              unfold Oper.wp
              go_simp
              refine x.mono ?_
              rintro e w' ⟨v', rfl, hs, hBn⟩
              exact ⟨_, rfl, hBn, CL _ hBn, ⟨_, rfl, hs⟩⟩
            | 4, _, ho =>
              cases ho
              obtain ⟨x3, hx3⟩ : ∃ x, ac.tmps.getD 44 undef = x := ⟨_, rfl⟩
              have d3 := hL.new 3 _ 44 rfl (he ⟨3, .data⟩ (by simp) rfl) rfl
              rw [hx3] at d3
              obtain ⟨v', rfl, hs⟩ := d3
              refine wpOp_plain rfl rfl ?_
              unfold Oper.wp
              go_simp
              exact ⟨_, rfl, Below.refl _ _, CL _ (Below.refl _ _), ⟨_, rfl, hs⟩⟩
            | 5, _, ho =>
              cases ho
              obtain ⟨x4, hx4⟩ : ∃ x, ac.tmps.getD 40 undef = x := ⟨_, rfl⟩
              have d4 := hL.new 4 _ 40 rfl (he ⟨4, .data⟩ (by simp) rfl) rfl
              rw [hx4] at d4
              obtain ⟨v', rfl, hs⟩ := d4
              refine wpOp_plain rfl rfl ?_
              unfold Oper.wp
              go_simp
              exact ⟨_, rfl, Below.refl _ _, CL _ (Below.refl _ _), hs⟩
            | 6, _, ho =>
              cases ho
              obtain ⟨x4, hx4⟩ : ∃ x, ac.tmps.getD 40 undef = x := ⟨_, rfl⟩
              have d4 := hL.new 4 _ 40 rfl (he ⟨4, .data⟩ (by simp) rfl) rfl
              rw [hx4] at d4
              obtain ⟨v', rfl, hs⟩ := d4
              refine wpOp_plain rfl rfl ?_
              unfold Oper.wp
              go_simp
              exact ⟨_, rfl, Below.refl _ _, CL _ (Below.refl _ _), rfl⟩
            | 7, _, ho =>
              cases ho
              obtain ⟨x5, hx5⟩ : ∃ x, ac.tmps.getD 45 undef = x := ⟨_, rfl⟩
              have d5 := hL.new 5 _ 45 rfl (he ⟨5, .data⟩ (by simp) rfl) rfl
              rw [hx5] at d5
              refine wpOp_plain rfl rfl ?_
              unfold Oper.wp
              go_simp
              exact ⟨_, rfl, Below.refl _ _, CL _ (Below.refl _ _), d5⟩
            | 8, _, ho =>
              cases ho
              have d6 : ac.tmps.getD 46 undef = .int .i64 0 := hL.new 6 _ 46 rfl (he ⟨6, .data⟩ (by simp) rfl) rfl
              refine wpOp_plain rfl rfl ?_
              unfold Oper.wp
              go_simp
              exact ⟨_, rfl, Below.refl _ _, CL _ (Below.refl _ _), rfl⟩
            | n + 9, hA, _ => simp at hA
          case rest8V =>
            intro ac V hL
            have e41 : ac.tmps.getD 41 undef = .agg #[.int .i64 ey, .int .i64 bu, .slice ar nr cr, .slice al nl cl, .slice an nn cn, .int .i64 wi] := hL.new 0 _ 41 rfl rfl rfl
            obtain ⟨y42, e42⟩ : ∃ x, ac.tmps.getD 42 undef = x := ⟨_, rfl⟩
            have e43 : ac.tmps.getD 43 undef = .agg #[.int .i64 xa, .int .i64 xb, .int .i64 ya, .int .i64 yb] := hL.new 2 _ 43 rfl rfl rfl
            obtain ⟨y44, e44⟩ : ∃ x, ac.tmps.getD 44 undef = x := ⟨_, rfl⟩
            obtain ⟨y40, e40⟩ : ∃ x, ac.tmps.getD 40 undef = x := ⟨_, rfl⟩
            obtain ⟨y45, e45⟩ : ∃ x, ac.tmps.getD 45 undef = x := ⟨_, rfl⟩
            have e46 : ac.tmps.getD 46 undef = .int .i64 0 := hL.new 6 _ 46 rfl rfl rfl
            have hn6 := hL.new 7 _ 6 rfl rfl rfl
            obtain ⟨vb, e6⟩ : ∃ x, ac.tmps.getD 6 undef = x := ⟨_, rfl⟩
            rw [e6] at hn6
            have Hvb : Aside (Sl V 1 eI vb L) := hn6
            clear hn6
            have e7 : ac.tmps.getD 7 undef = .int .i64 0 := hL.new 8 _ 7 rfl rfl rfl
            have es := hL.sets [41, 42, 43, 44, 40, 45, 46, 6, 7] (by decide +kernel)
            rw [List.foldl_cons, List.foldl_cons, List.foldl_cons, List.foldl_cons, List.foldl_cons, List.foldl_cons, List.foldl_cons, List.foldl_cons, List.foldl_cons, List.foldl_nil, e41, e42, e43, e44, e40, e45, e46, e6, e7] at es
            have BN : Below w3.heap.size w3 V := hL.cls
            rw [es]
            clear es hL e41 e42 e43 e44 e40 e45 e46 e6 e7
            refine wpAny_done (by decide +kernel) ?_ _
            simp only [List.setIfInBounds_toArray, List.set_cons_zero, List.set_cons_succ]
            replace x_0 := keepc BN x_0
            replace x_1 := keepc BN x_1
            replace x_2 := keepc BN x_2
            replace x_3 := keepc BN x_3
            replace x_4 := keepc BN x_4
            replace x_5 := keepc BN x_5
            replace x_6 := keepc BN x_6
            replace x_7 := keepc BN x_7
            replace x_8 := keepc BN x_8
            replace x_9 := keepc BN x_9
            have BV : Aside (Below w.heap.size w V) := B3.out.trans (BN.mono B3.out.size)
            clear BN B3
            go_wp2_with fail
            refine (HRB2.out _ BV.out).mono ?_
            rintro e w5 ⟨v5, rfl, hs5, hb5⟩
            have h5 := Hvb.out.below hb5
            have hq := equal_any vb v5 L L w5 h5 hs5
            rw [decide_eq_true rfl] at hq
            have B5 : Aside (Below w.heap.size w w5) := BV.out.trans (hb5.mono BV.out.size)
            clear hb5 h5 hs5
            go_wp2_with fail
            refine hq.mono ?_
            rintro e w6 ⟨rfl, hb6⟩
            go_wp2_with fail
            refine (HKN.out _).mono ?_
            rintro e w7 ⟨rfl, hb7⟩
            go_wp2_with fail
            go_ret
            exact ⟨rfl, (B5.out.trans (hb6.mono B5.out.size)).trans (hb7.mono (Nat.le_trans B5.out.size hb6.size))⟩
      · -- the box is not valid
        have HBE2 : Aside _ := HBE.out bx (by simp) hx
        have hnz : (bx == 0) = false := by simp [hx]
        clear HBE HBO HRB HXE
        go_upto_region 8 with (fail)
        refine region_laid (fl := 8) [true, true, true, true, true, true, true, true, true] 0 (fun (i : Nat) (x : Value) (ww : World) => (match i with | 0 => x = .agg #[.int .i64 ey, .int .i64 bu, .slice ar nr cr, .slice al nl cl, .slice an nn cn, .int .i64 wi] | 1 => BrdAt ww x b | 2 => x = .agg #[.int .i64 xa, .int .i64 xb, .int .i64 ya, .int .i64 yb] | 3 => x = .tuple #[.slice none 0 0, .int .i64 bx] | 4 => x = .tuple #[.slice none 0 0, .int .i64 bx] | 5 => x = .slice none 0 0 | 6 => x = .int .i64 bx | 7 => x = .slice none 0 0 | 8 => x = .int .i64 bx | _ => True : Prop)) (fun w' => Below w3.heap.size w3 w') (by kernel_rfl) rfl (by show layable _ 72 _ 8 = true; decide +kernel) rfl ((Below.refl _ _).drew) ?mono8V ?step8V ?rest8V
        case mono8V =>
          intro i x ww ww' hB h
          match i, h with
          | 0, h => exact h
          | 1, h => exact BrdAt.below h hB
          | 2, h => exact h
          | 3, h => exact h
          | 4, h => exact h
          | 5, h => exact h
          | 6, h => exact h
          | 7, h => exact h
          | 8, h => exact h
          | n + 9, h => exact h
        case step8V =>
          intro i o_ listed ac W hA ho hL he
          have hk2 : ac.tmps.getD 2 undef = .pointer (some ⟨w.heap.size, 0, none⟩) := hL.kept 2 (by decide +kernel)
          have hk3 : ac.tmps.getD 3 undef = .pointer (some ⟨w.heap.size + 1, 0, none⟩) := hL.kept 3 (by decide +kernel)
          have CL : ∀ W', Below W.heap.size W W' → Below w3.heap.size w3 W' := fun W' h => hL.cls.trans (h.mono hL.cls.size)
          have k_x_0 := keepc hL.cls x_0
          have k_x_1 := keepc hL.cls x_1
          have k_x_2 := keepc hL.cls x_2
          have k_x_3 := keepc hL.cls x_3
          have k_x_4 := keepc hL.cls x_4
          have k_x_5 := keepc hL.cls x_5
          have k_x_6 := keepc hL.cls x_6
          have k_x_7 := keepc hL.cls x_7
          have k_x_8 := keepc hL.cls x_8
          have k_x_9 := keepc hL.cls x_9
          match i, hA, ho with
          | 0, _, ho =>
            cases ho
            refine wpOp_plain rfl rfl ?_
            unfold Oper.wp
            go_simp
            exact ⟨_, rfl, Below.refl _ _, CL _ (Below.refl _ _), rfl⟩
          | 1, _, ho =>
            cases ho
            have d0 : ac.tmps.getD 41 undef = .agg #[.int .i64 ey, .int .i64 bu, .slice ar nr cr, .slice al nl cl, .slice an nn cn, .int .i64 wi] := hL.new 0 _ 41 rfl (he ⟨0, .data⟩ (by simp) rfl) rfl
            have x := HOW2.out W (B3.out.trans (hL.cls.mono B3.out.size))
            refine wpOp_plain rfl rfl ?_
            unfold Oper.wp
            go_simp
            refine x.mono ?_
            rintro e w' ⟨v', rfl, hbr, hBn⟩
            exact ⟨_, rfl, hBn, CL _ hBn, hbr⟩
          | 2, _, ho =>
            cases ho
            refine wpOp_plain rfl rfl ?_
            unfold Oper.wp
            go_simp
            exact ⟨_, rfl, Below.refl _ _, CL _ (Below.refl _ _), rfl⟩
          | 3, _, ho =>
            cases ho
            obtain ⟨x1, hx1⟩ : ∃ x, ac.tmps.getD 42 undef = x := ⟨_, rfl⟩
            have d1 := hL.new 1 _ 42 rfl (he ⟨1, .data⟩ (by simp) rfl) rfl
            rw [hx1] at d1
            have d2 : ac.tmps.getD 43 undef = .agg #[.int .i64 xa, .int .i64 xb, .int .i64 ya, .int .i64 yb] := hL.new 2 _ 43 rfl (he ⟨2, .data⟩ (by simp) rfl) rfl
            have x := HBE2.out x1 W d1
            refine wpOp_plain rfl rfl ?_
            unfold Oper.wp
            go_simp
            refine x.mono ?_
            rintro e w' ⟨rfl, hBn⟩
            exact ⟨_, rfl, hBn, CL _ hBn, rfl⟩
          | 4, _, ho =>
            cases ho
            have d3 : ac.tmps.getD 44 undef = .tuple #[.slice none 0 0, .int .i64 bx] := hL.new 3 _ 44 rfl (he ⟨3, .data⟩ (by simp) rfl) rfl
            refine wpOp_plain rfl rfl ?_
            unfold Oper.wp
            go_simp
            exact ⟨_, rfl, Below.refl _ _, CL _ (Below.refl _ _), rfl⟩
          | 5, _, ho =>
            cases ho
            have d4 : ac.tmps.getD 40 undef = .tuple #[.slice none 0 0, .int .i64 bx] := hL.new 4 _ 40 rfl (he ⟨4, .data⟩ (by simp) rfl) rfl
            refine wpOp_plain rfl rfl ?_
            unfold Oper.wp
            go_simp
            exact ⟨_, rfl, Below.refl _ _, CL _ (Below.refl _ _), rfl⟩
          | 6, _, ho =>
            cases ho
            have d4 : ac.tmps.getD 40 undef = .tuple #[.slice none 0 0, .int .i64 bx] := hL.new 4 _ 40 rfl (he ⟨4, .data⟩ (by simp) rfl) rfl
            refine wpOp_plain rfl rfl ?_
            unfold Oper.wp
            go_simp
            exact ⟨_, rfl, Below.refl _ _, CL _ (Below.refl _ _), rfl⟩
          | 7, _, ho =>
            cases ho
            have d5 : ac.tmps.getD 45 undef = .slice none 0 0 := hL.new 5 _ 45 rfl (he ⟨5, .data⟩ (by simp) rfl) rfl
            refine wpOp_plain rfl rfl ?_
            unfold Oper.wp
            go_simp
            exact ⟨_, rfl, Below.refl _ _, CL _ (Below.refl _ _), rfl⟩
          | 8, _, ho =>
            cases ho
            have d6 : ac.tmps.getD 46 undef = .int .i64 bx := hL.new 6 _ 46 rfl (he ⟨6, .data⟩ (by simp) rfl) rfl
            refine wpOp_plain rfl rfl ?_
            unfold Oper.wp
            go_simp
            exact ⟨_, rfl, Below.refl _ _, CL _ (Below.refl _ _), rfl⟩
          | n + 9, hA, _ => simp at hA
        case rest8V =>
          intro ac V hL
          have e41 : ac.tmps.getD 41 undef = .agg #[.int .i64 ey, .int .i64 bu, .slice ar nr cr, .slice al nl cl, .slice an nn cn, .int .i64 wi] := hL.new 0 _ 41 rfl rfl rfl
          obtain ⟨y42, e42⟩ : ∃ x, ac.tmps.getD 42 undef = x := ⟨_, rfl⟩
          have e43 : ac.tmps.getD 43 undef = .agg #[.int .i64 xa, .int .i64 xb, .int .i64 ya, .int .i64 yb] := hL.new 2 _ 43 rfl rfl rfl
          have e44 : ac.tmps.getD 44 undef = .tuple #[.slice none 0 0, .int .i64 bx] := hL.new 3 _ 44 rfl rfl rfl
          have e40 : ac.tmps.getD 40 undef = .tuple #[.slice none 0 0, .int .i64 bx] := hL.new 4 _ 40 rfl rfl rfl
          have e45 : ac.tmps.getD 45 undef = .slice none 0 0 := hL.new 5 _ 45 rfl rfl rfl
          have e46 : ac.tmps.getD 46 undef = .int .i64 bx := hL.new 6 _ 46 rfl rfl rfl
          have e6 : ac.tmps.getD 6 undef = .slice none 0 0 := hL.new 7 _ 6 rfl rfl rfl
          have e7 : ac.tmps.getD 7 undef = .int .i64 bx := hL.new 8 _ 7 rfl rfl rfl
          have es := hL.sets [41, 42, 43, 44, 40, 45, 46, 6, 7] (by decide +kernel)
          rw [List.foldl_cons, List.foldl_cons, List.foldl_cons, List.foldl_cons, List.foldl_cons, List.foldl_cons, List.foldl_cons, List.foldl_cons, List.foldl_cons, List.foldl_nil, e41, e42, e43, e44, e40, e45, e46, e6, e7] at es
          have BN : Below w3.heap.size w3 V := hL.cls
          rw [es]
          clear es hL e41 e42 e43 e44 e40 e45 e46 e6 e7
          refine wpAny_done (by decide +kernel) ?_ _
          simp only [List.setIfInBounds_toArray, List.set_cons_zero, List.set_cons_succ]
          have BV : Aside (Below w.heap.size w V) := B3.out.trans (BN.mono B3.out.size)
          clear BN B3
          go_wp2_with fail
          refine (HKN.out _).mono ?_
          rintro e w7 ⟨rfl, hb7⟩
          go_wp2_with fail
          go_ret
          exact ⟨rfl, BV.out.trans (hb7.mono BV.out.size)⟩
    · -- the board is not valid
      have HBE2 : Aside _ := HBE.out ck (if_neg hc) hc
      have hnz : (ck == 0) = false := by simp [hc]
      clear HBE HBO HRB HXE
      go_upto_region 8 with (fail)
      refine region_laid (fl := 8) [true, true, true, true, true, true, true, true, true] 0 (fun (i : Nat) (x : Value) (ww : World) => (match i with | 0 => x = .agg #[.int .i64 ey, .int .i64 bu, .slice ar nr cr, .slice al nl cl, .slice an nn cn, .int .i64 wi] | 1 => BrdAt ww x b | 2 => x = .agg #[.int .i64 xa, .int .i64 xb, .int .i64 ya, .int .i64 yb] | 3 => x = .tuple #[.slice none 0 0, .int .i64 ck] | 4 => x = .tuple #[.slice none 0 0, .int .i64 ck] | 5 => x = .slice none 0 0 | 6 => x = .int .i64 ck | 7 => x = .slice none 0 0 | 8 => x = .int .i64 ck | _ => True : Prop)) (fun w' => Below w2.heap.size w2 w') (by kernel_rfl) rfl (by show layable _ 72 _ 8 = true; decide +kernel) rfl ((Below.refl _ _).drew) ?mono8V ?step8V ?rest8V
      case mono8V =>
        intro i x ww ww' hB h
        match i, h with
        | 0, h => exact h
        | 1, h => exact BrdAt.below h hB
        | 2, h => exact h
        | 3, h => exact h
        | 4, h => exact h
        | 5, h => exact h
        | 6, h => exact h
        | 7, h => exact h
        | 8, h => exact h
        | n + 9, h => exact h
      case step8V =>
        intro i o_ listed ac W hA ho hL he
        have hk2 : ac.tmps.getD 2 undef = .pointer (some ⟨w.heap.size, 0, none⟩) := hL.kept 2 (by decide +kernel)
        have hk3 : ac.tmps.getD 3 undef = .pointer (some ⟨w.heap.size + 1, 0, none⟩) := hL.kept 3 (by decide +kernel)
        have CL : ∀ W', Below W.heap.size W W' → Below w2.heap.size w2 W' := fun W' h => hL.cls.trans (h.mono hL.cls.size)
        have k_x_0 := keepc hL.cls x_0
        have k_x_1 := keepc hL.cls x_1
        have k_x_2 := keepc hL.cls x_2
        have k_x_3 := keepc hL.cls x_3
        have k_x_4 := keepc hL.cls x_4
        have k_x_5 := keepc hL.cls x_5
        have k_x_6 := keepc hL.cls x_6
        have k_x_7 := keepc hL.cls x_7
        have k_x_8 := keepc hL.cls x_8
        have k_x_9 := keepc hL.cls x_9
        match i, hA, ho with
        | 0, _, ho =>
          cases ho
          refine wpOp_plain rfl rfl ?_
          unfold Oper.wp
          go_simp
          exact ⟨_, rfl, Below.refl _ _, CL _ (Below.refl _ _), rfl⟩
        | 1, _, ho =>
          cases ho
          have d0 : ac.tmps.getD 41 undef = .agg #[.int .i64 ey, .int .i64 bu, .slice ar nr cr, .slice al nl cl, .slice an nn cn, .int .i64 wi] := hL.new 0 _ 41 rfl (he ⟨0, .data⟩ (by simp) rfl) rfl
          have x := HOW2.out W (B2.out.trans (hL.cls.mono B2.out.size))
          refine wpOp_plain rfl rfl ?_
          unfold Oper.wp
          go_simp
          refine x.mono ?_
          rintro e w' ⟨v', rfl, hbr, hBn⟩
          exact ⟨_, rfl, hBn, CL _ hBn, hbr⟩
        | 2, _, ho =>
          cases ho
          refine wpOp_plain rfl rfl ?_
          unfold Oper.wp
          go_simp
          exact ⟨_, rfl, Below.refl _ _, CL _ (Below.refl _ _), rfl⟩
        | 3, _, ho =>
          cases ho
          obtain ⟨x1, hx1⟩ : ∃ x, ac.tmps.getD 42 undef = x := ⟨_, rfl⟩
          have d1 := hL.new 1 _ 42 rfl (he ⟨1, .data⟩ (by simp) rfl) rfl
          rw [hx1] at d1
          have d2 : ac.tmps.getD 43 undef = .agg #[.int .i64 xa, .int .i64 xb, .int .i64 ya, .int .i64 yb] := hL.new 2 _ 43 rfl (he ⟨2, .data⟩ (by simp) rfl) rfl
          have x := HBE2.out x1 W d1
          refine wpOp_plain rfl rfl ?_
          unfold Oper.wp
          go_simp
          refine x.mono ?_
          rintro e w' ⟨rfl, hBn⟩
          exact ⟨_, rfl, hBn, CL _ hBn, rfl⟩
        | 4, _, ho =>
          cases ho
          have d3 : ac.tmps.getD 44 undef = .tuple #[.slice none 0 0, .int .i64 ck] := hL.new 3 _ 44 rfl (he ⟨3, .data⟩ (by simp) rfl) rfl
          refine wpOp_plain rfl rfl ?_
          unfold Oper.wp
          go_simp
          exact ⟨_, rfl, Below.refl _ _, CL _ (Below.refl _ _), rfl⟩
        | 5, _, ho =>
          cases ho
          have d4 : ac.tmps.getD 40 undef = .tuple #[.slice none 0 0, .int .i64 ck] := hL.new 4 _ 40 rfl (he ⟨4, .data⟩ (by simp) rfl) rfl
          refine wpOp_plain rfl rfl ?_
          unfold Oper.wp
          go_simp
          exact ⟨_, rfl, Below.refl _ _, CL _ (Below.refl _ _), rfl⟩
        | 6, _, ho =>
          cases ho
          have d4 : ac.tmps.getD 40 undef = .tuple #[.slice none 0 0, .int .i64 ck] := hL.new 4 _ 40 rfl (he ⟨4, .data⟩ (by simp) rfl) rfl
          refine wpOp_plain rfl rfl ?_
          unfold Oper.wp
          go_simp
          exact ⟨_, rfl, Below.refl _ _, CL _ (Below.refl _ _), rfl⟩
        | 7, _, ho =>
          cases ho
          have d5 : ac.tmps.getD 45 undef = .slice none 0 0 := hL.new 5 _ 45 rfl (he ⟨5, .data⟩ (by simp) rfl) rfl
          refine wpOp_plain rfl rfl ?_
          unfold Oper.wp
          go_simp
          exact ⟨_, rfl, Below.refl _ _, CL _ (Below.refl _ _), rfl⟩
        | 8, _, ho =>
          cases ho
          have d6 : ac.tmps.getD 46 undef = .int .i64 ck := hL.new 6 _ 46 rfl (he ⟨6, .data⟩ (by simp) rfl) rfl
          refine wpOp_plain rfl rfl ?_
          unfold Oper.wp
          go_simp
          exact ⟨_, rfl, Below.refl _ _, CL _ (Below.refl _ _), rfl⟩
        | n + 9, hA, _ => simp at hA
      case rest8V =>
        intro ac V hL
        have e41 : ac.tmps.getD 41 undef = .agg #[.int .i64 ey, .int .i64 bu, .slice ar nr cr, .slice al nl cl, .slice an nn cn, .int .i64 wi] := hL.new 0 _ 41 rfl rfl rfl
        obtain ⟨y42, e42⟩ : ∃ x, ac.tmps.getD 42 undef = x := ⟨_, rfl⟩
        have e43 : ac.tmps.getD 43 undef = .agg #[.int .i64 xa, .int .i64 xb, .int .i64 ya, .int .i64 yb] := hL.new 2 _ 43 rfl rfl rfl
        have e44 : ac.tmps.getD 44 undef = .tuple #[.slice none 0 0, .int .i64 ck] := hL.new 3 _ 44 rfl rfl rfl
        have e40 : ac.tmps.getD 40 undef = .tuple #[.slice none 0 0, .int .i64 ck] := hL.new 4 _ 40 rfl rfl rfl
        have e45 : ac.tmps.getD 45 undef = .slice none 0 0 := hL.new 5 _ 45 rfl rfl rfl
        have e46 : ac.tmps.getD 46 undef = .int .i64 ck := hL.new 6 _ 46 rfl rfl rfl
        have e6 : ac.tmps.getD 6 undef = .slice none 0 0 := hL.new 7 _ 6 rfl rfl rfl
        have e7 : ac.tmps.getD 7 undef = .int .i64 ck := hL.new 8 _ 7 rfl rfl rfl
        have es := hL.sets [41, 42, 43, 44, 40, 45, 46, 6, 7] (by decide +kernel)
        rw [List.foldl_cons, List.foldl_cons, List.foldl_cons, List.foldl_cons, List.foldl_cons, List.foldl_cons, List.foldl_cons, List.foldl_cons, List.foldl_cons, List.foldl_nil, e41, e42, e43, e44, e40, e45, e46, e6, e7] at es
        have BN : Below w2.heap.size w2 V := hL.cls
        rw [es]
        clear es hL e41 e42 e43 e44 e40 e45 e46 e6 e7
        refine wpAny_done (by decide +kernel) ?_ _
        simp only [List.setIfInBounds_toArray, List.set_cons_zero, List.set_cons_succ]
        have BV : Aside (Below w.heap.size w V) := B2.out.trans (BN.mono B2.out.size)
        clear BN B2
        go_wp2_with fail
        refine (HKN.out _).mono ?_
        rintro e w7 ⟨rfl, hb7⟩
        go_wp2_with fail
        go_ret
        exact ⟨rfl, BV.out.trans (hb7.mono BV.out.size)⟩
end Go.Proofs.YtgceffpkhmjmkaaGreat

namespace Go.Proofs.YtgceffpkhmjmkaaGreat
open Go.ChangeShapes Go.WideShapes Go.ChangeAt Go.RowKit Go.Joins

set_option maxRecDepth 100000 in
theorem boxes_lifted (os : Os) (started : os.Started) (H : Type) (enc : TypeId × Value → H) :
    ReturnsInHanded {} Tryz.checked os 4 .any (Rows.boardBoxesSpec.pre6 enc Tryz.prog Tryz.f4 Rows.boardBoxesRow.domain false) (Rows.boardBoxesSpec.post enc Tryz.prog Tryz.f4 false true false false) := by
  refine returnsInHanded_of_change (C := Tryz.checked) fr_own started (by kernel_rfl) Tryz.func4
    (ChangeSpec.witness6 (enc := enc) (C := Tryz.checked) false ⟨#[], #[.agg #[.int .i64 0, .int .i64 0, .slice none 0 0, .slice none 0 0, .slice none 0 0, .int .i64 0], .agg #[.int .i64 0, .int .i64 0, .int .i64 0, .int .i64 0]], []⟩ 8 (by kernel_rfl) (by kernel_rfl) (by kernel_rfl) (by kernel_rfl)) ?_
  intro W base args ds gs before hval0 hW hcnd _
  have hval : ∀ (j : Nat) t v, Tryz.f4.params[j]? = some t → args[j]? = some v → Value.okWide Tryz.prog W .any base t v := hval0
  have hW' := hW
  obtain ⟨p, q, hA0, hV, rfl, hfz, hnd⟩ := hW
  have hA : DataW.TrodAll enc Tryz.prog W 0 (fun _ => true) true Tryz.f4.params.toList args.toList ds p := hA0
  rw [Tryz.params4] at hA hval
  obtain ⟨v0, vs0, d0, ds0, p0, q0, hargs, rfl, rfl, h0, r0⟩ := trodAll_cons hA
  obtain ⟨v1, vs1, d1, ds1, p1, q1, rfl, rfl, rfl, h1, r1⟩ := trodAll_cons r0
  obtain ⟨rfl, rfl, rfl⟩ := trodAll_nil r1
  obtain rfl : args = #[v0, v1] := by cases args; simp_all
  obtain ⟨rfl, rfl⟩ := trodVars_none hV
  obtain ⟨cs0, rfl, _⟩ := okWide_struct Tryz.underlying26 (hval 0 26 v0 rfl rfl)
  obtain ⟨cs1, rfl, _⟩ := okWide_struct Tryz.underlying49 (hval 1 49 v1 rfl rfl)
  have k0 := h0
  have k1 := h1
  have lt0 : ∀ x ∈ p0, x.block < W.heap.size := by obtain ⟨m, hm⟩ := k0; exact DataW.trod_lt m _ _ _ hm
  have lt1 : ∀ x ∈ p1, x.block < W.heap.size := by obtain ⟨m, hm⟩ := k1; exact DataW.trod_lt m _ _ _ hm
  obtain ⟨b, hb⟩ : ∃ b, BrdAt W (.agg cs0) b := by
    obtain ⟨m, hm⟩ := h0
    obtain ⟨vs, b, e0, r⟩ := board_open hm
    exact ⟨b, by rw [show cs0 = vs from Array.toList_inj.1 (by simpa [Value.cells] using e0)]; exact r⟩
  obtain ⟨x1, x2, y1, y2, e1⟩ : ∃ x1 x2 y1 y2, cs1 = #[.int .i64 x1, .int .i64 x2, .int .i64 y1, .int .i64 y2] := by
    obtain ⟨m, hm⟩ := h1
    obtain ⟨a, b, c, d, e0, _⟩ := box_open hm
    exact ⟨a, b, c, d, Array.toList_inj.1 (by simpa [Value.cells] using e0)⟩
  subst e1
  clear hA0 hval0
  refine (boxes_law _ b x1 x2 y1 y2 W hb).mono fun e W' hRet => ?_
  obtain ⟨he, bel⟩ := hRet
  subst he
  exact ⟨_, rfl, _, _, _, [], _, [], hW', trodAll_mk1 (shut_bool Tryz.underlying4 _), (trodAll_cons_mk (Below.trod fr_laid (by kernel_rfl) (of_decide_eq_true (by kernel_rfl)) k0 bel lt0) (trodAll_cons_mk (Below.trod fr_laid (by kernel_rfl) (of_decide_eq_true (by kernel_rfl)) k1 bel lt1) trodAll_mk0)), rfl, bel.frame _, fun h => by cases h⟩

theorem boxes_over : Rows.boardBoxesRow.holds Tryz.pinned (OpenSpec.ofChange Rows.boardBoxesSpec) :=
  OpenClaim.holds_of_wide 4 Tryz.f4 rfl rfl rfl rfl rfl rfl rfl ⟨rfl, rfl, rfl, rfl, rfl⟩ rfl rfl rfl rfl rfl (by kernel_rfl) Tryz.func4 (by kernel_rfl)
    (of_decide_eq_true (by kernel_rfl)) (by unfold Func.isWrapper; rw [if_neg (of_decide_eq_false (by kernel_rfl))]; exact ⟨rfl, rfl⟩)
    (fun os started H enc _ => boxes_lifted os started H enc)

theorem boxes_proved : Rows.BoardBoxesSaid := boxes_over
#print axioms boxes_proved
end Go.Proofs.YtgceffpkhmjmkaaGreat
