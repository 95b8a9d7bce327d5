/- BoardTurns: for every board, wear, weeks, turn and limit the call returns true, and the arguments read as they did. No condition. -/
import Derived.Test.YtgceffpkhmjmkaaGreatD
import Derived.Test.YtgceffpkhmjmkaaGreatRows
import Derived.WalkKit
import Derived.ProofKit
import Derived.OpenShut
import Derived.ShutString
import Derived.ChangeOld
import Derived.Below
import Derived.Lib.SmallJoins
import Derived.Deep.SlicePairs
import Derived.Test.YtgceffpkhmjmkaaGreatUh
import Derived.Test.YtgceffpkhmjmkaaGreatW
import Derived.Test.YtgceffpkhmjmkaaGreatUf
import Derived.Test.YtgceffpkhmjmkaaGreatUc
import Derived.Test.YtgceffpkhmjmkaaGreatY
import Derived.Test.YtgceffpkhmjmkaaGreatWa
import Derived.Test.YtgceffpkhmjmkaaGreatWb
import Derived.Test.YtgceffpkhmjmkaaGreatVf
import Derived.Test.YtgceffpkhmjmkaaGreatVe
import Derived.Test.YtgceffpkhmjmkaaGreatWc
import Derived.Test.YtgceffpkhmjmkaaGreatWe
import Derived.Test.YtgceffpkhmjmkaaGreatWf
import Derived.Test.YtgceffpkhmjmkaaGreatVn
import Derived.Deep.Matrix
set_option linter.unusedVariables false
set_option linter.unusedSimpArgs false
namespace Go.Proofs.YtgceffpkhmjmkaaGreat
open Go.ChangeShapes Go.WideShapes Go.ChangeAt Go.RowKit Go.Joins

theorem fr_own : ownKnob Tryz.prog.godebug = none := by kernel_rfl
theorem fr_laid : laidOutB Tryz.prog = true := by kernel_rfl
theorem fs_get {α : Type} {xs : List α} {n i : Nat} (h : xs.length = n) (hi : i < n) : ∃ y, xs[i]? = some y := ⟨_, List.getElem?_eq_getElem (by omega)⟩
theorem fs_list2 {α : Type} {cs : List α} (h : cs.length = 2) : ∃ a b, cs = [a, b] := by
  match cs, h with
  | [a, b], _ => exact ⟨a, b, rfl⟩
theorem fs_list4 {α : Type} {cs : List α} (h : cs.length = 4) : ∃ a b c d, cs = [a, b, c, d] := by
  match cs, h with
  | [a, b, c, d], _ => exact ⟨a, b, c, d, rfl⟩
theorem fs_list6 {α : Type} {cs : List α} (h : cs.length = 6) : ∃ a b c d e f, cs = [a, b, c, d, e, f] := by
  match cs, h with
  | [a, b, c, d, e, f], _ => exact ⟨a, b, c, d, e, f, rfl⟩

/-- What an int can be. -/
def I64 (n : Int) : Prop := -9223372036854775808 ≤ n ∧ n ≤ 9223372036854775807

section
variable {H : Type} {enc : TypeId × Value → H} {w : World} {base : Nat} {spare : Nat → Bool} {held : Bool} {fuel : Nat} {cs : List Value} {y : DataW H × List MemPlace}

theorem z_open (h : DataW.trod enc Tryz.prog w base spare held fuel 3 cs = some y) : ∃ a, cs = [.int .i64 a] ∧ I64 a := by
  obtain ⟨a, e0, _, wa⟩ := DataW.trod_int Tryz.underlying3 h
  exact ⟨a, e0, bounds_i64 wa⟩

/-- A slice of ints, read. -/
theorem ints_open (h : DataW.trod enc Tryz.prog w base spare held fuel 24 cs = some y) : ∃ v xs, cs = [v] ∧ Sl w 1 (fun x => [Value.int .i64 x]) v xs ∧ ∀ x ∈ xs, I64 x := by
  rcases open_ints Tryz.underlying24 Tryz.underlying3 (by kernel_rfl) h with ⟨hcs, _⟩ | ⟨a, len, cap, zs, hcs, _, hl, hm, hz, _, hcell, hwz⟩
  · exact ⟨_, [], hcs, ⟨none, 0, rfl, by simp, fun h => absurd rfl h⟩, by simp⟩
  · have hll : len ≤ zs.length := by rw [hz]; split <;> omega
    have hle : (zs.take len).length = len := by rw [List.length_take]; omega
    refine ⟨_, zs.take len, hcs, ⟨some a, cap, by rw [hle], ?_, ?_⟩, fun x hx => bounds_i64 (hwz x (List.mem_of_mem_take hx))⟩
    · rw [hle]; unfold maxLen at hm; omega
    · intro hne
      have hp : 0 < zs.length := by
        rcases Nat.eq_zero_or_pos zs.length with h0 | h0
        · rw [List.eq_nil_of_length_eq_zero h0] at hne; simp at hne
        · exact h0
      obtain ⟨b, off, rfl, hc⟩ := ints_at hcell hp
      refine ⟨b, off, rfl, World.block_lt_of_cell? w _ (hc 0 hp), ?_⟩
      intro j x hx i u hu
      match i, hu with
      | 0, hu =>
        simp at hu; subst hu
        have hj : j < zs.length := by
          have := (List.getElem?_eq_some_iff.1 hx).1
          rw [hle] at this; omega
        have hjl : j < len := by have := (List.getElem?_eq_some_iff.1 hx).1; rwa [hle] at this
        rw [Nat.mul_one, Nat.add_zero, hc j hj, List.getD_eq_getElem?_getD]
        rw [List.getElem?_take_of_lt hjl] at hx
        rw [hx]; rfl
      | i + 1, hu => simp at hu

/-- A slice of pairs of ints, read. -/
theorem pairs_open {t e : TypeId} {f0 f1 : Field} (ht : Tryz.prog.underlying t = some (.slice e)) (he : Tryz.prog.underlying e = some (.struct #[f0, f1])) (ce : Tryz.prog.cellsOf e = 2) (o0 : f0.offset = 0) (o1 : f1.offset = 1)
    (c0 : Tryz.prog.cellsOf f0.type = 1) (c1 : Tryz.prog.cellsOf f1.type = 1) (u0 : Tryz.prog.underlying f0.type = some (.int .i64)) (u1 : Tryz.prog.underlying f1.type = some (.int .i64))
    (h : DataW.trod enc Tryz.prog w base spare held fuel t cs = some y) : ∃ v xs, cs = [v] ∧ Sl w 2 encP v xs ∧ ∀ x ∈ xs, I64 x.1 ∧ I64 x.2 := by
  rcases Go.Deep.open_slice_pairs ht he ce o0 o1 c0 c1 h with ⟨hcs, _⟩ | ⟨a, len, cap, m, n, V0, V1, D0, D1, P0, P1, hcs, _, hl, hm, hmm, _, hc⟩
  · exact ⟨_, [], hcs, ⟨none, 0, rfl, by simp, fun h => absurd rfl h⟩, by simp⟩
  · have hll : len ≤ m := by rw [hmm]; split <;> omega
    have each : ∀ i, i < len → ∃ x : Int × Int, (w.cell? (a.add (i * 2)) = some (.int .i64 x.1) ∧ w.cell? (a.add (i * 2 + 1)) = some (.int .i64 x.2)) ∧ I64 x.1 ∧ I64 x.2 := by
      intro i hi
      obtain ⟨h1, h2, h3, h4⟩ := hc i (by omega)
      obtain ⟨x, e0, _, w0⟩ := DataW.trod_int u0 h3
      obtain ⟨z, e1, _, w1⟩ := DataW.trod_int u1 h4
      simp at e0 e1
      exact ⟨(x, z), ⟨by rw [h1, e0], by rw [h2, e1]⟩, bounds_i64 w0, bounds_i64 w1⟩
    obtain ⟨f, hf⟩ := Go.Deep.choose_lt each
    refine ⟨_, (List.range len).map f, hcs, ⟨some a, cap, by simp, ?_, ?_⟩, ?_⟩
    · simp; unfold maxLen at hm; omega
    · intro hne
      have hp : 0 < len := by
        rcases Nat.eq_zero_or_pos len with h0 | h0
        · subst h0; simp at hne
        · exact h0
      obtain ⟨b, off, spot⟩ := a
      have hspot : spot = none := by simpa [Addr.add] using World.cell?_spot (hf 0 hp).1.1
      subst hspot
      refine ⟨b, off, rfl, World.block_lt_of_cell? w _ (hf 0 hp).1.1, ?_⟩
      intro j x hx i u hu
      rw [List.getElem?_map] at hx
      have hj : j < len := by
        rcases Nat.lt_or_ge j len with h | h
        · exact h
        · rw [List.getElem?_eq_none (by simpa using h)] at hx; cases hx
      rw [List.getElem?_range hj] at hx
      simp at hx; subst hx
      obtain ⟨⟨g0, g1⟩, _⟩ := hf j hj
      rw [add_plain] at g0 g1
      match i, hu with
      | 0, hu => simp [encP] at hu; subst hu; rw [Nat.add_zero]; exact g0
      | 1, hu => simp [encP] at hu; subst hu; rw [Nat.add_assoc]; exact g1
      | i + 2, hu => simp [encP] at hu
    · intro x hx
      obtain ⟨i, hi, rfl⟩ := List.mem_map.1 hx
      exact (hf i (List.mem_range.1 hi)).2

theorem rings_open (h : DataW.trod enc Tryz.prog w base spare held fuel 22 cs = some y) : ∃ v xs, cs = [v] ∧ Sl w 2 encP v xs ∧ ∀ x ∈ xs, I64 x.1 ∧ I64 x.2 :=
  pairs_open Tryz.underlying22 Tryz.underlying79 (by kernel_rfl) rfl rfl (by kernel_rfl) (by kernel_rfl) Tryz.underlying3 Tryz.underlying3 h
theorem lines_open (h : DataW.trod enc Tryz.prog w base spare held fuel 23 cs = some y) : ∃ v xs, cs = [v] ∧ Sl w 2 encP v xs ∧ ∀ x ∈ xs, I64 x.1 ∧ I64 x.2 :=
  pairs_open Tryz.underlying23 Tryz.underlying28 (by kernel_rfl) rfl rfl (by kernel_rfl) (by kernel_rfl) Tryz.underlying3 Tryz.underlying3 h

/-- A point, read. -/
theorem point_open (h : DataW.trod enc Tryz.prog w base spare held fuel 28 cs = some y) : ∃ a b, cs = [.int .i64 a, .int .i64 b] ∧ I64 a ∧ I64 b := by
  obtain ⟨xs, m, rfl, _, hl, hx, hf⟩ := DataW.trod_struct Tryz.underlying28 h
  obtain ⟨c0, c1, rfl⟩ := fs_list2 (hl.trans (by kernel_rfl))
  have e1 : Tryz.prog.cellsOf 3 = 1 := by kernel_rfl
  have f0 := hf 0 _ rfl
  have f1 := hf 1 _ rfl
  have hx2 : xs.length = 2 := hx
  obtain ⟨y0, g0⟩ := fs_get hx2 (show 0 < 2 by omega)
  obtain ⟨y1, g1⟩ := fs_get hx2 (show 1 < 2 by omega)
  rw [g0] at f0
  rw [g1] at f1
  simp [e1] at f0 f1
  obtain ⟨a, h1, h2⟩ := z_open f0
  obtain ⟨b, h3, h4⟩ := z_open f1
  simp at h1 h3
  subst h1 h3
  exact ⟨a, b, rfl, h2, h4⟩
theorem span_open (h : DataW.trod enc Tryz.prog w base spare held fuel 47 cs = some y) : ∃ a b, cs = [.int .i64 a, .int .i64 b] ∧ I64 a ∧ I64 b := by
  obtain ⟨xs, m, rfl, _, hl, hx, hf⟩ := DataW.trod_struct Tryz.underlying47 h
  obtain ⟨c0, c1, rfl⟩ := fs_list2 (hl.trans (by kernel_rfl))
  have e1 : Tryz.prog.cellsOf 3 = 1 := by kernel_rfl
  have f0 := hf 0 _ rfl
  have f1 := hf 1 _ rfl
  have hx2 : xs.length = 2 := hx
  obtain ⟨y0, g0⟩ := fs_get hx2 (show 0 < 2 by omega)
  obtain ⟨y1, g1⟩ := fs_get hx2 (show 1 < 2 by omega)
  rw [g0] at f0
  rw [g1] at f1
  simp [e1] at f0 f1
  obtain ⟨a, h1, h2⟩ := z_open f0
  obtain ⟨b, h3, h4⟩ := z_open f1
  simp at h1 h3
  subst h1 h3
  exact ⟨a, b, rfl, h2, h4⟩
/-- A box, read. -/
theorem box_open (h : DataW.trod enc Tryz.prog w base spare held fuel 49 cs = some y) : ∃ a b c d, cs = [.int .i64 a, .int .i64 b, .int .i64 c, .int .i64 d] ∧ I64 a ∧ I64 b ∧ I64 c ∧ I64 d := by
  obtain ⟨xs, m, rfl, _, hl, hx, hf⟩ := DataW.trod_struct Tryz.underlying49 h
  obtain ⟨c0, c1, c2, c3, rfl⟩ := fs_list4 (hl.trans (by kernel_rfl))
  have e1 : Tryz.prog.cellsOf 47 = 2 := by kernel_rfl
  have f0 := hf 0 _ rfl
  have f1 := hf 1 _ rfl
  have hx2 : xs.length = 2 := hx
  obtain ⟨y0, g0⟩ := fs_get hx2 (show 0 < 2 by omega)
  obtain ⟨y1, g1⟩ := fs_get hx2 (show 1 < 2 by omega)
  rw [g0] at f0
  rw [g1] at f1
  simp [e1] at f0 f1
  obtain ⟨a, b, h1, h2, h3⟩ := span_open f0
  obtain ⟨c, d, h4, h5, h6⟩ := span_open f1
  simp at h1 h4
  obtain ⟨rfl, rfl⟩ := h1
  obtain ⟨rfl, rfl⟩ := h4
  exact ⟨a, b, c, d, rfl, h2, h3, h5, h6⟩

/-- A board, read. -/
theorem board_open (h : DataW.trod enc Tryz.prog w base spare held fuel 26 cs = some y) :
    ∃ (vs : Array Value) (b : Brd), cs = vs.toList ∧ BrdAt w (.agg vs) b := by
  obtain ⟨xs, m, rfl, _, hl, hx, hf⟩ := DataW.trod_struct Tryz.underlying26 h
  obtain ⟨c0, c1, c2, c3, c4, c5, rfl⟩ := fs_list6 (hl.trans (by kernel_rfl))
  have e1 : Tryz.prog.cellsOf 3 = 1 := by kernel_rfl
  have e2 : Tryz.prog.cellsOf 24 = 1 := by kernel_rfl
  have e3 : Tryz.prog.cellsOf 22 = 1 := by kernel_rfl
  have e4 : Tryz.prog.cellsOf 23 = 1 := by kernel_rfl
  have f0 := hf 0 _ rfl
  have f1 := hf 1 _ rfl
  have f2 := hf 2 _ rfl
  have f3 := hf 3 _ rfl
  have f4 := hf 4 _ rfl
  have f5 := hf 5 _ rfl
  have hx6 : xs.length = 6 := hx
  obtain ⟨y0, g0⟩ := fs_get hx6 (show 0 < 6 by omega)
  obtain ⟨y1, g1⟩ := fs_get hx6 (show 1 < 6 by omega)
  obtain ⟨y2, g2⟩ := fs_get hx6 (show 2 < 6 by omega)
  obtain ⟨y3, g3⟩ := fs_get hx6 (show 3 < 6 by omega)
  obtain ⟨y4, g4⟩ := fs_get hx6 (show 4 < 6 by omega)
  obtain ⟨y5, g5⟩ := fs_get hx6 (show 5 < 6 by omega)
  rw [g0] at f0
  rw [g1] at f1
  rw [g2] at f2
  rw [g3] at f3
  rw [g4] at f4
  rw [g5] at f5
  simp [e1, e2, e3, e4] at f0 f1 f2 f3 f4 f5
  obtain ⟨ey, h0, _⟩ := z_open f0
  obtain ⟨bu, h1, _⟩ := z_open f1
  obtain ⟨vr, rings, h2, s2, _⟩ := rings_open f2
  obtain ⟨vl, lines, h3, s3, _⟩ := lines_open f3
  obtain ⟨vn, nums, h4, s4, _⟩ := ints_open f4
  obtain ⟨wi, h5, _⟩ := z_open f5
  simp at h0 h1 h2 h3 h4 h5
  subst h0 h1 h2 h3 h4 h5
  exact ⟨#[.int .i64 ey, .int .i64 bu, c2, c3, c4, .int .i64 wi], ⟨ey, bu, rings, lines, nums, wi⟩, rfl, c2, c3, c4, rfl, s2, s3, s4⟩
end
end Go.Proofs.YtgceffpkhmjmkaaGreat

namespace Go.Proofs.YtgceffpkhmjmkaaGreat
open Go.RowKit Go.Shelf

def BxS (ar : Option Addr) (lenr cr : Nat) (ar2 : Option Addr) (cr2 : Nat) (al : Option Addr) (lenl cl : Nat) (al2 : Option Addr) (cl2 : Nat) (B : Nat) (W : World) : Prop :=
  W.cell? ⟨B, 2, none⟩ = some (.slice ar lenr cr) ∧ W.cell? ⟨B + 1, 2, none⟩ = some (.slice ar2 lenr cr2) ∧ W.cell? ⟨B, 3, none⟩ = some (.slice al lenl cl) ∧ W.cell? ⟨B + 1, 3, none⟩ = some (.slice al2 lenl cl2)
theorem two_cells {w : World} {xs : List (Int × Int)} {a a2 : Option Addr} {n n2 c c2 : Nat} (h1 : Sl w 2 encP (.slice a n c) xs) (h2 : Sl w 2 encP (.slice a2 n2 c2) xs) :
    ∀ k, k < xs.length → ∃ (b1 o1 b2 o2 : Nat) (x y : Int), a = some ⟨b1, o1, none⟩ ∧ a2 = some ⟨b2, o2, none⟩ ∧ w.cell? ⟨b1, o1 + k * 2, none⟩ = some (.int .i64 x) ∧ w.cell? ⟨b1, o1 + k * 2 + 1, none⟩ = some (.int .i64 y) ∧ w.cell? ⟨b2, o2 + k * 2, none⟩ = some (.int .i64 x) ∧ w.cell? ⟨b2, o2 + k * 2 + 1, none⟩ = some (.int .i64 y) := by
  intro k hk
  have hne : xs ≠ [] := by intro e; rw [e] at hk; simp at hk
  obtain ⟨a', c', e1, _, s1⟩ := h1
  obtain ⟨a2', c2', e2, _, s2⟩ := h2
  cases e1
  cases e2
  obtain ⟨b1, o1, rfl, _, q1⟩ := s1 hne
  obtain ⟨b2, o2, rfl, _, q2⟩ := s2 hne
  have hx := List.getElem?_eq_getElem hk
  exact ⟨b1, o1, b2, o2, xs[k].1, xs[k].2, rfl, rfl, by simpa using q1 k _ hx 0 _ rfl, by simpa using q1 k _ hx 1 _ rfl, by simpa using q2 k _ hx 0 _ rfl, by simpa using q2 k _ hx 1 _ rfl⟩

set_option maxRecDepth 100000 in
set_option maxHeartbeats 4000000 in
theorem same_eq (va vb : Value) (b : Brd) (w : World) (h1 : BrdAt w va b) (h2 : BrdAt w vb b) : Calls Tryz.prog 14 #[va, vb] w (Ret (.bool true) w) := by
  obtain ⟨vr, vl, vn, rfl, sr, sl, sn⟩ := h1
  obtain ⟨ur, ul, un, rfl, tr, tl, tn⟩ := h2
  have x1 := fun W (hW : Below w.heap.size w W) => alike_any vn un b.nums b.nums W (sn.below hW) (tn.below hW)
  rw [decide_eq_true rfl] at x1
  have HR : Aside (Sl w 2 encP vr b.rings) := sr
  have HL : Aside (Sl w 2 encP vl b.lines) := sl
  have HR2 : Aside (Sl w 2 encP ur b.rings) := tr
  have HL2 : Aside (Sl w 2 encP ul b.lines) := tl
  obtain ⟨ar, cr, rfl, lr, _⟩ := sr
  obtain ⟨al, cl, rfl, ll, _⟩ := sl
  obtain ⟨an, cn, rfl, ln, _⟩ := sn
  obtain ⟨ar2, cr2, rfl, lr2, _⟩ := tr
  obtain ⟨al2, cl2, rfl, ll2, _⟩ := tl
  obtain ⟨an2, cn2, rfl, ln2, _⟩ := tn
  have CR : Aside (∀ k, k < b.rings.length → ∃ (b1 o1 b2 o2 : Nat) (x y : Int), ar = some ⟨b1, o1, none⟩ ∧ ar2 = some ⟨b2, o2, none⟩ ∧ w.cell? ⟨b1, o1 + k * 2, none⟩ = some (.int .i64 x) ∧ w.cell? ⟨b1, o1 + k * 2 + 1, none⟩ = some (.int .i64 y) ∧ w.cell? ⟨b2, o2 + k * 2, none⟩ = some (.int .i64 x) ∧ w.cell? ⟨b2, o2 + k * 2 + 1, none⟩ = some (.int .i64 y)) := two_cells HR.out HR2.out
  have CLN : Aside (∀ k, k < b.lines.length → ∃ (b1 o1 b2 o2 : Nat) (x y : Int), al = some ⟨b1, o1, none⟩ ∧ al2 = some ⟨b2, o2, none⟩ ∧ w.cell? ⟨b1, o1 + k * 2, none⟩ = some (.int .i64 x) ∧ w.cell? ⟨b1, o1 + k * 2 + 1, none⟩ = some (.int .i64 y) ∧ w.cell? ⟨b2, o2 + k * 2, none⟩ = some (.int .i64 x) ∧ w.cell? ⟨b2, o2 + k * 2 + 1, none⟩ = some (.int .i64 y)) := two_cells HL.out HL2.out
  clear HR HL HR2 HL2
  generalize b.rings.length = lenr at *
  generalize b.lines.length = lenl at *
  generalize b.nums.length = lenn at *
  go_enter Tryz.func14, Tryz.ntmps14
  go_wp2_with (go_at_call 29; (with_reducible refine (x1 _ ?hh).mono ?_); (case hh => (repeat' (first | exact Below.refl _ _ | assumption | (with_reducible refine Below.drew ?_) | (with_reducible refine Below.setCell ?_ (by (first | (simp; done) | (simp; omega))) _) | (with_reducible refine below_drewN' ?_ _) | (refine Below.alloc ?_ (by (try simp only [World.size_alloc, World.size_drew, World.size_setCell]); omega) _) | (refine Below.trans ?_ (Below.mono (by assumption) (by (try simp only [World.size_alloc, World.size_drew, World.size_setCell]); omega)))))); rintro e w1 ⟨rfl, hb1⟩; (obtain ⟨hc1, hf1⟩ := bcell hb1; have z1 := hb1.size; (try simp only [World.size_alloc, World.size_drew, World.size_setCell] at z1); (try have q1a : w.heap.size < w1.heap.size := by omega); (try have q1b : w.heap.size + 1 < w1.heap.size := by omega); (try have q1c : w.heap.size + 1 + 1 < w1.heap.size := by omega); (try have q1d : w.heap.size + 1 + 1 + 1 < w1.heap.size := by omega); (try have q1e : wr.heap.size < w1.heap.size := by omega); (try have q1f : wr.heap.size + 1 < w1.heap.size := by omega)))
  have BX : Aside (Below w.heap.size w w1) := by show Below _ _ _; (repeat' (first | exact Below.refl _ _ | assumption | (with_reducible refine Below.drew ?_) | (with_reducible refine Below.setCell ?_ (by (first | (simp; done) | (simp; omega))) _) | (with_reducible refine below_drewN' ?_ _) | (refine Below.alloc ?_ (by (try simp only [World.size_alloc, World.size_drew, World.size_setCell]); omega) _) | (refine Below.trans ?_ (Below.mono (by assumption) (by (try simp only [World.size_alloc, World.size_drew, World.size_setCell]); omega)))))

  have BB : Aside (BxS ar lenr cr ar2 cr2 al lenl cl al2 cl2 w.heap.size w1) := by
    show BxS ar lenr cr ar2 cr2 al lenl cl al2 cl2 _ _

    exact ⟨by go_simp, by go_simp, by go_simp, by go_simp⟩
  go_loopg [5] lenr (fun gg i wr => ∃ k : Nat, k ≤ lenr ∧ lenr - k ≤ gg ∧ i = .int .i64 k ∧ Aside (Below w.heap.size w wr) ∧ Aside (BxS ar lenr cr ar2 cr2 al lenl cl al2 cl2 w.heap.size wr))
  case atStart => exact ⟨0, Nat.zero_le _, by omega, rfl, BX, BB⟩
  case round =>
    obtain ⟨k, hk, hg, rfl, BW, BC⟩ := hrel
    obtain ⟨j1, j2, j3, j4⟩ := BC.out
    by_cases hlt : k < lenr
    · have hltz : (k : Int) < (lenr : Int) := by omega
      obtain ⟨b1, o1, b2, o2, x, y, rfl, rfl, c1, c2, c3, c4⟩ := CR.out k hlt
      have k1 := keepc BW.out c1
      have k2 := keepc BW.out c2
      have k3 := keepc BW.out c3
      have k4 := keepc BW.out c4
      have MK : Aside (∀ w', Below wr.heap.size wr w' → (Below wr.heap.size wr w' ∧ w'.cell? ⟨w.heap.size, 2, none⟩ = some (.slice (some ⟨b1, o1, none⟩) lenr cr) ∧ w'.cell? ⟨w.heap.size + 1, 2, none⟩ = some (.slice (some ⟨b2, o2, none⟩) lenr cr2) ∧ w'.cell? ⟨b1, o1 + k * 2, none⟩ = some (.int .i64 x) ∧ w'.cell? ⟨b1, o1 + k * 2 + 1, none⟩ = some (.int .i64 y) ∧ w'.cell? ⟨b2, o2 + k * 2, none⟩ = some (.int .i64 x) ∧ w'.cell? ⟨b2, o2 + k * 2 + 1, none⟩ = some (.int .i64 y))) := fun w' hB => ⟨hB, keepc hB j1, keepc hB j2, keepc hB k1, keepc hB k2, keepc hB k3, keepc hB k4⟩
      have MB : Aside _ := fun (w' : World) (hB : Below wr.heap.size wr w') => (⟨keepc hB j1, keepc hB j2, keepc hB j3, keepc hB j4⟩ : BxS _ _ _ _ _ _ _ _ _ _ w.heap.size w')
      clear c1 c2 c3 c4
      go_upto_region 6 with (fail)
      refine region_class (fun w' => Below wr.heap.size wr w' ∧ w'.cell? ⟨w.heap.size, 2, none⟩ = some (.slice (some ⟨b1, o1, none⟩) lenr cr) ∧ w'.cell? ⟨w.heap.size + 1, 2, none⟩ = some (.slice (some ⟨b2, o2, none⟩) lenr cr2) ∧ w'.cell? ⟨b1, o1 + k * 2, none⟩ = some (.int .i64 x) ∧ w'.cell? ⟨b1, o1 + k * 2 + 1, none⟩ = some (.int .i64 y) ∧ w'.cell? ⟨b2, o2 + k * 2, none⟩ = some (.int .i64 x) ∧ w'.cell? ⟨b2, o2 + k * 2 + 1, none⟩ = some (.int .i64 y)) (by kernel_rfl) (by kernel_rfl) (MK.out _ ((Below.refl _ _).drew)) ?_
      iterate 11 (first | go_big_quiet_skip | (go_big_quiet_want; unfold Oper.quiet; apply Exists.intro; refine ⟨fun W hW => ?_, ?_⟩; (go_split_ands; unfold Oper.quietAt; go_simp; first | rfl | exact ⟨rfl, rfl⟩ | skip); go_big_quiet_on; (try simp only [Act.put, List.setIfInBounds_toArray, List.set_cons_zero, List.set_cons_succ])))
      refine wpQuiet_nil ?_
      intro W hW
      obtain ⟨hBW, _⟩ := hW
      have BXW := MB.out _ hBW
      go_wp2
      go_roundg (lenr - (k + 1))
      case measure => omega
      case rel => exact ⟨k + 1, by omega, by omega, by go_num, BW.out.trans (hBW.mono BW.out.size), BXW⟩
    · obtain rfl : lenr = k := by omega
      have hltz : ¬ (lenr : Int) < (lenr : Int) := by omega
      go_wp2
      have BX := BW
      have BB := BC
      obtain ⟨wo, rfl⟩ : ∃ wo : World, wo = wr := ⟨_, rfl⟩
      go_loopg [6] lenl (fun gg i wr => ∃ k : Nat, k ≤ lenl ∧ lenl - k ≤ gg ∧ i = .int .i64 k ∧ Aside (Below w.heap.size w wr) ∧ Aside (BxS ar lenr cr ar2 cr2 al lenl cl al2 cl2 w.heap.size wr))
      case atStart => exact ⟨0, Nat.zero_le _, by omega, rfl, BX, BB⟩
      case round =>
        obtain ⟨k, hk, hg, rfl, BW, BC⟩ := hrel
        obtain ⟨j1, j2, j3, j4⟩ := BC.out
        by_cases hlt : k < lenl
        · have hltz : (k : Int) < (lenl : Int) := by omega
          obtain ⟨b1, o1, b2, o2, x, y, rfl, rfl, c1, c2, c3, c4⟩ := CLN.out k hlt
          have k1 := keepc BW.out c1
          have k2 := keepc BW.out c2
          have k3 := keepc BW.out c3
          have k4 := keepc BW.out c4
          have MK : Aside (∀ w', Below wr.heap.size wr w' → (Below wr.heap.size wr w' ∧ w'.cell? ⟨w.heap.size, 3, none⟩ = some (.slice (some ⟨b1, o1, none⟩) lenl cl) ∧ w'.cell? ⟨w.heap.size + 1, 3, none⟩ = some (.slice (some ⟨b2, o2, none⟩) lenl cl2) ∧ w'.cell? ⟨b1, o1 + k * 2, none⟩ = some (.int .i64 x) ∧ w'.cell? ⟨b1, o1 + k * 2 + 1, none⟩ = some (.int .i64 y) ∧ w'.cell? ⟨b2, o2 + k * 2, none⟩ = some (.int .i64 x) ∧ w'.cell? ⟨b2, o2 + k * 2 + 1, none⟩ = some (.int .i64 y))) := fun w' hB => ⟨hB, keepc hB j3, keepc hB j4, keepc hB k1, keepc hB k2, keepc hB k3, keepc hB k4⟩
          have MB : Aside _ := fun (w' : World) (hB : Below wr.heap.size wr w') => (⟨keepc hB j1, keepc hB j2, keepc hB j3, keepc hB j4⟩ : BxS _ _ _ _ _ _ _ _ _ _ w.heap.size w')
          clear c1 c2 c3 c4
          go_upto_region 11 with (fail)
          refine region_class (fun w' => Below wr.heap.size wr w' ∧ w'.cell? ⟨w.heap.size, 3, none⟩ = some (.slice (some ⟨b1, o1, none⟩) lenl cl) ∧ w'.cell? ⟨w.heap.size + 1, 3, none⟩ = some (.slice (some ⟨b2, o2, none⟩) lenl cl2) ∧ w'.cell? ⟨b1, o1 + k * 2, none⟩ = some (.int .i64 x) ∧ w'.cell? ⟨b1, o1 + k * 2 + 1, none⟩ = some (.int .i64 y) ∧ w'.cell? ⟨b2, o2 + k * 2, none⟩ = some (.int .i64 x) ∧ w'.cell? ⟨b2, o2 + k * 2 + 1, none⟩ = some (.int .i64 y)) (by kernel_rfl) (by kernel_rfl) (MK.out _ ((Below.refl _ _).drew)) ?_
          iterate 11 (first | go_big_quiet_skip | (go_big_quiet_want; unfold Oper.quiet; apply Exists.intro; refine ⟨fun W hW => ?_, ?_⟩; (go_split_ands; unfold Oper.quietAt; go_simp; first | rfl | exact ⟨rfl, rfl⟩ | skip); go_big_quiet_on; (try simp only [Act.put, List.setIfInBounds_toArray, List.set_cons_zero, List.set_cons_succ])))
          refine wpQuiet_nil ?_
          intro W hW
          obtain ⟨hBW, _⟩ := hW
          have BXW := MB.out _ hBW
          go_wp2
          go_roundg (lenl - (k + 1))
          case measure => omega
          case rel => exact ⟨k + 1, by omega, by omega, by go_num, BW.out.trans (hBW.mono BW.out.size), BXW⟩
        · obtain rfl : lenl = k := by omega
          have hltz : ¬ (lenl : Int) < (lenl : Int) := by omega
          go_wp2
          go_ret
          exact ⟨rfl, BW.out⟩
end Go.Proofs.YtgceffpkhmjmkaaGreat

namespace Go.Proofs.YtgceffpkhmjmkaaGreat
open Go.RowKit Go.Shelf

theorem four_chk0 : chk (fourB 0) = 0 := by decide +kernel
theorem four_bed0 : bedR (fourB 0) (500, 500) = .tuple #[.int .i64 106, .bool false, .int .i64 0] := by
  have h1 : chk (fourB 0) = 0 := by decide +kernel
  have h2 : vpt (500, 500) = true := by decide +kernel
  have h3 : bedW (fourB 0) (500, 500) = 106 := by decide +kernel
  have h4 : onWire (fourB 0) (500, 500) = false := by decide +kernel
  unfold bedR; rw [if_pos h1, if_pos h2, h3, h4]
theorem four_bed1 : bedR (fourB 10) (500, 490) = .tuple #[.int .i64 0, .bool true, .int .i64 0] := by
  have h1 : chk (fourB 10) = 0 := by decide +kernel
  have h2 : vpt (500, 490) = true := by decide +kernel
  have h3 : bedW (fourB 10) (500, 490) = 0 := by decide +kernel
  have h4 : onWire (fourB 10) (500, 490) = true := by decide +kernel
  unfold bedR; rw [if_pos h1, if_pos h2, h3, h4]
theorem four_bed2 : bedR (fourB 10) (500, 485) = .tuple #[.int .i64 106, .bool false, .int .i64 0] := by
  have h1 : chk (fourB 10) = 0 := by decide +kernel
  have h2 : vpt (500, 485) = true := by decide +kernel
  have h3 : bedW (fourB 10) (500, 485) = 106 := by decide +kernel
  have h4 : onWire (fourB 10) (500, 485) = false := by decide +kernel
  unfold bedR; rw [if_pos h1, if_pos h2, h3, h4]
theorem four_beds : bedsOf (valsOf (fourB 0) 59 0 1 (2 * 1)) = [125, 225] := by decide +kernel
theorem four_planM1 : planM [10, 0, 0, 0] [[9, 1, 1, 1]] = 11 := by decide +kernel
theorem four_bestK : bestK [10, 0, 0, 0] [9, 1, 1, 1] = 1 := by decide +kernel
theorem four_planM2 : planM [10, 0, 0, 0] [[9, 1, 1, 1], [9, 1, 1, 1]] = 12 := by decide +kernel
theorem four_plan2 : digI 4 2 (bestP [10, 0, 0, 0] [[9, 1, 1, 1], [9, 1, 1, 1]]) = [1, 2] := by decide +kernel
theorem four_err1 (v : Value) : wErr ((fourB 0).nums.length : Nat) [10, 0, 0, 0] [(v, [9, 1, 1, 1])] = 0 := by rfl
theorem four_err2 (v u : Value) : wErr ((fourB 0).nums.length : Nat) [10, 0, 0, 0] [(v, [9, 1, 1, 1]), (u, [9, 1, 1, 1])] = 0 := by rfl

theorem sl_four (W : World) (k : Nat) (hk : k = W.heap.size) (t : TypeId) (x y z u : Int) : Sl (W.alloc (.cells #[.int .i64 x, .int .i64 y, .int .i64 z, .int .i64 u] t)) 1 eI (.slice (some ⟨k, 0, none⟩) 4 4) [x, y, z, u] := by
  subst hk
  refine sl_lit (k := 1) (enc := eI) (xs := [x, y, z, u]) (fun _ => rfl) (by simp) (by simp) ?_ 4
  intro j v h
  go_simp
  simpa using h

set_option maxRecDepth 100000 in
set_option maxHeartbeats 4000000 in
theorem known_any (w : World) : Calls Tryz.prog 8 #[] w (Ret (.bool true) w) := by
  have y1 : ∀ v w, BrdAt w v (fourB 0) → Calls Tryz.prog 11 #[v, .agg #[.int .i64 500, .int .i64 500]] w (Ret (.tuple #[.int .i64 106, .bool false, .int .i64 0]) w) := fun v w h => by
    have := Bed_any v (fourB 0) (500, 500) w h; rw [four_bed0] at this; exact this
  have y2 : ∀ v w, BrdAt w v (fourB 10) → Calls Tryz.prog 11 #[v, .agg #[.int .i64 500, .int .i64 490]] w (Ret (.tuple #[.int .i64 0, .bool true, .int .i64 0]) w) := fun v w h => by
    have := Bed_any v (fourB 10) (500, 490) w h; rw [four_bed1] at this; exact this
  have y3 : ∀ v w, BrdAt w v (fourB 10) → Calls Tryz.prog 11 #[v, .agg #[.int .i64 500, .int .i64 485]] w (Ret (.tuple #[.int .i64 106, .bool false, .int .i64 0]) w) := fun v w h => by
    have := Bed_any v (fourB 10) (500, 485) w h; rw [four_bed2] at this; exact this
  have y4 : ∀ v w, BrdAt w v (fourB 0) → Calls Tryz.prog 21 #[v, .agg #[.int .i64 59, .int .i64 60, .int .i64 0, .int .i64 0]] w (BedsOk [125, 225] w) := fun v w h => by
    have := Beds_ok v (fourB 0) 59 60 0 0 2 1 w h four_chk0 (by decide +kernel) (by decide +kernel) rfl rfl (by decide); rw [four_beds] at this; exact this
  have y5 : ∀ v u1 u2 w, BrdAt w v (fourB 0) → Sl w 1 eI u1 [10, 0, 0, 0] → Sl w 1 eI u2 [9, 1, 1, 1] → Calls Tryz.prog 28 #[v, u1, u2] w (Ret (.tuple #[.int .i64 1, .int .i64 11, .int .i64 0]) w) := fun v u1 u2 w h h1 h2 => by
    have := Best_ok v u1 u2 (fourB 0) _ _ w h h1 h2 four_chk0 (four_err1 _) (by rw [four_planM1]; decide); rw [four_planM1, four_bestK] at this; exact this
  have y6 : ∀ v u1 u2 u3 vs w, BrdAt w v (fourB 0) → Sl w 1 eI u1 [10, 0, 0, 0] → Sl w 1 eI u2 [9, 1, 1, 1] → Sl w 1 eI u3 [9, 1, 1, 1] → Sl w 1 eR vs [(u2, [9, 1, 1, 1]), (u3, [9, 1, 1, 1])] → Calls Tryz.prog 35 #[v, u1, vs] w fun e w' => ∃ g c, e = .returned (.tuple #[.slice (some ⟨g, 0, none⟩) 2 c, .int .i64 12, .int .i64 0]) ∧ Sl w' 1 eI (.slice (some ⟨g, 0, none⟩) 2 c) [1, 2] ∧ Below w.heap.size w w' := fun v u1 u2 u3 vs w h h1 h2 h3 h4 => by
    have := Plan_ok v u1 vs (fourB 0) _ [(u2, [9, 1, 1, 1]), (u3, [9, 1, 1, 1])] w h h1 h4 (by intro x hx; simp at hx; rcases hx with rfl | rfl; exact h2; exact h3) four_chk0 (by simp) (by simp) (four_err2 _ _) (by show planM _ [[9, 1, 1, 1], [9, 1, 1, 1]] ≤ _; rw [four_planM2]; decide)
    unfold PlanOk at this
    simp only [List.map_cons, List.map_nil] at this
    rw [four_planM2] at this
    simp only [List.length_cons, List.length_nil, Nat.reduceAdd] at this
    rw [four_plan2] at this
    exact this
  go_enter Tryz.func8, Tryz.ntmps8
  go_wp2_with fail
  refine (four_any 0 _).mono ?_
  rintro e w1 ⟨g1, g2, g3, rfl, hr1, hb1⟩
  go_wp2_with fail
  refine (y1 _ _ hr1).mono ?_
  rintro e w2 ⟨rfl, hb2⟩
  have B2 : Aside (Below w.heap.size w w2) := hb1.trans (hb2.mono hb1.size)
  clear hr1 hb1 hb2
  go_wp2_with fail
  refine (four_any 10 _).mono ?_
  rintro e w3 ⟨g4, g5, g6, rfl, hr3, hb3⟩
  go_wp2_with fail
  refine (y2 _ _ hr3).mono ?_
  rintro e w4 ⟨rfl, hb4⟩
  have B4 : Aside (Below w.heap.size w w4) := (B2.out.trans (hb3.mono B2.out.size)).trans (hb4.mono (Nat.le_trans B2.out.size hb3.size))
  clear hr3 hb3 hb4
  go_wp2_with fail
  refine (four_any 10 _).mono ?_
  rintro e w5 ⟨g7, g8, g9, rfl, hr5, hb5⟩
  go_wp2_with fail
  refine (y3 _ _ hr5).mono ?_
  rintro e w6 ⟨rfl, hb6⟩
  have B6 : Aside (Below w.heap.size w w6) := (B4.out.trans (hb5.mono B4.out.size)).trans (hb6.mono (Nat.le_trans B4.out.size hb5.size))
  clear hr5 hb5 hb6
  go_wp2_with fail
  refine (four_any 0 _).mono ?_
  rintro e w7 ⟨g10, g11, g12, rfl, hr7, hb7⟩
  go_wp2_with fail
  refine (y4 _ _ hr7).mono ?_
  rintro e w8 ⟨vl, rfl, hs8, hb8⟩
  have B8 : Aside (Below w.heap.size w w8) := (B6.out.trans (hb7.mono B6.out.size)).trans (hb8.mono (Nat.le_trans B6.out.size hb7.size))
  have S8 : Aside (Sl w8 1 eI vl [125, 225]) := hs8
  clear hr7 hb7 hb8 hs8
  go_wp2_with fail
  refine (four_any 0 _).mono ?_
  rintro e w9 ⟨g13, g14, g15, rfl, hr9, hb9⟩
  have B9 : Aside (Below w.heap.size w w9) := B8.out.trans (hb9.mono B8.out.size)
  have S9 : Aside (Sl w9 1 eI vl [125, 225]) := S8.out.below hb9
  clear hb9
  go_wp2_with fail
  have A9 : Below w9.heap.size w9 ((w9.alloc (.cells #[.int .i64 10, .int .i64 0, .int .i64 0, .int .i64 0] 3)).alloc (.cells #[.int .i64 9, .int .i64 1, .int .i64 1, .int .i64 1] 3)) := by (repeat' (first | exact Below.refl _ _ | assumption | (with_reducible refine Below.drew ?_) | (with_reducible refine Below.setCell ?_ (by (first | (simp; done) | (simp; omega))) _) | (with_reducible refine below_drewN' ?_ _) | (refine Below.alloc ?_ (by (try simp only [World.size_alloc, World.size_drew, World.size_setCell]); omega) _) | (refine Below.trans ?_ (Below.mono (by assumption) (by (try simp only [World.size_alloc, World.size_drew, World.size_setCell]); omega)))))
  refine (y5 _ _ _ _ (hr9.below A9) ((sl_four w9 _ rfl _ 10 0 0 0).below (by (repeat' (first | exact Below.refl _ _ | assumption | (with_reducible refine Below.drew ?_) | (with_reducible refine Below.setCell ?_ (by (first | (simp; done) | (simp; omega))) _) | (with_reducible refine below_drewN' ?_ _) | (refine Below.alloc ?_ (by (try simp only [World.size_alloc, World.size_drew, World.size_setCell]); omega) _) | (refine Below.trans ?_ (Below.mono (by assumption) (by (try simp only [World.size_alloc, World.size_drew, World.size_setCell]); omega))))))) (sl_four _ _ (by simp) _ 9 1 1 1)).mono ?_
  rintro e w10 ⟨rfl, hb10⟩
  have B10 : Aside (Below w.heap.size w w10) := B9.out.trans ((A9.trans (hb10.mono A9.size)).mono B9.out.size)
  have S10 : Aside (Sl w10 1 eI vl [125, 225]) := (S9.out.below A9).below hb10
  clear hr9 A9 hb10 S9 S8 B8 B6 B4 B2
  go_wp2_with fail
  refine (four_any 0 _).mono ?_
  rintro e w11 ⟨g16, g17, g18, rfl, hr11, hb11⟩
  have B11 : Aside (Below w.heap.size w w11) := B10.out.trans (hb11.mono B10.out.size)
  have S11 : Aside (Sl w11 1 eI vl [125, 225]) := S10.out.below hb11
  clear hb11 S10 B10
  go_wp2_with fail
  have A11 : Below w11.heap.size w11 ((((w11.alloc (.cells #[.int .i64 10, .int .i64 0, .int .i64 0, .int .i64 0] 3)).alloc (.cells #[.int .i64 9, .int .i64 1, .int .i64 1, .int .i64 1] 3)).alloc (.cells #[.int .i64 9, .int .i64 1, .int .i64 1, .int .i64 1] 3)).alloc (.cells #[.slice (some ⟨w11.heap.size + 1, 0, none⟩) 4 4, .slice (some ⟨w11.heap.size + 1 + 1, 0, none⟩) 4 4] 24)) := by (repeat' (first | exact Below.refl _ _ | assumption | (with_reducible refine Below.drew ?_) | (with_reducible refine Below.setCell ?_ (by (first | (simp; done) | (simp; omega))) _) | (with_reducible refine below_drewN' ?_ _) | (refine Below.alloc ?_ (by (try simp only [World.size_alloc, World.size_drew, World.size_setCell]); omega) _) | (refine Below.trans ?_ (Below.mono (by assumption) (by (try simp only [World.size_alloc, World.size_drew, World.size_setCell]); omega)))))
  refine (y6 _ _ (.slice (some ⟨w11.heap.size + 1, 0, none⟩) 4 4) (.slice (some ⟨w11.heap.size + 1 + 1, 0, none⟩) 4 4) _ _ (hr11.below A11) ((sl_four w11 _ rfl _ 10 0 0 0).below (by (repeat' (first | exact Below.refl _ _ | assumption | (with_reducible refine Below.drew ?_) | (with_reducible refine Below.setCell ?_ (by (first | (simp; done) | (simp; omega))) _) | (with_reducible refine below_drewN' ?_ _) | (refine Below.alloc ?_ (by (try simp only [World.size_alloc, World.size_drew, World.size_setCell]); omega) _) | (refine Below.trans ?_ (Below.mono (by assumption) (by (try simp only [World.size_alloc, World.size_drew, World.size_setCell]); omega))))))) ((sl_four _ _ (by simp) _ 9 1 1 1).below (w := (w11.alloc (.cells #[.int .i64 10, .int .i64 0, .int .i64 0, .int .i64 0] 3)).alloc (.cells #[.int .i64 9, .int .i64 1, .int .i64 1, .int .i64 1] 3)) (by (repeat' (first | exact Below.refl _ _ | assumption | (with_reducible refine Below.drew ?_) | (with_reducible refine Below.setCell ?_ (by (first | (simp; done) | (simp; omega))) _) | (with_reducible refine below_drewN' ?_ _) | (refine Below.alloc ?_ (by (try simp only [World.size_alloc, World.size_drew, World.size_setCell]); omega) _) | (refine Below.trans ?_ (Below.mono (by assumption) (by (try simp only [World.size_alloc, World.size_drew, World.size_setCell]); omega))))))) ((sl_four _ _ (by simp) _ 9 1 1 1).below (w := ((w11.alloc (.cells #[.int .i64 10, .int .i64 0, .int .i64 0, .int .i64 0] 3)).alloc (.cells #[.int .i64 9, .int .i64 1, .int .i64 1, .int .i64 1] 3)).alloc (.cells #[.int .i64 9, .int .i64 1, .int .i64 1, .int .i64 1] 3)) (by (repeat' (first | exact Below.refl _ _ | assumption | (with_reducible refine Below.drew ?_) | (with_reducible refine Below.setCell ?_ (by (first | (simp; done) | (simp; omega))) _) | (with_reducible refine below_drewN' ?_ _) | (refine Below.alloc ?_ (by (try simp only [World.size_alloc, World.size_drew, World.size_setCell]); omega) _) | (refine Below.trans ?_ (Below.mono (by assumption) (by (try simp only [World.size_alloc, World.size_drew, World.size_setCell]); omega))))))) ?_).mono ?_
  · refine sl_lit (k := 1) (enc := eR) (xs := [((.slice (some ⟨w11.heap.size + 1, 0, none⟩) 4 4 : Value), ([9, 1, 1, 1] : List Int)), (.slice (some ⟨w11.heap.size + 1 + 1, 0, none⟩) 4 4, [9, 1, 1, 1])]) (fun _ => rfl) (by simp) (by simp) ?_ 2
    intro j v h
    go_simp
    simpa using h
  rintro e w12 ⟨gp, cp, rfl, hs12, hb12⟩
  have B12 : Aside (Below w.heap.size w w12) := B11.out.trans ((A11.trans (hb12.mono A11.size)).mono B11.out.size)
  have S12 : Aside (Sl w12 1 eI vl [125, 225]) := (S11.out.below A11).below hb12
  have P12 : Aside (Sl w12 1 eI (.slice (some ⟨gp, 0, none⟩) 2 cp) [1, 2]) := hs12
  clear hr11 A11 hb12 S11 B11 hs12 B9
  go_wp2_with fail
  have z7 : ∀ W, Sl W 1 eI vl [125, 225] → ∀ u, Sl W 1 eI u [125, 225] → Calls Tryz.prog 15 #[vl, u] W (Ret (.bool true) W) := fun W h1 u h2 => by
    have := equal_any vl u _ _ W h1 h2; rw [decide_eq_true rfl] at this; exact this
  have z8 : ∀ W v, Sl W 1 eI v [1, 2] → ∀ u, Sl W 1 eI u [1, 2] → Calls Tryz.prog 29 #[v, u] W (Ret (.bool true) W) := fun W v h1 u h2 => by
    have := alike_any v u _ _ W h1 h2; rw [decide_eq_true rfl] at this; exact this
  refine (z7 _ (S12.out.below (by (repeat' (first | exact Below.refl _ _ | assumption | (with_reducible refine Below.drew ?_) | (with_reducible refine Below.setCell ?_ (by (first | (simp; done) | (simp; omega))) _) | (with_reducible refine below_drewN' ?_ _) | (refine Below.alloc ?_ (by (try simp only [World.size_alloc, World.size_drew, World.size_setCell]); omega) _) | (refine Below.trans ?_ (Below.mono (by assumption) (by (try simp only [World.size_alloc, World.size_drew, World.size_setCell]); omega))))))) _ (sl_two w12 _ rfl _ 125 225)).mono ?_
  rintro e w13 ⟨rfl, hb13⟩
  have B13 : Aside (Below w.heap.size w w13) := B12.out.trans ((((Below.refl _ w12).alloc (Nat.le_refl _) _).trans (hb13.mono (by simp))).mono B12.out.size)
  have P13 : Aside (Sl w13 1 eI (.slice (some ⟨gp, 0, none⟩) 2 cp) [1, 2]) := (P12.out.below ((Below.refl _ w12).alloc (Nat.le_refl _) (.cells #[.int .i64 125, .int .i64 225] 34))).below hb13
  clear hb13 P12 S12 z7 B12
  go_wp2_with fail
  refine (z8 _ _ (P13.out.below (by (repeat' (first | exact Below.refl _ _ | assumption | (with_reducible refine Below.drew ?_) | (with_reducible refine Below.setCell ?_ (by (first | (simp; done) | (simp; omega))) _) | (with_reducible refine below_drewN' ?_ _) | (refine Below.alloc ?_ (by (try simp only [World.size_alloc, World.size_drew, World.size_setCell]); omega) _) | (refine Below.trans ?_ (Below.mono (by assumption) (by (try simp only [World.size_alloc, World.size_drew, World.size_setCell]); omega))))))) _ (sl_two w13 _ rfl _ 1 2)).mono ?_
  rintro e w14 ⟨rfl, hb14⟩
  have B14 : Below w.heap.size w w14 := B13.out.trans ((((Below.refl _ w13).alloc (Nat.le_refl _) _).trans (hb14.mono (by simp))).mono B13.out.size)
  clear hb14 P13 z8 B13
  go_wp2
  go_ret
  exact ⟨rfl, B14⟩
end Go.Proofs.YtgceffpkhmjmkaaGreat

namespace Go.Proofs.YtgceffpkhmjmkaaGreat
open Go.RowKit Go.Shelf

theorem frm_4a {n : Int} {worn : List Int} {ws : List (List Int)} (h : ¬ (worn.length : Int) = n) : frm n worn ws = 4 := by
  unfold frm
  rw [if_pos (by simp [h])]
theorem frm_4b {n : Int} {worn : List Int} {ws : List (List Int)} (x : List Int) (hx : x ∈ ws) (h : ¬ (x.length : Int) = n) : frm n worn ws = 4 := by
  unfold frm
  have : ws.any (fun x => (x.length : Int) != n) = true := List.any_eq_true.2 ⟨x, hx, by simpa using h⟩
  rw [this, Bool.or_true, if_pos rfl]
theorem frm_len {n : Int} {worn : List Int} {ws : List (List Int)} (h1 : (worn.length : Int) = n) (h2 : ∀ x ∈ ws, (x.length : Int) = n) : frm n worn ws = if !(worn.all (inb 0 1000000000)) || ws.any (fun x => !(x.all (inb 0 1000000))) then 2 else 0 := by
  unfold frm
  have : ws.any (fun x => (x.length : Int) != n) = false := by
    rw [List.any_eq_false]; intro x hx; simp [h2 x hx]
  rw [this, Bool.or_false, if_neg (by simp [h1])]
theorem frm_2a {n : Int} {worn : List Int} {ws : List (List Int)} (h1 : (worn.length : Int) = n) (h2 : ∀ x ∈ ws, (x.length : Int) = n) (x : Int) (hx : x ∈ worn) (h : x < 0 ∨ 1000000000 < x) : frm n worn ws = 2 := by
  rw [frm_len h1 h2, if_pos ?_]
  have : worn.all (inb 0 1000000000) = false := by
    rw [List.all_eq_false]
    exact ⟨x, hx, by intro c; have := inb_iff.1 c; omega⟩
  rw [this]; rfl
theorem frm_2b {n : Int} {worn : List Int} {ws : List (List Int)} (h1 : (worn.length : Int) = n) (h2 : ∀ x ∈ ws, (x.length : Int) = n) (l : List Int) (hl : l ∈ ws) (x : Int) (hx : x ∈ l) (h : x < 0 ∨ 1000000 < x) : frm n worn ws = 2 := by
  rw [frm_len h1 h2, if_pos ?_]
  have : ws.any (fun x => !(x.all (inb 0 1000000))) = true := by
    refine List.any_eq_true.2 ⟨l, hl, ?_⟩
    have : l.all (inb 0 1000000) = false := by
      rw [List.all_eq_false]
      exact ⟨x, hx, by intro c; have := inb_iff.1 c; omega⟩
    rw [this]; rfl
  rw [this, Bool.or_true]
theorem frm_0 {n : Int} {worn : List Int} {ws : List (List Int)} (h1 : (worn.length : Int) = n) (h2 : ∀ x ∈ ws, (x.length : Int) = n) (h3 : ∀ x ∈ worn, ¬ x < 0 ∧ ¬ 1000000000 < x) (h4 : ∀ l ∈ ws, ∀ x ∈ l, ¬ x < 0 ∧ ¬ 1000000 < x) : frm n worn ws = 0 := by
  rw [frm_len h1 h2, if_neg ?_]
  simp only [Bool.or_eq_true, Bool.not_eq_true', not_or, Bool.not_eq_false, List.any_eq_true, not_exists, not_and, List.all_eq_true]
  exact ⟨fun x hx => inb_iff.2 (by have := h3 x hx; omega), fun l hl x hx => inb_iff.2 (by have := h4 l hl x hx; omega)⟩

set_option maxRecDepth 100000 in
set_option maxHeartbeats 8000000 in
theorem rForm_any (n : Nat) (v vs : Value) (worn : List Int) (ws : List (Value × List Int)) (w : World) (hn : n ≤ 1000) (hw : Sl w 1 eI v worn) (hs : Sl w 1 eR vs ws) (hx : ∀ x ∈ ws, Sl w 1 eI x.1 x.2) :
    Calls Tryz.prog 30 #[.int .i64 n, v, vs] w (Ret (.int .i64 (frm n worn (ws.map (·.2)))) w) := by
  obtain ⟨a2, c2, rfl, l2, hr⟩ := rows_of hs hx
  have HR : Aside (∀ j x, ws[j]? = some x → ∃ g off, a2 = some ⟨g, off, none⟩ ∧ w.cell? ⟨g, off + j, none⟩ = some x.1 ∧ Sl w 1 eI x.1 x.2) := hr
  obtain ⟨a, c, rfl, l1, hc⟩ := hw
  have HC : Aside (∀ j x, worn[j]? = some x → ∃ b off, a = some ⟨b, off, none⟩ ∧ w.cell? ⟨b, off + j, none⟩ = some (.int .i64 x)) := by
    intro j x hx
    obtain ⟨b, off, ha, _, hc⟩ := hc (by intro e; rw [e] at hx; simp at hx)
    exact ⟨b, off, ha, by have := hc j x hx 0 (.int .i64 x) rfl; simpa using this⟩
  clear hr hs hx hc
  obtain ⟨fr, hfr⟩ : ∃ x, frm n worn (ws.map (·.2)) = x := ⟨_, rfl⟩
  have HF : Aside (frm n worn (ws.map (·.2)) = fr) := hfr
  rw [hfr]
  clear hfr
  obtain ⟨nw, hnw⟩ : ∃ n, worn.length = n := ⟨_, rfl⟩
  obtain ⟨ns, hns⟩ : ∃ n, ws.length = n := ⟨_, rfl⟩
  have HNW : Aside (worn.length = nw) := hnw
  have HNS : Aside (ws.length = ns) := hns
  rw [hnw] at l1 ⊢
  rw [hns] at l2 ⊢
  clear hnw hns
  by_cases e1 : nw = n
  · subst e1
    have HL1 : Aside ((worn.length : Int) = (nw : Int)) := congrArg Int.ofNat HNW.out
    go_enter Tryz.func30, Tryz.ntmps30
    go_wp2_with fail
    go_loopg [7] ns (fun gg i wr => ∃ k : Nat, k ≤ ns ∧ ns - k ≤ gg ∧ i = .int .i64 k ∧ Aside (∀ j p, j < k → ws[j]? = some p → (p.2.length : Int) = (nw : Int)) ∧ w = wr)
    case atStart => exact ⟨0, Nat.zero_le _, by omega, rfl, fun j p hj => absurd hj (Nat.not_lt_zero _), rfl⟩
    case round =>
      obtain ⟨k, hk, hg, rfl, HA, rfl⟩ := hrel
      by_cases hlt : k < ns
      · have hltz : (k : Int) < (ns : Int) := by omega
        obtain ⟨p, hp⟩ : ∃ p, ws[k]? = some p := ⟨_, List.getElem?_eq_getElem (by rw [HNS.out]; exact hlt)⟩
        obtain ⟨g', off, rfl, c0, ⟨ax, cx, hxe, lx, _⟩⟩ := HR.out k p hp
        rw [hxe] at c0
        have HT : Aside ((p.2.length : Int) = (nw : Int) → ∀ j q, j < k + 1 → ws[j]? = some q → (q.2.length : Int) = (nw : Int)) := by
          intro h j q hj hq
          by_cases e : j = k
          · subst e; rw [hp] at hq; cases hq; exact h
          · exact HA.out j q (by omega) hq
        have HFF : Aside (¬ (p.2.length : Int) = (nw : Int) → fr = 4) := fun h => HF.out.symm.trans (frm_4b p.2 (List.mem_map_of_mem (List.mem_of_getElem? hp)) h)
        clear HA hp hxe
        generalize p.2.length = np at *
        by_cases hb : (np : Int) = (nw : Int)
        · have hnn : np = nw := by omega
          have HT2 : Aside _ := HT.out hb
          clear HT HFF hb
          subst hnn
          go_wp2_with fail
          go_roundg (ns - (k + 1))
          case measure => omega
          case rel => exact ⟨k + 1, by omega, by omega, by go_num, HT2, rfl⟩
        · have e : fr = 4 := HFF.out hb
          subst e
          go_wp2_with fail
          go_ret
          exact ⟨rfl, Below.refl _ _⟩
      · have hke : ns = k := by omega
        subst hke
        have hltz : ¬ (ns : Int) < (ns : Int) := by omega
        have HL2 : Aside (∀ x ∈ ws.map (·.2), (x.length : Int) = (nw : Int)) := by
          intro x hx
          obtain ⟨p, hp, rfl⟩ := List.mem_map.1 hx
          obtain ⟨j, hj, rfl⟩ := List.getElem_of_mem hp
          exact HA.out j _ (by rw [← HNS.out]; exact hj) (List.getElem?_eq_getElem hj)
        clear HA
        go_wp2_with fail
        go_loopg [8] nw (fun gg i wr => ∃ k : Nat, k ≤ nw ∧ nw - k ≤ gg ∧ i = .int .i64 k ∧ Aside (∀ j x, j < k → worn[j]? = some x → ¬ x < 0 ∧ ¬ 1000000000 < x) ∧ Aside (∀ (q : Nat) (p : Value × List Int), ws[q]? = some p → ∀ j x, j < k → p.2[j]? = some x → ¬ x < 0 ∧ ¬ 1000000 < x) ∧ w = wr)
        case atStart => exact ⟨0, Nat.zero_le _, by omega, rfl, fun j p hj => absurd hj (Nat.not_lt_zero _), fun q p _ j x hj => absurd hj (Nat.not_lt_zero _), rfl⟩
        case round =>
          obtain ⟨i, hi, hgi, rfl, HA, HD, rfl⟩ := hrel
          by_cases hlti : i < nw
          · have hltiz : (i : Int) < (nw : Int) := by omega
            obtain ⟨x, hx⟩ : ∃ x, worn[i]? = some x := ⟨_, List.getElem?_eq_getElem (by rw [HNW.out]; exact hlti)⟩
            obtain ⟨b, off, rfl, kx⟩ := HC.out i x hx
            have HFX : Aside (x < 0 ∨ 1000000000 < x → fr = 2) := fun h => HF.out.symm.trans (frm_2a HL1.out HL2.out x (List.mem_of_getElem? hx) h)
            have HTX : Aside (¬ x < 0 ∧ ¬ 1000000000 < x → ∀ j y, j < i + 1 → worn[j]? = some y → ¬ y < 0 ∧ ¬ 1000000000 < y) := by
              intro h j q hj hq
              by_cases e : j = i
              · subst e; rw [hx] at hq; cases hq; exact h
              · exact HA.out j q (by omega) hq
            clear HA hx
            by_cases b1 : x < 0
            · have e : fr = 2 := HFX.out (.inl b1)
              subst e
              go_wp2_with fail
              go_ret
              exact ⟨rfl, Below.refl _ _⟩
            · by_cases b2 : 1000000000 < x
              · have e : fr = 2 := HFX.out (.inr b2)
                subst e
                go_wp2_with fail
                go_ret
                exact ⟨rfl, Below.refl _ _⟩
              · have HT2 : Aside _ := HTX.out ⟨b1, b2⟩
                clear HTX HFX
                go_wp2_with fail
                clear b1 b2 kx
                go_loopg [9] ns (fun gg u wr => ∃ k : Nat, k ≤ ns ∧ ns - k ≤ gg ∧ u = .int .i64 k ∧ Aside (∀ (q : Nat) (p : Value × List Int), q < k → ws[q]? = some p → ∀ x, p.2[i]? = some x → ¬ x < 0 ∧ ¬ 1000000 < x) ∧ w = wr)
                case atStart => exact ⟨0, Nat.zero_le _, by omega, rfl, fun q p hj => absurd hj (Nat.not_lt_zero _), rfl⟩
                case round =>
                  obtain ⟨k, hk, hg, rfl, HE, rfl⟩ := hrel
                  by_cases hlt : k < ns
                  · have hltk : (k : Int) < (ns : Int) := by omega
                    obtain ⟨p, hp⟩ : ∃ p, ws[k]? = some p := ⟨_, List.getElem?_eq_getElem (by rw [HNS.out]; exact hlt)⟩
                    obtain ⟨g', off', rfl, c0, hsp⟩ := HR.out k p hp
                    have hpl : p.2.length = nw := by have := HL2.out p.2 (List.mem_map_of_mem (List.mem_of_getElem? hp)); omega
                    obtain ⟨ax, cx, hxe, lx, hcx⟩ := hsp
                    obtain ⟨y, hy⟩ : ∃ y, p.2[i]? = some y := ⟨_, List.getElem?_eq_getElem (by rw [hpl]; exact hlti)⟩
                    obtain ⟨b3, off3, rfl, _, hcy⟩ := hcx (by intro e; rw [e] at hy; simp at hy)
                    have ky : w.cell? ⟨b3, off3 + i, none⟩ = some (.int .i64 y) := by have := hcy i y hy 0 (.int .i64 y) rfl; simpa using this
                    rw [hxe, hpl] at c0
                    have HFX : Aside (y < 0 ∨ 1000000 < y → fr = 2) := fun h => HF.out.symm.trans (frm_2b HL1.out HL2.out p.2 (List.mem_map_of_mem (List.mem_of_getElem? hp)) y (List.mem_of_getElem? hy) h)
                    have HTX : Aside (¬ y < 0 ∧ ¬ 1000000 < y → ∀ (q : Nat) (p : Value × List Int), q < k + 1 → ws[q]? = some p → ∀ x, p.2[i]? = some x → ¬ x < 0 ∧ ¬ 1000000 < x) := by
                      intro h q p' hq hp' x hx
                      by_cases e : q = k
                      · subst e; rw [hp] at hp'; cases hp'; rw [hy] at hx; cases hx; exact h
                      · exact HE.out q p' (by omega) hp' x hx
                    rw [hpl] at lx
                    clear HE hp hy hcx hcy hxe hpl
                    by_cases b1 : y < 0
                    · have e : fr = 2 := HFX.out (.inl b1)
                      subst e
                      go_wp2_with fail
                      go_ret
                      exact ⟨rfl, Below.refl _ _⟩
                    · by_cases b2 : 1000000 < y
                      · have e : fr = 2 := HFX.out (.inr b2)
                        subst e
                        go_wp2_with fail
                        go_ret
                        exact ⟨rfl, Below.refl _ _⟩
                      · have HT3 : Aside _ := HTX.out ⟨b1, b2⟩
                        clear HTX HFX
                        go_wp2_with fail
                        go_roundg (ns - (k + 1))
                        case measure => omega
                        case rel => exact ⟨k + 1, by omega, by omega, by go_num, HT3, rfl⟩
                  · have hke : ns = k := by omega
                    subst hke
                    have hltk : ¬ (ns : Int) < (ns : Int) := by omega
                    have HD2 : Aside (∀ (q : Nat) (p : Value × List Int), ws[q]? = some p → ∀ j x, j < i + 1 → p.2[j]? = some x → ¬ x < 0 ∧ ¬ 1000000 < x) := by
                      intro q p hq j x hj hx
                      by_cases e : j = i
                      · subst e
                        have := HE.out q p (by have := (List.getElem?_eq_some_iff.1 hq).1; have := HNS.out; omega) hq x hx
                        omega
                      · have := HD.out q p hq j x (by omega) hx
                        omega
                    clear HE HD
                    go_wp2_with fail
                    go_roundg (nw - (i + 1))
                    case measure => omega
                    case rel => exact ⟨i + 1, by omega, by omega, by go_num, HT2, HD2, rfl⟩
          · have hke : nw = i := by omega
            subst hke
            have hltiz : ¬ (nw : Int) < (nw : Int) := by omega
            have e : fr = 0 := by
              rw [← HF.out]
              refine frm_0 HL1.out HL2.out ?_ ?_
              · intro x hx
                obtain ⟨j, hj, rfl⟩ := List.getElem_of_mem hx
                exact HA.out j _ (by rw [← HNW.out]; exact hj) (List.getElem?_eq_getElem hj)
              · intro l hl x hx
                have h2 := HL2.out l hl
                obtain ⟨p, hp, rfl⟩ := List.mem_map.1 hl
                obtain ⟨q, hq, rfl⟩ := List.getElem_of_mem hp
                obtain ⟨j, hj, rfl⟩ := List.getElem_of_mem hx
                exact HD.out q _ (List.getElem?_eq_getElem hq) j _ (by omega) (List.getElem?_eq_getElem hj)
            subst e
            go_wp2_with fail
            go_ret
            exact ⟨rfl, Below.refl _ _⟩
  · have e1z : ¬ (nw : Int) = (n : Int) := by omega
    have e : fr = 4 := HF.out.symm.trans (frm_4a (by rw [HNW.out]; exact e1z))
    subst e
    go_enter Tryz.func30, Tryz.ntmps30
    go_wp2_with fail
    go_ret
    exact ⟨rfl, Below.refl _ _⟩
end Go.Proofs.YtgceffpkhmjmkaaGreat

namespace Go.Proofs.YtgceffpkhmjmkaaGreat
open Go.RowKit Go.Shelf

def far (n : Int) : Bool := decide (1000000 < n) || decide (n < -1000000)
def farP (p : Int × Int) : Bool := far p.1 || far p.2
def farR (p : Int × Int) : Bool := far p.1
def greatB (b : Brd) : Bool :=
  decide (10 < b.rings.length) || decide (25 < b.lines.length) || decide (25 < b.nums.length) || far b.eye || far b.bull || far b.wire || b.rings.any farR || b.lines.any farP
theorem far_false {n : Int} (h : far n = false) : -1000000 ≤ n ∧ n ≤ 1000000 := by
  unfold far at h
  simp only [Bool.or_eq_false_iff, decide_eq_false_iff_not] at h
  omega
theorem small_of {b : Brd} (h : greatB b = false) : Small b := by
  unfold greatB at h
  simp only [Bool.or_eq_false_iff, decide_eq_false_iff_not, List.any_eq_false] at h
  obtain ⟨⟨⟨⟨⟨⟨⟨h1, h2⟩, h3⟩, h4⟩, h5⟩, h6⟩, h7⟩, h8⟩ := h
  refine ⟨by omega, by omega, by omega, far_false h4, far_false h5, far_false h6, fun r hr => ?_, fun l hl => ?_⟩
  · have := h7 r hr
    exact far_false (by unfold farR at this; simpa using this)
  · have := h8 l hl
    unfold farP at this
    simp only [Bool.or_eq_true, not_or, Bool.not_eq_true] at this
    have a := far_false this.1
    have c := far_false this.2
    exact ⟨a.1, a.2, c.1, c.2⟩

set_option maxHeartbeats 400000 in
theorem far_any (n : Int) (w : World) : Calls Tryz.prog 37 #[.int .i64 n] w (Ret (.bool (far n)) w) := by
  unfold far
  by_cases h : 1000000 < n
  · rw [decide_eq_true h]
    go_enter Tryz.func37, Tryz.ntmps37
    go_wp2_with fail
    go_ret
    exact ⟨rfl, Below.refl _ _⟩
  · rw [decide_eq_false h]
    go_enter Tryz.func37, Tryz.ntmps37
    go_wp2_with fail
    go_ret
    exact ⟨rfl, Below.refl _ _⟩

set_option maxRecDepth 100000 in
set_option maxHeartbeats 8000000 in
theorem great_any (v : Value) (b : Brd) (w : World) (h : BrdAt w v b) :
    Calls Tryz.prog 7 #[v] w (Ret (.bool (greatB b)) w) := by
  obtain ⟨vr, vl, vn, rfl, sr, sl, ⟨an, cn, rfl, ln, _⟩⟩ := h
  have hCR := sr
  have hCL := sl
  obtain ⟨ar, cr, rfl, lr, _⟩ := sr
  obtain ⟨al, cl, rfl, ll, _⟩ := sl
  have HCR : Aside (∀ j p, b.rings[j]? = some p → ∃ g off, ar = some ⟨g, off, none⟩ ∧ w.cell? ⟨g, off + j * 2, none⟩ = some (.int .i64 p.1) ∧ w.cell? ⟨g, off + j * 2 + 1, none⟩ = some (.int .i64 p.2)) := cells_of hCR
  have HCL : Aside (∀ j p, b.lines[j]? = some p → ∃ g off, al = some ⟨g, off, none⟩ ∧ w.cell? ⟨g, off + j * 2, none⟩ = some (.int .i64 p.1) ∧ w.cell? ⟨g, off + j * 2 + 1, none⟩ = some (.int .i64 p.2)) := cells_of hCL
  clear hCR hCL
  obtain ⟨gb, hgb⟩ : ∃ x, greatB b = x := ⟨_, rfl⟩
  rw [hgb]
  obtain ⟨f0, hf0⟩ : ∃ x, far b.eye = x := ⟨_, rfl⟩
  obtain ⟨f1, hf1⟩ : ∃ x, far b.bull = x := ⟨_, rfl⟩
  obtain ⟨f2, hf2⟩ : ∃ x, far b.wire = x := ⟨_, rfl⟩
  have HG : Aside (gb = (decide (10 < b.rings.length) || decide (25 < b.lines.length) || decide (25 < b.nums.length) || f0 || f1 || f2 || b.rings.any farR || b.lines.any farP)) := by
    show _ = _
    rw [← hgb, ← hf0, ← hf1, ← hf2]; rfl
  have y0 := fun W => far_any b.eye W
  have y1 := fun W => far_any b.bull W
  have y2 := fun W => far_any b.wire W
  rw [hf0] at y0
  rw [hf1] at y1
  rw [hf2] at y2
  clear hgb hf0 hf1 hf2
  obtain ⟨nr, hnr⟩ : ∃ n, b.rings.length = n := ⟨_, rfl⟩
  obtain ⟨nl, hnl⟩ : ∃ n, b.lines.length = n := ⟨_, rfl⟩
  obtain ⟨nn, hnn⟩ : ∃ n, b.nums.length = n := ⟨_, rfl⟩
  have HN : Aside (b.rings.length = nr ∧ b.lines.length = nl ∧ b.nums.length = nn) := ⟨hnr, hnl, hnn⟩
  rw [hnr] at HG lr ⊢
  rw [hnl] at HG ll ⊢
  rw [hnn] at HG ln ⊢
  clear hnr hnl hnn
  obtain ⟨ey, hey⟩ : ∃ x, b.eye = x := ⟨_, rfl⟩
  obtain ⟨bu, hbu⟩ : ∃ x, b.bull = x := ⟨_, rfl⟩
  obtain ⟨wi, hwi⟩ : ∃ x, b.wire = x := ⟨_, rfl⟩
  rw [hey] at y0 ⊢
  rw [hbu] at y1 ⊢
  rw [hwi] at y2 ⊢
  clear hey hbu hwi
  go_enter Tryz.func7, Tryz.ntmps7
  go_upto_region 2 with (fail)
  obtain ⟨W0, hW0⟩ : ∃ W0, W0 = w.alloc (.cells #[.int .i64 ey, .int .i64 bu, .slice ar nr cr, .slice al nl cl, .slice an nn cn, .int .i64 wi] 26) := ⟨_, rfl⟩
  have B0 : Aside (Below w.heap.size w W0) := by rw [hW0]; clear hW0; show Below _ _ _; (repeat' (first | exact Below.refl _ _ | assumption | (with_reducible refine Below.drew ?_) | (with_reducible refine Below.setCell ?_ (by (first | (simp; done) | (simp; omega))) _) | (with_reducible refine below_drewN' ?_ _) | (refine Below.alloc ?_ (by (try simp only [World.size_alloc, World.size_drew, World.size_setCell]); omega) _) | (refine Below.trans ?_ (Below.mono (by assumption) (by (try simp only [World.size_alloc, World.size_drew, World.size_setCell]); omega)))))
  have x0 : W0.cell? ⟨w.heap.size, 0, none⟩ = some (.int .i64 ey) := by rw [hW0]; clear hW0; go_simp
  have x1 : W0.cell? ⟨w.heap.size, 1, none⟩ = some (.int .i64 bu) := by rw [hW0]; clear hW0; go_simp
  have x2 : W0.cell? ⟨w.heap.size, 2, none⟩ = some (.slice ar nr cr) := by rw [hW0]; clear hW0; go_simp
  have x3 : W0.cell? ⟨w.heap.size, 3, none⟩ = some (.slice al nl cl) := by rw [hW0]; clear hW0; go_simp
  have x4 : W0.cell? ⟨w.heap.size, 4, none⟩ = some (.slice an nn cn) := by rw [hW0]; clear hW0; go_simp
  have x5 : W0.cell? ⟨w.heap.size, 5, none⟩ = some (.int .i64 wi) := by rw [hW0]; clear hW0; go_simp
  rw [← hW0]
  clear hW0
  obtain ⟨hd, hhd⟩ : ∃ x, (decide (10 < nr) || decide (25 < nl) || decide (25 < nn) || f0 || f1 || f2) = x := ⟨_, rfl⟩
  have HH : Aside ((decide (10 < nr) || decide (25 < nl) || decide (25 < nn) || f0 || f1 || f2) = hd) := hhd
  rw [hhd] at HG
  clear hhd
  go_cut [39] (fun s39 wc => s39 = .bool hd ∧ Aside (Below W0.heap.size W0 wc))
  case first =>
    have hh := HH.out
    by_cases a1 : 10 < nr
    · have e : hd = true := by rw [← hh, decide_eq_true a1]; rfl
      have a1z : (10 : Int) < (nr : Int) := by omega
      clear hh y0 y1 y2
      subst e
      go_wp2_with fail
      go_meet
      exact ⟨rfl, Below.refl _ _⟩
    · have a1z : ¬ (10 : Int) < (nr : Int) := by omega
      by_cases a2 : 25 < nl
      · have e : hd = true := by rw [← hh, decide_eq_true a2]; simp
        have a2z : (25 : Int) < (nl : Int) := by omega
        clear hh y0 y1 y2
        subst e
        go_wp2_with fail
        go_meet
        exact ⟨rfl, Below.refl _ _⟩
      · have a2z : ¬ (25 : Int) < (nl : Int) := by omega
        by_cases a3 : 25 < nn
        · have e : hd = true := by rw [← hh, decide_eq_true a3]; simp
          have a3z : (25 : Int) < (nn : Int) := by omega
          clear hh y0 y1 y2
          subst e
          go_wp2_with fail
          go_meet
          exact ⟨rfl, Below.refl _ _⟩
        · have a3z : ¬ (25 : Int) < (nn : Int) := by omega
          have d1 : decide ((10 : Int) < (nr : Int)) = false := decide_eq_false a1z
          have d2 : decide ((25 : Int) < (nl : Int)) = false := decide_eq_false a2z
          have d3 : decide ((25 : Int) < (nn : Int)) = false := decide_eq_false a3z
          rw [decide_eq_false a1, decide_eq_false a2, decide_eq_false a3] at hh
          simp only [Bool.false_or] at hh
          cases f0 with
          | true =>
            replace hh : true = hd := hh
            subst hh
            go_wp2_with (go_at_call 37; (with_reducible refine (y0 _).mono ?_); clear y0; rintro e w1 ⟨rfl, hb1⟩)
            go_meet
            exact ⟨by first | rfl | (rw [d1, d2, d3]; rfl), hb1⟩
          | false =>
            cases f1 with
            | true =>
              replace hh : true = hd := hh
              subst hh
              go_wp2_with (first | (go_at_call 37; (with_reducible refine (y0 _).mono ?_); clear y0; rintro e w1 ⟨rfl, hb1⟩; have x1' := keepc hb1 x1; have x5' := keepc hb1 x5) | (go_at_call 37; (with_reducible refine (y1 _).mono ?_); clear y1; rintro e w2 ⟨rfl, hb2⟩))
              go_meet
              exact ⟨by first | rfl | (rw [d1, d2, d3]; rfl), hb1.trans (hb2.mono hb1.size)⟩
            | false =>
              replace hh : f2 = hd := hh
              subst hh
              go_wp2_with (first | (go_at_call 37; (with_reducible refine (y0 _).mono ?_); clear y0; rintro e w1 ⟨rfl, hb1⟩; have x1' := keepc hb1 x1; have x5' := keepc hb1 x5) | (go_at_call 37; (with_reducible refine (y1 _).mono ?_); clear y1; rintro e w2 ⟨rfl, hb2⟩; have x5'' := keepc hb2 x5') | (go_at_call 37; (with_reducible refine (y2 _).mono ?_); clear y2; rintro e w3 ⟨rfl, hb3⟩))
              go_meet
              exact ⟨by first | rfl | (rw [d1, d2, d3]; rfl) | (simp [d1, d2, d3]), (hb1.trans (hb2.mono hb1.size)).trans (hb3.mono (hb1.trans (hb2.mono hb1.size)).size)⟩
  case rest =>
    obtain ⟨U, rfl⟩ : ∃ U : World, U = wc := ⟨_, rfl⟩
    obtain ⟨rfl, hBN⟩ := hcut
    have BU : Aside (Below w.heap.size w U) := B0.out.trans (hBN.out.mono B0.out.size)
    replace x2 := keepc hBN.out x2
    replace x3 := keepc hBN.out x3
    clear hBN B0 x0 x1 x4 x5 y0 y1 y2 HH
    cases hd with
    | true =>
      have e : gb = true := HG.out
      subst e
      go_wp2_with fail
      go_ret
      exact ⟨rfl, BU.out⟩
    | false =>
      have HG2 : Aside (gb = (b.rings.any farR || b.lines.any farP)) := HG.out
      clear HG
      go_wp2_with fail
      go_loopg [4] nr (fun gg i wr => ∃ k : Nat, k ≤ nr ∧ nr - k ≤ gg ∧ i = .int .i64 k ∧ Aside (∀ j p, j < k → b.rings[j]? = some p → farR p = false) ∧ Aside (Below U.heap.size U wr))
      case atStart => exact ⟨0, Nat.zero_le _, by omega, rfl, fun j p hj => absurd hj (Nat.not_lt_zero _), Below.refl _ _⟩
      case round =>
        obtain ⟨k, hk, hg, rfl, HA, BW⟩ := hrel
        have z2 := keepc BW.out x2
        have z3 := keepc BW.out x3
        by_cases hlt : k < nr
        · have hltz : (k : Int) < (nr : Int) := by omega
          obtain ⟨p, hp⟩ : ∃ p, b.rings[k]? = some p := ⟨_, List.getElem?_eq_getElem (by rw [HN.out.1]; exact hlt)⟩
          obtain ⟨g', off, rfl, c0, _⟩ := HCR.out k p hp
          have c0 := keepc BW.out (keepc BU.out c0)
          have HF : Aside (farR p = true → gb = true) := by
            intro h
            rw [HG2.out]
            have : b.rings.any farR = true := List.any_eq_true.2 ⟨p, List.mem_of_getElem? hp, h⟩
            rw [this]; rfl
          have HT : Aside (farR p = false → ∀ j q, j < k + 1 → b.rings[j]? = some q → farR q = false) := by
            intro h j q hj hq
            by_cases e : j = k
            · subst e; rw [hp] at hq; cases hq; exact h
            · exact HA.out j q (by omega) hq
          clear HA hp
          obtain ⟨x, y⟩ := p
          have y0 := fun W => far_any x W
          simp only [] at c0
          have HX : Aside (farR (x, y) = far x) := rfl
          obtain ⟨fx, hfx⟩ : ∃ f, far x = f := ⟨_, rfl⟩
          rw [hfx] at y0 HX
          clear hfx
          cases fx with
          | true =>
            have e : gb = true := HF.out HX.out
            subst e
            go_wp2_with (go_at_call 37; (with_reducible refine (y0 _).mono ?_); rintro e w1 ⟨rfl, hb1⟩)
            go_ret
            exact ⟨rfl, BU.out.trans ((BW.out.trans (hb1.mono BW.out.size)).mono BU.out.size)⟩
          | false =>
            have HT2 : Aside (∀ j q, j < k + 1 → b.rings[j]? = some q → farR q = false) := HT.out HX.out
            go_wp2_with (go_at_call 37; (with_reducible refine (y0 _).mono ?_); rintro e w1 ⟨rfl, hb1⟩)
            go_roundg (nr - (k + 1))
            case measure => omega
            case rel => exact ⟨k + 1, by omega, by omega, by go_num, HT2, BW.out.trans (hb1.mono BW.out.size)⟩
        · have hke : nr = k := by omega
          subst hke
          have hltz : ¬ (nr : Int) < (nr : Int) := by omega
          have HG3 : Aside (gb = b.lines.any farP) := by
            show _ = _
            rw [HG2.out]
            have : b.rings.any farR = false := by
              rw [List.any_eq_false]
              intro p hp
              obtain ⟨j, hj, rfl⟩ := List.getElem_of_mem hp
              rw [HA.out j _ (by rw [← HN.out.1]; exact hj) (List.getElem?_eq_getElem hj)]; simp
            rw [this]; rfl
          clear HA HG2
          obtain ⟨U3, rfl⟩ : ∃ U3 : World, U3 = wr := ⟨_, rfl⟩
          have BU3 : Aside (Below w.heap.size w U3) := BU.out.trans (BW.out.mono BU.out.size)
          clear BW x2 x3
          go_wp2_with fail
          go_loopg [5] nl (fun gg i wr => ∃ k : Nat, k ≤ nl ∧ nl - k ≤ gg ∧ i = .int .i64 k ∧ Aside (∀ j p, j < k → b.lines[j]? = some p → farP p = false) ∧ Aside (Below U3.heap.size U3 wr))
          case atStart => exact ⟨0, Nat.zero_le _, by omega, rfl, fun j p hj => absurd hj (Nat.not_lt_zero _), Below.refl _ _⟩
          case round =>
            obtain ⟨k, hk, hg, rfl, HA, BW⟩ := hrel
            have z3 := keepc BW.out z3
            by_cases hlt : k < nl
            · have hltz2 : (k : Int) < (nl : Int) := by omega
              obtain ⟨p, hp⟩ : ∃ p, b.lines[k]? = some p := ⟨_, List.getElem?_eq_getElem (by rw [HN.out.2.1]; exact hlt)⟩
              obtain ⟨g', off, rfl, c0, c1⟩ := HCL.out k p hp
              have c0 := keepc BW.out (keepc BU3.out c0)
              have c1 := keepc BW.out (keepc BU3.out c1)
              have HF : Aside (farP p = true → gb = true) := by
                intro h
                rw [HG3.out]
                exact List.any_eq_true.2 ⟨p, List.mem_of_getElem? hp, h⟩
              have HT : Aside (farP p = false → ∀ j q, j < k + 1 → b.lines[j]? = some q → farP q = false) := by
                intro h j q hj hq
                by_cases e : j = k
                · subst e; rw [hp] at hq; cases hq; exact h
                · exact HA.out j q (by omega) hq
              clear HA hp
              obtain ⟨x, y⟩ := p
              have y0 := fun W => far_any x W
              have y1 := fun W => far_any y W
              simp only [] at c0 c1
              have HX : Aside (farP (x, y) = (far x || far y)) := rfl
              obtain ⟨fx, hfx⟩ : ∃ f, far x = f := ⟨_, rfl⟩
              obtain ⟨fy, hfy⟩ : ∃ f, far y = f := ⟨_, rfl⟩
              rw [hfx] at y0 HX
              rw [hfy] at y1 HX
              clear hfx hfy
              cases fx with
              | true =>
                have e : gb = true := HF.out (by rw [HX.out]; rfl)
                subst e
                go_wp2_with (go_at_call 37; (with_reducible refine (y0 _).mono ?_); clear y0; rintro e w1 ⟨rfl, hb1⟩)
                go_ret
                exact ⟨rfl, BU3.out.trans ((BW.out.trans (hb1.mono BW.out.size)).mono BU3.out.size)⟩
              | false =>
                cases fy with
                | true =>
                  have e : gb = true := HF.out (by rw [HX.out]; rfl)
                  subst e
                  go_wp2_with (first | (go_at_call 37; (with_reducible refine (y0 _).mono ?_); clear y0; rintro e w1 ⟨rfl, hb1⟩; have z3' := keepc hb1 z3; have c1' := keepc hb1 c1) | (go_at_call 37; (with_reducible refine (y1 _).mono ?_); clear y1; rintro e w2 ⟨rfl, hb2⟩))
                  go_ret
                  exact ⟨rfl, BU3.out.trans ((BW.out.trans ((hb1.trans (hb2.mono hb1.size)).mono BW.out.size)).mono BU3.out.size)⟩
                | false =>
                  have HT2 : Aside (∀ j q, j < k + 1 → b.lines[j]? = some q → farP q = false) := HT.out (by rw [HX.out]; rfl)
                  go_wp2_with (first | (go_at_call 37; (with_reducible refine (y0 _).mono ?_); clear y0; rintro e w1 ⟨rfl, hb1⟩; have z3' := keepc hb1 z3; have c1' := keepc hb1 c1) | (go_at_call 37; (with_reducible refine (y1 _).mono ?_); clear y1; rintro e w2 ⟨rfl, hb2⟩))
                  go_roundg (nl - (k + 1))
                  case measure => omega
                  case rel => exact ⟨k + 1, by omega, by omega, by go_num, HT2, BW.out.trans ((hb1.trans (hb2.mono hb1.size)).mono BW.out.size)⟩
            · have hke : nl = k := by omega
              subst hke
              have hltz2 : ¬ (nl : Int) < (nl : Int) := by omega
              have e : gb = false := by
                rw [HG3.out, List.any_eq_false]
                intro p hp
                obtain ⟨j, hj, rfl⟩ := List.getElem_of_mem hp
                rw [HA.out j _ (by rw [← HN.out.2.1]; exact hj) (List.getElem?_eq_getElem hj)]; simp
              subst e
              go_wp2_with fail
              go_ret
              exact ⟨rfl, BU3.out.trans (BW.out.mono BU3.out.size)⟩
end Go.Proofs.YtgceffpkhmjmkaaGreat

namespace Go.Proofs.YtgceffpkhmjmkaaGreat
open Go.RowKit Go.Shelf

def emptyB : Brd := ⟨0, 0, [], [], [], 0⟩
theorem empty_at (W : World) : BrdAt W (.agg #[.int .i64 0, .int .i64 0, .slice none 0 0, .slice none 0 0, .slice none 0 0, .int .i64 0]) emptyB :=
  ⟨_, _, _, rfl, sl_nil2 _ _ _ _ _, sl_nil2 _ _ _ _ _, sl_nil2 _ _ _ _ _⟩

/-- The error of a turn, and the board that it leaves. -/
def turnE (b : Brd) (K : Int) : Int := if chk b = 0 then (if 0 ≤ K ∧ K < (b.nums.length : Int) then 0 else 3) else chk b
def turnR (b : Brd) (K : Int) : Brd := if turnE b K = 0 then turnB b K.toNat else emptyB
theorem turn_any (v : Value) (b : Brd) (K : Int) (w : World) (h : BrdAt w v b) :
    Calls Tryz.prog 26 #[v, .int .i64 K] w (fun e w' => ∃ vt, e = .returned (.tuple #[vt, .int .i64 (turnE b K)]) ∧ BrdAt w' vt (turnR b K) ∧ Below w.heap.size w w') := by
  by_cases hc : chk b = 0
  · by_cases hk : 0 ≤ K ∧ K < (b.nums.length : Int)
    · obtain ⟨k, rfl⟩ := Int.eq_ofNat_of_zero_le hk.1
      refine (Turn_ok v b k w h hc (by omega)).mono ?_
      rintro e w' ⟨g1, c1, g2, c2, g3, c3, rfl, hb, hB⟩
      have e1 : turnE b (k : Int) = 0 := by unfold turnE; rw [if_pos hc, if_pos hk]
      have e2 : turnR b (k : Int) = turnB b k := by unfold turnR; rw [if_pos e1, Int.toNat_natCast]
      rw [e1, e2]
      exact ⟨_, rfl, hb, hB⟩
    · refine (Turn_range v b K w h hc hk).mono ?_
      rintro e w' ⟨rfl, hB⟩
      have e1 : turnE b K = 3 := by unfold turnE; rw [if_pos hc, if_neg hk]
      have e2 : turnR b K = emptyB := by unfold turnR; rw [if_neg (by rw [e1]; decide)]
      rw [e1, e2]
      exact ⟨_, rfl, empty_at _, hB⟩
  · refine (Turn_chk v b K w h hc).mono ?_
    rintro e w' ⟨rfl, hB⟩
    have e1 : turnE b K = chk b := by unfold turnE; rw [if_neg hc]
    have e2 : turnR b K = emptyB := by unfold turnR; rw [if_neg (by rw [e1]; exact hc)]
    rw [e1, e2]
    exact ⟨_, rfl, empty_at _, hB⟩

/-- The error of the wear after a week, and the wear. -/
def wearE (b : Brd) (worn week : List Int) (K : Int) : Int :=
  if chk b = 0 then (if frm b.nums.length worn [week] = 0 then (if 0 ≤ K ∧ K < (worn.length : Int) then (if mx (aft worn week K.toNat) ≤ 1000000000 then 0 else 8) else 3) else frm b.nums.length worn [week]) else chk b
def wearL (b : Brd) (worn week : List Int) (K : Int) : List Int := if wearE b worn week K = 0 then aft worn week K.toNat else []
theorem wear_any (vb v vk : Value) (b : Brd) (worn week : List Int) (K : Int) (w : World) (h : BrdAt w vb b) (hw : Sl w 1 eI v worn) (hk : Sl w 1 eI vk week) :
    Calls Tryz.prog 27 #[vb, v, vk, .int .i64 K] w (fun e w' => ∃ va, e = .returned (.tuple #[va, .int .i64 (wearE b worn week K)]) ∧ Sl w' 1 eI va (wearL b worn week K) ∧ Below w.heap.size w w') := by
  by_cases hc : chk b = 0
  · by_cases hf : frm b.nums.length worn [week] = 0
    · have hf' : wErr b.nums.length worn [(vk, week)] = 0 := by rw [wErr_frm]; exact hf
      by_cases hK : 0 ≤ K ∧ K < (worn.length : Int)
      · obtain ⟨k, rfl⟩ := Int.eq_ofNat_of_zero_le hK.1
        by_cases hM : mx (aft worn week k) ≤ 1000000000
        · refine (Wear_ok vb v vk b worn week k w h hw hk hc hf' (by omega) hM).mono ?_
          rintro e w' ⟨va, rfl, hs, hB⟩
          have e1 : wearE b worn week (k : Int) = 0 := by unfold wearE; rw [if_pos hc, if_pos hf, if_pos hK, Int.toNat_natCast, if_pos hM]
          have e2 : wearL b worn week (k : Int) = aft worn week k := by unfold wearL; rw [if_pos e1, Int.toNat_natCast]
          rw [e1, e2]
          exact ⟨_, rfl, hs, hB⟩
        · refine (Wear_full vb v vk b worn week k w h hw hk hc hf' (by omega) hM).mono ?_
          rintro e w' ⟨rfl, hB⟩
          have e1 : wearE b worn week (k : Int) = 8 := by unfold wearE; rw [if_pos hc, if_pos hf, if_pos hK, Int.toNat_natCast, if_neg hM]
          have e2 : wearL b worn week (k : Int) = [] := by unfold wearL; rw [if_neg (by rw [e1]; decide)]
          rw [e1, e2]
          exact ⟨_, rfl, sl_nil2 _ _ _ _ _, hB⟩
      · refine (Wear_range vb v vk b worn week K w h hw hk hc hf hK).mono ?_
        rintro e w' ⟨rfl, hB⟩
        have e1 : wearE b worn week K = 3 := by unfold wearE; rw [if_pos hc, if_pos hf, if_neg hK]
        have e2 : wearL b worn week K = [] := by unfold wearL; rw [if_neg (by rw [e1]; decide)]
        rw [e1, e2]
        exact ⟨_, rfl, sl_nil2 _ _ _ _ _, hB⟩
    · refine (Wear_form vb v vk b worn week K w h hw hk hc _ rfl hf).mono ?_
      rintro e w' ⟨rfl, hB⟩
      have e1 : wearE b worn week K = frm b.nums.length worn [week] := by unfold wearE; rw [if_pos hc, if_neg hf]
      have e2 : wearL b worn week K = [] := by unfold wearL; rw [if_neg (by rw [e1]; exact hf)]
      rw [e1, e2]
      exact ⟨_, rfl, sl_nil2 _ _ _ _ _, hB⟩
  · refine (Wear_chk vb v vk b worn week K w h hw hk hc).mono ?_
    rintro e w' ⟨rfl, hB⟩
    have e1 : wearE b worn week K = chk b := by unfold wearE; rw [if_neg hc]
    have e2 : wearL b worn week K = [] := by unfold wearL; rw [if_neg (by rw [e1]; exact hc)]
    rw [e1, e2]
    exact ⟨_, rfl, sl_nil2 _ _ _ _ _, hB⟩

theorem best_any (vb v vk : Value) (b : Brd) (worn week : List Int) (w : World) (h : BrdAt w vb b) (hw : Sl w 1 eI v worn) (hk : Sl w 1 eI vk week) :
    Calls Tryz.prog 28 #[vb, v, vk] w (Ret (.tuple #[.int .i64 (if planE b worn [week] = 0 then bestK worn week else 0), .int .i64 (if planE b worn [week] = 0 then planM worn [week] else 0), .int .i64 (planE b worn [week])]) w) := by
  by_cases hE : planE b worn [week] = 0
  · rw [if_pos hE, if_pos hE, hE]
    unfold planE at hE
    by_cases hc : chk b = 0
    · rw [if_pos hc, if_neg (by simp)] at hE
      by_cases hf : frm b.nums.length worn [week] = 0
      · rw [if_pos hf] at hE
        by_cases hM : planM worn [week] ≤ 1000000000
        · exact Best_ok vb v vk b worn week w h hw hk hc (by rw [wErr_frm]; exact hf) hM
        · rw [if_neg hM] at hE; cases hE
      · rw [if_neg hf] at hE; exact absurd hE hf
    · rw [if_neg hc] at hE; exact absurd hE hc
  · rw [if_neg hE, if_neg hE]
    exact Best_err vb v vk b worn week w h hw hk _ rfl hE

/-- Numbers of which i have been laid k places on. -/
def mvk (xs : List Int) (k i : Nat) : List Int := (List.range xs.length).map fun s => if (s + (xs.length - k)) % xs.length < i then xs[(s + (xs.length - k)) % xs.length]?.getD 0 else xs[s]?.getD 0
theorem mvk_length (xs : List Int) (k i : Nat) : (mvk xs k i).length = xs.length := by simp [mvk]
theorem mvk_zero (xs : List Int) (k : Nat) : mvk xs k 0 = xs := by
  apply List.ext_getElem
  · simp [mvk]
  · intro s h1 h2
    simp [mvk, List.getElem?_eq_getElem h2]
theorem mvk_succ (xs : List Int) (k i : Nat) (hk : k < xs.length) (hi : i < xs.length) : (mvk xs k i).set ((i + k) % xs.length) (xs[i]?.getD 0) = mvk xs k (i + 1) := by
  apply List.ext_getElem
  · simp [mvk]
  · intro s h1 h2
    have hs : s < xs.length := by simpa [mvk] using h2
    rw [List.getElem_set]
    have hb := back_iff hs hk hi
    by_cases c : (i + k) % xs.length = s
    · rw [if_pos c]
      have := hb.2 c.symm
      simp only [mvk, List.getElem_map, List.getElem_range]
      rw [this, if_pos (by omega)]
    · rw [if_neg c]
      have hne : (s + (xs.length - k)) % xs.length ≠ i := fun h => c (hb.1 h).symm
      simp only [mvk, List.getElem_map, List.getElem_range]
      by_cases d : (s + (xs.length - k)) % xs.length < i
      · rw [if_pos d, if_pos (by omega)]
      · rw [if_neg d, if_neg (by omega)]
theorem mvk_all (xs : List Int) (k : Nat) (hk : k < xs.length) : mvk xs k xs.length = rot xs k := by
  apply List.ext_getElem
  · rw [mvk_length, rot_length]
  · intro s h1 h2
    have hs : s < xs.length := by simpa [mvk] using h1
    have hm : (s + (xs.length - k)) % xs.length < xs.length := Nat.mod_lt _ (by omega)
    have h3 := rot_get xs k s hs
    rw [List.getElem?_eq_getElem h2] at h3
    simp only [mvk, List.getElem_map, List.getElem_range]
    rw [if_pos hm]
    exact (Option.some.inj h3).symm
theorem cs_oth {w : World} {a b : Addr} {v : Value} (h : a ≠ b) : (w.setCell a v).cell? b = w.cell? b := World.cell?_setCell_other w a b v h
theorem cs_sam {w : World} {a : Addr} {v u : Value} (h : w.cell? a = some u) : (w.setCell a v).cell? a = some v := World.cell?_setCell_same' w a v (by rw [h]; rfl)
theorem Sl.putI {w : World} {g n c i : Nat} {xs : List Int} {y : Int} (h : Sl w 1 (fun x => [Value.int .i64 x]) (.slice (some ⟨g, 0, none⟩) n c) xs) (hi : i < xs.length) :
    Sl (w.setCell ⟨g, i, none⟩ (.int .i64 y)) 1 (fun x => [Value.int .i64 x]) (.slice (some ⟨g, 0, none⟩) n c) (xs.set i y) := by
  obtain ⟨a, c', e, hl, hs⟩ := h
  obtain ⟨b, off, ha, hb, hc⟩ := hs (by intro e; rw [e] at hi; simp at hi)
  cases e
  cases ha
  have h0 := hc i _ (List.getElem?_eq_getElem hi) 0 _ rfl
  rw [Nat.zero_add, Nat.add_zero, Nat.mul_one] at h0
  refine ⟨_, _, by rw [List.length_set], by rw [List.length_set]; exact hl, fun _ => ⟨g, 0, rfl, by simpa using hb, fun j x hx q u hu => ?_⟩⟩
  rw [Nat.zero_add, Nat.mul_one]
  have hq : q < 1 := by have := (List.getElem?_eq_some_iff.1 hu).1; simpa using this
  obtain rfl : q = 0 := by omega
  rw [Nat.add_zero]
  by_cases hij : i = j
  · subst hij
    rw [List.getElem?_set_self hi] at hx
    cases hx
    simp only [List.getElem?_cons_zero, Option.some.injEq] at hu
    subst hu
    rw [cs_sam h0]
  · rw [List.getElem?_set_ne hij] at hx
    have h2 := hc j x hx 0 u hu
    rw [Nat.zero_add, Nat.mul_one, Nat.add_zero] at h2
    rw [cs_oth (by intro e; simp at e <;> omega)]
    exact h2
/-- A board's block that is filled at once. -/
theorem fill6 {W : World} {g : Nat} {x0 x1 x2 x3 x4 x5 y0 y1 y2 y3 y4 y5 : Value} {T : TypeId} (h : W.heap[g]? = some (.cells #[y0, y1, y2, y3, y4, y5] T (0, 0))) (V : World)
    (hV : V = (((((W.setCell ⟨g, 0, none⟩ x0).setCell ⟨g, 1, none⟩ x1).setCell ⟨g, 2, none⟩ x2).setCell ⟨g, 3, none⟩ x3).setCell ⟨g, 4, none⟩ x4).setCell ⟨g, 5, none⟩ x5) :
    V.heap[g]? = some (.cells #[x0, x1, x2, x3, x4, x5] T (0, 0)) ∧ (∀ n, n ≤ g → Below n W V) ∧
      ∀ (α : Type) (k : Nat) (enc : α → List Value) (xs : List α) (g' n c : Nat) (T' : TypeId), Sl W k enc (.slice (some ⟨g', 0, none⟩) n c) xs → TbO xs W g' T' → T' ≠ T → Sl V k enc (.slice (some ⟨g', 0, none⟩) n c) xs := by
  subst hV
  have z0 := Go.Joins.block_setCell (i := 0) h x0
  have z1 := Go.Joins.block_setCell (i := 1) z0 x1
  have z2 := Go.Joins.block_setCell (i := 2) z1 x2
  have z3 := Go.Joins.block_setCell (i := 3) z2 x3
  have z4 := Go.Joins.block_setCell (i := 4) z3 x4
  have z5 := Go.Joins.block_setCell (i := 5) z4 x5
  refine ⟨z5, fun n hn => ((((((Below.refl n W).setCell (p := ⟨g, 0, none⟩) hn x0).setCell (p := ⟨g, 1, none⟩) hn x1).setCell (p := ⟨g, 2, none⟩) hn x2).setCell (p := ⟨g, 3, none⟩) hn x3).setCell (p := ⟨g, 4, none⟩) hn x4).setCell (p := ⟨g, 5, none⟩) hn x5, ?_⟩
  intro α k enc xs g' n c T' hs ht hT
  have b : Tb W g T := ⟨_, h⟩
  exact (((((hs.apart ht b hT).apart ht.setCell b.setCell hT).apart ht.setCell.setCell b.setCell.setCell hT).apart ht.setCell.setCell.setCell b.setCell.setCell.setCell hT).apart ht.setCell.setCell.setCell.setCell b.setCell.setCell.setCell.setCell hT).apart ht.setCell.setCell.setCell.setCell.setCell b.setCell.setCell.setCell.setCell.setCell hT
theorem blk_cell {w : World} {g i : Nat} {cs : Array Value} {T : TypeId} (h : w.heap[g]? = some (.cells cs T (0, 0))) : w.cell? ⟨g, i, none⟩ = cs[i]? := by simp [World.cell?, h]
theorem blk_below {w w' : World} {g : Nat} {o : Obj} (h : w.heap[g]? = some o) (hb : Below w.heap.size w w') : w'.heap[g]? = some o := (hb.block g (Array.getElem?_eq_some_iff.1 h).1).trans h

/-- A board whose numbers are laid one after another, K places on. -/
def RgtAt (ey bu wi : Int) (rings lines : List (Int × Int)) (nums : List Int) (nr nl nn K g g1 c1 g2 c2 g3 c3 j : Nat) (w : World) : Prop :=
  w.heap[g]? = some (.cells #[.int .i64 ey, .int .i64 bu, .slice (some ⟨g1, 0, none⟩) nr c1, .slice (some ⟨g2, 0, none⟩) nl c2, .slice (some ⟨g3, 0, none⟩) nn c3, .int .i64 wi] 26 (0, 0)) ∧
    Sl w 2 encP (.slice (some ⟨g1, 0, none⟩) nr c1) rings ∧ Sl w 2 encP (.slice (some ⟨g2, 0, none⟩) nl c2) lines ∧ Sl w 1 (fun x => [Value.int .i64 x]) (.slice (some ⟨g3, 0, none⟩) nn c3) (mvk nums K j) ∧
    TbO rings w g1 79 ∧ TbO lines w g2 28 ∧ Tb w g3 3
theorem RgtAt.below {ey bu wi : Int} {rings lines : List (Int × Int)} {nums : List Int} {nr nl nn K g g1 c1 g2 c2 g3 c3 j : Nat} {w w' : World} (h : RgtAt ey bu wi rings lines nums nr nl nn K g g1 c1 g2 c2 g3 c3 j w) (hb : Below w.heap.size w w') : RgtAt ey bu wi rings lines nums nr nl nn K g g1 c1 g2 c2 g3 c3 j w' := by
  obtain ⟨h1, h2, h3, h4, h5, h6, h7⟩ := h
  exact ⟨blk_below h1 hb, h2.below hb, h3.below hb, h4.below hb, h5.below hb, h6.below hb, h7.below hb⟩
theorem RgtAt.put {ey bu wi : Int} {rings lines : List (Int × Int)} {nums : List Int} {nr nl nn K g g1 c1 g2 c2 g3 c3 j : Nat} {w : World} {x : Int} (h : RgtAt ey bu wi rings lines nums nr nl nn K g g1 c1 g2 c2 g3 c3 j w) (hn : nums.length = nn) (hK : K < nn) (hj : j < nn) (hx : nums[j]? = some x) :
    RgtAt ey bu wi rings lines nums nr nl nn K g g1 c1 g2 c2 g3 c3 (j + 1) (w.setCell ⟨g3, (j + K) % nn, none⟩ (.int .i64 x)) := by
  obtain ⟨h1, h2, h3, h4, h5, h6, h7⟩ := h
  have ht : Tb w g 26 := ⟨_, h1⟩
  have n0 : g ≠ g3 := ht.ne h7 (by decide)
  have hm : (j + K) % nn < nn := Nat.mod_lt _ (by omega)
  refine ⟨by rw [Below.heap_setCell _ _ _ _ n0]; exact h1, h2.apart h5 h7 (by decide), h3.apart h6 h7 (by decide), ?_, h5.setCell, h6.setCell, h7.setCell⟩
  have := h4.putI (y := x) (i := (j + K) % nn) (by rw [mvk_length, hn]; exact hm)
  have e := mvk_succ nums K j (by omega) (by omega)
  rw [hx, Option.getD_some, hn] at e
  rwa [e] at this
theorem RgtAt.cell {ey bu wi : Int} {rings lines : List (Int × Int)} {nums : List Int} {nr nl nn K g g1 c1 g2 c2 g3 c3 j : Nat} {w : World} (h : RgtAt ey bu wi rings lines nums nr nl nn K g g1 c1 g2 c2 g3 c3 j w) (hn : nums.length = nn) (hj : 0 < nn) : ∃ u, w.cell? ⟨g3, (j + K) % nn, none⟩ = some u := by
  obtain ⟨a, c', e, _, hs⟩ := h.2.2.2.1
  have hm : (j + K) % nn < nn := Nat.mod_lt _ (by omega)
  have hl : (j + K) % nn < (mvk nums K j).length := by rw [mvk_length, hn]; exact hm
  obtain ⟨b', off, ha, hb, hc⟩ := hs (by intro e; rw [e] at hl; simp at hl)
  simp only [Value.slice.injEq] at e
  obtain ⟨rfl, _, _⟩ := e
  cases ha
  have h0 := hc _ _ (List.getElem?_eq_getElem hl) 0 _ rfl
  rw [Nat.zero_add, Nat.add_zero, Nat.mul_one] at h0
  exact ⟨_, h0⟩
theorem RgtAt.brd {ey bu wi : Int} {rings lines : List (Int × Int)} {nums : List Int} {nr nl nn K g g1 c1 g2 c2 g3 c3 : Nat} {w : World} (h : RgtAt ey bu wi rings lines nums nr nl nn K g g1 c1 g2 c2 g3 c3 nn w) (hn : nums.length = nn) (hK : K < nn) :
    BrdAt w (.agg #[.int .i64 ey, .int .i64 bu, .slice (some ⟨g1, 0, none⟩) nr c1, .slice (some ⟨g2, 0, none⟩) nl c2, .slice (some ⟨g3, 0, none⟩) nn c3, .int .i64 wi]) (turnB ⟨ey, bu, rings, lines, nums, wi⟩ K) := by
  obtain ⟨h1, h2, h3, h4, h5, h6, h7⟩ := h
  rw [← hn, mvk_all nums K (by omega)] at h4
  rw [← hn]
  exact ⟨_, _, _, rfl, h2, h3, h4⟩
end Go.Proofs.YtgceffpkhmjmkaaGreat

namespace Go.Proofs.YtgceffpkhmjmkaaGreat
open Go.RowKit Go.Shelf

/-- What the three calls come to, case by case. -/
structure TurnsSay (b : Brd) (worn wkl : List Int) (K : Int) (ckv tE wE bE bk bm fm pm mv : Int) (TB : Brd) (AL AF : List Int) : Prop where
  bad : ¬ ckv = 0 → tE = ckv ∧ TB = emptyB ∧ wE = ckv ∧ AL = [] ∧ bE = ckv ∧ bk = 0 ∧ bm = 0
  out : ckv = 0 → ¬ (0 ≤ K ∧ K < (b.nums.length : Int)) → tE = 3 ∧ TB = emptyB ∧ (fm = 0 → wE = 3 ∧ AL = [])
  inn : ckv = 0 → 0 ≤ K → K < (b.nums.length : Int) → tE = 0 ∧ TB = turnB b K.toNat
  frm : ckv = 0 → ¬ fm = 0 → wE = fm ∧ AL = [] ∧ bE = fm ∧ bk = 0 ∧ bm = 0
  les : ckv = 0 → fm = 0 → 0 ≤ K → K < (b.nums.length : Int) → mv ≤ 1000000000 → wE = 0 ∧ AL = AF
  gtr : ckv = 0 → fm = 0 → 0 ≤ K → K < (b.nums.length : Int) → ¬ mv ≤ 1000000000 → wE = 8 ∧ AL = []
  ple : ckv = 0 → fm = 0 → pm ≤ 1000000000 → bE = 0 ∧ bm = pm ∧ bk = bestK worn wkl
  pgt : ckv = 0 → fm = 0 → ¬ pm ≤ 1000000000 → bE = 8 ∧ bk = 0 ∧ bm = 0
theorem turns_say (b : Brd) (worn wkl : List Int) (K : Int) : TurnsSay b worn wkl K (chk b) (turnE b K) (wearE b worn wkl K) (planE b worn [wkl]) (if planE b worn [wkl] = 0 then bestK worn wkl else 0) (if planE b worn [wkl] = 0 then planM worn [wkl] else 0) (frm b.nums.length worn [wkl]) (planM worn [wkl]) (mx (aft worn wkl K.toNat)) (turnR b K) (wearL b worn wkl K) (aft worn wkl K.toNat) := by
  have hlen : frm b.nums.length worn [wkl] = 0 → worn.length = b.nums.length := fun hf => (wErr_ok (n := b.nums.length) (ws := [(Value.bool true, wkl)]) (by rw [wErr_frm]; exact hf)).1
  refine ⟨fun hc => ?_, fun hc hk => ?_, fun hc h0 h1 => ?_, fun hc hf => ?_, fun hc hf h0 h1 hm => ?_, fun hc hf h0 h1 hm => ?_, fun hc hf hp => ?_, fun hc hf hp => ?_⟩
  · have e1 : turnE b K = chk b := by unfold turnE; rw [if_neg hc]
    have e2 : wearE b worn wkl K = chk b := by unfold wearE; rw [if_neg hc]
    have e3 : planE b worn [wkl] = chk b := by unfold planE; rw [if_neg hc]
    rw [e1, e2, e3]
    unfold turnR wearL
    rw [e1, e2, if_neg hc, if_neg hc, if_neg hc, if_neg hc]
    exact ⟨rfl, rfl, rfl, rfl, rfl, rfl, rfl⟩
  · have e1 : turnE b K = 3 := by unfold turnE; rw [if_pos hc, if_neg hk]
    refine ⟨e1, by unfold turnR; rw [e1, if_neg (by decide)], fun hf => ?_⟩
    have e2 : wearE b worn wkl K = 3 := by unfold wearE; rw [if_pos hc, if_pos hf, if_neg (by rw [hlen hf]; exact hk)]
    exact ⟨e2, by unfold wearL; rw [e2, if_neg (by decide)]⟩
  · have e1 : turnE b K = 0 := by unfold turnE; rw [if_pos hc, if_pos ⟨h0, h1⟩]
    exact ⟨e1, by unfold turnR; rw [if_pos e1]⟩
  · have e2 : wearE b worn wkl K = frm b.nums.length worn [wkl] := by unfold wearE; rw [if_pos hc, if_neg hf]
    have e3 : planE b worn [wkl] = frm b.nums.length worn [wkl] := by unfold planE; rw [if_pos hc, if_neg (by simp), if_neg hf]
    rw [e2, e3, if_neg hf, if_neg hf]
    exact ⟨rfl, by unfold wearL; rw [e2, if_neg hf], rfl, rfl, rfl⟩
  · have e2 : wearE b worn wkl K = 0 := by unfold wearE; rw [if_pos hc, if_pos hf, if_pos (by rw [hlen hf]; exact ⟨h0, h1⟩), if_pos hm]
    exact ⟨e2, by unfold wearL; rw [if_pos e2]⟩
  · have e2 : wearE b worn wkl K = 8 := by unfold wearE; rw [if_pos hc, if_pos hf, if_pos (by rw [hlen hf]; exact ⟨h0, h1⟩), if_neg hm]
    exact ⟨e2, by unfold wearL; rw [e2, if_neg (by decide)]⟩
  · have e3 : planE b worn [wkl] = 0 := by unfold planE; rw [if_pos hc, if_neg (by simp), if_pos hf, if_pos hp]
    rw [if_pos e3, if_pos e3]
    exact ⟨e3, rfl, rfl⟩
  · have e3 : planE b worn [wkl] = 8 := by unfold planE; rw [if_pos hc, if_neg (by simp), if_pos hf, if_neg hp]
    rw [e3, if_neg (by decide), if_neg (by decide)]
    exact ⟨rfl, rfl, rfl⟩
theorem bestK_list (worn wkl : List Int) : digI worn.length 1 (bestP worn [wkl]) = [bestK worn wkl] := by
  obtain ⟨y, hy⟩ := List.length_eq_one_iff.1 (digI_length worn.length 1 (bestP worn [wkl]))
  unfold bestK
  rw [hy]; rfl
/-- A slice of one int; a tuple of such a slice and an int. -/
def OneAt (q : Int) (x : Value) (W : World) : Prop := ∃ bp fp cp, x = .slice (some ⟨bp, fp, none⟩) 1 cp ∧ W.cell? ⟨bp, fp, none⟩ = some (.int .i64 q)
theorem OneAt.below {q : Int} {x : Value} {W W' : World} (h : OneAt q x W) (hB : Below W.heap.size W W') : OneAt q x W' := by
  obtain ⟨bp, fp, cp, e, h⟩ := h
  exact ⟨bp, fp, cp, e, keepc hB h⟩
def OneP (pm q : Int) (x : Value) (W : World) : Prop := ∃ v, x = .tuple #[v, .int .i64 pm] ∧ OneAt q v W
theorem OneP.below {pm q : Int} {x : Value} {W W' : World} (h : OneP pm q x W) (hB : Below W.heap.size W W') : OneP pm q x W' := by
  obtain ⟨v, e, h⟩ := h
  exact ⟨v, e, h.below hB⟩
theorem wk_len {worn : List Int} {ws : List (Value × List Int)} (h : bigW worn ws = false) : (wk ws).length ≤ 1000 := by
  unfold bigW at h
  cases ws with
  | nil => simp [wk]
  | cons y t => simp at h; simp only [wk]; omega
theorem chk_pos {b : Brd} (h : chk b = 0) : 1 ≤ b.nums.length ∧ b.nums.length ≤ 20 := by
  have g := good_of_chk h
  have := g.len
  have := List.length_pos_iff.2 g.lines
  have := g.same
  omega

set_option maxRecDepth 100000 in
set_option maxHeartbeats 16000000 in
theorem turns_law (v vx : Value) (b : Brd) (worn : List Int) (ws : List (Value × List Int)) (K L : Int) (w : World) (h : BrdAt w v b) (hx : WoreAt w vx worn ws K L) :
    Calls Tryz.prog 5 #[v, vx] w (Ret (.bool true) w) := by
  have HB : Aside (BrdAt w v b) := h
  have HX : Aside (WoreAt w vx worn ws K L) := hx
  obtain ⟨vr, vl, vn, rfl, hr, hl, hn⟩ := h
  have HNS : Aside (Sl w 1 (fun x => [Value.int .i64 x]) vn b.nums) := hn
  obtain ⟨ar, cr, rfl, lr, _⟩ := hr
  obtain ⟨al, cl, rfl, ll, _⟩ := hl
  obtain ⟨an, cn, rfl, ln, _⟩ := hn
  obtain ⟨v1, v2, rfl, s1, s2, s3⟩ := hx
  have HW1 : Aside (Sl w 1 eI v1 worn) := s1
  have HWK : Aside (Sl w 1 eI (wkV ws) (wk ws)) := wk_sl s3
  obtain ⟨aw, cw, rfl, lw, _⟩ := s1
  obtain ⟨as_, cs, rfl, lws, _⟩ := s2
  obtain ⟨ak, ck_, eK, lk, _⟩ := HWK.out
  rw [eK] at HWK
  have HGR : Aside (∀ W, Below w.heap.size w W → Calls Tryz.prog 7 #[.agg #[.int .i64 b.eye, .int .i64 b.bull, .slice ar b.rings.length cr, .slice al b.lines.length cl, .slice an b.nums.length cn, .int .i64 b.wire]] W (Ret (.bool (greatB b)) W)) := fun W hW => great_any _ b W (HB.out.below hW)
  have HBG : Aside (∀ W, Below w.heap.size w W → Calls Tryz.prog 23 #[.agg #[.slice aw worn.length cw, .slice as_ ws.length cs, .int .i64 K, .int .i64 L]] W (Ret (.bool (bigW worn ws)) W)) := fun W hW => big_any _ worn ws K L W (HX.out.below hW)
  have HKN : Aside (∀ W, Calls Tryz.prog 8 #[] W (Ret (.bool true) W)) := fun W => known_any W
  have HOW : Aside (greatB b = false → ∀ W, Below w.heap.size w W → Calls Tryz.prog 9 #[.agg #[.int .i64 b.eye, .int .i64 b.bull, .slice ar b.rings.length cr, .slice al b.lines.length cl, .slice an b.nums.length cn, .int .i64 b.wire]] W (OwnOkT b W)) := fun hg W hW => by
    have hs := small_of hg
    exact own_allT _ b W (HB.out.below hW) (by have := hs.rl; omega) (by have := hs.ll; omega) (by have := hs.nl; omega)
  have HIW : Aside (bigW worn ws = false → ∀ W, Below w.heap.size w W → Calls Tryz.prog 24 #[.slice aw worn.length cw] W (RetSlT worn W)) := fun hg W hW => ints_allT _ worn W (HW1.out.below hW) (by unfold bigW at hg; simp at hg; omega)
  have HIK : Aside (bigW worn ws = false → ∀ W, Below w.heap.size w W → Calls Tryz.prog 24 #[.slice ak (wk ws).length ck_] W (RetSlT (wk ws) W)) := fun hg W hW => ints_allT _ (wk ws) W (HWK.out.below hW) (wk_len hg)
  have HWE : Aside (∀ W, Below w.heap.size w W → Calls Tryz.prog 25 #[.agg #[.slice aw worn.length cw, .slice as_ ws.length cs, .int .i64 K, .int .i64 L]] W (Ret (.slice ak (wk ws).length ck_) W)) := fun W hW => by
    have := week_any _ worn ws K L W (HX.out.below hW)
    rw [eK] at this
    exact this
  have HTU : Aside (∀ u W, BrdAt W u b → Calls Tryz.prog 26 #[u, .int .i64 K] W (fun e w' => ∃ te tu ta tr tc ua ur uc va vr vc tw, e = .returned (.tuple #[.agg #[.int .i64 te, .int .i64 tu, .slice ta tr tc, .slice ua ur uc, .slice va vr vc, .int .i64 tw], .int .i64 (turnE b K)]) ∧ BrdAt w' (.agg #[.int .i64 te, .int .i64 tu, .slice ta tr tc, .slice ua ur uc, .slice va vr vc, .int .i64 tw]) (turnR b K) ∧ Below W.heap.size W w')) := fun u W h => (turn_any u b K W h).mono (by
    rintro e w' ⟨vt, rfl, hb, hB⟩
    have hb2 := hb
    obtain ⟨q1, q2, q3, rfl, ⟨_, _, rfl, _⟩, ⟨_, _, rfl, _⟩, ⟨_, _, rfl, _⟩⟩ := hb
    exact ⟨_, _, _, _, _, _, _, _, _, _, _, _, rfl, hb2, hB⟩)
  have HWR : Aside (∀ u u1 u2 W, BrdAt W u b → Sl W 1 eI u1 worn → Sl W 1 eI u2 (wk ws) → Calls Tryz.prog 27 #[u, u1, u2, .int .i64 K] W (fun e w' => ∃ aa na ca, e = .returned (.tuple #[.slice aa na ca, .int .i64 (wearE b worn (wk ws) K)]) ∧ Sl w' 1 eI (.slice aa na ca) (wearL b worn (wk ws) K) ∧ na = (wearL b worn (wk ws) K).length ∧ Below W.heap.size W w')) := fun u u1 u2 W h h1 h2 => (wear_any u u1 u2 b worn (wk ws) K W h h1 h2).mono (by
    rintro e w' ⟨va, rfl, hs, hB⟩
    have hs2 := hs
    obtain ⟨a, c, rfl, _⟩ := hs
    exact ⟨_, _, _, rfl, hs2, rfl, hB⟩)
  have HBE : Aside (∀ u u1 u2 W, BrdAt W u b → Sl W 1 eI u1 worn → Sl W 1 eI u2 (wk ws) → Calls Tryz.prog 28 #[u, u1, u2] W (Ret (.tuple #[.int .i64 (if planE b worn [wk ws] = 0 then bestK worn (wk ws) else 0), .int .i64 (if planE b worn [wk ws] = 0 then planM worn [wk ws] else 0), .int .i64 (planE b worn [wk ws])]) W)) := fun u u1 u2 W h h1 h2 => best_any u u1 u2 b worn (wk ws) W h h1 h2
  have HSM : Aside (∀ u u' W, BrdAt W u b → Below w.heap.size w W → u' = (.agg #[.int .i64 b.eye, .int .i64 b.bull, .slice ar b.rings.length cr, .slice al b.lines.length cl, .slice an b.nums.length cn, .int .i64 b.wire]) → Calls Tryz.prog 14 #[u, u'] W (Ret (.bool true) W)) := fun u u' W h hW e => by subst e; exact same_eq u _ b W h (HB.out.below hW)
  have HSE : Aside (∀ u u' B W, BrdAt W u B → BrdAt W u' B → Calls Tryz.prog 14 #[u, u'] W (Ret (.bool true) W)) := fun u u' B W h h' => same_eq u u' B W h h'
  have HAL : Aside (∀ u u' xs W, Sl W 1 eI u xs → Sl W 1 eI u' xs → Calls Tryz.prog 29 #[u, u'] W (Ret (.bool true) W)) := fun u u' xs W h h' => by
    have := alike_any u u' xs xs W h h'
    rwa [decide_eq_true rfl] at this
  have HRC : Aside (greatB b = false → ∀ W, Below w.heap.size w W → Calls Tryz.prog 13 #[.agg #[.int .i64 b.eye, .int .i64 b.bull, .slice ar b.rings.length cr, .slice al b.lines.length cl, .slice an b.nums.length cn, .int .i64 b.wire]] W (Ret (.int .i64 (chk b)) W)) := fun hg W hW => rCheck_any _ b W (HB.out.below hW) (small_of hg)
  have HFO : Aside (greatB b = false → ∀ u W, Below w.heap.size w W → Sl W 1 eR u [((.slice ak (wk ws).length ck_ : Value), wk ws)] → Calls Tryz.prog 30 #[.int .i64 b.nums.length, .slice aw worn.length cw, u] W (Ret (.int .i64 (frm b.nums.length worn [wk ws])) W)) := fun hg u W hW hu => by
    have hs := small_of hg
    have := rForm_any b.nums.length _ u worn _ W (by have := hs.nl; omega) (HW1.out.below hW) hu (fun z hz => by simp at hz; subst hz; exact HWK.out.below hW)
    exact this
  have HRW : Aside (chk b = 0 → frm b.nums.length worn [wk ws] = 0 → ∀ k : Nat, (k : Int) < (b.nums.length : Int) → ∀ W, Below w.heap.size w W → Calls Tryz.prog 31 #[.slice aw worn.length cw, .slice ak (wk ws).length ck_, .int .i64 k] W (SlV (aft worn (wk ws) k) W)) := fun hc hf k hk W hW => by
    obtain ⟨f1, f2, f3, f4⟩ := wErr_ok (n := b.nums.length) (ws := [(Value.bool true, wk ws)]) (by rw [wErr_frm]; exact hf)
    have f2' := f2 _ (List.mem_singleton.2 rfl)
    have f4' := f4 _ (List.mem_singleton.2 rfl)
    simp only [] at f2' f4'
    have := (chk_pos hc).2
    exact rWear_any _ _ worn (wk ws) k W (HW1.out.below hW) (HWK.out.below hW) (by omega) (by omega) (by omega) (fun x hx => by have := f3 x hx; omega) (fun x hx => by have := f4' x hx; omega)
  have HRM : Aside (∀ k : Nat, 1 ≤ (aft worn (wk ws) k).length → ∀ u W, Sl W 1 eI u (aft worn (wk ws) k) → Calls Tryz.prog 32 #[u] W (Ret (.int .i64 (mx (aft worn (wk ws) k))) W)) := fun k hk u W hu => rMost_any u _ W hu (by intro e; rw [e] at hk; simp at hk)
  have HAN : Aside (chk b = 0 → frm b.nums.length worn [wk ws] = 0 → ∀ k : Nat, 1 ≤ (aft worn (wk ws) k).length) := fun hc hf k => by
    obtain ⟨f1, f2, f3, f4⟩ := wErr_ok (n := b.nums.length) (ws := [(Value.bool true, wk ws)]) (by rw [wErr_frm]; exact hf)
    have f2' := f2 _ (List.mem_singleton.2 rfl)
    simp only [] at f2'
    have := (chk_pos hc).1
    rw [aft_length]; omega
  have HRP : Aside (chk b = 0 → frm b.nums.length worn [wk ws] = 0 → ∀ u W, Below w.heap.size w W → Sl W 1 eR u [((.slice ak (wk ws).length ck_ : Value), wk ws)] → Calls Tryz.prog 33 #[.slice aw worn.length cw, u] W (fun e w' => ∃ v', e = .returned (.tuple #[v', .int .i64 (planM worn [wk ws])]) ∧ OneAt (bestK worn (wk ws)) v' w' ∧ Below W.heap.size W w')) := fun hc hf u W hW hu => by
    obtain ⟨f1, f2, f3, f4⟩ := wErr_ok (n := b.nums.length) (ws := [(Value.bool true, wk ws)]) (by rw [wErr_frm]; exact hf)
    have f2' := f2 _ (List.mem_singleton.2 rfl)
    have f4' := f4 _ (List.mem_singleton.2 rfl)
    simp only [] at f2' f4'
    have p1 := (chk_pos hc).1
    have p2 := (chk_pos hc).2
    have q := rPlan_any _ u worn _ W (HW1.out.below hW) hu (fun z hz => by simp at hz; subst hz; exact HWK.out.below hW) (by intro e; rw [e] at f1; simp at f1; omega) (by omega) (by simp) (by simp; omega) (fun z hz => by simp at hz; subst hz; show (wk ws).length = worn.length; omega) (fun x hx => by have := f3 x hx; omega) (fun z hz y hy => by simp at hz; subst hz; have := f4' y hy; omega)
    simp only [List.map_cons, List.map_nil, List.length_cons, List.length_nil, Nat.zero_add] at q
    rw [bestK_list] at q
    refine q.mono ?_
    rintro e w' ⟨v', rfl, hs, hB⟩
    obtain ⟨a, c, rfl, _, hs⟩ := hs
    obtain ⟨bp, fp, rfl, _, hcc⟩ := hs (by simp)
    have := hcc 0 _ rfl 0 _ rfl
    exact ⟨_, rfl, ⟨bp, fp, c, rfl, by simpa using this⟩, hB⟩
  have HTS : Aside (TurnsSay b worn (wk ws) K (chk b) (turnE b K) (wearE b worn (wk ws) K) (planE b worn [wk ws]) (if planE b worn [wk ws] = 0 then bestK worn (wk ws) else 0) (if planE b worn [wk ws] = 0 then planM worn [wk ws] else 0) (frm b.nums.length worn [wk ws]) (planM worn [wk ws]) (mx (aft worn (wk ws) K.toNat)) (turnR b K) (wearL b worn (wk ws) K) (aft worn (wk ws) K.toNat)) := turns_say b worn (wk ws) K
  have HCP : Aside (chk b = 0 → 1 ≤ b.nums.length ∧ b.nums.length ≤ 20) := fun hc => chk_pos hc
  have HNC : Aside (∀ W, Below w.heap.size w W → ∀ (j : Nat) (y : Int), b.nums[j]? = some y → ∃ g off, an = some ⟨g, off, none⟩ ∧ W.cell? ⟨g, off + j, none⟩ = some (.int .i64 y)) := fun W hW j y hj => by
    obtain ⟨a', c', e, _, hs⟩ := HNS.out.below hW
    obtain ⟨g, off, ha, _, hc⟩ := hs (by intro e; rw [e] at hj; simp at hj)
    simp only [Value.slice.injEq] at e
    obtain ⟨rfl, _, _⟩ := e
    exact ⟨g, off, ha, by have := hc j y hj 0 _ rfl; simpa using this⟩
  have HWS : Aside (Sl w 1 eI (.slice aw worn.length cw) worn) := HW1.out
  have HKS : Aside (Sl w 1 eI (.slice ak (wk ws).length ck_) (wk ws)) := HWK.out
  clear HB HX HW1 HWK HNS eK
  unfold OwnOkT at HOW
  unfold RetSlT at HIW HIK
  unfold SlV at HRW
  obtain ⟨gb, hgb⟩ : ∃ z, greatB b = z := ⟨_, rfl⟩
  obtain ⟨gw, hgw⟩ : ∃ z, bigW worn ws = z := ⟨_, rfl⟩
  obtain ⟨ckv, hck⟩ : ∃ z, chk b = z := ⟨_, rfl⟩
  obtain ⟨tE, htE⟩ : ∃ z, turnE b K = z := ⟨_, rfl⟩
  obtain ⟨TB, hTB⟩ : ∃ z, turnR b K = z := ⟨_, rfl⟩
  obtain ⟨wE, hwE⟩ : ∃ z, wearE b worn (wk ws) K = z := ⟨_, rfl⟩
  obtain ⟨AL, hAL⟩ : ∃ z, wearL b worn (wk ws) K = z := ⟨_, rfl⟩
  obtain ⟨bk, hbk⟩ : ∃ z, (if planE b worn [wk ws] = 0 then bestK worn (wk ws) else 0) = z := ⟨_, rfl⟩
  obtain ⟨bm, hbm⟩ : ∃ z, (if planE b worn [wk ws] = 0 then planM worn [wk ws] else 0) = z := ⟨_, rfl⟩
  rw [hbk, hbm] at HBE HTS
  clear hbk hbm
  obtain ⟨bE, hbE⟩ : ∃ z, planE b worn [wk ws] = z := ⟨_, rfl⟩
  obtain ⟨fm, hfm⟩ : ∃ z, frm b.nums.length worn [wk ws] = z := ⟨_, rfl⟩
  obtain ⟨pm, hpm⟩ : ∃ z, planM worn [wk ws] = z := ⟨_, rfl⟩
  obtain ⟨AF, hAF⟩ : ∃ z : Nat → List Int, (fun k => aft worn (wk ws) k) = z := ⟨_, rfl⟩
  have hAF' : ∀ k, aft worn (wk ws) k = AF k := fun k => by rw [← hAF]
  rw [hgb] at HGR HOW HRC HFO
  rw [hgw] at HBG HIW HIK
  rw [hck] at HRC HRW HRP HTS HCP HAN
  rw [htE] at HTU HTS
  rw [hTB] at HTU HTS
  rw [hwE] at HWR HTS
  rw [hAL] at HWR HTS
  rw [hbE] at HBE HTS
  rw [hfm] at HFO HRW HRP HTS HAN
  rw [hpm] at HRP HTS
  simp only [hAF'] at HRW HRM HTS HAN
  clear hgb hgw hck htE hTB hwE hAL hbE hfm hpm hAF hAF'
  generalize wk ws = wkl at *
  obtain ⟨bq, hbq⟩ : ∃ z, bestK worn wkl = z := ⟨_, rfl⟩
  have HBQ : Aside (bestK worn wkl = bq) := hbq
  rw [hbq] at HRP
  clear hbq
  obtain ⟨ey, bu, rings, lines, nums, wi⟩ := b
  obtain ⟨nn, hnn⟩ : ∃ z, nums.length = z := ⟨_, rfl⟩
  simp only [] at *
  have HNN : Aside (nums.length = nn) := hnn
  rw [hnn] at ln HGR HOW HSM HRC HFO HRW HCP ⊢
  clear hnn
  generalize rings.length = nr at *
  generalize lines.length = nl at *
  generalize worn.length = nw at *
  generalize ws.length = ns at *
  generalize wkl.length = nk at *
  go_enter Tryz.func5, Tryz.ntmps5
  go_upto_region 1 with (fail)
  obtain ⟨W0, hW0⟩ : ∃ W0, W0 = (w.alloc (.cells #[.int .i64 ey, .int .i64 bu, .slice ar nr cr, .slice al nl cl, .slice an nn cn, .int .i64 wi] 26)).alloc (.cells #[.slice aw nw cw, .slice as_ ns cs, .int .i64 K, .int .i64 L] 56) := ⟨_, rfl⟩
  have BU : Aside (Below w.heap.size w W0) := by rw [hW0]; clear hW0; show Below _ _ _; (repeat' (first | exact Below.refl _ _ | assumption | (with_reducible refine Below.drew ?_) | (with_reducible refine Below.setCell ?_ (by (first | (simp; done) | (simp; omega))) _) | (with_reducible refine below_drewN' ?_ _) | (refine Below.alloc ?_ (by (try simp only [World.size_alloc, World.size_drew, World.size_setCell]); omega) _) | (refine Below.trans ?_ (Below.mono (by assumption) (by (try simp only [World.size_alloc, World.size_drew, World.size_setCell]); omega)))))
  have hz0 : w.heap.size + 2 ≤ W0.heap.size := by rw [hW0]; clear hW0; simp
  have bc0 : W0.cell? ⟨w.heap.size, 0, none⟩ = some (.int .i64 ey) := by rw [hW0]; clear hW0; go_simp
  have bc1 : W0.cell? ⟨w.heap.size, 1, none⟩ = some (.int .i64 bu) := by rw [hW0]; clear hW0; go_simp
  have bc2 : W0.cell? ⟨w.heap.size, 2, none⟩ = some (.slice ar nr cr) := by rw [hW0]; clear hW0; go_simp
  have bc3 : W0.cell? ⟨w.heap.size, 3, none⟩ = some (.slice al nl cl) := by rw [hW0]; clear hW0; go_simp
  have bc4 : W0.cell? ⟨w.heap.size, 4, none⟩ = some (.slice an nn cn) := by rw [hW0]; clear hW0; go_simp
  have bc5 : W0.cell? ⟨w.heap.size, 5, none⟩ = some (.int .i64 wi) := by rw [hW0]; clear hW0; go_simp
  have wc0 : W0.cell? ⟨w.heap.size + 1, 0, none⟩ = some (.slice aw nw cw) := by rw [hW0]; clear hW0; go_simp
  have wc1 : W0.cell? ⟨w.heap.size + 1, 1, none⟩ = some (.slice as_ ns cs) := by rw [hW0]; clear hW0; go_simp
  have wc2 : W0.cell? ⟨w.heap.size + 1, 2, none⟩ = some (.int .i64 K) := by rw [hW0]; clear hW0; go_simp
  have wc3 : W0.cell? ⟨w.heap.size + 1, 3, none⟩ = some (.int .i64 L) := by rw [hW0]; clear hW0; go_simp
  rw [← hW0]
  clear hW0
  cases gb with
  | true =>
    go_wp2_with fail
    refine (HGR.out _ BU.out).mono ?_
    rintro e W1 ⟨rfl, hb1⟩
    replace bc0 := keepc hb1 bc0
    replace bc1 := keepc hb1 bc1
    replace bc2 := keepc hb1 bc2
    replace bc3 := keepc hb1 bc3
    replace bc4 := keepc hb1 bc4
    replace bc5 := keepc hb1 bc5
    replace wc0 := keepc hb1 wc0
    replace wc1 := keepc hb1 wc1
    replace wc2 := keepc hb1 wc2
    replace wc3 := keepc hb1 wc3
    replace BU : Aside (Below w.heap.size w W1) := BU.out.trans (hb1.mono BU.out.size)
    clear hb1
    go_wp2_with fail
    refine (HKN.out _).mono ?_
    rintro e W2 ⟨rfl, hb2⟩
    replace bc0 := keepc hb2 bc0
    replace bc1 := keepc hb2 bc1
    replace bc2 := keepc hb2 bc2
    replace bc3 := keepc hb2 bc3
    replace bc4 := keepc hb2 bc4
    replace bc5 := keepc hb2 bc5
    replace wc0 := keepc hb2 wc0
    replace wc1 := keepc hb2 wc1
    replace wc2 := keepc hb2 wc2
    replace wc3 := keepc hb2 wc3
    replace BU : Aside (Below w.heap.size w W2) := BU.out.trans (hb2.mono BU.out.size)
    clear hb2
    go_wp2_with fail
    go_ret
    exact ⟨rfl, BU.out⟩
  | false =>
    have HOW2 : Aside _ := HOW.out rfl
    have HRC2 : Aside _ := HRC.out rfl
    have HFO2 : Aside _ := HFO.out rfl
    clear HOW HRC HFO
    go_wp2_with fail
    refine (HGR.out _ BU.out).mono ?_
    rintro e W1 ⟨rfl, hb1⟩
    replace bc0 := keepc hb1 bc0
    replace bc1 := keepc hb1 bc1
    replace bc2 := keepc hb1 bc2
    replace bc3 := keepc hb1 bc3
    replace bc4 := keepc hb1 bc4
    replace bc5 := keepc hb1 bc5
    replace wc0 := keepc hb1 wc0
    replace wc1 := keepc hb1 wc1
    replace wc2 := keepc hb1 wc2
    replace wc3 := keepc hb1 wc3
    replace BU : Aside (Below w.heap.size w W1) := BU.out.trans (hb1.mono BU.out.size)
    clear hb1
    cases gw with
    | true =>
      go_wp2_with fail
      refine (HBG.out _ BU.out).mono ?_
      rintro e W2 ⟨rfl, hb2⟩
      replace bc0 := keepc hb2 bc0
      replace bc1 := keepc hb2 bc1
      replace bc2 := keepc hb2 bc2
      replace bc3 := keepc hb2 bc3
      replace bc4 := keepc hb2 bc4
      replace bc5 := keepc hb2 bc5
      replace wc0 := keepc hb2 wc0
      replace wc1 := keepc hb2 wc1
      replace wc2 := keepc hb2 wc2
      replace wc3 := keepc hb2 wc3
      replace BU : Aside (Below w.heap.size w W2) := BU.out.trans (hb2.mono BU.out.size)
      clear hb2
      go_wp2_with fail
      refine (HKN.out _).mono ?_
      rintro e W3 ⟨rfl, hb3⟩
      replace bc0 := keepc hb3 bc0
      replace bc1 := keepc hb3 bc1
      replace bc2 := keepc hb3 bc2
      replace bc3 := keepc hb3 bc3
      replace bc4 := keepc hb3 bc4
      replace bc5 := keepc hb3 bc5
      replace wc0 := keepc hb3 wc0
      replace wc1 := keepc hb3 wc1
      replace wc2 := keepc hb3 wc2
      replace wc3 := keepc hb3 wc3
      replace BU : Aside (Below w.heap.size w W3) := BU.out.trans (hb3.mono BU.out.size)
      clear hb3
      go_wp2_with fail
      go_ret
      exact ⟨rfl, BU.out⟩
    | false =>
      have HIW2 : Aside _ := HIW.out rfl
      have HIK2 : Aside _ := HIK.out rfl
      clear HIW HIK
      go_wp2_with fail
      refine (HBG.out _ BU.out).mono ?_
      rintro e W2 ⟨rfl, hb2⟩
      replace bc0 := keepc hb2 bc0
      replace bc1 := keepc hb2 bc1
      replace bc2 := keepc hb2 bc2
      replace bc3 := keepc hb2 bc3
      replace bc4 := keepc hb2 bc4
      replace bc5 := keepc hb2 bc5
      replace wc0 := keepc hb2 wc0
      replace wc1 := keepc hb2 wc1
      replace wc2 := keepc hb2 wc2
      replace wc3 := keepc hb2 wc3
      replace BU : Aside (Below w.heap.size w W2) := BU.out.trans (hb2.mono BU.out.size)
      clear hb2
      clear hz0
      have HZ : Aside (w.heap.size + 2 ≤ W2.heap.size) := by
        have := World.block_lt_of_cell? _ _ wc0
        show _ ≤ _
        simp at this; omega
      go_upto_region 3 with (fail)
      refine region_laid (fl := 12) [true, true, true, true, true, true, true, true, true, false, false, false] 3 (fun (i : Nat) (x : Value) (ww : World) => (match i with | 0 => x = .agg #[.int .i64 ey, .int .i64 bu, .slice ar nr cr, .slice al nl cl, .slice an nn cn, .int .i64 wi] | 1 => ∃ g1 d1 g2 d2 g3 d3, x = .agg #[.int .i64 ey, .int .i64 bu, .slice (some ⟨g1, 0, none⟩) nr d1, .slice (some ⟨g2, 0, none⟩) nl d2, .slice (some ⟨g3, 0, none⟩) nn d3, .int .i64 wi] ∧ Sl ww 2 encP (.slice (some ⟨g1, 0, none⟩) nr d1) rings ∧ Sl ww 2 encP (.slice (some ⟨g2, 0, none⟩) nl d2) lines ∧ Sl ww 1 (fun x => [Value.int .i64 x]) (.slice (some ⟨g3, 0, none⟩) nn d3) nums ∧ TbO rings ww g1 79 ∧ TbO lines ww g2 28 ∧ TbO nums ww g3 3 | 2 => x = .pointer (some ⟨w.heap.size + 1, 0, none⟩) | 3 => x = .slice aw nw cw | 4 => ∃ g d, x = .slice (some ⟨g, 0, none⟩) nw d ∧ Sl ww 1 (fun x => [Value.int .i64 x]) (.slice (some ⟨g, 0, none⟩) nw d) worn ∧ TbO worn ww g 3 | 5 => x = .agg #[.slice aw nw cw, .slice as_ ns cs, .int .i64 K, .int .i64 L] | 6 => x = .slice ak nk ck_ | 7 => ∃ g d, x = .slice (some ⟨g, 0, none⟩) nk d ∧ Sl ww 1 (fun x => [Value.int .i64 x]) (.slice (some ⟨g, 0, none⟩) nk d) wkl ∧ TbO wkl ww g 3 | 8 => ∃ g, x = .pointer (some ⟨g, 0, none⟩) ∧ w.heap.size + 2 ≤ g ∧ ww.heap[g]? = some (.cells #[.int .i64 0, .int .i64 0, .slice none 0 0, .slice none 0 0, .slice none 0 0, .int .i64 0] 26 (0, 0)) | _ => True : Prop)) (fun w' => Below W2.heap.size W2 w') (by kernel_rfl) rfl (by show layable _ 290 _ 12 = true; decide +kernel) rfl ((Below.refl _ _).drew) ?mono3 ?step3 ?rest3
      case mono3 =>
        intro i x ww ww' hB h
        match i, h with
        | 0, h => exact h
        | 1, h => exact (by obtain ⟨g1, d1, g2, d2, g3, d3, e, h1, h2, h3, h4, h5, h6⟩ := h; exact ⟨g1, d1, g2, d2, g3, d3, e, h1.below hB, h2.below hB, h3.below hB, h4.below hB, h5.below hB, h6.below hB⟩)
        | 2, h => exact h
        | 3, h => exact h
        | 4, h => exact (by obtain ⟨g, d, e, h1, h2⟩ := h; exact ⟨g, d, e, h1.below hB, h2.below hB⟩)
        | 5, h => exact h
        | 6, h => exact h
        | 7, h => exact (by obtain ⟨g, d, e, h1, h2⟩ := h; exact ⟨g, d, e, h1.below hB, h2.below hB⟩)
        | 8, h => exact (by obtain ⟨g, e, h1, h2⟩ := h; exact ⟨g, e, h1, blk_below h2 hB⟩)
        | n + 9, h => exact h
      case step3 =>
        intro i o_ listed ac W hA ho hL he
        have hk2 : ac.tmps.getD 2 undef = .pointer (some ⟨w.heap.size, 0, none⟩) := hL.kept 2 (by decide +kernel)
        have hk3 : ac.tmps.getD 3 undef = .pointer (some ⟨w.heap.size + 1, 0, none⟩) := hL.kept 3 (by decide +kernel)
        have CL : ∀ W', Below W.heap.size W W' → Below W2.heap.size W2 W' := fun W' h => hL.cls.trans (h.mono hL.cls.size)
        have k_bc0 := keepc hL.cls bc0
        have k_bc1 := keepc hL.cls bc1
        have k_bc2 := keepc hL.cls bc2
        have k_bc3 := keepc hL.cls bc3
        have k_bc4 := keepc hL.cls bc4
        have k_bc5 := keepc hL.cls bc5
        have k_wc0 := keepc hL.cls wc0
        have k_wc1 := keepc hL.cls wc1
        have k_wc2 := keepc hL.cls wc2
        have k_wc3 := keepc hL.cls wc3
        match i, hA, ho with
        | 0, _, ho =>
          cases ho
          refine wpOp_plain rfl rfl ?_
          unfold Oper.wp
          go_simp
          exact ⟨_, rfl, Below.refl _ _, CL _ (Below.refl _ _), rfl⟩
        | 1, _, ho =>
          cases ho
          have d0 : ac.tmps.getD 29 undef = .agg #[.int .i64 ey, .int .i64 bu, .slice ar nr cr, .slice al nl cl, .slice an nn cn, .int .i64 wi] := hL.new 0 _ 29 rfl (he ⟨0, .data⟩ (by simp) rfl) rfl
          have x := HOW2.out W (BU.out.trans (hL.cls.mono BU.out.size))
          refine wpOp_plain rfl rfl ?_
          unfold Oper.wp
          go_simp
          refine x.mono ?_
          rintro e w' ⟨g1, d1, g2, d2, g3, d3, rfl, h1, h2, h3, _, h4, h5, h6, hBn⟩
          exact ⟨_, rfl, hBn, CL _ hBn, ⟨_, _, _, _, _, _, rfl, h1, h2, h3, h4, h5, h6⟩⟩
        | 2, _, ho =>
          cases ho
          refine wpOp_plain rfl rfl ?_
          unfold Oper.wp
          go_simp
          exact ⟨_, rfl, Below.refl _ _, CL _ (Below.refl _ _), rfl⟩
        | 3, _, ho =>
          cases ho
          have d2 : ac.tmps.getD 31 undef = .pointer (some ⟨w.heap.size + 1, 0, none⟩) := hL.new 2 _ 31 rfl (he ⟨2, .data⟩ (by simp) rfl) rfl
          refine wpOp_plain rfl rfl ?_
          unfold Oper.wp
          go_simp
          exact ⟨_, rfl, Below.refl _ _, CL _ (Below.refl _ _), rfl⟩
        | 4, _, ho =>
          cases ho
          have d3 : ac.tmps.getD 32 undef = .slice aw nw cw := hL.new 3 _ 32 rfl (he ⟨3, .data⟩ (by simp) rfl) rfl
          have x := HIW2.out W (BU.out.trans (hL.cls.mono BU.out.size))
          refine wpOp_plain rfl rfl ?_
          unfold Oper.wp
          go_simp
          refine x.mono ?_
          rintro e w' ⟨g, d, rfl, _, _, h1, h2, hBn⟩
          exact ⟨_, rfl, hBn, CL _ hBn, ⟨_, _, rfl, h1, h2⟩⟩
        | 5, _, ho =>
          cases ho
          refine wpOp_plain rfl rfl ?_
          unfold Oper.wp
          go_simp
          exact ⟨_, rfl, Below.refl _ _, CL _ (Below.refl _ _), rfl⟩
        | 6, _, ho =>
          cases ho
          have d5 : ac.tmps.getD 34 undef = .agg #[.slice aw nw cw, .slice as_ ns cs, .int .i64 K, .int .i64 L] := hL.new 5 _ 34 rfl (he ⟨5, .data⟩ (by simp) rfl) rfl
          have x := HWE.out W (BU.out.trans (hL.cls.mono BU.out.size))
          refine wpOp_plain rfl rfl ?_
          unfold Oper.wp
          go_simp
          refine x.mono ?_
          rintro e w' ⟨rfl, hBn⟩
          exact ⟨_, rfl, hBn, CL _ hBn, rfl⟩
        | 7, _, ho =>
          cases ho
          have d6 : ac.tmps.getD 35 undef = .slice ak nk ck_ := hL.new 6 _ 35 rfl (he ⟨6, .data⟩ (by simp) rfl) rfl
          have x := HIK2.out W (BU.out.trans (hL.cls.mono BU.out.size))
          refine wpOp_plain rfl rfl ?_
          unfold Oper.wp
          go_simp
          refine x.mono ?_
          rintro e w' ⟨g, d, rfl, _, _, h1, h2, hBn⟩
          exact ⟨_, rfl, hBn, CL _ hBn, ⟨_, _, rfl, h1, h2⟩⟩
        | 8, _, ho =>
          cases ho
          refine wpOp_plain rfl rfl ?_
          unfold Oper.wp
          go_simp
          exact ⟨_, rfl, (Below.refl _ _).alloc (Nat.le_refl _) _, CL _ ((Below.refl _ _).alloc (Nat.le_refl _) _), ⟨_, rfl, Nat.le_trans HZ.out hL.cls.size, World.alloc_heap_new _ _⟩⟩
        | 9, hA, _ => cases hA
        | 10, hA, _ => cases hA
        | 11, hA, _ => cases hA
        | n + 12, hA, _ => simp at hA
      case rest3 =>
        intro ac V3 hL
        have e29 : ac.tmps.getD 29 undef = .agg #[.int .i64 ey, .int .i64 bu, .slice ar nr cr, .slice al nl cl, .slice an nn cn, .int .i64 wi] := hL.new 0 _ 29 rfl rfl rfl
        have hn30 := hL.new 1 _ 30 rfl rfl rfl
        obtain ⟨vown, e30⟩ : ∃ x, ac.tmps.getD 30 undef = x := ⟨_, rfl⟩
        rw [e30] at hn30
        have Hvown : Aside (∃ g1 d1 g2 d2 g3 d3, vown = .agg #[.int .i64 ey, .int .i64 bu, .slice (some ⟨g1, 0, none⟩) nr d1, .slice (some ⟨g2, 0, none⟩) nl d2, .slice (some ⟨g3, 0, none⟩) nn d3, .int .i64 wi] ∧ Sl V3 2 encP (.slice (some ⟨g1, 0, none⟩) nr d1) rings ∧ Sl V3 2 encP (.slice (some ⟨g2, 0, none⟩) nl d2) lines ∧ Sl V3 1 (fun x => [Value.int .i64 x]) (.slice (some ⟨g3, 0, none⟩) nn d3) nums ∧ TbO rings V3 g1 79 ∧ TbO lines V3 g2 28 ∧ TbO nums V3 g3 3) := hn30
        clear hn30
        have e31 : ac.tmps.getD 31 undef = .pointer (some ⟨w.heap.size + 1, 0, none⟩) := hL.new 2 _ 31 rfl rfl rfl
        have e32 : ac.tmps.getD 32 undef = .slice aw nw cw := hL.new 3 _ 32 rfl rfl rfl
        have hn33 := hL.new 4 _ 33 rfl rfl rfl
        obtain ⟨vwo, e33⟩ : ∃ x, ac.tmps.getD 33 undef = x := ⟨_, rfl⟩
        rw [e33] at hn33
        have Hvwo : Aside (∃ g d, vwo = .slice (some ⟨g, 0, none⟩) nw d ∧ Sl V3 1 (fun x => [Value.int .i64 x]) (.slice (some ⟨g, 0, none⟩) nw d) worn ∧ TbO worn V3 g 3) := hn33
        clear hn33
        have e34 : ac.tmps.getD 34 undef = .agg #[.slice aw nw cw, .slice as_ ns cs, .int .i64 K, .int .i64 L] := hL.new 5 _ 34 rfl rfl rfl
        have e35 : ac.tmps.getD 35 undef = .slice ak nk ck_ := hL.new 6 _ 35 rfl rfl rfl
        have hn36 := hL.new 7 _ 36 rfl rfl rfl
        obtain ⟨vwk, e36⟩ : ∃ x, ac.tmps.getD 36 undef = x := ⟨_, rfl⟩
        rw [e36] at hn36
        have Hvwk : Aside (∃ g d, vwk = .slice (some ⟨g, 0, none⟩) nk d ∧ Sl V3 1 (fun x => [Value.int .i64 x]) (.slice (some ⟨g, 0, none⟩) nk d) wkl ∧ TbO wkl V3 g 3) := hn36
        clear hn36
        have hn5 := hL.new 8 _ 5 rfl rfl rfl
        obtain ⟨val, e5⟩ : ∃ x, ac.tmps.getD 5 undef = x := ⟨_, rfl⟩
        rw [e5] at hn5
        have Hval : Aside (∃ g, val = .pointer (some ⟨g, 0, none⟩) ∧ w.heap.size + 2 ≤ g ∧ V3.heap[g]? = some (.cells #[.int .i64 0, .int .i64 0, .slice none 0 0, .slice none 0 0, .slice none 0 0, .int .i64 0] 26 (0, 0))) := hn5
        clear hn5
        have es := hL.sets [29, 30, 31, 32, 33, 34, 35, 36, 5] (by decide +kernel)
        rw [List.foldl_cons, List.foldl_cons, List.foldl_cons, List.foldl_cons, List.foldl_cons, List.foldl_cons, List.foldl_cons, List.foldl_cons, List.foldl_cons, List.foldl_nil, e29, e30, e31, e32, e33, e34, e35, e36, e5] at es
        have BN : Below W2.heap.size W2 V3 := hL.cls
        rw [es]
        clear es hL e29 e30 e31 e32 e33 e34 e35 e36 e5
        simp only [List.setIfInBounds_toArray, List.set_cons_zero, List.set_cons_succ]
        obtain ⟨g1, d1, g2, d2, g3, d3, rfl, h1, h2, h3, h4, h5, h6⟩ := Hvown.out
        obtain ⟨gwo, dwo, rfl, h7, h8⟩ := Hvwo.out
        obtain ⟨gwk, dwk, rfl, h9, h10⟩ := Hvwk.out
        obtain ⟨gi, rfl, hgi, hz⟩ := Hval.out
        clear Hvown Hvwo Hvwk Hval
        replace bc0 := keepc BN bc0
        replace bc1 := keepc BN bc1
        replace bc2 := keepc BN bc2
        replace bc3 := keepc BN bc3
        replace bc4 := keepc BN bc4
        replace bc5 := keepc BN bc5
        replace wc0 := keepc BN wc0
        replace wc1 := keepc BN wc1
        replace wc2 := keepc BN wc2
        replace wc3 := keepc BN wc3
        replace BU : Aside (Below w.heap.size w V3) := BU.out.trans (BN.mono BU.out.size)
        clear BN
        have zz0 : V3.cell? ⟨gi, 0, none⟩ = some (.int .i64 0) := blk_cell hz
        have zz1 : V3.cell? ⟨gi, 1, none⟩ = some (.int .i64 0) := blk_cell hz
        have zz2 : V3.cell? ⟨gi, 2, none⟩ = some (.slice none 0 0) := blk_cell hz
        have zz3 : V3.cell? ⟨gi, 3, none⟩ = some (.slice none 0 0) := blk_cell hz
        have zz4 : V3.cell? ⟨gi, 4, none⟩ = some (.slice none 0 0) := blk_cell hz
        have zz5 : V3.cell? ⟨gi, 5, none⟩ = some (.int .i64 0) := blk_cell hz
        have zf : ∀ q, V3.frozen? ⟨gi, q, none⟩ = false := fun q => Tb.frozen ⟨_, hz⟩ q
        refine wpAny_one (i := 9) (by decide +kernel) rfl rfl ?_
        unfold Oper.wp
        go_simp
        refine wpAny_one (i := 10) (by decide +kernel) rfl rfl ?_
        unfold Oper.wp
        go_simp
        refine wpAny_one (i := 11) (by decide +kernel) rfl rfl ?_
        unfold Oper.wp
        go_simp
        refine wpAny_done (by decide +kernel) ?_ _
        clear zz0 zz1 zz2 zz3 zz4 zz5 zf
        obtain ⟨V, hV⟩ : ∃ V, V = (((((V3.setCell ⟨gi, 0, none⟩ (.int .i64 ey)).setCell ⟨gi, 1, none⟩ (.int .i64 bu)).setCell ⟨gi, 2, none⟩ (.slice (some ⟨g1, 0, none⟩) nr d1)).setCell ⟨gi, 3, none⟩ (.slice (some ⟨g2, 0, none⟩) nl d2)).setCell ⟨gi, 4, none⟩ (.slice (some ⟨g3, 0, none⟩) nn d3)).setCell ⟨gi, 5, none⟩ (.int .i64 wi) := ⟨_, rfl⟩
        obtain ⟨f1, f2, f3⟩ := fill6 hz V hV
        rw [← hV]
        clear hV hz
        have BV3 := f2 (w.heap.size + 2) hgi
        have HIN : Aside (BrdAt V (.agg #[.int .i64 ey, .int .i64 bu, .slice (some ⟨g1, 0, none⟩) nr d1, .slice (some ⟨g2, 0, none⟩) nl d2, .slice (some ⟨g3, 0, none⟩) nn d3, .int .i64 wi]) ⟨ey, bu, rings, lines, nums, wi⟩) := ⟨_, _, _, rfl, f3 _ _ _ _ _ _ _ _ h1 h4 (by decide), f3 _ _ _ _ _ _ _ _ h2 h5 (by decide), f3 _ _ _ _ _ _ _ _ h3 h6 (by decide)⟩
        have HWO : Aside (Sl V 1 eI (.slice (some ⟨gwo, 0, none⟩) nw dwo) worn) := f3 _ _ _ _ _ _ _ _ h7 h8 (by decide)
        have HKO : Aside (Sl V 1 eI (.slice (some ⟨gwk, 0, none⟩) nk dwk) wkl) := f3 _ _ _ _ _ _ _ _ h9 h10 (by decide)
        have zc0 : V.cell? ⟨gi, 0, none⟩ = some (.int .i64 ey) := blk_cell f1
        have zc1 : V.cell? ⟨gi, 1, none⟩ = some (.int .i64 bu) := blk_cell f1
        have zc2 : V.cell? ⟨gi, 2, none⟩ = some (.slice (some ⟨g1, 0, none⟩) nr d1) := blk_cell f1
        have zc3 : V.cell? ⟨gi, 3, none⟩ = some (.slice (some ⟨g2, 0, none⟩) nl d2) := blk_cell f1
        have zc4 : V.cell? ⟨gi, 4, none⟩ = some (.slice (some ⟨g3, 0, none⟩) nn d3) := blk_cell f1
        have zc5 : V.cell? ⟨gi, 5, none⟩ = some (.int .i64 wi) := blk_cell f1
        clear h1 h2 h3 h4 h5 h6 h7 h8 h9 h10 f1 f2 f3
        replace bc0 := (BV3.cell (p := ⟨w.heap.size, 0, none⟩) (by show w.heap.size < w.heap.size + 2; omega)).trans bc0
        replace bc1 := (BV3.cell (p := ⟨w.heap.size, 1, none⟩) (by show w.heap.size < w.heap.size + 2; omega)).trans bc1
        replace bc2 := (BV3.cell (p := ⟨w.heap.size, 2, none⟩) (by show w.heap.size < w.heap.size + 2; omega)).trans bc2
        replace bc3 := (BV3.cell (p := ⟨w.heap.size, 3, none⟩) (by show w.heap.size < w.heap.size + 2; omega)).trans bc3
        replace bc4 := (BV3.cell (p := ⟨w.heap.size, 4, none⟩) (by show w.heap.size < w.heap.size + 2; omega)).trans bc4
        replace bc5 := (BV3.cell (p := ⟨w.heap.size, 5, none⟩) (by show w.heap.size < w.heap.size + 2; omega)).trans bc5
        replace wc0 := (BV3.cell (p := ⟨w.heap.size + 1, 0, none⟩) (by show w.heap.size + 1 < w.heap.size + 2; omega)).trans wc0
        replace wc1 := (BV3.cell (p := ⟨w.heap.size + 1, 1, none⟩) (by show w.heap.size + 1 < w.heap.size + 2; omega)).trans wc1
        replace wc2 := (BV3.cell (p := ⟨w.heap.size + 1, 2, none⟩) (by show w.heap.size + 1 < w.heap.size + 2; omega)).trans wc2
        replace wc3 := (BV3.cell (p := ⟨w.heap.size + 1, 3, none⟩) (by show w.heap.size + 1 < w.heap.size + 2; omega)).trans wc3
        replace BU : Aside (Below w.heap.size w V) := BU.out.trans (BV3.mono (by omega))
        clear BV3 hgi
        go_wp2_with fail
        refine (HTU.out _ _ HIN.out).mono ?_
        rintro e W3 ⟨te, tu, ta, tr, tc, ua, ur, uc, va, vr, vc, tw, rfl, hbt, hb3⟩
        replace bc0 := keepc hb3 bc0
        replace bc1 := keepc hb3 bc1
        replace bc2 := keepc hb3 bc2
        replace bc3 := keepc hb3 bc3
        replace bc4 := keepc hb3 bc4
        replace bc5 := keepc hb3 bc5
        replace wc0 := keepc hb3 wc0
        replace wc1 := keepc hb3 wc1
        replace wc2 := keepc hb3 wc2
        replace wc3 := keepc hb3 wc3
        replace zc0 := keepc hb3 zc0
        replace zc1 := keepc hb3 zc1
        replace zc2 := keepc hb3 zc2
        replace zc3 := keepc hb3 zc3
        replace zc4 := keepc hb3 zc4
        replace zc5 := keepc hb3 zc5
        replace BU : Aside (Below w.heap.size w W3) := BU.out.trans (hb3.mono BU.out.size)
        replace HIN : Aside (BrdAt W3 (.agg #[.int .i64 ey, .int .i64 bu, .slice (some ⟨g1, 0, none⟩) nr d1, .slice (some ⟨g2, 0, none⟩) nl d2, .slice (some ⟨g3, 0, none⟩) nn d3, .int .i64 wi]) ⟨ey, bu, rings, lines, nums, wi⟩) := HIN.out.below hb3
        replace HWO : Aside (Sl W3 1 eI (.slice (some ⟨gwo, 0, none⟩) nw dwo) worn) := HWO.out.below hb3
        replace HKO : Aside (Sl W3 1 eI (.slice (some ⟨gwk, 0, none⟩) nk dwk) wkl) := HKO.out.below hb3
        have HBT : Aside (BrdAt W3 (.agg #[.int .i64 te, .int .i64 tu, .slice ta tr tc, .slice ua ur uc, .slice va vr vc, .int .i64 tw]) TB) := hbt
        clear hbt
        clear hb3
        go_upto_region 5 with (fail)
        obtain ⟨U4, hU⟩ : ∃ U, U = W3.alloc (.cells #[.int .i64 te, .int .i64 tu, .slice ta tr tc, .slice ua ur uc, .slice va vr vc, .int .i64 tw] 26) := ⟨_, rfl⟩
        have hbU : Below W3.heap.size W3 U4 := by rw [hU]; exact (Below.refl _ _).alloc (Nat.le_refl _) _
        have uc0 : U4.cell? ⟨W3.heap.size, 0, none⟩ = some (.int .i64 te) := by rw [hU]; clear hU; go_simp
        have uc1 : U4.cell? ⟨W3.heap.size, 1, none⟩ = some (.int .i64 tu) := by rw [hU]; clear hU; go_simp
        have uc2 : U4.cell? ⟨W3.heap.size, 2, none⟩ = some (.slice ta tr tc) := by rw [hU]; clear hU; go_simp
        have uc3 : U4.cell? ⟨W3.heap.size, 3, none⟩ = some (.slice ua ur uc) := by rw [hU]; clear hU; go_simp
        have uc4 : U4.cell? ⟨W3.heap.size, 4, none⟩ = some (.slice va vr vc) := by rw [hU]; clear hU; go_simp
        have uc5 : U4.cell? ⟨W3.heap.size, 5, none⟩ = some (.int .i64 tw) := by rw [hU]; clear hU; go_simp
        rw [← hU]
        clear hU
        replace bc0 := keepc hbU bc0
        replace bc1 := keepc hbU bc1
        replace bc2 := keepc hbU bc2
        replace bc3 := keepc hbU bc3
        replace bc4 := keepc hbU bc4
        replace bc5 := keepc hbU bc5
        replace wc0 := keepc hbU wc0
        replace wc1 := keepc hbU wc1
        replace wc2 := keepc hbU wc2
        replace wc3 := keepc hbU wc3
        replace zc0 := keepc hbU zc0
        replace zc1 := keepc hbU zc1
        replace zc2 := keepc hbU zc2
        replace zc3 := keepc hbU zc3
        replace zc4 := keepc hbU zc4
        replace zc5 := keepc hbU zc5
        replace BU : Aside (Below w.heap.size w U4) := BU.out.trans (hbU.mono BU.out.size)
        replace HIN : Aside (BrdAt U4 (.agg #[.int .i64 ey, .int .i64 bu, .slice (some ⟨g1, 0, none⟩) nr d1, .slice (some ⟨g2, 0, none⟩) nl d2, .slice (some ⟨g3, 0, none⟩) nn d3, .int .i64 wi]) ⟨ey, bu, rings, lines, nums, wi⟩) := HIN.out.below hbU
        replace HWO : Aside (Sl U4 1 eI (.slice (some ⟨gwo, 0, none⟩) nw dwo) worn) := HWO.out.below hbU
        replace HKO : Aside (Sl U4 1 eI (.slice (some ⟨gwk, 0, none⟩) nk dwk) wkl) := HKO.out.below hbU
        replace HBT : Aside (BrdAt U4 (.agg #[.int .i64 te, .int .i64 tu, .slice ta tr tc, .slice ua ur uc, .slice va vr vc, .int .i64 tw]) TB) := HBT.out.below hbU
        clear hbU
        obtain ⟨gt, hgt⟩ : ∃ g, W3.heap.size = g := ⟨_, rfl⟩
        rw [hgt] at uc0 uc1 uc2 uc3 uc4 uc5 ⊢
        clear hgt W3
        go_wp2_with fail
        refine (HWR.out _ _ _ _ HIN.out HWO.out HKO.out).mono ?_
        rintro e W4 ⟨aa, na, ca, rfl, hsa, hna, hb4⟩
        replace bc0 := keepc hb4 bc0
        replace bc1 := keepc hb4 bc1
        replace bc2 := keepc hb4 bc2
        replace bc3 := keepc hb4 bc3
        replace bc4 := keepc hb4 bc4
        replace bc5 := keepc hb4 bc5
        replace wc0 := keepc hb4 wc0
        replace wc1 := keepc hb4 wc1
        replace wc2 := keepc hb4 wc2
        replace wc3 := keepc hb4 wc3
        replace zc0 := keepc hb4 zc0
        replace zc1 := keepc hb4 zc1
        replace zc2 := keepc hb4 zc2
        replace zc3 := keepc hb4 zc3
        replace zc4 := keepc hb4 zc4
        replace zc5 := keepc hb4 zc5
        replace uc0 := keepc hb4 uc0
        replace uc1 := keepc hb4 uc1
        replace uc2 := keepc hb4 uc2
        replace uc3 := keepc hb4 uc3
        replace uc4 := keepc hb4 uc4
        replace uc5 := keepc hb4 uc5
        replace BU : Aside (Below w.heap.size w W4) := BU.out.trans (hb4.mono BU.out.size)
        replace HIN : Aside (BrdAt W4 (.agg #[.int .i64 ey, .int .i64 bu, .slice (some ⟨g1, 0, none⟩) nr d1, .slice (some ⟨g2, 0, none⟩) nl d2, .slice (some ⟨g3, 0, none⟩) nn d3, .int .i64 wi]) ⟨ey, bu, rings, lines, nums, wi⟩) := HIN.out.below hb4
        replace HWO : Aside (Sl W4 1 eI (.slice (some ⟨gwo, 0, none⟩) nw dwo) worn) := HWO.out.below hb4
        replace HKO : Aside (Sl W4 1 eI (.slice (some ⟨gwk, 0, none⟩) nk dwk) wkl) := HKO.out.below hb4
        replace HBT : Aside (BrdAt W4 (.agg #[.int .i64 te, .int .i64 tu, .slice ta tr tc, .slice ua ur uc, .slice va vr vc, .int .i64 tw]) TB) := HBT.out.below hb4
        have HSA : Aside (Sl W4 1 eI (.slice aa na ca) AL) := hsa
        have HNA : Aside (na = AL.length) := hna
        clear hsa hna
        clear hb4
        go_wp2_with fail
        refine (HBE.out _ _ _ _ HIN.out HWO.out HKO.out).mono ?_
        rintro e W5 ⟨rfl, hb5⟩
        replace bc0 := keepc hb5 bc0
        replace bc1 := keepc hb5 bc1
        replace bc2 := keepc hb5 bc2
        replace bc3 := keepc hb5 bc3
        replace bc4 := keepc hb5 bc4
        replace bc5 := keepc hb5 bc5
        replace wc0 := keepc hb5 wc0
        replace wc1 := keepc hb5 wc1
        replace wc2 := keepc hb5 wc2
        replace wc3 := keepc hb5 wc3
        replace zc0 := keepc hb5 zc0
        replace zc1 := keepc hb5 zc1
        replace zc2 := keepc hb5 zc2
        replace zc3 := keepc hb5 zc3
        replace zc4 := keepc hb5 zc4
        replace zc5 := keepc hb5 zc5
        replace uc0 := keepc hb5 uc0
        replace uc1 := keepc hb5 uc1
        replace uc2 := keepc hb5 uc2
        replace uc3 := keepc hb5 uc3
        replace uc4 := keepc hb5 uc4
        replace uc5 := keepc hb5 uc5
        replace BU : Aside (Below w.heap.size w W5) := BU.out.trans (hb5.mono BU.out.size)
        replace HIN : Aside (BrdAt W5 (.agg #[.int .i64 ey, .int .i64 bu, .slice (some ⟨g1, 0, none⟩) nr d1, .slice (some ⟨g2, 0, none⟩) nl d2, .slice (some ⟨g3, 0, none⟩) nn d3, .int .i64 wi]) ⟨ey, bu, rings, lines, nums, wi⟩) := HIN.out.below hb5
        replace HWO : Aside (Sl W5 1 eI (.slice (some ⟨gwo, 0, none⟩) nw dwo) worn) := HWO.out.below hb5
        replace HKO : Aside (Sl W5 1 eI (.slice (some ⟨gwk, 0, none⟩) nk dwk) wkl) := HKO.out.below hb5
        replace HBT : Aside (BrdAt W5 (.agg #[.int .i64 te, .int .i64 tu, .slice ta tr tc, .slice ua ur uc, .slice va vr vc, .int .i64 tw]) TB) := HBT.out.below hb5
        replace HSA : Aside (Sl W5 1 eI (.slice aa na ca) AL) := HSA.out.below hb5
        clear hb5
        go_wp2_with fail
        refine (HSM.out _ _ _ HIN.out BU.out rfl).mono ?_
        rintro e W6 ⟨rfl, hb6⟩
        replace bc0 := keepc hb6 bc0
        replace bc1 := keepc hb6 bc1
        replace bc2 := keepc hb6 bc2
        replace bc3 := keepc hb6 bc3
        replace bc4 := keepc hb6 bc4
        replace bc5 := keepc hb6 bc5
        replace wc0 := keepc hb6 wc0
        replace wc1 := keepc hb6 wc1
        replace wc2 := keepc hb6 wc2
        replace wc3 := keepc hb6 wc3
        replace zc0 := keepc hb6 zc0
        replace zc1 := keepc hb6 zc1
        replace zc2 := keepc hb6 zc2
        replace zc3 := keepc hb6 zc3
        replace zc4 := keepc hb6 zc4
        replace zc5 := keepc hb6 zc5
        replace uc0 := keepc hb6 uc0
        replace uc1 := keepc hb6 uc1
        replace uc2 := keepc hb6 uc2
        replace uc3 := keepc hb6 uc3
        replace uc4 := keepc hb6 uc4
        replace uc5 := keepc hb6 uc5
        replace BU : Aside (Below w.heap.size w W6) := BU.out.trans (hb6.mono BU.out.size)
        replace HIN : Aside (BrdAt W6 (.agg #[.int .i64 ey, .int .i64 bu, .slice (some ⟨g1, 0, none⟩) nr d1, .slice (some ⟨g2, 0, none⟩) nl d2, .slice (some ⟨g3, 0, none⟩) nn d3, .int .i64 wi]) ⟨ey, bu, rings, lines, nums, wi⟩) := HIN.out.below hb6
        replace HWO : Aside (Sl W6 1 eI (.slice (some ⟨gwo, 0, none⟩) nw dwo) worn) := HWO.out.below hb6
        replace HKO : Aside (Sl W6 1 eI (.slice (some ⟨gwk, 0, none⟩) nk dwk) wkl) := HKO.out.below hb6
        replace HBT : Aside (BrdAt W6 (.agg #[.int .i64 te, .int .i64 tu, .slice ta tr tc, .slice ua ur uc, .slice va vr vc, .int .i64 tw]) TB) := HBT.out.below hb6
        replace HSA : Aside (Sl W6 1 eI (.slice aa na ca) AL) := HSA.out.below hb6
        clear hb6
        clear zc0 zc1 zc2 zc3 zc4 zc5 HIN
        go_wp2_with fail
        refine (HAL.out _ _ _ _ HWO.out (HWS.out.below BU.out)).mono ?_
        rintro e W7 ⟨rfl, hb7⟩
        replace bc0 := keepc hb7 bc0
        replace bc1 := keepc hb7 bc1
        replace bc2 := keepc hb7 bc2
        replace bc3 := keepc hb7 bc3
        replace bc4 := keepc hb7 bc4
        replace bc5 := keepc hb7 bc5
        replace wc0 := keepc hb7 wc0
        replace wc1 := keepc hb7 wc1
        replace wc2 := keepc hb7 wc2
        replace wc3 := keepc hb7 wc3
        replace uc0 := keepc hb7 uc0
        replace uc1 := keepc hb7 uc1
        replace uc2 := keepc hb7 uc2
        replace uc3 := keepc hb7 uc3
        replace uc4 := keepc hb7 uc4
        replace uc5 := keepc hb7 uc5
        replace BU : Aside (Below w.heap.size w W7) := BU.out.trans (hb7.mono BU.out.size)
        replace HWO : Aside (Sl W7 1 eI (.slice (some ⟨gwo, 0, none⟩) nw dwo) worn) := HWO.out.below hb7
        replace HKO : Aside (Sl W7 1 eI (.slice (some ⟨gwk, 0, none⟩) nk dwk) wkl) := HKO.out.below hb7
        replace HBT : Aside (BrdAt W7 (.agg #[.int .i64 te, .int .i64 tu, .slice ta tr tc, .slice ua ur uc, .slice va vr vc, .int .i64 tw]) TB) := HBT.out.below hb7
        replace HSA : Aside (Sl W7 1 eI (.slice aa na ca) AL) := HSA.out.below hb7
        clear hb7
        go_wp2_with fail
        refine (HWE.out _ BU.out).mono ?_
        rintro e W8 ⟨rfl, hb8⟩
        replace bc0 := keepc hb8 bc0
        replace bc1 := keepc hb8 bc1
        replace bc2 := keepc hb8 bc2
        replace bc3 := keepc hb8 bc3
        replace bc4 := keepc hb8 bc4
        replace bc5 := keepc hb8 bc5
        replace wc0 := keepc hb8 wc0
        replace wc1 := keepc hb8 wc1
        replace wc2 := keepc hb8 wc2
        replace wc3 := keepc hb8 wc3
        replace uc0 := keepc hb8 uc0
        replace uc1 := keepc hb8 uc1
        replace uc2 := keepc hb8 uc2
        replace uc3 := keepc hb8 uc3
        replace uc4 := keepc hb8 uc4
        replace uc5 := keepc hb8 uc5
        replace BU : Aside (Below w.heap.size w W8) := BU.out.trans (hb8.mono BU.out.size)
        replace HWO : Aside (Sl W8 1 eI (.slice (some ⟨gwo, 0, none⟩) nw dwo) worn) := HWO.out.below hb8
        replace HKO : Aside (Sl W8 1 eI (.slice (some ⟨gwk, 0, none⟩) nk dwk) wkl) := HKO.out.below hb8
        replace HBT : Aside (BrdAt W8 (.agg #[.int .i64 te, .int .i64 tu, .slice ta tr tc, .slice ua ur uc, .slice va vr vc, .int .i64 tw]) TB) := HBT.out.below hb8
        replace HSA : Aside (Sl W8 1 eI (.slice aa na ca) AL) := HSA.out.below hb8
        clear hb8
        go_wp2_with fail
        refine (HAL.out _ _ _ _ HKO.out (HKS.out.below BU.out)).mono ?_
        rintro e W9 ⟨rfl, hb9⟩
        replace bc0 := keepc hb9 bc0
        replace bc1 := keepc hb9 bc1
        replace bc2 := keepc hb9 bc2
        replace bc3 := keepc hb9 bc3
        replace bc4 := keepc hb9 bc4
        replace bc5 := keepc hb9 bc5
        replace wc0 := keepc hb9 wc0
        replace wc1 := keepc hb9 wc1
        replace wc2 := keepc hb9 wc2
        replace wc3 := keepc hb9 wc3
        replace uc0 := keepc hb9 uc0
        replace uc1 := keepc hb9 uc1
        replace uc2 := keepc hb9 uc2
        replace uc3 := keepc hb9 uc3
        replace uc4 := keepc hb9 uc4
        replace uc5 := keepc hb9 uc5
        replace BU : Aside (Below w.heap.size w W9) := BU.out.trans (hb9.mono BU.out.size)
        replace HWO : Aside (Sl W9 1 eI (.slice (some ⟨gwo, 0, none⟩) nw dwo) worn) := HWO.out.below hb9
        replace HKO : Aside (Sl W9 1 eI (.slice (some ⟨gwk, 0, none⟩) nk dwk) wkl) := HKO.out.below hb9
        replace HBT : Aside (BrdAt W9 (.agg #[.int .i64 te, .int .i64 tu, .slice ta tr tc, .slice ua ur uc, .slice va vr vc, .int .i64 tw]) TB) := HBT.out.below hb9
        replace HSA : Aside (Sl W9 1 eI (.slice aa na ca) AL) := HSA.out.below hb9
        clear hb9
        clear HWO HKO
        go_upto_region 9 with (fail)
        refine region_laid (fl := 8) [true, true, true, true, true, true, true] 0 (fun (i : Nat) (x : Value) (ww : World) => (match i with | 0 => x = .agg #[.int .i64 ey, .int .i64 bu, .slice ar nr cr, .slice al nl cl, .slice an nn cn, .int .i64 wi] | 1 => x = .int .i64 ckv | 2 => x = .pointer (some ⟨w.heap.size, 4, none⟩) | 3 => x = .slice an nn cn | 4 => x = .int .i64 nn | 5 => x = .int .i64 ckv | 6 => x = .int .i64 nn | _ => True : Prop)) (fun w' => Below W9.heap.size W9 w') (by kernel_rfl) rfl (by show layable _ 290 _ 8 = true; decide +kernel) rfl ((Below.refl _ _).drew) ?mono9 ?step9 ?rest9
        case mono9 =>
          intro i x ww ww' hB h
          match i, h with
          | 0, h => exact h
          | 1, h => exact h
          | 2, h => exact h
          | 3, h => exact h
          | 4, h => exact h
          | 5, h => exact h
          | 6, h => exact h
          | n + 7, h => exact h
        case step9 =>
          intro i o_ listed ac W hA ho hL he
          have hk2 : ac.tmps.getD 2 undef = .pointer (some ⟨w.heap.size, 0, none⟩) := hL.kept 2 (by decide +kernel)
          have hk3 : ac.tmps.getD 3 undef = .pointer (some ⟨w.heap.size + 1, 0, none⟩) := hL.kept 3 (by decide +kernel)
          have CL : ∀ W', Below W.heap.size W W' → Below W9.heap.size W9 W' := fun W' h => hL.cls.trans (h.mono hL.cls.size)
          have k_bc0 := keepc hL.cls bc0
          have k_bc1 := keepc hL.cls bc1
          have k_bc2 := keepc hL.cls bc2
          have k_bc3 := keepc hL.cls bc3
          have k_bc4 := keepc hL.cls bc4
          have k_bc5 := keepc hL.cls bc5
          match i, hA, ho with
          | 0, _, ho =>
            cases ho
            refine wpOp_plain rfl rfl ?_
            unfold Oper.wp
            go_simp
            exact ⟨_, rfl, Below.refl _ _, CL _ (Below.refl _ _), rfl⟩
          | 1, _, ho =>
            cases ho
            have d0 : ac.tmps.getD 79 undef = .agg #[.int .i64 ey, .int .i64 bu, .slice ar nr cr, .slice al nl cl, .slice an nn cn, .int .i64 wi] := hL.new 0 _ 79 rfl (he ⟨0, .data⟩ (by simp) rfl) rfl
            have x := HRC2.out W (BU.out.trans (hL.cls.mono BU.out.size))
            refine wpOp_plain rfl rfl ?_
            unfold Oper.wp
            go_simp
            refine x.mono ?_
            rintro e w' ⟨rfl, hBn⟩
            exact ⟨_, rfl, hBn, CL _ hBn, rfl⟩
          | 2, _, ho =>
            cases ho
            refine wpOp_plain rfl rfl ?_
            unfold Oper.wp
            go_simp
            exact ⟨_, rfl, Below.refl _ _, CL _ (Below.refl _ _), rfl⟩
          | 3, _, ho =>
            cases ho
            have d2 : ac.tmps.getD 81 undef = .pointer (some ⟨w.heap.size, 4, none⟩) := hL.new 2 _ 81 rfl (he ⟨2, .data⟩ (by simp) rfl) rfl
            refine wpOp_plain rfl rfl ?_
            unfold Oper.wp
            go_simp
            exact ⟨_, rfl, Below.refl _ _, CL _ (Below.refl _ _), rfl⟩
          | 4, _, ho =>
            cases ho
            have d3 : ac.tmps.getD 82 undef = .slice an nn cn := hL.new 3 _ 82 rfl (he ⟨3, .data⟩ (by simp) rfl) rfl
            refine wpOp_plain rfl rfl ?_
            unfold Oper.wp
            go_simp
            exact ⟨_, rfl, Below.refl _ _, CL _ (Below.refl _ _), rfl⟩
          | 5, _, ho =>
            cases ho
            have d1 : ac.tmps.getD 80 undef = .int .i64 ckv := hL.new 1 _ 80 rfl (he ⟨1, .data⟩ (by simp) rfl) rfl
            refine wpOp_plain rfl rfl ?_
            unfold Oper.wp
            go_simp
            exact ⟨_, rfl, Below.refl _ _, CL _ (Below.refl _ _), rfl⟩
          | 6, _, ho =>
            cases ho
            have d4 : ac.tmps.getD 83 undef = .int .i64 nn := hL.new 4 _ 83 rfl (he ⟨4, .data⟩ (by simp) rfl) rfl
            refine wpOp_plain rfl rfl ?_
            unfold Oper.wp
            go_simp
            exact ⟨_, rfl, Below.refl _ _, CL _ (Below.refl _ _), rfl⟩
          | n + 7, hA, _ => simp at hA
        case rest9 =>
          intro ac V9 hL
          have e79 : ac.tmps.getD 79 undef = .agg #[.int .i64 ey, .int .i64 bu, .slice ar nr cr, .slice al nl cl, .slice an nn cn, .int .i64 wi] := hL.new 0 _ 79 rfl rfl rfl
          have e80 : ac.tmps.getD 80 undef = .int .i64 ckv := hL.new 1 _ 80 rfl rfl rfl
          have e81 : ac.tmps.getD 81 undef = .pointer (some ⟨w.heap.size, 4, none⟩) := hL.new 2 _ 81 rfl rfl rfl
          have e82 : ac.tmps.getD 82 undef = .slice an nn cn := hL.new 3 _ 82 rfl rfl rfl
          have e83 : ac.tmps.getD 83 undef = .int .i64 nn := hL.new 4 _ 83 rfl rfl rfl
          have e15 : ac.tmps.getD 15 undef = .int .i64 ckv := hL.new 5 _ 15 rfl rfl rfl
          have e16 : ac.tmps.getD 16 undef = .int .i64 nn := hL.new 6 _ 16 rfl rfl rfl
          have es := hL.sets [79, 80, 81, 82, 83, 15, 16] (by decide +kernel)
          rw [List.foldl_cons, List.foldl_cons, List.foldl_cons, List.foldl_cons, List.foldl_cons, List.foldl_cons, List.foldl_cons, List.foldl_nil, e79, e80, e81, e82, e83, e15, e16] at es
          have BN : Below W9.heap.size W9 V9 := hL.cls
          rw [es]
          clear es hL e79 e80 e81 e82 e83 e15 e16
          refine wpAny_done (by decide +kernel) ?_ _
          simp only [List.setIfInBounds_toArray, List.set_cons_zero, List.set_cons_succ]
          replace bc0 := keepc BN bc0
          replace bc1 := keepc BN bc1
          replace bc2 := keepc BN bc2
          replace bc3 := keepc BN bc3
          replace bc4 := keepc BN bc4
          replace bc5 := keepc BN bc5
          replace wc0 := keepc BN wc0
          replace wc1 := keepc BN wc1
          replace wc2 := keepc BN wc2
          replace wc3 := keepc BN wc3
          replace uc0 := keepc BN uc0
          replace uc1 := keepc BN uc1
          replace uc2 := keepc BN uc2
          replace uc3 := keepc BN uc3
          replace uc4 := keepc BN uc4
          replace uc5 := keepc BN uc5
          replace BU : Aside (Below w.heap.size w V9) := BU.out.trans (BN.mono BU.out.size)
          replace HBT : Aside (BrdAt V9 (.agg #[.int .i64 te, .int .i64 tu, .slice ta tr tc, .slice ua ur uc, .slice va vr vc, .int .i64 tw]) TB) := HBT.out.below BN
          replace HSA : Aside (Sl V9 1 eI (.slice aa na ca) AL) := HSA.out.below BN
          clear BN
          by_cases hc : ckv = 0
          rotate_left
          · obtain ⟨rfl, rfl, rfl, rfl, rfl, rfl, rfl⟩ := HTS.out.bad hc
            obtain rfl : na = 0 := HNA.out
            go_wp2_with fail
            refine (HSE.out _ _ _ _ HBT.out (empty_at _)).mono ?_
            rintro e W10 ⟨rfl, hb10⟩
            replace bc0 := keepc hb10 bc0
            replace bc1 := keepc hb10 bc1
            replace bc2 := keepc hb10 bc2
            replace bc3 := keepc hb10 bc3
            replace bc4 := keepc hb10 bc4
            replace bc5 := keepc hb10 bc5
            replace wc0 := keepc hb10 wc0
            replace wc1 := keepc hb10 wc1
            replace wc2 := keepc hb10 wc2
            replace wc3 := keepc hb10 wc3
            replace uc0 := keepc hb10 uc0
            replace uc1 := keepc hb10 uc1
            replace uc2 := keepc hb10 uc2
            replace uc3 := keepc hb10 uc3
            replace uc4 := keepc hb10 uc4
            replace uc5 := keepc hb10 uc5
            replace BU : Aside (Below w.heap.size w W10) := BU.out.trans (hb10.mono BU.out.size)
            replace HBT : Aside (BrdAt W10 (.agg #[.int .i64 te, .int .i64 tu, .slice ta tr tc, .slice ua ur uc, .slice va vr vc, .int .i64 tw]) emptyB) := HBT.out.below hb10
            clear hb10
            go_wp2_with fail
            refine (HKN.out _).mono ?_
            rintro e W11 ⟨rfl, hb11⟩
            replace bc0 := keepc hb11 bc0
            replace bc1 := keepc hb11 bc1
            replace bc2 := keepc hb11 bc2
            replace bc3 := keepc hb11 bc3
            replace bc4 := keepc hb11 bc4
            replace bc5 := keepc hb11 bc5
            replace wc0 := keepc hb11 wc0
            replace wc1 := keepc hb11 wc1
            replace wc2 := keepc hb11 wc2
            replace wc3 := keepc hb11 wc3
            replace uc0 := keepc hb11 uc0
            replace uc1 := keepc hb11 uc1
            replace uc2 := keepc hb11 uc2
            replace uc3 := keepc hb11 uc3
            replace uc4 := keepc hb11 uc4
            replace uc5 := keepc hb11 uc5
            replace BU : Aside (Below w.heap.size w W11) := BU.out.trans (hb11.mono BU.out.size)
            replace HBT : Aside (BrdAt W11 (.agg #[.int .i64 te, .int .i64 tu, .slice ta tr tc, .slice ua ur uc, .slice va vr vc, .int .i64 tw]) emptyB) := HBT.out.below hb11
            clear hb11
            go_wp2_with fail
            go_ret
            exact ⟨rfl, BU.out⟩
          · subst hc
            have HCP2 : Aside (1 ≤ nn ∧ nn ≤ 20) := HCP.out rfl
            have hn1 := HCP2.out.1
            have hn2 := HCP2.out.2
            by_cases hk0 : K < 0
            · skip
              obtain ⟨rfl, rfl, hto⟩ := HTS.out.out rfl (show ¬ (0 ≤ K ∧ K < (nums.length : Int)) by have := HNN.out; omega)
              have HTO : Aside (fm = 0 → wE = 3 ∧ AL = []) := hto
              clear hto
              go_wp2_with fail
              refine (HSE.out _ _ _ _ HBT.out (empty_at _)).mono ?_
              rintro e W10 ⟨rfl, hb10⟩
              replace bc0 := keepc hb10 bc0
              replace bc1 := keepc hb10 bc1
              replace bc2 := keepc hb10 bc2
              replace bc3 := keepc hb10 bc3
              replace bc4 := keepc hb10 bc4
              replace bc5 := keepc hb10 bc5
              replace wc0 := keepc hb10 wc0
              replace wc1 := keepc hb10 wc1
              replace wc2 := keepc hb10 wc2
              replace wc3 := keepc hb10 wc3
              replace uc0 := keepc hb10 uc0
              replace uc1 := keepc hb10 uc1
              replace uc2 := keepc hb10 uc2
              replace uc3 := keepc hb10 uc3
              replace uc4 := keepc hb10 uc4
              replace uc5 := keepc hb10 uc5
              replace BU : Aside (Below w.heap.size w W10) := BU.out.trans (hb10.mono BU.out.size)
              replace HBT : Aside (BrdAt W10 (.agg #[.int .i64 te, .int .i64 tu, .slice ta tr tc, .slice ua ur uc, .slice va vr vc, .int .i64 tw]) emptyB) := HBT.out.below hb10
              replace HSA : Aside (Sl W10 1 eI (.slice aa na ca) AL) := HSA.out.below hb10
              clear hb10
              clear HBT uc0 uc1 uc2 uc3 uc4 uc5
              go_upto_region 22 with (fail)
              refine region_laid (fl := 8) [true, true, true, true, true, true, true, true] 0 (fun (i : Nat) (x : Value) (ww : World) => (match i with | 0 => x = .int .i64 nn | 1 => x = .pointer (some ⟨w.heap.size + 1, 0, none⟩) | 2 => x = .slice aw nw cw | 3 => x = .agg #[.slice aw nw cw, .slice as_ ns cs, .int .i64 K, .int .i64 L] | 4 => x = .slice ak nk ck_ | 5 => Sl ww 1 eR x [((.slice ak nk ck_ : Value), wkl)] | 6 => x = .int .i64 fm | 7 => x = .int .i64 fm | _ => True : Prop)) (fun w' => Below W10.heap.size W10 w') (by kernel_rfl) rfl (by show layable _ 290 _ 8 = true; decide +kernel) rfl ((Below.refl _ _).drew) ?mono22x ?step22x ?rest22x
              case mono22x =>
                intro i x ww ww' hB h
                match i, h with
                | 0, h => exact h
                | 1, h => exact h
                | 2, h => exact h
                | 3, h => exact h
                | 4, h => exact h
                | 5, h => exact Sl.below h hB
                | 6, h => exact h
                | 7, h => exact h
                | n + 8, h => exact h
              case step22x =>
                intro i o_ listed ac W hA ho hL he
                have hk2 : ac.tmps.getD 2 undef = .pointer (some ⟨w.heap.size, 0, none⟩) := hL.kept 2 (by decide +kernel)
                have hk3 : ac.tmps.getD 3 undef = .pointer (some ⟨w.heap.size + 1, 0, none⟩) := hL.kept 3 (by decide +kernel)
                have hk16 : ac.tmps.getD 16 undef = .int .i64 nn := hL.kept 16 (by decide +kernel)
                have CL : ∀ W', Below W.heap.size W W' → Below W10.heap.size W10 W' := fun W' h => hL.cls.trans (h.mono hL.cls.size)
                have k_wc0 := keepc hL.cls wc0
                have k_wc1 := keepc hL.cls wc1
                have k_wc2 := keepc hL.cls wc2
                have k_wc3 := keepc hL.cls wc3
                match i, hA, ho with
                | 0, _, ho =>
                  cases ho
                  refine wpOp_plain rfl rfl ?_
                  unfold Oper.wp
                  go_simp
                  exact ⟨_, rfl, Below.refl _ _, CL _ (Below.refl _ _), rfl⟩
                | 1, _, ho =>
                  cases ho
                  refine wpOp_plain rfl rfl ?_
                  unfold Oper.wp
                  go_simp
                  exact ⟨_, rfl, Below.refl _ _, CL _ (Below.refl _ _), rfl⟩
                | 2, _, ho =>
                  cases ho
                  have d1 : ac.tmps.getD 167 undef = .pointer (some ⟨w.heap.size + 1, 0, none⟩) := hL.new 1 _ 167 rfl (he ⟨1, .data⟩ (by simp) rfl) rfl
                  refine wpOp_plain rfl rfl ?_
                  unfold Oper.wp
                  go_simp
                  exact ⟨_, rfl, Below.refl _ _, CL _ (Below.refl _ _), rfl⟩
                | 3, _, ho =>
                  cases ho
                  refine wpOp_plain rfl rfl ?_
                  unfold Oper.wp
                  go_simp
                  exact ⟨_, rfl, Below.refl _ _, CL _ (Below.refl _ _), rfl⟩
                | 4, _, ho =>
                  cases ho
                  have d3 : ac.tmps.getD 169 undef = .agg #[.slice aw nw cw, .slice as_ ns cs, .int .i64 K, .int .i64 L] := hL.new 3 _ 169 rfl (he ⟨3, .data⟩ (by simp) rfl) rfl
                  have x := HWE.out W (BU.out.trans (hL.cls.mono BU.out.size))
                  refine wpOp_plain rfl rfl ?_
                  unfold Oper.wp
                  go_simp
                  refine x.mono ?_
                  rintro e w' ⟨rfl, hBn⟩
                  exact ⟨_, rfl, hBn, CL _ hBn, rfl⟩
                | 5, _, ho =>
                  cases ho
                  have d4 : ac.tmps.getD 170 undef = .slice ak nk ck_ := hL.new 4 _ 170 rfl (he ⟨4, .data⟩ (by simp) rfl) rfl
                  have dq : ac.tmps[170]?.getD undef = .slice ak nk ck_ := by rw [← Array.getD_eq_getD_getElem?]; exact d4
                  refine wpOp_plain rfl rfl ?_
                  unfold Oper.wp
                  go_simp
                  (try simp only [dq])
                  (try go_simp)
                  exact ⟨_, rfl, (Below.refl _ _).alloc (Nat.le_refl _) _, CL _ ((Below.refl _ _).alloc (Nat.le_refl _) _), sl_week _ _ rfl _ _ _⟩
                | 6, _, ho =>
                  cases ho
                  have d0 : ac.tmps.getD 166 undef = .int .i64 nn := hL.new 0 _ 166 rfl (he ⟨0, .data⟩ (by simp) rfl) rfl
                  have d2 : ac.tmps.getD 168 undef = .slice aw nw cw := hL.new 2 _ 168 rfl (he ⟨2, .data⟩ (by simp) rfl) rfl
                  obtain ⟨x5, hx5⟩ : ∃ x, ac.tmps.getD 171 undef = x := ⟨_, rfl⟩
                  have d5 := hL.new 5 _ 171 rfl (he ⟨5, .data⟩ (by simp) rfl) rfl
                  rw [hx5] at d5
                  have x := HFO2.out x5 W (BU.out.trans (hL.cls.mono BU.out.size)) d5
                  refine wpOp_plain rfl rfl ?_
                  unfold Oper.wp
                  go_simp
                  refine x.mono ?_
                  rintro e w' ⟨rfl, hBn⟩
                  exact ⟨_, rfl, hBn, CL _ hBn, rfl⟩
                | 7, _, ho =>
                  cases ho
                  have d6 : ac.tmps.getD 172 undef = .int .i64 fm := hL.new 6 _ 172 rfl (he ⟨6, .data⟩ (by simp) rfl) rfl
                  refine wpOp_plain rfl rfl ?_
                  unfold Oper.wp
                  go_simp
                  exact ⟨_, rfl, Below.refl _ _, CL _ (Below.refl _ _), rfl⟩
                | n + 8, hA, _ => simp at hA
              case rest22x =>
                intro ac V22x hL
                have e166 : ac.tmps.getD 166 undef = .int .i64 nn := hL.new 0 _ 166 rfl rfl rfl
                have e167 : ac.tmps.getD 167 undef = .pointer (some ⟨w.heap.size + 1, 0, none⟩) := hL.new 1 _ 167 rfl rfl rfl
                have e168 : ac.tmps.getD 168 undef = .slice aw nw cw := hL.new 2 _ 168 rfl rfl rfl
                have e169 : ac.tmps.getD 169 undef = .agg #[.slice aw nw cw, .slice as_ ns cs, .int .i64 K, .int .i64 L] := hL.new 3 _ 169 rfl rfl rfl
                have e170 : ac.tmps.getD 170 undef = .slice ak nk ck_ := hL.new 4 _ 170 rfl rfl rfl
                obtain ⟨y171, e171⟩ : ∃ x, ac.tmps.getD 171 undef = x := ⟨_, rfl⟩
                have e172 : ac.tmps.getD 172 undef = .int .i64 fm := hL.new 6 _ 172 rfl rfl rfl
                have e15 : ac.tmps.getD 15 undef = .int .i64 fm := hL.new 7 _ 15 rfl rfl rfl
                have es := hL.sets [166, 167, 168, 169, 170, 171, 172, 15] (by decide +kernel)
                rw [List.foldl_cons, List.foldl_cons, List.foldl_cons, List.foldl_cons, List.foldl_cons, List.foldl_cons, List.foldl_cons, List.foldl_cons, List.foldl_nil, e166, e167, e168, e169, e170, e171, e172, e15] at es
                have BN : Below W10.heap.size W10 V22x := hL.cls
                rw [es]
                clear es hL e166 e167 e168 e169 e170 e171 e172 e15
                refine wpAny_done (by decide +kernel) ?_ _
                simp only [List.setIfInBounds_toArray, List.set_cons_zero, List.set_cons_succ]
                replace bc0 := keepc BN bc0
                replace bc1 := keepc BN bc1
                replace bc2 := keepc BN bc2
                replace bc3 := keepc BN bc3
                replace bc4 := keepc BN bc4
                replace bc5 := keepc BN bc5
                replace wc0 := keepc BN wc0
                replace wc1 := keepc BN wc1
                replace wc2 := keepc BN wc2
                replace wc3 := keepc BN wc3
                replace BU : Aside (Below w.heap.size w V22x) := BU.out.trans (BN.mono BU.out.size)
                replace HSA : Aside (Sl V22x 1 eI (.slice aa na ca) AL) := HSA.out.below BN
                clear BN
                by_cases hf : fm = 0
                rotate_left
                · obtain ⟨rfl, rfl, rfl, rfl, rfl⟩ := HTS.out.frm rfl hf
                  obtain rfl : na = 0 := HNA.out
                  go_wp2_with fail
                  refine (HKN.out _).mono ?_
                  rintro e W11 ⟨rfl, hb11⟩
                  replace bc0 := keepc hb11 bc0
                  replace bc1 := keepc hb11 bc1
                  replace bc2 := keepc hb11 bc2
                  replace bc3 := keepc hb11 bc3
                  replace bc4 := keepc hb11 bc4
                  replace bc5 := keepc hb11 bc5
                  replace wc0 := keepc hb11 wc0
                  replace wc1 := keepc hb11 wc1
                  replace wc2 := keepc hb11 wc2
                  replace wc3 := keepc hb11 wc3
                  replace BU : Aside (Below w.heap.size w W11) := BU.out.trans (hb11.mono BU.out.size)
                  clear hb11
                  go_wp2_with fail
                  go_ret
                  exact ⟨rfl, BU.out⟩
                · subst hf
                  have HRP2 : Aside _ := HRP.out (by simp) (by simp)
                  obtain ⟨rfl, rfl⟩ := HTO.out (by simp)
                  obtain rfl : na = 0 := HNA.out
                  skip
                  go_upto_region 31 with (fail)
                  refine region_laid (fl := 12) [true, true, true, true, true, true, true, true, true, true, true] 0 (fun (i : Nat) (x : Value) (ww : World) => (match i with | 0 => x = .pointer (some ⟨w.heap.size + 1, 0, none⟩) | 1 => x = .slice aw nw cw | 2 => x = .agg #[.slice aw nw cw, .slice as_ ns cs, .int .i64 K, .int .i64 L] | 3 => x = .slice ak nk ck_ | 4 => Sl ww 1 eR x [((.slice ak nk ck_ : Value), wkl)] | 5 => OneP pm bq x ww | 6 => OneP pm bq x ww | 7 => OneAt bq x ww | 8 => x = .int .i64 pm | 9 => OneAt bq x ww | 10 => x = .int .i64 pm | _ => True : Prop)) (fun w' => Below V22x.heap.size V22x w') (by kernel_rfl) rfl (by show layable _ 290 _ 12 = true; decide +kernel) rfl ((Below.refl _ _).drew) ?mono31x ?step31x ?rest31x
                  case mono31x =>
                    intro i x ww ww' hB h
                    match i, h with
                    | 0, h => exact h
                    | 1, h => exact h
                    | 2, h => exact h
                    | 3, h => exact h
                    | 4, h => exact Sl.below h hB
                    | 5, h => exact OneP.below h hB
                    | 6, h => exact OneP.below h hB
                    | 7, h => exact OneAt.below h hB
                    | 8, h => exact h
                    | 9, h => exact OneAt.below h hB
                    | 10, h => exact h
                    | n + 11, h => exact h
                  case step31x =>
                    intro i o_ listed ac W hA ho hL he
                    have hk2 : ac.tmps.getD 2 undef = .pointer (some ⟨w.heap.size, 0, none⟩) := hL.kept 2 (by decide +kernel)
                    have hk3 : ac.tmps.getD 3 undef = .pointer (some ⟨w.heap.size + 1, 0, none⟩) := hL.kept 3 (by decide +kernel)
                    have CL : ∀ W', Below W.heap.size W W' → Below V22x.heap.size V22x W' := fun W' h => hL.cls.trans (h.mono hL.cls.size)
                    have k_wc0 := keepc hL.cls wc0
                    have k_wc1 := keepc hL.cls wc1
                    have k_wc2 := keepc hL.cls wc2
                    have k_wc3 := keepc hL.cls wc3
                    match i, hA, ho with
                    | 0, _, ho =>
                      cases ho
                      refine wpOp_plain rfl rfl ?_
                      unfold Oper.wp
                      go_simp
                      exact ⟨_, rfl, Below.refl _ _, CL _ (Below.refl _ _), rfl⟩
                    | 1, _, ho =>
                      cases ho
                      have d0 : ac.tmps.getD 250 undef = .pointer (some ⟨w.heap.size + 1, 0, none⟩) := hL.new 0 _ 250 rfl (he ⟨0, .data⟩ (by simp) rfl) rfl
                      refine wpOp_plain rfl rfl ?_
                      unfold Oper.wp
                      go_simp
                      exact ⟨_, rfl, Below.refl _ _, CL _ (Below.refl _ _), rfl⟩
                    | 2, _, ho =>
                      cases ho
                      refine wpOp_plain rfl rfl ?_
                      unfold Oper.wp
                      go_simp
                      exact ⟨_, rfl, Below.refl _ _, CL _ (Below.refl _ _), rfl⟩
                    | 3, _, ho =>
                      cases ho
                      have d2 : ac.tmps.getD 252 undef = .agg #[.slice aw nw cw, .slice as_ ns cs, .int .i64 K, .int .i64 L] := hL.new 2 _ 252 rfl (he ⟨2, .data⟩ (by simp) rfl) rfl
                      have x := HWE.out W (BU.out.trans (hL.cls.mono BU.out.size))
                      refine wpOp_plain rfl rfl ?_
                      unfold Oper.wp
                      go_simp
                      refine x.mono ?_
                      rintro e w' ⟨rfl, hBn⟩
                      exact ⟨_, rfl, hBn, CL _ hBn, rfl⟩
                    | 4, _, ho =>
                      cases ho
                      have d3 : ac.tmps.getD 253 undef = .slice ak nk ck_ := hL.new 3 _ 253 rfl (he ⟨3, .data⟩ (by simp) rfl) rfl
                      have dq : ac.tmps[253]?.getD undef = .slice ak nk ck_ := by rw [← Array.getD_eq_getD_getElem?]; exact d3
                      refine wpOp_plain rfl rfl ?_
                      unfold Oper.wp
                      go_simp
                      (try simp only [dq])
                      (try go_simp)
                      exact ⟨_, rfl, (Below.refl _ _).alloc (Nat.le_refl _) _, CL _ ((Below.refl _ _).alloc (Nat.le_refl _) _), sl_week _ _ rfl _ _ _⟩
                    | 5, _, ho =>
                      cases ho
                      have d1 : ac.tmps.getD 251 undef = .slice aw nw cw := hL.new 1 _ 251 rfl (he ⟨1, .data⟩ (by simp) rfl) rfl
                      obtain ⟨x4, hx4⟩ : ∃ x, ac.tmps.getD 254 undef = x := ⟨_, rfl⟩
                      have d4 := hL.new 4 _ 254 rfl (he ⟨4, .data⟩ (by simp) rfl) rfl
                      rw [hx4] at d4
                      have x := HRP2.out x4 W (BU.out.trans (hL.cls.mono BU.out.size)) d4
                      refine wpOp_plain rfl rfl ?_
                      unfold Oper.wp
                      go_simp
                      refine x.mono ?_
                      rintro e w' ⟨v', rfl, hcp, hBn⟩
                      exact ⟨_, rfl, hBn, CL _ hBn, ⟨v', rfl, hcp⟩⟩
                    | 6, _, ho =>
                      cases ho
                      obtain ⟨x5, hx5⟩ : ∃ x, ac.tmps.getD 255 undef = x := ⟨_, rfl⟩
                      have d5 := hL.new 5 _ 255 rfl (he ⟨5, .data⟩ (by simp) rfl) rfl
                      rw [hx5] at d5
                      refine wpOp_plain rfl rfl ?_
                      unfold Oper.wp
                      go_simp
                      exact ⟨_, rfl, Below.refl _ _, CL _ (Below.refl _ _), d5⟩
                    | 7, _, ho =>
                      cases ho
                      obtain ⟨x6, hx6⟩ : ∃ x, ac.tmps.getD 249 undef = x := ⟨_, rfl⟩
                      have d6 := hL.new 6 _ 249 rfl (he ⟨6, .data⟩ (by simp) rfl) rfl
                      rw [hx6] at d6
                      obtain ⟨v', rfl, hcp⟩ := d6
                      refine wpOp_plain rfl rfl ?_
                      unfold Oper.wp
                      go_simp
                      exact ⟨_, rfl, Below.refl _ _, CL _ (Below.refl _ _), hcp⟩
                    | 8, _, ho =>
                      cases ho
                      obtain ⟨x6, hx6⟩ : ∃ x, ac.tmps.getD 249 undef = x := ⟨_, rfl⟩
                      have d6 := hL.new 6 _ 249 rfl (he ⟨6, .data⟩ (by simp) rfl) rfl
                      rw [hx6] at d6
                      obtain ⟨v', rfl, hcp⟩ := d6
                      refine wpOp_plain rfl rfl ?_
                      unfold Oper.wp
                      go_simp
                      exact ⟨_, rfl, Below.refl _ _, CL _ (Below.refl _ _), rfl⟩
                    | 9, _, ho =>
                      cases ho
                      obtain ⟨x7, hx7⟩ : ∃ x, ac.tmps.getD 256 undef = x := ⟨_, rfl⟩
                      have d7 := hL.new 7 _ 256 rfl (he ⟨7, .data⟩ (by simp) rfl) rfl
                      rw [hx7] at d7
                      refine wpOp_plain rfl rfl ?_
                      unfold Oper.wp
                      go_simp
                      exact ⟨_, rfl, Below.refl _ _, CL _ (Below.refl _ _), d7⟩
                    | 10, _, ho =>
                      cases ho
                      have d8 : ac.tmps.getD 257 undef = .int .i64 pm := hL.new 8 _ 257 rfl (he ⟨8, .data⟩ (by simp) rfl) rfl
                      refine wpOp_plain rfl rfl ?_
                      unfold Oper.wp
                      go_simp
                      exact ⟨_, rfl, Below.refl _ _, CL _ (Below.refl _ _), rfl⟩
                    | n + 11, hA, _ => simp at hA
                  case rest31x =>
                    intro ac V31x hL
                    have e250 : ac.tmps.getD 250 undef = .pointer (some ⟨w.heap.size + 1, 0, none⟩) := hL.new 0 _ 250 rfl rfl rfl
                    have e251 : ac.tmps.getD 251 undef = .slice aw nw cw := hL.new 1 _ 251 rfl rfl rfl
                    have e252 : ac.tmps.getD 252 undef = .agg #[.slice aw nw cw, .slice as_ ns cs, .int .i64 K, .int .i64 L] := hL.new 2 _ 252 rfl rfl rfl
                    have e253 : ac.tmps.getD 253 undef = .slice ak nk ck_ := hL.new 3 _ 253 rfl rfl rfl
                    obtain ⟨y254, e254⟩ : ∃ x, ac.tmps.getD 254 undef = x := ⟨_, rfl⟩
                    obtain ⟨y255, e255⟩ : ∃ x, ac.tmps.getD 255 undef = x := ⟨_, rfl⟩
                    obtain ⟨y249, e249⟩ : ∃ x, ac.tmps.getD 249 undef = x := ⟨_, rfl⟩
                    obtain ⟨y256, e256⟩ : ∃ x, ac.tmps.getD 256 undef = x := ⟨_, rfl⟩
                    have e257 : ac.tmps.getD 257 undef = .int .i64 pm := hL.new 8 _ 257 rfl rfl rfl
                    have hn20 := hL.new 9 _ 20 rfl rfl rfl
                    obtain ⟨vp, e20⟩ : ∃ x, ac.tmps.getD 20 undef = x := ⟨_, rfl⟩
                    rw [e20] at hn20
                    have Hvp : Aside (OneAt bq vp V31x) := hn20
                    clear hn20
                    have e21 : ac.tmps.getD 21 undef = .int .i64 pm := hL.new 10 _ 21 rfl rfl rfl
                    have es := hL.sets [250, 251, 252, 253, 254, 255, 249, 256, 257, 20, 21] (by decide +kernel)
                    rw [List.foldl_cons, List.foldl_cons, List.foldl_cons, List.foldl_cons, List.foldl_cons, List.foldl_cons, List.foldl_cons, List.foldl_cons, List.foldl_cons, List.foldl_cons, List.foldl_cons, List.foldl_nil, e250, e251, e252, e253, e254, e255, e249, e256, e257, e20, e21] at es
                    have BN : Below V22x.heap.size V22x V31x := hL.cls
                    rw [es]
                    clear es hL e250 e251 e252 e253 e254 e255 e249 e256 e257 e20 e21
                    refine wpAny_done (by decide +kernel) ?_ _
                    simp only [List.setIfInBounds_toArray, List.set_cons_zero, List.set_cons_succ]
                    obtain ⟨bp, fp, cp, rfl, hcp⟩ := Hvp.out
                    clear Hvp
                    replace bc0 := keepc BN bc0
                    replace bc1 := keepc BN bc1
                    replace bc2 := keepc BN bc2
                    replace bc3 := keepc BN bc3
                    replace bc4 := keepc BN bc4
                    replace bc5 := keepc BN bc5
                    replace wc0 := keepc BN wc0
                    replace wc1 := keepc BN wc1
                    replace wc2 := keepc BN wc2
                    replace wc3 := keepc BN wc3
                    replace BU : Aside (Below w.heap.size w V31x) := BU.out.trans (BN.mono BU.out.size)
                    clear BN
                    by_cases hp : pm ≤ 1000000000
                    · obtain ⟨rfl, rfl, hbk⟩ := HTS.out.ple rfl rfl hp
                      obtain rfl : bk = bq := hbk.trans HBQ.out
                      go_wp2_with fail
                      refine (HKN.out _).mono ?_
                      rintro e W11 ⟨rfl, hb11⟩
                      replace bc0 := keepc hb11 bc0
                      replace bc1 := keepc hb11 bc1
                      replace bc2 := keepc hb11 bc2
                      replace bc3 := keepc hb11 bc3
                      replace bc4 := keepc hb11 bc4
                      replace bc5 := keepc hb11 bc5
                      replace wc0 := keepc hb11 wc0
                      replace wc1 := keepc hb11 wc1
                      replace wc2 := keepc hb11 wc2
                      replace wc3 := keepc hb11 wc3
                      replace hcp := keepc hb11 hcp
                      replace BU : Aside (Below w.heap.size w W11) := BU.out.trans (hb11.mono BU.out.size)
                      clear hb11
                      go_wp2_with fail
                      go_ret
                      exact ⟨rfl, BU.out⟩
                    · obtain ⟨rfl, rfl, rfl⟩ := HTS.out.pgt rfl rfl hp
                      have hp2 : 1000000000 < pm := by omega
                      go_wp2_with fail
                      refine (HKN.out _).mono ?_
                      rintro e W11 ⟨rfl, hb11⟩
                      replace bc0 := keepc hb11 bc0
                      replace bc1 := keepc hb11 bc1
                      replace bc2 := keepc hb11 bc2
                      replace bc3 := keepc hb11 bc3
                      replace bc4 := keepc hb11 bc4
                      replace bc5 := keepc hb11 bc5
                      replace wc0 := keepc hb11 wc0
                      replace wc1 := keepc hb11 wc1
                      replace wc2 := keepc hb11 wc2
                      replace wc3 := keepc hb11 wc3
                      replace hcp := keepc hb11 hcp
                      replace BU : Aside (Below w.heap.size w W11) := BU.out.trans (hb11.mono BU.out.size)
                      clear hb11
                      go_wp2_with fail
                      go_ret
                      exact ⟨rfl, BU.out⟩
            · by_cases hk1 : (nn : Int) ≤ K
              · skip
                obtain ⟨rfl, rfl, hto⟩ := HTS.out.out rfl (show ¬ (0 ≤ K ∧ K < (nums.length : Int)) by have := HNN.out; omega)
                have HTO : Aside (fm = 0 → wE = 3 ∧ AL = []) := hto
                clear hto
                go_wp2_with fail
                refine (HSE.out _ _ _ _ HBT.out (empty_at _)).mono ?_
                rintro e W10 ⟨rfl, hb10⟩
                replace bc0 := keepc hb10 bc0
                replace bc1 := keepc hb10 bc1
                replace bc2 := keepc hb10 bc2
                replace bc3 := keepc hb10 bc3
                replace bc4 := keepc hb10 bc4
                replace bc5 := keepc hb10 bc5
                replace wc0 := keepc hb10 wc0
                replace wc1 := keepc hb10 wc1
                replace wc2 := keepc hb10 wc2
                replace wc3 := keepc hb10 wc3
                replace uc0 := keepc hb10 uc0
                replace uc1 := keepc hb10 uc1
                replace uc2 := keepc hb10 uc2
                replace uc3 := keepc hb10 uc3
                replace uc4 := keepc hb10 uc4
                replace uc5 := keepc hb10 uc5
                replace BU : Aside (Below w.heap.size w W10) := BU.out.trans (hb10.mono BU.out.size)
                replace HBT : Aside (BrdAt W10 (.agg #[.int .i64 te, .int .i64 tu, .slice ta tr tc, .slice ua ur uc, .slice va vr vc, .int .i64 tw]) emptyB) := HBT.out.below hb10
                replace HSA : Aside (Sl W10 1 eI (.slice aa na ca) AL) := HSA.out.below hb10
                clear hb10
                clear HBT uc0 uc1 uc2 uc3 uc4 uc5
                go_upto_region 22 with (fail)
                refine region_laid (fl := 8) [true, true, true, true, true, true, true, true] 0 (fun (i : Nat) (x : Value) (ww : World) => (match i with | 0 => x = .int .i64 nn | 1 => x = .pointer (some ⟨w.heap.size + 1, 0, none⟩) | 2 => x = .slice aw nw cw | 3 => x = .agg #[.slice aw nw cw, .slice as_ ns cs, .int .i64 K, .int .i64 L] | 4 => x = .slice ak nk ck_ | 5 => Sl ww 1 eR x [((.slice ak nk ck_ : Value), wkl)] | 6 => x = .int .i64 fm | 7 => x = .int .i64 fm | _ => True : Prop)) (fun w' => Below W10.heap.size W10 w') (by kernel_rfl) rfl (by show layable _ 290 _ 8 = true; decide +kernel) rfl ((Below.refl _ _).drew) ?mono22y ?step22y ?rest22y
                case mono22y =>
                  intro i x ww ww' hB h
                  match i, h with
                  | 0, h => exact h
                  | 1, h => exact h
                  | 2, h => exact h
                  | 3, h => exact h
                  | 4, h => exact h
                  | 5, h => exact Sl.below h hB
                  | 6, h => exact h
                  | 7, h => exact h
                  | n + 8, h => exact h
                case step22y =>
                  intro i o_ listed ac W hA ho hL he
                  have hk2 : ac.tmps.getD 2 undef = .pointer (some ⟨w.heap.size, 0, none⟩) := hL.kept 2 (by decide +kernel)
                  have hk3 : ac.tmps.getD 3 undef = .pointer (some ⟨w.heap.size + 1, 0, none⟩) := hL.kept 3 (by decide +kernel)
                  have hk16 : ac.tmps.getD 16 undef = .int .i64 nn := hL.kept 16 (by decide +kernel)
                  have CL : ∀ W', Below W.heap.size W W' → Below W10.heap.size W10 W' := fun W' h => hL.cls.trans (h.mono hL.cls.size)
                  have k_wc0 := keepc hL.cls wc0
                  have k_wc1 := keepc hL.cls wc1
                  have k_wc2 := keepc hL.cls wc2
                  have k_wc3 := keepc hL.cls wc3
                  match i, hA, ho with
                  | 0, _, ho =>
                    cases ho
                    refine wpOp_plain rfl rfl ?_
                    unfold Oper.wp
                    go_simp
                    exact ⟨_, rfl, Below.refl _ _, CL _ (Below.refl _ _), rfl⟩
                  | 1, _, ho =>
                    cases ho
                    refine wpOp_plain rfl rfl ?_
                    unfold Oper.wp
                    go_simp
                    exact ⟨_, rfl, Below.refl _ _, CL _ (Below.refl _ _), rfl⟩
                  | 2, _, ho =>
                    cases ho
                    have d1 : ac.tmps.getD 167 undef = .pointer (some ⟨w.heap.size + 1, 0, none⟩) := hL.new 1 _ 167 rfl (he ⟨1, .data⟩ (by simp) rfl) rfl
                    refine wpOp_plain rfl rfl ?_
                    unfold Oper.wp
                    go_simp
                    exact ⟨_, rfl, Below.refl _ _, CL _ (Below.refl _ _), rfl⟩
                  | 3, _, ho =>
                    cases ho
                    refine wpOp_plain rfl rfl ?_
                    unfold Oper.wp
                    go_simp
                    exact ⟨_, rfl, Below.refl _ _, CL _ (Below.refl _ _), rfl⟩
                  | 4, _, ho =>
                    cases ho
                    have d3 : ac.tmps.getD 169 undef = .agg #[.slice aw nw cw, .slice as_ ns cs, .int .i64 K, .int .i64 L] := hL.new 3 _ 169 rfl (he ⟨3, .data⟩ (by simp) rfl) rfl
                    have x := HWE.out W (BU.out.trans (hL.cls.mono BU.out.size))
                    refine wpOp_plain rfl rfl ?_
                    unfold Oper.wp
                    go_simp
                    refine x.mono ?_
                    rintro e w' ⟨rfl, hBn⟩
                    exact ⟨_, rfl, hBn, CL _ hBn, rfl⟩
                  | 5, _, ho =>
                    cases ho
                    have d4 : ac.tmps.getD 170 undef = .slice ak nk ck_ := hL.new 4 _ 170 rfl (he ⟨4, .data⟩ (by simp) rfl) rfl
                    have dq : ac.tmps[170]?.getD undef = .slice ak nk ck_ := by rw [← Array.getD_eq_getD_getElem?]; exact d4
                    refine wpOp_plain rfl rfl ?_
                    unfold Oper.wp
                    go_simp
                    (try simp only [dq])
                    (try go_simp)
                    exact ⟨_, rfl, (Below.refl _ _).alloc (Nat.le_refl _) _, CL _ ((Below.refl _ _).alloc (Nat.le_refl _) _), sl_week _ _ rfl _ _ _⟩
                  | 6, _, ho =>
                    cases ho
                    have d0 : ac.tmps.getD 166 undef = .int .i64 nn := hL.new 0 _ 166 rfl (he ⟨0, .data⟩ (by simp) rfl) rfl
                    have d2 : ac.tmps.getD 168 undef = .slice aw nw cw := hL.new 2 _ 168 rfl (he ⟨2, .data⟩ (by simp) rfl) rfl
                    obtain ⟨x5, hx5⟩ : ∃ x, ac.tmps.getD 171 undef = x := ⟨_, rfl⟩
                    have d5 := hL.new 5 _ 171 rfl (he ⟨5, .data⟩ (by simp) rfl) rfl
                    rw [hx5] at d5
                    have x := HFO2.out x5 W (BU.out.trans (hL.cls.mono BU.out.size)) d5
                    refine wpOp_plain rfl rfl ?_
                    unfold Oper.wp
                    go_simp
                    refine x.mono ?_
                    rintro e w' ⟨rfl, hBn⟩
                    exact ⟨_, rfl, hBn, CL _ hBn, rfl⟩
                  | 7, _, ho =>
                    cases ho
                    have d6 : ac.tmps.getD 172 undef = .int .i64 fm := hL.new 6 _ 172 rfl (he ⟨6, .data⟩ (by simp) rfl) rfl
                    refine wpOp_plain rfl rfl ?_
                    unfold Oper.wp
                    go_simp
                    exact ⟨_, rfl, Below.refl _ _, CL _ (Below.refl _ _), rfl⟩
                  | n + 8, hA, _ => simp at hA
                case rest22y =>
                  intro ac V22y hL
                  have e166 : ac.tmps.getD 166 undef = .int .i64 nn := hL.new 0 _ 166 rfl rfl rfl
                  have e167 : ac.tmps.getD 167 undef = .pointer (some ⟨w.heap.size + 1, 0, none⟩) := hL.new 1 _ 167 rfl rfl rfl
                  have e168 : ac.tmps.getD 168 undef = .slice aw nw cw := hL.new 2 _ 168 rfl rfl rfl
                  have e169 : ac.tmps.getD 169 undef = .agg #[.slice aw nw cw, .slice as_ ns cs, .int .i64 K, .int .i64 L] := hL.new 3 _ 169 rfl rfl rfl
                  have e170 : ac.tmps.getD 170 undef = .slice ak nk ck_ := hL.new 4 _ 170 rfl rfl rfl
                  obtain ⟨y171, e171⟩ : ∃ x, ac.tmps.getD 171 undef = x := ⟨_, rfl⟩
                  have e172 : ac.tmps.getD 172 undef = .int .i64 fm := hL.new 6 _ 172 rfl rfl rfl
                  have e15 : ac.tmps.getD 15 undef = .int .i64 fm := hL.new 7 _ 15 rfl rfl rfl
                  have es := hL.sets [166, 167, 168, 169, 170, 171, 172, 15] (by decide +kernel)
                  rw [List.foldl_cons, List.foldl_cons, List.foldl_cons, List.foldl_cons, List.foldl_cons, List.foldl_cons, List.foldl_cons, List.foldl_cons, List.foldl_nil, e166, e167, e168, e169, e170, e171, e172, e15] at es
                  have BN : Below W10.heap.size W10 V22y := hL.cls
                  rw [es]
                  clear es hL e166 e167 e168 e169 e170 e171 e172 e15
                  refine wpAny_done (by decide +kernel) ?_ _
                  simp only [List.setIfInBounds_toArray, List.set_cons_zero, List.set_cons_succ]
                  replace bc0 := keepc BN bc0
                  replace bc1 := keepc BN bc1
                  replace bc2 := keepc BN bc2
                  replace bc3 := keepc BN bc3
                  replace bc4 := keepc BN bc4
                  replace bc5 := keepc BN bc5
                  replace wc0 := keepc BN wc0
                  replace wc1 := keepc BN wc1
                  replace wc2 := keepc BN wc2
                  replace wc3 := keepc BN wc3
                  replace BU : Aside (Below w.heap.size w V22y) := BU.out.trans (BN.mono BU.out.size)
                  replace HSA : Aside (Sl V22y 1 eI (.slice aa na ca) AL) := HSA.out.below BN
                  clear BN
                  by_cases hf : fm = 0
                  rotate_left
                  · obtain ⟨rfl, rfl, rfl, rfl, rfl⟩ := HTS.out.frm rfl hf
                    obtain rfl : na = 0 := HNA.out
                    go_wp2_with fail
                    refine (HKN.out _).mono ?_
                    rintro e W11 ⟨rfl, hb11⟩
                    replace bc0 := keepc hb11 bc0
                    replace bc1 := keepc hb11 bc1
                    replace bc2 := keepc hb11 bc2
                    replace bc3 := keepc hb11 bc3
                    replace bc4 := keepc hb11 bc4
                    replace bc5 := keepc hb11 bc5
                    replace wc0 := keepc hb11 wc0
                    replace wc1 := keepc hb11 wc1
                    replace wc2 := keepc hb11 wc2
                    replace wc3 := keepc hb11 wc3
                    replace BU : Aside (Below w.heap.size w W11) := BU.out.trans (hb11.mono BU.out.size)
                    clear hb11
                    go_wp2_with fail
                    go_ret
                    exact ⟨rfl, BU.out⟩
                  · subst hf
                    have HRP2 : Aside _ := HRP.out (by simp) (by simp)
                    obtain ⟨rfl, rfl⟩ := HTO.out (by simp)
                    obtain rfl : na = 0 := HNA.out
                    skip
                    go_upto_region 31 with (fail)
                    refine region_laid (fl := 12) [true, true, true, true, true, true, true, true, true, true, true] 0 (fun (i : Nat) (x : Value) (ww : World) => (match i with | 0 => x = .pointer (some ⟨w.heap.size + 1, 0, none⟩) | 1 => x = .slice aw nw cw | 2 => x = .agg #[.slice aw nw cw, .slice as_ ns cs, .int .i64 K, .int .i64 L] | 3 => x = .slice ak nk ck_ | 4 => Sl ww 1 eR x [((.slice ak nk ck_ : Value), wkl)] | 5 => OneP pm bq x ww | 6 => OneP pm bq x ww | 7 => OneAt bq x ww | 8 => x = .int .i64 pm | 9 => OneAt bq x ww | 10 => x = .int .i64 pm | _ => True : Prop)) (fun w' => Below V22y.heap.size V22y w') (by kernel_rfl) rfl (by show layable _ 290 _ 12 = true; decide +kernel) rfl ((Below.refl _ _).drew) ?mono31y ?step31y ?rest31y
                    case mono31y =>
                      intro i x ww ww' hB h
                      match i, h with
                      | 0, h => exact h
                      | 1, h => exact h
                      | 2, h => exact h
                      | 3, h => exact h
                      | 4, h => exact Sl.below h hB
                      | 5, h => exact OneP.below h hB
                      | 6, h => exact OneP.below h hB
                      | 7, h => exact OneAt.below h hB
                      | 8, h => exact h
                      | 9, h => exact OneAt.below h hB
                      | 10, h => exact h
                      | n + 11, h => exact h
                    case step31y =>
                      intro i o_ listed ac W hA ho hL he
                      have hk2 : ac.tmps.getD 2 undef = .pointer (some ⟨w.heap.size, 0, none⟩) := hL.kept 2 (by decide +kernel)
                      have hk3 : ac.tmps.getD 3 undef = .pointer (some ⟨w.heap.size + 1, 0, none⟩) := hL.kept 3 (by decide +kernel)
                      have CL : ∀ W', Below W.heap.size W W' → Below V22y.heap.size V22y W' := fun W' h => hL.cls.trans (h.mono hL.cls.size)
                      have k_wc0 := keepc hL.cls wc0
                      have k_wc1 := keepc hL.cls wc1
                      have k_wc2 := keepc hL.cls wc2
                      have k_wc3 := keepc hL.cls wc3
                      match i, hA, ho with
                      | 0, _, ho =>
                        cases ho
                        refine wpOp_plain rfl rfl ?_
                        unfold Oper.wp
                        go_simp
                        exact ⟨_, rfl, Below.refl _ _, CL _ (Below.refl _ _), rfl⟩
                      | 1, _, ho =>
                        cases ho
                        have d0 : ac.tmps.getD 250 undef = .pointer (some ⟨w.heap.size + 1, 0, none⟩) := hL.new 0 _ 250 rfl (he ⟨0, .data⟩ (by simp) rfl) rfl
                        refine wpOp_plain rfl rfl ?_
                        unfold Oper.wp
                        go_simp
                        exact ⟨_, rfl, Below.refl _ _, CL _ (Below.refl _ _), rfl⟩
                      | 2, _, ho =>
                        cases ho
                        refine wpOp_plain rfl rfl ?_
                        unfold Oper.wp
                        go_simp
                        exact ⟨_, rfl, Below.refl _ _, CL _ (Below.refl _ _), rfl⟩
                      | 3, _, ho =>
                        cases ho
                        have d2 : ac.tmps.getD 252 undef = .agg #[.slice aw nw cw, .slice as_ ns cs, .int .i64 K, .int .i64 L] := hL.new 2 _ 252 rfl (he ⟨2, .data⟩ (by simp) rfl) rfl
                        have x := HWE.out W (BU.out.trans (hL.cls.mono BU.out.size))
                        refine wpOp_plain rfl rfl ?_
                        unfold Oper.wp
                        go_simp
                        refine x.mono ?_
                        rintro e w' ⟨rfl, hBn⟩
                        exact ⟨_, rfl, hBn, CL _ hBn, rfl⟩
                      | 4, _, ho =>
                        cases ho
                        have d3 : ac.tmps.getD 253 undef = .slice ak nk ck_ := hL.new 3 _ 253 rfl (he ⟨3, .data⟩ (by simp) rfl) rfl
                        have dq : ac.tmps[253]?.getD undef = .slice ak nk ck_ := by rw [← Array.getD_eq_getD_getElem?]; exact d3
                        refine wpOp_plain rfl rfl ?_
                        unfold Oper.wp
                        go_simp
                        (try simp only [dq])
                        (try go_simp)
                        exact ⟨_, rfl, (Below.refl _ _).alloc (Nat.le_refl _) _, CL _ ((Below.refl _ _).alloc (Nat.le_refl _) _), sl_week _ _ rfl _ _ _⟩
                      | 5, _, ho =>
                        cases ho
                        have d1 : ac.tmps.getD 251 undef = .slice aw nw cw := hL.new 1 _ 251 rfl (he ⟨1, .data⟩ (by simp) rfl) rfl
                        obtain ⟨x4, hx4⟩ : ∃ x, ac.tmps.getD 254 undef = x := ⟨_, rfl⟩
                        have d4 := hL.new 4 _ 254 rfl (he ⟨4, .data⟩ (by simp) rfl) rfl
                        rw [hx4] at d4
                        have x := HRP2.out x4 W (BU.out.trans (hL.cls.mono BU.out.size)) d4
                        refine wpOp_plain rfl rfl ?_
                        unfold Oper.wp
                        go_simp
                        refine x.mono ?_
                        rintro e w' ⟨v', rfl, hcp, hBn⟩
                        exact ⟨_, rfl, hBn, CL _ hBn, ⟨v', rfl, hcp⟩⟩
                      | 6, _, ho =>
                        cases ho
                        obtain ⟨x5, hx5⟩ : ∃ x, ac.tmps.getD 255 undef = x := ⟨_, rfl⟩
                        have d5 := hL.new 5 _ 255 rfl (he ⟨5, .data⟩ (by simp) rfl) rfl
                        rw [hx5] at d5
                        refine wpOp_plain rfl rfl ?_
                        unfold Oper.wp
                        go_simp
                        exact ⟨_, rfl, Below.refl _ _, CL _ (Below.refl _ _), d5⟩
                      | 7, _, ho =>
                        cases ho
                        obtain ⟨x6, hx6⟩ : ∃ x, ac.tmps.getD 249 undef = x := ⟨_, rfl⟩
                        have d6 := hL.new 6 _ 249 rfl (he ⟨6, .data⟩ (by simp) rfl) rfl
                        rw [hx6] at d6
                        obtain ⟨v', rfl, hcp⟩ := d6
                        refine wpOp_plain rfl rfl ?_
                        unfold Oper.wp
                        go_simp
                        exact ⟨_, rfl, Below.refl _ _, CL _ (Below.refl _ _), hcp⟩
                      | 8, _, ho =>
                        cases ho
                        obtain ⟨x6, hx6⟩ : ∃ x, ac.tmps.getD 249 undef = x := ⟨_, rfl⟩
                        have d6 := hL.new 6 _ 249 rfl (he ⟨6, .data⟩ (by simp) rfl) rfl
                        rw [hx6] at d6
                        obtain ⟨v', rfl, hcp⟩ := d6
                        refine wpOp_plain rfl rfl ?_
                        unfold Oper.wp
                        go_simp
                        exact ⟨_, rfl, Below.refl _ _, CL _ (Below.refl _ _), rfl⟩
                      | 9, _, ho =>
                        cases ho
                        obtain ⟨x7, hx7⟩ : ∃ x, ac.tmps.getD 256 undef = x := ⟨_, rfl⟩
                        have d7 := hL.new 7 _ 256 rfl (he ⟨7, .data⟩ (by simp) rfl) rfl
                        rw [hx7] at d7
                        refine wpOp_plain rfl rfl ?_
                        unfold Oper.wp
                        go_simp
                        exact ⟨_, rfl, Below.refl _ _, CL _ (Below.refl _ _), d7⟩
                      | 10, _, ho =>
                        cases ho
                        have d8 : ac.tmps.getD 257 undef = .int .i64 pm := hL.new 8 _ 257 rfl (he ⟨8, .data⟩ (by simp) rfl) rfl
                        refine wpOp_plain rfl rfl ?_
                        unfold Oper.wp
                        go_simp
                        exact ⟨_, rfl, Below.refl _ _, CL _ (Below.refl _ _), rfl⟩
                      | n + 11, hA, _ => simp at hA
                    case rest31y =>
                      intro ac V31y hL
                      have e250 : ac.tmps.getD 250 undef = .pointer (some ⟨w.heap.size + 1, 0, none⟩) := hL.new 0 _ 250 rfl rfl rfl
                      have e251 : ac.tmps.getD 251 undef = .slice aw nw cw := hL.new 1 _ 251 rfl rfl rfl
                      have e252 : ac.tmps.getD 252 undef = .agg #[.slice aw nw cw, .slice as_ ns cs, .int .i64 K, .int .i64 L] := hL.new 2 _ 252 rfl rfl rfl
                      have e253 : ac.tmps.getD 253 undef = .slice ak nk ck_ := hL.new 3 _ 253 rfl rfl rfl
                      obtain ⟨y254, e254⟩ : ∃ x, ac.tmps.getD 254 undef = x := ⟨_, rfl⟩
                      obtain ⟨y255, e255⟩ : ∃ x, ac.tmps.getD 255 undef = x := ⟨_, rfl⟩
                      obtain ⟨y249, e249⟩ : ∃ x, ac.tmps.getD 249 undef = x := ⟨_, rfl⟩
                      obtain ⟨y256, e256⟩ : ∃ x, ac.tmps.getD 256 undef = x := ⟨_, rfl⟩
                      have e257 : ac.tmps.getD 257 undef = .int .i64 pm := hL.new 8 _ 257 rfl rfl rfl
                      have hn20 := hL.new 9 _ 20 rfl rfl rfl
                      obtain ⟨vp, e20⟩ : ∃ x, ac.tmps.getD 20 undef = x := ⟨_, rfl⟩
                      rw [e20] at hn20
                      have Hvp : Aside (OneAt bq vp V31y) := hn20
                      clear hn20
                      have e21 : ac.tmps.getD 21 undef = .int .i64 pm := hL.new 10 _ 21 rfl rfl rfl
                      have es := hL.sets [250, 251, 252, 253, 254, 255, 249, 256, 257, 20, 21] (by decide +kernel)
                      rw [List.foldl_cons, List.foldl_cons, List.foldl_cons, List.foldl_cons, List.foldl_cons, List.foldl_cons, List.foldl_cons, List.foldl_cons, List.foldl_cons, List.foldl_cons, List.foldl_cons, List.foldl_nil, e250, e251, e252, e253, e254, e255, e249, e256, e257, e20, e21] at es
                      have BN : Below V22y.heap.size V22y V31y := hL.cls
                      rw [es]
                      clear es hL e250 e251 e252 e253 e254 e255 e249 e256 e257 e20 e21
                      refine wpAny_done (by decide +kernel) ?_ _
                      simp only [List.setIfInBounds_toArray, List.set_cons_zero, List.set_cons_succ]
                      obtain ⟨bp, fp, cp, rfl, hcp⟩ := Hvp.out
                      clear Hvp
                      replace bc0 := keepc BN bc0
                      replace bc1 := keepc BN bc1
                      replace bc2 := keepc BN bc2
                      replace bc3 := keepc BN bc3
                      replace bc4 := keepc BN bc4
                      replace bc5 := keepc BN bc5
                      replace wc0 := keepc BN wc0
                      replace wc1 := keepc BN wc1
                      replace wc2 := keepc BN wc2
                      replace wc3 := keepc BN wc3
                      replace BU : Aside (Below w.heap.size w V31y) := BU.out.trans (BN.mono BU.out.size)
                      clear BN
                      by_cases hp : pm ≤ 1000000000
                      · obtain ⟨rfl, rfl, hbk⟩ := HTS.out.ple rfl rfl hp
                        obtain rfl : bk = bq := hbk.trans HBQ.out
                        go_wp2_with fail
                        refine (HKN.out _).mono ?_
                        rintro e W11 ⟨rfl, hb11⟩
                        replace bc0 := keepc hb11 bc0
                        replace bc1 := keepc hb11 bc1
                        replace bc2 := keepc hb11 bc2
                        replace bc3 := keepc hb11 bc3
                        replace bc4 := keepc hb11 bc4
                        replace bc5 := keepc hb11 bc5
                        replace wc0 := keepc hb11 wc0
                        replace wc1 := keepc hb11 wc1
                        replace wc2 := keepc hb11 wc2
                        replace wc3 := keepc hb11 wc3
                        replace hcp := keepc hb11 hcp
                        replace BU : Aside (Below w.heap.size w W11) := BU.out.trans (hb11.mono BU.out.size)
                        clear hb11
                        go_wp2_with fail
                        go_ret
                        exact ⟨rfl, BU.out⟩
                      · obtain ⟨rfl, rfl, rfl⟩ := HTS.out.pgt rfl rfl hp
                        have hp2 : 1000000000 < pm := by omega
                        go_wp2_with fail
                        refine (HKN.out _).mono ?_
                        rintro e W11 ⟨rfl, hb11⟩
                        replace bc0 := keepc hb11 bc0
                        replace bc1 := keepc hb11 bc1
                        replace bc2 := keepc hb11 bc2
                        replace bc3 := keepc hb11 bc3
                        replace bc4 := keepc hb11 bc4
                        replace bc5 := keepc hb11 bc5
                        replace wc0 := keepc hb11 wc0
                        replace wc1 := keepc hb11 wc1
                        replace wc2 := keepc hb11 wc2
                        replace wc3 := keepc hb11 wc3
                        replace hcp := keepc hb11 hcp
                        replace BU : Aside (Below w.heap.size w W11) := BU.out.trans (hb11.mono BU.out.size)
                        clear hb11
                        go_wp2_with fail
                        go_ret
                        exact ⟨rfl, BU.out⟩
              · obtain ⟨k, rfl⟩ := Int.eq_ofNat_of_zero_le (show 0 ≤ K by omega)
                obtain ⟨rfl, rfl⟩ := HTS.out.inn rfl (by omega) (show (k : Int) < (nums.length : Int) by have := HNN.out; omega)
                rw [Int.toNat_natCast] at HTS
                rw [Int.toNat_natCast] at HBT
                have hkn : k < nn := by omega
                go_wp2_with fail
                refine (HOW2.out _ BU.out).mono ?_
                rintro e W15 ⟨g4, d4, g5, d5, g6, d6, rfl, h1, h2, h3, hg6, h4, h5, h6, hb15⟩
                go_wp2_with fail
                obtain ⟨U, hU⟩ : ∃ U, U = W15.alloc (.cells #[.int .i64 ey, .int .i64 bu, .slice (some ⟨g4, 0, none⟩) nr d4, .slice (some ⟨g5, 0, none⟩) nl d5, .slice (some ⟨g6, 0, none⟩) nn d6, .int .i64 wi] 26) := ⟨_, rfl⟩
                have hbU : Below W15.heap.size W15 U := by rw [hU]; exact (Below.refl _ _).alloc (Nat.le_refl _) _
                have HRG : Aside (RgtAt ey bu wi rings lines nums nr nl nn k W15.heap.size g4 d4 g5 d5 g6 d6 0 U) := by
                  have q7 : TbO nums U g6 3 := h6.below hbU
                  have q3 := h3.below hbU
                  refine ⟨by rw [hU]; exact World.alloc_heap_new _ _, h1.below hbU, h2.below hbU, by rw [mvk_zero]; exact q3, h4.below hbU, h5.below hbU, ?_⟩
                  rcases q7 with q7 | q7
                  · exact absurd HNN.out (by rw [q7]; simp; omega)
                  · exact q7
                rw [← hU]
                have HBX : Aside (Below V9.heap.size V9 U) := hb15.trans (hbU.mono hb15.size)
                have HG6 : Aside (V9.heap.size ≤ g6) := hg6
                obtain ⟨gr, hgr⟩ : ∃ g, W15.heap.size = g := ⟨_, rfl⟩
                rw [hgr] at HRG ⊢
                clear hgr hU hbU hb15 hg6 h1 h2 h3 h4 h5 h6 W15
                go_loopg [18] nn (fun gg iv wr => ∃ j : Nat, j ≤ nn ∧ nn - j ≤ gg ∧ iv = .int .i64 j ∧ Aside (RgtAt ey bu wi rings lines nums nr nl nn k gr g4 d4 g5 d5 g6 d6 j wr) ∧ Aside (Below V9.heap.size V9 wr))
                case atStart => exact ⟨0, Nat.zero_le _, by omega, rfl, HRG, HBX⟩
                case round =>
                  clear HRG HBX
                  obtain ⟨j, hj, hgg, rfl, HRG, HBX⟩ := hrel
                  by_cases hlt : j < nn
                  · have hltz : (j : Int) < (nn : Int) := by omega
                    obtain ⟨xv, hxv⟩ : ∃ y, nums[j]? = some y := ⟨_, List.getElem?_eq_getElem (by rw [HNN.out]; exact hlt)⟩
                    obtain ⟨gq, oq, han, hcn⟩ := HNC.out wr (BU.out.trans (HBX.out.mono BU.out.size)) j xv hxv
                    subst han
                    have kb4 := keepc HBX.out bc4
                    have kw2 := keepc HBX.out wc2
                    have kr4 : wr.cell? ⟨gr, 4, none⟩ = some (.slice (some ⟨g6, 0, none⟩) nn d6) := blk_cell HRG.out.1
                    obtain ⟨u0, hu0⟩ := HRG.out.cell HNN.out (by omega)
                    have hfr := HRG.out.2.2.2.2.2.2.frozen ((j + k) % nn)
                    have HPUT : Aside (∀ W, Below wr.heap.size wr W → RgtAt ey bu wi rings lines nums nr nl nn k gr g4 d4 g5 d5 g6 d6 (j + 1) (W.setCell ⟨g6, (j + k) % nn, none⟩ (.int .i64 xv))) := fun W hW => (HRG.out.below hW).put HNN.out hkn hlt hxv
                    have HET : Aside (((j : Int) + (k : Int)).tmod (nn : Int) = (((j + k) % nn : Nat) : Int) ∧ IntKind.i64.wrap ((j : Int) + (k : Int)) = (j : Int) + (k : Int)) := ⟨by rw [Int.tmod_eq_emod_of_nonneg (by omega)]; push_cast; rfl, IntWalk.i64_in _ (by omega)⟩
                    have HEN : Aside (¬ nn = 0) := by show ¬ _; omega
                    have hmn : (j + k) % nn < nn := Nat.mod_lt _ (by omega)
                    generalize (j + k) % nn = m at *
                    have HMZ : Aside ((m : Int) < (nn : Int) ∧ ¬ (m : Int) < 0) := ⟨by omega, by omega⟩
                    have HU0 : Aside (wr.cell? ⟨g6, m, none⟩ = some u0) := hu0
                    have HFR : Aside (wr.frozen? ⟨g6, m, none⟩ = false) := hfr
                    clear hu0 hfr hxv hmn
                    go_upto_region 19 with (fail)
                    refine region_laid (fl := 16) [true, true, true, true, true, true, true, true, true, true, true, true, true, true, false] 1 (fun (i : Nat) (x : Value) (ww : World) => (match i with | 0 => x = .pointer (some ⟨gr, 4, none⟩) | 1 => x = .slice (some ⟨g6, 0, none⟩) nn d6 | 2 => x = .int .i64 j | 3 => x = .pointer (some ⟨w.heap.size + 1, 2, none⟩) | 4 => x = .int .i64 k | 5 => x = .int .i64 ((j : Int) + (k : Int)) | 6 => x = .int .i64 nn | 7 => x = .int .i64 m | 8 => x = .pointer (some ⟨w.heap.size, 4, none⟩) | 9 => x = .slice (some ⟨gq, oq, none⟩) nn cn | 10 => x = .int .i64 j | 11 => x = .pointer (some ⟨gq, oq + j, none⟩) | 12 => x = .int .i64 xv | 13 => x = .pointer (some ⟨g6, m, none⟩) | _ => True : Prop)) (fun w' => Below wr.heap.size wr w') (by kernel_rfl) rfl (by show layable _ 290 _ 16 = true; decide +kernel) rfl ((Below.refl _ _).drew) ?mono19 ?step19 ?rest19
                    case mono19 =>
                      intro i x ww ww' hB h
                      match i, h with
                      | 0, h => exact h
                      | 1, h => exact h
                      | 2, h => exact h
                      | 3, h => exact h
                      | 4, h => exact h
                      | 5, h => exact h
                      | 6, h => exact h
                      | 7, h => exact h
                      | 8, h => exact h
                      | 9, h => exact h
                      | 10, h => exact h
                      | 11, h => exact h
                      | 12, h => exact h
                      | 13, h => exact h
                      | n + 14, h => exact h
                    case step19 =>
                      intro i o_ listed ac W hA ho hL he
                      have hk2 : ac.tmps.getD 2 undef = .pointer (some ⟨w.heap.size, 0, none⟩) := hL.kept 2 (by decide +kernel)
                      have hk3 : ac.tmps.getD 3 undef = .pointer (some ⟨w.heap.size + 1, 0, none⟩) := hL.kept 3 (by decide +kernel)
                      have hk16 : ac.tmps.getD 16 undef = .int .i64 nn := hL.kept 16 (by decide +kernel)
                      have hk17 : ac.tmps.getD 17 undef = .pointer (some ⟨gr, 0, none⟩) := hL.kept 17 (by decide +kernel)
                      have hk18 : ac.tmps.getD 18 undef = .int .i64 j := hL.kept 18 (by decide +kernel)
                      have CL : ∀ W', Below W.heap.size W W' → Below wr.heap.size wr W' := fun W' h => hL.cls.trans (h.mono hL.cls.size)
                      have k_kb4 := keepc hL.cls kb4
                      have k_kw2 := keepc hL.cls kw2
                      have k_kr4 := keepc hL.cls kr4
                      have k_hcn := keepc hL.cls hcn
                      match i, hA, ho with
                      | 0, _, ho =>
                        cases ho
                        refine wpOp_plain rfl rfl ?_
                        unfold Oper.wp
                        go_simp
                        exact ⟨_, rfl, Below.refl _ _, CL _ (Below.refl _ _), rfl⟩
                      | 1, _, ho =>
                        cases ho
                        have d0 : ac.tmps.getD 144 undef = .pointer (some ⟨gr, 4, none⟩) := hL.new 0 _ 144 rfl (he ⟨0, .data⟩ (by simp) rfl) rfl
                        refine wpOp_plain rfl rfl ?_
                        unfold Oper.wp
                        go_simp
                        exact ⟨_, rfl, Below.refl _ _, CL _ (Below.refl _ _), rfl⟩
                      | 2, _, ho =>
                        cases ho
                        refine wpOp_plain rfl rfl ?_
                        unfold Oper.wp
                        go_simp
                        exact ⟨_, rfl, Below.refl _ _, CL _ (Below.refl _ _), rfl⟩
                      | 3, _, ho =>
                        cases ho
                        refine wpOp_plain rfl rfl ?_
                        unfold Oper.wp
                        go_simp
                        exact ⟨_, rfl, Below.refl _ _, CL _ (Below.refl _ _), rfl⟩
                      | 4, _, ho =>
                        cases ho
                        have d3 : ac.tmps.getD 147 undef = .pointer (some ⟨w.heap.size + 1, 2, none⟩) := hL.new 3 _ 147 rfl (he ⟨3, .data⟩ (by simp) rfl) rfl
                        refine wpOp_plain rfl rfl ?_
                        unfold Oper.wp
                        go_simp
                        exact ⟨_, rfl, Below.refl _ _, CL _ (Below.refl _ _), rfl⟩
                      | 5, _, ho =>
                        cases ho
                        have d2 : ac.tmps.getD 146 undef = .int .i64 j := hL.new 2 _ 146 rfl (he ⟨2, .data⟩ (by simp) rfl) rfl
                        have d4 : ac.tmps.getD 148 undef = .int .i64 k := hL.new 4 _ 148 rfl (he ⟨4, .data⟩ (by simp) rfl) rfl
                        have eS := HET.out.2
                        refine wpOp_plain rfl rfl ?_
                        unfold Oper.wp
                        go_simp
                        exact ⟨_, rfl, Below.refl _ _, CL _ (Below.refl _ _), rfl⟩
                      | 6, _, ho =>
                        cases ho
                        refine wpOp_plain rfl rfl ?_
                        unfold Oper.wp
                        go_simp
                        exact ⟨_, rfl, Below.refl _ _, CL _ (Below.refl _ _), rfl⟩
                      | 7, _, ho =>
                        cases ho
                        have d5 : ac.tmps.getD 149 undef = .int .i64 ((j : Int) + (k : Int)) := hL.new 5 _ 149 rfl (he ⟨5, .data⟩ (by simp) rfl) rfl
                        have d6 : ac.tmps.getD 150 undef = .int .i64 nn := hL.new 6 _ 150 rfl (he ⟨6, .data⟩ (by simp) rfl) rfl
                        have eT := HET.out.1
                        have eN := HEN.out
                        refine wpOp_plain rfl rfl ?_
                        unfold Oper.wp
                        go_simp
                        exact ⟨_, rfl, Below.refl _ _, CL _ (Below.refl _ _), rfl⟩
                      | 8, _, ho =>
                        cases ho
                        refine wpOp_plain rfl rfl ?_
                        unfold Oper.wp
                        go_simp
                        exact ⟨_, rfl, Below.refl _ _, CL _ (Below.refl _ _), rfl⟩
                      | 9, _, ho =>
                        cases ho
                        have d8 : ac.tmps.getD 152 undef = .pointer (some ⟨w.heap.size, 4, none⟩) := hL.new 8 _ 152 rfl (he ⟨8, .data⟩ (by simp) rfl) rfl
                        refine wpOp_plain rfl rfl ?_
                        unfold Oper.wp
                        go_simp
                        exact ⟨_, rfl, Below.refl _ _, CL _ (Below.refl _ _), rfl⟩
                      | 10, _, ho =>
                        cases ho
                        refine wpOp_plain rfl rfl ?_
                        unfold Oper.wp
                        go_simp
                        exact ⟨_, rfl, Below.refl _ _, CL _ (Below.refl _ _), rfl⟩
                      | 11, _, ho =>
                        cases ho
                        have d9 : ac.tmps.getD 153 undef = .slice (some ⟨gq, oq, none⟩) nn cn := hL.new 9 _ 153 rfl (he ⟨9, .data⟩ (by simp) rfl) rfl
                        have d10 : ac.tmps.getD 154 undef = .int .i64 j := hL.new 10 _ 154 rfl (he ⟨10, .data⟩ (by simp) rfl) rfl
                        refine wpOp_plain rfl rfl ?_
                        unfold Oper.wp
                        go_simp
                        exact ⟨_, rfl, Below.refl _ _, CL _ (Below.refl _ _), rfl⟩
                      | 12, _, ho =>
                        cases ho
                        have d11 : ac.tmps.getD 155 undef = .pointer (some ⟨gq, oq + j, none⟩) := hL.new 11 _ 155 rfl (he ⟨11, .data⟩ (by simp) rfl) rfl
                        refine wpOp_plain rfl rfl ?_
                        unfold Oper.wp
                        go_simp
                        exact ⟨_, rfl, Below.refl _ _, CL _ (Below.refl _ _), rfl⟩
                      | 13, _, ho =>
                        cases ho
                        have d1 : ac.tmps.getD 145 undef = .slice (some ⟨g6, 0, none⟩) nn d6 := hL.new 1 _ 145 rfl (he ⟨1, .data⟩ (by simp) rfl) rfl
                        have d7 : ac.tmps.getD 151 undef = .int .i64 m := hL.new 7 _ 151 rfl (he ⟨7, .data⟩ (by simp) rfl) rfl
                        have hmz := HMZ.out.1
                        have hmz2 := HMZ.out.2
                        refine wpOp_plain rfl rfl ?_
                        unfold Oper.wp
                        go_simp
                        exact ⟨_, rfl, Below.refl _ _, CL _ (Below.refl _ _), rfl⟩
                      | 14, hA, _ => cases hA
                      | n + 15, hA, _ => simp at hA
                    case rest19 =>
                      intro ac W19 hL
                      have e144 : ac.tmps.getD 144 undef = .pointer (some ⟨gr, 4, none⟩) := hL.new 0 _ 144 rfl rfl rfl
                      have e145 : ac.tmps.getD 145 undef = .slice (some ⟨g6, 0, none⟩) nn d6 := hL.new 1 _ 145 rfl rfl rfl
                      have e146 : ac.tmps.getD 146 undef = .int .i64 j := hL.new 2 _ 146 rfl rfl rfl
                      have e147 : ac.tmps.getD 147 undef = .pointer (some ⟨w.heap.size + 1, 2, none⟩) := hL.new 3 _ 147 rfl rfl rfl
                      have e148 : ac.tmps.getD 148 undef = .int .i64 k := hL.new 4 _ 148 rfl rfl rfl
                      have e149 : ac.tmps.getD 149 undef = .int .i64 ((j : Int) + (k : Int)) := hL.new 5 _ 149 rfl rfl rfl
                      have e150 : ac.tmps.getD 150 undef = .int .i64 nn := hL.new 6 _ 150 rfl rfl rfl
                      have e151 : ac.tmps.getD 151 undef = .int .i64 m := hL.new 7 _ 151 rfl rfl rfl
                      have e152 : ac.tmps.getD 152 undef = .pointer (some ⟨w.heap.size, 4, none⟩) := hL.new 8 _ 152 rfl rfl rfl
                      have e153 : ac.tmps.getD 153 undef = .slice (some ⟨gq, oq, none⟩) nn cn := hL.new 9 _ 153 rfl rfl rfl
                      have e154 : ac.tmps.getD 154 undef = .int .i64 j := hL.new 10 _ 154 rfl rfl rfl
                      have e155 : ac.tmps.getD 155 undef = .pointer (some ⟨gq, oq + j, none⟩) := hL.new 11 _ 155 rfl rfl rfl
                      have e156 : ac.tmps.getD 156 undef = .int .i64 xv := hL.new 12 _ 156 rfl rfl rfl
                      have e157 : ac.tmps.getD 157 undef = .pointer (some ⟨g6, m, none⟩) := hL.new 13 _ 157 rfl rfl rfl
                      have es := hL.sets [144, 145, 146, 147, 148, 149, 150, 151, 152, 153, 154, 155, 156, 157] (by decide +kernel)
                      rw [List.foldl_cons, List.foldl_cons, List.foldl_cons, List.foldl_cons, List.foldl_cons, List.foldl_cons, List.foldl_cons, List.foldl_cons, List.foldl_cons, List.foldl_cons, List.foldl_cons, List.foldl_cons, List.foldl_cons, List.foldl_cons, List.foldl_nil, e144, e145, e146, e147, e148, e149, e150, e151, e152, e153, e154, e155, e156, e157] at es
                      have BN : Below wr.heap.size wr W19 := hL.cls
                      rw [es]
                      clear es hL e144 e145 e146 e147 e148 e149 e150 e151 e152 e153 e154 e155 e156 e157
                      simp only [List.setIfInBounds_toArray, List.set_cons_zero, List.set_cons_succ]
                      have k2 := (BN.frozen (p := ⟨g6, m, none⟩) (World.block_lt_of_cell? _ _ HU0.out)).trans HFR.out
                      have k1 := keepc BN HU0.out
                      have HP2 : Aside _ := HPUT.out W19 BN
                      have B19 := HBX.out.trans (BN.mono HBX.out.size)
                      refine wpAny_one (i := 14) (by decide +kernel) rfl rfl ?_
                      unfold Oper.wp
                      go_simp
                      refine wpAny_done (by decide +kernel) ?_ _
                      go_wp2_with fail
                      go_roundg (nn - (j + 1))
                      case measure => omega
                      case rel => exact ⟨j + 1, by omega, by omega, by go_num, HP2, B19.setCell (p := ⟨g6, m, none⟩) HG6.out _⟩
                  · obtain rfl : j = nn := by omega
                    have hltz : ¬ (j : Int) < (j : Int) := by omega
                    have HRB : Aside (BrdAt wr (.agg #[.int .i64 ey, .int .i64 bu, .slice (some ⟨g4, 0, none⟩) nr d4, .slice (some ⟨g5, 0, none⟩) nl d5, .slice (some ⟨g6, 0, none⟩) j d6, .int .i64 wi]) (turnB ⟨ey, bu, rings, lines, nums, wi⟩ k)) := HRG.out.brd HNN.out hkn
                    have rc0 : wr.cell? ⟨gr, 0, none⟩ = some (.int .i64 ey) := blk_cell HRG.out.1
                    have rc1 : wr.cell? ⟨gr, 1, none⟩ = some (.int .i64 bu) := blk_cell HRG.out.1
                    have rc2 : wr.cell? ⟨gr, 2, none⟩ = some (.slice (some ⟨g4, 0, none⟩) nr d4) := blk_cell HRG.out.1
                    have rc3 : wr.cell? ⟨gr, 3, none⟩ = some (.slice (some ⟨g5, 0, none⟩) nl d5) := blk_cell HRG.out.1
                    have rc4 : wr.cell? ⟨gr, 4, none⟩ = some (.slice (some ⟨g6, 0, none⟩) j d6) := blk_cell HRG.out.1
                    have rc5 : wr.cell? ⟨gr, 5, none⟩ = some (.int .i64 wi) := blk_cell HRG.out.1
                    have hbx := HBX.out
                    clear HRG HBX HG6
                    replace bc0 := keepc hbx bc0
                    replace bc1 := keepc hbx bc1
                    replace bc2 := keepc hbx bc2
                    replace bc3 := keepc hbx bc3
                    replace bc4 := keepc hbx bc4
                    replace bc5 := keepc hbx bc5
                    replace wc0 := keepc hbx wc0
                    replace wc1 := keepc hbx wc1
                    replace wc2 := keepc hbx wc2
                    replace wc3 := keepc hbx wc3
                    replace uc0 := keepc hbx uc0
                    replace uc1 := keepc hbx uc1
                    replace uc2 := keepc hbx uc2
                    replace uc3 := keepc hbx uc3
                    replace uc4 := keepc hbx uc4
                    replace uc5 := keepc hbx uc5
                    replace BU : Aside (Below w.heap.size w wr) := BU.out.trans (hbx.mono BU.out.size)
                    replace HBT : Aside (BrdAt wr (.agg #[.int .i64 te, .int .i64 tu, .slice ta tr tc, .slice ua ur uc, .slice va vr vc, .int .i64 tw]) (turnB ⟨ey, bu, rings, lines, nums, wi⟩ k)) := HBT.out.below hbx
                    replace HSA : Aside (Sl wr 1 eI (.slice aa na ca) AL) := HSA.out.below hbx
                    clear hbx
                    go_wp2_with fail
                    refine (HSE.out _ _ _ _ HBT.out HRB.out).mono ?_
                    rintro e W10 ⟨rfl, hb10⟩
                    replace bc0 := keepc hb10 bc0
                    replace bc1 := keepc hb10 bc1
                    replace bc2 := keepc hb10 bc2
                    replace bc3 := keepc hb10 bc3
                    replace bc4 := keepc hb10 bc4
                    replace bc5 := keepc hb10 bc5
                    replace wc0 := keepc hb10 wc0
                    replace wc1 := keepc hb10 wc1
                    replace wc2 := keepc hb10 wc2
                    replace wc3 := keepc hb10 wc3
                    replace uc0 := keepc hb10 uc0
                    replace uc1 := keepc hb10 uc1
                    replace uc2 := keepc hb10 uc2
                    replace uc3 := keepc hb10 uc3
                    replace uc4 := keepc hb10 uc4
                    replace uc5 := keepc hb10 uc5
                    replace rc0 := keepc hb10 rc0
                    replace rc1 := keepc hb10 rc1
                    replace rc2 := keepc hb10 rc2
                    replace rc3 := keepc hb10 rc3
                    replace rc4 := keepc hb10 rc4
                    replace rc5 := keepc hb10 rc5
                    replace BU : Aside (Below w.heap.size w W10) := BU.out.trans (hb10.mono BU.out.size)
                    replace HBT : Aside (BrdAt W10 (.agg #[.int .i64 te, .int .i64 tu, .slice ta tr tc, .slice ua ur uc, .slice va vr vc, .int .i64 tw]) (turnB ⟨ey, bu, rings, lines, nums, wi⟩ k)) := HBT.out.below hb10
                    replace HSA : Aside (Sl W10 1 eI (.slice aa na ca) AL) := HSA.out.below hb10
                    replace HRB : Aside (BrdAt W10 (.agg #[.int .i64 ey, .int .i64 bu, .slice (some ⟨g4, 0, none⟩) nr d4, .slice (some ⟨g5, 0, none⟩) nl d5, .slice (some ⟨g6, 0, none⟩) j d6, .int .i64 wi]) (turnB ⟨ey, bu, rings, lines, nums, wi⟩ k)) := HRB.out.below hb10
                    clear hb10
                    clear HBT HRB uc0 uc1 uc2 uc3 uc4 uc5 rc0 rc1 rc2 rc3 rc4 rc5
                    go_upto_region 22 with (fail)
                    refine region_laid (fl := 8) [true, true, true, true, true, true, true, true] 0 (fun (i : Nat) (x : Value) (ww : World) => (match i with | 0 => x = .int .i64 j | 1 => x = .pointer (some ⟨w.heap.size + 1, 0, none⟩) | 2 => x = .slice aw nw cw | 3 => x = .agg #[.slice aw nw cw, .slice as_ ns cs, .int .i64 (k : Int), .int .i64 L] | 4 => x = .slice ak nk ck_ | 5 => Sl ww 1 eR x [((.slice ak nk ck_ : Value), wkl)] | 6 => x = .int .i64 fm | 7 => x = .int .i64 fm | _ => True : Prop)) (fun w' => Below W10.heap.size W10 w') (by kernel_rfl) rfl (by show layable _ 290 _ 8 = true; decide +kernel) rfl ((Below.refl _ _).drew) ?mono22z ?step22z ?rest22z
                    case mono22z =>
                      intro i x ww ww' hB h
                      match i, h with
                      | 0, h => exact h
                      | 1, h => exact h
                      | 2, h => exact h
                      | 3, h => exact h
                      | 4, h => exact h
                      | 5, h => exact Sl.below h hB
                      | 6, h => exact h
                      | 7, h => exact h
                      | n + 8, h => exact h
                    case step22z =>
                      intro i o_ listed ac W hA ho hL he
                      have hk2 : ac.tmps.getD 2 undef = .pointer (some ⟨w.heap.size, 0, none⟩) := hL.kept 2 (by decide +kernel)
                      have hk3 : ac.tmps.getD 3 undef = .pointer (some ⟨w.heap.size + 1, 0, none⟩) := hL.kept 3 (by decide +kernel)
                      have hk16 : ac.tmps.getD 16 undef = .int .i64 j := hL.kept 16 (by decide +kernel)
                      have CL : ∀ W', Below W.heap.size W W' → Below W10.heap.size W10 W' := fun W' h => hL.cls.trans (h.mono hL.cls.size)
                      have k_wc0 := keepc hL.cls wc0
                      have k_wc1 := keepc hL.cls wc1
                      have k_wc2 := keepc hL.cls wc2
                      have k_wc3 := keepc hL.cls wc3
                      match i, hA, ho with
                      | 0, _, ho =>
                        cases ho
                        refine wpOp_plain rfl rfl ?_
                        unfold Oper.wp
                        go_simp
                        exact ⟨_, rfl, Below.refl _ _, CL _ (Below.refl _ _), rfl⟩
                      | 1, _, ho =>
                        cases ho
                        refine wpOp_plain rfl rfl ?_
                        unfold Oper.wp
                        go_simp
                        exact ⟨_, rfl, Below.refl _ _, CL _ (Below.refl _ _), rfl⟩
                      | 2, _, ho =>
                        cases ho
                        have d1 : ac.tmps.getD 167 undef = .pointer (some ⟨w.heap.size + 1, 0, none⟩) := hL.new 1 _ 167 rfl (he ⟨1, .data⟩ (by simp) rfl) rfl
                        refine wpOp_plain rfl rfl ?_
                        unfold Oper.wp
                        go_simp
                        exact ⟨_, rfl, Below.refl _ _, CL _ (Below.refl _ _), rfl⟩
                      | 3, _, ho =>
                        cases ho
                        refine wpOp_plain rfl rfl ?_
                        unfold Oper.wp
                        go_simp
                        exact ⟨_, rfl, Below.refl _ _, CL _ (Below.refl _ _), rfl⟩
                      | 4, _, ho =>
                        cases ho
                        have d3 : ac.tmps.getD 169 undef = .agg #[.slice aw nw cw, .slice as_ ns cs, .int .i64 (k : Int), .int .i64 L] := hL.new 3 _ 169 rfl (he ⟨3, .data⟩ (by simp) rfl) rfl
                        have x := HWE.out W (BU.out.trans (hL.cls.mono BU.out.size))
                        refine wpOp_plain rfl rfl ?_
                        unfold Oper.wp
                        go_simp
                        refine x.mono ?_
                        rintro e w' ⟨rfl, hBn⟩
                        exact ⟨_, rfl, hBn, CL _ hBn, rfl⟩
                      | 5, _, ho =>
                        cases ho
                        have d4 : ac.tmps.getD 170 undef = .slice ak nk ck_ := hL.new 4 _ 170 rfl (he ⟨4, .data⟩ (by simp) rfl) rfl
                        have dq : ac.tmps[170]?.getD undef = .slice ak nk ck_ := by rw [← Array.getD_eq_getD_getElem?]; exact d4
                        refine wpOp_plain rfl rfl ?_
                        unfold Oper.wp
                        go_simp
                        (try simp only [dq])
                        (try go_simp)
                        exact ⟨_, rfl, (Below.refl _ _).alloc (Nat.le_refl _) _, CL _ ((Below.refl _ _).alloc (Nat.le_refl _) _), sl_week _ _ rfl _ _ _⟩
                      | 6, _, ho =>
                        cases ho
                        have d0 : ac.tmps.getD 166 undef = .int .i64 j := hL.new 0 _ 166 rfl (he ⟨0, .data⟩ (by simp) rfl) rfl
                        have d2 : ac.tmps.getD 168 undef = .slice aw nw cw := hL.new 2 _ 168 rfl (he ⟨2, .data⟩ (by simp) rfl) rfl
                        obtain ⟨x5, hx5⟩ : ∃ x, ac.tmps.getD 171 undef = x := ⟨_, rfl⟩
                        have d5 := hL.new 5 _ 171 rfl (he ⟨5, .data⟩ (by simp) rfl) rfl
                        rw [hx5] at d5
                        have x := HFO2.out x5 W (BU.out.trans (hL.cls.mono BU.out.size)) d5
                        refine wpOp_plain rfl rfl ?_
                        unfold Oper.wp
                        go_simp
                        refine x.mono ?_
                        rintro e w' ⟨rfl, hBn⟩
                        exact ⟨_, rfl, hBn, CL _ hBn, rfl⟩
                      | 7, _, ho =>
                        cases ho
                        have d6 : ac.tmps.getD 172 undef = .int .i64 fm := hL.new 6 _ 172 rfl (he ⟨6, .data⟩ (by simp) rfl) rfl
                        refine wpOp_plain rfl rfl ?_
                        unfold Oper.wp
                        go_simp
                        exact ⟨_, rfl, Below.refl _ _, CL _ (Below.refl _ _), rfl⟩
                      | n + 8, hA, _ => simp at hA
                    case rest22z =>
                      intro ac V22z hL
                      have e166 : ac.tmps.getD 166 undef = .int .i64 j := hL.new 0 _ 166 rfl rfl rfl
                      have e167 : ac.tmps.getD 167 undef = .pointer (some ⟨w.heap.size + 1, 0, none⟩) := hL.new 1 _ 167 rfl rfl rfl
                      have e168 : ac.tmps.getD 168 undef = .slice aw nw cw := hL.new 2 _ 168 rfl rfl rfl
                      have e169 : ac.tmps.getD 169 undef = .agg #[.slice aw nw cw, .slice as_ ns cs, .int .i64 (k : Int), .int .i64 L] := hL.new 3 _ 169 rfl rfl rfl
                      have e170 : ac.tmps.getD 170 undef = .slice ak nk ck_ := hL.new 4 _ 170 rfl rfl rfl
                      obtain ⟨y171, e171⟩ : ∃ x, ac.tmps.getD 171 undef = x := ⟨_, rfl⟩
                      have e172 : ac.tmps.getD 172 undef = .int .i64 fm := hL.new 6 _ 172 rfl rfl rfl
                      have e15 : ac.tmps.getD 15 undef = .int .i64 fm := hL.new 7 _ 15 rfl rfl rfl
                      have es := hL.sets [166, 167, 168, 169, 170, 171, 172, 15] (by decide +kernel)
                      rw [List.foldl_cons, List.foldl_cons, List.foldl_cons, List.foldl_cons, List.foldl_cons, List.foldl_cons, List.foldl_cons, List.foldl_cons, List.foldl_nil, e166, e167, e168, e169, e170, e171, e172, e15] at es
                      have BN : Below W10.heap.size W10 V22z := hL.cls
                      rw [es]
                      clear es hL e166 e167 e168 e169 e170 e171 e172 e15
                      refine wpAny_done (by decide +kernel) ?_ _
                      simp only [List.setIfInBounds_toArray, List.set_cons_zero, List.set_cons_succ]
                      replace bc0 := keepc BN bc0
                      replace bc1 := keepc BN bc1
                      replace bc2 := keepc BN bc2
                      replace bc3 := keepc BN bc3
                      replace bc4 := keepc BN bc4
                      replace bc5 := keepc BN bc5
                      replace wc0 := keepc BN wc0
                      replace wc1 := keepc BN wc1
                      replace wc2 := keepc BN wc2
                      replace wc3 := keepc BN wc3
                      replace BU : Aside (Below w.heap.size w V22z) := BU.out.trans (BN.mono BU.out.size)
                      replace HSA : Aside (Sl V22z 1 eI (.slice aa na ca) AL) := HSA.out.below BN
                      clear BN
                      by_cases hf : fm = 0
                      rotate_left
                      · obtain ⟨rfl, rfl, rfl, rfl, rfl⟩ := HTS.out.frm rfl hf
                        obtain rfl : na = 0 := HNA.out
                        go_wp2_with fail
                        refine (HKN.out _).mono ?_
                        rintro e W11 ⟨rfl, hb11⟩
                        replace bc0 := keepc hb11 bc0
                        replace bc1 := keepc hb11 bc1
                        replace bc2 := keepc hb11 bc2
                        replace bc3 := keepc hb11 bc3
                        replace bc4 := keepc hb11 bc4
                        replace bc5 := keepc hb11 bc5
                        replace wc0 := keepc hb11 wc0
                        replace wc1 := keepc hb11 wc1
                        replace wc2 := keepc hb11 wc2
                        replace wc3 := keepc hb11 wc3
                        replace BU : Aside (Below w.heap.size w W11) := BU.out.trans (hb11.mono BU.out.size)
                        clear hb11
                        go_wp2_with fail
                        go_ret
                        exact ⟨rfl, BU.out⟩
                      · subst hf
                        have HRP2 : Aside _ := HRP.out (by simp) (by simp)
                        have HRW2 : Aside _ := HRW.out (by simp) (by simp) k (by omega)
                        have HRM2 : Aside _ := HRM.out k (HAN.out (by simp) (by simp) k)
                        go_upto_region 28 with (fail)
                        refine region_laid (fl := 8) [true, true, true, true, true, true, true, true] 0 (fun (i : Nat) (x : Value) (ww : World) => (match i with | 0 => x = .pointer (some ⟨w.heap.size + 1, 0, none⟩) | 1 => x = .slice aw nw cw | 2 => x = .agg #[.slice aw nw cw, .slice as_ ns cs, .int .i64 (k : Int), .int .i64 L] | 3 => x = .slice ak nk ck_ | 4 => x = .pointer (some ⟨w.heap.size + 1, 2, none⟩) | 5 => x = .int .i64 (k : Int) | 6 => Sl ww 1 eI x (AF k) | 7 => Sl ww 1 eI x (AF k) | _ => True : Prop)) (fun w' => Below V22z.heap.size V22z w') (by kernel_rfl) rfl (by show layable _ 290 _ 8 = true; decide +kernel) rfl ((Below.refl _ _).drew) ?mono28z ?step28z ?rest28z
                        case mono28z =>
                          intro i x ww ww' hB h
                          match i, h with
                          | 0, h => exact h
                          | 1, h => exact h
                          | 2, h => exact h
                          | 3, h => exact h
                          | 4, h => exact h
                          | 5, h => exact h
                          | 6, h => exact Sl.below h hB
                          | 7, h => exact Sl.below h hB
                          | n + 8, h => exact h
                        case step28z =>
                          intro i o_ listed ac W hA ho hL he
                          have hk2 : ac.tmps.getD 2 undef = .pointer (some ⟨w.heap.size, 0, none⟩) := hL.kept 2 (by decide +kernel)
                          have hk3 : ac.tmps.getD 3 undef = .pointer (some ⟨w.heap.size + 1, 0, none⟩) := hL.kept 3 (by decide +kernel)
                          have CL : ∀ W', Below W.heap.size W W' → Below V22z.heap.size V22z W' := fun W' h => hL.cls.trans (h.mono hL.cls.size)
                          have k_wc0 := keepc hL.cls wc0
                          have k_wc1 := keepc hL.cls wc1
                          have k_wc2 := keepc hL.cls wc2
                          have k_wc3 := keepc hL.cls wc3
                          match i, hA, ho with
                          | 0, _, ho =>
                            cases ho
                            refine wpOp_plain rfl rfl ?_
                            unfold Oper.wp
                            go_simp
                            exact ⟨_, rfl, Below.refl _ _, CL _ (Below.refl _ _), rfl⟩
                          | 1, _, ho =>
                            cases ho
                            have d0 : ac.tmps.getD 215 undef = .pointer (some ⟨w.heap.size + 1, 0, none⟩) := hL.new 0 _ 215 rfl (he ⟨0, .data⟩ (by simp) rfl) rfl
                            refine wpOp_plain rfl rfl ?_
                            unfold Oper.wp
                            go_simp
                            exact ⟨_, rfl, Below.refl _ _, CL _ (Below.refl _ _), rfl⟩
                          | 2, _, ho =>
                            cases ho
                            refine wpOp_plain rfl rfl ?_
                            unfold Oper.wp
                            go_simp
                            exact ⟨_, rfl, Below.refl _ _, CL _ (Below.refl _ _), rfl⟩
                          | 3, _, ho =>
                            cases ho
                            have d2 : ac.tmps.getD 217 undef = .agg #[.slice aw nw cw, .slice as_ ns cs, .int .i64 (k : Int), .int .i64 L] := hL.new 2 _ 217 rfl (he ⟨2, .data⟩ (by simp) rfl) rfl
                            have x := HWE.out W (BU.out.trans (hL.cls.mono BU.out.size))
                            refine wpOp_plain rfl rfl ?_
                            unfold Oper.wp
                            go_simp
                            refine x.mono ?_
                            rintro e w' ⟨rfl, hBn⟩
                            exact ⟨_, rfl, hBn, CL _ hBn, rfl⟩
                          | 4, _, ho =>
                            cases ho
                            refine wpOp_plain rfl rfl ?_
                            unfold Oper.wp
                            go_simp
                            exact ⟨_, rfl, Below.refl _ _, CL _ (Below.refl _ _), rfl⟩
                          | 5, _, ho =>
                            cases ho
                            have d4 : ac.tmps.getD 219 undef = .pointer (some ⟨w.heap.size + 1, 2, none⟩) := hL.new 4 _ 219 rfl (he ⟨4, .data⟩ (by simp) rfl) rfl
                            refine wpOp_plain rfl rfl ?_
                            unfold Oper.wp
                            go_simp
                            exact ⟨_, rfl, Below.refl _ _, CL _ (Below.refl _ _), rfl⟩
                          | 6, _, ho =>
                            cases ho
                            have d1 : ac.tmps.getD 216 undef = .slice aw nw cw := hL.new 1 _ 216 rfl (he ⟨1, .data⟩ (by simp) rfl) rfl
                            have d3 : ac.tmps.getD 218 undef = .slice ak nk ck_ := hL.new 3 _ 218 rfl (he ⟨3, .data⟩ (by simp) rfl) rfl
                            have d5 : ac.tmps.getD 220 undef = .int .i64 (k : Int) := hL.new 5 _ 220 rfl (he ⟨5, .data⟩ (by simp) rfl) rfl
                            have x := HRW2.out W (BU.out.trans (hL.cls.mono BU.out.size))
                            refine wpOp_plain rfl rfl ?_
                            unfold Oper.wp
                            go_simp
                            refine x.mono ?_
                            rintro e w' ⟨v', rfl, hs, hBn⟩
                            exact ⟨_, rfl, hBn, CL _ hBn, hs⟩
                          | 7, _, ho =>
                            cases ho
                            obtain ⟨x6, hx6⟩ : ∃ x, ac.tmps.getD 221 undef = x := ⟨_, rfl⟩
                            have d6 := hL.new 6 _ 221 rfl (he ⟨6, .data⟩ (by simp) rfl) rfl
                            rw [hx6] at d6
                            refine wpOp_plain rfl rfl ?_
                            unfold Oper.wp
                            go_simp
                            exact ⟨_, rfl, Below.refl _ _, CL _ (Below.refl _ _), d6⟩
                          | n + 8, hA, _ => simp at hA
                        case rest28z =>
                          intro ac V28z hL
                          have e215 : ac.tmps.getD 215 undef = .pointer (some ⟨w.heap.size + 1, 0, none⟩) := hL.new 0 _ 215 rfl rfl rfl
                          have e216 : ac.tmps.getD 216 undef = .slice aw nw cw := hL.new 1 _ 216 rfl rfl rfl
                          have e217 : ac.tmps.getD 217 undef = .agg #[.slice aw nw cw, .slice as_ ns cs, .int .i64 (k : Int), .int .i64 L] := hL.new 2 _ 217 rfl rfl rfl
                          have e218 : ac.tmps.getD 218 undef = .slice ak nk ck_ := hL.new 3 _ 218 rfl rfl rfl
                          have e219 : ac.tmps.getD 219 undef = .pointer (some ⟨w.heap.size + 1, 2, none⟩) := hL.new 4 _ 219 rfl rfl rfl
                          have e220 : ac.tmps.getD 220 undef = .int .i64 (k : Int) := hL.new 5 _ 220 rfl rfl rfl
                          obtain ⟨y221, e221⟩ : ∃ x, ac.tmps.getD 221 undef = x := ⟨_, rfl⟩
                          have hn19 := hL.new 7 _ 19 rfl rfl rfl
                          obtain ⟨vri, e19⟩ : ∃ x, ac.tmps.getD 19 undef = x := ⟨_, rfl⟩
                          rw [e19] at hn19
                          have Hvri : Aside (Sl V28z 1 eI vri (AF k)) := hn19
                          clear hn19
                          have es := hL.sets [215, 216, 217, 218, 219, 220, 221, 19] (by decide +kernel)
                          rw [List.foldl_cons, List.foldl_cons, List.foldl_cons, List.foldl_cons, List.foldl_cons, List.foldl_cons, List.foldl_cons, List.foldl_cons, List.foldl_nil, e215, e216, e217, e218, e219, e220, e221, e19] at es
                          have BN : Below V22z.heap.size V22z V28z := hL.cls
                          rw [es]
                          clear es hL e215 e216 e217 e218 e219 e220 e221 e19
                          refine wpAny_done (by decide +kernel) ?_ _
                          simp only [List.setIfInBounds_toArray, List.set_cons_zero, List.set_cons_succ]
                          replace bc0 := keepc BN bc0
                          replace bc1 := keepc BN bc1
                          replace bc2 := keepc BN bc2
                          replace bc3 := keepc BN bc3
                          replace bc4 := keepc BN bc4
                          replace bc5 := keepc BN bc5
                          replace wc0 := keepc BN wc0
                          replace wc1 := keepc BN wc1
                          replace wc2 := keepc BN wc2
                          replace wc3 := keepc BN wc3
                          replace BU : Aside (Below w.heap.size w V28z) := BU.out.trans (BN.mono BU.out.size)
                          replace HSA : Aside (Sl V28z 1 eI (.slice aa na ca) AL) := HSA.out.below BN
                          clear BN
                          obtain ⟨mv, hmv⟩ : ∃ z, mx (AF k) = z := ⟨_, rfl⟩
                          rw [hmv] at HRM2 HTS
                          clear hmv
                          by_cases hm : mv ≤ 1000000000
                          · obtain ⟨rfl, rfl⟩ := HTS.out.les rfl rfl (by omega) (show (k : Int) < (nums.length : Int) by have := HNN.out; omega) hm
                            go_wp2_with fail
                            refine (HRM2.out _ _ Hvri.out).mono ?_
                            rintro e W11 ⟨rfl, hb11⟩
                            replace bc0 := keepc hb11 bc0
                            replace bc1 := keepc hb11 bc1
                            replace bc2 := keepc hb11 bc2
                            replace bc3 := keepc hb11 bc3
                            replace bc4 := keepc hb11 bc4
                            replace bc5 := keepc hb11 bc5
                            replace wc0 := keepc hb11 wc0
                            replace wc1 := keepc hb11 wc1
                            replace wc2 := keepc hb11 wc2
                            replace wc3 := keepc hb11 wc3
                            replace BU : Aside (Below w.heap.size w W11) := BU.out.trans (hb11.mono BU.out.size)
                            replace HSA : Aside (Sl W11 1 eI (.slice aa na ca) (AF k)) := HSA.out.below hb11
                            replace Hvri : Aside (Sl W11 1 eI vri (AF k)) := Hvri.out.below hb11
                            clear hb11
                            go_wp2_with fail
                            refine (HRM2.out _ _ Hvri.out).mono ?_
                            rintro e W12 ⟨rfl, hb12⟩
                            replace bc0 := keepc hb12 bc0
                            replace bc1 := keepc hb12 bc1
                            replace bc2 := keepc hb12 bc2
                            replace bc3 := keepc hb12 bc3
                            replace bc4 := keepc hb12 bc4
                            replace bc5 := keepc hb12 bc5
                            replace wc0 := keepc hb12 wc0
                            replace wc1 := keepc hb12 wc1
                            replace wc2 := keepc hb12 wc2
                            replace wc3 := keepc hb12 wc3
                            replace BU : Aside (Below w.heap.size w W12) := BU.out.trans (hb12.mono BU.out.size)
                            replace HSA : Aside (Sl W12 1 eI (.slice aa na ca) (AF k)) := HSA.out.below hb12
                            replace Hvri : Aside (Sl W12 1 eI vri (AF k)) := Hvri.out.below hb12
                            clear hb12
                            go_wp2_with fail
                            refine (HAL.out _ _ _ _ HSA.out Hvri.out).mono ?_
                            rintro e W13 ⟨rfl, hb13⟩
                            replace bc0 := keepc hb13 bc0
                            replace bc1 := keepc hb13 bc1
                            replace bc2 := keepc hb13 bc2
                            replace bc3 := keepc hb13 bc3
                            replace bc4 := keepc hb13 bc4
                            replace bc5 := keepc hb13 bc5
                            replace wc0 := keepc hb13 wc0
                            replace wc1 := keepc hb13 wc1
                            replace wc2 := keepc hb13 wc2
                            replace wc3 := keepc hb13 wc3
                            replace BU : Aside (Below w.heap.size w W13) := BU.out.trans (hb13.mono BU.out.size)
                            replace HSA : Aside (Sl W13 1 eI (.slice aa na ca) (AF k)) := HSA.out.below hb13
                            replace Hvri : Aside (Sl W13 1 eI vri (AF k)) := Hvri.out.below hb13
                            clear hb13
                            go_upto_region 31 with (fail)
                            refine region_laid (fl := 12) [true, true, true, true, true, true, true, true, true, true, true] 0 (fun (i : Nat) (x : Value) (ww : World) => (match i with | 0 => x = .pointer (some ⟨w.heap.size + 1, 0, none⟩) | 1 => x = .slice aw nw cw | 2 => x = .agg #[.slice aw nw cw, .slice as_ ns cs, .int .i64 (k : Int), .int .i64 L] | 3 => x = .slice ak nk ck_ | 4 => Sl ww 1 eR x [((.slice ak nk ck_ : Value), wkl)] | 5 => OneP pm bq x ww | 6 => OneP pm bq x ww | 7 => OneAt bq x ww | 8 => x = .int .i64 pm | 9 => OneAt bq x ww | 10 => x = .int .i64 pm | _ => True : Prop)) (fun w' => Below W13.heap.size W13 w') (by kernel_rfl) rfl (by show layable _ 290 _ 12 = true; decide +kernel) rfl ((Below.refl _ _).drew) ?mono31za ?step31za ?rest31za
                            case mono31za =>
                              intro i x ww ww' hB h
                              match i, h with
                              | 0, h => exact h
                              | 1, h => exact h
                              | 2, h => exact h
                              | 3, h => exact h
                              | 4, h => exact Sl.below h hB
                              | 5, h => exact OneP.below h hB
                              | 6, h => exact OneP.below h hB
                              | 7, h => exact OneAt.below h hB
                              | 8, h => exact h
                              | 9, h => exact OneAt.below h hB
                              | 10, h => exact h
                              | n + 11, h => exact h
                            case step31za =>
                              intro i o_ listed ac W hA ho hL he
                              have hk2 : ac.tmps.getD 2 undef = .pointer (some ⟨w.heap.size, 0, none⟩) := hL.kept 2 (by decide +kernel)
                              have hk3 : ac.tmps.getD 3 undef = .pointer (some ⟨w.heap.size + 1, 0, none⟩) := hL.kept 3 (by decide +kernel)
                              have CL : ∀ W', Below W.heap.size W W' → Below W13.heap.size W13 W' := fun W' h => hL.cls.trans (h.mono hL.cls.size)
                              have k_wc0 := keepc hL.cls wc0
                              have k_wc1 := keepc hL.cls wc1
                              have k_wc2 := keepc hL.cls wc2
                              have k_wc3 := keepc hL.cls wc3
                              match i, hA, ho with
                              | 0, _, ho =>
                                cases ho
                                refine wpOp_plain rfl rfl ?_
                                unfold Oper.wp
                                go_simp
                                exact ⟨_, rfl, Below.refl _ _, CL _ (Below.refl _ _), rfl⟩
                              | 1, _, ho =>
                                cases ho
                                have d0 : ac.tmps.getD 250 undef = .pointer (some ⟨w.heap.size + 1, 0, none⟩) := hL.new 0 _ 250 rfl (he ⟨0, .data⟩ (by simp) rfl) rfl
                                refine wpOp_plain rfl rfl ?_
                                unfold Oper.wp
                                go_simp
                                exact ⟨_, rfl, Below.refl _ _, CL _ (Below.refl _ _), rfl⟩
                              | 2, _, ho =>
                                cases ho
                                refine wpOp_plain rfl rfl ?_
                                unfold Oper.wp
                                go_simp
                                exact ⟨_, rfl, Below.refl _ _, CL _ (Below.refl _ _), rfl⟩
                              | 3, _, ho =>
                                cases ho
                                have d2 : ac.tmps.getD 252 undef = .agg #[.slice aw nw cw, .slice as_ ns cs, .int .i64 (k : Int), .int .i64 L] := hL.new 2 _ 252 rfl (he ⟨2, .data⟩ (by simp) rfl) rfl
                                have x := HWE.out W (BU.out.trans (hL.cls.mono BU.out.size))
                                refine wpOp_plain rfl rfl ?_
                                unfold Oper.wp
                                go_simp
                                refine x.mono ?_
                                rintro e w' ⟨rfl, hBn⟩
                                exact ⟨_, rfl, hBn, CL _ hBn, rfl⟩
                              | 4, _, ho =>
                                cases ho
                                have d3 : ac.tmps.getD 253 undef = .slice ak nk ck_ := hL.new 3 _ 253 rfl (he ⟨3, .data⟩ (by simp) rfl) rfl
                                have dq : ac.tmps[253]?.getD undef = .slice ak nk ck_ := by rw [← Array.getD_eq_getD_getElem?]; exact d3
                                refine wpOp_plain rfl rfl ?_
                                unfold Oper.wp
                                go_simp
                                (try simp only [dq])
                                (try go_simp)
                                exact ⟨_, rfl, (Below.refl _ _).alloc (Nat.le_refl _) _, CL _ ((Below.refl _ _).alloc (Nat.le_refl _) _), sl_week _ _ rfl _ _ _⟩
                              | 5, _, ho =>
                                cases ho
                                have d1 : ac.tmps.getD 251 undef = .slice aw nw cw := hL.new 1 _ 251 rfl (he ⟨1, .data⟩ (by simp) rfl) rfl
                                obtain ⟨x4, hx4⟩ : ∃ x, ac.tmps.getD 254 undef = x := ⟨_, rfl⟩
                                have d4 := hL.new 4 _ 254 rfl (he ⟨4, .data⟩ (by simp) rfl) rfl
                                rw [hx4] at d4
                                have x := HRP2.out x4 W (BU.out.trans (hL.cls.mono BU.out.size)) d4
                                refine wpOp_plain rfl rfl ?_
                                unfold Oper.wp
                                go_simp
                                refine x.mono ?_
                                rintro e w' ⟨v', rfl, hcp, hBn⟩
                                exact ⟨_, rfl, hBn, CL _ hBn, ⟨v', rfl, hcp⟩⟩
                              | 6, _, ho =>
                                cases ho
                                obtain ⟨x5, hx5⟩ : ∃ x, ac.tmps.getD 255 undef = x := ⟨_, rfl⟩
                                have d5 := hL.new 5 _ 255 rfl (he ⟨5, .data⟩ (by simp) rfl) rfl
                                rw [hx5] at d5
                                refine wpOp_plain rfl rfl ?_
                                unfold Oper.wp
                                go_simp
                                exact ⟨_, rfl, Below.refl _ _, CL _ (Below.refl _ _), d5⟩
                              | 7, _, ho =>
                                cases ho
                                obtain ⟨x6, hx6⟩ : ∃ x, ac.tmps.getD 249 undef = x := ⟨_, rfl⟩
                                have d6 := hL.new 6 _ 249 rfl (he ⟨6, .data⟩ (by simp) rfl) rfl
                                rw [hx6] at d6
                                obtain ⟨v', rfl, hcp⟩ := d6
                                refine wpOp_plain rfl rfl ?_
                                unfold Oper.wp
                                go_simp
                                exact ⟨_, rfl, Below.refl _ _, CL _ (Below.refl _ _), hcp⟩
                              | 8, _, ho =>
                                cases ho
                                obtain ⟨x6, hx6⟩ : ∃ x, ac.tmps.getD 249 undef = x := ⟨_, rfl⟩
                                have d6 := hL.new 6 _ 249 rfl (he ⟨6, .data⟩ (by simp) rfl) rfl
                                rw [hx6] at d6
                                obtain ⟨v', rfl, hcp⟩ := d6
                                refine wpOp_plain rfl rfl ?_
                                unfold Oper.wp
                                go_simp
                                exact ⟨_, rfl, Below.refl _ _, CL _ (Below.refl _ _), rfl⟩
                              | 9, _, ho =>
                                cases ho
                                obtain ⟨x7, hx7⟩ : ∃ x, ac.tmps.getD 256 undef = x := ⟨_, rfl⟩
                                have d7 := hL.new 7 _ 256 rfl (he ⟨7, .data⟩ (by simp) rfl) rfl
                                rw [hx7] at d7
                                refine wpOp_plain rfl rfl ?_
                                unfold Oper.wp
                                go_simp
                                exact ⟨_, rfl, Below.refl _ _, CL _ (Below.refl _ _), d7⟩
                              | 10, _, ho =>
                                cases ho
                                have d8 : ac.tmps.getD 257 undef = .int .i64 pm := hL.new 8 _ 257 rfl (he ⟨8, .data⟩ (by simp) rfl) rfl
                                refine wpOp_plain rfl rfl ?_
                                unfold Oper.wp
                                go_simp
                                exact ⟨_, rfl, Below.refl _ _, CL _ (Below.refl _ _), rfl⟩
                              | n + 11, hA, _ => simp at hA
                            case rest31za =>
                              intro ac V31za hL
                              have e250 : ac.tmps.getD 250 undef = .pointer (some ⟨w.heap.size + 1, 0, none⟩) := hL.new 0 _ 250 rfl rfl rfl
                              have e251 : ac.tmps.getD 251 undef = .slice aw nw cw := hL.new 1 _ 251 rfl rfl rfl
                              have e252 : ac.tmps.getD 252 undef = .agg #[.slice aw nw cw, .slice as_ ns cs, .int .i64 (k : Int), .int .i64 L] := hL.new 2 _ 252 rfl rfl rfl
                              have e253 : ac.tmps.getD 253 undef = .slice ak nk ck_ := hL.new 3 _ 253 rfl rfl rfl
                              obtain ⟨y254, e254⟩ : ∃ x, ac.tmps.getD 254 undef = x := ⟨_, rfl⟩
                              obtain ⟨y255, e255⟩ : ∃ x, ac.tmps.getD 255 undef = x := ⟨_, rfl⟩
                              obtain ⟨y249, e249⟩ : ∃ x, ac.tmps.getD 249 undef = x := ⟨_, rfl⟩
                              obtain ⟨y256, e256⟩ : ∃ x, ac.tmps.getD 256 undef = x := ⟨_, rfl⟩
                              have e257 : ac.tmps.getD 257 undef = .int .i64 pm := hL.new 8 _ 257 rfl rfl rfl
                              have hn20 := hL.new 9 _ 20 rfl rfl rfl
                              obtain ⟨vp, e20⟩ : ∃ x, ac.tmps.getD 20 undef = x := ⟨_, rfl⟩
                              rw [e20] at hn20
                              have Hvp : Aside (OneAt bq vp V31za) := hn20
                              clear hn20
                              have e21 : ac.tmps.getD 21 undef = .int .i64 pm := hL.new 10 _ 21 rfl rfl rfl
                              have es := hL.sets [250, 251, 252, 253, 254, 255, 249, 256, 257, 20, 21] (by decide +kernel)
                              rw [List.foldl_cons, List.foldl_cons, List.foldl_cons, List.foldl_cons, List.foldl_cons, List.foldl_cons, List.foldl_cons, List.foldl_cons, List.foldl_cons, List.foldl_cons, List.foldl_cons, List.foldl_nil, e250, e251, e252, e253, e254, e255, e249, e256, e257, e20, e21] at es
                              have BN : Below W13.heap.size W13 V31za := hL.cls
                              rw [es]
                              clear es hL e250 e251 e252 e253 e254 e255 e249 e256 e257 e20 e21
                              refine wpAny_done (by decide +kernel) ?_ _
                              simp only [List.setIfInBounds_toArray, List.set_cons_zero, List.set_cons_succ]
                              obtain ⟨bp, fp, cp, rfl, hcp⟩ := Hvp.out
                              clear Hvp
                              replace bc0 := keepc BN bc0
                              replace bc1 := keepc BN bc1
                              replace bc2 := keepc BN bc2
                              replace bc3 := keepc BN bc3
                              replace bc4 := keepc BN bc4
                              replace bc5 := keepc BN bc5
                              replace wc0 := keepc BN wc0
                              replace wc1 := keepc BN wc1
                              replace wc2 := keepc BN wc2
                              replace wc3 := keepc BN wc3
                              replace BU : Aside (Below w.heap.size w V31za) := BU.out.trans (BN.mono BU.out.size)
                              replace HSA : Aside (Sl V31za 1 eI (.slice aa na ca) (AF k)) := HSA.out.below BN
                              replace Hvri : Aside (Sl V31za 1 eI vri (AF k)) := Hvri.out.below BN
                              clear BN
                              by_cases hp : pm ≤ 1000000000
                              · obtain ⟨rfl, rfl, hbk⟩ := HTS.out.ple rfl rfl hp
                                obtain rfl : bk = bq := hbk.trans HBQ.out
                                go_wp2_with fail
                                refine (HKN.out _).mono ?_
                                rintro e W14 ⟨rfl, hb14⟩
                                replace bc0 := keepc hb14 bc0
                                replace bc1 := keepc hb14 bc1
                                replace bc2 := keepc hb14 bc2
                                replace bc3 := keepc hb14 bc3
                                replace bc4 := keepc hb14 bc4
                                replace bc5 := keepc hb14 bc5
                                replace wc0 := keepc hb14 wc0
                                replace wc1 := keepc hb14 wc1
                                replace wc2 := keepc hb14 wc2
                                replace wc3 := keepc hb14 wc3
                                replace hcp := keepc hb14 hcp
                                replace BU : Aside (Below w.heap.size w W14) := BU.out.trans (hb14.mono BU.out.size)
                                replace HSA : Aside (Sl W14 1 eI (.slice aa na ca) (AF k)) := HSA.out.below hb14
                                replace Hvri : Aside (Sl W14 1 eI vri (AF k)) := Hvri.out.below hb14
                                clear hb14
                                go_wp2_with fail
                                go_ret
                                exact ⟨rfl, BU.out⟩
                              · obtain ⟨rfl, rfl, rfl⟩ := HTS.out.pgt rfl rfl hp
                                have hp2 : 1000000000 < pm := by omega
                                go_wp2_with fail
                                refine (HKN.out _).mono ?_
                                rintro e W14 ⟨rfl, hb14⟩
                                replace bc0 := keepc hb14 bc0
                                replace bc1 := keepc hb14 bc1
                                replace bc2 := keepc hb14 bc2
                                replace bc3 := keepc hb14 bc3
                                replace bc4 := keepc hb14 bc4
                                replace bc5 := keepc hb14 bc5
                                replace wc0 := keepc hb14 wc0
                                replace wc1 := keepc hb14 wc1
                                replace wc2 := keepc hb14 wc2
                                replace wc3 := keepc hb14 wc3
                                replace hcp := keepc hb14 hcp
                                replace BU : Aside (Below w.heap.size w W14) := BU.out.trans (hb14.mono BU.out.size)
                                replace HSA : Aside (Sl W14 1 eI (.slice aa na ca) (AF k)) := HSA.out.below hb14
                                replace Hvri : Aside (Sl W14 1 eI vri (AF k)) := Hvri.out.below hb14
                                clear hb14
                                go_wp2_with fail
                                go_ret
                                exact ⟨rfl, BU.out⟩
                          · obtain ⟨rfl, rfl⟩ := HTS.out.gtr rfl rfl (by omega) (show (k : Int) < (nums.length : Int) by have := HNN.out; omega) hm
                            obtain rfl : na = 0 := HNA.out
                            have hm2 : 1000000000 < mv := by omega
                            go_wp2_with fail
                            refine (HRM2.out _ _ Hvri.out).mono ?_
                            rintro e W11 ⟨rfl, hb11⟩
                            replace bc0 := keepc hb11 bc0
                            replace bc1 := keepc hb11 bc1
                            replace bc2 := keepc hb11 bc2
                            replace bc3 := keepc hb11 bc3
                            replace bc4 := keepc hb11 bc4
                            replace bc5 := keepc hb11 bc5
                            replace wc0 := keepc hb11 wc0
                            replace wc1 := keepc hb11 wc1
                            replace wc2 := keepc hb11 wc2
                            replace wc3 := keepc hb11 wc3
                            replace BU : Aside (Below w.heap.size w W11) := BU.out.trans (hb11.mono BU.out.size)
                            replace Hvri : Aside (Sl W11 1 eI vri (AF k)) := Hvri.out.below hb11
                            clear hb11
                            go_wp2_with fail
                            refine (HRM2.out _ _ Hvri.out).mono ?_
                            rintro e W12 ⟨rfl, hb12⟩
                            replace bc0 := keepc hb12 bc0
                            replace bc1 := keepc hb12 bc1
                            replace bc2 := keepc hb12 bc2
                            replace bc3 := keepc hb12 bc3
                            replace bc4 := keepc hb12 bc4
                            replace bc5 := keepc hb12 bc5
                            replace wc0 := keepc hb12 wc0
                            replace wc1 := keepc hb12 wc1
                            replace wc2 := keepc hb12 wc2
                            replace wc3 := keepc hb12 wc3
                            replace BU : Aside (Below w.heap.size w W12) := BU.out.trans (hb12.mono BU.out.size)
                            replace Hvri : Aside (Sl W12 1 eI vri (AF k)) := Hvri.out.below hb12
                            clear hb12
                            go_upto_region 31 with (fail)
                            refine region_laid (fl := 12) [true, true, true, true, true, true, true, true, true, true, true] 0 (fun (i : Nat) (x : Value) (ww : World) => (match i with | 0 => x = .pointer (some ⟨w.heap.size + 1, 0, none⟩) | 1 => x = .slice aw nw cw | 2 => x = .agg #[.slice aw nw cw, .slice as_ ns cs, .int .i64 (k : Int), .int .i64 L] | 3 => x = .slice ak nk ck_ | 4 => Sl ww 1 eR x [((.slice ak nk ck_ : Value), wkl)] | 5 => OneP pm bq x ww | 6 => OneP pm bq x ww | 7 => OneAt bq x ww | 8 => x = .int .i64 pm | 9 => OneAt bq x ww | 10 => x = .int .i64 pm | _ => True : Prop)) (fun w' => Below W12.heap.size W12 w') (by kernel_rfl) rfl (by show layable _ 290 _ 12 = true; decide +kernel) rfl ((Below.refl _ _).drew) ?mono31zb ?step31zb ?rest31zb
                            case mono31zb =>
                              intro i x ww ww' hB h
                              match i, h with
                              | 0, h => exact h
                              | 1, h => exact h
                              | 2, h => exact h
                              | 3, h => exact h
                              | 4, h => exact Sl.below h hB
                              | 5, h => exact OneP.below h hB
                              | 6, h => exact OneP.below h hB
                              | 7, h => exact OneAt.below h hB
                              | 8, h => exact h
                              | 9, h => exact OneAt.below h hB
                              | 10, h => exact h
                              | n + 11, h => exact h
                            case step31zb =>
                              intro i o_ listed ac W hA ho hL he
                              have hk2 : ac.tmps.getD 2 undef = .pointer (some ⟨w.heap.size, 0, none⟩) := hL.kept 2 (by decide +kernel)
                              have hk3 : ac.tmps.getD 3 undef = .pointer (some ⟨w.heap.size + 1, 0, none⟩) := hL.kept 3 (by decide +kernel)
                              have CL : ∀ W', Below W.heap.size W W' → Below W12.heap.size W12 W' := fun W' h => hL.cls.trans (h.mono hL.cls.size)
                              have k_wc0 := keepc hL.cls wc0
                              have k_wc1 := keepc hL.cls wc1
                              have k_wc2 := keepc hL.cls wc2
                              have k_wc3 := keepc hL.cls wc3
                              match i, hA, ho with
                              | 0, _, ho =>
                                cases ho
                                refine wpOp_plain rfl rfl ?_
                                unfold Oper.wp
                                go_simp
                                exact ⟨_, rfl, Below.refl _ _, CL _ (Below.refl _ _), rfl⟩
                              | 1, _, ho =>
                                cases ho
                                have d0 : ac.tmps.getD 250 undef = .pointer (some ⟨w.heap.size + 1, 0, none⟩) := hL.new 0 _ 250 rfl (he ⟨0, .data⟩ (by simp) rfl) rfl
                                refine wpOp_plain rfl rfl ?_
                                unfold Oper.wp
                                go_simp
                                exact ⟨_, rfl, Below.refl _ _, CL _ (Below.refl _ _), rfl⟩
                              | 2, _, ho =>
                                cases ho
                                refine wpOp_plain rfl rfl ?_
                                unfold Oper.wp
                                go_simp
                                exact ⟨_, rfl, Below.refl _ _, CL _ (Below.refl _ _), rfl⟩
                              | 3, _, ho =>
                                cases ho
                                have d2 : ac.tmps.getD 252 undef = .agg #[.slice aw nw cw, .slice as_ ns cs, .int .i64 (k : Int), .int .i64 L] := hL.new 2 _ 252 rfl (he ⟨2, .data⟩ (by simp) rfl) rfl
                                have x := HWE.out W (BU.out.trans (hL.cls.mono BU.out.size))
                                refine wpOp_plain rfl rfl ?_
                                unfold Oper.wp
                                go_simp
                                refine x.mono ?_
                                rintro e w' ⟨rfl, hBn⟩
                                exact ⟨_, rfl, hBn, CL _ hBn, rfl⟩
                              | 4, _, ho =>
                                cases ho
                                have d3 : ac.tmps.getD 253 undef = .slice ak nk ck_ := hL.new 3 _ 253 rfl (he ⟨3, .data⟩ (by simp) rfl) rfl
                                have dq : ac.tmps[253]?.getD undef = .slice ak nk ck_ := by rw [← Array.getD_eq_getD_getElem?]; exact d3
                                refine wpOp_plain rfl rfl ?_
                                unfold Oper.wp
                                go_simp
                                (try simp only [dq])
                                (try go_simp)
                                exact ⟨_, rfl, (Below.refl _ _).alloc (Nat.le_refl _) _, CL _ ((Below.refl _ _).alloc (Nat.le_refl _) _), sl_week _ _ rfl _ _ _⟩
                              | 5, _, ho =>
                                cases ho
                                have d1 : ac.tmps.getD 251 undef = .slice aw nw cw := hL.new 1 _ 251 rfl (he ⟨1, .data⟩ (by simp) rfl) rfl
                                obtain ⟨x4, hx4⟩ : ∃ x, ac.tmps.getD 254 undef = x := ⟨_, rfl⟩
                                have d4 := hL.new 4 _ 254 rfl (he ⟨4, .data⟩ (by simp) rfl) rfl
                                rw [hx4] at d4
                                have x := HRP2.out x4 W (BU.out.trans (hL.cls.mono BU.out.size)) d4
                                refine wpOp_plain rfl rfl ?_
                                unfold Oper.wp
                                go_simp
                                refine x.mono ?_
                                rintro e w' ⟨v', rfl, hcp, hBn⟩
                                exact ⟨_, rfl, hBn, CL _ hBn, ⟨v', rfl, hcp⟩⟩
                              | 6, _, ho =>
                                cases ho
                                obtain ⟨x5, hx5⟩ : ∃ x, ac.tmps.getD 255 undef = x := ⟨_, rfl⟩
                                have d5 := hL.new 5 _ 255 rfl (he ⟨5, .data⟩ (by simp) rfl) rfl
                                rw [hx5] at d5
                                refine wpOp_plain rfl rfl ?_
                                unfold Oper.wp
                                go_simp
                                exact ⟨_, rfl, Below.refl _ _, CL _ (Below.refl _ _), d5⟩
                              | 7, _, ho =>
                                cases ho
                                obtain ⟨x6, hx6⟩ : ∃ x, ac.tmps.getD 249 undef = x := ⟨_, rfl⟩
                                have d6 := hL.new 6 _ 249 rfl (he ⟨6, .data⟩ (by simp) rfl) rfl
                                rw [hx6] at d6
                                obtain ⟨v', rfl, hcp⟩ := d6
                                refine wpOp_plain rfl rfl ?_
                                unfold Oper.wp
                                go_simp
                                exact ⟨_, rfl, Below.refl _ _, CL _ (Below.refl _ _), hcp⟩
                              | 8, _, ho =>
                                cases ho
                                obtain ⟨x6, hx6⟩ : ∃ x, ac.tmps.getD 249 undef = x := ⟨_, rfl⟩
                                have d6 := hL.new 6 _ 249 rfl (he ⟨6, .data⟩ (by simp) rfl) rfl
                                rw [hx6] at d6
                                obtain ⟨v', rfl, hcp⟩ := d6
                                refine wpOp_plain rfl rfl ?_
                                unfold Oper.wp
                                go_simp
                                exact ⟨_, rfl, Below.refl _ _, CL _ (Below.refl _ _), rfl⟩
                              | 9, _, ho =>
                                cases ho
                                obtain ⟨x7, hx7⟩ : ∃ x, ac.tmps.getD 256 undef = x := ⟨_, rfl⟩
                                have d7 := hL.new 7 _ 256 rfl (he ⟨7, .data⟩ (by simp) rfl) rfl
                                rw [hx7] at d7
                                refine wpOp_plain rfl rfl ?_
                                unfold Oper.wp
                                go_simp
                                exact ⟨_, rfl, Below.refl _ _, CL _ (Below.refl _ _), d7⟩
                              | 10, _, ho =>
                                cases ho
                                have d8 : ac.tmps.getD 257 undef = .int .i64 pm := hL.new 8 _ 257 rfl (he ⟨8, .data⟩ (by simp) rfl) rfl
                                refine wpOp_plain rfl rfl ?_
                                unfold Oper.wp
                                go_simp
                                exact ⟨_, rfl, Below.refl _ _, CL _ (Below.refl _ _), rfl⟩
                              | n + 11, hA, _ => simp at hA
                            case rest31zb =>
                              intro ac V31zb hL
                              have e250 : ac.tmps.getD 250 undef = .pointer (some ⟨w.heap.size + 1, 0, none⟩) := hL.new 0 _ 250 rfl rfl rfl
                              have e251 : ac.tmps.getD 251 undef = .slice aw nw cw := hL.new 1 _ 251 rfl rfl rfl
                              have e252 : ac.tmps.getD 252 undef = .agg #[.slice aw nw cw, .slice as_ ns cs, .int .i64 (k : Int), .int .i64 L] := hL.new 2 _ 252 rfl rfl rfl
                              have e253 : ac.tmps.getD 253 undef = .slice ak nk ck_ := hL.new 3 _ 253 rfl rfl rfl
                              obtain ⟨y254, e254⟩ : ∃ x, ac.tmps.getD 254 undef = x := ⟨_, rfl⟩
                              obtain ⟨y255, e255⟩ : ∃ x, ac.tmps.getD 255 undef = x := ⟨_, rfl⟩
                              obtain ⟨y249, e249⟩ : ∃ x, ac.tmps.getD 249 undef = x := ⟨_, rfl⟩
                              obtain ⟨y256, e256⟩ : ∃ x, ac.tmps.getD 256 undef = x := ⟨_, rfl⟩
                              have e257 : ac.tmps.getD 257 undef = .int .i64 pm := hL.new 8 _ 257 rfl rfl rfl
                              have hn20 := hL.new 9 _ 20 rfl rfl rfl
                              obtain ⟨vp, e20⟩ : ∃ x, ac.tmps.getD 20 undef = x := ⟨_, rfl⟩
                              rw [e20] at hn20
                              have Hvp : Aside (OneAt bq vp V31zb) := hn20
                              clear hn20
                              have e21 : ac.tmps.getD 21 undef = .int .i64 pm := hL.new 10 _ 21 rfl rfl rfl
                              have es := hL.sets [250, 251, 252, 253, 254, 255, 249, 256, 257, 20, 21] (by decide +kernel)
                              rw [List.foldl_cons, List.foldl_cons, List.foldl_cons, List.foldl_cons, List.foldl_cons, List.foldl_cons, List.foldl_cons, List.foldl_cons, List.foldl_cons, List.foldl_cons, List.foldl_cons, List.foldl_nil, e250, e251, e252, e253, e254, e255, e249, e256, e257, e20, e21] at es
                              have BN : Below W12.heap.size W12 V31zb := hL.cls
                              rw [es]
                              clear es hL e250 e251 e252 e253 e254 e255 e249 e256 e257 e20 e21
                              refine wpAny_done (by decide +kernel) ?_ _
                              simp only [List.setIfInBounds_toArray, List.set_cons_zero, List.set_cons_succ]
                              obtain ⟨bp, fp, cp, rfl, hcp⟩ := Hvp.out
                              clear Hvp
                              replace bc0 := keepc BN bc0
                              replace bc1 := keepc BN bc1
                              replace bc2 := keepc BN bc2
                              replace bc3 := keepc BN bc3
                              replace bc4 := keepc BN bc4
                              replace bc5 := keepc BN bc5
                              replace wc0 := keepc BN wc0
                              replace wc1 := keepc BN wc1
                              replace wc2 := keepc BN wc2
                              replace wc3 := keepc BN wc3
                              replace BU : Aside (Below w.heap.size w V31zb) := BU.out.trans (BN.mono BU.out.size)
                              replace Hvri : Aside (Sl V31zb 1 eI vri (AF k)) := Hvri.out.below BN
                              clear BN
                              by_cases hp : pm ≤ 1000000000
                              · obtain ⟨rfl, rfl, hbk⟩ := HTS.out.ple rfl rfl hp
                                obtain rfl : bk = bq := hbk.trans HBQ.out
                                go_wp2_with fail
                                refine (HKN.out _).mono ?_
                                rintro e W13 ⟨rfl, hb13⟩
                                replace bc0 := keepc hb13 bc0
                                replace bc1 := keepc hb13 bc1
                                replace bc2 := keepc hb13 bc2
                                replace bc3 := keepc hb13 bc3
                                replace bc4 := keepc hb13 bc4
                                replace bc5 := keepc hb13 bc5
                                replace wc0 := keepc hb13 wc0
                                replace wc1 := keepc hb13 wc1
                                replace wc2 := keepc hb13 wc2
                                replace wc3 := keepc hb13 wc3
                                replace hcp := keepc hb13 hcp
                                replace BU : Aside (Below w.heap.size w W13) := BU.out.trans (hb13.mono BU.out.size)
                                replace Hvri : Aside (Sl W13 1 eI vri (AF k)) := Hvri.out.below hb13
                                clear hb13
                                go_wp2_with fail
                                go_ret
                                exact ⟨rfl, BU.out⟩
                              · obtain ⟨rfl, rfl, rfl⟩ := HTS.out.pgt rfl rfl hp
                                have hp2 : 1000000000 < pm := by omega
                                go_wp2_with fail
                                refine (HKN.out _).mono ?_
                                rintro e W13 ⟨rfl, hb13⟩
                                replace bc0 := keepc hb13 bc0
                                replace bc1 := keepc hb13 bc1
                                replace bc2 := keepc hb13 bc2
                                replace bc3 := keepc hb13 bc3
                                replace bc4 := keepc hb13 bc4
                                replace bc5 := keepc hb13 bc5
                                replace wc0 := keepc hb13 wc0
                                replace wc1 := keepc hb13 wc1
                                replace wc2 := keepc hb13 wc2
                                replace wc3 := keepc hb13 wc3
                                replace hcp := keepc hb13 hcp
                                replace BU : Aside (Below w.heap.size w W13) := BU.out.trans (hb13.mono BU.out.size)
                                replace Hvri : Aside (Sl W13 1 eI vri (AF k)) := Hvri.out.below hb13
                                clear hb13
                                go_wp2_with fail
                                go_ret
                                exact ⟨rfl, BU.out⟩
end Go.Proofs.YtgceffpkhmjmkaaGreat

namespace Go.Proofs.YtgceffpkhmjmkaaGreat
open Go.ChangeShapes Go.WideShapes Go.ChangeAt Go.RowKit Go.Joins

section
variable {H : Type} {enc : TypeId × Value → H} {w : World} {base : Nat} {held : Bool} {fuel : Nat} {cs : List Value} {y : DataW H × List MemPlace}

/-- A slice of slices of ints, read. -/
theorem rows_open (h : DataW.trod enc Tryz.prog w base (fun _ => true) held fuel 54 cs = some y) : ∃ (v : Value) (ws : List (Value × List Int)), cs = [v] ∧ Sl w 1 eR v ws ∧ ∀ x ∈ ws, Sl w 1 eI x.1 x.2 := by
  rcases Go.Deep.open_int_rows Tryz.underlying54 Tryz.underlying24 Tryz.underlying3 (by kernel_rfl) (by kernel_rfl) h with ⟨hcs, _⟩ | ⟨a, len, cap, A, L, C, Z, hcs, _, hl, hm, _, hr⟩
  · exact ⟨_, [], hcs, ⟨none, 0, rfl, by simp, fun h => absurd rfl h⟩, by simp⟩
  · refine ⟨_, (List.range len).map fun r => (.slice (A r) (L r) (C r), (Z r).take (L r)), hcs, ⟨some a, cap, by simp, ?_, ?_⟩, ?_⟩
    · simp; unfold maxLen at hm; omega
    · intro hne
      have hp : 0 < len := by
        rcases Nat.eq_zero_or_pos len with h0 | h0
        · subst h0; simp at hne
        · exact h0
      obtain ⟨b, off, spot⟩ := a
      have hspot : spot = none := by simpa [Addr.add] using World.cell?_spot (hr 0 (by omega)).1
      subst hspot
      refine ⟨b, off, rfl, World.block_lt_of_cell? w _ (hr 0 (by omega)).1, ?_⟩
      intro j x hx i u hu
      rw [List.getElem?_map] at hx
      have hj : j < len := by
        rcases Nat.lt_or_ge j len with h | h
        · exact h
        · rw [List.getElem?_eq_none (by simpa using h)] at hx; cases hx
      rw [List.getElem?_range hj] at hx
      simp at hx; subst hx
      have g0 := (hr j (by omega)).1
      rw [add_plain] at g0
      match i, hu with
      | 0, hu => simp [eR] at hu; subst hu; rw [Nat.mul_one, Nat.add_zero]; exact g0
      | i + 1, hu => simp [eR] at hu
    · intro x hx
      obtain ⟨r, hr0, rfl⟩ := List.mem_map.1 hx
      have hrl := List.mem_range.1 hr0
      obtain ⟨_, hLC, hCm, hZ, _, hnone, hcell⟩ := hr r (by omega)
      have hle : ((Z r).take (L r)).length = L r := by rw [List.length_take]; omega
      refine ⟨A r, C r, by rw [hle], by rw [hle]; unfold maxLen at hCm; omega, ?_⟩
      intro hne
      have hLp : 0 < L r := by
        rcases Nat.eq_zero_or_pos (L r) with h0 | h0
        · simp only [] at hne; rw [h0] at hne; simp at hne
        · exact h0
      cases hA : A r with
      | none => have := hnone hA; omega
      | some a' =>
        obtain ⟨_, hc⟩ := hcell a' hA
        obtain ⟨b', off', spot'⟩ := a'
        have hspot : spot' = none := by simpa [Addr.add] using World.cell?_spot (hc 0 (by omega))
        subst hspot
        refine ⟨b', off', rfl, World.block_lt_of_cell? w _ (hc 0 (by omega)), ?_⟩
        intro j u hu i q hq
        match i, hq with
        | 0, hq =>
          simp at hq; subst hq
          have hj : j < L r := by have := (List.getElem?_eq_some_iff.1 hu).1; simp only [] at this; rwa [hle] at this
          have g0 := hc j (by omega)
          rw [add_plain] at g0
          rw [Nat.mul_one, Nat.add_zero, g0]
          simp only [] at hu
          rw [List.getElem?_take_of_lt hj] at hu
          rw [List.getD_eq_getElem?_getD, hu]; rfl
        | i + 1, hq => simp at hq

/-- Wear, weeks, a turn and a limit, read. -/
theorem wore_open (h : DataW.trod enc Tryz.prog w base (fun _ => true) held fuel 56 cs = some y) :
    ∃ (vs : Array Value) (worn : List Int) (ws : List (Value × List Int)) (K L : Int), cs = vs.toList ∧ WoreAt w (.agg vs) worn ws K L := by
  obtain ⟨xs, m, rfl, _, hl, hx, hf⟩ := DataW.trod_struct Tryz.underlying56 h
  obtain ⟨c0, c1, c2, c3, rfl⟩ := fs_list4 (hl.trans (by kernel_rfl))
  have e1 : Tryz.prog.cellsOf 3 = 1 := by kernel_rfl
  have e2 : Tryz.prog.cellsOf 24 = 1 := by kernel_rfl
  have e3 : Tryz.prog.cellsOf 54 = 1 := by kernel_rfl
  have f0 := hf 0 _ rfl
  have f1 := hf 1 _ rfl
  have f2 := hf 2 _ rfl
  have f3 := hf 3 _ rfl
  have hx4 : xs.length = 4 := hx
  obtain ⟨y0, g0⟩ := fs_get hx4 (show 0 < 4 by omega)
  obtain ⟨y1, g1⟩ := fs_get hx4 (show 1 < 4 by omega)
  obtain ⟨y2, g2⟩ := fs_get hx4 (show 2 < 4 by omega)
  obtain ⟨y3, g3⟩ := fs_get hx4 (show 3 < 4 by omega)
  rw [g0] at f0
  rw [g1] at f1
  rw [g2] at f2
  rw [g3] at f3
  simp [e1, e2, e3] at f0 f1 f2 f3
  obtain ⟨v0, worn, h0, s0, _⟩ := ints_open f0
  obtain ⟨v1, ws, h1, s1, s2⟩ := rows_open f1
  obtain ⟨K, h2, _⟩ := z_open f2
  obtain ⟨L, h3, _⟩ := z_open f3
  simp at h0 h1 h2 h3
  subst h0 h1 h2 h3
  exact ⟨#[c0, c1, .int .i64 K, .int .i64 L], worn, ws, K, L, rfl, c0, c1, rfl, s0, s1, s2⟩
end

set_option maxRecDepth 100000 in
theorem turns_lifted (os : Os) (started : os.Started) (H : Type) (enc : TypeId × Value → H) :
    ReturnsInHanded {} Tryz.checked os 5 .any (Rows.boardTurnsSpec.pre6 enc Tryz.prog Tryz.f5 Rows.boardTurnsRow.domain false) (Rows.boardTurnsSpec.post enc Tryz.prog Tryz.f5 false true false false) := by
  refine returnsInHanded_of_change (C := Tryz.checked) fr_own started (by kernel_rfl) Tryz.func5
    (ChangeSpec.witness6 (enc := enc) (C := Tryz.checked) false ⟨#[], #[.agg #[.int .i64 0, .int .i64 0, .slice none 0 0, .slice none 0 0, .slice none 0 0, .int .i64 0], .agg #[.slice none 0 0, .slice none 0 0, .int .i64 0, .int .i64 0]], []⟩ 8 (by kernel_rfl) (by kernel_rfl) (by kernel_rfl) (by kernel_rfl)) ?_
  intro W base args ds gs before hval0 hW hcnd _
  have hval : ∀ (j : Nat) t v, Tryz.f5.params[j]? = some t → args[j]? = some v → Value.okWide Tryz.prog W .any base t v := hval0
  have hW' := hW
  obtain ⟨p, q, hA0, hV, rfl, hfz, hnd⟩ := hW
  have hA : DataW.TrodAll enc Tryz.prog W 0 (fun _ => true) true Tryz.f5.params.toList args.toList ds p := hA0
  rw [Tryz.params5] at hA hval
  obtain ⟨v0, vs0, d0, ds0, p0, q0, hargs, rfl, rfl, h0, r0⟩ := trodAll_cons hA
  obtain ⟨v1, vs1, d1, ds1, p1, q1, rfl, rfl, rfl, h1, r1⟩ := trodAll_cons r0
  obtain ⟨rfl, rfl, rfl⟩ := trodAll_nil r1
  obtain rfl : args = #[v0, v1] := by cases args; simp_all
  obtain ⟨rfl, rfl⟩ := trodVars_none hV
  obtain ⟨cs0, rfl, _⟩ := okWide_struct Tryz.underlying26 (hval 0 26 v0 rfl rfl)
  obtain ⟨cs1, rfl, _⟩ := okWide_struct Tryz.underlying56 (hval 1 56 v1 rfl rfl)
  have k0 := h0
  have k1 := h1
  have lt0 : ∀ x ∈ p0, x.block < W.heap.size := by obtain ⟨m, hm⟩ := k0; exact DataW.trod_lt m _ _ _ hm
  have lt1 : ∀ x ∈ p1, x.block < W.heap.size := by obtain ⟨m, hm⟩ := k1; exact DataW.trod_lt m _ _ _ hm
  obtain ⟨b, hb⟩ : ∃ b, BrdAt W (.agg cs0) b := by
    obtain ⟨m, hm⟩ := h0
    obtain ⟨vs, b, e0, r⟩ := board_open hm
    exact ⟨b, by rw [show cs0 = vs from Array.toList_inj.1 (by simpa [Value.cells] using e0)]; exact r⟩
  obtain ⟨worn, ws, K, L, hwo⟩ : ∃ worn ws K L, WoreAt W (.agg cs1) worn ws K L := by
    obtain ⟨m, hm⟩ := h1
    obtain ⟨vs, worn, ws, K, L, e0, r⟩ := wore_open hm
    exact ⟨worn, ws, K, L, by rw [show cs1 = vs from Array.toList_inj.1 (by simpa [Value.cells] using e0)]; exact r⟩
  clear hA0 hval0
  refine (turns_law _ _ b worn ws K L W hb hwo).mono fun e W' hRet => ?_
  obtain ⟨he, bel⟩ := hRet
  subst he
  exact ⟨_, rfl, _, _, _, [], _, [], hW', trodAll_mk1 (shut_bool Tryz.underlying4 _), (trodAll_cons_mk (Below.trod fr_laid (by kernel_rfl) (of_decide_eq_true (by kernel_rfl)) k0 bel lt0) (trodAll_cons_mk (Below.trod fr_laid (by kernel_rfl) (of_decide_eq_true (by kernel_rfl)) k1 bel lt1) trodAll_mk0)), rfl, bel.frame _, fun h => by cases h⟩

theorem turns_over : Rows.boardTurnsRow.holds Tryz.pinned (OpenSpec.ofChange Rows.boardTurnsSpec) :=
  OpenClaim.holds_of_wide 5 Tryz.f5 rfl rfl rfl rfl rfl rfl rfl ⟨rfl, rfl, rfl, rfl, rfl⟩ rfl rfl rfl rfl rfl (by kernel_rfl) Tryz.func5 (by kernel_rfl)
    (of_decide_eq_true (by kernel_rfl)) (by unfold Func.isWrapper; rw [if_neg (of_decide_eq_false (by kernel_rfl))]; exact ⟨rfl, rfl⟩)
    (fun os started H enc _ => turns_lifted os started H enc)

theorem turns_proved : Rows.BoardTurnsSaid := turns_over
#print axioms turns_proved
end Go.Proofs.YtgceffpkhmjmkaaGreat
